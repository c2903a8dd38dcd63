/-
  Texts of this proof, one behind the other; each begins with its own remark.
-/
import Derived.Test.YtjeomlickkpebaaGreatDoorCards
import Derived.Test.YtjeomlickkpebaaGreatDoorTie
import Derived.ProofKit
import Derived.OpenShut
import Derived.ChangeSame
import Derived.Carry
import Derived.LaidLaws
import Derived.Deep.DeepHandedRow
import Derived.Lib.LaidTab
import Derived.Lib.SmallJoins
import Derived.SliceStrings
import Derived.Deep.Slices
import Derived.Laws.StructEq
import Derived.ChangeKeysEq
import Derived.Test.YtjeomlickkpebaaGreatDoorBe24
import Derived.Test.YtjeomlickkpebaaGreatDoorBe32
import Derived.Test.YtjeomlickkpebaaGreatDoorBe2
import Derived.Test.YtjeomlickkpebaaGreatDoorBe17
namespace Go.Proofs.YtjeomlickkpebaaGreatDoor
open Go.ChangeShapes Go.WideShapes Go.ChangeAt Go.RowKit
theorem Tryz.laidOut:laidOutB Tryz.prog=true:=by kernel_rfl
theorem Tryz.gSyn:Tryz.prog.globalNamed "strconv.ErrSyntax" =some 4:=by kernel_rfl
theorem Tryz.gSynType:(Tryz.prog.globals[4]?).map (·.type)=some 196:=by kernel_rfl
theorem errW_of_laid {W:World} (h:laidMet Tryz.prog [("math/bits.deBruijn32tab",Rows.laid_math_bits_deBruijn32tab),("math/bits.deBruijn64tab",Rows.laid_math_bits_deBruijn64tab),("internal/strconv.uint64pow10",Rows.laid_internal_strconv_uint64pow10),("strconv.ErrRange",Rows.laid_strconv_ErrRange),("strconv.ErrSyntax",Rows.laid_strconv_ErrSyntax)] W):ErrW W:=by
 obtain⟨ps,⟨_,_,_,_,_,_,_,_,_,_,⟨_,_,_,_,_,_,_,_,_,_,⟨_,_,_,_,_,_,_,_,_,_,⟨_,_,_,_,_,_,_,_,_,_,⟨g5,t5,cs5,f5,p5,q5,hg5,ht5,hv5,hd5,_,_⟩,_⟩,_⟩,_⟩,_⟩,_⟩:=h;obtain rfl:=Option.some.inj (Tryz.gSyn.symm.trans hg5);obtain rfl:=Option.some.inj (Tryz.gSynType.symm.trans ht5);obtain⟨_,u,v,hcs,_⟩:=iface_of_trod Tryz.underlying196 hd5;have h0:=World.var?_cell Tryz.gSyn hv5 0;refine⟨.iface u v,?_,.inr ⟨u,v,rfl⟩⟩;rw[h0,←Array.getElem?_toList,hcs];rfl
def refill (cs:Array Value):Obj→Obj
 | .cells _ t frozen=> .cells cs t frozen
 | o=>o
def rowU8 (l:List Nat):Array Value:=(l.map fun (n:Nat)=>Value.int .u8 (n:Int)).toArray
def rowU64 (l:List Nat):Array Value:=(l.map fun (n:Nat)=>Value.int .u64 (n:Int)).toArray
def d32C:Array Value:=rowU8 [0,1,28,2,29,14,24,3,30,22,20,15,25,17,4,8,31,27,13,23,21,19,16,7,26,12,18,6,11,5,10,9]
def d64C:Array Value:=rowU8 [0,1,56,2,57,49,28,3,61,58,42,50,38,29,17,4,62,47,59,36,45,43,51,22,53,39,33,30,24,18,12,5,63,55,48,27,60,41,37,16,46,35,44,21,52,32,23,11,54,26,40,15,34,20,31,10,25,14,19,9,13,8,7,6]
def powC:Array Value:=rowU64 [1,10,100,1000,10000,100000,1000000,10000000,100000000,1000000000,10000000000,100000000000,1000000000000,10000000000000,100000000000000,1000000000000000,10000000000000000,100000000000000000,1000000000000000000,10000000000000000000]
noncomputable def low:Nat:=(World.holding Tryz.prog default ⟨#[],#[],[]⟩).heap.size
noncomputable def laidWorld (os:Os):World:=
 let w0:=World.holding Tryz.prog os ⟨#[.cells #[.string ⟨#[118,97,108,117,101,32,111,117,116,32,111,102,32,114,97,110,103,101]⟩] 212,.cells #[.string ⟨#[105,110,118,97,108,105,100,32,115,121,110,116,97,120]⟩] 212],#[],[]⟩
 {w0 with heap:=((((w0.heap.modify 0 (refill powC)).modify 1 (refill d32C)).modify 2 (refill d64C)).modify 5 (refill #[.iface 210 (.pointer (some ⟨low,0,none⟩))])).modify 4 (refill #[.iface 210 (.pointer (some ⟨low+1,0,none⟩))])}
theorem own:ownKnob Tryz.prog.godebug=none:=by kernel_rfl
end Go.Proofs.YtjeomlickkpebaaGreatDoor
namespace Go.Proofs.YtjeomlickkpebaaGreatDoor
open Go.ChangeShapes Go.WideShapes Go.ChangeAt Go.RowKit
theorem Tryz.cellsStr:Tryz.prog.cellsOf 9=1:=by kernel_rfl
section
variable {H:Type} {enc:TypeId×Value→H} {w:World} {base b0:Nat} {spare:Nat→Bool} {held:Bool} {v:Value} {d:DataW H} {p:List MemPlace} {r:Reach}
set_option maxRecDepth 100000 in
theorem open_strsW (hv:Value.okWide Tryz.prog w r b0 22 v) (h:DataW.Trod enc Tryz.prog w base spare held 22 v d p):∃xs,StrsW w v xs:=by
 obtain⟨a0,len,cap,rfl⟩:=okWide_slice Tryz.underlying22 hv;obtain⟨fuel,hf⟩:=h;rcases open_strings Tryz.underlying22 Tryz.underlying9 Tryz.cellsStr hf with ⟨hcs,_⟩ | ⟨a,len',cap',ss,hcs,_,hl,hm,hz,_,hcell,_⟩
 ·simp[Value.cells] at hcs;obtain⟨rfl,rfl,rfl⟩:=hcs;exact⟨[],StrsW.nil w⟩
 ·simp[Value.cells] at hcs;obtain⟨rfl,rfl,rfl⟩:=hcs;have hlen:len≤ss.length:=by rw[hz];split<;>omega
  have hl2:(ss.take len).length=len:=by rw[List.length_take];omega
  refine⟨ss.take len,some a,cap,by rw[hl2],by omega,fun i x hx=> ?_⟩;rw[List.getElem?_take] at hx;split at hx
  ·rename_i hi;have hc:=hcell i (by omega);obtain⟨b,off,spot⟩:=a;have h0:=hcell 0 (by omega);have hspot:spot=none:=(by simpa [Addr.add] using World.cell?_spot h0);subst hspot;refine⟨b,off,rfl,?_⟩;rw[←Go.WideShapes.add_plain,hc,List.getD_eq_getElem?_getD,hx];rfl
  ·cases hx
end
end Go.Proofs.YtjeomlickkpebaaGreatDoor
namespace Go.Proofs.YtjeomlickkpebaaGreatDoor
open Go.RowKit
theorem Tryz.cellsU64:Tryz.prog.cellsOf 50=1:=by kernel_rfl
theorem Tryz.infoU64:(Tryz.prog.info? 50).isSome=true:=by kernel_rfl
theorem part_u64 (xs:Array Value) (o:Nat) (x:Value) (w:World) (h:xs[o]? =some x):(part 50 xs o).run Tryz.prog w= .ok x w:=by
 unfold part;simp only[Sem.run_bind,Tryz.isAgg50,Result.andThen_ok];simp[h]
theorem eqI_step (d:Nat) (xs ys:Array Value) (i:Nat) (is:List Nat) (x y:Nat) (w:World) (hx:xs[i]? =some (.int .u64 (x:Int))) (hy:ys[i]? =some (.int .u64 (y:Int))):
  (Op.eqItems (d+1) 50 1 xs ys (i::is)).run Tryz.prog w=if x=y then (Op.eqItems (d+1) 50 1 xs ys is).run Tryz.prog w else .ok false w:=by
 simp only[Op.eqItems,Sem.run_bind,Nat.mul_one,part_u64 xs i _ w hx,part_u64 ys i _ w hy,Result.andThen_ok,run_equalIn_int w d 50 .u64 .u64 (x:Int) (y:Int) Tryz.underlying50];by_cases e:x=y
 ·simp[e]
 ·have e2:¬(x:Int)=(y:Int):=by omega
  simp[e,e2]
theorem set_eqIn (s t:St4) (w:World):(Op.equalIn 10000 51 (setV s) (setV t)).run Tryz.prog w= .ok (decide (s=t)) w:=by
 unfold setV;obtain⟨i,hi⟩:=Option.isSome_iff_exists.1 Tryz.infoU64;rw[show (10000:Nat)=9998+1+1 from rfl,run_equalIn_array w (9998+1) _ _ Tryz.underlying51 hi,Tryz.cellsU64,show List.range 4= [0,1,2,3] from rfl];rw[eqI_step 9998 _ _ 0 _ _ _ w rfl rfl,eqI_step 9998 _ _ 1 _ _ _ w rfl rfl,eqI_step 9998 _ _ 2 _ _ _ w rfl rfl,eqI_step 9998 _ _ 3 _ _ _ w rfl rfl];obtain⟨a,b,c,d⟩:=s;obtain⟨a',b',c',d'⟩:=t;by_cases h1:a=a'<;>by_cases h2:b=b'<;>by_cases h3:c=c'<;>by_cases h4:d=d'<;>simp[h1,h2,h3,h4,Op.eqItems]
theorem noR_none (b:Nat):hasR noR b=false:=by
 unfold hasR noR wdR;split
 ·exact Nat.zero_testBit _
 ·split
  ·exact Nat.zero_testBit _
  ·split<;>exact Nat.zero_testBit _
theorem set_has {s:St4} (hs:OkR s) (h:s≠noR):∃b,b<256∧hasR s b=true:=by
 refine Classical.byContradiction fun hno=>h (set_ext s noR hs (by unfold OkR noR;decide) fun b hb=> ?_);rw[noR_none];cases c:hasR s b with
 | false=>rfl
 | true=>exact absurd ⟨b,hb,c⟩ hno
end Go.Proofs.YtjeomlickkpebaaGreatDoor
