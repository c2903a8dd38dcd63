/-
  Texts of this proof, one behind the other; each begins with its own remark.
-/
import Derived.Test.YtjeomlickkpebaaGreatDoorCards
import Derived.Test.YtjeomlickkpebaaGreatDoorTie
import Derived.Deep.DeepHandedRow
import Derived.Test.YtjeomlickkpebaaGreatDoorBe31
namespace Go.Proofs.YtjeomlickkpebaaGreatDoor
open Go.ChangeShapes Go.WideShapes Go.ChangeAt Go.RowKit
theorem Tryz.laidOut:laidOutB Tryz.prog=true:=by kernel_rfl
theorem Tryz.gSyn:Tryz.prog.globalNamed "strconv.ErrSyntax" =some 4:=by kernel_rfl
theorem Tryz.gSynType:(Tryz.prog.globals[4]?).map (·.type)=some 196:=by kernel_rfl
theorem QU {W:World} (h:laidMet Tryz.prog [("math/bits.deBruijn32tab",Rows.laid_math_bits_deBruijn32tab),("math/bits.deBruijn64tab",Rows.laid_math_bits_deBruijn64tab),("internal/strconv.uint64pow10",Rows.laid_internal_strconv_uint64pow10),("strconv.ErrRange",Rows.laid_strconv_ErrRange),("strconv.ErrSyntax",Rows.laid_strconv_ErrSyntax)] W):XG W:=by
 obtain⟨ps,⟨_,_,_,_,_,_,_,_,_,_,⟨_,_,_,_,_,_,_,_,_,_,⟨_,_,_,_,_,_,_,_,_,_,⟨_,_,_,_,_,_,_,_,_,_,⟨g5,t5,cs5,f5,p5,q5,hg5,ht5,hv5,hd5,_,_⟩,_⟩,_⟩,_⟩,_⟩,_⟩:=h;obtain rfl:=Option.some.inj (Tryz.gSyn.symm.trans hg5);obtain rfl:=Option.some.inj (Tryz.gSynType.symm.trans ht5);obtain⟨_,u,v,hcs,_⟩:=iface_of_trod Tryz.underlying196 hd5;have h0:=World.var?_cell Tryz.gSyn hv5 0;refine⟨.iface u v,?_,.inr ⟨u,v,rfl⟩⟩;rw[h0,←Array.getElem?_toList,hcs];rfl
def QV (cs:Array Value):Obj→Obj
 | .cells _ t frozen=> .cells cs t frozen
 | o=>o
def zHM (l:List Nat):Array Value:=(l.map fun (n:Nat)=>Value.int .u8 (n:Int)).toArray
def zHN (l:List Nat):Array Value:=(l.map fun (n:Nat)=>Value.int .u64 (n:Int)).toArray
def d32C:Array Value:=zHM [0,1,28,2,29,14,24,3,30,22,20,15,25,17,4,8,31,27,13,23,21,19,16,7,26,12,18,6,11,5,10,9]
def d64C:Array Value:=zHM [0,1,56,2,57,49,28,3,61,58,42,50,38,29,17,4,62,47,59,36,45,43,51,22,53,39,33,30,24,18,12,5,63,55,48,27,60,41,37,16,46,35,44,21,52,32,23,11,54,26,40,15,34,20,31,10,25,14,19,9,13,8,7,6]
def powC:Array Value:=zHN [1,10,100,1000,10000,100000,1000000,10000000,100000000,1000000000,10000000000,100000000000,1000000000000,10000000000000,100000000000000,1000000000000000,10000000000000000,100000000000000000,1000000000000000000,10000000000000000000]
noncomputable def low:Nat:=(World.holding Tryz.prog default ⟨#[],#[],[]⟩).heap.size
noncomputable def kt (os:Os):World:=
 let w0:=World.holding Tryz.prog os ⟨#[.cells #[.string ⟨#[118,97,108,117,101,32,111,117,116,32,111,102,32,114,97,110,103,101]⟩] 212,.cells #[.string ⟨#[105,110,118,97,108,105,100,32,115,121,110,116,97,120]⟩] 212],#[],[]⟩
 {w0 with heap:=((((w0.heap.modify 0 (QV powC)).modify 1 (QV d32C)).modify 2 (QV d64C)).modify 5 (QV #[.iface 210 (.pointer (some ⟨low,0,none⟩))])).modify 4 (QV #[.iface 210 (.pointer (some ⟨low+1,0,none⟩))])}
theorem own:ownKnob Tryz.prog.godebug=none:=by kernel_rfl
theorem Tryz.cellsStr:Tryz.prog.cellsOf 9=1:=by kernel_rfl
section
variable {H:Type} {enc:TypeId×Value→H} {w:World} {base b0:Nat} {spare:Nat→Bool} {held:Bool} {v:Value} {d:DataW H} {p:List MemPlace} {r:Reach}
set_option maxRecDepth 100000 in
theorem V6 (hv:Value.okWide Tryz.prog w r b0 22 v) (h:DataW.Trod enc Tryz.prog w base spare held 22 v d p):∃xs,qJ w v xs:=by
 obtain⟨a0,len,cap,rfl⟩:=okWide_slice Tryz.underlying22 hv;obtain⟨fuel,hf⟩:=h;rcases open_strings Tryz.underlying22 Tryz.underlying9 Tryz.cellsStr hf with ⟨hcs,_⟩ | ⟨a,len',cap',ss,hcs,_,hl,hm,hz,_,hcell,_⟩
 ·simp[Value.cells] at hcs;obtain⟨rfl,rfl,rfl⟩:=hcs;exact⟨[],qJ.nil w⟩
 ·simp[Value.cells] at hcs;obtain⟨rfl,rfl,rfl⟩:=hcs;have hlen:len≤ss.length:=by rw[hz];split<;>omega
  have hl2:(ss.take len).length=len:=by rw[List.length_take];omega
  refine⟨ss.take len,some a,cap,by rw[hl2],by omega,fun i x hx=> ?_⟩;rw[List.getElem?_take] at hx;split at hx
  ·rename_i hi;have hc:=hcell i (by omega);obtain⟨b,off,spot⟩:=a;have h0:=hcell 0 (by omega);have hspot:spot=none:=(by simpa [Addr.add] using World.cell?_spot h0);subst hspot;refine⟨b,off,rfl,?_⟩;rw[←Go.WideShapes.add_plain,hc,List.getD_eq_getElem?_getD,hx];rfl
  ·cases hx
end
end Go.Proofs.YtjeomlickkpebaaGreatDoor
namespace Go.Proofs.YtjeomlickkpebaaGreatDoor
def rsE (L:List ByteArray):List RuN:=(zI L).map zR
theorem zHO (L:List ByteArray):∀r,r∈rsE L→∀st,st∈r.sets→OkR st:=by
 intro r hr;unfold rsE at hr;obtain⟨n,hn,rfl⟩:=List.mem_map.1 hr;obtain⟨h1,h2⟩:=nodes_good L n hn;exact (rule_ok n h1 h2).sets
theorem zFR (L:List ByteArray):(rsE L).length=L.length:=by unfold rsE zI;rw[List.length_map,List.length_map]
end Go.Proofs.YtjeomlickkpebaaGreatDoor
