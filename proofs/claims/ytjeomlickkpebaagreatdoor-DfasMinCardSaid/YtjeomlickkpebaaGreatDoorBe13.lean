/-
  limnerref11: or, follow: what each returns, and leaves.
-/
import Derived.Deep.RegionLaw
import Derived.Test.YtjeomlickkpebaaGreatDoorBe12
set_option maxHeartbeats 8000000
namespace Go.Proofs.YtjeomlickkpebaaGreatDoor
open Go.RowKit
theorem Qt {l:List Bool} {a i:Nat} (b:Bool) (h:a<l.length):(l.set a b).getD i false=if i=a then b else l.getD i false:=by
 simp only[List.getD_eq_getElem?_getD,List.getElem?_set];by_cases e:a=i
 ·subst e;simp[h]
 ·rw[if_neg e,if_neg (fun x=>e x.symm)]
structure OrW (w0 w:World) (G m i:Nat) (h:Nat→Bool):Prop where
 m:∃M,yP w G M∧M.length=m∧∀j,j<i→M.getD j false=h j
 b:Below w0.heap.size w0 w
 g:G=w0.heap.size
theorem OrW.store {w0 w:World} {G m i:Nat} {h:Nat→Bool} (hW:OrW w0 w G m i h) (hi:i<m) (b:Bool) (hb:b=h i):(∃y,w.cell? ⟨G,i,none⟩=some y)∧w.frozen? ⟨G,i,none⟩=false∧G<w.heap.size∧OrW w0 (w.setCell ⟨G,i,none⟩ (.bool b)) G m (i+1) h:=by
 obtain⟨⟨M,h1,h2,h3⟩,h4,h5⟩:=hW;have hk:KeepW (fun k=>k≠G) w (w.setCell ⟨G,i,none⟩ (.bool b)):=zE G i none _ w fun h=>h rfl;refine⟨⟨_,h1.at_ (by omega) false⟩,h1.frozen i,h1.lt,⟨M.set i b,h1.set i b,by rw[List.length_set];exact h2,fun j hj=> ?_⟩,KeepW.below h4 hk h4.size fun k hk=>by omega,h5⟩;rw[Qt b (by omega)];split
 ·rename_i e;rw[e,hb]
 ·exact h3 j (by omega)
section
variable {own o1 o2:Nat→Prop} {w:World} {u v:Value} {m:Nat} {f g:Nat→Bool}
set_option maxRecDepth 4000 in
theorem zA5 (hu:BolO o1 w u m f) (hv:BolO o2 w v m g) (hm:m≤100000) (hown:∀k,w.heap.size≤k→¬own k):
  Calls Tryz.prog 60 #[u,v] w fun e w'=>∃G,e= .returned (.slice (some ⟨G,0,none⟩) m m)∧w.heap.size≤G∧BolO own w' (.slice (some ⟨G,0,none⟩) m m) m (orF f g)∧Below w.heap.size w w':=by
 have HU:=qh (fun (W:World) (hb:Below w.heap.size w W)=>And.intro (hu.under hb) (hv.under hb));obtain⟨hm0,gu,cu,rfl,hcu,_,_⟩:=hu;obtain⟨_,gv,cv,rfl,hcv,_,_⟩:=hv;have hmk:=yr m (by omega) w;have HO:=qh hown;have HM0:=qh hm0;have H0:Hid (OrW w (w.alloc (.cells (boolC (noneB m)).toArray 4)) w.heap.size m 0 (orF f g)):=qh ⟨⟨noneB m,blkM_new w m,zi m,fun j hj=>by omega⟩,zA _ _,rfl⟩;clear hown hm0;go_enter Tryz.func60,Tryz.ntmps60;go_wp2_with fail
 obtain⟨W1,hW1⟩:∃W1,w.alloc (.cells (boolC (noneB m)).toArray 4)=W1:=⟨_,rfl⟩;(try rw[hW1]);rw[hW1] at H0;obtain⟨G,hG⟩:∃G,w.heap.size=G:=⟨_,rfl⟩;(try rw[hG]);rw[hG] at H0;have HG:=qh hG;clear hW1 hmk hG;go_loopw [6] (fun s6 wr=>∃i:Nat,s6= .int .i64 (i:Int)∧i≤m∧Hid (OrW w wr G m i (orF f g))) (fun s6 _=>m-(intOf s6).toNat)
 case atStart=>exact⟨0,rfl,Nat.zero_le _,H0⟩
 case round=>
  obtain⟨i,rfl,hi,HQ⟩:=hrel;clear H0;have i0:(0:Int)≤(i:Int):=by omega
  have ib:(i:Int)≤100000:=by omega
  by_cases hlt:i<m
  ·have hli:(i:Int)<(m:Int):=(by omega);obtain⟨hu2,hv2⟩:=HU.out wr HQ.out.b;obtain⟨_,gu',cu',hue,_,_,huc⟩:=hu2;injection hue with e1 e2 e3
   injection e1 with e1
   injection e1 with e1
   subst e1;obtain⟨_,gv',cv',hve,_,_,hvc⟩:=hv2;injection hve with e4 e5 e6
   injection e4 with e4
   injection e4 with e4
   subst e4;have x0:=huc i hlt;have x1:=hvc i hlt;clear e2 e3 e5 e6 huc hvc;obtain⟨⟨y,y0⟩,y1,y2,hst⟩:=HQ.out.store hlt _ rfl;have HS:=qh hst;unfold orF at HS;obtain⟨a,ha⟩:∃a,f i=a:=⟨_,rfl⟩;obtain⟨b,hb⟩:∃b,g i=b:=⟨_,rfl⟩;rw[ha] at x0;rw[hb] at x1;rw[ha,hb] at HS;clear hst ha hb;cases a with
   | true=>
    rw[Bool.true_or] at HS;go_wp2_with fail
    go_roundw
    case rel=>exact⟨i+1,by go_num,hlt,HS⟩
    case measure=>simp[intOf]<;>omega
   | false=>
    rw[Bool.false_or] at HS;go_wp2_with fail
    go_roundw
    case rel=>exact⟨i+1,by go_num,hlt,HS⟩
    case measure=>simp[intOf]<;>omega
  ·have hli:¬(i:Int)<(m:Int):=(by omega);have him:i=m:=(by omega);have HF:=qh (show w.heap.size≤G∧BolO own wr (.slice (some ⟨G,0,none⟩) m m) m (orF f g)∧Below w.heap.size w wr from by
    obtain⟨⟨M,h1,h2,h3⟩,h4,_⟩:=HQ.out;refine⟨by rw[HG.out];exact Nat.le_refl _,BolO.of_blk h1 h2 HM0.out (HO.out G (by rw[HG.out];exact Nat.le_refl _)) fun j hj=>h3 j (by omega),h4⟩)
   clear HQ him;go_wp2_with fail
   go_ret
   exact⟨G,rfl,HF.out⟩
end
section
variable {X:Nat→Prop} {w:World} {R m:Nat} {sv bv lv lastv firstv:Value} {S:List St4} {E:Nat→Nat→Bool} {l f:Nat→Bool}
def yv (E:Nat→Nat→Bool) (l f:Nat→Bool) (p:Nat):Nat→Nat→Bool:=fun i=>if i<p then orF (E i) (fun j=>l i&&f j) else E i
theorem zDL (E:Nat→Nat→Bool) (l f:Nat→Bool) {p i:Nat} (h:i<p) (j:Nat):yv E l f p i j=zm E l f i j:=by
 unfold yv zm orF;rw[if_pos h]
theorem zA6 (E:Nat→Nat→Bool) (l f:Nat→Bool) (p:Nat) (h:l p=false) (i j:Nat):yv E l f p i j=yv E l f (p+1) i j:=by
 unfold yv;by_cases h1:i<p
 ·rw[if_pos h1,if_pos (by omega)]
 ·by_cases h2:i=p
  ·subst h2;rw[if_neg h1,if_pos (by omega)];simp[orF,h]
  ·rw[if_neg h1,if_neg (by omega)]
theorem zA7 (E:Nat→Nat→Bool) (l f:Nat→Bool) (p:Nat) (h:l p=true) (i j:Nat):(if i=p then orF (yv E l f p p) f else yv E l f p i) j=yv E l f (p+1) i j:=by
 unfold yv;by_cases h1:i<p
 ·rw[if_neg (by omega),if_pos h1,if_pos (by omega)]
 ·by_cases h2:i=p
  ·subst h2;rw[if_pos rfl,if_neg h1,if_pos (by omega)];simp[orF,h]
  ·rw[if_neg h2,if_neg h1,if_neg (by omega)]
set_option maxRecDepth 4000 in
theorem ya (h:qF X w R sv bv lv S m E) (hl:BolO (zq R sv bv) w lastv m l) (hf:BolO (zq R sv bv) w firstv m f) (hm:m≤100000) (hX:∀k,w.heap.size≤k→¬X k):
  Calls Tryz.prog 68 #[.pointer (some ⟨R,0,none⟩),lastv,firstv] w fun e w'=>e= .returned (.tuple #[])∧qF X w' R sv bv lv S m (zm E l f)∧Gone (zq R sv bv) (zq R sv bv) w w':=by
 have H0:Hid (qF X w R sv bv lv S m (yv E l f 0)∧Gone (zq R sv bv) (zq R sv bv) w w∧BolO (zq R sv bv) w lastv m l∧BolO (zq R sv bv) w firstv m f):=qh ⟨h.congr fun i _ j _=>by unfold yv;rw[if_neg (by omega)],Gone.refl _ _,hl,hf⟩;obtain⟨hm0,gl,cl,rfl,hcl,_,_⟩:=hl;have HXX:=qh hX;clear h hf hX;go_enter Tryz.func68,Tryz.ntmps68;go_wp2_with fail
 go_loopw [6] (fun s6 wr=>∃i:Nat,s6= .int .i64 (i:Int)∧i≤m∧Hid (qF X wr R sv bv lv S m (yv E l f i)∧Gone (zq R sv bv) (zq R sv bv) w wr∧BolO (zq R sv bv) wr (.slice (some ⟨gl,0,none⟩) m cl) m l∧BolO (zq R sv bv) wr firstv m f)) (fun s6 _=>m-(intOf s6).toNat)
 case atStart=>exact⟨0,rfl,Nat.zero_le _,H0⟩
 case round=>
  obtain⟨i,rfl,hi,HQ⟩:=hrel;clear H0;have i0:(0:Int)≤(i:Int):=by omega
  have ib:(i:Int)≤100000:=by omega
  by_cases hlt:i<m
  ·have hli:(i:Int)<(m:Int):=(by omega);obtain⟨_,gl',cl',hle,_,_,hlc⟩:=HQ.out.2.2.1;injection hle with e1 e2 e3
   injection e1 with e1
   injection e1 with e1
   subst e1;have x0:=hlc i hlt;clear e2 e3 hlc;rcases hli2:l i with _ | _
   ·rw[hli2] at x0;have HS:Hid (qF X wr R sv bv lv S m (yv E l f (i+1))):=qh (HQ.out.1.congr fun a _ j _=>zA6 E l f i hli2 a j);clear hli2;go_wp2_with fail
    go_roundw
    case rel=>exact⟨i+1,by go_num,hlt,qh ⟨HS.out,HQ.out.2⟩⟩
    case measure=>simp[intOf]<;>omega
   ·rw[hli2] at x0;obtain⟨gb,cb,u,hbv,hcb,b0,b1,b2,hu⟩:=HQ.out.1.row hlt;obtain⟨⟨_,r1,_⟩,_⟩:=HQ.out.1.b.cells;have hRl:=HQ.out.1.b.lt;subst hbv
    have hOR:∀W:World,Below wr.heap.size wr W→Calls Tryz.prog 60 #[u,firstv] W fun e w'=>∃G,e= .returned (.slice (some ⟨G,0,none⟩) m m)∧(∃y,w'.cell? ⟨gb,i,none⟩=some y)∧w'.frozen? ⟨gb,i,none⟩=false∧gb<w'.heap.size∧w'.cell? ⟨R,1,none⟩=some (.slice (some ⟨gb,0,none⟩) m cb) ∧
      qF X (w'.setCell ⟨gb,i,none⟩ (.slice (some ⟨G,0,none⟩) m m)) R sv (.slice (some ⟨gb,0,none⟩) m cb) lv S m (yv E l f (i+1))∧Gone (zq R sv (.slice (some ⟨gb,0,none⟩) m cb)) (zq R sv (.slice (some ⟨gb,0,none⟩) m cb)) wr (w'.setCell ⟨gb,i,none⟩ (.slice (some ⟨G,0,none⟩) m m)):=fun W hb=>by
     have hW:=HQ.out.1.under hb;refine (zA5 (own:=fun k=>zq R sv (.slice (some ⟨gb,0,none⟩) m cb) k∨X k) (hu.under hb) (HQ.out.2.2.2.under hb) hm fun k hk e=>e.elim (hW.ownlt k hk) (HXX.out k (Nat.le_trans (Nat.le_trans HQ.out.2.1.keep.size hb.size) hk))).mono ?_;rintro e w' ⟨G,rfl,_,hB,hb2⟩;have hW2:=hW.under hb2;obtain⟨gb',cb',u',hbv',_,c0,c1,c2,_⟩:=hW2.row hlt;injection hbv' with e1 e2 e3
     injection e1 with e1
     injection e1 with e1
     subst e1;obtain⟨h5,h6⟩:=hW2.setRow hlt rfl hB;exact⟨G,rfl,⟨u',c0⟩,c1,c2,hW2.b.cells.1.2.1,h5.congr fun a _ j _=>zA7 E l f i hli2 a j,(Gone.of_below (hb.trans (hb2.mono hb.size))).trans h6⟩
    have HOR:=qh hOR;clear hOR hu hli2;go_wp2_with fail
    go_region_law (go_simp;go_at_call 60;go_must (go_fit (HOR.out _ ?_));(exact⟨rfl,rfl,rfl,Nat.le_refl _,fun _ _=>rfl⟩);rintro e w5 ⟨G,rfl,⟨y,y0⟩,y1,y2,y3,hR5,hG5⟩;have HR5:=qh (And.intro hR5 hG5);clear hR5 hG5)
    all_goals
     have H6:=qh (show qF _ _ _ _ _ _ _ _ _∧Gone _ _ _ _∧BolO _ _ _ _ _∧BolO _ _ _ _ _ from⟨HR5.out.1,HQ.out.2.1.trans HR5.out.2,HQ.out.2.2.1.go HR5.out.2,HQ.out.2.2.2.go HR5.out.2⟩);clear HR5 HOR y0 y1 y2 y3 HQ b0 b1 b2 r1 hRl x0;go_wp2_with fail
     exact⟨⟨i+1,by go_num,hlt,H6⟩,by simp[intOf]<;>omega⟩
  ·have hli:¬(i:Int)<(m:Int):=(by omega);have HF:Hid (qF X wr R sv bv lv S m (zm E l f)∧Gone (zq R sv bv) (zq R sv bv) w wr):=qh ⟨HQ.out.1.congr fun a ha j _=>zDL E l f (by omega) j,HQ.out.2.1⟩;clear HQ;go_wp2_with fail
   go_end0
   exact⟨rfl,HF.out⟩
end
end Go.Proofs.YtjeomlickkpebaaGreatDoor
