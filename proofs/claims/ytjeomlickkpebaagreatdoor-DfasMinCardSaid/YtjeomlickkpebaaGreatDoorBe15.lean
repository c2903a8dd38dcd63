/-
  Texts of this proof, one behind the other; each begins with its own remark.
-/
import Derived.Test.YtjeomlickkpebaaGreatDoorBe14
import Derived.Test.YtjeomlickkpebaaGreatDoorBe13
set_option maxHeartbeats 4000000
namespace Go.Proofs.YtjeomlickkpebaaGreatDoor
open Go.RowKit
structure BuF (P:Nat→Prop) (w0 w:World) (B b:Nat) (n:Nd) (u:Value) (q:List Sta) (first:List Int) (fv:Value):Prop where
 e:xw (fun k=>P k∨k=b) w B q first fv
 x:boxN 116 w b n.kind n.set u
 ks:zW P w n.kids u
 kp:KeepW P w0 w
 at_:b=w0.heap.size
 new:∀k,w0.heap.size≤k→¬P k
section
variable {P:Nat→Prop} {w0 w w':World} {B b:Nat} {n:Nd} {u:Value} {q q':List Sta} {first:List Int} {fv:Value}
theorem BuF.start (h:xw P w0 B q first fv) (hP:∀k,w0.heap.size≤k→¬P k) (hu:zW P w0 n.kids u):
  BuF P w0 (w0.alloc (.cells #[.int .i64 n.kind,.int .u64 (n.set.1:Int),.int .u64 (n.set.2.1:Int),.int .u64 (n.set.2.2.1:Int),.int .u64 (n.set.2.2.2:Int),u] 116)) B w0.heap.size n u q first fv:=
 have hb:=zA w0 (.cells #[.int .i64 n.kind,.int .u64 (n.set.1:Int),.int .u64 (n.set.2.1:Int),.int .u64 (n.set.2.2.1:Int),.int .u64 (n.set.2.2.2:Int),u] 116)
 ⟨h.also hb,boxN.new _ _ _ _ _,hu.under hb,keep_below _ hb,rfl,hP⟩
theorem BuF.newP (h:BuF P w0 w B b n u q first fv):∀k,w.heap.size≤k→¬(P k∨k=b):=fun k hk hp=>by
 have h1:=h.kp.size;have h2:=h.x.lt;rcases hp with hp | hp
 ·exact h.new k (by omega) hp
 ·omega
theorem BuF.go (h:BuF P w0 w B b n u q first fv) (he:xw (fun k=>P k∨k=b) w' B q' first fv) (hk:KeepW (fun k=>P k∨k=b) w w'):BuF P w0 w' B b n u q' first fv:=
 ⟨he,h.x.keep hk (.inr rfl),h.ks.keep hk fun _ _ hp=> .inl hp,h.kp.trans (hk.mono fun _ _ hp=> .inl hp),h.at_,h.new⟩
theorem BuF.under (h:BuF P w0 w B b n u q first fv) (hb:Below w.heap.size w w'):BuF P w0 w' B b n u q first fv:=h.go (h.e.under hb) (keep_below _ hb)
theorem BuF.fin (h:BuF P w0 w B b n u q first fv):xw P w B q first fv∧KeepW P w0 w:=⟨h.e.mono fun _ hp=> .inl hp,h.kp⟩
theorem BuF.kid {i:Nat} {m:Nd} (h:BuF P w0 w B b n u q first fv) (hi:n.kids[i]? =some m):
  ∃g o cap ku kl kc,u= .slice (some ⟨g,o,none⟩) n.kids.length cap∧n.kids.length≤cap∧ku= .slice kl m.kids.length kc∧zV (fun k=>P k∨k=b) w m (zG m ku)∧OkR m.set∧zW P w m.kids ku∧∀(j:Nat) x,j<6→(nodeC m ku)[j]? =some x→w.cell? ⟨g,o+(i*6+j),none⟩=some x:=by
 obtain⟨g,o,cap,ku,hv,hn,hs,hk,hc⟩:=h.ks.at_ hi;obtain⟨kl,kc,hku,_⟩:=hk.form;exact⟨g,o,cap,ku,kl,kc,hv,hn,hku,⟨hs,ku,rfl,hk.mono fun k _ hp=> .inl hp⟩,hs,hk,hc⟩
def jd (n:Nd):Prop:=∀(P:Nat→Prop) (w:World) (B:Nat) (q:List Sta) (first:List Int) (fv:Value) (next:Nat) (x:Value),xw P w B q first fv→(∀k,w.heap.size≤k→¬P k)→zV P w n x→q.length+2*wtR n≤100000 →
 Calls Tryz.prog 53 #[.pointer (some ⟨B,0,none⟩),x,.int .i64 (next:Int)] w fun e w'=>e= .returned (.int .i64 ((buildT n q next).2:Int))∧xw P w' B (buildT n q next).1 first fv∧KeepW P w w'
theorem xw.also6 {i v:Nat} (h:xw P w B q first fv) (hi:i<q.length):
  ∃g cap,w.cell? ⟨B,0,none⟩=some (.slice (some ⟨g,0,none⟩) q.length cap)∧q.length≤cap∧(∃y,w.cell? ⟨g,i*8+6,none⟩=some y)∧w.frozen? ⟨g,i*8+6,none⟩=false∧g<w.heap.size∧xw P (w.setCell ⟨g,i*8+6,none⟩ (.int .i64 (v:Int))) B (xi q i v) first fv∧KeepW P w (w.setCell ⟨g,i*8+6,none⟩ (.int .i64 (v:Int))):=by
 obtain⟨sv,h⟩:=h;have hs:=h.s;obtain⟨h1,⟨rfl,h0⟩ | ⟨g,cap,cur,rfl,h3,h4,hn,hm,hcs,hx⟩⟩:=hs
 ·omega
 have hset:=h.s.stored (i*8+6) (.int .i64 (v:Int));have hgs:=h.ns g rfl;have hk:KeepW (fun k=>k≠g) w (w.setCell ⟨g,i*8+6,none⟩ (.int .i64 (v:Int))):=zE g _ none _ w fun h=>h rfl;refine⟨g,cap,h.b.cells.1.1,hn,⟨(qT q)[i*8+6]'(by rw[Qq];omega),?_⟩,h.s.frozenAt _,(World.ownsRow.lt h.s g rfl).2,⟨_,⟨h.b.keep hk fun e=>hgs.2.1 e.symm,?_,h.f.keep hk fun k e e2=>hgs.2.2 (by rw[←e2];exact e),h.nb,h.ns,h.nf⟩⟩,hk.mono fun k _ hp e=>hgs.1 (by rw[←e];exact hp)⟩
 ·rw[h.s.cellAt _ (by omega)];exact List.getElem?_eq_getElem _
 ·unfold zA3;rw[zg,Zu q i v hi];exact hset.1
theorem Qh (hB:jd n) (h:xw P w B q first fv) (hP:∀k,w.heap.size≤k→¬P k) (next:Nat) (x:Value) (hx:zV P w n x) (hlen:q.length+2*wtR n+1≤100000):
  Calls Tryz.prog 71 #[.pointer (some ⟨B,0,none⟩),x,.int .i64 (next:Int)] w fun e w'=>e= .returned (.tuple #[.int .i64 (q.length:Int),.int .i64 ((buildT n (q++ [zJ next next]) q.length).2:Int)])∧xw P w' B (xi (buildT n (q++ [zJ next next]) q.length).1 q.length (buildT n (q++ [zJ next next]) q.length).2) first fv∧KeepW P w w':=by
 obtain⟨hs,u,rfl,hu⟩:=hx;obtain⟨uo,uc,rfl,hul,hub⟩:=hu.form;have hlq:(q++ [zJ next next]).length=q.length+1:=by rw[List.length_append];rfl
 have h0:=BuF.start h hP hu;have H1:=qh (ZQ h0.e h0.newP next next (by omega));have hge:=(xZ n (q++ [zJ next next]) q.length);have HS:=qh (fun (W W':World) (e:xw (fun k=>P k∨k=w.heap.size) W B (q++ [zJ next next]) first fv) (k:KeepW (fun k=>P k∨k=w.heap.size) (w.alloc (.cells #[.int .i64 n.kind,.int .u64 (n.set.1:Int),.int .u64 (n.set.2.1:Int),.int .u64 (n.set.2.2.1:Int),.int .u64 (n.set.2.2.2:Int),.slice uo n.kids.length uc] 116)) W)=>h0.go e k);have H2:=qh (fun (W:World) (hh:BuF P w W B w.heap.size n (.slice uo n.kids.length uc) (q++ [zJ next next]) first fv)=>
  hB (fun k=>P k∨k=w.heap.size) W B (q++ [zJ next next]) first fv q.length (zG n (.slice uo n.kids.length uc)) hh.e hh.newP ⟨hs,_,rfl,hh.ks.mono fun k _ hp=> .inl hp⟩ (by omega))
 have hlt:q.length<(buildT n (q++ [zJ next next]) q.length).1.length:=by
  have:(q++ [zJ next next]).length≤(buildT n (q++ [zJ next next]) q.length).1.length:=yh n _ _;omega
 unfold zG at H2 ⊢;obtain⟨⟨q2,a⟩,hq2⟩:∃r,buildT n (q++ [zJ next next]) q.length=r:=⟨_,rfl⟩;rw[hq2] at H2 hlt ⊢;simp only at H2 hlt ⊢;obtain⟨m,hm⟩:∃m,q.length=m:=⟨_,rfl⟩;have hml:(m:Int)≤100000:=by omega
 have hm0:(0:Int)≤(m:Int):=by omega
 have HL:=qh hlt;rw[hm] at H1 H2 HL hlt ⊢;have hlti:(m:Int)<(q2.length:Int):=by omega
 have hX:=(boxN.new 116 w n.kind n.set (.slice uo n.kids.length uc));have HX:=qh (fun (W:World) (hh:BuF P w W B w.heap.size n (.slice uo n.kids.length uc) (q++ [zJ next next]) first fv)=>hh.x.cells);have HXL:=qh (fun (W:World) (hh:BuF P w W B w.heap.size n (.slice uo n.kids.length uc) (q++ [zJ next next]) first fv)=>hh.x.lt);clear h hP hB hu h0 hge hq2 hm hlq hX hs hlt;go_enter Tryz.func71,Tryz.ntmps71;go_wp2_with fail
 go_fit H1.out;rintro e w1 ⟨rfl,he1,hk1⟩;have H3:=qh (HS.out w1 w1 he1 hk1);clear he1 hk1 HS H1;obtain⟨⟨c0,c1,c2,c3,c4,c5⟩,_⟩:=HX.out _ H3.out;have hxl:=HXL.out _ H3.out;go_wp2_with fail
 go_fit (H2.out _ H3.out);rintro e w2 ⟨rfl,he2,hk2⟩;have H4:=qh (H3.out.go he2 hk2);clear he2 hk2 c0 c1 c2 c3 c4 c5 hxl;obtain⟨g,cap,d0,hcap,⟨y,d1⟩,d2,d3,he5,hk5⟩:=H4.out.e.also6 (v:=a) HL.out;have H5:=qh (H4.out.go he5 hk5).fin;have hqc:(q2.length:Int)≤(cap:Int):=by omega
 clear he5 hk5;go_wp2_with fail
 go_ret2
 exact⟨rfl,H5.out⟩
end
section
variable {o1 o2:Nat→Prop} {w:World} {u v:Value} {m:Nat} {f g:Nat→Bool}
set_option maxRecDepth 4000 in
theorem zDC (hu:BolO o1 w u m f) (hv:BolO o2 w v m g) (hm:m≤100000):
  Calls Tryz.prog 60 #[u,v] w fun e w'=>∃G,e= .returned (.slice (some ⟨G,0,none⟩) m m)∧w.heap.size≤G∧(∃M,yP w' G M∧M.length=m∧∀j,j<m→M.getD j false=orF f g j)∧Below w.heap.size w w':=by
 have HU:=qh (fun (W:World) (hb:Below w.heap.size w W)=>And.intro (hu.under hb) (hv.under hb));obtain⟨hm0,gu,cu,rfl,hcu,_,_⟩:=hu;obtain⟨_,gv,cv,rfl,hcv,_,_⟩:=hv;have hmk:=yr m (by omega) w;have H0:Hid (OrW w (w.alloc (.cells (boolC (noneB m)).toArray 4)) w.heap.size m 0 (orF f g)):=qh ⟨⟨noneB m,blkM_new w m,zi m,fun j hj=>by omega⟩,zA _ _,rfl⟩;clear hm0;go_enter Tryz.func60,Tryz.ntmps60;go_wp2_with fail
 obtain⟨W1,hW1⟩:∃W1,w.alloc (.cells (boolC (noneB m)).toArray 4)=W1:=⟨_,rfl⟩;(try rw[hW1]);rw[hW1] at H0;obtain⟨G,hG⟩:∃G,w.heap.size=G:=⟨_,rfl⟩;(try rw[hG]);rw[hG] at H0;have HG:=qh hG;clear hW1 hmk hG;go_loopw [6] (fun s6 wr=>∃i:Nat,s6= .int .i64 (i:Int)∧i≤m∧Hid (OrW w wr G m i (orF f g))) (fun s6 _=>m-(intOf s6).toNat)
 case atStart=>exact⟨0,rfl,Nat.zero_le _,H0⟩
 case round=>
  obtain⟨i,rfl,hi,HQ⟩:=hrel;clear H0;have i0:(0:Int)≤(i:Int):=by omega
  have ib:(i:Int)≤100000:=by omega
  by_cases hlt:i<m
  ·have hli:(i:Int)<(m:Int):=(by omega);obtain⟨hu2,hv2⟩:=HU.out wr HQ.out.b;obtain⟨_,gu',cu',hue,_,_,huc⟩:=hu2;injection hue with e1 e2 e3
   injection e1 with e1
   injection e1 with e1
   subst e1;obtain⟨_,gv',cv',hve,_,_,hvc⟩:=hv2;injection hve with e4 e5 e6
   injection e4 with e4
   injection e4 with e4
   subst e4;have x0:=huc i hlt;have x1:=hvc i hlt;clear e2 e3 e5 e6 huc hvc;obtain⟨⟨y,y0⟩,y1,y2,hst⟩:=HQ.out.store hlt _ rfl;have HS:=qh hst;unfold orF at HS;obtain⟨a,ha⟩:∃a,f i=a:=⟨_,rfl⟩;obtain⟨b,hb⟩:∃b,g i=b:=⟨_,rfl⟩;rw[ha] at x0;rw[hb] at x1;rw[ha,hb] at HS;clear hst ha hb;cases a with
   | true=>
    rw[Bool.true_or] at HS;go_wp2_with fail
    go_roundw
    case rel=>exact⟨i+1,by go_num,hlt,HS⟩
    case measure=>simp[intOf]<;>omega
   | false=>
    rw[Bool.false_or] at HS;go_wp2_with fail
    go_roundw
    case rel=>exact⟨i+1,by go_num,hlt,HS⟩
    case measure=>simp[intOf]<;>omega
  ·have hli:¬(i:Int)<(m:Int):=(by omega);have him:i=m:=(by omega);have HF:=qh (show w.heap.size≤G∧(∃M,yP wr G M∧M.length=m∧∀j,j<m→M.getD j false=orF f g j)∧Below w.heap.size w wr from by
    obtain⟨⟨M,h1,h2,h3⟩,h4,_⟩:=HQ.out;exact⟨by rw[HG.out];exact Nat.le_refl _,⟨M,h1,h2,fun j hj=>h3 j (by omega)⟩,h4⟩)
   clear HQ him;go_wp2_with fail
   go_ret
   exact⟨G,rfl,HF.out⟩
end
abbrev zCL:World→Value→Nat→(Nat→Bool)→Prop:=BolO fun _=>False
theorem BolO.read {own:Nat→Prop} {w:World} {v:Value} {m:Nat} {f:Nat→Bool} (h:BolO own w v m f):zCL w v m f:=h.mono fun _ _ e=>e.elim
theorem zCL.below {w w':World} {v:Value} {m:Nat} {f:Nat→Bool} (h:zCL w v m f) (hb:Below w.heap.size w w'):zCL w' v m f:=BolO.under h hb
structure RuO (old:Nat→Prop) (w:World) (v:Value) (r:RuN):Prop where
 pos:0<r.m
 few:r.m≤1000
 len:r.sets.length=r.m
 at_:∃R sv bv lv,v= .pointer (some ⟨R,0,none⟩)∧w.cell? ⟨R,0,none⟩=some sv∧w.cell? ⟨R,1,none⟩=some bv∧w.cell? ⟨R,2,none⟩=some lv∧jO (fun k=>¬old k) w sv r.m (jT r.sets)∧BolO old w lv r.m r.last ∧
  (∃g cap,bv= .slice (some ⟨g,0,none⟩) r.m cap∧r.m≤cap∧¬old g∧∀k,k<r.m→∃u,w.cell? ⟨g,k,none⟩=some u∧BolO old w u r.m (r.behind k))∧¬old R
abbrev RuR:World→Value→RuN→Prop:=RuO fun _=>False
theorem RuO.keep {old:Nat→Prop} {w w':World} {v:Value} {r:RuN} (h:RuO old w v r) (hk:KeepW (fun k=>¬old k) w w'):RuO old w' v r:=by
 obtain⟨h1,h2,h3,R,sv,bv,lv,hv,c0,c1,c2,hs,hl,⟨g,cap,hbv,hc,hg,hr⟩,hR⟩:=h;have hgo:Gone old old w w':=⟨hk,fun _ e=> .inl e⟩;refine⟨h1,h2,h3,R,sv,bv,lv,hv,hk.cell c0 hR,hk.cell c1 hR,hk.cell c2 hR,hs.keep hk fun _ _ h=>h,hl.go hgo,⟨g,cap,hbv,hc,hg,fun k hk2=> ?_⟩,hR⟩;obtain⟨u,h4,h5⟩:=hr k hk2;exact⟨u,hk.cell h4 hg,h5.go hgo⟩
theorem RuO.mono {old old2:Nat→Prop} {w:World} {v:Value} {r:RuN} (h:RuO old w v r) (hm:∀k,k<w.heap.size→old2 k→old k):RuO old2 w v r:=by
 obtain⟨h1,h2,h3,R,sv,bv,lv,hv,c0,c1,c2,hs,hl,⟨g,cap,hbv,hc,hg,hr⟩,hR⟩:=h;obtain⟨u0,h4,_⟩:=hr 0 h1;refine⟨h1,h2,h3,R,sv,bv,lv,hv,c0,c1,c2,hs.mono fun k hk ho e=>ho (hm k hk e),hl.mono hm,⟨g,cap,hbv,hc,fun e=>hg (hm g (rlt h4) e),fun k hk2=> ?_⟩,fun e=>hR (hm R (rlt c0) e)⟩;obtain⟨u,h5,h6⟩:=hr k hk2;exact⟨u,h5,h6.mono hm⟩
theorem RuO.read {old:Nat→Prop} {w:World} {v:Value} {r:RuN} (h:RuO old w v r):RuR w v r:=h.mono fun _ _ e=>e.elim
theorem RuO.below {old:Nat→Prop} {w w':World} {v:Value} {r:RuN} (h:RuO old w v r) (hb:Below w.heap.size w w'):RuO old w' v r:=h.keep (keep_below _ hb)
section
variable {w:World} {v u:Value} {r:RuN} {f:Nat→Bool} {m:Nat}
theorem Vi (h:RuR w v r):
  Calls Tryz.prog 38 #[v] w fun e w'=>∃G,e= .returned (.slice (some ⟨G,0,none⟩) r.m r.m)∧BolO (fun k=>k<w.heap.size) w' (.slice (some ⟨G,0,none⟩) r.m r.m) r.m jB∧Below w.heap.size w w':=by
 obtain⟨hpos,hfew,_,R,sv,bv,lv,hv,c0,_,_,⟨so,sc,hsv,hsc,_⟩,_,_⟩:=h;subst hv hsv;obtain⟨m,hm⟩:∃m,r.m=m:=⟨_,rfl⟩;rw[hm] at hpos hfew c0 hsc ⊢;have hmk:=yr m (by omega) w;have hmi:(0:Int)<(m:Int):=by omega
 have hb1:=zA w (.cells (boolC (noneB m)).toArray 4);have hB:=blkM_new w m;clear hm;obtain⟨W1,hW1⟩:∃W1,w.alloc (.cells (boolC (noneB m)).toArray 4)=W1:=⟨_,rfl⟩;have x0:∃y,W1.cell? ⟨w.heap.size,0,none⟩=some y:=⟨_,by rw[←hW1];exact hB.at_ (by rw[zi];omega) false⟩;obtain⟨y,x0⟩:=x0;have x1:=hB.frozen 0;have x2:=hB.lt;rw[hW1] at x1 x2 hb1;have hk:KeepW (fun k=>k≠w.heap.size) W1 (W1.setCell ⟨w.heap.size,0,none⟩ (.bool true)):=zE _ 0 none _ W1 fun h=>h rfl;have HF:=qh (show BolO (fun k=>k<w.heap.size) (W1.setCell ⟨w.heap.size,0,none⟩ (.bool true)) (.slice (some ⟨w.heap.size,0,none⟩) m m) m jB∧Below w.heap.size w (W1.setCell ⟨w.heap.size,0,none⟩ (.bool true)) from by
  refine⟨BolO.of_blk (l:=(noneB m).set 0 true) ?_ (by rw[List.length_set,zi]) hpos (fun e=>Nat.lt_irrefl _ e) fun i hi=> ?_,KeepW.below hb1 hk hb1.size fun k hk=>by omega⟩
  ·have h1:=hB.set 0 true;rw[hW1] at h1;exact h1
  ·rw[getD_set (by rw[zi];omega),noneB_get];unfold jB kL;split
   ·rename_i e;subst e;rfl
   ·rename_i e;simp[e])
 clear hb1 hB hk;go_enter Tryz.func38,Tryz.ntmps38;go_upto_region 2 with (fail)
 (try rw[hW1]);clear hW1 hmk;go_wp2_with fail
 go_ret
 exact⟨_,rfl,HF.out⟩
theorem zDD (h:zCL w u m f) (hm:m≤100000):Calls Tryz.prog 39 #[u] w fun e w'=>e= .returned (.bool (QN f m))∧w'=w:=by
 obtain⟨h0,g,cap,rfl,hc,_,hx⟩:=h;have HX:=qh hx;clear hx h0;go_enter Tryz.func39,Tryz.ntmps39;go_wp2_with fail
 go_loop [3] (fun s3=>∃i:Nat,s3= .int .i64 (i:Int)∧i≤m∧Hid (QN f i=false)) (fun s3=>m-(intOf s3).toNat)
 case atStart=>exact⟨0,rfl,Nat.zero_le _,rfl⟩
 case round=>
  obtain⟨i,rfl,hi,HA⟩:=hrel;have i0:(0:Int)≤(i:Int):=by omega
  have ib:(i:Int)≤100000:=by omega
  by_cases hlt:i<m
  ·have hli:(i:Int)<(m:Int):=(by omega);have x0:=HX.out i hlt;rcases hf:f i with _ | _
   ·rw[hf] at x0;have HA2:Hid (QN f (i+1)=false):=qh (by rw[QN,HA.out,hf];rfl);clear hf;go_wp2_with fail
    go_round
    case rel=>exact⟨i+1,by go_num,hlt,HA2⟩
    case measure=>simp[intOf]<;>omega
   ·rw[hf] at x0;have HF:Hid (QN f m=true):=qh ((qp f m).2 ⟨i,hlt,hf⟩);clear hf;go_wp2_with fail
    go_ret
    exact⟨by rw[HF.out];rfl,rfl⟩
  ·have hli:¬(i:Int)<(m:Int):=(by omega);have him:i=m:=(by omega);have HF:Hid (QN f m=false):=qh (by rw[←him];exact HA.out);clear him;go_wp2_with fail
   go_ret
   exact⟨by rw[HF.out];rfl,rfl⟩
theorem Kr (h:RuR w v r) (hu:zCL w u r.m f):Calls Tryz.prog 40 #[v,u] w fun e w'=>e= .returned (.bool (jC r f))∧w'=w:=by
 obtain⟨hpos,hfew,_,R,sv,bv,lv,hv,_,_,c2,_,⟨_,gl,cl,rfl,hcl,_,hlx⟩,_⟩:=h;obtain⟨_,g,cap,rfl,hc,_,hx⟩:=hu;have HX:=qh hx;have HL:=qh hlx;subst hv;unfold jC;obtain⟨m,hm⟩:∃m,r.m=m:=⟨_,rfl⟩;rw[hm] at hfew c2 hcl hc HX HL ⊢;clear hx hlx hpos hm;go_enter Tryz.func40,Tryz.ntmps40;go_wp2_with fail
 go_loop [5] (fun s5=>∃i:Nat,s5= .int .i64 (i:Int)∧i≤m∧Hid (QN (fun p=>f p&&r.last p) i=false)) (fun s5=>m-(intOf s5).toNat)
 case atStart=>exact⟨0,rfl,Nat.zero_le _,rfl⟩
 case round=>
  obtain⟨i,rfl,hi,HA⟩:=hrel;have i0:(0:Int)≤(i:Int):=by omega
  have ib:(i:Int)≤1000:=by omega
  by_cases hlt:i<m
  ·have hli:(i:Int)<(m:Int):=(by omega);have x0:=HX.out i hlt;have x1:=HL.out i hlt;rcases hf:f i with _ | _
   ·rw[hf] at x0;have HA2:Hid (QN (fun p=>f p&&r.last p) (i+1)=false):=qh (by rw[QN,HA.out,hf];rfl);clear hf;go_wp2_with fail
    go_round
    case rel=>exact⟨i+1,by go_num,hlt,HA2⟩
    case measure=>simp[intOf]<;>omega
   ·rw[hf] at x0;rcases hg:r.last i with _ | _
    ·rw[hg] at x1;have HA2:Hid (QN (fun p=>f p&&r.last p) (i+1)=false):=qh (by rw[QN,HA.out,hf,hg];rfl);clear hf hg;go_wp2_with fail
     go_round
     case rel=>exact⟨i+1,by go_num,hlt,HA2⟩
     case measure=>simp[intOf]<;>omega
    ·rw[hg] at x1;have HF:Hid (QN (fun p=>f p&&r.last p) m=true):=qh ((qp _ m).2 ⟨i,hlt,by rw[hf,hg];rfl⟩);clear hf hg;go_wp2_with fail
     go_ret
     exact⟨by rw[HF.out];rfl,rfl⟩
  ·have hli:¬(i:Int)<(m:Int):=(by omega);have him:i=m:=(by omega);have HF:Hid (QN (fun p=>f p&&r.last p) m=false):=qh (by rw[←him];exact HA.out);clear him;go_wp2_with fail
   go_ret
   exact⟨by rw[HF.out];rfl,rfl⟩
end
theorem Qi:∀(l:List Nd) (n:Nd) (a:Nat) (p:Gl),yf (l++ [n]) a p=qe (yf l a p) (glN n (a+(zL l).length))
 | [],n,a,p=>by rw[List.nil_append,yf,yf,yf,zL];rfl
 | m::l,n,a,p=>by
  rw[List.cons_append,yf,yf,Qi l n,zL,List.length_append,Nat.add_assoc]
theorem Qj:∀(l:List Nd) (n:Nd) (a:Nat) (p:Gl),yY (l++ [n]) a p=zQ (yY l a p) (glN n (a+(zL l).length))
 | [],n,a,p=>by rw[List.nil_append,yY,yY,yY,zL];rfl
 | m::l,n,a,p=>by
  rw[List.cons_append,yY,yY,Qj l n,zL,List.length_append,Nat.add_assoc]
theorem Zo {l:List Nd} {i:Nat} {m:Nd} (h:l[i]? =some m):zL (l.take (i+1))=zL (l.take i)++zU m:=by
 rw[List.take_add_one,h,yt];show _++zL [m]=_;rw[zL,zL,List.append_nil]
theorem yq (l:List Nd) (i:Nat):(zL (l.take i)).length≤(zL l).length:=by
 have h:=congrArg zL (List.take_append_drop i l);rw[yt] at h;have:=congrArg List.length h;rw[List.length_append] at this;omega
theorem ZK (n:Nd) (a:Nat):glN n a=if n.kind=1 then ⟨false,kL a,kL a,Yi⟩ else if n.kind=2 then yf n.kids a xE else if n.kind=3 then yY n.kids a jA else if n.kind=4 then loopG true (Vc n.kids a) else if n.kind=5 then loopG false (Vc n.kids a) else if n.kind=6 then ZE (Vc n.kids a) else xE:=by
 cases n with
 | mk k s l=>rw[glN];rfl
theorem qW (n:Nd) (h:¬n.kind=1):zU n=zL n.kids:=by rw[Xk,if_neg h]
abbrev zHH (w:World) (b:Nat) (a f l:Value):Prop:=box3 109 w b a f l
structure LayF (X:Nat→Prop) (w0 w:World) (R:Nat) (sv0 sv bv lv:Value) (S:List St4) (m:Nat) (E:Nat→Nat→Bool) (b:Nat) (n:Nd) (u:Value):Prop where
 r:qF (fun k=>X k∨b≤k∧k<b+3) w R sv bv lv S m E
 x:boxN 77 w b n.kind n.set u
 p:zHH w (b+1) (.bool false) (.slice none 0 0) (.slice none 0 0)
 nv:yP w (b+2) (noneB m)
 pos:0<m
 ks:zW (fun k=>k<b∧¬zq R sv bv k) w n.kids u
 g:Gone (zq R sv0 bv) (zq R sv bv) w0 w
 at_:b=w0.heap.size
 nb:∀k,b≤k→k<b+3→¬zq R sv bv k
section
variable {X:Nat→Prop} {w0 w w':World} {R m b c:Nat} {sv0 sv bv lv sv' u a f l:Value} {S S':List St4} {E E':Nat→Nat→Bool} {n:Nd}
theorem box3.go {T:TypeId} {own own':Nat→Prop} (h:box3 T w c a f l) (ho:¬own c) (hg:Gone own own' w w'):box3 T w' c a f l∧¬own' c:=⟨h.keep hg.keep ho,hg.still h.lt ho⟩
theorem zW.goN {N:Nat} {own own':Nat→Prop} {ks:List Nd} (h:zW (fun k=>k<N∧¬own k) w ks u) (hN:N≤w.heap.size) (hg:Gone own own' w w'):zW (fun k=>k<N∧¬own' k) w' ks u:=by
 have h1:=zW.keep (ok':=fun k=>k<N∧¬own k) h (hg.keep.mono fun _ _ ho=>ho.2) fun _ _ hp=>hp;exact h1.mono fun k _ hp=>⟨hp.1,hg.still (by omega) hp.2⟩
theorem LayF.sz (h:LayF X w0 w R sv0 sv bv lv S m E b n u):b+3≤w.heap.size:=h.nv.lt
theorem LayF.go (h:LayF X w0 w R sv0 sv bv lv S m E b n u) (hr:qF (fun k=>X k∨b≤k∧k<b+3) w' R sv' bv lv S' m E') (hg:Gone (zq R sv bv) (zq R sv' bv) w w'):LayF X w0 w' R sv0 sv' bv lv S' m E' b n u:=
 ⟨hr,h.x.keep hg.keep (h.nb b (Nat.le_refl _) (by omega)),(h.p.go (h.nb (b+1) (by omega) (by omega)) hg).1,h.nv.keep hg.keep (h.nb (b+2) (by omega) (by omega)),h.pos,h.ks.goN (by have:=h.sz;omega) hg,h.g.trans hg,h.at_,fun k h1 h2=>hg.still (by have:=h.sz;omega) (h.nb k h1 h2)⟩
theorem LayF.under (h:LayF X w0 w R sv0 sv bv lv S m E b n u) (hb:Below w.heap.size w w'):LayF X w0 w' R sv0 sv bv lv S m E b n u:=h.go (h.r.under hb) (Gone.of_below hb)
theorem LayF.start (h:qF X w0 R sv bv lv S m E) (hu:zW (fun k=>¬zq R sv bv k) w0 n.kids u) (hm:0<m):
  LayF X w0 (((w0.alloc (.cells #[.int .i64 n.kind,.int .u64 (n.set.1:Int),.int .u64 (n.set.2.1:Int),.int .u64 (n.set.2.2.1:Int),.int .u64 (n.set.2.2.2:Int),u] 77)).alloc (.cells #[.bool false,.slice none 0 0,.slice none 0 0] 109)).alloc (.cells (boolC (noneB m)).toArray 4)) R sv sv bv lv S m E w0.heap.size n u ∧
  w0.heap.size+3=(((w0.alloc (.cells #[.int .i64 n.kind,.int .u64 (n.set.1:Int),.int .u64 (n.set.2.1:Int),.int .u64 (n.set.2.2.1:Int),.int .u64 (n.set.2.2.2:Int),u] 77)).alloc (.cells #[.bool false,.slice none 0 0,.slice none 0 0] 109)).alloc (.cells (boolC (noneB m)).toArray 4)).heap.size:=by
 have hb1:=zA w0 (.cells #[.int .i64 n.kind,.int .u64 (n.set.1:Int),.int .u64 (n.set.2.1:Int),.int .u64 (n.set.2.2.1:Int),.int .u64 (n.set.2.2.2:Int),u] 77);have hx:=boxN.new 77 w0 n.kind n.set u;have hs1:=zC w0 (.cells #[.int .i64 n.kind,.int .u64 (n.set.1:Int),.int .u64 (n.set.2.1:Int),.int .u64 (n.set.2.2.1:Int),.int .u64 (n.set.2.2.2:Int),u] 77);generalize w0.alloc (.cells #[.int .i64 n.kind,.int .u64 (n.set.1:Int),.int .u64 (n.set.2.1:Int),.int .u64 (n.set.2.2.1:Int),.int .u64 (n.set.2.2.2:Int),u] 77)=W1 at hb1 hx hs1 ⊢;have hb2:=zA W1 (.cells #[.bool false,.slice none 0 0,.slice none 0 0] 109);have hp:=box3.new 109 W1 (.bool false) (.slice none 0 0) (.slice none 0 0);have hs2:=zC W1 (.cells #[.bool false,.slice none 0 0,.slice none 0 0] 109);generalize W1.alloc (.cells #[.bool false,.slice none 0 0,.slice none 0 0] 109)=W2 at hb2 hp hs2 ⊢;have hb3:=zA W2 (.cells (boolC (noneB m)).toArray 4);have hs3:=zC W2 (.cells (boolC (noneB m)).toArray 4);have hn:=blkM_new W2 m;have hbel:Below w0.heap.size w0 W2:=hb1.trans (hb2.mono hb1.size);have hbel3:=hbel.trans (hb3.mono hbel.size);have hno:=h.ownlt;refine⟨⟨(h.mono (X':=fun k=>X k∨w0.heap.size≤k∧k<w0.heap.size+3) fun k hk e=>e.elim id fun e=>by omega).under hbel3,(hx.below hb2).below hb3,?_,?_,hm,?_,Gone.of_below hbel3,rfl,fun k h1 _=>hno k h1⟩,by rw[hs3,hs2,hs1]⟩
 ·rw[hs1] at hp;exact hp.under hb3
 ·rw[hs2,hs1] at hn;exact hn
 ·exact (zW.mono hu (ok':=fun k=>k<w0.heap.size∧¬zq R sv bv k) fun k hk hp=>⟨hk,hp⟩).goN (Nat.le_refl _) (Gone.of_below hbel3)
def Zb (R:Nat) (sv bv:Value) (b:Nat):Nat→Prop:=fun k=>zq R sv bv k∨k≤b+1∨k=b+3
theorem LayF.nrow (h:LayF X w0 w R sv0 sv bv lv S m E b n u):BolO (Zb R sv bv b) w (.slice (some ⟨b+1+1,0,none⟩) m m) m noF:=
 BolO.of_blk h.nv (zi m) h.pos (fun e=>by
  rcases e with e | e | e
  ·exact h.nb (b+2) (by omega) (by omega) e
  ·omega
  ·omega) fun i _=>noneB_get m i
theorem BolO.acc {g:Nat→Bool} (h:BolO (Zb R sv bv b) w a m g) (hg:Gone (zq R sv bv) (zq R sv' bv) w w'):BolO (Zb R sv' bv b) w' a m g:=h.go (hg.wide _)
theorem LayF.more (h:LayF X w0 w R sv0 sv bv lv S m E b n u) (hs:w.heap.size=b+3) (hb:Below w.heap.size w w'):LayF (fun k=>X k∨k=b+3) w0 w' R sv0 sv bv lv S m E b n u:=
 have h1:=h.under hb
 ⟨(h.r.mono (X':=fun k=>(X k∨k=b+3)∨b≤k∧k<b+3) fun k hk e=>by
   rcases e with (e | e) | e
   ·exact .inl e
   ·omega
   ·exact .inr e).under hb,h1.x,h1.p,h1.nv,h1.pos,h1.ks,h1.g,h1.at_,h1.nb⟩
theorem LayF.newX (h:LayF X w0 w R sv0 sv bv lv S m E b n u) (hX:∀k,w0.heap.size≤k→¬X k):∀k,w.heap.size≤k→¬(X k∨b≤k∧k<b+3):=fun k hk e=>by
 have:=h.sz;have:=h.at_;rcases e with e | e
 ·exact hX k (by omega) e
 ·omega
theorem LayF.newX3 (h:LayF (fun k=>X k∨k=b+3) w0 w R sv0 sv bv lv S m E b n u) (hX:∀k,w0.heap.size≤k→¬X k) (hc:b+3<w.heap.size):∀k,w.heap.size≤k→¬((X k∨k=b+3)∨b≤k∧k<b+3):=fun k hk e=>by
 have:=h.sz;have:=h.at_;rcases e with (e | e) | e
 ·exact hX k (by omega) e
 ·omega
 ·omega
theorem LayF.store {i:Nat} {y:Value} (h:LayF (fun k=>X k∨k=b+3) w0 w R sv0 sv bv lv S m E b n u):LayF (fun k=>X k∨k=b+3) w0 (w.setCell ⟨b+3,i,none⟩ y) R sv0 sv bv lv S m E b n u:=by
 have hk:KeepW (fun k=>k≠b+3) w (w.setCell ⟨b+3,i,none⟩ y):=zE (b+3) i none y w fun h=>h rfl;have h2:=h.at_
 exact⟨h.r.aside (.inl (.inr rfl)),h.x.keep hk (by omega),h.p.keep hk (by omega),h.nv.keep hk (by omega),h.pos,zW.keep (ok':=fun k=>k<b∧¬zq R sv bv k) h.ks (hk.mono fun k _ hp e=>by omega) fun _ _ hp=>hp,
  ⟨⟨h.g.keep.os,h.g.keep.tape,h.g.keep.output,Nat.le_trans h.g.keep.size hk.size,fun k hk1 hk2=>(hk.same k (by have:=h.g.keep.size;omega) (by omega)).trans (h.g.keep.same k hk1 hk2)⟩,h.g.new⟩,h.at_,h.nb⟩
theorem BolO.store {i:Nat} {y:Value} {g:Nat→Bool} (h:BolO (Zb R sv bv b) w a m g):BolO (Zb R sv bv b) (w.setCell ⟨b+3,i,none⟩ y) a m g:=
 h.go ⟨(zE (ok:=fun k=>k≠b+3) (b+3) i none y w fun h=>h rfl).mono fun _ _ ho e=>ho (.inr (.inr e)),fun _ e=> .inl e⟩
def setP (w:World) (c:Nat) (x f l:Value):World:=((w.setCell ⟨c,0,none⟩ x).setCell ⟨c,1,none⟩ f).setCell ⟨c,2,none⟩ l
theorem box3.setP {x y z:Value} (h:zHH w c a f l):zHH (setP w c x y z) c x y z:=((h.set0 x).set1 y).set2 z
theorem Ks (w:World) (c:Nat) (x y z:Value):KeepW (fun k=>k≠c) w (setP w c x y z):=
 ((zE c 0 none x w fun h=>h rfl).trans (zE c 1 none y _ fun h=>h rfl)).trans (zE c 2 none z _ fun h=>h rfl)
def Ju (R:Nat) (sv bv:Value) (b:Nat):Nat→Prop:=fun k=>zq R sv bv k∨k≤b+1
theorem BolO.acc1 {g:Nat→Bool} (h:BolO (Zb R sv bv b) w a m g):BolO (Ju R sv bv b) w a m g:=h.mono fun _ _ e=>e.imp id .inl
theorem BolO.go1 {g:Nat→Bool} (h:BolO (Ju R sv bv b) w a m g) (hg:Gone (zq R sv bv) (zq R sv' bv) w w'):BolO (Ju R sv' bv b) w' a m g:=h.go (hg.wide _)
theorem LayF.fin {fV lV:Value} {gf gl:Nat→Bool} {z:Bool} (h:LayF X w0 w R sv0 sv bv lv S m E b n u) (hf:BolO (Ju R sv bv b) w fV m gf) (hl:BolO (Ju R sv bv b) w lV m gl):
  zHH (setP w (b+1) (.bool z) fV lV) (b+1) (.bool z) fV lV∧qF X (setP w (b+1) (.bool z) fV lV) R sv bv lv S m E∧Gone (zq R sv0 bv) (zq R sv bv) w0 (setP w (b+1) (.bool z) fV lV) ∧
  BolO (fun k=>zq R sv bv k∨k<w0.heap.size) (setP w (b+1) (.bool z) fV lV) fV m gf∧BolO (fun k=>zq R sv bv k∨k<w0.heap.size) (setP w (b+1) (.bool z) fV lV) lV m gl:=by
 have hk:=Ks w (b+1) (.bool z) fV lV;have h2:=h.at_;have hg:Gone (Ju R sv bv b) (Ju R sv bv b) w (setP w (b+1) (.bool z) fV lV):=⟨hk.mono fun k _ ho e=>ho (.inr (by omega)),fun _ e=> .inl e⟩;have hrow:∀ {y:Value} {g:Nat→Bool},BolO (Ju R sv bv b) w y m g→BolO (fun k=>zq R sv bv k∨k<w0.heap.size) (setP w (b+1) (.bool z) fV lV) y m g:=fun hy=>(hy.go hg).mono fun k _ e=>e.imp id fun e=>by omega
 refine⟨h.p.setP,?_,⟨⟨hk.os.trans h.g.keep.os,hk.tape.trans h.g.keep.tape,hk.output.trans h.g.keep.output,Nat.le_trans h.g.keep.size hk.size,fun k hk1 hk2=>(hk.same k (by have:=h.g.keep.size;omega) (by omega)).trans (h.g.keep.same k hk1 hk2)⟩,h.g.new⟩,hrow hf,hrow hl⟩;exact (((h.r.aside (c:=b+1) (i:=0) (y:= .bool z) (.inr (by omega))).aside (c:=b+1) (i:=1) (y:=fV) (.inr (by omega))).aside (c:=b+1) (i:=2) (y:=lV) (.inr (by omega))).mono fun k _ e=> .inl e
theorem LayF.kid {i:Nat} {k:Nd} (h:LayF X w0 w R sv0 sv bv lv S m E b n u) (hi:n.kids[i]? =some k):
  ∃g o cap ku kl kc,u= .slice (some ⟨g,o,none⟩) n.kids.length cap∧n.kids.length≤cap∧ku= .slice kl k.kids.length kc∧zV (fun k=>¬zq R sv bv k) w k (zG k ku)∧∀(j:Nat) x,j<6→(nodeC k ku)[j]? =some x→w.cell? ⟨g,o+(i*6+j),none⟩=some x:=by
 obtain⟨g,o,cap,ku,hv,hn,hs,hk,hc⟩:=h.ks.at_ hi;obtain⟨kl,kc,hku,_⟩:=hk.form;exact⟨g,o,cap,ku,kl,kc,hv,hn,hku,⟨hs,ku,rfl,hk.mono fun k _ hp=>hp.2⟩,hc⟩
theorem LayF.moreC (h:LayF X w0 w R sv0 sv bv lv S m E b n u) (hb:Below w.heap.size w w'):LayF (fun k=>X k∨k=w.heap.size) w0 w' R sv0 sv bv lv S m E b n u:=
 have h1:=h.under hb
 ⟨(h.r.mono (X':=fun k=>(X k∨k=w.heap.size)∨b≤k∧k<b+3) fun k hk e=>by
   rcases e with (e | e) | e
   ·exact .inl e
   ·omega
   ·exact .inr e).under hb,h1.x,h1.p,h1.nv,h1.pos,h1.ks,h1.g,h1.at_,h1.nb⟩
theorem LayF.lessC (h:LayF (fun k=>X k∨k=c) w0 w R sv0 sv bv lv S m E b n u):LayF X w0 w R sv0 sv bv lv S m E b n u:=
 ⟨h.r.mono fun _ _ e=>e.imp .inl id,h.x,h.p,h.nv,h.pos,h.ks,h.g,h.at_,h.nb⟩
theorem LayF.storeC {i:Nat} {y:Value} (h:LayF (fun k=>X k∨k=c) w0 w R sv0 sv bv lv S m E b n u) (hc:b+3≤c):LayF (fun k=>X k∨k=c) w0 (w.setCell ⟨c,i,none⟩ y) R sv0 sv bv lv S m E b n u:=by
 have hk:KeepW (fun k=>k≠c) w (w.setCell ⟨c,i,none⟩ y):=zE c i none y w fun h=>h rfl;have h2:=h.at_
 exact⟨h.r.aside (.inl (.inr rfl)),h.x.keep hk (by omega),h.p.keep hk (by omega),h.nv.keep hk (by omega),h.pos,zW.keep (ok':=fun k=>k<b∧¬zq R sv bv k) h.ks (hk.mono fun k _ hp e=>by omega) fun _ _ hp=>hp,
  ⟨⟨h.g.keep.os,h.g.keep.tape,h.g.keep.output,Nat.le_trans h.g.keep.size hk.size,fun k hk1 hk2=>(hk.same k (by have:=h.g.keep.size;omega) (by omega)).trans (h.g.keep.same k hk1 hk2)⟩,h.g.new⟩,h.at_,h.nb⟩
end
def zDE (X:Nat→Prop) (R:Nat) (sv bv lv:Value) (S:List St4) (m:Nat) (E:Nat→Nat→Bool) (n:Nd) (w w':World) (e:Ending):Prop:=
 ∃sv' fV lV,e= .returned (.agg #[.bool (glN n S.length).null,fV,lV])∧qF X w' R sv' bv lv (S++zU n) m (xu E (glN n S.length).fol)∧Gone (zq R sv bv) (zq R sv' bv) w w' ∧
  BolO (fun k=>zq R sv' bv k∨k<w.heap.size) w' fV m (glN n S.length).first∧BolO (fun k=>zq R sv' bv k∨k<w.heap.size) w' lV m (glN n S.length).last
theorem jS {X:Nat→Prop} {R m:Nat} {sv sv' bv lv fV lV:Value} {S S':List St4} {E:Nat→Nat→Bool} {n:Nd} {w w':World} {g:Gl} (hg:glN n S.length=g) (hS:S++zU n=S') (hR:qF X w' R sv' bv lv S' m (xu E g.fol)) (hG:Gone (zq R sv bv) (zq R sv' bv) w w')
  (hf:BolO (fun k=>zq R sv' bv k∨k<w.heap.size) w' fV m g.first) (hl:BolO (fun k=>zq R sv' bv k∨k<w.heap.size) w' lV m g.last):zDE X R sv bv lv S m E n w w' (.returned (.agg #[.bool g.null,fV,lV])):=by
 subst hg hS;exact⟨_,_,_,rfl,hR,hG,hf,hl⟩
def zG3 (n:Nd):Prop:=∀(X:Nat→Prop) (w:World) (R:Nat) (sv bv lv:Value) (S:List St4) (m:Nat) (E:Nat→Nat→Bool) (x:Value),qF X w R sv bv lv S m E→(∀k,w.heap.size≤k→¬X k)→zV (fun k=>¬zq R sv bv k) w n x→0<S.length∧S.length+(zU n).length≤m→m≤100000 →
 Calls Tryz.prog 49 #[.pointer (some ⟨R,0,none⟩),x,.int .i64 (m:Int)] w fun e w'=>zDE X R sv bv lv S m E n w w' e
end Go.Proofs.YtjeomlickkpebaaGreatDoor
