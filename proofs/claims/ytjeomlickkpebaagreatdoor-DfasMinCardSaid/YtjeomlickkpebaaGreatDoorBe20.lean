/-
  Texts of this proof, one behind the other; each begins with its own remark.
-/
import Derived.Test.YtjeomlickkpebaaGreatDoorBe18
import Derived.Test.YtjeomlickkpebaaGreatDoorBe19
set_option maxHeartbeats 8000000
namespace Go.Proofs.YtjeomlickkpebaaGreatDoor
open Go.RowKit
theorem buildT_eq (n:Nd) (q:List Sta) (next:Nat):buildT n q next =
  if n.kind=1 then (q++ [qn n.set next],q.length)
  else if n.kind=2 then yH n.kids q next
  else if n.kind=3 then XY n.kids q next
  else if n.kind=4 then (xi (j8 n.kids (q++ [zJ next next]) q.length).1 q.length (j8 n.kids (q++ [zJ next next]) q.length).2,q.length)
  else if n.kind=5 then (xi (j8 n.kids (q++ [zJ next next]) q.length).1 q.length (j8 n.kids (q++ [zJ next next]) q.length).2,(j8 n.kids (q++ [zJ next next]) q.length).2)
  else if n.kind=6 then ((j8 n.kids q next).1++ [zJ (j8 n.kids q next).2 next],(j8 n.kids q next).1.length)
  else (q,next):=by
 cases n with
 | mk k s l=>rw[buildT];rfl
section
variable {P:Nat→Prop} {w:World} {B:Nat} {n:Nd} {q:List Sta} {first:List Int} {fv:Value}
set_option maxRecDepth 4000 in
theorem YO (hk:¬n.kind=1∧¬n.kind=2∧¬n.kind=3∧¬n.kind=4∧¬n.kind=5∧¬n.kind=6) (h:xw P w B q first fv) (hP:∀k,w.heap.size≤k→¬P k) (next:Nat) (x:Value) (hx:zV P w n x):
  Calls Tryz.prog 53 #[.pointer (some ⟨B,0,none⟩),x,.int .i64 (next:Int)] w fun e w'=>e= .returned (.int .i64 ((buildT n q next).2:Int))∧xw P w' B (buildT n q next).1 first fv∧KeepW P w w':=by
 obtain⟨hs,u,rfl,hu⟩:=hx;obtain⟨uo,uc,rfl,hul,hub⟩:=hu.form;have HS0:=qh (BuF.start h hP hu);rw[show buildT n q next=(q,next) by rw[buildT_eq,if_neg hk.1,if_neg hk.2.1,if_neg hk.2.2.1,if_neg hk.2.2.2.1,if_neg hk.2.2.2.2.1,if_neg hk.2.2.2.2.2]];have hk1:(n.kind==1)=false:=beq_eq_false_iff_ne.2 hk.1;have hk2:(n.kind==2)=false:=beq_eq_false_iff_ne.2 hk.2.1;have hk3:(n.kind==3)=false:=beq_eq_false_iff_ne.2 hk.2.2.1;have hk4:(n.kind==4)=false:=beq_eq_false_iff_ne.2 hk.2.2.2.1;have hk5:(n.kind==5)=false:=beq_eq_false_iff_ne.2 hk.2.2.2.2.1;have hk6:(n.kind==6)=false:=beq_eq_false_iff_ne.2 hk.2.2.2.2.2;clear hk;unfold zG;clear h hP hu;go_enter Tryz.func53,Tryz.ntmps53;go_upto_region 1 with (fail)
 obtain⟨W1,hW1⟩:∃W1,w.alloc (.cells #[.int .i64 n.kind,.int .u64 (n.set.1:Int),.int .u64 (n.set.2.1:Int),.int .u64 (n.set.2.2.1:Int),.int .u64 (n.set.2.2.2:Int),.slice uo n.kids.length uc] 116)=W1:=⟨_,rfl⟩;(try rw[hW1]);rw[hW1] at HS0;clear hW1;obtain⟨b,hb⟩:∃b,w.heap.size=b:=⟨_,rfl⟩;(try rw[hb]);rw[hb] at HS0;clear hb;obtain⟨⟨c0,c1,c2,c3,c4,c5⟩,_⟩:=HS0.out.x.cells;have hbl:=HS0.out.x.lt;have HF:=qh HS0.out.fin;clear HS0;go_wp2_with fail
 go_ret
 exact⟨rfl,HF.out⟩
set_option maxRecDepth 4000 in
theorem JO (hk:n.kind=1) (h:xw P w B q first fv) (hP:∀k,w.heap.size≤k→¬P k) (next:Nat) (x:Value) (hx:zV P w n x) (hlen:q.length+2*wtR n≤100000):
  Calls Tryz.prog 53 #[.pointer (some ⟨B,0,none⟩),x,.int .i64 (next:Int)] w fun e w'=>e= .returned (.int .i64 ((buildT n q next).2:Int))∧xw P w' B (buildT n q next).1 first fv∧KeepW P w w':=by
 obtain⟨hs,u,rfl,hu⟩:=hx;obtain⟨uo,uc,rfl,hul,hub⟩:=hu.form;have HS0:=qh (BuF.start h hP hu);rw[show buildT n q next=(q++ [qn n.set next],q.length) by rw[buildT_eq,if_pos hk]];have hq0:q.length≤100000:=by omega
 have hk1:(n.kind==1)=true:=by rw[hk];rfl
 clear hk;unfold zG;clear h hP hu;go_enter Tryz.func53,Tryz.ntmps53;go_upto_region 1 with (fail)
 obtain⟨W1,hW1⟩:∃W1,w.alloc (.cells #[.int .i64 n.kind,.int .u64 (n.set.1:Int),.int .u64 (n.set.2.1:Int),.int .u64 (n.set.2.2.1:Int),.int .u64 (n.set.2.2.2:Int),.slice uo n.kids.length uc] 116)=W1:=⟨_,rfl⟩;(try rw[hW1]);rw[hW1] at HS0;clear hW1;obtain⟨b,hb⟩:∃b,w.heap.size=b:=⟨_,rfl⟩;(try rw[hb]);rw[hb] at HS0;clear hb;obtain⟨⟨c0,c1,c2,c3,c4,c5⟩,_⟩:=HS0.out.x.cells;have hbl:=HS0.out.x.lt;have HA:=qh (show Calls Tryz.prog 52 #[.pointer (some ⟨B,0,none⟩),.agg #[.int .i64 0,.int .u64 (n.set.1:Int),.int .u64 (n.set.2.1:Int),.int .u64 (n.set.2.2.1:Int),.int .u64 (n.set.2.2.2:Int),.int .i64 (next:Int),.int .i64 0,.int .i64 0]] W1 fun e w'=>e= .returned (.int .i64 (q.length:Int))∧xw (fun k=>P k∨k=b) w' B (q++ [qn n.set next]) first fv∧KeepW (fun k=>P k∨k=b) W1 w' from Xp HS0.out.e HS0.out.newP (qn n.set next) hq0);go_wp2_with fail
 go_fit HA.out;rintro e w2 ⟨rfl,h1,h2⟩;have HF:=qh (HS0.out.go h1 h2).fin;clear h1 h2 HA HS0;go_wp2_with fail
 go_ret
 exact⟨rfl,HF.out⟩
set_option maxRecDepth 4000 in
theorem YP (hk:n.kind=4) (m:Nd) (hm:n.kids= [m]) (hB:jd m) (h:xw P w B q first fv) (hP:∀k,w.heap.size≤k→¬P k) (next:Nat) (x:Value) (hx:zV P w n x) (hlen:q.length+2*wtR n≤100000):
  Calls Tryz.prog 53 #[.pointer (some ⟨B,0,none⟩),x,.int .i64 (next:Int)] w fun e w'=>e= .returned (.int .i64 ((buildT n q next).2:Int))∧xw P w' B (buildT n q next).1 first fv∧KeepW P w w':=by
 obtain⟨hs,u,rfl,hu⟩:=hx;obtain⟨uo,uc,rfl,hul,hub⟩:=hu.form;have HS0:=qh (BuF.start h hP hu);have hw:wtR n=wtR m+1:=by rw[qm,hm];simp[wtL]
 have h0k:n.kids[0]? =some m:=by rw[hm];rfl
 have hone:∀q x,j8 n.kids q x=buildT m q x:=fun q x=>by rw[hm,j8]
 rw[show buildT n q next=(xi (buildT m (q++ [zJ next next]) q.length).1 q.length (buildT m (q++ [zJ next next]) q.length).2,q.length) by rw[buildT_eq,if_neg (by rw[hk];decide),if_neg (by rw[hk];decide),if_neg (by rw[hk];decide),if_pos hk,hone]];have hlk:0<n.kids.length:=by rw[hm];simp
 have hlki:(0:Int)<(n.kids.length:Int):=by omega
 have hk1:(n.kind==1)=false:=by rw[hk];rfl
 have hk2:(n.kind==2)=false:=by rw[hk];rfl
 have hk3:(n.kind==3)=false:=by rw[hk];rfl
 have hk4:(n.kind==4)=true:=by rw[hk];rfl
 clear hk;have HK0:=qh h0k;have hlm:q.length+2*wtR m+1≤100000:=by omega
 have HLM:=qh hlm;unfold zG;clear h hP hu h0k hone hm hw hlm hlen;go_enter Tryz.func53,Tryz.ntmps53;go_upto_region 1 with (fail)
 obtain⟨W1,hW1⟩:∃W1,w.alloc (.cells #[.int .i64 n.kind,.int .u64 (n.set.1:Int),.int .u64 (n.set.2.1:Int),.int .u64 (n.set.2.2.1:Int),.int .u64 (n.set.2.2.2:Int),.slice uo n.kids.length uc] 116)=W1:=⟨_,rfl⟩;(try rw[hW1]);rw[hW1] at HS0;clear hW1;obtain⟨b,hb⟩:∃b,w.heap.size=b:=⟨_,rfl⟩;(try rw[hb]);rw[hb] at HS0;clear hb;obtain⟨⟨c0,c1,c2,c3,c4,c5⟩,_⟩:=HS0.out.x.cells;have hbl:=HS0.out.x.lt;obtain⟨g,o,cap,ku,kl,kc,hue,hul2,rfl,hnk,hso,_,hcell⟩:=HS0.out.kid HK0.out;injection hue with e1 e2 e3
 subst e1 e3;clear e2;have d0:=hcell 0 _ (by decide) rfl;have d1:=hcell 1 _ (by decide) rfl;have d2:=hcell 2 _ (by decide) rfl;have d3:=hcell 3 _ (by decide) rfl;have d4:=hcell 4 _ (by decide) rfl;have d5:=hcell 5 _ (by decide) rfl;simp only[Nat.zero_mul,Nat.zero_add,Nat.add_zero] at d0 d1 d2 d3 d4 d5;have HA:=qh (Qh hB HS0.out.e HS0.out.newP next _ hnk (by have:=HLM.out;omega));unfold zG at HA;clear hcell hnk;go_wp2_with fail
 go_fit HA.out;rintro e w2 ⟨rfl,h1,h2⟩;have HF:=qh (HS0.out.go h1 h2).fin;clear h1 h2 HA HS0 d0 d1 d2 d3 d4 d5 c0 c1 c2 c3 c4 c5;go_wp2_with fail
 go_ret
 exact⟨rfl,HF.out⟩
set_option maxRecDepth 4000 in
theorem YQ (hk:n.kind=5) (m:Nd) (hm:n.kids= [m]) (hB:jd m) (h:xw P w B q first fv) (hP:∀k,w.heap.size≤k→¬P k) (next:Nat) (x:Value) (hx:zV P w n x) (hlen:q.length+2*wtR n≤100000):
  Calls Tryz.prog 53 #[.pointer (some ⟨B,0,none⟩),x,.int .i64 (next:Int)] w fun e w'=>e= .returned (.int .i64 ((buildT n q next).2:Int))∧xw P w' B (buildT n q next).1 first fv∧KeepW P w w':=by
 obtain⟨hs,u,rfl,hu⟩:=hx;obtain⟨uo,uc,rfl,hul,hub⟩:=hu.form;have HS0:=qh (BuF.start h hP hu);have hw:wtR n=wtR m+1:=by rw[qm,hm];simp[wtL]
 have h0k:n.kids[0]? =some m:=by rw[hm];rfl
 have hone:∀q x,j8 n.kids q x=buildT m q x:=fun q x=>by rw[hm,j8]
 rw[show buildT n q next=(xi (buildT m (q++ [zJ next next]) q.length).1 q.length (buildT m (q++ [zJ next next]) q.length).2,(buildT m (q++ [zJ next next]) q.length).2) by rw[buildT_eq,if_neg (by rw[hk];decide),if_neg (by rw[hk];decide),if_neg (by rw[hk];decide),if_neg (by rw[hk];decide),if_pos hk,hone]];have hlk:0<n.kids.length:=by rw[hm];simp
 have hlki:(0:Int)<(n.kids.length:Int):=by omega
 have hk1:(n.kind==1)=false:=by rw[hk];rfl
 have hk2:(n.kind==2)=false:=by rw[hk];rfl
 have hk3:(n.kind==3)=false:=by rw[hk];rfl
 have hk4:(n.kind==4)=false:=by rw[hk];rfl
 have hk5:(n.kind==5)=true:=by rw[hk];rfl
 clear hk;have HK0:=qh h0k;have hlm:q.length+2*wtR m+1≤100000:=by omega
 have HLM:=qh hlm;unfold zG;clear h hP hu h0k hone hm hw hlm hlen;go_enter Tryz.func53,Tryz.ntmps53;go_upto_region 1 with (fail)
 obtain⟨W1,hW1⟩:∃W1,w.alloc (.cells #[.int .i64 n.kind,.int .u64 (n.set.1:Int),.int .u64 (n.set.2.1:Int),.int .u64 (n.set.2.2.1:Int),.int .u64 (n.set.2.2.2:Int),.slice uo n.kids.length uc] 116)=W1:=⟨_,rfl⟩;(try rw[hW1]);rw[hW1] at HS0;clear hW1;obtain⟨b,hb⟩:∃b,w.heap.size=b:=⟨_,rfl⟩;(try rw[hb]);rw[hb] at HS0;clear hb;obtain⟨⟨c0,c1,c2,c3,c4,c5⟩,_⟩:=HS0.out.x.cells;have hbl:=HS0.out.x.lt;obtain⟨g,o,cap,ku,kl,kc,hue,hul2,rfl,hnk,hso,_,hcell⟩:=HS0.out.kid HK0.out;injection hue with e1 e2 e3
 subst e1 e3;clear e2;have d0:=hcell 0 _ (by decide) rfl;have d1:=hcell 1 _ (by decide) rfl;have d2:=hcell 2 _ (by decide) rfl;have d3:=hcell 3 _ (by decide) rfl;have d4:=hcell 4 _ (by decide) rfl;have d5:=hcell 5 _ (by decide) rfl;simp only[Nat.zero_mul,Nat.zero_add,Nat.add_zero] at d0 d1 d2 d3 d4 d5;have HA:=qh (Qh hB HS0.out.e HS0.out.newP next _ hnk (by have:=HLM.out;omega));unfold zG at HA;clear hcell hnk;go_wp2_with fail
 go_fit HA.out;rintro e w2 ⟨rfl,h1,h2⟩;have HF:=qh (HS0.out.go h1 h2).fin;clear h1 h2 HA HS0 d0 d1 d2 d3 d4 d5 c0 c1 c2 c3 c4 c5;go_wp2_with fail
 go_ret
 exact⟨rfl,HF.out⟩
set_option maxRecDepth 4000 in
theorem JP (hk:n.kind=6) (m:Nd) (hm:n.kids= [m]) (hB:jd m) (h:xw P w B q first fv) (hP:∀k,w.heap.size≤k→¬P k) (next:Nat) (x:Value) (hx:zV P w n x) (hlen:q.length+2*wtR n≤100000):
  Calls Tryz.prog 53 #[.pointer (some ⟨B,0,none⟩),x,.int .i64 (next:Int)] w fun e w'=>e= .returned (.int .i64 ((buildT n q next).2:Int))∧xw P w' B (buildT n q next).1 first fv∧KeepW P w w':=by
 obtain⟨hs,u,rfl,hu⟩:=hx;obtain⟨uo,uc,rfl,hul,hub⟩:=hu.form;have HS0:=qh (BuF.start h hP hu);have hw:wtR n=wtR m+1:=by rw[qm,hm];simp[wtL]
 have h0k:n.kids[0]? =some m:=by rw[hm];rfl
 have hone:∀q x,j8 n.kids q x=buildT m q x:=fun q x=>by rw[hm,j8]
 rw[show buildT n q next=((buildT m q next).1++ [zJ (buildT m q next).2 next],(buildT m q next).1.length) by rw[buildT_eq,if_neg (by rw[hk];decide),if_neg (by rw[hk];decide),if_neg (by rw[hk];decide),if_neg (by rw[hk];decide),if_neg (by rw[hk];decide),if_pos hk,hone]];have hlk:0<n.kids.length:=by rw[hm];simp
 have hlki:(0:Int)<(n.kids.length:Int):=by omega
 have hk1:(n.kind==1)=false:=by rw[hk];rfl
 have hk2:(n.kind==2)=false:=by rw[hk];rfl
 have hk3:(n.kind==3)=false:=by rw[hk];rfl
 have hk4:(n.kind==4)=false:=by rw[hk];rfl
 have hk5:(n.kind==5)=false:=by rw[hk];rfl
 have hk6:(n.kind==6)=true:=by rw[hk];rfl
 clear hk;have HK0:=qh h0k;have hlq:=xZ m q next;obtain⟨⟨q2,a⟩,hq2⟩:∃r,buildT m q next=r:=⟨_,rfl⟩;rw[hq2] at hlq ⊢;simp only at hlq ⊢;have HL:Hid (q2.length≤100000):=qh (by omega);have HQ2:=qh hq2;have hlm:q.length+2*wtR m+1≤100000:=by omega
 have HLM:=qh hlm;unfold zG;clear h hP hu h0k hone hm hw hlm hlen hlq hq2;go_enter Tryz.func53,Tryz.ntmps53;go_upto_region 1 with (fail)
 obtain⟨W1,hW1⟩:∃W1,w.alloc (.cells #[.int .i64 n.kind,.int .u64 (n.set.1:Int),.int .u64 (n.set.2.1:Int),.int .u64 (n.set.2.2.1:Int),.int .u64 (n.set.2.2.2:Int),.slice uo n.kids.length uc] 116)=W1:=⟨_,rfl⟩;(try rw[hW1]);rw[hW1] at HS0;clear hW1;obtain⟨b,hb⟩:∃b,w.heap.size=b:=⟨_,rfl⟩;(try rw[hb]);rw[hb] at HS0;clear hb;obtain⟨⟨c0,c1,c2,c3,c4,c5⟩,_⟩:=HS0.out.x.cells;have hbl:=HS0.out.x.lt;obtain⟨g,o,cap,ku,kl,kc,hue,hul2,rfl,hnk,hso,_,hcell⟩:=HS0.out.kid HK0.out;injection hue with e1 e2 e3
 subst e1 e3;clear e2;have d0:=hcell 0 _ (by decide) rfl;have d1:=hcell 1 _ (by decide) rfl;have d2:=hcell 2 _ (by decide) rfl;have d3:=hcell 3 _ (by decide) rfl;have d4:=hcell 4 _ (by decide) rfl;have d5:=hcell 5 _ (by decide) rfl;simp only[Nat.zero_mul,Nat.zero_add,Nat.add_zero] at d0 d1 d2 d3 d4 d5;have HA:=qh (hB _ _ _ _ _ _ next _ HS0.out.e HS0.out.newP hnk (by have:=HLM.out;omega));unfold zG at HA;rw[HQ2.out] at HA;simp only at HA;clear hcell hnk;go_wp2_with fail
 go_fit HA.out;rintro e w2 ⟨rfl,h1,h2⟩;have H2:=qh (HS0.out.go h1 h2);have HB2:=qh (ZQ H2.out.e H2.out.newP a next HL.out);clear h1 h2 HA HS0 d0 d1 d2 d3 d4 d5 c0 c1 c2 c3 c4 c5;go_wp2_with fail
 go_fit HB2.out;rintro e w3 ⟨rfl,h1,h2⟩;have HF:=qh (H2.out.go h1 h2).fin;clear h1 h2;go_wp2_with fail
 go_ret
 exact⟨rfl,HF.out⟩
end
section
variable {P:Nat→Prop} {w:World} {B:Nat} {n:Nd} {q:List Sta} {first:List Int} {fv:Value}
theorem zBE {l:List Nd} {k:Nat} {m:Nd} (h:l[k]? =some m) (q:List Sta) (x:Nat):yH (l.drop k) q x=buildT m (yH (l.drop (k+1)) q x).1 (yH (l.drop (k+1)) q x).2:=by
 have hk:=(List.getElem?_eq_some_iff.1 h).1;rw[List.drop_eq_getElem_cons hk,(List.getElem?_eq_some_iff.1 h).2,yH]
theorem ki {l:List Nd} {k:Nat} {m:Nd} (h:l[k]? =some m):wtL (l.drop k)=wtR m+wtL (l.drop (k+1)):=by
 have hk:=(List.getElem?_eq_some_iff.1 h).1;rw[List.drop_eq_getElem_cons hk,(List.getElem?_eq_some_iff.1 h).2,wtL]
theorem ZX:∀(l:List Nd) (k:Nat),wtL (l.drop k)≤wtL l
 | _,0=>Nat.le_refl _
 | [],_+1=>Nat.le_refl _
 | n::l,k+1=>by
  rw[List.drop_succ_cons,wtL];have:=ZX l k;omega
set_option maxRecDepth 4000 in
theorem Vy (hk:n.kind=2) (hB:∀m,m∈n.kids→jd m) (h:xw P w B q first fv) (hP:∀k,w.heap.size≤k→¬P k) (next:Nat) (x:Value) (hx:zV P w n x) (hlen:q.length+2*wtR n≤100000):
  Calls Tryz.prog 53 #[.pointer (some ⟨B,0,none⟩),x,.int .i64 (next:Int)] w fun e w'=>e= .returned (.int .i64 ((buildT n q next).2:Int))∧xw P w' B (buildT n q next).1 first fv∧KeepW P w w':=by
 obtain⟨hs,u,rfl,hu⟩:=hx;obtain⟨uo,uc,rfl,hul,hub⟩:=hu.form;have HS0:=qh (BuF.start h hP hu);rw[show buildT n q next=yH n.kids q next by rw[buildT_eq,if_neg (by rw[hk];decide),if_pos hk]];have hw:wtR n=wtL n.kids+1:=qm n;have HW:Hid (q.length+2*wtL n.kids+2≤100000):=qh (by omega);have hll:=XX n.kids;have hk1:(n.kind==1)=false:=by rw[hk];rfl
 have hk2:(n.kind==2)=true:=by rw[hk];rfl
 obtain⟨nl,hnl⟩:∃nl,n.kids.length=nl:=⟨_,rfl⟩;have HN:=qh hnl;have HB:=qh hB;unfold zG;rw[hnl] at hul hub hll HS0 ⊢;have hnb:nl≤100000:=by omega
 clear hk hw hll hlen hnl hB;clear h hP hu;go_enter Tryz.func53,Tryz.ntmps53;go_upto_region 1 with (fail)
 obtain⟨W1,hW1⟩:∃W1,w.alloc (.cells #[.int .i64 n.kind,.int .u64 (n.set.1:Int),.int .u64 (n.set.2.1:Int),.int .u64 (n.set.2.2.1:Int),.int .u64 (n.set.2.2.2:Int),.slice uo nl uc] 116)=W1:=⟨_,rfl⟩;(try rw[hW1]);rw[hW1] at HS0;clear hW1;obtain⟨b,hb⟩:∃b,w.heap.size=b:=⟨_,rfl⟩;(try rw[hb]);rw[hb] at HS0;clear hb;obtain⟨⟨c0,c1,c2,c3,c4,c5⟩,_⟩:=HS0.out.x.cells;have hbl:=HS0.out.x.lt;have HQ0:Hid (∃qq:List Sta,BuF P w W1 B b n (.slice uo nl uc) qq first fv∧yH (n.kids.drop nl) q next=(qq,next)):=qh ⟨q,HS0.out,by rw[List.drop_eq_nil_of_le (by rw[HN.out];exact Nat.le_refl _),yH]⟩;clear HS0;have hn0:(0:Int)≤(nl:Int):=by omega
 have hnb2:(nl:Int)≤100000:=by omega
 go_wp2_with fail
 go_loopw [2,7] (fun s2 s7 wr=>∃(j nx:Nat),s7= .int .i64 ((j:Int)-1)∧j≤nl∧s2= .int .i64 (nx:Int)∧Hid (∃qq:List Sta,BuF P w wr B b n (.slice uo nl uc) qq first fv∧yH (n.kids.drop j) q next=(qq,nx))) (fun _ s7 _=>(intOf s7+1).toNat)
 case atStart=>exact⟨nl,next,rfl,Nat.le_refl _,rfl,HQ0⟩
 case round=>
  obtain⟨j,nx,rfl,hj,rfl,HX⟩:=hrel;clear HQ0 c0 c1 c2 c3 c4 c5 hbl;obtain⟨qq,hX⟩:=HX.out;have HQ:=qh hX;clear HX hX;obtain⟨⟨c0,c1,c2,c3,c4,c5⟩,_⟩:=HQ.out.1.x.cells;have hbl:=HQ.out.1.x.lt;rcases j with _ | j
  ·have HF:Hid (yH n.kids q next=(qq,nx)∧xw P wr B qq first fv∧KeepW P w wr):=qh ⟨HQ.out.2,HQ.out.1.fin⟩;clear HQ;go_wp2_with fail
   go_ret
   exact⟨by rw[HF.out.1];rfl,by rw[HF.out.1];exact HF.out.2⟩
  ·rw[show ((j+1:Nat):Int)-1=(j:Int) by omega];have j0:(0:Int)≤(j:Int):=(by omega);have j0':decide ((j:Int)<0)=false:=decide_eq_false (by omega);have jb:(j:Int)≤100000:=(by omega);have jl:(j:Int)<(nl:Int):=(by omega);have hla:j<n.kids.length:=(by have:=HN.out;omega);obtain⟨m,hm⟩:∃m,n.kids[j]=m:=⟨_,rfl⟩;have hil:n.kids[j]? =some m:=(by rw[List.getElem?_eq_getElem hla,hm]);have hmem:m∈n.kids:=List.mem_of_getElem? hil;obtain⟨g,o,cap,ku,kl,kc,hue,_,rfl,hnk,_,_,hcell⟩:=HQ.out.1.kid hil;injection hue with e1 e2 e3
   subst e1 e3;clear e2;have d0:=hcell 0 _ (by decide) rfl;have d1:=hcell 1 _ (by decide) rfl;have d2:=hcell 2 _ (by decide) rfl;have d3:=hcell 3 _ (by decide) rfl;have d4:=hcell 4 _ (by decide) rfl;have d5:=hcell 5 _ (by decide) rfl;simp only[Nat.add_zero,←Nat.add_assoc] at d0 d1 d2 d3 d4 d5;have hcq:=X0 (n.kids.drop (j+1)) q next;rw[HQ.out.2] at hcq;simp only at hcq;have hw1:=ki hil;have hw2:=ZX n.kids j;have HA:=qh (HB.out m hmem _ _ _ _ _ _ nx _ HQ.out.1.e HQ.out.1.newP hnk (by have:=HW.out;omega));have HE:Hid (yH (n.kids.drop j) q next=buildT m qq nx):=qh (by rw[zBE hil,HQ.out.2]);unfold zG at HA;obtain⟨⟨q2,a⟩,hq2⟩:∃r,buildT m qq nx=r:=⟨_,rfl⟩;rw[hq2] at HA HE;simp only at HA;clear hcell hnk hil hmem hla hm hcq hw1 hw2 hq2;go_wp2_with fail
   go_fit HA.out;rintro e w2 ⟨rfl,h1,h2⟩;have H2:=qh (HQ.out.1.go h1 h2);clear h1 h2 HA HQ d0 d1 d2 d3 d4 d5 c0 c1 c2 c3 c4 c5 hbl;go_wp2_with fail
   go_roundw
   case rel=>exact⟨j,a,rfl,by omega,rfl,qh ⟨q2,H2.out,HE.out⟩⟩
   case measure=>simp[intOf]<;>omega
theorem Vz {l:List Nd} {k:Nat} {m:Nd} (h:l[k]? =some m) (q:List Sta) (a x:Nat):qP (l.drop k) q a x=qP (l.drop (k+1)) ((buildT m q x).1++ [zJ a (buildT m q x).2]) (buildT m q x).1.length x:=by
 have hk:=(List.getElem?_eq_some_iff.1 h).1;rw[List.drop_eq_getElem_cons hk,(List.getElem?_eq_some_iff.1 h).2,qP]
set_option maxRecDepth 4000 in
theorem KA (hk:n.kind=3) (hB:∀m,m∈n.kids→jd m) (hn2:2≤n.kids.length) (h:xw P w B q first fv) (hP:∀k,w.heap.size≤k→¬P k) (next:Nat) (x:Value) (hx:zV P w n x) (hlen:q.length+2*wtR n≤100000):
  Calls Tryz.prog 53 #[.pointer (some ⟨B,0,none⟩),x,.int .i64 (next:Int)] w fun e w'=>e= .returned (.int .i64 ((buildT n q next).2:Int))∧xw P w' B (buildT n q next).1 first fv∧KeepW P w w':=by
 obtain⟨hs,u,rfl,hu⟩:=hx;obtain⟨uo,uc,rfl,hul,hub⟩:=hu.form;have HS0:=qh (BuF.start h hP hu);rw[show buildT n q next=XY n.kids q next by rw[buildT_eq,if_neg (by rw[hk];decide),if_neg (by rw[hk];decide),if_pos hk]];have hw:wtR n=wtL n.kids+1:=qm n;have HW:Hid (q.length+2*wtL n.kids+2≤100000):=qh (by omega);have hll:=XX n.kids;have hk1:(n.kind==1)=false:=by rw[hk];rfl
 have hk2:(n.kind==2)=false:=by rw[hk];rfl
 have hk3:(n.kind==3)=true:=by rw[hk];rfl
 obtain⟨nl,hnl⟩:∃nl,n.kids.length=nl:=⟨_,rfl⟩;have HN:=qh hnl;have HB:=qh hB;unfold zG;rw[hnl] at hul hub hll HS0 hn2 ⊢;have hnb:nl≤100000:=by omega
 clear hk hw hll hlen hnl hB;clear h hP hu;go_enter Tryz.func53,Tryz.ntmps53;go_upto_region 1 with (fail)
 obtain⟨W1,hW1⟩:∃W1,w.alloc (.cells #[.int .i64 n.kind,.int .u64 (n.set.1:Int),.int .u64 (n.set.2.1:Int),.int .u64 (n.set.2.2.1:Int),.int .u64 (n.set.2.2.2:Int),.slice uo nl uc] 116)=W1:=⟨_,rfl⟩;(try rw[hW1]);rw[hW1] at HS0;clear hW1;obtain⟨b,hb⟩:∃b,w.heap.size=b:=⟨_,rfl⟩;(try rw[hb]);rw[hb] at HS0;clear hb;obtain⟨⟨c0,c1,c2,c3,c4,c5⟩,_⟩:=HS0.out.x.cells;have hbl:=HS0.out.x.lt;have hn0:(0:Int)<(nl:Int):=by omega
 have hnb2:(nl:Int)≤100000:=by omega
 have hla:0<n.kids.length:=by have:=HN.out;omega
 obtain⟨m,hm⟩:∃m,n.kids[0]=m:=⟨_,rfl⟩;have hil:n.kids[0]? =some m:=by rw[List.getElem?_eq_getElem hla,hm]
 have hmem:m∈n.kids:=List.mem_of_getElem? hil;obtain⟨g,o,cap,ku,kl,kc,hue,_,rfl,hnk,_,_,hcell⟩:=HS0.out.kid hil;injection hue with e1 e2 e3
 subst e1 e3;clear e2;have d0:=hcell 0 _ (by decide) rfl;have d1:=hcell 1 _ (by decide) rfl;have d2:=hcell 2 _ (by decide) rfl;have d3:=hcell 3 _ (by decide) rfl;have d4:=hcell 4 _ (by decide) rfl;have d5:=hcell 5 _ (by decide) rfl;simp only[Nat.zero_mul,Nat.zero_add,Nat.add_zero] at d0 d1 d2 d3 d4 d5;have hcons:n.kids=m::n.kids.drop 1:=by
  have:=List.drop_eq_getElem_cons hla;rw[List.drop_zero,hm] at this;exact this
 have HE0:Hid (XY n.kids q next=qP (n.kids.drop 1) (buildT m q next).1 (buildT m q next).2 next):=qh (by
  conv=>lhs;rw[hcons]
  rw[XY])
 have HW1:Hid (wtL n.kids=wtR m+wtL (n.kids.drop 1)):=qh (by
  conv=>lhs;rw[hcons]
  rw[wtL])
 have HA:=qh (HB.out m hmem _ _ _ _ _ _ next _ HS0.out.e HS0.out.newP hnk (by have:=HW.out;have:=HW1.out;omega));have HLQ:=qh (xZ m q next);unfold zG at HA;obtain⟨⟨q2,a0⟩,hq2⟩:∃r,buildT m q next=r:=⟨_,rfl⟩;rw[hq2] at HA HE0 HLQ;simp only at HA HE0 HLQ;clear hcell hnk hil hmem hla hm hq2 hcons;go_upto_region 11 with (fail)
 go_wp2_with fail
 go_fit HA.out;rintro e w2 ⟨rfl,h1,h2⟩;have H2:=qh (HS0.out.go h1 h2);clear h1 h2 HA d0 d1 d2 d3 d4 d5 c0 c1 c2 c3 c4 c5 hbl HS0;obtain⟨⟨c0,c1,c2,c3,c4,c5⟩,_⟩:=H2.out.x.cells;have hbl:=H2.out.x.lt;obtain⟨n1,hn1⟩:∃n1:Nat,nl=n1+1:=⟨nl-1,by omega⟩;subst hn1;have hs1:((n1+1:Nat):Int)-1=(n1:Int):=by omega
 have HQ0:Hid (∃qq:List Sta,BuF P w w2 B b n (.slice (some ⟨g,o,none⟩) (n1+1) uc) qq first fv∧qP (n.kids.drop (0+1)) qq a0 next=XY n.kids q next∧qq.length+2*wtL (n.kids.drop (0+1))+2≤100000):=qh ⟨q2,H2.out,HE0.out.symm,by have:=HW.out;have:=HW1.out;have:=HLQ.out;show q2.length+2*wtL (n.kids.drop 1)+2≤_;omega⟩;clear H2 HE0 HW1 HLQ HW;go_wp2_with fail
 go_loopw [8,57] (fun s8 s57 wr=>∃(i a:Nat),s57= .int .i64 (i:Int)∧i≤n1∧s8= .int .i64 (a:Int)∧Hid (∃qq:List Sta,BuF P w wr B b n (.slice (some ⟨g,o,none⟩) (n1+1) uc) qq first fv∧qP (n.kids.drop (i+1)) qq a next=XY n.kids q next∧qq.length+2*wtL (n.kids.drop (i+1))+2≤100000)) (fun _ s57 _=>n1-(intOf s57).toNat)
 case atStart=>exact⟨0,a0,rfl,Nat.zero_le _,rfl,HQ0⟩
 case round=>
  obtain⟨i,a,rfl,hi,rfl,HX⟩:=hrel;clear HQ0 c0 c1 c2 c3 c4 c5 hbl;obtain⟨qq,hX⟩:=HX.out;have HQ:=qh hX;clear HX hX;have i0:(0:Int)≤(i:Int):=by omega
  have ib:(i:Int)≤100000:=by omega
  by_cases hlt:i<n1
  ·have hli:(i:Int)<(n1:Int):=(by omega);have hla:i+1<n.kids.length:=(by have:=HN.out;omega);obtain⟨m,hm⟩:∃m,n.kids[i+1]=m:=⟨_,rfl⟩;have hil:n.kids[i+1]? =some m:=(by rw[List.getElem?_eq_getElem hla,hm]);have hmem:m∈n.kids:=List.mem_of_getElem? hil;obtain⟨g',o',cap',ku,kl,kc,hue,_,rfl,hnk,hso,hkk,hcell⟩:=HQ.out.1.kid hil;injection hue with e1 e2 e3
   injection e1 with e1
   injection e1 with e4 e5
   subst e4 e5;clear e2 e3;have eo:∀j,o+((i+1)*6+j)=o+6+i*6+j:=fun j=>(by omega);have d0:=hcell 0 _ (by decide) rfl;have d1:=hcell 1 _ (by decide) rfl;have d2:=hcell 2 _ (by decide) rfl;have d3:=hcell 3 _ (by decide) rfl;have d4:=hcell 4 _ (by decide) rfl;have d5:=hcell 5 _ (by decide) rfl;rw[eo] at d0 d1 d2 d3 d4 d5;rw[Nat.add_zero] at d0;have hgl:=rlt d0;have hb2:=zA wr (.cells #[.int .i64 m.kind,.int .u64 (m.set.1:Int),.int .u64 (m.set.2.1:Int),.int .u64 (m.set.2.2.1:Int),.int .u64 (m.set.2.2.2:Int),.slice kl m.kids.length kc] 116);have hQ2:=HQ.out.1.under hb2;have H2:=qh hQ2;have hwd:=ki hil;have hHQ:=HQ.out.2.2;have HA:=qh (HB.out m hmem _ _ _ _ _ _ next _ hQ2.e hQ2.newP (zV.below hnk hb2) (by omega));have hbn:=xZ m qq next;have HE0:Hid (qP (n.kids.drop (i+1+1)) ((buildT m qq next).1++ [zJ a (buildT m qq next).2]) (buildT m qq next).1.length next=XY n.kids q next):=qh (by rw[←Vz hil];exact HQ.out.2.1);unfold zG at HA;obtain⟨⟨q2,a2⟩,hq2⟩:∃r,buildT m qq next=r:=⟨_,rfl⟩;rw[hq2] at HA HE0 hbn;simp only at HA HE0 hbn;have HL:Hid (q2.length+1+2*wtL (n.kids.drop (i+1+1))+2≤100000∧q2.length≤100000):=qh ⟨by omega,by omega⟩;have hBX:=qh (boxN.new 116 wr m.kind m.set (.slice kl m.kids.length kc));obtain⟨⟨x0,x1,x2,x3,x4,x5⟩,_⟩:=hBX.out.cells;clear hcell hnk hil hmem hla hm hq2 hb2 hQ2 hwd hHQ hbn hso hkk eo;go_wp2_with fail
   go_fit HA.out;rintro e w3 ⟨rfl,h1,h2⟩;have H3:=qh (H2.out.go h1 h2);have HK:=qh (ZQ H3.out.e H3.out.newP a a2 HL.out.2);clear h1 h2 HA H2 HQ d0 d1 d2 d3 d4 d5 hBX x0 x1 x2 x3 x4 x5;go_wp2_with fail
   go_fit HK.out;rintro e w4 ⟨rfl,h1,h2⟩;have H4:=qh (H3.out.go h1 h2);clear h1 h2 HK H3;go_wp2_with fail
   go_roundw
   case rel=>exact⟨i+1,q2.length,by go_num,hlt,rfl,qh ⟨_,H4.out,HE0.out,by rw[List.length_append];exact HL.out.1⟩⟩
   case measure=>simp[intOf]<;>omega
  ·have hli:¬(i:Int)<(n1:Int):=(by omega);have HF:Hid (XY n.kids q next=(qq,a)∧xw P wr B qq first fv∧KeepW P w wr):=by
    refine qh ⟨?_,HQ.out.1.fin⟩;rw[←HQ.out.2.1,List.drop_eq_nil_of_le (by have:=HN.out;omega),qP]
   clear HQ;go_wp2_with fail
   go_ret
   exact⟨by rw[HF.out.1];rfl,by rw[HF.out.1];exact HF.out.2⟩
end
section
variable {X:Nat→Prop} {w:World} {R m:Nat} {sv bv lv x:Value} {S:List St4} {E:Nat→Nat→Bool} {n:Nd}
set_option maxRecDepth 4000 in
theorem zED (hk:n.kind=2) (hB:∀k,k∈n.kids→zG3 k) (hr:qF X w R sv bv lv S m E) (hX:∀k,w.heap.size≤k→¬X k) (hx:zV (fun k=>¬zq R sv bv k) w n x) (hlen:0<S.length∧S.length+(zU n).length≤m) (hm:m≤100000):
  Calls Tryz.prog 49 #[.pointer (some ⟨R,0,none⟩),x,.int .i64 (m:Int)] w fun e w'=>zDE X R sv bv lv S m E n w w' e:=by
 obtain⟨hs,u,rfl,hu⟩:=hx;obtain⟨uo,uc,rfl,hul,hub⟩:=hu.form;have HS0:=qh (LayF.start hr hu (by omega));have hmk:=fun W=>yr m (by omega) W;have HG:Hid (glN n S.length=yf n.kids S.length xE∧S++zU n=S++zL n.kids):=qh ⟨by rw[ZK,if_neg (by rw[hk];decide),if_pos hk],by rw[qW n (by rw[hk];decide)]⟩;have hk1:(n.kind==1)=false:=by rw[hk];rfl
 have hk2:(n.kind==2)=true:=by rw[hk];rfl
 have HLN:Hid (0<S.length∧S.length+(zL n.kids).length≤m):=qh (by
  have h1:=congrArg List.length HG.out.2;rw[List.length_append,List.length_append] at h1;omega)
 have HB:=qh hB;obtain⟨nl,hnl⟩:∃nl,n.kids.length=nl:=⟨_,rfl⟩;have HN:=qh hnl;rw[hnl] at hul hub HS0 ⊢;have hnb:(nl:Int)≤9223372036854775807:=by omega
 clear hk hB hlen hnl;unfold zG;have HX:=qh hX;clear hr hu hX;go_enter Tryz.func49,Tryz.ntmps49;go_upto_region 2 with (fail)
 obtain⟨W1,hW1⟩:∃W1,((w.alloc (.cells #[.int .i64 n.kind,.int .u64 (n.set.1:Int),.int .u64 (n.set.2.1:Int),.int .u64 (n.set.2.2.1:Int),.int .u64 (n.set.2.2.2:Int),.slice uo nl uc] 77)).alloc (.cells #[.bool false,.slice none 0 0,.slice none 0 0] 109)).alloc (.cells (boolC (noneB m)).toArray 4)=W1:=⟨_,rfl⟩;(try rw[hW1]);rw[hW1] at HS0;clear hW1 hmk;obtain⟨b,hb⟩:∃b,w.heap.size=b:=⟨_,rfl⟩;(try rw[hb]);rw[hb] at HS0 HX;have HBB:=qh hb;clear hb;obtain⟨⟨c0,c1,c2,c3,c4,c5⟩,_⟩:=HS0.out.1.x.cells;have hbl:=HS0.out.1.x.lt;obtain⟨⟨p0,p1,p2⟩,p3,p4,p5⟩:=HS0.out.1.p.cells;have hpl:=HS0.out.1.p.lt;go_upto_region 10 with (fail)
 have hsz:=HS0.out.2;have hba:=zA W1 (.cells #[.bool true,.slice (some ⟨b+1+1,0,none⟩) m m,.slice (some ⟨b+1+1,0,none⟩) m m] 109);have hbx:=box3.new 109 W1 (.bool true) (.slice (some ⟨b+1+1,0,none⟩) m m) (.slice (some ⟨b+1+1,0,none⟩) m m);have hnoc:=HS0.out.1.r.ownlt W1.heap.size (Nat.le_refl _);rw[←hsz] at hbx hnoc;have H1:Hid (∃(sw fV lV:Value),PaI X w (W1.alloc (.cells #[.bool true,.slice (some ⟨b+1+1,0,none⟩) m m,.slice (some ⟨b+1+1,0,none⟩) m m] 109)) R sv sw bv lv (S++zL (n.kids.take 0)) m (xu E (yf (n.kids.take 0) S.length xE).fol) b n (.slice uo nl uc) (yf (n.kids.take 0) S.length xE).null fV lV (yf (n.kids.take 0) S.length xE).first (yf (n.kids.take 0) S.length xE).last):=by
  refine qh ⟨sv,.slice (some ⟨b+1+1,0,none⟩) m m,.slice (some ⟨b+1+1,0,none⟩) m m,?_⟩;rw[List.take_zero,zL,List.append_nil,yf];exact PaI.congr ⟨HS0.out.1.more hsz.symm hba,hbx,HS0.out.1.nrow.under hba,HS0.out.1.nrow.under hba,hnoc⟩ fun i j=>by simp[xu,xE,Yi]
 obtain⟨W2,hW2⟩:∃W2,W1.alloc (.cells #[.bool true,.slice (some ⟨b+1+1,0,none⟩) m m,.slice (some ⟨b+1+1,0,none⟩) m m] 109)=W2:=⟨_,rfl⟩;rw[hW2] at H1;(try rw[hW2]);rw[←hsz];clear hba hbx hnoc hW2 hsz c0 c1 c2 c3 c4 c5 hbl p0 p1 p2 p3 p4 p5 hpl HS0;go_wp2_with fail
 go_loopw [10] (fun s10 wr=>∃i:Nat,s10= .int .i64 (i:Int)∧i≤nl∧Hid (∃(sw fV lV:Value),PaI X w wr R sv sw bv lv (S++zL (n.kids.take i)) m (xu E (yf (n.kids.take i) S.length xE).fol) b n (.slice uo nl uc) (yf (n.kids.take i) S.length xE).null fV lV (yf (n.kids.take i) S.length xE).first (yf (n.kids.take i) S.length xE).last)) (fun s10 _=>nl-(intOf s10).toNat)
 case atStart=>exact⟨0,rfl,Nat.zero_le _,H1⟩
 case round=>
  obtain⟨i,rfl,hi,HX0⟩:=hrel;clear H1;obtain⟨sw,fV,lV,hQ⟩:=HX0.out;have HQ:=qh hQ;clear HX0 hQ;have i0:(0:Int)≤(i:Int):=by omega
  obtain⟨⟨c0,c1,c2,c3,c4,c5⟩,_⟩:=HQ.out.l.x.cells;have hbl:=HQ.out.l.x.lt;by_cases hlt:i<nl
  ·have hli:(i:Int)<(nl:Int):=(by omega);have hla:i<n.kids.length:=(by have:=HN.out;omega);obtain⟨k1,hk⟩:∃k1,n.kids[i]=k1:=⟨_,rfl⟩;have hil:n.kids[i]? =some k1:=(by rw[List.getElem?_eq_getElem hla,hk]);obtain⟨g,o,cap,ku,kl,kc,hue,_,rfl,hnk,hcell⟩:=HQ.out.l.kid hil;injection hue with e1 e2 e3
   subst e1 e3;clear e2;have d0:=hcell 0 _ (by decide) rfl;have d1:=hcell 1 _ (by decide) rfl;have d2:=hcell 2 _ (by decide) rfl;have d3:=hcell 3 _ (by decide) rfl;have d4:=hcell 4 _ (by decide) rfl;have d5:=hcell 5 _ (by decide) rfl;simp only[Nat.add_zero,←Nat.add_assoc] at d0 d1 d2 d3 d4 d5;have hsn:=Zo hil;have hle:=yq n.kids (i+1);have HA:=qh (HB.out k1 (List.mem_of_getElem? hil) _ _ _ _ _ _ _ _ _ _ HQ.out.l.r (HQ.out.new3 (by rw[HBB.out];exact HX.out)) hnk (by
    have h1:=HLN.out;rw[hsn,List.length_append] at hle;rw[List.length_append];omega) hm)
   have HGS:Hid (yf (n.kids.take (i+1)) S.length xE=qe (yf (n.kids.take i) S.length xE) (glN k1 (S++zL (n.kids.take i)).length)∧S++zL (n.kids.take (i+1))=(S++zL (n.kids.take i))++zU k1):=qh ⟨by rw[List.take_add_one,hil,List.length_append];exact Qi _ _ _ _,by rw[hsn,List.append_assoc]⟩;obtain⟨S1,hS1⟩:∃S1,S++zL (n.kids.take i)=S1:=⟨_,rfl⟩;obtain⟨G1,hG1⟩:∃G1,yf (n.kids.take i) S.length xE=G1:=⟨_,rfl⟩;rw[hS1] at HA HGS HQ;rw[hG1] at HA HGS HQ;obtain⟨G2,hG2⟩:∃G2,glN k1 S1.length=G2:=⟨_,rfl⟩;rw[hG2] at HGS;unfold zG at HA;have HGE:=qh hG2;clear hcell hnk hil hla hk hsn hle hS1 hG1 hG2;go_wp2_with fail
   go_fit HA.out;rintro e w2 ⟨sx,kf,kla,he,hR,hGo,hf,hl⟩;rw[HGE.out] at he hR hf hl;subst he;have h2:=HQ.out.go hR hGo;have H2:=qh (And.intro h2 (And.intro (rows_of HQ.out hf) (rows_of HQ.out hl)));obtain⟨fo,fc,rfl⟩:=xP hf;obtain⟨lo,lc,rfl⟩:=xP hl;clear hR hGo hf hl h2 HA HQ c0 c1 c2 c3 c4 c5 hbl d0 d1 d2 d3 d4 d5;go_upto_region 14 with (fail)
   have hba:=zA w2 (.cells #[.bool G2.null,.slice fo m fc,.slice lo m lc] 109);have H3:=qh (And.intro (H2.out.1.under hba) (KiI.new (kz:=G2.null) H2.out.1 H2.out.2.1 H2.out.2.2));obtain⟨W3,hW3⟩:∃W3,w2.alloc (.cells #[.bool G2.null,.slice fo m fc,.slice lo m lc] 109)=W3:=⟨_,rfl⟩;rw[hW3] at H3;(try rw[hW3]);obtain⟨c,hc⟩:∃c,w2.heap.size=c:=⟨_,rfl⟩;rw[hc] at H3;(try rw[hc]);clear hba hW3 hc H2;obtain⟨vo,vc,hfV⟩:=xP H3.out.1.f;obtain⟨zo,zc,hlV⟩:=xP H3.out.1.la;subst hfV hlV;have HFO:=qh (ya H3.out.1.l.r (H3.out.1.la.mono (own2:=zq R sx bv) fun _ _ e=> .inl e) (H3.out.2.f.mono (own2:=zq R sx bv) fun _ _ e=> .inl e) hm (H3.out.1.new3 (by rw[HBB.out];exact HX.out)));obtain⟨⟨⟨x0,x1,x2⟩,f0,f1,f2⟩,hxl⟩:=H3.out.1.cells;obtain⟨⟨q0,q1,q2⟩,hql⟩:=H3.out.2.cells;go_wp2_with fail
   go_fit HFO.out;rintro e w4 ⟨rfl,hR,hGo⟩;have H4:=qh (And.intro (H3.out.1.go hR hGo) (H3.out.2.go hGo));clear hR hGo HFO H3 x0 x1 x2 f0 f1 f2 hxl q0 q1 q2 hql;obtain⟨⟨⟨x0,x1,x2⟩,f0,f1,f2⟩,hxl⟩:=H4.out.1.cells;obtain⟨⟨q0,q1,q2⟩,hql⟩:=H4.out.2.cells;obtain⟨pn,hpn⟩:∃pn,G1.null=pn:=⟨_,rfl⟩;obtain⟨kn,hkn⟩:∃kn,G2.null=kn:=⟨_,rfl⟩;rw[hpn] at H4 x0;rw[hkn] at H4 q0;have HPN:=qh (And.intro hpn hkn);clear hpn hkn;rcases pn with _ | _
   ·rcases kn with _ | _
    ·have H8:=qh (And.intro (H4.out.1.set2 H4.out.2.la) (H4.out.2.store (i:=2) (y:= .slice lo m lc)));go_upto_region 20 with (fail)
     obtain⟨W8,hW8⟩:∃W8,w4.setCell ⟨b+3,2,none⟩ (.slice lo m lc)=W8:=⟨_,rfl⟩;rw[hW8] at H8;(try rw[hW8]);clear hW8 H4;clear x0 x1 x2 f0 f1 f2 hxl q0 q1 q2 hql;obtain⟨⟨⟨x0,x1,x2⟩,f0,f1,f2⟩,hxl⟩:=H8.out.1.cells;obtain⟨⟨q0,q1,q2⟩,hql⟩:=H8.out.2.cells;have H9:=qh (H8.out.1.set0 false);have HT:Hid (qe G1 G2=⟨false,G1.first,G2.last,zm (xu G1.fol G2.fol) G1.last G2.first⟩):=qh (by unfold qe;rw[HPN.out.1,HPN.out.2];rfl);go_wp2_with fail
     go_roundw
     case rel=>
      refine⟨i+1,by go_num,hlt,?_⟩;rw[HGS.out.1,HGS.out.2,HT.out];exact qh ⟨sx,_,_,H9.out.congr fun i j=>by simp[xu,zm,Bool.or_assoc]⟩
     case measure=>simp[intOf]<;>omega
    ·have HO2:=qh (vV H4.out.1 H4.out.1.la H4.out.2.la hm);go_wp2_with fail
     go_fit HO2.out;rintro e w7 ⟨Gb,rfl,hO,hb7⟩;have H7:=qh (And.intro (H4.out.1.under hb7) (And.intro (H4.out.2.under hb7) hO));clear hO hb7 HO2 H4;clear x0 x1 x2 f0 f1 f2 hxl q0 q1 q2 hql;have H8:=qh (And.intro (H7.out.1.set2 H7.out.2.2) (H7.out.2.1.store (i:=2) (y:= .slice (some ⟨Gb,0,none⟩) m m)));obtain⟨⟨⟨x0,x1,x2⟩,f0,f1,f2⟩,hxl⟩:=H7.out.1.cells;go_upto_region 20 with (fail)
     obtain⟨W8,hW8⟩:∃W8,w7.setCell ⟨b+3,2,none⟩ (.slice (some ⟨Gb,0,none⟩) m m)=W8:=⟨_,rfl⟩;rw[hW8] at H8;(try rw[hW8]);clear hW8 H7 x0 x1 x2 f0 f1 f2 hxl;obtain⟨⟨⟨x0,x1,x2⟩,f0,f1,f2⟩,hxl⟩:=H8.out.1.cells;obtain⟨⟨q0,q1,q2⟩,hql⟩:=H8.out.2.cells;have H9:=qh (H8.out.1.set0 false);have HT:Hid (qe G1 G2=⟨false,G1.first,orF G1.last G2.last,zm (xu G1.fol G2.fol) G1.last G2.first⟩):=qh (by unfold qe;rw[HPN.out.1,HPN.out.2];rfl);go_wp2_with fail
     go_roundw
     case rel=>
      refine⟨i+1,by go_num,hlt,?_⟩;rw[HGS.out.1,HGS.out.2,HT.out];exact qh ⟨sx,_,_,H9.out.congr fun i j=>by simp[xu,zm,Bool.or_assoc]⟩
     case measure=>simp[intOf]<;>omega
   ·rcases kn with _ | _
    ·have HO1:=qh (vV H4.out.1 H4.out.1.f H4.out.2.f hm);go_wp2_with fail
     go_fit HO1.out;rintro e w5 ⟨Ga,rfl,hO,hb5⟩;have H5:=qh (And.intro (H4.out.1.under hb5) (And.intro (H4.out.2.under hb5) hO));clear hO hb5 HO1 H4;clear x0 x1 x2 f0 f1 f2 hxl q0 q1 q2 hql;have H6:=qh (And.intro (H5.out.1.set1 H5.out.2.2) (H5.out.2.1.store (i:=1) (y:= .slice (some ⟨Ga,0,none⟩) m m)));obtain⟨⟨⟨x0,x1,x2⟩,f0,f1,f2⟩,hxl⟩:=H5.out.1.cells;go_upto_region 17 with (fail)
     obtain⟨W6,hW6⟩:∃W6,w5.setCell ⟨b+3,1,none⟩ (.slice (some ⟨Ga,0,none⟩) m m)=W6:=⟨_,rfl⟩;rw[hW6] at H6;(try rw[hW6]);clear hW6 H5 x0 x1 x2 f0 f1 f2 hxl;obtain⟨⟨⟨x0,x1,x2⟩,f0,f1,f2⟩,hxl⟩:=H6.out.1.cells;obtain⟨⟨q0,q1,q2⟩,hql⟩:=H6.out.2.cells;have H8:=qh (And.intro (H6.out.1.set2 H6.out.2.la) (H6.out.2.store (i:=2) (y:= .slice lo m lc)));go_upto_region 20 with (fail)
     obtain⟨W8,hW8⟩:∃W8,W6.setCell ⟨b+3,2,none⟩ (.slice lo m lc)=W8:=⟨_,rfl⟩;rw[hW8] at H8;(try rw[hW8]);clear hW8 H6;clear x0 x1 x2 f0 f1 f2 hxl q0 q1 q2 hql;obtain⟨⟨⟨x0,x1,x2⟩,f0,f1,f2⟩,hxl⟩:=H8.out.1.cells;obtain⟨⟨q0,q1,q2⟩,hql⟩:=H8.out.2.cells;have H9:=qh (H8.out.1.set0 false);have HT:Hid (qe G1 G2=⟨false,orF G1.first G2.first,G2.last,zm (xu G1.fol G2.fol) G1.last G2.first⟩):=qh (by unfold qe;rw[HPN.out.1,HPN.out.2];rfl);go_wp2_with fail
     go_roundw
     case rel=>
      refine⟨i+1,by go_num,hlt,?_⟩;rw[HGS.out.1,HGS.out.2,HT.out];exact qh ⟨sx,_,_,H9.out.congr fun i j=>by simp[xu,zm,Bool.or_assoc]⟩
     case measure=>simp[intOf]<;>omega
    ·have HO1:=qh (vV H4.out.1 H4.out.1.f H4.out.2.f hm);go_wp2_with fail
     go_fit HO1.out;rintro e w5 ⟨Ga,rfl,hO,hb5⟩;have H5:=qh (And.intro (H4.out.1.under hb5) (And.intro (H4.out.2.under hb5) hO));clear hO hb5 HO1 H4;clear x0 x1 x2 f0 f1 f2 hxl q0 q1 q2 hql;have H6:=qh (And.intro (H5.out.1.set1 H5.out.2.2) (H5.out.2.1.store (i:=1) (y:= .slice (some ⟨Ga,0,none⟩) m m)));obtain⟨⟨⟨x0,x1,x2⟩,f0,f1,f2⟩,hxl⟩:=H5.out.1.cells;go_upto_region 17 with (fail)
     obtain⟨W6,hW6⟩:∃W6,w5.setCell ⟨b+3,1,none⟩ (.slice (some ⟨Ga,0,none⟩) m m)=W6:=⟨_,rfl⟩;rw[hW6] at H6;(try rw[hW6]);clear hW6 H5 x0 x1 x2 f0 f1 f2 hxl;obtain⟨⟨⟨x0,x1,x2⟩,f0,f1,f2⟩,hxl⟩:=H6.out.1.cells;obtain⟨⟨q0,q1,q2⟩,hql⟩:=H6.out.2.cells;have HO2:=qh (vV H6.out.1 H6.out.1.la H6.out.2.la hm);go_wp2_with fail
     go_fit HO2.out;rintro e w7 ⟨Gb,rfl,hO,hb7⟩;have H7:=qh (And.intro (H6.out.1.under hb7) (And.intro (H6.out.2.under hb7) hO));clear hO hb7 HO2 H6;clear x0 x1 x2 f0 f1 f2 hxl q0 q1 q2 hql;have H8:=qh (And.intro (H7.out.1.set2 H7.out.2.2) (H7.out.2.1.store (i:=2) (y:= .slice (some ⟨Gb,0,none⟩) m m)));obtain⟨⟨⟨x0,x1,x2⟩,f0,f1,f2⟩,hxl⟩:=H7.out.1.cells;go_upto_region 20 with (fail)
     obtain⟨W8,hW8⟩:∃W8,w7.setCell ⟨b+3,2,none⟩ (.slice (some ⟨Gb,0,none⟩) m m)=W8:=⟨_,rfl⟩;rw[hW8] at H8;(try rw[hW8]);clear hW8 H7 x0 x1 x2 f0 f1 f2 hxl;obtain⟨⟨⟨x0,x1,x2⟩,f0,f1,f2⟩,hxl⟩:=H8.out.1.cells;obtain⟨⟨q0,q1,q2⟩,hql⟩:=H8.out.2.cells;have H9:=qh (H8.out.1.set0 true);have HT:Hid (qe G1 G2=⟨true,orF G1.first G2.first,orF G1.last G2.last,zm (xu G1.fol G2.fol) G1.last G2.first⟩):=qh (by unfold qe;rw[HPN.out.1,HPN.out.2];rfl);go_wp2_with fail
     go_roundw
     case rel=>
      refine⟨i+1,by go_num,hlt,?_⟩;rw[HGS.out.1,HGS.out.2,HT.out];exact qh ⟨sx,_,_,H9.out.congr fun i j=>by simp[xu,zm,Bool.or_assoc]⟩
     case measure=>simp[intOf]<;>omega
  ·have hli:¬(i:Int)<(nl:Int):=(by omega);have hall:n.kids.take i=n.kids:=List.take_of_length_le (by have:=HN.out;omega);rw[hall] at HQ;obtain⟨G1,hG1⟩:∃G1,yf n.kids S.length xE=G1:=⟨_,rfl⟩;rw[hG1] at HQ HG;obtain⟨⟨⟨x0,x1,x2⟩,f0,f1,f2⟩,hxl⟩:=HQ.out.cells;obtain⟨⟨p0,p1,p2⟩,p3,p4,p5⟩:=HQ.out.l.p.cells;have hpl:=HQ.out.l.p.lt;obtain⟨vo,vc,hfV⟩:=xP HQ.out.f;obtain⟨zo,zc,hlV⟩:=xP HQ.out.la;subst hfV hlV;have HF:=qh (HQ.out.l.lessC.fin (z:=G1.null) HQ.out.f.acc1 HQ.out.la.acc1);obtain⟨⟨y0,y1,y2⟩,_⟩:=HF.out.1.cells;unfold setP at y0 y1 y2 HF;clear hall hG1;go_wp2_with fail
   exact bodyPost_ret (v:= .agg #[.bool G1.null,.slice vo m vc,.slice zo m zc]) (by simp[results,Tryz.results49,go_sem,y0,y1,y2]) rfl (jS HG.out.1 HG.out.2 HF.out.2.1 HF.out.2.2.1 HF.out.2.2.2.1 HF.out.2.2.2.2)
end
theorem mayL_mem2:∀ {l:List Nd} {m:Nd},qu l=true→m∈l→Z8 m=true
 | n::l,m,h,hm=>by
  rw[qu,Bool.and_eq_true] at h;rcases List.mem_cons.1 hm with rfl | hm
  ·exact h.1
  ·exact mayL_mem2 h.2 hm
theorem lays_any:∀(N:Nat) (n:Nd),wtR n≤N→Z8 n=true→zG3 n
 | 0,n,h,_=>absurd (Y9 n) (by omega)
 | N+1,n,h,hm=>by
  have hf:Z7 n.kind n.set n.kids.length=true∧qu n.kids=true:=by
   cases n with
   | mk k s l=>exact qw hm
  obtain⟨f0,f6,f1,f4,f2,_⟩:=qx hf.1;have hk:=qm n;have hB:∀m,m∈n.kids→zG3 m:=fun m hmem=>lays_any N m (by have:=kw n.kids m hmem;omega) (mayL_mem2 hf.2 hmem);have hone:4≤n.kind→∃m,n.kids= [m]:=fun h4=>by
   have h1:=f4 h4
   match hl:n.kids with
   | [m]=>exact⟨m,rfl⟩
   | []=>rw[hl] at h1;cases h1
   | _::_::_=>rw[hl] at h1;simp at h1
  intro X w R sv bv lv S m E x h1 h2 h3 h4 h5;by_cases k1:n.kind=1
  ·exact rlay_bytes k1 (List.eq_nil_of_length_eq_zero (f1 (by omega))) h1 h2 h3 h4 h5
  by_cases k2:n.kind=2
  ·exact zED k2 hB h1 h2 h3 h4 h5
  by_cases k3:n.kind=3
  ·exact zEF k3 hB h1 h2 h3 h4 h5
  by_cases k4:n.kind=4
  ·obtain⟨k,hl⟩:=hone (by omega);exact zBG k4 k hl (hB k (by rw[hl];simp)) h1 h2 h3 h4 h5
  by_cases k5:n.kind=5
  ·obtain⟨k,hl⟩:=hone (by omega);exact zBH k5 k hl (hB k (by rw[hl];simp)) h1 h2 h3 h4 h5
  by_cases k6:n.kind=6
  ·obtain⟨k,hl⟩:=hone (by omega);exact KB k6 k hl (hB k (by rw[hl];simp)) h1 h2 h3 h4 h5
  exact zBF ⟨k1,k2,k3,k4,k5,k6⟩ (List.eq_nil_of_length_eq_zero (f1 (by omega))) h1 h2 h3 h4 h5
theorem Tryz.infoBoolsN:(Tryz.prog.info? 46).map (fun i=>(i.zero,i.size,i.bytes))=some (some (.slice none 0 0),1,24):=by kernel_rfl
structure OfW (w0 w:World) (R m i:Nat) (sv bv:Value):Prop where
 b:box3 48 w R sv bv (.slice none 0 0)
 s:w.ownsRow 0 51 4 sv 1 (jT [noR])
 r:∃us:List Value,us.length=i∧w.ownsRow 0 46 1 bv i us∧∀k,k<i→∃u,us[k]? =some u∧BolO (fun k=>zq R sv bv k∨k<w0.heap.size) w u m noF
 sR:sv.ownBlock≠some R
 bR:bv.ownBlock≠some R
 sb:∀k,sv.ownBlock=some k→bv.ownBlock≠some k
 bel:Below w0.heap.size w0 w
 fresh:∀k,zq R sv bv k→w0.heap.size<k
section
variable {w0 w w':World} {R m i:Nat} {sv bv:Value}
theorem OfW.under (h:OfW w0 w R m i sv bv) (hb:Below w.heap.size w w'):OfW w0 w' R m i sv bv:=by
 obtain⟨us,h1,h2,h3⟩:=h.r;refine⟨h.b.under hb,zF h.s (keep_below (fun _=>True) hb) fun _ _=>trivial,⟨us,h1,zF h2 (keep_below (fun _=>True) hb) fun _ _=>trivial,fun k hk=> ?_⟩,h.sR,h.bR,h.sb,h.bel.trans (hb.mono h.bel.size),h.fresh⟩;obtain⟨u,h4,h5⟩:=h3 k hk;exact⟨u,h4,h5.under hb⟩
theorem OfW.ownlt (h:OfW w0 w R m i sv bv):∀k,w.heap.size≤k→¬zq R sv bv k:=fun k hk e=>by
 obtain⟨us,_,h2,_⟩:=h.r;have h3:=h.b.lt;rcases e with e | e | e
 ·omega
 ·have:=(World.ownsRow.lt h.s k e).2;omega
 ·have:=(World.ownsRow.lt h2 k e).2;omega
theorem OfW.form (h:OfW w0 w R m i sv bv):∃ao cap,bv= .slice ao i cap:=by
 obtain⟨us,_,h2,_⟩:=h.r;obtain⟨ao,cap,hv,_⟩:=Zc h2;exact⟨ao,cap,hv⟩
theorem OfW.push {Y:Nat} {u:Value} (h:OfW w0 w R m i sv bv) (t ty:TypeId) (ht:Tryz.prog.underlying t=some (.slice 46)) (hY:w.cell? ⟨Y,0,none⟩=some u) (hu:BolO (fun k=>zq R sv bv k∨k<w0.heap.size) w u m noF) (hl:i≤100000):
  ∃ao cap w',(Builtin.append_ #[t,t] ty #[bv,.slice (some ⟨Y,0,none⟩) 1 1]).run Tryz.prog w= .ok (.slice ao (i+1) cap) w'∧w'.cell? ⟨R,1,none⟩=some bv∧w'.frozen? ⟨R,1,none⟩=false∧R<w'.heap.size ∧
   OfW w0 (w'.setCell ⟨R,1,none⟩ (.slice ao (i+1) cap)) R m (i+1) sv (.slice ao (i+1) cap)∧Gone (zq R sv bv) (zq R sv (.slice ao (i+1) cap)) w (w'.setCell ⟨R,1,none⟩ (.slice ao (i+1) cap)):=by
 obtain⟨i0,hi,hz0,hz1,hz2⟩:=xJ Tryz.infoBoolsN;obtain⟨us,h1,h2,h3⟩:=h.r;have hone:u.oneCell'=true:=hu.one;obtain⟨v',w',hr,hown',hgr,_,hat⟩:=run_append_own_at (P:=Tryz.prog) w 0 t ty 46 i0 (.slice none 0 0) 1 24 ht hi hz0 hz1 hz2 rfl (by decide) bv i us h2 ⟨Y,0,none⟩ 1 1 [u] rfl (fun j x hx=>by
  have hj:=(List.getElem?_eq_some_iff.1 hx).1;have:j=0:=by simpa using hj
  subst this;rw[Zr];simp at hx;rw[←hx];exact hY) (fun x hx=>by rw[List.mem_singleton.1 hx];exact hone) (by unfold maxLen;omega) (by omega) (Nat.zero_le _)
 obtain⟨ao,cap,hv,_⟩:=Zc hown';subst hv;have hk1:KeepW (fun k=>bv.ownBlock≠some k) w w':=⟨hgr.os,hgr.tape,hgr.output,hgr.size,fun k hk hne=>hgr.block k hk fun e=>hne e.symm⟩;have hk2:KeepW (fun k=>k≠R) w' (w'.setCell ⟨R,1,none⟩ (.slice ao (i+1) cap)):=zE R 1 none _ w' fun h=>h rfl;have hb:=h.b.keep hk1 h.bR;have hlt:=h.ownlt;have hnew:∀k,(Value.slice ao (i+1) cap).ownBlock=some k→bv.ownBlock=some k∨k=w.heap.size:=fun k e=>by
  rcases hat with hat | hat
  ·exact .inl (hat▸e)
  ·rw[hat] at e;cases e;exact .inr rfl
 have hRl:=h.b.lt;have hg:Gone (zq R sv bv) (zq R sv (.slice ao (i+1) cap)) w (w'.setCell ⟨R,1,none⟩ (.slice ao (i+1) cap)):=by
  refine⟨(hk1.mono fun k _ ho e=>ho (.inr (.inr e))).trans (hk2.mono fun k _ ho e=>ho (.inl e)),fun k e=> ?_⟩;rcases e with e | e | e
  ·exact .inl (.inl e)
  ·exact .inl (.inr (.inl e))
  ·rcases hnew k e with e | e
   ·exact .inl (.inr (.inr e))
   ·exact .inr (by omega)
 have hR0:=h.fresh R (.inl rfl);refine⟨ao,cap,w',hr,hb.cells.1.2.1,hb.cells.2.2.1,hb.lt,⟨hb.set1 _,zF (zF h.s hk1 fun k e e2=>h.sb k e e2) hk2 fun k e e2=>h.sR (by rw[←e2];exact e),⟨us++ [u],by rw[List.length_append,h1];rfl,zF hown' hk2 fun k e e2=> ?_,fun k hk=> ?_⟩,h.sR,fun e=> ?_,fun k e e2=> ?_,?_,fun k e=> ?_⟩,hg⟩
 ·rcases hnew k e with e3 | e3
  ·exact h.bR (by rw[←e2];exact e3)
  ·omega
 ·by_cases hki:k<i
  ·obtain⟨y,h4,h5⟩:=h3 k hki;exact⟨y,by rw[List.getElem?_append_left (by omega)];exact h4,h5.go (hg.wide _)⟩
  ·have:k=i:=(by omega);subst this;exact⟨u,by rw[List.getElem?_append_right (by omega),h1,Nat.sub_self];rfl,hu.go (hg.wide _)⟩
 ·rcases hnew R e with e3 | e3
  ·exact h.bR e3
  ·omega
 ·rcases hnew k e2 with e3 | e3
  ·exact h.sb k e e3
  ·exact hlt k (by omega) (.inr (.inl e))
 ·exact KeepW.below h.bel (hg.keep.mono fun k _ ho=>ho) h.bel.size fun k hk e=>by have:=h.fresh k e;omega
 ·rcases hg.new k e with e3 | e3
  ·exact h.fresh k e3
  ·have:=h.bel.size;omega
end
section
variable {w0 w w':World} {R m i:Nat} {sv bv:Value}
theorem OfW.start (w0:World) (hw:Below w0.heap.size w0 w) (hlt:w0.heap.size<w.heap.size):OfW w0 ((w.alloc (.cells #[.int .u64 0,.int .u64 0,.int .u64 0,.int .u64 0] 51)).alloc (.cells #[.slice (some ⟨w.heap.size,0,none⟩) 1 1,.slice none 0 0,.slice none 0 0] 48)) (w.heap.size+1) m 0 (.slice (some ⟨w.heap.size,0,none⟩) 1 1) (.slice none 0 0):=by
 have hb1:=zA w (.cells #[.int .u64 0,.int .u64 0,.int .u64 0,.int .u64 0] 51);have hs1:=zC w (.cells #[.int .u64 0,.int .u64 0,.int .u64 0,.int .u64 0] 51);have ho:=World.ownsRow_lit (base:=0) (e:=51) (size:=4) w #[.int .u64 0,.int .u64 0,.int .u64 0,.int .u64 0] 1 (Nat.zero_le _) (by unfold maxLen;decide) rfl;generalize w.alloc (.cells #[.int .u64 0,.int .u64 0,.int .u64 0,.int .u64 0] 51)=W1 at hb1 hs1 ho ⊢;have hb2:=zA W1 (.cells #[.slice (some ⟨w.heap.size,0,none⟩) 1 1,.slice none 0 0,.slice none 0 0] 48);have hx:=box3.new 48 W1 (.slice (some ⟨w.heap.size,0,none⟩) 1 1) (.slice none 0 0) (.slice none 0 0);rw[hs1] at hx;have hsz:=hw.size;refine⟨hx,zF ho (keep_below (fun _=>True) hb2) fun _ _=>trivial,⟨[],rfl,World.ownsRow_nil _ _ _ _,fun k hk=>by omega⟩,fun e=> ?_,(fun e=>by cases e),(fun k _ e=>by cases e),hw.trans ((hb1.trans (hb2.mono hb1.size)).mono hw.size),fun k e=> ?_⟩
 ·have:w.heap.size=w.heap.size+1:=Option.some.inj e;omega
 ·rcases e with e | e | e
  ·omega
  ·have:w.heap.size=k:=Option.some.inj e;omega
  ·cases e
theorem OfW.rul (h:OfW w0 w R m m sv bv):qF (fun k=>k<w0.heap.size) w R sv bv (.slice none 0 0) [noR] m Yi:=
 ⟨h.b,h.s,by
  obtain⟨us,h1,h2,h3⟩:=h.r;refine⟨us,h1,h2,fun k hk=> ?_⟩;obtain⟨u,h4,h5⟩:=h3 k hk;exact⟨u,h4,h5⟩,h.sR,h.bR,h.sb,fun k e e2=>by have:=h.fresh k e;omega⟩
theorem zEE {lV:Value} {f:Nat→Bool} {own:Nat→Prop} (hl:BolO own w lV m f) (hm:m≤1000) (t ty:TypeId) (ht:Tryz.prog.underlying t=some (.slice 4)):
  ∃cap w',(Builtin.append_ #[t,t] ty #[.slice none 0 0,lV]).run Tryz.prog w= .ok (.slice (some ⟨w.heap.size,0,none⟩) m cap) w'∧m≤cap∧Below w.heap.size w w'∧w'.ownsRow 0 4 1 (.slice (some ⟨w.heap.size,0,none⟩) m cap) m (boolC (zFF f m)):=by
 obtain⟨i0,hi,hz0,hz1,hz2⟩:=xJ Tryz.infoBoolN;obtain⟨h0,g,cap,rfl,hc,_,hx⟩:=hl;obtain⟨v',w',hr,hown',hgr,_,hat⟩:=run_append_own_at (P:=Tryz.prog) w 0 t ty 4 i0 (.bool false) 1 1 ht hi hz0 hz1 hz2 rfl (by decide) (.slice none 0 0) 0 [] (World.ownsRow_nil _ _ _ _) ⟨g,0,none⟩ m cap (boolC (zFF f m)) (by unfold boolC;rw[List.length_map,qt,Nat.mul_one]) (fun j x hx2=>by
  unfold boolC at hx2;rw[List.getElem?_map] at hx2;obtain⟨y,hy,rfl⟩:=Option.map_eq_some_iff.1 hx2;have hj:=(List.getElem?_eq_some_iff.1 hy).1;rw[qt] at hj;have h1:=Ku f m j hj;rw[List.getD_eq_getElem?_getD,hy] at h1;rw[Zr,Nat.zero_add,hx j hj,←h1];rfl) (fun x hx=>by
  unfold boolC at hx;obtain⟨y,_,rfl⟩:=List.mem_map.1 hx;rfl) (by unfold maxLen;omega) (by omega) (Nat.zero_le _)
 rw[Nat.zero_add,List.nil_append] at hown';have hown2:=hown';obtain⟨_,⟨_,e⟩ | ⟨g2,cap2,_,rfl,_,_,hn2,_⟩⟩:=hown2
 ·omega
 ·have e:g2=w.heap.size:=by
   rcases hat with hat | hat
   ·cases hat
   ·exact Option.some.inj hat
  subst e;exact⟨cap2,w',hr,hn2,⟨hgr.os,hgr.tape,hgr.output,hgr.size,fun k hk=>hgr.block k (by omega) fun e=>by cases e⟩,hown'⟩
theorem qF.withLast {X:Nat→Prop} {S:List St4} {E:Nat→Nat→Bool} {cap g:Nat} {cs:List Value} {lv:Value} (h:qF X w R sv bv lv S m E) (hb:Below w.heap.size w w') (hg:g=w.heap.size) (ho:w'.ownsRow 0 4 1 (.slice (some ⟨g,0,none⟩) m cap) m cs):
  qF (fun k=>X k∨k=g) (w'.setCell ⟨R,2,none⟩ (.slice (some ⟨g,0,none⟩) m cap)) R sv bv (.slice (some ⟨g,0,none⟩) m cap) S m E∧(w'.setCell ⟨R,2,none⟩ (.slice (some ⟨g,0,none⟩) m cap)).ownsRow 0 4 1 (.slice (some ⟨g,0,none⟩) m cap) m cs∧KeepW (fun k=>k≠R) w' (w'.setCell ⟨R,2,none⟩ (.slice (some ⟨g,0,none⟩) m cap)):=by
 have hk:KeepW (fun k=>k≠R) w' (w'.setCell ⟨R,2,none⟩ (.slice (some ⟨g,0,none⟩) m cap)):=zE R 2 none _ w' fun h=>h rfl;have h1:=(h.mono (X':=fun k=>X k∨k=g) fun k hk e=>e.elim id fun e=>by omega).under hb;have hRl:=h.b.lt;have hg1:Gone (fun k=>zq R sv bv k∨(X k∨k=g)) (fun k=>zq R sv bv k∨(X k∨k=g)) w' (w'.setCell ⟨R,2,none⟩ (.slice (some ⟨g,0,none⟩) m cap)):=⟨hk.mono fun k _ ho e=>ho (.inl (.inl e)),fun _ e=> .inl e⟩;obtain⟨us,h2,h3,h4⟩:=h1.r;refine⟨⟨h1.b.set2 _,zF h1.s hk fun k e e2=>h1.sR (by rw[←e2];exact e),⟨us,h2,zF h3 hk fun k e e2=>h1.bR (by rw[←e2];exact e),fun k hk2=> ?_⟩,h1.sR,h1.bR,h1.sb,h1.aX⟩,zF ho hk fun k e e2=> ?_,hk⟩
 ·obtain⟨u,h5,h6⟩:=h4 k hk2;exact⟨u,h5,h6.go hg1⟩
 ·have:g=k:=Option.some.inj e;omega
theorem qF.fin {X:Nat→Prop} {lv:Value} {S:List St4} {E:Nat→Nat→Bool} {f:Nat→Bool} {L c:Nat} (h:qF X w R sv bv lv S m E) (hS:S.length=m) (hm:0<m) (h1000:m≤1000) (hL:lv= .slice (some ⟨L,0,none⟩) m c) (hc:m≤c) (hLX:¬X L) (hlast:∀j,j<m→w.cell? ⟨L,j,none⟩=some (.bool (f j))):RuO X w (.pointer (some ⟨R,0,none⟩)) ⟨m,S,E,f⟩:=by
 obtain⟨us,h1,h2,h3⟩:=h.r;obtain⟨g,cap,_,hbv,hcap,_,_,_,_⟩:=h.row hm;obtain⟨⟨c0,c1,c2⟩,_⟩:=h.b.cells;refine⟨hm,h1000,hS,R,sv,bv,lv,rfl,c0,c1,c2,?_,by rw[hL];exact⟨hm,L,c,rfl,hc,hLX,hlast⟩,⟨g,cap,hbv,hcap,h.aX g (.inr (.inr (by rw[hbv];rfl))),fun k hk=> ?_⟩,h.aX R (.inl rfl)⟩
 ·have hz:=Zc h.s;obtain⟨_,⟨hv,hn⟩ | ⟨g2,c2',_,hv,_⟩⟩:=h.s
  ·rw[hS] at hn;omega
  ·subst hv;obtain⟨ao,cc,he,hnc,hcc⟩:=hz;injection he with e1 e2 e3
   subst e1 e3;refine⟨_,_,by rw[hS],by rw[←hS];exact hnc,fun j x hx=> ?_⟩;obtain⟨g3,o3,e3,_,h6⟩:=hcc j x hx;injection e3 with e3
   injection e3 with e3 e4
   subst e3 e4;exact⟨_,_,rfl,h.aX _ (.inr (.inl rfl)),h6⟩
 ·obtain⟨g',_,u,hbv',_,c3,_,_,h5⟩:=h.row hk;rw[hbv] at hbv';injection hbv' with e1 e2 e3
  injection e1 with e1
  injection e1 with e1
  subst e1;exact⟨u,c3,h5.mono fun _ _ e=> .inr e⟩
end
section
variable {ok:Nat→Prop} {w:World} {x:Value} {n:Nd}
set_option maxRecDepth 4000 in
theorem zGZ (hx:zV ok w n x) (hmay:Z8 n=true) (hwt:wtR n≤410):
  Calls Tryz.prog 30 #[x] w fun e w'=>∃p,e= .returned (.pointer p)∧RuO (fun k=>k<w.heap.size) w' (.pointer p) (zR n)∧Below w.heap.size w w':=by
 have hc:=Qm _ n (Nat.le_refl _) ok;obtain⟨hs,u,rfl,hu⟩:=hx;obtain⟨uo,uc,rfl,hul,hub⟩:=hu.form;have hba:=zA w (.cells #[.int .i64 n.kind,.int .u64 (n.set.1:Int),.int .u64 (n.set.2.1:Int),.int .u64 (n.set.2.2.1:Int),.int .u64 (n.set.2.2.2:Int),.slice uo n.kids.length uc] 77);have hbx:=boxN.new 77 w n.kind n.set (.slice uo n.kids.length uc);have hsw:=Kv n;have HC:=qh (fun (W:World) (hb:Below w.heap.size w W)=>hc W (zG n (.slice uo n.kids.length uc)) ⟨hs,_,rfl,hu.under hb⟩ (by omega));have HU:=qh (hu.mono (ok':=fun k=>k<w.heap.size) fun k hk _=>hk);have HSO:=qh hs;have HMAY:=qh hmay;have H0:=qh (And.intro hba hbx);unfold zG at HC ⊢;obtain⟨⟨c0,c1,c2,c3,c4,c5⟩,_⟩:=hbx.cells;have hbl:=hbx.lt;obtain⟨z,hz⟩:∃z,(zU n).length=z:=⟨_,rfl⟩;rw[hz] at HC hsw;have HZ:=qh hz;have hzi:(z:Int)≤410:=by omega
 have hz0:(0:Int)≤(z:Int):=by omega
 clear hc hu hs hmay hba hbx hz;go_enter Tryz.func30,Tryz.ntmps30;go_upto_region 1 with (fail)
 obtain⟨W1,hW1⟩:∃W1,w.alloc (.cells #[.int .i64 n.kind,.int .u64 (n.set.1:Int),.int .u64 (n.set.2.1:Int),.int .u64 (n.set.2.2.1:Int),.int .u64 (n.set.2.2.2:Int),.slice uo n.kids.length uc] 77)=W1:=⟨_,rfl⟩;rw[hW1] at H0 c0 c1 c2 c3 c4 c5 hbl;(try rw[hW1]);clear hW1;obtain⟨b,hb⟩:∃b,w.heap.size=b:=⟨_,rfl⟩;have HBB:=qh hb;rw[hb] at c0 c1 c2 c3 c4 c5 hbl;have H1:Hid (Below w.heap.size w W1∧boxN 77 W1 b n.kind n.set (.slice uo n.kids.length uc)):=qh (by rw[←hb];exact H0.out);(try rw[hb]);clear hb H0;go_wp2_with fail
 go_fit (HC.out _ H1.out.1);rintro e w2 ⟨rfl,hb2⟩;have H2:=qh (show Below w.heap.size w w2∧boxN 77 w2 b n.kind n.set (.slice uo n.kids.length uc) from⟨H1.out.1.trans (hb2.mono H1.out.1.size),H1.out.2.below hb2⟩);clear hb2 H1 HC c0 c1 c2 c3 c4 c5 hbl;go_upto_region 3 with (fail)
 have HO:=qh (OfW.start (m:=z+1) w H2.out.1 (by have h1:=H2.out.2.lt;have h2:=HBB.out;omega));have hb3:=(zA w2 (.cells #[.int .u64 0,.int .u64 0,.int .u64 0,.int .u64 0] 51)).trans ((zA (w2.alloc (.cells #[.int .u64 0,.int .u64 0,.int .u64 0,.int .u64 0] 51)) (.cells #[.slice (some ⟨w2.heap.size,0,none⟩) 1 1,.slice none 0 0,.slice none 0 0] 48)).mono (zA w2 (.cells #[.int .u64 0,.int .u64 0,.int .u64 0,.int .u64 0] 51)).size);have HX3:=qh (H2.out.2.below hb3);obtain⟨W3,hW3⟩:∃W3,(w2.alloc (.cells #[.int .u64 0,.int .u64 0,.int .u64 0,.int .u64 0] 51)).alloc (.cells #[.slice (some ⟨w2.heap.size,0,none⟩) 1 1,.slice none 0 0,.slice none 0 0] 48)=W3:=⟨_,rfl⟩;rw[hW3] at HO HX3;(try rw[hW3]);clear hW3 hb3;obtain⟨R,hR⟩:∃R,w2.heap.size+1=R:=⟨_,rfl⟩;rw[hR] at HO;(try rw[hR]);obtain⟨sv,hsv⟩:∃sv,(Value.slice (some ⟨w2.heap.size,0,none⟩) 1 1)=sv:=⟨_,rfl⟩;rw[hsv] at HO;(try rw[hsv]);have hbR:b<R:=by
  have h1:=H2.out.1.size;have h2:=HBB.out;omega
 obtain⟨m,hm⟩:∃m:Nat,z+1=m:=⟨_,rfl⟩;have hmi:(z:Int)+1=(m:Int):=by omega
 rw[hm] at HO;(try rw[hmi]);have HM:=qh hm;have hm1:(m:Int)≤411:=by omega
 have hm0:0<m:=by omega
 have hmk:=fun W=>yr m (by omega) W;clear hR hsv hm hmi H2 hzi hz0;have H3:Hid (∃bv,OfW w W3 R m 0 sv bv∧boxN 77 W3 b n.kind n.set (.slice uo n.kids.length uc)):=qh ⟨_,HO.out,HX3.out⟩;clear HO HX3;go_wp2_with fail
 go_loopw [5] (fun s5 wr=>∃i:Nat,s5= .int .i64 (i:Int)∧i≤m∧Hid (∃bv,OfW w wr R m i sv bv∧boxN 77 wr b n.kind n.set (.slice uo n.kids.length uc))) (fun s5 _=>m-(intOf s5).toNat)
 case atStart=>exact⟨0,rfl,Nat.zero_le _,H3⟩
 case round=>
  obtain⟨i,rfl,hi,HX0⟩:=hrel;clear H3;obtain⟨bv,hX⟩:=HX0.out;have HQ:=qh hX;clear HX0 hX;have i0:(0:Int)≤(i:Int):=by omega
  by_cases hlt:i<m
  ·have hli:(i:Int)<(m:Int):=(by omega);obtain⟨bo,bc,hbv⟩:=HQ.out.1.form;subst hbv;obtain⟨⟨_,r1,_⟩,_,r2,_⟩:=HQ.out.1.b.cells;have hRl:=HQ.out.1.b.lt
   have hPS:∀W:World,Below wr.heap.size wr W→∃ao cp w',(Builtin.append_ #[45,45] 45 #[.slice bo i bc,.slice (some ⟨W.heap.size+1,0,none⟩) 1 1]).run Tryz.prog ((W.alloc (.cells (boolC (noneB m)).toArray 4)).alloc (.cells #[.slice (some ⟨W.heap.size,0,none⟩) m m] 46))= .ok (.slice ao (i+1) cp) w'∧w'.cell? ⟨R,1,none⟩=some (.slice bo i bc)∧w'.frozen? ⟨R,1,none⟩=false∧R<w'.heap.size ∧
     (∃bv,OfW w (w'.setCell ⟨R,1,none⟩ (.slice ao (i+1) cp)) R m (i+1) sv bv∧boxN 77 (w'.setCell ⟨R,1,none⟩ (.slice ao (i+1) cp)) b n.kind n.set (.slice uo n.kids.length uc)):=fun W hb=>by
    have hb1:=zA W (.cells (boolC (noneB m)).toArray 4);have hs1:=zC W (.cells (boolC (noneB m)).toArray 4);have hn:=blkM_new W m;have h1:=(HQ.out.1.under hb).under hb1;have hno:=(HQ.out.1.under hb).ownlt W.heap.size (Nat.le_refl _);have hx1:=(HQ.out.2.below hb).below hb1;generalize W.alloc (.cells (boolC (noneB m)).toArray 4)=W1 at hb1 hs1 hn h1 hx1 ⊢;have hb2:=zA W1 (.cells #[.slice (some ⟨W.heap.size,0,none⟩) m m] 46);have hwsz:=(HQ.out.1.under hb).bel.size;have hbool:BolO (fun k=>zq R sv (.slice bo i bc) k∨k<w.heap.size) W1 (.slice (some ⟨W.heap.size,0,none⟩) m m) m noF:=BolO.of_blk hn (zi m) hm0 (fun e=>e.elim hno fun e=>by omega) fun j _=>noneB_get m j;have hcell:=cell_one_new W1 (.slice (some ⟨W.heap.size,0,none⟩) m m) 46 0 _ rfl;rw[Zr,hs1] at hcell;obtain⟨ao,cp,w',h2,h3,h4,h5,h6,h7⟩:=(h1.under hb2).push 45 45 Tryz.underlying45 hcell (hbool.under hb2) (by omega);refine⟨ao,cp,w',h2,h3,h4,h5,_,h6,(hx1.below hb2).keep h7.keep fun e=> ?_⟩;have h8:=h1.fresh b e;have h9:=HBB.out;omega
   have HPS:=qh hPS;clear hPS;go_wp2_with fail
   go_region_law (first
    | (obtain⟨o6,c6,w6,hr6,z1,z2,z3,z4⟩:=HPS.out _ (Below.refl _ _);refine xB (by rfl) (.tmp 23) (.tmp 26) 45 (by rfl) (by rfl) (by rfl) hr6 ?_)
    | (obtain⟨o6,c6,w6,hr6,z1,z2,z3,z4⟩:=HPS.out _ (Below.refl _ _).drew;refine xB (by rfl) (.tmp 23) (.tmp 26) 45 (by rfl) (by rfl) (by rfl) hr6 ?_))
   all_goals
    have H7:=qh z4;clear z1 z2 z3 z4 hr6 HPS HQ r1 r2 hRl;go_wp2_with fail
    exact⟨⟨i+1,by go_num,hlt,H7⟩,by simp[intOf]<;>omega⟩
  ·have hli:¬(i:Int)<(m:Int):=(by omega);have him:i=m:=(by omega);rw[him] at HQ;have hbel:=HQ.out.1.bel;have hfr:=HQ.out.1.fresh;have HFR:=qh hfr;have HL:=qh (lays_any _ n (Nat.le_refl _) HMAY.out (fun k=>k<w.heap.size) wr R sv bv (.slice none 0 0) [noR] m Yi (zG n (.slice uo n.kids.length uc)) HQ.out.1.rul (fun k hk e=>by have:=hbel.size;omega) ⟨HSO.out,_,rfl,(HU.out.under hbel).mono fun k _ hk e=>by have:=hfr k e;omega⟩ ⟨by decide,by rw[HZ.out];show 1+z≤m;have:=HM.out;omega⟩ (by omega));unfold zG at HL;obtain⟨⟨c0,c1,c2,c3,c4,c5⟩,_⟩:=HQ.out.2.cells;have hbl:=HQ.out.2.lt;clear him hbel hfr hi hlt;go_wp2_with fail
   go_fit HL.out;rintro e w4 ⟨sw,fV,lV,rfl,hR,hGo,hf,hl⟩;obtain⟨fo,fc,hfV⟩:=xP hf;obtain⟨lo,lc,hlV⟩:=xP hl;subst hfV hlV;have H4:=qh (And.intro hR (And.intro (hf.mono (own2:=fun k=>zq R sw bv k∨k<w.heap.size) fun k _ e=>e.imp id fun e=>by have:=HQ.out.1.bel.size;omega) (And.intro (hl.mono (own2:=zq R sw bv) fun _ _ e=> .inl e) (KeepW.below HQ.out.1.bel hGo.keep HQ.out.1.bel.size fun k hk e=>by have:=HQ.out.1.fresh k e;omega))));obtain⟨G,hG⟩:∃G,glN n 1=G:=⟨_,rfl⟩;have hG2:glN n [noR].length=G:=hG;rw[hG2] at H4;(try rw[hG2]);have HGE:=qh hG;clear hR hGo hf hl HL c0 c1 c2 c3 c4 c5 hbl HQ hG hG2;go_upto_region 8 with (fail)
   have hb5:=zA w4 (.cells #[.bool G.null,.slice fo m fc,.slice lo m lc] 109);have H5:=qh (And.intro (H4.out.1.under hb5) (And.intro (H4.out.2.1.under hb5) (And.intro (H4.out.2.2.1.under hb5) (And.intro (H4.out.2.2.2.trans (hb5.mono H4.out.2.2.2.size)) (And.intro (box3.new 109 w4 (.bool G.null) (.slice fo m fc) (.slice lo m lc)) (H4.out.1.ownlt w4.heap.size (Nat.le_refl _)))))));obtain⟨W5,hW5⟩:∃W5,w4.alloc (.cells #[.bool G.null,.slice fo m fc,.slice lo m lc] 109)=W5:=⟨_,rfl⟩;rw[hW5] at H5;(try rw[hW5]);obtain⟨c,hc⟩:∃c,w4.heap.size=c:=⟨_,rfl⟩;rw[hc] at H5;(try rw[hc]);clear hb5 hW5 hc H4;obtain⟨gb,cb,y,hbv,hcb,b0,b1,b2,_⟩:=H5.out.1.row hm0;subst hbv;obtain⟨⟨_,r1,r2⟩,_,_,r3⟩:=H5.out.1.b.cells;have hRl:=H5.out.1.b.lt;obtain⟨⟨q0,q1,q2⟩,_⟩:=H5.out.2.2.2.2.1.cells;have hcl:=H5.out.2.2.2.2.1.lt;have hmi0:(0:Int)<(m:Int):=by omega
   go_region
   obtain⟨h6,hg6⟩:=H5.out.1.setRow hm0 rfl H5.out.2.1;have hd6:Below (W5.setCell ⟨gb,0,none⟩ (.slice fo m fc)).heap.size (W5.setCell ⟨gb,0,none⟩ (.slice fo m fc)) (W5.setCell ⟨gb,0,none⟩ (.slice fo m fc)).drew:=(Below.refl _ _).drew;have hgb:=HFR.out gb (.inr (.inr rfl));have hRw:=HFR.out R (.inl rfl);have hk6:KeepW (fun k=>k≠gb) W5 (W5.setCell ⟨gb,0,none⟩ (.slice fo m fc)):=zE gb 0 none _ W5 fun h=>h rfl;have hbe6:=KeepW.below H5.out.2.2.2.1 hk6 H5.out.2.2.2.1.size fun k hk=>(by omega);have H6:=qh (And.intro (h6.under hd6) (And.intro ((H5.out.2.2.1.go hg6).under hd6) (And.intro (hbe6.trans (hd6.mono hbe6.size)) ((H5.out.2.2.2.2.1.go H5.out.2.2.2.2.2 hg6).1.under hd6))));have HCN:=qh H5.out.2.2.2.2.2;obtain⟨W6,hW6⟩:∃W6,(W5.setCell ⟨gb,0,none⟩ (.slice fo m fc)).drew=W6:=⟨_,rfl⟩;rw[hW6] at H6;(try rw[hW6]);clear h6 hg6 hd6 hk6 hbe6 hW6 H5 r1 r2 r3 hRl q0 q1 q2 hcl b0 b1 b2;obtain⟨cL,w7,hr7,hcL,hb7,ho7⟩:=zEE H6.out.2.1 (by omega) 46 46 Tryz.underlying46;have h7:=H6.out.1.under hb7;obtain⟨⟨_,_,r2⟩,_,_,r3⟩:=h7.b.cells;have hRl:=h7.b.lt;obtain⟨⟨q0,q1,q2⟩,_⟩:=H6.out.2.2.2.cells;have hcl:=H6.out.2.2.2.lt;obtain⟨h8,ho8,hk8⟩:=H6.out.1.withLast hb7 rfl ho7;have hbe8:=KeepW.below (H6.out.2.2.1.trans (hb7.mono H6.out.2.2.1.size)) hk8 (by have:=H6.out.2.2.1.size;have:=hb7.size;omega) fun k hk=>(by omega);have hc8:=(H6.out.2.2.2.under hb7).keep hk8 fun e=>HCN.out (.inl e);have hLw:w.heap.size≤W6.heap.size:=H6.out.2.2.1.size;have H8:=qh (And.intro h8 (And.intro ho8 (And.intro hbe8 hc8)));clear h7 h8 ho8 hk8 hbe8 hc8 ho7 hb7 H6;go_wp2_with (at_builtin;refine napp_list (by rfl) _ _ 46 (by rfl) (by rfl) (by rfl) hr7 ?_)
   obtain⟨L,hL⟩:∃L,W6.heap.size=L:=⟨_,rfl⟩;rw[hL] at H8 hLw;(try rw[hL]);obtain⟨W8,hW8⟩:∃W8,w7.setCell ⟨R,2,none⟩ (.slice (some ⟨L,0,none⟩) m cL)=W8:=⟨_,rfl⟩;rw[hW8] at H8;(try rw[hW8]);clear hW8 hr7 r2 r3 hRl q0 q1 q2 hcl hL;obtain⟨⟨_,_,r2⟩,_⟩:=H8.out.1.b.cells;obtain⟨⟨q0,_,_⟩,_⟩:=H8.out.2.2.2.cells;have l0:=H8.out.2.1.cellAt 0 (by omega);have l1:=H8.out.2.1.frozenAt 0;have l2:=(World.ownsRow.lt H8.out.2.1 L rfl).2;obtain⟨y0,hy0⟩:∃y0,(boolC (zFF G.last m))[0]? =some y0:=⟨_,List.getElem?_eq_getElem (by unfold boolC;rw[List.length_map,qt];exact hm0)⟩;rw[hy0] at l0;have hst:=H8.out.2.1.stored 0 (.bool G.null);have hk9:KeepW (fun k=>k≠L) W8 (W8.setCell ⟨L,0,none⟩ (.bool G.null)):=zE L 0 none _ W8 fun h=>h rfl;have hbe9:=KeepW.below H8.out.2.2.1 hk9 H8.out.2.2.1.size fun k hk=>(by omega);have hd9:Below (W8.setCell ⟨L,0,none⟩ (.bool G.null)).heap.size (W8.setCell ⟨L,0,none⟩ (.bool G.null)) (W8.setCell ⟨L,0,none⟩ (.bool G.null)).drew:=(Below.refl _ _).drew;have hru:RuO (fun k=>k<w.heap.size) (W8.setCell ⟨L,0,none⟩ (.bool G.null)) (.pointer (some ⟨R,0,none⟩)) (zR n):=by
    have h9:=((H8.out.1.aside (c:=L) (i:=0) (y:= .bool G.null) (.inr rfl)).mono (X':=fun k=>k<w.heap.size) fun _ _ e=> .inl e).congr (F:=fun p q=>if p=0 then G.first q else G.fol p q) fun p _ q _=>by
     by_cases e:p=0
     ·simp[e]
     ·simp[e,xu,Yi]
    have h10:=h9.fin (L:=L) (f:=fun p=>if p=0 then G.null else G.last p) (by have:=HM.out;have:=HZ.out;rw[List.length_append];show 1+_=_;omega) hm0 (by omega) rfl hcL (by omega) fun j hj=>by
     rw[hst.1.cellAt j (by omega),List.getElem?_set];by_cases e:0=j
     ·subst e;rw[if_pos rfl,if_pos (by unfold boolC;rw[List.length_map,qt];exact hm0)];rfl
     ·rw[if_neg e];unfold boolC;rw[List.getElem?_map,List.getElem?_eq_getElem (by rw[qt];exact hj)];have h1:=Ku G.last m j hj;rw[List.getD_eq_getElem?_getD,List.getElem?_eq_getElem (by rw[qt];exact hj)] at h1;simp only[Option.getD_some] at h1;rw[Option.map_some,h1,if_neg (fun x=>e x.symm)]
    have e1:(⟨m,[noR]++zU n,fun p q=>if p=0 then G.first q else G.fol p q,fun p=>if p=0 then G.null else G.last p⟩:RuN)=zR n:=by
     unfold zR;rw[HGE.out,HZ.out,HM.out];rfl
    rw[←e1];exact h10
   have HF:=qh (And.intro (hru.below hd9) (hbe9.trans (hd9.mono hbe9.size)));clear hst hk9 hbe9 hd9 hru hy0 H8
   go_region
   all_goals
    go_wp2_with fail
    go_ret
    exact⟨_,rfl,HF.out⟩
end
end Go.Proofs.YtjeomlickkpebaaGreatDoor
