/-
  Texts of this proof, one behind the other; each begins with its own remark.
-/
import Derived.Deep.CutRange
import Derived.Deep.CutBlock
import Derived.Test.YtjeomlickkpebaaGreatDoorBe2
import Derived.Test.YtjeomlickkpebaaGreatDoorBe15
import Derived.Test.YtjeomlickkpebaaGreatDoorBe19
import Derived.Test.YtjeomlickkpebaaGreatDoorBe20
import Derived.Test.YtjeomlickkpebaaGreatDoorBe18
namespace Go.Proofs.YtjeomlickkpebaaGreatDoor
open Go.RowKit
theorem buildT_eq (n:Nd) (q:List Sta) (next:Nat):buildT n q next =
  if n.kind=1 then (q++ [takeS n.set next],q.length)
  else if n.kind=2 then catT n.kids q next
  else if n.kind=3 then altT n.kids q next
  else if n.kind=4 then (alsoS (oneT n.kids (q++ [forkS next next]) q.length).1 q.length (oneT n.kids (q++ [forkS next next]) q.length).2,q.length)
  else if n.kind=5 then (alsoS (oneT n.kids (q++ [forkS next next]) q.length).1 q.length (oneT n.kids (q++ [forkS next next]) q.length).2,(oneT n.kids (q++ [forkS next next]) q.length).2)
  else if n.kind=6 then ((oneT n.kids q next).1++ [forkS (oneT n.kids q next).2 next],(oneT n.kids q next).1.length)
  else (q,next):=by
 cases n with
 | mk k s l=>rw[buildT];rfl
section
variable {P:Nat→Prop} {w:World} {B:Nat} {n:Nd} {q:List Sta} {first:List Int} {fv:Value}
set_option maxRecDepth 4000 in
set_option maxHeartbeats 8000000 in
theorem nbuild_none (hk:¬n.kind=1∧¬n.kind=2∧¬n.kind=3∧¬n.kind=4∧¬n.kind=5∧¬n.kind=6) (h:NfaE P w B q first fv) (hP:∀k,w.heap.size≤k→¬P k) (next:Nat) (x:Value) (hx:NodeW P w n x):
  Calls Tryz.prog 53 #[.pointer (some ⟨B,0,none⟩),x,.int .i64 (next:Int)] w fun e w'=>e= .returned (.int .i64 ((buildT n q next).2:Int))∧NfaE P w' B (buildT n q next).1 first fv∧KeepW P w w':=by
 obtain⟨hs,u,rfl,hu⟩:=hx;obtain⟨uo,uc,rfl,hul,hub⟩:=hu.form;have HS0:=qh (BuF.start h hP hu);rw[show buildT n q next=(q,next) by rw[buildT_eq,if_neg hk.1,if_neg hk.2.1,if_neg hk.2.2.1,if_neg hk.2.2.2.1,if_neg hk.2.2.2.2.1,if_neg hk.2.2.2.2.2]];have hk1:(n.kind==1)=false:=beq_eq_false_iff_ne.2 hk.1;have hk2:(n.kind==2)=false:=beq_eq_false_iff_ne.2 hk.2.1;have hk3:(n.kind==3)=false:=beq_eq_false_iff_ne.2 hk.2.2.1;have hk4:(n.kind==4)=false:=beq_eq_false_iff_ne.2 hk.2.2.2.1;have hk5:(n.kind==5)=false:=beq_eq_false_iff_ne.2 hk.2.2.2.2.1;have hk6:(n.kind==6)=false:=beq_eq_false_iff_ne.2 hk.2.2.2.2.2;clear hk;unfold nodeV;clear h hP hu;go_enter Tryz.func53,Tryz.ntmps53;go_upto_region 1 with (fail)
 obtain⟨W1,hW1⟩:∃W1,w.alloc (.cells #[.int .i64 n.kind,.int .u64 (n.set.1:Int),.int .u64 (n.set.2.1:Int),.int .u64 (n.set.2.2.1:Int),.int .u64 (n.set.2.2.2:Int),.slice uo n.kids.length uc] 116)=W1:=⟨_,rfl⟩;(try rw[hW1]);rw[hW1] at HS0;clear hW1;obtain⟨b,hb⟩:∃b,w.heap.size=b:=⟨_,rfl⟩;(try rw[hb]);rw[hb] at HS0;clear hb;obtain⟨⟨c0,c1,c2,c3,c4,c5⟩,_⟩:=HS0.out.x.cells;have hbl:=HS0.out.x.lt;have HF:=qh HS0.out.fin;clear HS0;go_wp2_with fail
 go_ret
 exact⟨rfl,HF.out⟩
set_option maxRecDepth 4000 in
set_option maxHeartbeats 8000000 in
theorem nbuild_bytes (hk:n.kind=1) (h:NfaE P w B q first fv) (hP:∀k,w.heap.size≤k→¬P k) (next:Nat) (x:Value) (hx:NodeW P w n x) (hlen:q.length+2*wtR n≤100000):
  Calls Tryz.prog 53 #[.pointer (some ⟨B,0,none⟩),x,.int .i64 (next:Int)] w fun e w'=>e= .returned (.int .i64 ((buildT n q next).2:Int))∧NfaE P w' B (buildT n q next).1 first fv∧KeepW P w w':=by
 obtain⟨hs,u,rfl,hu⟩:=hx;obtain⟨uo,uc,rfl,hul,hub⟩:=hu.form;have HS0:=qh (BuF.start h hP hu);rw[show buildT n q next=(q++ [takeS n.set next],q.length) by rw[buildT_eq,if_pos hk]];have hq0:q.length≤100000:=by omega
 have hk1:(n.kind==1)=true:=by rw[hk];rfl
 clear hk;unfold nodeV;clear h hP hu;go_enter Tryz.func53,Tryz.ntmps53;go_upto_region 1 with (fail)
 obtain⟨W1,hW1⟩:∃W1,w.alloc (.cells #[.int .i64 n.kind,.int .u64 (n.set.1:Int),.int .u64 (n.set.2.1:Int),.int .u64 (n.set.2.2.1:Int),.int .u64 (n.set.2.2.2:Int),.slice uo n.kids.length uc] 116)=W1:=⟨_,rfl⟩;(try rw[hW1]);rw[hW1] at HS0;clear hW1;obtain⟨b,hb⟩:∃b,w.heap.size=b:=⟨_,rfl⟩;(try rw[hb]);rw[hb] at HS0;clear hb;obtain⟨⟨c0,c1,c2,c3,c4,c5⟩,_⟩:=HS0.out.x.cells;have hbl:=HS0.out.x.lt;have HA:=qh (show Calls Tryz.prog 52 #[.pointer (some ⟨B,0,none⟩),.agg #[.int .i64 0,.int .u64 (n.set.1:Int),.int .u64 (n.set.2.1:Int),.int .u64 (n.set.2.2.1:Int),.int .u64 (n.set.2.2.2:Int),.int .i64 (next:Int),.int .i64 0,.int .i64 0]] W1 fun e w'=>e= .returned (.int .i64 (q.length:Int))∧NfaE (fun k=>P k∨k=b) w' B (q++ [takeS n.set next]) first fv∧KeepW (fun k=>P k∨k=b) W1 w' from nadd_any HS0.out.e HS0.out.newP (takeS n.set next) hq0);go_wp2_with fail
 go_fit HA.out;rintro e w2 ⟨rfl,h1,h2⟩;have HF:=qh (HS0.out.go h1 h2).fin;clear h1 h2 HA HS0;go_wp2_with fail
 go_ret
 exact⟨rfl,HF.out⟩
set_option maxRecDepth 4000 in
set_option maxHeartbeats 8000000 in
theorem nbuild_star (hk:n.kind=4) (m:Nd) (hm:n.kids= [m]) (hB:BuildsW m) (h:NfaE P w B q first fv) (hP:∀k,w.heap.size≤k→¬P k) (next:Nat) (x:Value) (hx:NodeW P w n x) (hlen:q.length+2*wtR n≤100000):
  Calls Tryz.prog 53 #[.pointer (some ⟨B,0,none⟩),x,.int .i64 (next:Int)] w fun e w'=>e= .returned (.int .i64 ((buildT n q next).2:Int))∧NfaE P w' B (buildT n q next).1 first fv∧KeepW P w w':=by
 obtain⟨hs,u,rfl,hu⟩:=hx;obtain⟨uo,uc,rfl,hul,hub⟩:=hu.form;have HS0:=qh (BuF.start h hP hu);have hw:wtR n=wtR m+1:=by rw[wt_kids,hm];simp[wtL]
 have h0k:n.kids[0]? =some m:=by rw[hm];rfl
 have hone:∀q x,oneT n.kids q x=buildT m q x:=fun q x=>by rw[hm,oneT]
 rw[show buildT n q next=(alsoS (buildT m (q++ [forkS next next]) q.length).1 q.length (buildT m (q++ [forkS next next]) q.length).2,q.length) by rw[buildT_eq,if_neg (by rw[hk];decide),if_neg (by rw[hk];decide),if_neg (by rw[hk];decide),if_pos hk,hone]];have hlk:0<n.kids.length:=by rw[hm];simp
 have hlki:(0:Int)<(n.kids.length:Int):=by omega
 have hk1:(n.kind==1)=false:=by rw[hk];rfl
 have hk2:(n.kind==2)=false:=by rw[hk];rfl
 have hk3:(n.kind==3)=false:=by rw[hk];rfl
 have hk4:(n.kind==4)=true:=by rw[hk];rfl
 clear hk;have HK0:=qh h0k;have hlm:q.length+2*wtR m+1≤100000:=by omega
 have HLM:=qh hlm;unfold nodeV;clear h hP hu h0k hone hm hw hlm hlen;go_enter Tryz.func53,Tryz.ntmps53;go_upto_region 1 with (fail)
 obtain⟨W1,hW1⟩:∃W1,w.alloc (.cells #[.int .i64 n.kind,.int .u64 (n.set.1:Int),.int .u64 (n.set.2.1:Int),.int .u64 (n.set.2.2.1:Int),.int .u64 (n.set.2.2.2:Int),.slice uo n.kids.length uc] 116)=W1:=⟨_,rfl⟩;(try rw[hW1]);rw[hW1] at HS0;clear hW1;obtain⟨b,hb⟩:∃b,w.heap.size=b:=⟨_,rfl⟩;(try rw[hb]);rw[hb] at HS0;clear hb;obtain⟨⟨c0,c1,c2,c3,c4,c5⟩,_⟩:=HS0.out.x.cells;have hbl:=HS0.out.x.lt;obtain⟨g,o,cap,ku,kl,kc,hue,hul2,rfl,hnk,hso,_,hcell⟩:=HS0.out.kid HK0.out;injection hue with e1 e2 e3
 subst e1 e3;clear e2;have d0:=hcell 0 _ (by decide) rfl;have d1:=hcell 1 _ (by decide) rfl;have d2:=hcell 2 _ (by decide) rfl;have d3:=hcell 3 _ (by decide) rfl;have d4:=hcell 4 _ (by decide) rfl;have d5:=hcell 5 _ (by decide) rfl;simp only[Nat.zero_mul,Nat.zero_add,Nat.add_zero] at d0 d1 d2 d3 d4 d5;have HA:=qh (nloop_any hB HS0.out.e HS0.out.newP next _ hnk (by have:=HLM.out;omega));unfold nodeV at HA;clear hcell hnk;go_wp2_with fail
 go_fit HA.out;rintro e w2 ⟨rfl,h1,h2⟩;have HF:=qh (HS0.out.go h1 h2).fin;clear h1 h2 HA HS0 d0 d1 d2 d3 d4 d5 c0 c1 c2 c3 c4 c5;go_wp2_with fail
 go_ret
 exact⟨rfl,HF.out⟩
set_option maxRecDepth 4000 in
set_option maxHeartbeats 8000000 in
theorem nbuild_plus (hk:n.kind=5) (m:Nd) (hm:n.kids= [m]) (hB:BuildsW m) (h:NfaE P w B q first fv) (hP:∀k,w.heap.size≤k→¬P k) (next:Nat) (x:Value) (hx:NodeW P w n x) (hlen:q.length+2*wtR n≤100000):
  Calls Tryz.prog 53 #[.pointer (some ⟨B,0,none⟩),x,.int .i64 (next:Int)] w fun e w'=>e= .returned (.int .i64 ((buildT n q next).2:Int))∧NfaE P w' B (buildT n q next).1 first fv∧KeepW P w w':=by
 obtain⟨hs,u,rfl,hu⟩:=hx;obtain⟨uo,uc,rfl,hul,hub⟩:=hu.form;have HS0:=qh (BuF.start h hP hu);have hw:wtR n=wtR m+1:=by rw[wt_kids,hm];simp[wtL]
 have h0k:n.kids[0]? =some m:=by rw[hm];rfl
 have hone:∀q x,oneT n.kids q x=buildT m q x:=fun q x=>by rw[hm,oneT]
 rw[show buildT n q next=(alsoS (buildT m (q++ [forkS next next]) q.length).1 q.length (buildT m (q++ [forkS next next]) q.length).2,(buildT m (q++ [forkS next next]) q.length).2) by rw[buildT_eq,if_neg (by rw[hk];decide),if_neg (by rw[hk];decide),if_neg (by rw[hk];decide),if_neg (by rw[hk];decide),if_pos hk,hone]];have hlk:0<n.kids.length:=by rw[hm];simp
 have hlki:(0:Int)<(n.kids.length:Int):=by omega
 have hk1:(n.kind==1)=false:=by rw[hk];rfl
 have hk2:(n.kind==2)=false:=by rw[hk];rfl
 have hk3:(n.kind==3)=false:=by rw[hk];rfl
 have hk4:(n.kind==4)=false:=by rw[hk];rfl
 have hk5:(n.kind==5)=true:=by rw[hk];rfl
 clear hk;have HK0:=qh h0k;have hlm:q.length+2*wtR m+1≤100000:=by omega
 have HLM:=qh hlm;unfold nodeV;clear h hP hu h0k hone hm hw hlm hlen;go_enter Tryz.func53,Tryz.ntmps53;go_upto_region 1 with (fail)
 obtain⟨W1,hW1⟩:∃W1,w.alloc (.cells #[.int .i64 n.kind,.int .u64 (n.set.1:Int),.int .u64 (n.set.2.1:Int),.int .u64 (n.set.2.2.1:Int),.int .u64 (n.set.2.2.2:Int),.slice uo n.kids.length uc] 116)=W1:=⟨_,rfl⟩;(try rw[hW1]);rw[hW1] at HS0;clear hW1;obtain⟨b,hb⟩:∃b,w.heap.size=b:=⟨_,rfl⟩;(try rw[hb]);rw[hb] at HS0;clear hb;obtain⟨⟨c0,c1,c2,c3,c4,c5⟩,_⟩:=HS0.out.x.cells;have hbl:=HS0.out.x.lt;obtain⟨g,o,cap,ku,kl,kc,hue,hul2,rfl,hnk,hso,_,hcell⟩:=HS0.out.kid HK0.out;injection hue with e1 e2 e3
 subst e1 e3;clear e2;have d0:=hcell 0 _ (by decide) rfl;have d1:=hcell 1 _ (by decide) rfl;have d2:=hcell 2 _ (by decide) rfl;have d3:=hcell 3 _ (by decide) rfl;have d4:=hcell 4 _ (by decide) rfl;have d5:=hcell 5 _ (by decide) rfl;simp only[Nat.zero_mul,Nat.zero_add,Nat.add_zero] at d0 d1 d2 d3 d4 d5;have HA:=qh (nloop_any hB HS0.out.e HS0.out.newP next _ hnk (by have:=HLM.out;omega));unfold nodeV at HA;clear hcell hnk;go_wp2_with fail
 go_fit HA.out;rintro e w2 ⟨rfl,h1,h2⟩;have HF:=qh (HS0.out.go h1 h2).fin;clear h1 h2 HA HS0 d0 d1 d2 d3 d4 d5 c0 c1 c2 c3 c4 c5;go_wp2_with fail
 go_ret
 exact⟨rfl,HF.out⟩
set_option maxRecDepth 4000 in
set_option maxHeartbeats 8000000 in
theorem nbuild_maybe (hk:n.kind=6) (m:Nd) (hm:n.kids= [m]) (hB:BuildsW m) (h:NfaE P w B q first fv) (hP:∀k,w.heap.size≤k→¬P k) (next:Nat) (x:Value) (hx:NodeW P w n x) (hlen:q.length+2*wtR n≤100000):
  Calls Tryz.prog 53 #[.pointer (some ⟨B,0,none⟩),x,.int .i64 (next:Int)] w fun e w'=>e= .returned (.int .i64 ((buildT n q next).2:Int))∧NfaE P w' B (buildT n q next).1 first fv∧KeepW P w w':=by
 obtain⟨hs,u,rfl,hu⟩:=hx;obtain⟨uo,uc,rfl,hul,hub⟩:=hu.form;have HS0:=qh (BuF.start h hP hu);have hw:wtR n=wtR m+1:=by rw[wt_kids,hm];simp[wtL]
 have h0k:n.kids[0]? =some m:=by rw[hm];rfl
 have hone:∀q x,oneT n.kids q x=buildT m q x:=fun q x=>by rw[hm,oneT]
 rw[show buildT n q next=((buildT m q next).1++ [forkS (buildT m q next).2 next],(buildT m q next).1.length) by rw[buildT_eq,if_neg (by rw[hk];decide),if_neg (by rw[hk];decide),if_neg (by rw[hk];decide),if_neg (by rw[hk];decide),if_neg (by rw[hk];decide),if_pos hk,hone]];have hlk:0<n.kids.length:=by rw[hm];simp
 have hlki:(0:Int)<(n.kids.length:Int):=by omega
 have hk1:(n.kind==1)=false:=by rw[hk];rfl
 have hk2:(n.kind==2)=false:=by rw[hk];rfl
 have hk3:(n.kind==3)=false:=by rw[hk];rfl
 have hk4:(n.kind==4)=false:=by rw[hk];rfl
 have hk5:(n.kind==5)=false:=by rw[hk];rfl
 have hk6:(n.kind==6)=true:=by rw[hk];rfl
 clear hk;have HK0:=qh h0k;have hlq:=build_len m q next;obtain⟨⟨q2,a⟩,hq2⟩:∃r,buildT m q next=r:=⟨_,rfl⟩;rw[hq2] at hlq ⊢;simp only at hlq ⊢;have HL:Hid (q2.length≤100000):=qh (by omega);have HQ2:=qh hq2;have hlm:q.length+2*wtR m+1≤100000:=by omega
 have HLM:=qh hlm;unfold nodeV;clear h hP hu h0k hone hm hw hlm hlen hlq hq2;go_enter Tryz.func53,Tryz.ntmps53;go_upto_region 1 with (fail)
 obtain⟨W1,hW1⟩:∃W1,w.alloc (.cells #[.int .i64 n.kind,.int .u64 (n.set.1:Int),.int .u64 (n.set.2.1:Int),.int .u64 (n.set.2.2.1:Int),.int .u64 (n.set.2.2.2:Int),.slice uo n.kids.length uc] 116)=W1:=⟨_,rfl⟩;(try rw[hW1]);rw[hW1] at HS0;clear hW1;obtain⟨b,hb⟩:∃b,w.heap.size=b:=⟨_,rfl⟩;(try rw[hb]);rw[hb] at HS0;clear hb;obtain⟨⟨c0,c1,c2,c3,c4,c5⟩,_⟩:=HS0.out.x.cells;have hbl:=HS0.out.x.lt;obtain⟨g,o,cap,ku,kl,kc,hue,hul2,rfl,hnk,hso,_,hcell⟩:=HS0.out.kid HK0.out;injection hue with e1 e2 e3
 subst e1 e3;clear e2;have d0:=hcell 0 _ (by decide) rfl;have d1:=hcell 1 _ (by decide) rfl;have d2:=hcell 2 _ (by decide) rfl;have d3:=hcell 3 _ (by decide) rfl;have d4:=hcell 4 _ (by decide) rfl;have d5:=hcell 5 _ (by decide) rfl;simp only[Nat.zero_mul,Nat.zero_add,Nat.add_zero] at d0 d1 d2 d3 d4 d5;have HA:=qh (hB _ _ _ _ _ _ next _ HS0.out.e HS0.out.newP hnk (by have:=HLM.out;omega));unfold nodeV at HA;rw[HQ2.out] at HA;simp only at HA;clear hcell hnk;go_wp2_with fail
 go_fit HA.out;rintro e w2 ⟨rfl,h1,h2⟩;have H2:=qh (HS0.out.go h1 h2);have HB2:=qh (nfork_any H2.out.e H2.out.newP a next HL.out);clear h1 h2 HA HS0 d0 d1 d2 d3 d4 d5 c0 c1 c2 c3 c4 c5;go_wp2_with fail
 go_fit HB2.out;rintro e w3 ⟨rfl,h1,h2⟩;have HF:=qh (H2.out.go h1 h2).fin;clear h1 h2;go_wp2_with fail
 go_ret
 exact⟨rfl,HF.out⟩
end
end Go.Proofs.YtjeomlickkpebaaGreatDoor
namespace Go.Proofs.YtjeomlickkpebaaGreatDoor
open Go.RowKit
section
variable {P:Nat→Prop} {w:World} {B:Nat} {n:Nd} {q:List Sta} {first:List Int} {fv:Value}
theorem catT_drop {l:List Nd} {k:Nat} {m:Nd} (h:l[k]? =some m) (q:List Sta) (x:Nat):catT (l.drop k) q x=buildT m (catT (l.drop (k+1)) q x).1 (catT (l.drop (k+1)) q x).2:=by
 have hk:=(List.getElem?_eq_some_iff.1 h).1;rw[List.drop_eq_getElem_cons hk,(List.getElem?_eq_some_iff.1 h).2,catT]
theorem wtL_drop {l:List Nd} {k:Nat} {m:Nd} (h:l[k]? =some m):wtL (l.drop k)=wtR m+wtL (l.drop (k+1)):=by
 have hk:=(List.getElem?_eq_some_iff.1 h).1;rw[List.drop_eq_getElem_cons hk,(List.getElem?_eq_some_iff.1 h).2,wtL]
theorem wtL_drop_le:∀(l:List Nd) (k:Nat),wtL (l.drop k)≤wtL l
 | _,0=>Nat.le_refl _
 | [],_+1=>Nat.le_refl _
 | n::l,k+1=>by
  rw[List.drop_succ_cons,wtL];have:=wtL_drop_le l k;omega
set_option maxRecDepth 4000 in
set_option maxHeartbeats 8000000 in
theorem nbuild_cat (hk:n.kind=2) (hB:∀m,m∈n.kids→BuildsW m) (h:NfaE P w B q first fv) (hP:∀k,w.heap.size≤k→¬P k) (next:Nat) (x:Value) (hx:NodeW P w n x) (hlen:q.length+2*wtR n≤100000):
  Calls Tryz.prog 53 #[.pointer (some ⟨B,0,none⟩),x,.int .i64 (next:Int)] w fun e w'=>e= .returned (.int .i64 ((buildT n q next).2:Int))∧NfaE P w' B (buildT n q next).1 first fv∧KeepW P w w':=by
 obtain⟨hs,u,rfl,hu⟩:=hx;obtain⟨uo,uc,rfl,hul,hub⟩:=hu.form;have HS0:=qh (BuF.start h hP hu);rw[show buildT n q next=catT n.kids q next by rw[buildT_eq,if_neg (by rw[hk];decide),if_pos hk]];have hw:wtR n=wtL n.kids+1:=wt_kids n;have HW:Hid (q.length+2*wtL n.kids+2≤100000):=qh (by omega);have hll:=wtL_len n.kids;have hk1:(n.kind==1)=false:=by rw[hk];rfl
 have hk2:(n.kind==2)=true:=by rw[hk];rfl
 obtain⟨nl,hnl⟩:∃nl,n.kids.length=nl:=⟨_,rfl⟩;have HN:=qh hnl;have HB:=qh hB;unfold nodeV;rw[hnl] at hul hub hll HS0 ⊢;have hnb:nl≤100000:=by omega
 clear hk hw hll hlen hnl hB;clear h hP hu;go_enter Tryz.func53,Tryz.ntmps53;go_upto_region 1 with (fail)
 obtain⟨W1,hW1⟩:∃W1,w.alloc (.cells #[.int .i64 n.kind,.int .u64 (n.set.1:Int),.int .u64 (n.set.2.1:Int),.int .u64 (n.set.2.2.1:Int),.int .u64 (n.set.2.2.2:Int),.slice uo nl uc] 116)=W1:=⟨_,rfl⟩;(try rw[hW1]);rw[hW1] at HS0;clear hW1;obtain⟨b,hb⟩:∃b,w.heap.size=b:=⟨_,rfl⟩;(try rw[hb]);rw[hb] at HS0;clear hb;obtain⟨⟨c0,c1,c2,c3,c4,c5⟩,_⟩:=HS0.out.x.cells;have hbl:=HS0.out.x.lt;have HQ0:Hid (∃qq:List Sta,BuF P w W1 B b n (.slice uo nl uc) qq first fv∧catT (n.kids.drop nl) q next=(qq,next)):=qh ⟨q,HS0.out,by rw[List.drop_eq_nil_of_le (by rw[HN.out];exact Nat.le_refl _),catT]⟩;clear HS0;have hn0:(0:Int)≤(nl:Int):=by omega
 have hnb2:(nl:Int)≤100000:=by omega
 go_wp2_with fail
 go_loopw [2,7] (fun s2 s7 wr=>∃(j nx:Nat),s7= .int .i64 ((j:Int)-1)∧j≤nl∧s2= .int .i64 (nx:Int)∧Hid (∃qq:List Sta,BuF P w wr B b n (.slice uo nl uc) qq first fv∧catT (n.kids.drop j) q next=(qq,nx))) (fun _ s7 _=>(intOf s7+1).toNat)
 case atStart=>exact⟨nl,next,rfl,Nat.le_refl _,rfl,HQ0⟩
 case round=>
  obtain⟨j,nx,rfl,hj,rfl,HX⟩:=hrel;clear HQ0 c0 c1 c2 c3 c4 c5 hbl;obtain⟨qq,hX⟩:=HX.out;have HQ:=qh hX;clear HX hX;obtain⟨⟨c0,c1,c2,c3,c4,c5⟩,_⟩:=HQ.out.1.x.cells;have hbl:=HQ.out.1.x.lt;rcases j with _ | j
  ·have HF:Hid (catT n.kids q next=(qq,nx)∧NfaE P wr B qq first fv∧KeepW P w wr):=qh ⟨HQ.out.2,HQ.out.1.fin⟩;clear HQ;go_wp2_with fail
   go_ret
   exact⟨by rw[HF.out.1];rfl,by rw[HF.out.1];exact HF.out.2⟩
  ·rw[show ((j+1:Nat):Int)-1=(j:Int) by omega];have j0:(0:Int)≤(j:Int):=(by omega);have j0':decide ((j:Int)<0)=false:=decide_eq_false (by omega);have jb:(j:Int)≤100000:=(by omega);have jl:(j:Int)<(nl:Int):=(by omega);have hla:j<n.kids.length:=(by have:=HN.out;omega);obtain⟨m,hm⟩:∃m,n.kids[j]=m:=⟨_,rfl⟩;have hil:n.kids[j]? =some m:=(by rw[List.getElem?_eq_getElem hla,hm]);have hmem:m∈n.kids:=List.mem_of_getElem? hil;obtain⟨g,o,cap,ku,kl,kc,hue,_,rfl,hnk,_,_,hcell⟩:=HQ.out.1.kid hil;injection hue with e1 e2 e3
   subst e1 e3;clear e2;have d0:=hcell 0 _ (by decide) rfl;have d1:=hcell 1 _ (by decide) rfl;have d2:=hcell 2 _ (by decide) rfl;have d3:=hcell 3 _ (by decide) rfl;have d4:=hcell 4 _ (by decide) rfl;have d5:=hcell 5 _ (by decide) rfl;simp only[Nat.add_zero,←Nat.add_assoc] at d0 d1 d2 d3 d4 d5;have hcq:=catT_len (n.kids.drop (j+1)) q next;rw[HQ.out.2] at hcq;simp only at hcq;have hw1:=wtL_drop hil;have hw2:=wtL_drop_le n.kids j;have HA:=qh (HB.out m hmem _ _ _ _ _ _ nx _ HQ.out.1.e HQ.out.1.newP hnk (by have:=HW.out;omega));have HE:Hid (catT (n.kids.drop j) q next=buildT m qq nx):=qh (by rw[catT_drop hil,HQ.out.2]);unfold nodeV at HA;obtain⟨⟨q2,a⟩,hq2⟩:∃r,buildT m qq nx=r:=⟨_,rfl⟩;rw[hq2] at HA HE;simp only at HA;clear hcell hnk hil hmem hla hm hcq hw1 hw2 hq2;go_wp2_with fail
   go_fit HA.out;rintro e w2 ⟨rfl,h1,h2⟩;have H2:=qh (HQ.out.1.go h1 h2);clear h1 h2 HA HQ d0 d1 d2 d3 d4 d5 c0 c1 c2 c3 c4 c5 hbl;go_wp2_with fail
   go_roundw
   case rel=>exact⟨j,a,rfl,by omega,rfl,qh ⟨q2,H2.out,HE.out⟩⟩
   case measure=>simp[intOf]<;>omega
theorem altsT_drop {l:List Nd} {k:Nat} {m:Nd} (h:l[k]? =some m) (q:List Sta) (a x:Nat):altsT (l.drop k) q a x=altsT (l.drop (k+1)) ((buildT m q x).1++ [forkS a (buildT m q x).2]) (buildT m q x).1.length x:=by
 have hk:=(List.getElem?_eq_some_iff.1 h).1;rw[List.drop_eq_getElem_cons hk,(List.getElem?_eq_some_iff.1 h).2,altsT]
set_option maxRecDepth 4000 in
set_option maxHeartbeats 8000000 in
theorem nbuild_alt (hk:n.kind=3) (hB:∀m,m∈n.kids→BuildsW m) (hn2:2≤n.kids.length) (h:NfaE P w B q first fv) (hP:∀k,w.heap.size≤k→¬P k) (next:Nat) (x:Value) (hx:NodeW P w n x) (hlen:q.length+2*wtR n≤100000):
  Calls Tryz.prog 53 #[.pointer (some ⟨B,0,none⟩),x,.int .i64 (next:Int)] w fun e w'=>e= .returned (.int .i64 ((buildT n q next).2:Int))∧NfaE P w' B (buildT n q next).1 first fv∧KeepW P w w':=by
 obtain⟨hs,u,rfl,hu⟩:=hx;obtain⟨uo,uc,rfl,hul,hub⟩:=hu.form;have HS0:=qh (BuF.start h hP hu);rw[show buildT n q next=altT n.kids q next by rw[buildT_eq,if_neg (by rw[hk];decide),if_neg (by rw[hk];decide),if_pos hk]];have hw:wtR n=wtL n.kids+1:=wt_kids n;have HW:Hid (q.length+2*wtL n.kids+2≤100000):=qh (by omega);have hll:=wtL_len n.kids;have hk1:(n.kind==1)=false:=by rw[hk];rfl
 have hk2:(n.kind==2)=false:=by rw[hk];rfl
 have hk3:(n.kind==3)=true:=by rw[hk];rfl
 obtain⟨nl,hnl⟩:∃nl,n.kids.length=nl:=⟨_,rfl⟩;have HN:=qh hnl;have HB:=qh hB;unfold nodeV;rw[hnl] at hul hub hll HS0 hn2 ⊢;have hnb:nl≤100000:=by omega
 clear hk hw hll hlen hnl hB;clear h hP hu;go_enter Tryz.func53,Tryz.ntmps53;go_upto_region 1 with (fail)
 obtain⟨W1,hW1⟩:∃W1,w.alloc (.cells #[.int .i64 n.kind,.int .u64 (n.set.1:Int),.int .u64 (n.set.2.1:Int),.int .u64 (n.set.2.2.1:Int),.int .u64 (n.set.2.2.2:Int),.slice uo nl uc] 116)=W1:=⟨_,rfl⟩;(try rw[hW1]);rw[hW1] at HS0;clear hW1;obtain⟨b,hb⟩:∃b,w.heap.size=b:=⟨_,rfl⟩;(try rw[hb]);rw[hb] at HS0;clear hb;obtain⟨⟨c0,c1,c2,c3,c4,c5⟩,_⟩:=HS0.out.x.cells;have hbl:=HS0.out.x.lt;have hn0:(0:Int)<(nl:Int):=by omega
 have hnb2:(nl:Int)≤100000:=by omega
 have hla:0<n.kids.length:=by have:=HN.out;omega
 obtain⟨m,hm⟩:∃m,n.kids[0]=m:=⟨_,rfl⟩;have hil:n.kids[0]? =some m:=by rw[List.getElem?_eq_getElem hla,hm]
 have hmem:m∈n.kids:=List.mem_of_getElem? hil;obtain⟨g,o,cap,ku,kl,kc,hue,_,rfl,hnk,_,_,hcell⟩:=HS0.out.kid hil;injection hue with e1 e2 e3
 subst e1 e3;clear e2;have d0:=hcell 0 _ (by decide) rfl;have d1:=hcell 1 _ (by decide) rfl;have d2:=hcell 2 _ (by decide) rfl;have d3:=hcell 3 _ (by decide) rfl;have d4:=hcell 4 _ (by decide) rfl;have d5:=hcell 5 _ (by decide) rfl;simp only[Nat.zero_mul,Nat.zero_add,Nat.add_zero] at d0 d1 d2 d3 d4 d5;have hcons:n.kids=m::n.kids.drop 1:=by
  have:=List.drop_eq_getElem_cons hla;rw[List.drop_zero,hm] at this;exact this
 have HE0:Hid (altT n.kids q next=altsT (n.kids.drop 1) (buildT m q next).1 (buildT m q next).2 next):=qh (by
  conv=>lhs;rw[hcons]
  rw[altT])
 have HW1:Hid (wtL n.kids=wtR m+wtL (n.kids.drop 1)):=qh (by
  conv=>lhs;rw[hcons]
  rw[wtL])
 have HA:=qh (HB.out m hmem _ _ _ _ _ _ next _ HS0.out.e HS0.out.newP hnk (by have:=HW.out;have:=HW1.out;omega));have HLQ:=qh (build_len m q next);unfold nodeV at HA;obtain⟨⟨q2,a0⟩,hq2⟩:∃r,buildT m q next=r:=⟨_,rfl⟩;rw[hq2] at HA HE0 HLQ;simp only at HA HE0 HLQ;clear hcell hnk hil hmem hla hm hq2 hcons;go_upto_region 11 with (fail)
 go_wp2_with fail
 go_fit HA.out;rintro e w2 ⟨rfl,h1,h2⟩;have H2:=qh (HS0.out.go h1 h2);clear h1 h2 HA d0 d1 d2 d3 d4 d5 c0 c1 c2 c3 c4 c5 hbl HS0;obtain⟨⟨c0,c1,c2,c3,c4,c5⟩,_⟩:=H2.out.x.cells;have hbl:=H2.out.x.lt;obtain⟨n1,hn1⟩:∃n1:Nat,nl=n1+1:=⟨nl-1,by omega⟩;subst hn1;have hs1:((n1+1:Nat):Int)-1=(n1:Int):=by omega
 have HQ0:Hid (∃qq:List Sta,BuF P w w2 B b n (.slice (some ⟨g,o,none⟩) (n1+1) uc) qq first fv∧altsT (n.kids.drop (0+1)) qq a0 next=altT n.kids q next∧qq.length+2*wtL (n.kids.drop (0+1))+2≤100000):=qh ⟨q2,H2.out,HE0.out.symm,by have:=HW.out;have:=HW1.out;have:=HLQ.out;show q2.length+2*wtL (n.kids.drop 1)+2≤_;omega⟩;clear H2 HE0 HW1 HLQ HW;go_wp2_with fail
 go_loopw [8,57] (fun s8 s57 wr=>∃(i a:Nat),s57= .int .i64 (i:Int)∧i≤n1∧s8= .int .i64 (a:Int)∧Hid (∃qq:List Sta,BuF P w wr B b n (.slice (some ⟨g,o,none⟩) (n1+1) uc) qq first fv∧altsT (n.kids.drop (i+1)) qq a next=altT n.kids q next∧qq.length+2*wtL (n.kids.drop (i+1))+2≤100000)) (fun _ s57 _=>n1-(intOf s57).toNat)
 case atStart=>exact⟨0,a0,rfl,Nat.zero_le _,rfl,HQ0⟩
 case round=>
  obtain⟨i,a,rfl,hi,rfl,HX⟩:=hrel;clear HQ0 c0 c1 c2 c3 c4 c5 hbl;obtain⟨qq,hX⟩:=HX.out;have HQ:=qh hX;clear HX hX;have i0:(0:Int)≤(i:Int):=by omega
  have ib:(i:Int)≤100000:=by omega
  by_cases hlt:i<n1
  ·have hli:(i:Int)<(n1:Int):=(by omega);have hla:i+1<n.kids.length:=(by have:=HN.out;omega);obtain⟨m,hm⟩:∃m,n.kids[i+1]=m:=⟨_,rfl⟩;have hil:n.kids[i+1]? =some m:=(by rw[List.getElem?_eq_getElem hla,hm]);have hmem:m∈n.kids:=List.mem_of_getElem? hil;obtain⟨g',o',cap',ku,kl,kc,hue,_,rfl,hnk,hso,hkk,hcell⟩:=HQ.out.1.kid hil;injection hue with e1 e2 e3
   injection e1 with e1
   injection e1 with e4 e5
   subst e4 e5;clear e2 e3;have eo:∀j,o+((i+1)*6+j)=o+6+i*6+j:=fun j=>(by omega);have d0:=hcell 0 _ (by decide) rfl;have d1:=hcell 1 _ (by decide) rfl;have d2:=hcell 2 _ (by decide) rfl;have d3:=hcell 3 _ (by decide) rfl;have d4:=hcell 4 _ (by decide) rfl;have d5:=hcell 5 _ (by decide) rfl;rw[eo] at d0 d1 d2 d3 d4 d5;rw[Nat.add_zero] at d0;have hgl:=rlt d0;have hb2:=alloc_under wr (.cells #[.int .i64 m.kind,.int .u64 (m.set.1:Int),.int .u64 (m.set.2.1:Int),.int .u64 (m.set.2.2.1:Int),.int .u64 (m.set.2.2.2:Int),.slice kl m.kids.length kc] 116);have hQ2:=HQ.out.1.under hb2;have H2:=qh hQ2;have hwd:=wtL_drop hil;have hHQ:=HQ.out.2.2;have HA:=qh (HB.out m hmem _ _ _ _ _ _ next _ hQ2.e hQ2.newP (NodeW.below hnk hb2) (by omega));have hbn:=build_len m qq next;have HE0:Hid (altsT (n.kids.drop (i+1+1)) ((buildT m qq next).1++ [forkS a (buildT m qq next).2]) (buildT m qq next).1.length next=altT n.kids q next):=qh (by rw[←altsT_drop hil];exact HQ.out.2.1);unfold nodeV at HA;obtain⟨⟨q2,a2⟩,hq2⟩:∃r,buildT m qq next=r:=⟨_,rfl⟩;rw[hq2] at HA HE0 hbn;simp only at HA HE0 hbn;have HL:Hid (q2.length+1+2*wtL (n.kids.drop (i+1+1))+2≤100000∧q2.length≤100000):=qh ⟨by omega,by omega⟩;have hBX:=qh (boxN.new 116 wr m.kind m.set (.slice kl m.kids.length kc));obtain⟨⟨x0,x1,x2,x3,x4,x5⟩,_⟩:=hBX.out.cells;clear hcell hnk hil hmem hla hm hq2 hb2 hQ2 hwd hHQ hbn hso hkk eo;go_wp2_with fail
   go_fit HA.out;rintro e w3 ⟨rfl,h1,h2⟩;have H3:=qh (H2.out.go h1 h2);have HK:=qh (nfork_any H3.out.e H3.out.newP a a2 HL.out.2);clear h1 h2 HA H2 HQ d0 d1 d2 d3 d4 d5 hBX x0 x1 x2 x3 x4 x5;go_wp2_with fail
   go_fit HK.out;rintro e w4 ⟨rfl,h1,h2⟩;have H4:=qh (H3.out.go h1 h2);clear h1 h2 HK H3;go_wp2_with fail
   go_roundw
   case rel=>exact⟨i+1,q2.length,by go_num,hlt,rfl,qh ⟨_,H4.out,HE0.out,by rw[List.length_append];exact HL.out.1⟩⟩
   case measure=>simp[intOf]<;>omega
  ·have hli:¬(i:Int)<(n1:Int):=(by omega);have HF:Hid (altT n.kids q next=(qq,a)∧NfaE P wr B qq first fv∧KeepW P w wr):=by
    refine qh ⟨?_,HQ.out.1.fin⟩;rw[←HQ.out.2.1,List.drop_eq_nil_of_le (by have:=HN.out;omega),altsT]
   clear HQ;go_wp2_with fail
   go_ret
   exact⟨by rw[HF.out.1];rfl,by rw[HF.out.1];exact HF.out.2⟩
end
end Go.Proofs.YtjeomlickkpebaaGreatDoor
namespace Go.Proofs.YtjeomlickkpebaaGreatDoor
open Go.RowKit
theorem mayL_mem2:∀ {l:List Nd} {m:Nd},mayL l=true→m∈l→mayR m=true
 | n::l,m,h,hm=>by
  rw[mayL,Bool.and_eq_true] at h;rcases List.mem_cons.1 hm with rfl | hm
  ·exact h.1
  ·exact mayL_mem2 h.2 hm
theorem lays_any:∀(N:Nat) (n:Nd),wtR n≤N→mayR n=true→LayW n
 | 0,n,h,_=>absurd (wt_pos n) (by omega)
 | N+1,n,h,hm=>by
  have hf:formR n.kind n.set n.kids.length=true∧mayL n.kids=true:=by
   cases n with
   | mk k s l=>exact may_parts hm
  obtain⟨f0,f6,f1,f4,f2,_⟩:=form_spec hf.1;have hk:=wt_kids n;have hB:∀m,m∈n.kids→LayW m:=fun m hmem=>lays_any N m (by have:=wtL_mem n.kids m hmem;omega) (mayL_mem2 hf.2 hmem);have hone:4≤n.kind→∃m,n.kids= [m]:=fun h4=>by
   have h1:=f4 h4
   match hl:n.kids with
   | [m]=>exact⟨m,rfl⟩
   | []=>rw[hl] at h1;cases h1
   | _::_::_=>rw[hl] at h1;simp at h1
  intro X w R sv bv lv S m E x h1 h2 h3 h4 h5;by_cases k1:n.kind=1
  ·exact rlay_bytes k1 (List.eq_nil_of_length_eq_zero (f1 (by omega))) h1 h2 h3 h4 h5
  by_cases k2:n.kind=2
  ·exact rlay_cat k2 hB h1 h2 h3 h4 h5
  by_cases k3:n.kind=3
  ·exact rlay_alt k3 hB h1 h2 h3 h4 h5
  by_cases k4:n.kind=4
  ·obtain⟨k,hl⟩:=hone (by omega);exact rlay_star k4 k hl (hB k (by rw[hl];simp)) h1 h2 h3 h4 h5
  by_cases k5:n.kind=5
  ·obtain⟨k,hl⟩:=hone (by omega);exact rlay_plus k5 k hl (hB k (by rw[hl];simp)) h1 h2 h3 h4 h5
  by_cases k6:n.kind=6
  ·obtain⟨k,hl⟩:=hone (by omega);exact rlay_maybe k6 k hl (hB k (by rw[hl];simp)) h1 h2 h3 h4 h5
  exact rlay_none ⟨k1,k2,k3,k4,k5,k6⟩ (List.eq_nil_of_length_eq_zero (f1 (by omega))) h1 h2 h3 h4 h5
theorem Tryz.infoBoolsN:(Tryz.prog.info? 46).map (fun i=>(i.zero,i.size,i.bytes))=some (some (.slice none 0 0),1,24):=by kernel_rfl
structure OfW (w0 w:World) (R m i:Nat) (sv bv:Value):Prop where
 b:box3 48 w R sv bv (.slice none 0 0)
 s:w.ownsRow 0 51 4 sv 1 (setsC [noR])
 r:∃us:List Value,us.length=i∧w.ownsRow 0 46 1 bv i us∧∀k,k<i→∃u,us[k]? =some u∧BolO (fun k=>OwnR R sv bv k∨k<w0.heap.size) w u m noF
 sR:sv.ownBlock≠some R
 bR:bv.ownBlock≠some R
 sb:∀k,sv.ownBlock=some k→bv.ownBlock≠some k
 bel:Below w0.heap.size w0 w
 fresh:∀k,OwnR R sv bv k→w0.heap.size<k
section
variable {w0 w w':World} {R m i:Nat} {sv bv:Value}
theorem OfW.under (h:OfW w0 w R m i sv bv) (hb:Below w.heap.size w w'):OfW w0 w' R m i sv bv:=by
 obtain⟨us,h1,h2,h3⟩:=h.r;refine⟨h.b.under hb,ownRow_keep h.s (keep_below (fun _=>True) hb) fun _ _=>trivial,⟨us,h1,ownRow_keep h2 (keep_below (fun _=>True) hb) fun _ _=>trivial,fun k hk=> ?_⟩,h.sR,h.bR,h.sb,h.bel.trans (hb.mono h.bel.size),h.fresh⟩;obtain⟨u,h4,h5⟩:=h3 k hk;exact⟨u,h4,h5.under hb⟩
theorem OfW.ownlt (h:OfW w0 w R m i sv bv):∀k,w.heap.size≤k→¬OwnR R sv bv k:=fun k hk e=>by
 obtain⟨us,_,h2,_⟩:=h.r;have h3:=h.b.lt;rcases e with e | e | e
 ·omega
 ·have:=(World.ownsRow.lt h.s k e).2;omega
 ·have:=(World.ownsRow.lt h2 k e).2;omega
theorem OfW.form (h:OfW w0 w R m i sv bv):∃ao cap,bv= .slice ao i cap:=by
 obtain⟨us,_,h2,_⟩:=h.r;obtain⟨ao,cap,hv,_⟩:=ownZ h2;exact⟨ao,cap,hv⟩
theorem OfW.push {Y:Nat} {u:Value} (h:OfW w0 w R m i sv bv) (t ty:TypeId) (ht:Tryz.prog.underlying t=some (.slice 46)) (hY:w.cell? ⟨Y,0,none⟩=some u) (hu:BolO (fun k=>OwnR R sv bv k∨k<w0.heap.size) w u m noF) (hl:i≤100000):
  ∃ao cap w',(Builtin.append_ #[t,t] ty #[bv,.slice (some ⟨Y,0,none⟩) 1 1]).run Tryz.prog w= .ok (.slice ao (i+1) cap) w'∧w'.cell? ⟨R,1,none⟩=some bv∧w'.frozen? ⟨R,1,none⟩=false∧R<w'.heap.size ∧
   OfW w0 (w'.setCell ⟨R,1,none⟩ (.slice ao (i+1) cap)) R m (i+1) sv (.slice ao (i+1) cap)∧Gone (OwnR R sv bv) (OwnR R sv (.slice ao (i+1) cap)) w (w'.setCell ⟨R,1,none⟩ (.slice ao (i+1) cap)):=by
 obtain⟨i0,hi,hz0,hz1,hz2⟩:=info_of Tryz.infoBoolsN;obtain⟨us,h1,h2,h3⟩:=h.r;have hone:u.oneCell'=true:=hu.one;obtain⟨v',w',hr,hown',hgr,_,hat⟩:=run_append_own_at (P:=Tryz.prog) w 0 t ty 46 i0 (.slice none 0 0) 1 24 ht hi hz0 hz1 hz2 rfl (by decide) bv i us h2 ⟨Y,0,none⟩ 1 1 [u] rfl (fun j x hx=>by
  have hj:=(List.getElem?_eq_some_iff.1 hx).1;have:j=0:=by simpa using hj
  subst this;rw[rlit];simp at hx;rw[←hx];exact hY) (fun x hx=>by rw[List.mem_singleton.1 hx];exact hone) (by unfold maxLen;omega) (by omega) (Nat.zero_le _)
 obtain⟨ao,cap,hv,_⟩:=ownZ hown';subst hv;have hk1:KeepW (fun k=>bv.ownBlock≠some k) w w':=⟨hgr.os,hgr.tape,hgr.output,hgr.size,fun k hk hne=>hgr.block k hk fun e=>hne e.symm⟩;have hk2:KeepW (fun k=>k≠R) w' (w'.setCell ⟨R,1,none⟩ (.slice ao (i+1) cap)):=keep_set R 1 none _ w' fun h=>h rfl;have hb:=h.b.keep hk1 h.bR;have hlt:=h.ownlt;have hnew:∀k,(Value.slice ao (i+1) cap).ownBlock=some k→bv.ownBlock=some k∨k=w.heap.size:=fun k e=>by
  rcases hat with hat | hat
  ·exact .inl (hat▸e)
  ·rw[hat] at e;cases e;exact .inr rfl
 have hRl:=h.b.lt;have hg:Gone (OwnR R sv bv) (OwnR R sv (.slice ao (i+1) cap)) w (w'.setCell ⟨R,1,none⟩ (.slice ao (i+1) cap)):=by
  refine⟨(hk1.mono fun k _ ho e=>ho (.inr (.inr e))).trans (hk2.mono fun k _ ho e=>ho (.inl e)),fun k e=> ?_⟩;rcases e with e | e | e
  ·exact .inl (.inl e)
  ·exact .inl (.inr (.inl e))
  ·rcases hnew k e with e | e
   ·exact .inl (.inr (.inr e))
   ·exact .inr (by omega)
 have hR0:=h.fresh R (.inl rfl);refine⟨ao,cap,w',hr,hb.cells.1.2.1,hb.cells.2.2.1,hb.lt,⟨hb.set1 _,ownRow_keep (ownRow_keep h.s hk1 fun k e e2=>h.sb k e e2) hk2 fun k e e2=>h.sR (by rw[←e2];exact e),⟨us++ [u],by rw[List.length_append,h1];rfl,ownRow_keep hown' hk2 fun k e e2=> ?_,fun k hk=> ?_⟩,h.sR,fun e=> ?_,fun k e e2=> ?_,?_,fun k e=> ?_⟩,hg⟩
 ·rcases hnew k e with e3 | e3
  ·exact h.bR (by rw[←e2];exact e3)
  ·omega
 ·by_cases hki:k<i
  ·obtain⟨y,h4,h5⟩:=h3 k hki;exact⟨y,by rw[List.getElem?_append_left (by omega)];exact h4,h5.go (hg.wide _)⟩
  ·have:k=i:=(by omega);subst this;exact⟨u,by rw[List.getElem?_append_right (by omega),h1,Nat.sub_self];rfl,hu.go (hg.wide _)⟩
 ·rcases hnew R e with e3 | e3
  ·exact h.bR e3
  ·omega
 ·rcases hnew k e2 with e3 | e3
  ·exact h.sb k e e3
  ·exact hlt k (by omega) (.inr (.inl e))
 ·exact KeepW.below h.bel (hg.keep.mono fun k _ ho=>ho) h.bel.size fun k hk e=>by have:=h.fresh k e;omega
 ·rcases hg.new k e with e3 | e3
  ·exact h.fresh k e3
  ·have:=h.bel.size;omega
end
end Go.Proofs.YtjeomlickkpebaaGreatDoor
