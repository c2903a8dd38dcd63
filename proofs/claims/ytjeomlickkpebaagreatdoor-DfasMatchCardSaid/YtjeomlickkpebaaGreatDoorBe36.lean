/-
  Texts of this proof, one behind the other; each begins with its own remark.
-/
import Derived.Deep.CutRange
import Derived.Deep.CutBlock
import Derived.Deep.RegionLaw
import Derived.Test.YtjeomlickkpebaaGreatDoorBe32
import Derived.Test.YtjeomlickkpebaaGreatDoorBe9
import Derived.Test.YtjeomlickkpebaaGreatDoorBe2
import Derived.Test.YtjeomlickkpebaaGreatDoorBe8
import Derived.Test.YtjeomlickkpebaaGreatDoorBe15
import Derived.Test.YtjeomlickkpebaaGreatDoorBe35
import Derived.Test.YtjeomlickkpebaaGreatDoorBe30
import Derived.Test.YtjeomlickkpebaaGreatDoorBe17
import Derived.Test.YtjeomlickkpebaaGreatDoorBe3
namespace Go.Proofs.YtjeomlickkpebaaGreatDoor
open Go.RowKit
def staD (s:List Int×Int):List Value:=s.1.map (Value.int .i64)++ [.int .i64 s.2]
def stasD:List (List Int×Int)→List Value
 | []=> []
 | s::q=>staD s++stasD q
def W256 (q:List (List Int×Int)):Prop:=∀s,s∈q→s.1.length=256
theorem staD_len {s:List Int×Int} (h:s.1.length=256):(staD s).length=257:=by
 unfold staD;rw[List.length_append,List.length_map,h];rfl
theorem stasD_app:∀q r,stasD (q++r)=stasD q++stasD r
 | [],r=>rfl
 | s::q,r=>by rw[List.cons_append,stasD,stasD,stasD_app q r,List.append_assoc]
theorem stasD_at:∀(q:List (List Int×Int)) (i:Nat) (s:List Int×Int),W256 q→q[i]? =some s→∀j,j<257→(stasD q)[i*257+j]? =(staD s)[j]?
 | t::q,0,s,hw,h,j,hj=>by
  cases h;rw[stasD,Nat.zero_mul,Nat.zero_add,List.getElem?_append_left (by rw[staD_len (hw t (by simp))];exact hj)]
 | t::q,i+1,s,hw,h,j,hj=>by
  have hl:=staD_len (hw t (by simp));rw[stasD,List.getElem?_append_right (by rw[hl];omega),hl,show (i+1)*257+j-257=i*257+j by omega];exact stasD_at q i s (fun t ht=>hw t (by simp[ht])) h j hj
theorem staD_next {s:List Int×Int} {j:Nat} {a:Int} (h:s.1[j]? =some a):(staD s)[j]? =some (.int .i64 a):=by
 unfold staD;rw[List.getElem?_append_left (by rw[List.length_map];exact (List.getElem?_eq_some_iff.1 h).1),List.getElem?_map,h];rfl
theorem staD_rule {s:List Int×Int} (h:s.1.length=256):(staD s)[256]? =some (.int .i64 s.2):=by
 unfold staD;rw[List.getElem?_append_right (by rw[List.length_map,h];exact Nat.le_refl _),List.length_map,h];rfl
theorem staD_one {s:List Int×Int}:∀x,x∈staD s→x.oneCell'=true:=fun x hx=>by
 unfold staD at hx;rcases List.mem_append.1 hx with hx | hx
 ·obtain⟨a,_,rfl⟩:=List.mem_map.1 hx;rfl
 ·rw[List.mem_singleton.1 hx];rfl
structure DfV (w:World) (v:Value) (d:Dfa):Prop where
 few:d.n≤2000
 len:d.rule.length=d.n
 row:∀r,r∈d.next→r.length=256
 low:∀r,r∈d.next→∀x,x∈r→ -1≤x
 alow:∀x,x∈d.rule→ -1≤x
 at_:(v= .pointer none∧d.n=0)∨∃B sv,v= .pointer (some ⟨B,0,none⟩)∧w.cell? ⟨B,0,none⟩=some sv∧RowZ (fun _=>True) w sv d.n (stasD (d.next.zip d.rule))
section
variable {w w':World} {v:Value} {d:Dfa}
theorem DfV.below (h:DfV w v d) (hb:Below w.heap.size w w'):DfV w' v d:=by
 obtain⟨h1,h2,h3,h4,h5,h6⟩:=h;have hk:=keep_below (fun _=>True) hb;refine⟨h1,h2,h3,h4,h5,?_⟩;rcases h6 with h6 | ⟨B,sv,hv,c0,hs⟩
 ·exact .inl h6
 ·exact .inr ⟨B,sv,hv,hk.cell c0 trivial,hs.keep hk fun _ _ h=>h⟩
theorem zip_256 (h:∀r,r∈d.next→r.length=256):W256 (d.next.zip d.rule):=fun s hs=>h s.1 (List.of_mem_zip hs).1
theorem DfV.to_low (h:DfV w v d) (q:Int) (b:Nat): -1≤d.to q b:=by
 unfold Dfa.to;split
 ·by_cases hq:q.toNat<d.next.length
  ·rw[getD_at (List.getElem?_eq_getElem hq)];by_cases hb:b<(d.next[q.toNat]).length
   ·rw[getD_at (List.getElem?_eq_getElem hb)];exact h.low _ (List.getElem_mem hq) _ (List.getElem_mem hb)
   ·rw[getD_no (by omega)];exact Int.le_refl _
  ·rw[getD_no (l:=d.next) (by omega)];exact Int.le_refl _
 ·exact Int.le_refl _
theorem DfV.acc_low (h:DfV w v d) (q:Int): -1≤d.acc q:=by
 unfold Dfa.acc;split
 ·by_cases hq:q.toNat<d.rule.length
  ·rw[getD_at (List.getElem?_eq_getElem hq)];exact h.alow _ (List.getElem_mem hq)
  ·rw[getD_no (by omega)];exact Int.le_refl _
 ·exact Int.le_refl _
theorem to_out {q:Int} (h:¬(0≤q∧q<(d.n:Int))) (b:Nat):d.to q b= -1:=by
 unfold Dfa.to;split
 ·rename_i h0;rw[getD_no (l:=d.next) (by have:¬q<(d.next.length:Int):=fun e=>h ⟨h0,e⟩;omega)];rfl
 ·rfl
theorem acc_out (hl:d.rule.length=d.n) {q:Int} (h:¬(0≤q∧q<(d.n:Int))):d.acc q= -1:=by
 unfold Dfa.acc;split
 ·rw[getD_no (by omega)]
 ·rfl
theorem DfV.sta (h:DfV w v d) {k:Nat} (hk:k<d.n):∃B g o cap,v= .pointer (some ⟨B,0,none⟩)∧w.cell? ⟨B,0,none⟩=some (.slice (some ⟨g,o,none⟩) d.n cap)∧d.n≤cap ∧
  (∀b,b<256→w.cell? ⟨g,o+(k*257+b),none⟩=some (.int .i64 (d.to k b)))∧w.cell? ⟨g,o+(k*257+256),none⟩=some (.int .i64 (d.acc k))∧∃r,r.length=256∧(∀b,b<256→r[b]? =some (d.to k b))∧w.rangeAt g (o+k*257) (staD (r,d.acc k)):=by
 have hkn:k<d.next.length:=hk;obtain⟨h1,h2,h3,h4,h5,h6⟩:=h;rcases h6 with ⟨_,h6⟩ | ⟨B,sv,hv,c0,⟨ao,cap,rfl,hn,hc⟩⟩
 ·omega
 have hz:(d.next.zip d.rule)[k]? =some (d.next[k],d.rule[k]'(by omega)):=by
  rw[List.getElem?_eq_getElem (by rw[List.length_zip,h2];unfold Dfa.n at *;omega),List.getElem_zip]
 have h256:=h3 _ (List.getElem_mem hkn);have hto:∀b,b<256→d.next[k][b]? =some (d.to k b):=fun b hb=>by
  unfold Dfa.to;rw[if_pos (by omega),Int.toNat_natCast,getD_at (List.getElem?_eq_getElem hkn),List.getElem?_eq_getElem (by omega),getD_at (List.getElem?_eq_getElem (by omega))]
 have hacc:d.rule[k]'(by omega)=d.acc k:=by
  unfold Dfa.acc;rw[if_pos (by omega),Int.toNat_natCast,getD_at (List.getElem?_eq_getElem (by omega))]
 have hat:=fun j hj=>stasD_at _ k _ (zip_256 h3) hz j hj;rw[hacc] at hat;obtain⟨g,o,rfl,_⟩:=hc (k*257+256) _ (by rw[hat 256 (by decide)];exact staD_rule h256);have hcell:∀j x,j<257→(staD (d.next[k],d.acc k))[j]? =some x→w.cell? ⟨g,o+(k*257+j),none⟩=some x:=fun j x hj hx=>by
  obtain⟨g',o',e,_,hg⟩:=hc (k*257+j) x (by rw[hat j hj];exact hx);cases e;exact hg
 refine⟨B,g,o,cap,hv,c0,hn,fun b hb=>hcell b _ (by omega) (staD_next (hto b hb)),hcell 256 _ (by decide) (staD_rule h256),d.next[k],h256,hto,fun j x hx=> ?_⟩;rw[Nat.add_assoc];exact hcell j x (by have:=(List.getElem?_eq_some_iff.1 hx).1;rw[staD_len h256] at this;exact this) hx
end
def DfW (w:World) (v:Value) (d:Dfa):Prop:=DfV w v d∧OkD d∧∀x,x∈d.rule→x≤100000
section
variable {w w':World} {v:Value} {d:Dfa}
theorem DfW.below (h:DfW w v d) (hb:Below w.heap.size w w'):DfW w' v d:=⟨h.1.below hb,h.2⟩
theorem DfW.ok (h:DfW w v d):OkD d:=h.2.1
theorem DfW.high (h:DfW w v d) (q:Int):d.acc q≤100000:=by
 unfold Dfa.acc;split
 ·by_cases hq:q.toNat<d.rule.length
  ·rw[getD_at (List.getElem?_eq_getElem hq)];exact h.2.2 _ (List.getElem_mem hq)
  ·rw[getD_no (by omega)];decide
 ·decide
end
end Go.Proofs.YtjeomlickkpebaaGreatDoor
namespace Go.Proofs.YtjeomlickkpebaaGreatDoor
def EpN (Q:List Sta) (i:Nat):Prop:=∃j s,Eps Q i j∧Q[j]? =some s∧s.kind≠1
theorem EpN.here {Q:List Sta} {i:Nat} {s:Sta} (h:Q[i]? =some s) (hk:s.kind≠1):EpN Q i:=⟨i,s,Eps.refl i,h,hk⟩
theorem EpN.next {Q:List Sta} {i:Nat} {s:Sta} (h:Q[i]? =some s) (hk:s.kind=1) (g:EpN Q s.next):EpN Q i:=by
 obtain⟨j,t,h1,h2⟩:=g;exact⟨j,t,Eps.next h hk h1,h2⟩
theorem EpN.also {Q:List Sta} {i:Nat} {s:Sta} (h:Q[i]? =some s) (hk:s.kind=1) (g:EpN Q s.also):EpN Q i:=by
 obtain⟨j,t,h1,h2⟩:=g;exact⟨j,t,Eps.also h hk h1,h2⟩
def Lead (q:List Sta) (next:Nat) (q':List Sta) (a:Nat):Prop:=∀Q:List Sta,(∀i,q.length≤i→i<q'.length→Q[i]? =q'[i]?)→EpN Q next→EpN Q a
theorem fork_len (q:List Sta) (a b:Nat):(q++ [forkS a b]).length=q.length+1:=by rw[List.length_append];rfl
theorem loop_at {L:List Nat→Prop} {q q1:List Sta} {next a:Nat} (h:Built L (q++ [forkS next next]) q.length q1 a):(alsoS q1 q.length a)[q.length]? =some ⟨1,noR,next,a,0⟩:=by
 have:=h.same q.length (by rw[fork_len];omega);rw[snoc_at] at this;exact also_at q1 q.length a _ this
mutual
theorem build_lead:∀(n:Nd),mayR n=true→wfR n→∀(q:List Sta) (next:Nat),Lead q next (buildT n q next).1 (buildT n q next).2
 | .mk k s l,h,hw,q,next=>by
  obtain⟨h1,h2⟩:=may_parts h;obtain⟨f0,f6,f1,f4,f2,fs⟩:=form_spec h1;rw[wfR] at hw;rw[buildT];by_cases k1:k=1
  ·rw[if_pos k1];intro Q hQ _;have:=hQ q.length (Nat.le_refl _) (by rw[List.length_append];show _<_+1;omega);rw[snoc_at] at this;exact EpN.here this (by simp[takeS])
  rw[if_neg k1];by_cases k2:k=2
  ·rw[if_pos k2];exact catT_lead l h2 hw.2 q next
  rw[if_neg k2];by_cases k3:k=3
  ·rw[if_pos k3];exact altT_lead l (by have:=f2 (.inr k3);omega) h2 hw.2 q next
  rw[if_neg k3];have hlen:(q++ [forkS next next]).length=q.length+1:=fork_len q next next;by_cases k4:k=4
  ·rw[if_pos k4];have hb:=oneT_ok l h2 hw.2 (q++ [forkS next next]) q.length;have hl:=hb.len;intro Q hQ hn;have:=hQ q.length (Nat.le_refl _) (by rw[also_len];omega);rw[loop_at hb] at this;exact EpN.next this rfl hn
  rw[if_neg k4];by_cases k5:k=5
  ·rw[if_pos k5];have hb:=oneT_ok l h2 hw.2 (q++ [forkS next next]) q.length;have hl:=hb.len;intro Q hQ hn;have:=hQ q.length (Nat.le_refl _) (by rw[also_len];omega);rw[loop_at hb] at this;refine oneT_lead l h2 hw.2 (q++ [forkS next next]) q.length Q (fun i hi hl2=> ?_) (EpN.next this rfl hn);rw[hQ i (by omega) (by rw[also_len];exact hl2),also_ne _ _ _ _ (by omega)]
  rw[if_neg k5];by_cases k6:k=6
  ·rw[if_pos k6];have hb:=oneT_ok l h2 hw.2 q next;have hl:=hb.len;intro Q hQ hn;have:=hQ (oneT l q next).1.length hl (by rw[fork_len];omega);rw[snoc_at] at this;exact EpN.also this rfl hn
  rw[if_neg k6];exact fun _ _ hn=>hn
theorem catT_lead:∀(l:List Nd),mayL l=true→wfL l→∀(q:List Sta) (next:Nat),Lead q next (catT l q next).1 (catT l q next).2
 | [],_,_,_,_=>fun _ _ hn=>hn
 | n::l,h,hw,q,next=>by
  rw[mayL,Bool.and_eq_true] at h;rw[wfL] at hw;rw[catT];have hb:=catT_ok l h.2 hw.2 q next;have hg:=build_ok n h.1 hw.1 (catT l q next).1 (catT l q next).2;have h1:=hb.len;have h2:=hg.len;intro Q hQ hn;refine build_lead n h.1 hw.1 _ _ Q (fun i hi hl=>hQ i (by omega) hl) (catT_lead l h.2 hw.2 q next Q (fun i hi hl=> ?_) hn);rw[hQ i hi (by omega),hg.same i hl]
theorem altT_lead:∀(l:List Nd),0<l.length→mayL l=true→wfL l→∀(q:List Sta) (next:Nat),Lead q next (altT l q next).1 (altT l q next).2
 | [],h0,_,_,_,_=>absurd h0 (Nat.lt_irrefl _)
 | n::l,_,h,hw,q,next=>by
  rw[mayL,Bool.and_eq_true] at h;rw[wfL] at hw;rw[altT];exact altsT_lead l h.2 hw.2 (LangN n) q _ _ next (build_ok n h.1 hw.1 q next) (build_lead n h.1 hw.1 q next)
theorem altsT_lead:∀(l:List Nd),mayL l=true→wfL l→∀(L:List Nat→Prop) (q q1:List Sta) (a next:Nat),Built L q next q1 a→Lead q next q1 a→Lead q next (altsT l q1 a next).1 (altsT l q1 a next).2
 | [],_,_,_,_,_,_,_,_,hl=>hl
 | n::l,h,hw,L,q,q1,a,next,hb,hl=>by
  rw[mayL,Bool.and_eq_true] at h;rw[wfL] at hw;rw[altsT];have hg:=build_ok n h.1 hw.1 q1 next;have h1:=hb.len;have h2:=hg.len;refine altsT_lead l h.2 hw.2 _ q _ _ next (hb.alt hg) (fun Q hQ hn=> ?_);have:=hQ (buildT n q1 next).1.length (by omega) (by rw[fork_len];omega);rw[snoc_at] at this;refine EpN.next this rfl (hl Q (fun i hi hl2=> ?_) hn);rw[hQ i hi (by rw[fork_len];omega),snoc_lt (by omega),hg.same i hl2]
theorem oneT_lead:∀(l:List Nd),mayL l=true→wfL l→∀(q:List Sta) (next:Nat),Lead q next (oneT l q next).1 (oneT l q next).2
 | [],_,_,_,_=>fun _ _ hn=>hn
 | n::l,h,hw,q,next=>by
  rw[mayL,Bool.and_eq_true] at h;rw[wfL] at hw;rw[oneT];exact build_lead n h.1 hw.1 q next
end
theorem makeF_lead:∀(l:List Nd) (j:Nat) (q:List Sta) (first:List Int),GoodL l→(∃a,a∈first∧0≤a∧∀Q:List Sta,(∀i,i<q.length→Q[i]? =q[i]?)→EpN Q a.toNat)→∃a,a∈(makeF l j q first).2∧0≤a∧EpN (makeF l j q first).1 a.toNat
 | [],j,q,first,_,⟨a,ha,h0,h⟩=>⟨a,ha,h0,h q fun _ _=>rfl⟩
 | n::l,j,q,first,hg,⟨a,ha,h0,h⟩=>by
  rw[makeF];have hb:=build_ok n (hg n (by simp)).1 (hg n (by simp)).2 (q++ [endS j]) q.length;have h1:=hb.len;have hlen:(q++ [endS j]).length=q.length+1:=by rw[List.length_append];rfl
  refine makeF_lead l (j+1) _ _ (fun m hm=>hg m (by simp[hm])) ⟨a,by simp[ha],h0,fun Q hQ=>h Q fun i hi=> ?_⟩;rw[hQ i (by omega),hb.same i (by omega),snoc_lt hi]
theorem makeQ_lead (l:List Nd) (h0:l≠ []) (hg:GoodL l):∃a,a∈(makeQ l).2∧0≤a∧EpN (makeQ l).1 a.toNat:=by
 cases l with
 | nil=>exact absurd rfl h0
 | cons n l=>
  unfold makeQ;rw[makeF];have hb:=build_ok n (hg n (by simp)).1 (hg n (by simp)).2 ([]++ [endS 0]) ([]:List Sta).length;have hl:=build_lead n (hg n (by simp)).1 (hg n (by simp)).2 ([]++ [endS 0]) ([]:List Sta).length;refine makeF_lead l 1 _ _ (fun m hm=>hg m (by simp[hm])) ⟨((buildT n ([]++ [endS 0]) ([]:List Sta).length).2:Int),List.mem_append_right _ (List.mem_singleton.2 rfl),Int.natCast_nonneg _,fun Q hQ=> ?_⟩;rw[Int.toNat_natCast];refine hl Q (fun i _ hi=>hQ i hi) ?_;have:=hQ 0 (Nat.lt_of_lt_of_le Nat.zero_lt_one (show 1≤_ from hb.len));rw[hb.same 0 (show 0<1 by decide)] at this;exact EpN.here this (by simp[endS])
theorem reach_has {q:List Sta} (hq:∀(i:Nat) (s:Sta),q[i]? =some s→StOk q.length s) {l:List Int} (hl:InQ q l) {a:Int} (ha:a∈l) (he:EpN q a.toNat):reachP q l≠ []:=by
 obtain⟨l1,_,a1,s1,d1⟩:=marks_ok q hq l (noneB q.length) hl (noneB_len _);obtain⟨j,s,h1,h2,h3⟩:=he;have d1':∀i,(marksP q l (noneB q.length)).getD i false=true→ClosedB q (marksP q l (noneB q.length)) i:=fun i h=>by
  rcases d1 i h with h | h
  ·rw[noneB_get] at h;cases h
  ·exact h
 have key:∀ {i j:Nat},Eps q i j→(marksP q l (noneB q.length)).getD i false=true→(marksP q l (noneB q.length)).getD j false=true:=fun h=>by
  induction h with
  | refl a=>exact fun h=>h
  | next h hk _ ih=>exact fun hm=>ih (d1' _ hm _ h hk).1
  | also h hk _ ih=>exact fun hm=>ih (d1' _ hm _ h hk).2
 have hj:=key h1 (a1 a ha);have hm:(j:Int)∈reachP q l:=(keep_mem q _ _ _).2 ⟨j,rfl,(List.getElem?_eq_some_iff.1 h2).1,hj,by rw[h2,Option.map_some];exact fun e=>h3 (Option.some.inj e)⟩;intro e;rw[e] at hm;cases hm
theorem start_ne {L:List ByteArray} (h:makeE L=0):reachP (quE L) (fiE L)≠ []:=by
 obtain⟨hm,_⟩:=make_good h;have h0:nodesP L≠ []:=fun e=>by
  unfold makeE at h;have:L.length=0:=by rw[show L.length=(nodesP L).length from (List.length_map _).symm,e];rfl
  rw[if_pos (.inl this)] at h;cases h
 obtain⟨a,ha,_,he⟩:=makeQ_lead (nodesP L) h0 (nodes_good L);exact reach_has hm.ok hm.in_ ha he
end Go.Proofs.YtjeomlickkpebaaGreatDoor
namespace Go.Proofs.YtjeomlickkpebaaGreatDoor
open Go.RowKit
section
variable {w:World} {v:Value} {d:Dfa}
theorem pvstates_any (h:DfV w v d):Calls Tryz.prog 16 #[v] w fun e w'=>e= .returned (.int .i64 (d.n:Int))∧w'=w:=by
 have hfew:=h.few;rcases h.at_ with ⟨rfl,h0⟩ | ⟨B,sv,rfl,c0,⟨ao,cap,rfl,hn,hc⟩⟩
 ·rw[h0];clear h h0 hfew;go_enter Tryz.func16,Tryz.ntmps16;go_wp2_with fail
  go_ret
  exact⟨rfl,rfl⟩
 ·obtain⟨n,hnn⟩:∃n,d.n=n:=⟨_,rfl⟩;rw[hnn] at c0 hn ⊢;clear h hc hnn hfew;go_enter Tryz.func16,Tryz.ntmps16;go_wp2_with fail
  go_ret
  exact⟨rfl,rfl⟩
theorem pvhas_any (h:DfV w v d) (k:Int):Calls Tryz.prog 37 #[v,.int .i64 k] w fun e w'=>e= .returned (.bool (decide (0≤k∧k<(d.n:Int))))∧w'=w:=by
 have HS:=qh (pvstates_any h);clear h;by_cases h0:0≤k
 ·by_cases h1:k<(d.n:Int)
  ·rw[decide_eq_true ⟨h0,h1⟩];go_enter Tryz.func37,Tryz.ntmps37;go_wp2_with fail
   go_fit HS.out;rintro e w2 ⟨rfl,rfl⟩;go_wp2_with fail
   go_ret
   exact⟨rfl,rfl⟩
  ·rw[decide_eq_false fun e=>h1 e.2];have hd:decide (k<(d.n:Int))=false:=decide_eq_false h1;go_enter Tryz.func37,Tryz.ntmps37;go_wp2_with fail
   go_fit HS.out;rintro e w2 ⟨rfl,rfl⟩;go_wp2_with fail
   go_ret
   exact⟨by first | rfl | (rw[←hd];rfl),rfl⟩
 ·rw[decide_eq_false fun e=>h0 e.1];go_enter Tryz.func37,Tryz.ntmps37;go_wp2_with fail
  go_ret
  exact⟨rfl,rfl⟩
theorem pvstep_any (h:DfV w v d) (k:Int) (b:Nat) (hb:b<256):Calls Tryz.prog 17 #[v,.int .i64 k,.int .u8 (b:Int)] w fun e w'=>e= .returned (.int .i64 (d.to k b))∧w'=w:=by
 have HH:=qh (pvhas_any h k);by_cases hk:0≤k∧k<(d.n:Int)
 ·rw[decide_eq_true hk] at HH;obtain⟨m,rfl⟩:∃m:Nat,k=m:=⟨k.toNat,by omega⟩;obtain⟨B,g,o,cap,rfl,c0,hn,c1,_,_⟩:=h.sta (k:=m) (by omega);have c2:=c1 b hb;rw[←Nat.add_assoc] at c2;obtain⟨n,hnn⟩:∃n,d.n=n:=⟨_,rfl⟩;rw[hnn] at c0 hn hk;obtain⟨x,hx⟩:∃x,d.to m b=x:=⟨_,rfl⟩;rw[hx] at c2 ⊢;obtain⟨k0,k1⟩:=hk;have hmn:m<n:=by omega
  have hb2:(b:Int)<256:=by omega
  clear h hnn c1 hx;go_enter Tryz.func17,Tryz.ntmps17;go_wp2_with fail
  go_fit HH.out;rintro e w2 ⟨rfl,rfl⟩;go_wp2_with fail
  go_ret
  exact⟨rfl,rfl⟩
 ·rw[decide_eq_false hk] at HH;rw[to_out hk];clear h hk;go_enter Tryz.func17,Tryz.ntmps17;go_wp2_with fail
  go_fit HH.out;rintro e w2 ⟨rfl,rfl⟩;go_wp2_with fail
  go_ret
  exact⟨rfl,rfl⟩
theorem pvacc_any (h:DfV w v d) (k:Int):Calls Tryz.prog 18 #[v,.int .i64 k] w fun e w'=>e= .returned (.int .i64 (d.acc k))∧w'=w:=by
 have HH:=qh (pvhas_any h k);by_cases hk:0≤k∧k<(d.n:Int)
 ·rw[decide_eq_true hk] at HH;obtain⟨m,rfl⟩:∃m:Nat,k=m:=⟨k.toNat,by omega⟩;obtain⟨B,g,o,cap,rfl,c0,hn,_,c2,_⟩:=h.sta (k:=m) (by omega);rw[←Nat.add_assoc] at c2;obtain⟨n,hnn⟩:∃n,d.n=n:=⟨_,rfl⟩;rw[hnn] at c0 hn hk;obtain⟨x,hx⟩:∃x,d.acc m=x:=⟨_,rfl⟩;rw[hx] at c2 ⊢;obtain⟨k0,k1⟩:=hk;have hmn:m<n:=by omega
  clear h hnn hx;go_enter Tryz.func18,Tryz.ntmps18;go_wp2_with fail
  go_fit HH.out;rintro e w2 ⟨rfl,rfl⟩;go_wp2_with fail
  go_ret
  exact⟨rfl,rfl⟩
 ·rw[decide_eq_false hk] at HH;rw[acc_out h.len hk];clear h hk;go_enter Tryz.func18,Tryz.ntmps18;go_wp2_with fail
  go_fit HH.out;rintro e w2 ⟨rfl,rfl⟩;go_wp2_with fail
  go_ret
  exact⟨rfl,rfl⟩
theorem pvmatch_in (h:DfV w v d) (s:ByteArray) (hs:s.size≤1000) (a:Nat) (ha:a≤s.size):
  Calls Tryz.prog 20 #[v,.string s,.int .i64 (a:Int)] w fun e w'=>e= .returned (.tuple #[.int .i64 (matchD d (restR s a)).1,.int .i64 (matchD d (restR s a)).2.1,.int .i64 (matchD d (restR s a)).2.2])∧Below w.heap.size w w':=by
 have HSP:=qh (fun (W:World) (hb:Below w.heap.size w W) (k:Int) (b:Nat) (hb2:b<256)=>pvstep_any (h.below hb) k b hb2);have HAC:=qh (fun (W:World) (hb:Below w.heap.size w W) (k:Int)=>pvacc_any (h.below hb) k);have HLO:=qh (And.intro h.to_low h.acc_low);have ha1:¬(a:Int)<0:=by omega
 have ha2:¬(a:Int)>(s.size:Int):=by omega
 have ha3:(a:Int)≤1000:=by omega
 have hd1:decide ((a:Int)<0)=false:=decide_eq_false ha1;have hd2:decide ((s.size:Int)<(a:Int))=false:=decide_eq_false (by omega);have HA0:=qh (HAC.out w (Below.refl _ _) 0);obtain⟨r0,hr0⟩:∃r0,d.acc 0=r0:=⟨_,rfl⟩;have H0:Hid (matD d (restR s (a+0)) 0 0 0 r0=matchD d (restR s a)∧Below w.heap.size w w):=qh ⟨by rw[←hr0];rfl,Below.refl _ _⟩;rw[hr0] at HA0;clear h hr0;go_enter Tryz.func20,Tryz.ntmps20;go_wp2_with fail
 go_fit HA0.out;rintro e w1 ⟨rfl,rfl⟩;clear HA0;go_wp2_with fail
 go_loopw [6,7,8,9] (fun s6 s7 s8 s9 wr=>∃(j:Nat) (lg ru q:Int),s8= .int .i64 (j:Int)∧a+j≤s.size∧s6= .int .i64 lg∧s7= .int .i64 ru∧s9= .int .i64 q∧Hid (matD d (restR s (a+j)) q j lg ru=matchD d (restR s a)∧Below w1.heap.size w1 wr)) (fun _ _ s8 _ _=>s.size-(intOf s8).toNat)
 case atStart=>exact⟨0,0,r0,0,rfl,ha,rfl,rfl,rfl,H0⟩
 case round=>
  obtain⟨j,lg,ru,q,rfl,hj,rfl,rfl,rfl,HX⟩:=hrel;clear H0;have i0:(0:Int)≤(j:Int):=by omega
  have ib:(a:Int)+(j:Int)≤1000:=by omega
  have a0:(0:Int)≤(a:Int):=by omega
  by_cases hlt:a+j<s.size
  ·have hli:(a:Int)+(j:Int)<(s.size:Int):=(by omega);have hb:=getR s (a+j) hlt;have hb2:=bR_lt s (a+j);have h5:=HX.out.1;rw[rest_cons s (a+j) hlt,matD] at h5;obtain⟨c,hc⟩:∃c,bR s (a+j)=c:=⟨_,rfl⟩;rw[hc] at hb hb2 h5;have H4:=qh (HSP.out wr HX.out.2 q c hb2);obtain⟨t,ht⟩:∃t,d.to q c=t:=⟨_,rfl⟩;have htl:=HLO.out.1 q c;rw[ht] at H4 h5 htl;have HB:=qh HX.out.2;have ej:((a+j:Nat):Int)=(a:Int)+(j:Int):=(by omega);have hX2:=HX.out.2;clear HX ht hc;by_cases ht0:t<0
   ·have htb:t= -1:=(by omega);subst htb;rw[if_pos (by decide)] at h5;have HE:Hid (lg=(matchD d (restR s a)).1∧ru=(matchD d (restR s a)).2.1∧(j:Int)=(matchD d (restR s a)).2.2):=qh ⟨by rw[←h5],by rw[←h5],by rw[←h5]⟩;clear h5 HSP HAC hX2;go_wp2_with fail
    go_fit H4.out;rintro e w4 ⟨rfl,rfl⟩;go_wp2_with fail
    go_ret3
    exact⟨by rw[←HE.out.1,←HE.out.2.1,←HE.out.2.2];rfl,HB.out⟩
   ·have htb:(t== -1)=false:=beq_eq_false_iff_ne.2 (by omega);rw[if_neg ht0] at h5;have H6:=qh (HAC.out wr hX2 t);obtain⟨r,hr⟩:∃r,d.acc t=r:=⟨_,rfl⟩;have hrl:=HLO.out.2 t;rw[hr] at H6 h5 hrl;clear hX2 hr;by_cases hr0:r<0
    ·have hrb:r= -1:=(by omega);subst hrb;rw[if_pos (by decide)] at h5;have HG:=qh h5;clear h5;go_wp2_with fail
     go_fit H4.out;rintro e w4 ⟨rfl,rfl⟩;go_wp2_with fail
     go_fit H6.out;rintro e w5 ⟨rfl,rfl⟩;go_wp2_with fail
     go_roundw
     case rel=>exact⟨j+1,lg,ru,t,by go_num,by omega,rfl,rfl,rfl,qh ⟨by rw[←HG.out];rfl,HB.out⟩⟩
     case measure=>simp[intOf]<;>omega
    ·have hrb:(r== -1)=false:=beq_eq_false_iff_ne.2 (by omega);have hrb2:(r != -1)=true:=bne_iff_ne.2 (by omega);rw[if_neg hr0] at h5;have HG:=qh h5;clear h5;go_wp2_with fail
     go_fit H4.out;rintro e w4 ⟨rfl,rfl⟩;go_wp2_with fail
     go_fit H6.out;rintro e w5 ⟨rfl,rfl⟩;go_wp2_with fail
     go_roundw
     case rel=>exact⟨j+1,(j:Int)+1,r,t,by go_num,by omega,by go_num,rfl,rfl,qh ⟨by rw[←HG.out];rfl,HB.out⟩⟩
     case measure=>simp[intOf]<;>omega
  ·have hli:¬(a:Int)+(j:Int)<(s.size:Int):=(by omega);have HE:Hid (lg=(matchD d (restR s a)).1∧ru=(matchD d (restR s a)).2.1∧(j:Int)=(matchD d (restR s a)).2.2∧Below w1.heap.size w1 wr):=by
    have h5:=HX.out.1;rw[show restR s (a+j)= [] from List.length_eq_zero_iff.1 (by rw[rest_len];omega),matD] at h5;exact qh ⟨by rw[←h5],by rw[←h5],by rw[←h5],HX.out.2⟩
   clear HX HSP HAC;go_wp2_with fail
   go_ret3
   exact⟨by rw[←HE.out.1,←HE.out.2.1,←HE.out.2.2.1];rfl,HE.out.2.2.2⟩
theorem pvmatch_out (s:ByteArray) (a:Int) (ha:a<0∨(s.size:Int)<a) (v:Value) (w:World):
  Calls Tryz.prog 20 #[v,.string s,.int .i64 a] w fun e w'=>e= .returned (.tuple #[.int .i64 0,.int .i64 (-1),.int .i64 0])∧w'=w:=by
 by_cases h0:a<0
 ·have hd1:decide (a<0)=true:=decide_eq_true h0;go_enter Tryz.func20,Tryz.ntmps20;go_wp2_with fail
  go_ret3
  exact⟨rfl,rfl⟩
 ·have hd1:decide (a<0)=false:=decide_eq_false h0;have hd2:decide ((s.size:Int)<a)=true:=decide_eq_true (by omega);have h1:(s.size:Int)<a:=by omega
  go_enter Tryz.func20,Tryz.ntmps20;go_wp2_with fail
  go_ret3
  exact⟨rfl,rfl⟩
theorem pvmatch_any (h:DfV w v d) (s:ByteArray) (hs:s.size≤1000) (a:Int):
  Calls Tryz.prog 20 #[v,.string s,.int .i64 a] w fun e w'=>e= .returned (.tuple #[.int .i64 (matchDA d s a).1,.int .i64 (matchDA d s a).2.1,.int .i64 (matchDA d s a).2.2])∧Below w.heap.size w w':=by
 unfold matchDA;by_cases ha:a<0∨(s.size:Int)<a
 ·rw[if_pos ha];exact (pvmatch_out s a ha v w).mono fun e w' ⟨he,hw⟩=>⟨he,by rw[hw];exact Below.refl _ _⟩
 ·rw[if_neg ha];obtain⟨m,rfl⟩:∃m:Nat,a=m:=⟨a.toNat,by omega⟩;rw[Int.toNat_natCast];exact pvmatch_in h s hs m (by omega)
end
end Go.Proofs.YtjeomlickkpebaaGreatDoor
namespace Go.Proofs.YtjeomlickkpebaaGreatDoor
def rsE (L:List ByteArray):List RuN:=(nodesP L).map ruleN
theorem rsE_ok (L:List ByteArray):∀r,r∈rsE L→∀st,st∈r.sets→OkR st:=by
 intro r hr;unfold rsE at hr;obtain⟨n,hn,rfl⟩:=List.mem_map.1 hr;obtain⟨h1,h2⟩:=nodes_good L n hn;exact (rule_ok n h1 h2).sets
theorem rsE_len (L:List ByteArray):(rsE L).length=L.length:=by unfold rsE nodesP;rw[List.length_map,List.length_map]
end Go.Proofs.YtjeomlickkpebaaGreatDoor
namespace Go.Proofs.YtjeomlickkpebaaGreatDoor
open Go.RowKit
theorem Tryz.infoRuP:(Tryz.prog.info? 49).map (fun i=>(i.zero,i.size,i.bytes))=some (some (.pointer none),1,8):=by kernel_rfl
structure RwW (w0 w:World) (v:Value) (rs:List RuN):Prop where
 r:∃us:List Value,us.length=rs.length∧w.ownsRow 0 49 1 v rs.length us∧∀(i:Nat) (r:RuN) (u:Value),rs[i]? =some r→us[i]? =some u→∃p,u= .pointer p∧RuO (fun k=>v.ownBlock=some k) w u r
 b:Below w0.heap.size w0 w
 f:∀k,v.ownBlock=some k→w0.heap.size≤k
section
variable {w0 w w':World} {v:Value} {rs:List RuN}
theorem RwW.under (h:RwW w0 w v rs) (hb:Below w.heap.size w w'):RwW w0 w' v rs:=by
 obtain⟨us,h1,h2,h3⟩:=h.r;refine⟨⟨us,h1,ownRow_keep h2 (keep_below (fun _=>True) hb) fun _ _=>trivial,fun i r u hr hu=> ?_⟩,h.b.trans (hb.mono h.b.size),h.f⟩;obtain⟨p,h4,h5⟩:=h3 i r u hr hu;exact⟨p,h4,h5.below hb⟩
theorem RwW.lt (h:RwW w0 w v rs):∀k,v.ownBlock=some k→k<w.heap.size:=by
 obtain⟨us,_,h2,_⟩:=h.r;exact fun k e=>(World.ownsRow.lt h2 k e).2
theorem RwW.read (h:RwW w0 w v rs):RusW w v rs:=by
 obtain⟨us,h1,h2,h3⟩:=h.r;refine⟨us,h1,(ownZ h2).mono fun _ _ _=>trivial,fun i r u hr hu=> ?_⟩;obtain⟨p,h4,h5⟩:=h3 i r u hr hu;exact⟨p,h4,h5.read⟩
theorem RwW.push {Y:Nat} {p:Option Addr} {r:RuN} (h:RwW w0 w v rs) (t ty:TypeId) (ht:Tryz.prog.underlying t=some (.slice 49)) (hY:w.cell? ⟨Y,0,none⟩=some (.pointer p)) (hr0:RuO (fun k=>v.ownBlock=some k) w (.pointer p) r) (hl:rs.length≤100000):
  ∃v' w',(Builtin.append_ #[t,t] ty #[v,.slice (some ⟨Y,0,none⟩) 1 1]).run Tryz.prog w= .ok v' w'∧RwW w0 w' v' (rs++ [r]):=by
 obtain⟨i0,hi,hz0,hz1,hz2⟩:=info_of Tryz.infoRuP;obtain⟨us,h1,h2,h3⟩:=h.r;obtain⟨v',w',hr,hown',hgr,_,hat⟩:=run_append_own_at (P:=Tryz.prog) w 0 t ty 49 i0 (.pointer none) 1 8 ht hi hz0 hz1 hz2 rfl (by decide) v rs.length us h2 ⟨Y,0,none⟩ 1 1 [.pointer p] rfl (fun j x hx=>by
  have hj:=(List.getElem?_eq_some_iff.1 hx).1;have:j=0:=by simpa using hj
  subst this;rw[rlit];simp at hx;rw[←hx];exact hY) (fun x hx=>by rw[List.mem_singleton.1 hx];rfl) (by unfold maxLen;omega) (by omega) (Nat.zero_le _)
 have hk:KeepW (fun k=>v.ownBlock≠some k) w w':=⟨hgr.os,hgr.tape,hgr.output,hgr.size,fun k hk hne=>hgr.block k hk fun e=>hne e.symm⟩;have hlt:=h.lt;have hor:∀k,v'.ownBlock=some k→v.ownBlock=some k∨k=w.heap.size:=fun k e=>by
  rcases hat with hat | hat
  ·exact .inl (hat▸e)
  ·rw[hat] at e;cases e;exact .inr rfl
 have hgo:∀ {u:Value} {q:RuN},RuO (fun k=>v.ownBlock=some k) w u q→RuO (fun k=>v'.ownBlock=some k) w' u q:=fun {u q} hh=>by
  have h4:=hh.mono (old2:=fun k=>v.ownBlock=some k∨v'.ownBlock=some k) fun k hk e=>e.elim id fun e=>(hor k e).elim id fun e=>by omega
  exact (h4.keep (hk.mono fun k _ ho e=>ho (.inl e))).mono fun k _ e=> .inr e
 refine⟨v',w',hr,⟨us++ [.pointer p],by rw[List.length_append,List.length_append,h1];rfl,by rw[List.length_append];exact hown',fun i q u hq hu=> ?_⟩,KeepW.below h.b hk h.b.size fun k hk e=>by have:=h.f k e;omega,fun k e=> ?_⟩
 ·by_cases hil:i<rs.length
  ·rw[List.getElem?_append_left hil] at hq;rw[List.getElem?_append_left (by omega)] at hu;obtain⟨p',h4,h5⟩:=h3 i q u hq hu;exact⟨p',h4,hgo h5⟩
  ·rw[List.getElem?_append_right (by omega)] at hq hu;rw[h1] at hu;have e0:i-rs.length=0:=by
    have:=(List.getElem?_eq_some_iff.1 hq).1
    simpa using this
   rw[e0] at hq hu;cases hq;cases hu;exact⟨p,rfl,hgo hr0⟩
 ·rcases hor k e with e2 | e2
  ·exact h.f k e2
  ·have:=h.b.size;omega
end
section
variable {w:World} {v:Value} {L:List ByteArray}
theorem rrules_arg (h:StrsW w v L) (hL:L.length=0∨64<L.length):Calls Tryz.prog 12 #[v] w fun e w'=>e= .returned (.tuple #[.slice none 0 0,.int .i64 2])∧w'=w:=by
 obtain⟨vo,vc,rfl,hvc⟩:=h.form;by_cases h0:L.length=0
 ·rw[h0] at hvc ⊢;clear h hL h0;go_enter Tryz.func12,Tryz.ntmps12;go_wp2_with fail
  go_ret2
  exact⟨rfl,rfl⟩
 ·have h64:=hL.resolve_left h0;obtain⟨m,hm⟩:∃m,L.length=m:=⟨_,rfl⟩;rw[hm] at hvc h0 h64 ⊢;have hz1:((m:Int)==0)=false:=beq_eq_false_iff_ne.2 (by omega);have h64i:(m:Int)>64:=by omega
  clear h hL h0 hm;go_enter Tryz.func12,Tryz.ntmps12;go_wp2_with fail
  go_ret2
  exact⟨rfl,rfl⟩
set_option maxRecDepth 4000 in
set_option maxHeartbeats 8000000 in
theorem rrules_go (h:StrsW w v L) (h0:L.length≠0) (h64:L.length≤64):
  Calls Tryz.prog 12 #[v] w fun e w'=>(∃r,e= .returned (.tuple #[r,.int .i64 (makeE L)])∧(makeE L=0→RusW w' r ((nodesP L).map ruleN)))∧Below w.heap.size w w':=by
 obtain⟨vo,vc,rfl,hvc⟩:=h.form;have HV:=qh h;have HE0:Hid (makeE L=if errsP L≠0 then errsP L else if 2000<sizeP L then 70 else 0):=qh (by unfold makeE;rw[if_neg (by omega)]);obtain⟨m,hm⟩:∃m,L.length=m:=⟨_,rfl⟩;have HM:=qh hm;rw[hm] at hvc h0 h64 HV ⊢;have hz1:((m:Int)==0)=false:=beq_eq_false_iff_ne.2 (by omega);have hm64':¬(m:Int)>64:=by omega
 have hm64:(m:Int)≤64:=by omega
 clear h hm h0;have H0:Hid (∃vv,vv=Value.slice none 0 0∧RwW w w vv ((nodesP (L.take 0)).map ruleN)∧(0:Nat)=sizeP (L.take 0)∧errsP (L.take 0)=0∧(0:Nat)≤200*0):=qh ⟨_,rfl,⟨⟨[],rfl,World.ownsRow_nil _ _ _ _,fun i r u hr=>by cases hr⟩,Below.refl _ _,fun k e=>by cases e⟩,by rw[List.take_zero,sizeP],by rw[List.take_zero,errsP],Nat.le_refl _⟩;go_enter Tryz.func12,Tryz.ntmps12;go_wp2_with fail
 go_loopw [4,5,6] (fun s4 s5 s6 wr=>∃i z:Nat,s6= .int .i64 (i:Int)∧i≤m∧s5= .int .i64 (z:Int)∧Hid (∃vv,vv=s4∧RwW w wr vv ((nodesP (L.take i)).map ruleN)∧z=sizeP (L.take i)∧errsP (L.take i)=0∧z≤200*i)) (fun _ _ s6 _=>m-(intOf s6).toNat)
 case atStart=>exact⟨0,0,rfl,Nat.zero_le _,rfl,H0⟩
 case round=>
  obtain⟨i,z,rfl,hi,rfl,HX⟩:=hrel;clear H0;obtain⟨vv,hvv,hX,hZ,hE,hzb⟩:=HX.out;subst hvv;have HQ:=qh hX;have HZ:=qh hZ;have HE:=qh hE;clear HX hX hZ hE;have i0:(0:Int)≤(i:Int):=by omega
  have ib:(i:Int)≤64:=by omega
  have z0:(0:Int)≤(z:Int):=by omega
  have zb:(z:Int)≤12800:=by omega
  by_cases hlt:i<m
  ·have hli:(i:Int)<(m:Int):=(by omega);have hla:i<L.length:=(by have:=HM.out;omega);obtain⟨s,hs⟩:∃s,L[i]=s:=⟨_,rfl⟩;have hil:L[i]? =some s:=(by rw[List.getElem?_eq_getElem hla,hs]);have hget:=fun (W:World) (hb:Below w.heap.size w W)=>(HV.out.below hb).get hil;obtain⟨g,o,c,hve,hc⟩:=hget wr HQ.out.b;injection hve with e1 e2 e3
   subst e1;clear e2 e3;have HGT:Hid (∀W:World,Below w.heap.size w W→W.cell? ⟨g,o+i,none⟩=some (.string s)):=qh fun W hb=>by
    obtain⟨g',o',c',hve',hc'⟩:=hget W hb;injection hve' with e1 e2 e3
    injection e1 with e1
    injection e1 with e1 e4
    subst e1 e4;exact hc'
   have HT:Hid (L.take (i+1)=L.take i++ [s]∧L=L.take i++s::L.drop (i+1)):=qh ⟨by rw[List.take_add_one,hil];rfl,by
    have h1:=List.drop_eq_getElem_cons hla;rw[hs] at h1;rw[←h1,List.take_append_drop]⟩
   have HA:=qh (rparse_any s wr);have hcs:(parseP s).2=0∨¬(parseP s).2=0:=(by omega);have HOK:=qh (parse_ok s);obtain⟨⟨n,er⟩,hp⟩:∃r,parseP s=r:=⟨_,rfl⟩;rw[hp] at HA hcs HOK;simp only at HA hcs HOK;have HPP:=qh hp;clear hla hs hil hp hget;go_wp2_with fail
   go_fit HA.out;rintro e w2 ⟨x,rfl,⟨hso,u,rfl,hu⟩,hb2⟩;obtain⟨uo,uc,rfl,_⟩:=KidsW.form hu;have H2:=qh (And.intro hso (And.intro hu hb2));have hbox:=boxN.new 77 w2 n.kind n.set (.slice uo n.kids.length uc);have hba:=alloc_under w2 (.cells #[.int .i64 n.kind,.int .u64 (n.set.1:Int),.int .u64 (n.set.2.1:Int),.int .u64 (n.set.2.2.1:Int),.int .u64 (n.set.2.2.2:Int),.slice uo n.kids.length uc] 77);have H3:=qh (And.intro hbox (And.intro (hb2.trans (hba.mono hb2.size)) (And.intro hba (HQ.out.b.trans ((hb2.trans (hba.mono hb2.size)).mono HQ.out.b.size)))));clear hso hu hb2 HA hbox hba;unfold nodeV;rcases hcs with he0 | he0
   ·subst he0;obtain⟨⟨c0,c1,c2,c3,c4,c5⟩,_⟩:=H3.out.1.cells;have HOF:=qh (rof_any (ok:=fun k=>wr.heap.size≤k) (w:=w2.alloc (.cells #[.int .i64 n.kind,.int .u64 (n.set.1:Int),.int .u64 (n.set.2.1:Int),.int .u64 (n.set.2.2.1:Int),.int .u64 (n.set.2.2.2:Int),.slice uo n.kids.length uc] 77)) (x:=nodeV n (.slice uo n.kids.length uc)) ⟨H2.out.1,_,rfl,H2.out.2.1.under H3.out.2.2.1⟩ HOK.out.1 (by have:=HOK.out.2.2.1;omega));unfold nodeV at HOF;have hssz:=(HOK.out.2.2.2 rfl).1;have hs0:(0:Int)≤(s.size:Int):=(by omega);have hsb:(s.size:Int)≤200:=(by omega);have hzw:IntKind.i64.wrap ((z:Int)+(s.size:Int))=(z:Int)+(s.size:Int):=(by apply IntWalk.i64_in<;>omega);have hzs:(z:Int)+(s.size:Int)≤13000:=(by omega);go_wp2_with fail
    go_fit HOF.out;rintro e w5 ⟨p,rfl,hru,hb5⟩;have hR5:=HQ.out.under (H3.out.2.1.trans (hb5.mono H3.out.2.1.size));have hba6:=alloc_under w5 (.cells #[.pointer p] 49);have hru2:=(hru.mono (old2:=fun k=>vv.ownBlock=some k) fun k _ e=>by
     have h1:=HQ.out.lt k e;have h2:=H3.out.2.1.size;omega).below hba6
    have hcell:=cell_one_new w5 (.pointer p) 49 0 _ rfl;rw[rlit] at hcell;have hlen:((nodesP (L.take i)).map ruleN).length≤100000:=(by unfold nodesP;rw[List.length_map,List.length_map,List.length_take];omega);obtain⟨v',w6,hr,hR⟩:=(hR5.under hba6).push 25 25 Tryz.underlying25 hcell hru2 hlen;have HR:=qh hR;have hc6:=HGT.out w6 hR.b;have HF:Hid ((nodesP (L.take i)).map ruleN++ [ruleN n]=(nodesP (L.take (i+1))).map ruleN∧z+s.size=sizeP (L.take (i+1))∧errsP (L.take (i+1))=0∧z+s.size≤200*(i+1)):=qh ⟨by rw[HT.out.1,nodes_app,List.map_append];show _=_++ [ruleN (parseP s).1];rw[HPP.out],by rw[HT.out.1,sizeP_app,HZ.out];rfl,by rw[HT.out.1,errs_app _ _ HE.out,errsP,HPP.out,if_pos rfl,errsP],by omega⟩;clear hR5 hba6 hru hru2 hcell hlen hR hb5 HOF c0 c1 c2 c3 c4 c5;go_wp2_with (at_builtin;refine napp_list (by rfl) _ _ 25 (by rfl) (by rfl) (by rfl) hr ?_)
    go_roundw
    case rel=>exact⟨i+1,z+s.size,by go_num,hlt,by go_num,qh ⟨_,rfl,by rw[←HF.out.1];exact HR.out,HF.out.2⟩⟩
    case measure=>simp[intOf]<;>omega
   ·have heb:(er==0)=false:=beq_eq_false_iff_ne.2 he0;have HF:Hid (makeE L=er):=qh (by
     have h1:errsP L=er:=(by rw[HT.out.2,errs_app _ _ HE.out,errsP,HPP.out,if_neg he0]);rw[HE0.out,h1,if_pos he0])
    have HN:=qh he0;clear he0;go_wp2_with fail
    go_ret2
    exact⟨⟨_,by rw[HF.out];rfl,fun h0=>absurd (HF.out.symm.trans h0) HN.out⟩,H3.out.2.2.2⟩
  ·have hli:¬(i:Int)<(m:Int):=(by omega);have hall:L.take i=L:=List.take_of_length_le (by have:=HM.out;omega);rw[hall] at HQ HZ HE;by_cases h2000:2000<z
   ·have hzi:(z:Int)>2000:=(by omega);have HF:Hid (makeE L=70):=qh (by rw[HE0.out,if_neg (fun h=>h HE.out),←HZ.out,if_pos h2000]);clear hall;go_wp2_with fail
    go_ret2
    exact⟨⟨_,by rw[HF.out];rfl,fun h0=>absurd (HF.out.symm.trans h0) (by decide)⟩,HQ.out.b⟩
   ·have hzi:¬(z:Int)>2000:=(by omega);have HF:Hid (makeE L=0):=qh (by rw[HE0.out,if_neg (fun h=>h HE.out),←HZ.out,if_neg h2000]);clear hall;go_wp2_with fail
    go_ret2
    exact⟨⟨_,by rw[HF.out];rfl,fun _=>HQ.out.read⟩,HQ.out.b⟩
theorem rrules_any (h:StrsW w v L):
  Calls Tryz.prog 12 #[v] w fun e w'=>(∃r,e= .returned (.tuple #[r,.int .i64 (makeE L)])∧(makeE L=0→RusW w' r ((nodesP L).map ruleN)))∧Below w.heap.size w w':=by
 by_cases hL:L.length=0∨64<L.length
 ·refine (rrules_arg h hL).mono ?_;rintro e w' ⟨rfl,rfl⟩;have hE:makeE L=2:=by unfold makeE;rw[if_pos hL]
  exact⟨⟨_,by rw[hE],fun h0=>by rw[hE] at h0;cases h0⟩,Below.refl _ _⟩
 ·exact rrules_go h (by omega) (by omega)
end
end Go.Proofs.YtjeomlickkpebaaGreatDoor
namespace Go.Proofs.YtjeomlickkpebaaGreatDoor
open Go.RowKit
section
variable {w:World} {v:Value} {rs:List RuN}
theorem rmatch_out (s:ByteArray) (a:Int) (ha:a<0∨(s.size:Int)<a) (w:World):Calls Tryz.prog 19 #[v,.string s,.int .i64 a] w fun e w'=>e= .returned (.tuple #[.int .i64 0,.int .i64 (-1),.int .i64 0])∧w'=w:=by
 by_cases h0:a<0
 ·clear ha;go_enter Tryz.func19,Tryz.ntmps19;go_wp2_with fail
  go_ret3
  exact⟨rfl,rfl⟩
 ·have h1:=ha.resolve_left h0;clear ha;go_enter Tryz.func19,Tryz.ntmps19;go_wp2_with fail
  go_ret3
  exact⟨rfl,rfl⟩
theorem matchG_next {rs:List RuN} {j:Nat} {r:RuN} (h:rs[j]? =some r) (W:List Nat) (lg ru:Int):matchG (rs.drop j) j W lg ru=matchG (rs.drop (j+1)) (j+1) W (goG r j W startG 0 lg ru).1 (goG r j W startG 0 lg ru).2:=by
 have hk:=(List.getElem?_eq_some_iff.1 h).1;rw[List.drop_eq_getElem_cons hk,(List.getElem?_eq_some_iff.1 h).2,matchG]
theorem farsG_next {rs:List RuN} {j:Nat} {r:RuN} (h:rs[j]? =some r) (W:List Nat) (fr:Int):farsG (rs.drop j) W fr=farsG (rs.drop (j+1)) W (farG r W startG 0 fr):=by
 have hk:=(List.getElem?_eq_some_iff.1 h).1;rw[List.drop_eq_getElem_cons hk,(List.getElem?_eq_some_iff.1 h).2,farsG]
set_option maxRecDepth 4000 in
set_option maxHeartbeats 16000000 in
theorem rmatch_in (h:RusW w v rs) (hok:∀r,r∈rs→∀st,st∈r.sets→OkR st) (hl:rs.length≤64) (s:ByteArray) (hs:s.size≤1000) (a:Nat) (ha:a≤s.size):
  Calls Tryz.prog 19 #[v,.string s,.int .i64 (a:Int)] w fun e w'=>e= .returned (.tuple #[.int .i64 (matchG rs 0 (restR s a) 0 (-1)).1,.int .i64 (matchG rs 0 (restR s a) 0 (-1)).2,.int .i64 (farsG rs (restR s a) 0)])∧Below w.heap.size w w':=by
 obtain⟨vo,vc,rfl,hvc⟩:=h.form;have HV:=qh h;have HOK:=qh hok;obtain⟨m,hm⟩:∃m,rs.length=m:=⟨_,rfl⟩;have HM:=qh hm;rw[hm] at hvc hl HV ⊢;have a0:(0:Int)≤(a:Int):=by omega
 have a0':decide ((a:Int)<0)=false:=decide_eq_false (by omega);have a1:(a:Int)≤(s.size:Int):=by omega
 have a1':¬(a:Int)>(s.size:Int):=by omega
 have hsz:(s.size:Int)≤1000:=by omega
 clear h hm hok;have H0:Hid (Below w.heap.size w w∧matchG (rs.drop 0) 0 (restR s a) 0 (-1)=matchG rs 0 (restR s a) 0 (-1)∧farsG (rs.drop 0) (restR s a) 0=farsG rs (restR s a) 0):=qh ⟨Below.refl _ _,rfl,rfl⟩;go_enter Tryz.func19,Tryz.ntmps19;go_wp2_with fail
 go_loopw [9,10,11,12] (fun s9 s10 s11 s12 wr=>∃(j:Nat) (lg ru fr:Int),s12= .int .i64 (j:Int)∧j≤m∧s9= .int .i64 lg∧s10= .int .i64 ru∧s11= .int .i64 fr∧Hid (Below w.heap.size w wr∧matchG (rs.drop j) j (restR s a) lg ru=matchG rs 0 (restR s a) 0 (-1)∧farsG (rs.drop j) (restR s a) fr=farsG rs (restR s a) 0)) (fun _ _ _ s12 _=>m-(intOf s12).toNat)
 case atStart=>exact⟨0,0,-1,0,rfl,Nat.zero_le _,rfl,rfl,rfl,H0⟩
 case round=>
  obtain⟨j,lg,ru,fr,rfl,hj,rfl,rfl,rfl,HQ⟩:=hrel;clear H0;have j0:(0:Int)≤(j:Int):=by omega
  have jb:(j:Int)≤64:=by omega
  by_cases hlt:j<m
  ·have hli:(j:Int)<(m:Int):=(by omega);have hla:j<rs.length:=(by have:=HM.out;omega);obtain⟨r,hr⟩:∃r,rs[j]=r:=⟨_,rfl⟩;have hil:rs[j]? =some r:=(by rw[List.getElem?_eq_getElem hla,hr]);have hget:=fun (W:World) (hb:Below w.heap.size w W)=>(HV.out.below hb).get hil;obtain⟨g,o,c,p,hve,hc,hru⟩:=hget wr HQ.out.1;injection hve with e1 e2 e3
   subst e1;clear e2 e3;have HGT:Hid (∀W:World,Below w.heap.size w W→W.cell? ⟨g,o+j,none⟩=some (.pointer p)∧RuR W (.pointer p) r):=qh fun W hb=>by
    have hp0:=(keep_below (fun _=>True) (Below.refl wr.heap.size wr));obtain⟨g',o',c',p',hve',hc',hru'⟩:=hget W hb;injection hve' with e1 e2 e3
    injection e1 with e1
    injection e1 with e1 e4
    subst e1 e4;have e5:p'=p:=by
     obtain⟨g2,o2,c2,p2,hv2,hc2,_⟩:=HV.out.get hil;injection hv2 with e1 e2 e3
     injection e1 with e1
     injection e1 with e1 e4
     subst e1 e4;have h1:=(keep_below (fun _=>True) hb).cell hc2 trivial;have h2:=(keep_below (fun _=>True) HQ.out.1).cell hc2 trivial;rw[h1] at hc';rw[h2] at hc;cases hc';cases hc;rfl
    rw[e5] at hc' hru';exact⟨hc',hru'⟩
   have HSE:=qh (HOK.out r (List.mem_of_getElem? hil));have HNX:Hid (matchG (rs.drop (j+1)) (j+1) (restR s a) (goG r j (restR s a) startG 0 lg ru).1 (goG r j (restR s a) startG 0 lg ru).2=matchG rs 0 (restR s a) 0 (-1)∧farsG (rs.drop (j+1)) (restR s a) (farG r (restR s a) startG 0 fr)=farsG rs (restR s a) 0):=qh ⟨by rw[←matchG_next hil];exact HQ.out.2.1,by rw[←farsG_next hil];exact HQ.out.2.2⟩;have HA:=qh (rstart_any hru);obtain⟨rm,hrm⟩:∃rm,r.m=rm:=⟨_,rfl⟩;have HRM:=qh hrm;have hrf:rm≤1000:=(by rw[←hrm];exact hru.few);rw[hrm] at HA;clear hget hil hla hr hru hrm;go_wp2_with fail
   go_fit HA.out;rintro e w2 ⟨G,rfl,hB,hb2⟩;obtain⟨R0,hR0⟩:∃R0,goG r j (restR s a) startG 0 lg ru=R0:=⟨_,rfl⟩;obtain⟨R1,hR1⟩:∃R1,farG r (restR s a) startG 0 fr=R1:=⟨_,rfl⟩;rw[hR0,hR1] at HNX;have H2:Hid (∃(u:Value) (f:Nat→Bool),u=Value.slice (some ⟨G,0,none⟩) rm rm∧BolR w2 u rm f∧Below w.heap.size w w2∧goG r j (restR s a) f ((a:Int)-(a:Int)) lg ru=R0∧farG r (restR s a) f ((a:Int)-(a:Int)) fr=R1):=qh ⟨_,_,rfl,hB,HQ.out.1.trans (hb2.mono HQ.out.1.size),by rw[Int.sub_self];exact hR0,by rw[Int.sub_self];exact hR1⟩;clear hB hb2 HA hR0 hR1 HQ hc;go_wp2_with fail
   go_loopw [9,10,11,13,14] (fun s9 s10 s11 s13 s14 wr=>∃(k:Nat) (lg ru fr:Int),s14= .int .i64 (k:Int)∧a≤k∧k≤s.size∧s9= .int .i64 lg∧s10= .int .i64 ru∧s11= .int .i64 fr∧Hid (∃(u:Value) (f:Nat→Bool),u=s13∧BolR wr u rm f∧Below w.heap.size w wr∧goG r j (restR s k) f ((k:Int)-(a:Int)) lg ru=R0∧farG r (restR s k) f ((k:Int)-(a:Int)) fr=R1)) (fun _ _ _ _ s14 _=>s.size+1-(intOf s14).toNat)
   case atStart=>exact⟨a,lg,ru,fr,rfl,Nat.le_refl _,ha,rfl,rfl,rfl,H2⟩
   case round=>
    obtain⟨k,lg,ru,fr,rfl,hk0,hk,rfl,rfl,rfl,HX⟩:=hrel;clear H2;obtain⟨u,f,hu,hX⟩:=HX.out;subst hu;have HQ:=qh hX;clear HX hX;have k0:(0:Int)≤(k:Int):=(by omega);have kb:(k:Int)≤(s.size:Int):=(by omega);have ka:(a:Int)≤(k:Int):=(by omega);have kw:IntKind.i64.wrap ((k:Int)-(a:Int))=(k:Int)-(a:Int):=(by apply IntWalk.i64_in<;>omega);have HAN:=qh (rany_any HQ.out.1 (by omega));obtain⟨an,han⟩:∃an,anyF f rm=an:=⟨_,rfl⟩;rw[han] at HAN;cases an with
    | false=>
     have HE:Hid (R0=(lg,ru)∧R1=fr):=qh (by
      have h1:=HQ.out.2.2.1;have h5:=HQ.out.2.2.2;have h2:isAny r f=false:=(by unfold isAny;rw[HRM.out];exact han);rcases hre:restR s k with _ | ⟨x,y⟩
      ·rw[hre,goG,if_neg (by rw[h2];decide)] at h1;rw[hre,farG,if_neg (by rw[h2];decide)] at h5;exact⟨h1.symm,h5.symm⟩
      ·rw[hre,goG,if_neg (by rw[h2];decide)] at h1;rw[hre,farG,if_neg (by rw[h2];decide)] at h5;exact⟨h1.symm,h5.symm⟩)
     have HB:=qh HQ.out.2.1;clear han HQ;go_wp2_with fail
     go_fit HAN.out;rintro e w3 ⟨rfl,rfl⟩;go_wp2_with fail
     go_roundw
     case rel=>exact⟨j+1,lg,ru,fr,by go_num,hlt,rfl,rfl,rfl,qh ⟨HB.out,by have:=HNX.out;rw[HE.out.1,HE.out.2] at this;exact this⟩⟩
     case measure=>simp[intOf]<;>omega
    | true=>
     go_wp2_with fail
     go_fit HAN.out;rintro e w3 ⟨rfl,rfl⟩;have hany:isAny r f=true:=(by unfold isAny;rw[HRM.out];exact han);have hb4:=HQ.out.2.1;obtain⟨hc3,hru3⟩:=HGT.out _ hb4;have HEN:=qh (rends_any hru3 (by rw[HRM.out];exact HQ.out.1));have hST:∀(W:World) (c:Nat),Below w3.heap.size w3 W→c<256→Calls Tryz.prog 41 #[.pointer p,u,.int .u8 (c:Int)] W fun e w'=>∃G,e= .returned (.slice (some ⟨G,0,none⟩) rm rm)∧BolR w' (.slice (some ⟨G,0,none⟩) rm rm) rm (stepG r f c)∧Below w.heap.size w w':=fun W c hb hc=>by
      have h1:=rstep_any (hru3.below hb) HSE.out (f:=f) (u:=u) (by rw[HRM.out];exact BolR.below HQ.out.1 hb) c hc;rw[HRM.out] at h1;exact h1.mono fun e w' ⟨G,x,y,z⟩=>⟨G,x,y,(hb4.trans (hb.mono hb4.size)).trans (z.mono (Nat.le_trans hb4.size hb.size))⟩
     have HST:=qh hST;obtain⟨en,hen⟩:∃en,endsG r f=en:=⟨_,rfl⟩;rw[hen] at HEN;have HG:=qh HQ.out.2.2;have HANY:=qh hany;have HENE:=qh hen;have HB4:=qh hb4;clear hru3 hST HQ hany hen han hb4;go_upto_region 12 with (fail)
     obtain⟨fr2,hfr2⟩:∃fr2,max fr ((k:Int)-(a:Int))=fr2:=⟨_,rfl⟩;(try rw[hfr2]);have HF2:=qh hfr2;clear hfr2;have hcases:en=false∨en=true∧ru<0∨en=true∧(¬ru<0∧lg<(k:Int)-(a:Int))∨en=true∧(¬ru<0∧¬lg<(k:Int)-(a:Int)):=by
      rcases en with _ | _
      ·exact .inl rfl
      ·by_cases h1:ru<0
       ·exact .inr (.inl ⟨rfl,h1⟩)
       ·by_cases h2:lg<(k:Int)-(a:Int)
        ·exact .inr (.inr (.inl ⟨rfl,h1,h2⟩))
        ·exact .inr (.inr (.inr ⟨rfl,h1,h2⟩))
     have hend:k=s.size∨k<s.size:=(by omega);rcases hcases with rfl | ⟨rfl,hx1⟩ | ⟨rfl,hx1,hx2⟩ | ⟨rfl,hx1,hx2⟩
     ·skip;rcases hend with he | he
      ·have HE:Hid (R0=(lg,ru)∧R1=fr2):=qh (by
        have h1:=HG.out.1;have h5:=HG.out.2;have h6:restR s k= []:=List.length_eq_zero_iff.1 (by rw[rest_len];omega);rw[h6,goG,if_pos HANY.out,if_neg (fun h=>by rw[HENE.out] at h;cases h.1)] at h1;rw[h6,farG,if_pos HANY.out,HF2.out] at h5;exact⟨h1.symm,h5.symm⟩)
       have hke:((k:Int)==(s.size:Int))=true:=(by rw[he];simp);clear he HST;go_wp2_with fail
       go_fit HEN.out;rintro e w4 ⟨rfl,rfl⟩;go_wp2_with fail
       go_roundw
       case rel=>exact⟨j+1,lg,ru,fr2,by go_num,hlt,rfl,rfl,rfl,qh ⟨HB4.out,by have:=HNX.out;rw[HE.out.1,HE.out.2] at this;exact this⟩⟩
       case measure=>simp[intOf]<;>omega
      ·have hke:((k:Int)==(s.size:Int))=false:=beq_eq_false_iff_ne.2 (by omega);have hkl:(k:Int)<(s.size:Int):=(by omega);have hb:=getR s k he;have hb2:=bR_lt s k;have HE:Hid (goG r j (restR s (k+1)) (stepG r f (bR s k)) (((k+1:Nat):Int)-(a:Int)) lg ru=R0∧farG r (restR s (k+1)) (stepG r f (bR s k)) (((k+1:Nat):Int)-(a:Int)) fr2=R1):=qh (by
        have h1:=HG.out.1;have h5:=HG.out.2;rw[rest_cons s k he,goG,if_pos HANY.out,if_neg (fun h=>by rw[HENE.out] at h;cases h.1)] at h1;rw[rest_cons s k he,farG,if_pos HANY.out,HF2.out] at h5;rw[show ((k+1:Nat):Int)-(a:Int)=(k:Int)-(a:Int)+1 by omega];exact⟨h1,h5⟩)
       obtain⟨cc,hcc⟩:∃cc,bR s k=cc:=⟨_,rfl⟩;rw[hcc] at hb hb2 HE;have HS2:=qh (fun W hb=>HST.out W cc hb hb2);clear hcc HST;go_wp2_with fail
       go_fit HEN.out;rintro e w4 ⟨rfl,rfl⟩;go_wp2_with fail
       go_region_law (go_simp;go_at_call 41;go_must (go_fit (HS2.out _ ?_));(exact⟨rfl,rfl,rfl,Nat.le_refl _,fun _ _=>rfl⟩);rintro e w6 ⟨G6,rfl,hB6,hb6⟩;have H6:=qh (And.intro hB6 hb6);clear hB6 hb6)
       all_goals
        go_wp2_with fail
        exact⟨⟨k+1,lg,ru,fr2,by go_num,by omega,by omega,rfl,rfl,rfl,qh ⟨_,_,rfl,H6.out.1,H6.out.2,HE.out⟩⟩,by simp[intOf]<;>omega⟩
     ·skip;rcases hend with he | he
      ·have HE:Hid (R0=(((k:Int)-(a:Int)),(j:Int))∧R1=fr2):=qh (by
        have h1:=HG.out.1;have h5:=HG.out.2;have h6:restR s k= []:=List.length_eq_zero_iff.1 (by rw[rest_len];omega);rw[h6,goG,if_pos HANY.out,if_pos ⟨HENE.out,.inl hx1⟩] at h1;rw[h6,farG,if_pos HANY.out,HF2.out] at h5;exact⟨h1.symm,h5.symm⟩)
       have hke:((k:Int)==(s.size:Int))=true:=(by rw[he];simp);clear he HST;go_wp2_with fail
       go_fit HEN.out;rintro e w4 ⟨rfl,rfl⟩;go_wp2_with fail
       go_roundw
       case rel=>exact⟨j+1,((k:Int)-(a:Int)),(j:Int),fr2,by go_num,hlt,rfl,rfl,rfl,qh ⟨HB4.out,by have:=HNX.out;rw[HE.out.1,HE.out.2] at this;exact this⟩⟩
       case measure=>simp[intOf]<;>omega
      ·have hke:((k:Int)==(s.size:Int))=false:=beq_eq_false_iff_ne.2 (by omega);have hkl:(k:Int)<(s.size:Int):=(by omega);have hb:=getR s k he;have hb2:=bR_lt s k;have HE:Hid (goG r j (restR s (k+1)) (stepG r f (bR s k)) (((k+1:Nat):Int)-(a:Int)) ((k:Int)-(a:Int)) (j:Int)=R0∧farG r (restR s (k+1)) (stepG r f (bR s k)) (((k+1:Nat):Int)-(a:Int)) fr2=R1):=qh (by
        have h1:=HG.out.1;have h5:=HG.out.2;rw[rest_cons s k he,goG,if_pos HANY.out,if_pos ⟨HENE.out,.inl hx1⟩] at h1;rw[rest_cons s k he,farG,if_pos HANY.out,HF2.out] at h5;rw[show ((k+1:Nat):Int)-(a:Int)=(k:Int)-(a:Int)+1 by omega];exact⟨h1,h5⟩)
       obtain⟨cc,hcc⟩:∃cc,bR s k=cc:=⟨_,rfl⟩;rw[hcc] at hb hb2 HE;have HS2:=qh (fun W hb=>HST.out W cc hb hb2);clear hcc HST;go_wp2_with fail
       go_fit HEN.out;rintro e w4 ⟨rfl,rfl⟩;go_wp2_with fail
       go_region_law (go_simp;go_at_call 41;go_must (go_fit (HS2.out _ ?_));(exact⟨rfl,rfl,rfl,Nat.le_refl _,fun _ _=>rfl⟩);rintro e w6 ⟨G6,rfl,hB6,hb6⟩;have H6:=qh (And.intro hB6 hb6);clear hB6 hb6)
       all_goals
        go_wp2_with fail
        exact⟨⟨k+1,((k:Int)-(a:Int)),(j:Int),fr2,by go_num,by omega,by omega,rfl,rfl,rfl,qh ⟨_,_,rfl,H6.out.1,H6.out.2,HE.out⟩⟩,by simp[intOf]<;>omega⟩
     ·skip;have hx3:(k:Int)-(a:Int)>lg:=hx2;rcases hend with he | he
      ·have HE:Hid (R0=(((k:Int)-(a:Int)),(j:Int))∧R1=fr2):=qh (by
        have h1:=HG.out.1;have h5:=HG.out.2;have h6:restR s k= []:=List.length_eq_zero_iff.1 (by rw[rest_len];omega);rw[h6,goG,if_pos HANY.out,if_pos ⟨HENE.out,.inr hx2⟩] at h1;rw[h6,farG,if_pos HANY.out,HF2.out] at h5;exact⟨h1.symm,h5.symm⟩)
       have hke:((k:Int)==(s.size:Int))=true:=(by rw[he];simp);clear he HST;go_wp2_with fail
       go_fit HEN.out;rintro e w4 ⟨rfl,rfl⟩;go_wp2_with fail
       go_roundw
       case rel=>exact⟨j+1,((k:Int)-(a:Int)),(j:Int),fr2,by go_num,hlt,rfl,rfl,rfl,qh ⟨HB4.out,by have:=HNX.out;rw[HE.out.1,HE.out.2] at this;exact this⟩⟩
       case measure=>simp[intOf]<;>omega
      ·have hke:((k:Int)==(s.size:Int))=false:=beq_eq_false_iff_ne.2 (by omega);have hkl:(k:Int)<(s.size:Int):=(by omega);have hb:=getR s k he;have hb2:=bR_lt s k;have HE:Hid (goG r j (restR s (k+1)) (stepG r f (bR s k)) (((k+1:Nat):Int)-(a:Int)) ((k:Int)-(a:Int)) (j:Int)=R0∧farG r (restR s (k+1)) (stepG r f (bR s k)) (((k+1:Nat):Int)-(a:Int)) fr2=R1):=qh (by
        have h1:=HG.out.1;have h5:=HG.out.2;rw[rest_cons s k he,goG,if_pos HANY.out,if_pos ⟨HENE.out,.inr hx2⟩] at h1;rw[rest_cons s k he,farG,if_pos HANY.out,HF2.out] at h5;rw[show ((k+1:Nat):Int)-(a:Int)=(k:Int)-(a:Int)+1 by omega];exact⟨h1,h5⟩)
       obtain⟨cc,hcc⟩:∃cc,bR s k=cc:=⟨_,rfl⟩;rw[hcc] at hb hb2 HE;have HS2:=qh (fun W hb=>HST.out W cc hb hb2);clear hcc HST;go_wp2_with fail
       go_fit HEN.out;rintro e w4 ⟨rfl,rfl⟩;go_wp2_with fail
       go_region_law (go_simp;go_at_call 41;go_must (go_fit (HS2.out _ ?_));(exact⟨rfl,rfl,rfl,Nat.le_refl _,fun _ _=>rfl⟩);rintro e w6 ⟨G6,rfl,hB6,hb6⟩;have H6:=qh (And.intro hB6 hb6);clear hB6 hb6)
       all_goals
        go_wp2_with fail
        exact⟨⟨k+1,((k:Int)-(a:Int)),(j:Int),fr2,by go_num,by omega,by omega,rfl,rfl,rfl,qh ⟨_,_,rfl,H6.out.1,H6.out.2,HE.out⟩⟩,by simp[intOf]<;>omega⟩
     ·skip;have hx3:¬(k:Int)-(a:Int)>lg:=hx2;rcases hend with he | he
      ·have HE:Hid (R0=(lg,ru)∧R1=fr2):=qh (by
        have h1:=HG.out.1;have h5:=HG.out.2;have h6:restR s k= []:=List.length_eq_zero_iff.1 (by rw[rest_len];omega);rw[h6,goG,if_pos HANY.out,if_neg (fun h=>h.2.elim hx1 hx2)] at h1;rw[h6,farG,if_pos HANY.out,HF2.out] at h5;exact⟨h1.symm,h5.symm⟩)
       have hke:((k:Int)==(s.size:Int))=true:=(by rw[he];simp);clear he HST;go_wp2_with fail
       go_fit HEN.out;rintro e w4 ⟨rfl,rfl⟩;go_wp2_with fail
       go_roundw
       case rel=>exact⟨j+1,lg,ru,fr2,by go_num,hlt,rfl,rfl,rfl,qh ⟨HB4.out,by have:=HNX.out;rw[HE.out.1,HE.out.2] at this;exact this⟩⟩
       case measure=>simp[intOf]<;>omega
      ·have hke:((k:Int)==(s.size:Int))=false:=beq_eq_false_iff_ne.2 (by omega);have hkl:(k:Int)<(s.size:Int):=(by omega);have hb:=getR s k he;have hb2:=bR_lt s k;have HE:Hid (goG r j (restR s (k+1)) (stepG r f (bR s k)) (((k+1:Nat):Int)-(a:Int)) lg ru=R0∧farG r (restR s (k+1)) (stepG r f (bR s k)) (((k+1:Nat):Int)-(a:Int)) fr2=R1):=qh (by
        have h1:=HG.out.1;have h5:=HG.out.2;rw[rest_cons s k he,goG,if_pos HANY.out,if_neg (fun h=>h.2.elim hx1 hx2)] at h1;rw[rest_cons s k he,farG,if_pos HANY.out,HF2.out] at h5;rw[show ((k+1:Nat):Int)-(a:Int)=(k:Int)-(a:Int)+1 by omega];exact⟨h1,h5⟩)
       obtain⟨cc,hcc⟩:∃cc,bR s k=cc:=⟨_,rfl⟩;rw[hcc] at hb hb2 HE;have HS2:=qh (fun W hb=>HST.out W cc hb hb2);clear hcc HST;go_wp2_with fail
       go_fit HEN.out;rintro e w4 ⟨rfl,rfl⟩;go_wp2_with fail
       go_region_law (go_simp;go_at_call 41;go_must (go_fit (HS2.out _ ?_));(exact⟨rfl,rfl,rfl,Nat.le_refl _,fun _ _=>rfl⟩);rintro e w6 ⟨G6,rfl,hB6,hb6⟩;have H6:=qh (And.intro hB6 hb6);clear hB6 hb6)
       all_goals
        go_wp2_with fail
        exact⟨⟨k+1,lg,ru,fr2,by go_num,by omega,by omega,rfl,rfl,rfl,qh ⟨_,_,rfl,H6.out.1,H6.out.2,HE.out⟩⟩,by simp[intOf]<;>omega⟩
  ·have hli:¬(j:Int)<(m:Int):=(by omega);have HE:Hid (matchG rs 0 (restR s a) 0 (-1)=(lg,ru)∧Below w.heap.size w wr∧farsG rs (restR s a) 0=fr):=qh ⟨by
    rw[←HQ.out.2.1,List.drop_eq_nil_of_le (by have:=HM.out;omega),matchG],HQ.out.1,by
    rw[←HQ.out.2.2,List.drop_eq_nil_of_le (by have:=HM.out;omega),farsG]⟩
   clear HQ;go_wp2_with fail
   go_ret3
   exact⟨by rw[HE.out.1,HE.out.2.2];rfl,HE.out.2.1⟩
theorem rmatch_far (h:RusW w v rs) (hok:∀r,r∈rs→∀st,st∈r.sets→OkR st) (hl:rs.length≤64) (s:ByteArray) (hs:s.size≤1000) (a:Int):
  Calls Tryz.prog 19 #[v,.string s,.int .i64 a] w fun e w'=>e= .returned (.tuple #[.int .i64 (matchGA rs s a).1,.int .i64 (matchGA rs s a).2,.int .i64 (farA rs s a)])∧Below w.heap.size w w':=by
 unfold matchGA farA;by_cases ha:a<0∨(s.size:Int)<a
 ·rw[if_pos ha,if_pos ha];exact (rmatch_out s a ha w).mono fun e w' ⟨he,hw⟩=>⟨he,by rw[hw];exact Below.refl _ _⟩
 ·rw[if_neg ha,if_neg ha];obtain⟨m,rfl⟩:∃m:Nat,a=m:=⟨a.toNat,by omega⟩;rw[Int.toNat_natCast];exact rmatch_in h hok hl s hs m (by omega)
end
end Go.Proofs.YtjeomlickkpebaaGreatDoor
