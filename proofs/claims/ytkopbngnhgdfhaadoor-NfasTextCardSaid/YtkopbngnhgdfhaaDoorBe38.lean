/-
  Texts of this proof, one behind the other; each begins with its own remark.
-/
import Derived.Deep.RegionLaw
import Derived.Test.YtkopbngnhgdfhaaDoorBe36
import Derived.Test.YtkopbngnhgdfhaaDoorBe37
/-
  nfas.Make: what it returns.
-/
namespace Go.Proofs.YtkopbngnhgdfhaaDoor
open Go.RowKit

section
variable {P : Nat → Prop} {w w' : World} {B : Nat} {q : List Sta} {first : List Int} {fv : Value}
theorem NfaE.firstC (h : NfaE P w B q first fv) : (w.cell? ⟨B, 1, none⟩ = some fv ∧ w.frozen? ⟨B, 1, none⟩ = false) ∧ ∃ ao cap, fv = .slice ao first.length cap := by
  obtain ⟨sv, h⟩ := h
  obtain ⟨ao, cap, hv, _⟩ := ownZ h.f
  exact ⟨⟨h.b.cells.1.2, h.b.cells.2.2⟩, ao, cap, hv⟩
/-- One beginning more: append, and the store into the box. -/
theorem NfaE.pushF {X : Nat} {a : Int} (h : NfaE P w B q first fv) (hP : ∀ k, w.heap.size ≤ k → ¬ P k) (t ty : TypeId) (ht : Tryd.prog.underlying t = some (.slice 3)) (hX : w.cell? ⟨X, 0, none⟩ = some (.int .i64 a)) (hs : first.length ≤ 100000) :
    ∃ v' w', (Builtin.append_ #[t, t] ty #[fv, .slice (some ⟨X, 0, none⟩) 1 1]).run Tryd.prog w = .ok v' w' ∧ w'.cell? ⟨B, 1, none⟩ = some fv ∧ w'.frozen? ⟨B, 1, none⟩ = false ∧ B < w'.heap.size ∧
      NfaE P (w'.setCell ⟨B, 1, none⟩ v') B q (first ++ [a]) v' ∧ KeepW P w (w'.setCell ⟨B, 1, none⟩ v') := by
  obtain ⟨sv, h⟩ := h
  obtain ⟨v', w', hr, h1, h2, h3⟩ := run_snocI t ty ht h.f hX (Nat.zero_le _) hs
  have hBl := h.b.lt
  have hno : fv.ownBlock ≠ some B := fun e => (h.nf B e).2 rfl
  have hb := h.b.keep h2 hno
  have hsr : OwnS w' sv q := ownRow_keep h.s h2 fun k e e2 => (h.ns k e).2.2 e2
  have hk : KeepW (fun k => k ≠ B) w' (w'.setCell ⟨B, 1, none⟩ v') := keep_set B 1 none _ w' fun h => h rfl
  have hnew : ∀ k, v'.ownBlock = some k → ¬ P k ∧ k ≠ B := fun k e => by
    rcases h3 k e with e | e
    · exact h.nf k e
    · rw [e]; exact ⟨hP _ (Nat.le_refl _), by omega⟩
  refine ⟨v', w', hr, hb.cells.1.2, hb.cells.2.2, hb.lt, ⟨sv, hb.set1 _, ownRow_keep hsr hk fun k e => (h.ns k e).2.1, ownRow_keep h1 hk fun k e => (hnew k e).2, h.nb, fun k e => ⟨(h.ns k e).1, (h.ns k e).2.1, fun e2 => ?_⟩, hnew⟩, ?_⟩
  · rcases h3 k e2 with e3 | e3
    · exact (h.ns k e).2.2 e3
    · have := (World.ownsRow.lt h.s k e).2; omega
  · exact (h2.mono fun k _ hp e => (h.nf k e).1 hp).trans (hk.mono fun k _ hp e => h.nb (by rw [← e]; exact hp))
end
/-- The error of some rules; 0: there is none. -/
def makeE (L : List ByteArray) : Int := if L.length = 0 ∨ 64 < L.length then 2 else if errsP L ≠ 0 then errsP L else if 2000 < sizeP L then 70 else 0
def quE (L : List ByteArray) : List Sta := (makeQ (nodesP L)).1
def fiE (L : List ByteArray) : List Int := (makeQ (nodesP L)).2
theorem make_good {L : List ByteArray} (h : makeE L = 0) : Made (quE L) (fiE L) (nodesP L) ∧ L.length ≤ 64 ∧ (quE L).length ≤ 100000 ∧ (∀ s, s ∈ L → (parseP s).2 = 0) := by
  unfold makeE at h
  split at h
  · cases h
  split at h
  · rename_i h1 h2; exact absurd h h2
  split at h
  · cases h
  rename_i h1 h2 h3
  have h4 : errsP L = 0 := by omega
  have hall := errs_all L h4
  refine ⟨makeQ_ok _ (nodes_good L), by omega, ?_, hall⟩
  have hw := nodes_wt L hall
  have hm := makeF_len (nodesP L) 0 [] []
  have hl : (nodesP L).length = L.length := List.length_map _
  show (makeF (nodesP L) 0 [] []).1.length ≤ _
  rw [hl] at hm
  simp only [List.length_nil] at hm
  omega
/-- What lies in memory while the rules' states are added. -/
structure MkW (w0 w : World) (N : Nat) (v : Value) (ns : List Nd) (q : List Sta) (first : List Int) (fv : Value) (i : Nat) : Prop where
  e : NfaE (fun k => k < N) w N q first fv
  ks : KidsW (fun k => k < N) w ns v
  b : Below w0.heap.size w0 w
  at_ : w0.heap.size ≤ N
  on : makeF (ns.drop i) i q first = makeQ ns
  few : q.length + 2 * wtL (ns.drop i) + (ns.drop i).length ≤ 50000
  fl : first.length = i
section
variable {w0 w w' : World} {N i : Nat} {v : Value} {ns : List Nd} {q q' : List Sta} {first : List Int} {fv : Value}
theorem MkW.newP (h : MkW w0 w N v ns q first fv i) : ∀ k, w.heap.size ≤ k → ¬ k < N := fun k hk => by have := h.e.lt; omega
/-- A rule's round: the box of its node, and what add and build come to. -/
structure MkR (w0 wr w : World) (N X : Nat) (v : Value) (ns : List Nd) (n : Nd) (u : Value) (q : List Sta) (first : List Int) (fv : Value) : Prop where
  e : NfaE (fun k => k < N ∨ k = X) w N q first fv
  x : boxN 26 w X n.kind n.set u
  kp : KeepW (fun k => k < N) wr w
  at_ : X = wr.heap.size
theorem MkR.newP {wr : World} {X : Nat} {n : Nd} {u : Value} (h : MkR w0 wr w N X v ns n u q first fv) : ∀ k, w.heap.size ≤ k → ¬ (k < N ∨ k = X) := fun k hk hp => by
  have := h.x.lt
  have := h.e.lt
  omega
theorem MkR.go {wr : World} {X : Nat} {n : Nd} {u fv' : Value} {first' : List Int} (h : MkR w0 wr w N X v ns n u q first fv) (he : NfaE (fun k => k < N ∨ k = X) w' N q' first' fv') (hk : KeepW (fun k => k < N ∨ k = X) w w') : MkR w0 wr w' N X v ns n u q' first' fv' :=
  ⟨he, h.x.keep hk (.inr rfl), h.kp.trans (hk.mono fun _ _ hp => .inl hp), h.at_⟩
theorem MkR.under {wr : World} {X : Nat} {n : Nd} {u : Value} (h : MkR w0 wr w N X v ns n u q first fv) (hb : Below w.heap.size w w') : MkR w0 wr w' N X v ns n u q first fv := h.go (h.e.under hb) (keep_below _ hb)
theorem MkW.round {n : Nd} {u : Value} (h : MkW w0 w N v ns q first fv i) :
    MkR w0 w (w.alloc (.cells #[.int .i64 n.kind, .int .u64 (n.set.1 : Int), .int .u64 (n.set.2.1 : Int), .int .u64 (n.set.2.2.1 : Int), .int .u64 (n.set.2.2.2 : Int), u] 26)) N w.heap.size v ns n u q first fv :=
  have hb := alloc_under w (.cells #[.int .i64 n.kind, .int .u64 (n.set.1 : Int), .int .u64 (n.set.2.1 : Int), .int .u64 (n.set.2.2.1 : Int), .int .u64 (n.set.2.2.2 : Int), u] 26)
  ⟨h.e.also hb, boxN.new _ _ _ _ _, keep_below _ hb, rfl⟩
theorem makeF_cons {l : List Nd} {i : Nat} {m : Nd} (h : l[i]? = some m) (q : List Sta) (first : List Int) : makeF (l.drop i) i q first = makeF (l.drop (i + 1)) (i + 1) (buildT m (q ++ [endS i]) q.length).1 (first ++ [((buildT m (q ++ [endS i]) q.length).2 : Int)]) := by
  have hk := (List.getElem?_eq_some_iff.1 h).1
  rw [List.drop_eq_getElem_cons hk, (List.getElem?_eq_some_iff.1 h).2, makeF]
theorem MkW.next {wr w : World} {X : Nat} {n : Nd} {u fv' : Value} (h : MkW w0 wr N v ns q first fv i) (hi : ns[i]? = some n)
    (hr : MkR w0 wr w N X v ns n u (buildT n (q ++ [endS i]) q.length).1 (first ++ [((buildT n (q ++ [endS i]) q.length).2 : Int)]) fv') : MkW w0 w N v ns (buildT n (q ++ [endS i]) q.length).1 (first ++ [((buildT n (q ++ [endS i]) q.length).2 : Int)]) fv' (i + 1) := by
  have h1 := build_len n (q ++ [endS i]) q.length
  have h2 := wtL_drop hi
  have h3 := h.few
  have hk := (List.getElem?_eq_some_iff.1 hi).1
  have hlt := h.e.lt
  rw [List.length_append] at h1
  simp only [List.length_cons, List.length_nil] at h1
  rw [List.length_drop] at h3
  refine ⟨hr.e.mono fun k hk => .inl hk, h.ks.keep hr.kp fun k _ hk => hk, KeepW.below h.b hr.kp h.b.size fun k hk => Nat.lt_of_lt_of_le hk h.at_, h.at_, by rw [← makeF_cons hi]; exact h.on, by rw [List.length_drop]; omega, by rw [List.length_append, h.fl]; rfl⟩
end
section
variable {w : World} {v : Value} {L : List ByteArray}
set_option maxRecDepth 4000 in
set_option maxHeartbeats 16000000 in
theorem nmake_ok (h : StrsW w v L) (he : ErrW w) (hE : makeE L = 0) :
    Calls Tryd.prog 14 #[v] w fun e w' => ∃ r, e = .returned (.tuple #[r, .int .i64 0]) ∧ NfaR w' r (quE L) (fiE L) ∧ Below w.heap.size w w' := by
  obtain ⟨vo, vc, rfl, hvc⟩ := h.form
  obtain ⟨_, hL64, hqf, hall⟩ := make_good hE
  have hz : L.length ≠ 0 := fun e => by unfold makeE at hE; rw [if_pos (.inl e)] at hE; cases hE
  have hE0 : errsP L = 0 := by
    unfold makeE at hE
    rw [if_neg (by omega)] at hE
    split at hE
    · rename_i h1; exact absurd hE h1
    · rename_i h1; omega
  have hS0 : sizeP L ≤ 2000 := by
    unfold makeE at hE
    rw [if_neg (by omega), if_neg (by omega)] at hE
    split at hE
    · cases hE
    · omega
  have HP := Lib.hid (nparsed_any h he (by omega))
  have HS := Lib.hid (fun (W : World) (hb : Below w.heap.size w W) => nsize_any (h.below hb) (by omega) (fun s hs => Nat.le_trans ((parse_ok s).2.2.2 (hall s hs)).1 (by omega)))
  rw [hE0] at HP
  have hszi : (sizeP L : Int) ≤ 2000 := by omega
  have hszi2 : ¬ (sizeP L : Int) > 2000 := by omega
  have hnl : (nodesP L).length = L.length := List.length_map _
  have hwn := nodes_wt L hall
  have HFW : Hid (2 * wtL (nodesP L) + (nodesP L).length ≤ 50000) := Lib.hid (by omega)
  have HG := Lib.hid (nodes_good L)
  have HQF := Lib.hid hqf
  obtain ⟨m, hm⟩ : ∃ m, L.length = m := ⟨_, rfl⟩
  have HM : Hid ((nodesP L).length = m) := Lib.hid (by rw [hnl, hm])
  rw [hm] at hvc hL64 hz HP HS ⊢
  obtain ⟨sz, hsz⟩ : ∃ sz, sizeP L = sz := ⟨_, rfl⟩
  rw [hsz] at HS hszi hszi2
  have hz1 : ((m : Int) == 0) = false := beq_eq_false_iff_ne.2 (by omega)
  have hm64 : (m : Int) ≤ 64 := by omega
  have hm64' : ¬ (m : Int) > 64 := by omega
  clear h he hall hm hsz hnl hwn hE0 hS0 hqf hz
  go_enter Tryd.func14, Tryd.ntmps14
  go_wp2_with fail
  go_fit HP.out
  rintro e w1 ⟨⟨r, rfl, hks⟩, hb1⟩
  have H1 := Lib.hid (And.intro (hks trivial) hb1)
  clear hks hb1 HP
  obtain ⟨ro, rc, rfl, hrc, _⟩ := H1.out.1.form
  go_wp2_with fail
  go_fit (HS.out _ H1.out.2)
  rintro e w2 ⟨rfl, rfl⟩
  obtain ⟨N, hN⟩ : ∃ N, w2.heap.size = N := ⟨_, rfl⟩
  have hba := alloc_under w2 (.cells #[.slice none 0 0, .slice none 0 0] 54)
  have H2 : Hid (∃ (q : List Sta) (first : List Int) (fv : Value), MkW w (w2.alloc (.cells #[.slice none 0 0, .slice none 0 0] 54)) N (.slice ro m rc) (nodesP L) q first fv 0) := by
    refine Lib.hid ⟨[], [], .slice none 0 0, ⟨⟨.slice none 0 0, ?_, OwnS.nil _, OwnI.nil _ _, by omega, (fun k e => by cases e), (fun k e => by cases e)⟩, ?_, H1.out.2.trans (hba.mono H1.out.2.size), by rw [← hN]; exact H1.out.2.size, rfl, ?_, rfl⟩⟩
    · rw [← hN]; exact heap_alloc_new _ _
    · rw [← HM.out]
      exact (H1.out.1.mono (ok' := fun k => k < N) fun k hk _ => by omega).under hba
    · rw [List.drop_zero]; have := HFW.out; simp only [List.length_nil]; omega
  rw [HM.out] at hrc ⊢
  (try rw [HM.out])
  clear hba H1 HS HFW
  go_wp2_with fail
  obtain ⟨W3, hW3⟩ : ∃ W3, w2.alloc (.cells #[.slice none 0 0, .slice none 0 0] 54) = W3 := ⟨_, rfl⟩
  (try rw [hW3])
  rw [hW3] at H2
  (try rw [hN])
  clear hW3 hN
  go_loopw [31] (fun s31 wr => ∃ i : Nat, s31 = .int .i64 (i : Int) ∧ i ≤ m ∧ Hid (∃ (q : List Sta) (first : List Int) (fv : Value), MkW w wr N (.slice ro m rc) (nodesP L) q first fv i)) (fun s31 _ => m - (intOf s31).toNat)
  case atStart => exact ⟨0, rfl, Nat.zero_le _, H2⟩
  case round =>
    obtain ⟨i, rfl, hi, HX⟩ := hrel
    clear H2
    obtain ⟨q, first, fv, hX⟩ := HX.out
    have HQ := Lib.hid hX
    clear HX hX
    have i0 : (0 : Int) ≤ (i : Int) := by omega
    have ib : (i : Int) ≤ 64 := by omega
    by_cases hlt : i < m
    · have hli : (i : Int) < (m : Int) := by omega
      have hla : i < (nodesP L).length := by have := HM.out; omega
      obtain ⟨n, hn⟩ : ∃ n, (nodesP L)[i] = n := ⟨_, rfl⟩
      have hil : (nodesP L)[i]? = some n := by rw [List.getElem?_eq_getElem hla, hn]
      have HIL := Lib.hid hil
      obtain ⟨g, o, cap, ku, hue, _, hso, hkk, hcell⟩ := HQ.out.ks.at_ hil
      obtain ⟨kl, kc, rfl, _⟩ := hkk.form
      injection hue with e1 e2 e3
      subst e1
      clear e2 e3
      have d0 := hcell 0 _ (by decide) rfl
      have d1 := hcell 1 _ (by decide) rfl
      have d2 := hcell 2 _ (by decide) rfl
      have d3 := hcell 3 _ (by decide) rfl
      have d4 := hcell 4 _ (by decide) rfl
      have d5 := hcell 5 _ (by decide) rfl
      simp only [Nat.add_zero, ← Nat.add_assoc] at d0 d1 d2 d3 d4 d5
      have hqfew := HQ.out.few
      have hwd := wtL_drop hil
      have H3 := Lib.hid (HQ.out.round (n := n) (u := .slice kl n.kids.length kc))
      have HA := Lib.hid (show Calls Tryd.prog 35 #[.pointer (some ⟨N, 0, none⟩), .agg #[.int .i64 2, .int .u64 0, .int .u64 0, .int .u64 0, .int .u64 0, .int .i64 0, .int .i64 0, .int .i64 (i : Int)]] (wr.alloc (.cells #[.int .i64 n.kind, .int .u64 (n.set.1 : Int), .int .u64 (n.set.2.1 : Int), .int .u64 (n.set.2.2.1 : Int), .int .u64 (n.set.2.2.2 : Int), .slice kl n.kids.length kc] 26)) fun e w' => e = .returned (.int .i64 (q.length : Int)) ∧ NfaE (fun k => k < N ∨ k = wr.heap.size) w' N (q ++ [endS i]) first fv ∧ KeepW (fun k => k < N ∨ k = wr.heap.size) (wr.alloc (.cells #[.int .i64 n.kind, .int .u64 (n.set.1 : Int), .int .u64 (n.set.2.1 : Int), .int .u64 (n.set.2.2.1 : Int), .int .u64 (n.set.2.2.2 : Int), .slice kl n.kids.length kc] 26)) w' from nadd_any H3.out.e H3.out.newP (endS i) (by omega))
      have HB := Lib.hid (fun (W : World) (hR : MkR w wr W N wr.heap.size (.slice (some ⟨g, o, none⟩) m rc) (nodesP L) n (.slice kl n.kids.length kc) (q ++ [endS i]) first fv) =>
        builds_any _ n (Nat.le_refl _) ((HG.out n (List.mem_of_getElem? hil)).1) _ W N _ first fv q.length _ hR.e hR.newP (show NodeW (fun k => k < N ∨ k = wr.heap.size) W n (nodeV n (.slice kl n.kids.length kc)) from ⟨hso, _, rfl, (hkk.keep hR.kp fun k _ hp => hp).mono fun _ _ hp => .inl hp⟩) (by rw [List.length_append]; simp only [List.length_cons, List.length_nil]; omega))
      have hX0 := alloc_under wr (.cells #[.int .i64 n.kind, .int .u64 (n.set.1 : Int), .int .u64 (n.set.2.1 : Int), .int .u64 (n.set.2.2.1 : Int), .int .u64 (n.set.2.2.2 : Int), .slice kl n.kids.length kc] 26)
      have HQL : Hid (first.length ≤ 1000) := Lib.hid (by rw [HQ.out.fl]; omega)
      unfold nodeV at HB
      obtain ⟨⟨q3, a3⟩, hq3⟩ : ∃ r, buildT n (q ++ [endS i]) q.length = r := ⟨_, rfl⟩
      rw [hq3] at HB
      simp only at HB
      have HQ3 := Lib.hid hq3
      obtain ⟨fo, fcp, hfv⟩ := HQ.out.e.firstC.2
      subst hfv
      obtain ⟨fl, hfl⟩ : ∃ fl, first.length = fl := ⟨_, rfl⟩
      have HFL := Lib.hid hfl
      rw [hfl] at HB HA H3 HQ
      clear hcell hil hla hn hkk hso hqfew hwd hX0 hq3 hfl
      go_wp2_with fail
      go_fit HA.out
      rintro e w4 ⟨rfl, he4, hk4⟩
      have H4 := Lib.hid (H3.out.go he4 hk4)
      clear he4 hk4 HA H3 d0 d1 d2 d3 d4 d5
      obtain ⟨X, hX⟩ : ∃ X, wr.heap.size = X := ⟨_, rfl⟩
      rw [hX] at H4 HB
      (try rw [hX])
      have HXE := Lib.hid hX
      clear hX
      obtain ⟨⟨c0, c1, c2, c3, c4, c5⟩, _⟩ := H4.out.x.cells
      have hxl := H4.out.x.lt
      obtain ⟨⟨f0, f1⟩, _⟩ := H4.out.e.firstC
      have hNl := H4.out.e.lt
      have hBB : ∀ W : World, Below w4.heap.size w4 W → Calls Tryd.prog 36 #[.pointer (some ⟨N, 0, none⟩), .agg #[.int .i64 n.kind, .int .u64 (n.set.1 : Int), .int .u64 (n.set.2.1 : Int), .int .u64 (n.set.2.2.1 : Int), .int .u64 (n.set.2.2.2 : Int), .slice kl n.kids.length kc], .int .i64 (q.length : Int)] W fun e w' => e = .returned (.int .i64 (a3 : Int)) ∧ MkR w wr w' N X (.slice (some ⟨g, o, none⟩) m rc) (nodesP L) n (.slice kl n.kids.length kc) q3 first (.slice fo fl fcp) ∧ KeepW (fun k => k < N ∨ k = X) w4 w' := fun W hb =>
        (HB.out W (H4.out.under hb)).mono fun e w' ⟨h1, h2, h3⟩ => ⟨h1, (H4.out.under hb).go h2 h3, (keep_below _ hb).trans h3⟩
      have HBB := Lib.hid hBB
      have hPS : ∀ W : World, MkR w wr W N X (.slice (some ⟨g, o, none⟩) m rc) (nodesP L) n (.slice kl n.kids.length kc) q3 first (.slice fo fl fcp) → ∃ ao cp w', (Builtin.append_ #[46, 46] 46 #[.slice fo fl fcp, .slice (some ⟨W.heap.size, 0, none⟩) 1 1]).run Tryd.prog (W.alloc (.cells #[.int .i64 (a3 : Int)] 3)) = .ok (.slice ao (first.length + 1) cp) w' ∧ w'.cell? ⟨N, 1, none⟩ = some (.slice fo fl fcp) ∧ w'.frozen? ⟨N, 1, none⟩ = false ∧ N < w'.heap.size ∧ MkR w wr (w'.setCell ⟨N, 1, none⟩ (.slice ao (first.length + 1) cp)) N X (.slice (some ⟨g, o, none⟩) m rc) (nodesP L) n (.slice kl n.kids.length kc) q3 (first ++ [(a3 : Int)]) (.slice ao (first.length + 1) cp) := fun W hR => by
        have hba := alloc_under W (.cells #[.int .i64 (a3 : Int)] 3)
        have hR2 := hR.under hba
        obtain ⟨v', w', h1, h2, h3, h4, h5, h6⟩ := hR2.e.pushF (a := (a3 : Int)) (X := W.heap.size) hR2.newP 46 46 Tryd.underlying46 (by have := cell_one_new W (.int .i64 (a3 : Int)) 3 0 _ rfl; rw [rlit] at this; exact this) (by have := HQL.out; omega)
        obtain ⟨ao, cp, hv'⟩ := h5.firstC.2
        rw [List.length_append] at hv'
        have hv' : v' = .slice ao (first.length + 1) cp := hv'
        subst hv'
        exact ⟨ao, cp, w', h1, h2, h3, h4, hR2.go h5 h6⟩
      have HPS := Lib.hid hPS
      have hNX : ∀ (W : World) (fv' : Value), MkR w wr W N X (.slice (some ⟨g, o, none⟩) m rc) (nodesP L) n (.slice kl n.kids.length kc) q3 (first ++ [(a3 : Int)]) fv' → MkW w W N (.slice (some ⟨g, o, none⟩) m rc) (nodesP L) q3 (first ++ [(a3 : Int)]) fv' (i + 1) := fun W fv' hR => by
        have h := MkW.next (wr := wr) (w := W) (X := X) (n := n) (u := .slice kl n.kids.length kc) (fv' := fv') HQ.out HIL.out (by rw [HQ3.out]; exact hR)
        rw [HQ3.out] at h
        exact h
      have HNX := Lib.hid hNX
      clear hBB hPS hNX
      clear HB
      go_wp2_with fail
      go_region_law (first
        | (obtain ⟨o6, c6, w6, hr6, z1, z2, z3, z4⟩ := HPS.out _ HR5.out; refine napp_step (by rfl) (.tmp 44) (.tmp 49) 46 (by rfl) (by rfl) (by rfl) hr6 ?_)
        | (obtain ⟨o6, c6, w6, hr6, z1, z2, z3, z4⟩ := HPS.out _ (HR5.out.under (Below.refl _ _).drew); refine napp_step (by rfl) (.tmp 44) (.tmp 49) 46 (by rfl) (by rfl) (by rfl) hr6 ?_)
        | (go_simp; go_at_call 36; go_must (go_fit (HBB.out _ ?_)); (exact ⟨rfl, rfl, rfl, Nat.le_refl _, fun _ _ => rfl⟩); rintro e w5 ⟨rfl, hR5, hk5⟩; have HR5 := Lib.hid hR5; have f2 := hR5.e.firstC.1.1; have f3 := hR5.e.firstC.1.2; have hNl5 := hR5.e.lt; clear hR5 hk5))
      all_goals
        have H7 := Lib.hid (HNX.out _ _ z4)
        clear z1 z2 z3 z4 hr6 HPS HBB HNX c0 c1 c2 c3 c4 c5 f0 f1
        go_wp2_with fail
        exact ⟨⟨i + 1, by go_num, hlt, Lib.hid ⟨_, _, _, H7.out⟩⟩, by simp [intOf] <;> omega⟩
    · have hli : ¬ (i : Int) < (m : Int) := by omega
      have hdr : (nodesP L).drop i = [] := List.drop_eq_nil_of_le (by have := HM.out; omega)
      have hon := HQ.out.on
      rw [hdr, makeF] at hon
      have HF := Lib.hid (show NfaR wr (.pointer (some ⟨N, 0, none⟩)) (quE L) (fiE L) ∧ Below w.heap.size w wr from by
        have h1 := HQF.out
        have h2 : quE L = q := by unfold quE; rw [← hon]
        have h3 : fiE L = first := by unfold fiE; rw [← hon]
        rw [h2] at h1 ⊢
        rw [h3]
        exact ⟨HQ.out.e.asB.read h1 (by have := HQ.out.fl; omega), HQ.out.b⟩)
      clear HQ hon hdr
      go_wp2_with fail
      go_ret2
      exact ⟨_, rfl, HF.out⟩
end
end Go.Proofs.YtkopbngnhgdfhaaDoor

/-
  nfas.Make: what it returns of rules that are none; of any.
-/
namespace Go.Proofs.YtkopbngnhgdfhaaDoor
open Go.RowKit

section
variable {w : World} {v : Value} {L : List ByteArray}
theorem errs_cases (L : List ByteArray) : errsP L = 0 ∨ errsP L = 3 ∨ errsP L = 10 := by
  induction L with
  | nil => exact .inl rfl
  | cons s l ih =>
    rw [errsP]
    split
    · exact ih
    · rcases parse_cases s with ⟨h, _⟩ | ⟨h, _⟩
      · exact .inl h
      · exact .inr h
set_option maxRecDepth 4000 in
set_option maxHeartbeats 4000000 in
theorem nmake_err (h : StrsW w v L) (he : ErrW w) (hE : makeE L ≠ 0) :
    Calls Tryd.prog 14 #[v] w fun e w' => e = .returned (.tuple #[.pointer none, .int .i64 (makeE L)]) ∧ Below w.heap.size w w' := by
  obtain ⟨vo, vc, rfl, hvc⟩ := h.form
  unfold makeE at hE ⊢
  by_cases h0 : L.length = 0
  · rw [if_pos (.inl h0)]
    rw [h0] at hvc ⊢
    clear h he hE h0
    go_enter Tryd.func14, Tryd.ntmps14
    go_wp2_with fail
    go_ret2
    exact ⟨rfl, Below.refl _ _⟩
  by_cases h64 : 64 < L.length
  · rw [if_pos (.inr h64)]
    obtain ⟨m, hm⟩ : ∃ m, L.length = m := ⟨_, rfl⟩
    rw [hm] at hvc h0 h64 ⊢
    have hz1 : ((m : Int) == 0) = false := beq_eq_false_iff_ne.2 (by omega)
    have h64i : (m : Int) > 64 := by omega
    clear h he hE h0 hm
    go_enter Tryd.func14, Tryd.ntmps14
    go_wp2_with fail
    go_ret2
    exact ⟨rfl, Below.refl _ _⟩
  rw [if_neg (by omega)] at hE ⊢
  have HP := Lib.hid (nparsed_any h he (by omega))
  have hpc := errs_cases L
  have hall := errs_all L
  obtain ⟨er, her⟩ : ∃ er, errsP L = er := ⟨_, rfl⟩
  rw [her] at hE HP hpc hall ⊢
  by_cases h1 : er = 0
  · subst h1
    rw [if_neg (fun h => h rfl)] at hE ⊢
    have hs : 2000 < sizeP L := by
      refine Nat.lt_of_not_le fun hle => ?_
      rw [if_neg (by omega)] at hE
      exact hE rfl
    rw [if_pos hs]
    have HS := Lib.hid (fun (W : World) (hb : Below w.heap.size w W) => nsize_any (h.below hb) (by omega) (fun s hs => Nat.le_trans ((parse_ok s).2.2.2 (hall rfl s hs)).1 (by omega)))
    obtain ⟨m, hm⟩ : ∃ m, L.length = m := ⟨_, rfl⟩
    rw [hm] at hvc h0 h64 HP HS ⊢
    obtain ⟨sz, hsz⟩ : ∃ sz, sizeP L = sz := ⟨_, rfl⟩
    rw [hsz] at HS hs
    have hsi : (sz : Int) > 2000 := by omega
    have hz1 : ((m : Int) == 0) = false := beq_eq_false_iff_ne.2 (by omega)
    have hm64' : ¬ (m : Int) > 64 := by omega
    clear h he hall hm hsz hE h0 her hpc h64 hs
    go_enter Tryd.func14, Tryd.ntmps14
    go_wp2_with fail
    go_fit HP.out
    rintro e w1 ⟨⟨r, rfl, hks⟩, hb1⟩
    have HB1 := Lib.hid hb1
    clear hks hb1 HP
    go_wp2_with fail
    go_fit (HS.out _ HB1.out)
    rintro e w2 ⟨rfl, rfl⟩
    go_wp2_with fail
    go_ret2
    exact ⟨rfl, HB1.out⟩
  · rw [if_pos h1]
    have heb : (er == 0) = false := beq_eq_false_iff_ne.2 h1
    obtain ⟨m, hm⟩ : ∃ m, L.length = m := ⟨_, rfl⟩
    rw [hm] at hvc h0 h64 HP ⊢
    have hz1 : ((m : Int) == 0) = false := beq_eq_false_iff_ne.2 (by omega)
    have hm64' : ¬ (m : Int) > 64 := by omega
    clear h he hall hm hE h0 her hpc h64 h1
    go_enter Tryd.func14, Tryd.ntmps14
    go_wp2_with fail
    go_fit HP.out
    rintro e w1 ⟨⟨r, rfl, hks⟩, hb1⟩
    have HB1 := Lib.hid hb1
    clear hks hb1 HP
    go_wp2_with fail
    go_ret2
    exact ⟨rfl, HB1.out⟩
theorem makeE_range (L : List ByteArray) : 0 ≤ makeE L ∧ makeE L ≤ 100 := by
  have := errs_cases L
  unfold makeE
  split
  · omega
  split
  · omega
  split <;> omega
/-- What Make comes to, of any rules. -/
theorem nmake_any (h : StrsW w v L) (he : ErrW w) :
    Calls Tryd.prog 14 #[v] w fun e w' => ∃ p, e = .returned (.tuple #[.pointer p, .int .i64 (makeE L)]) ∧ (makeE L = 0 → (p ≠ none) ∧ NfaR w' (.pointer p) (quE L) (fiE L)) ∧ (makeE L ≠ 0 → p = none) ∧ Below w.heap.size w w' := by
  by_cases hE : makeE L = 0
  · refine (nmake_ok h he hE).mono ?_
    rintro e w' ⟨r, rfl, hr, hb⟩
    obtain ⟨B, _, _, _, _, rfl, _⟩ := hr.form
    exact ⟨_, by rw [hE], fun _ => ⟨by simp, hr⟩, fun h => absurd hE h, hb⟩
  · refine (nmake_err h he hE).mono ?_
    rintro e w' ⟨rfl, hb⟩
    exact ⟨none, rfl, fun h => absurd h hE, fun _ => rfl, hb⟩
end
end Go.Proofs.YtkopbngnhgdfhaaDoor

/-
  limnerlaw11: takes, Great and the chapter's rules, that every law asks.
-/
namespace Go.Proofs.YtkopbngnhgdfhaaDoor
open Go.RowKit

/-! ### The chapter's rules -/
def ba (l : List UInt8) : ByteArray := ⟨l.toArray⟩
def exL : List ByteArray := [⟨#[97, 42]⟩, ⟨#[97, 98]⟩, ⟨#[98]⟩]
def exM : List ByteArray := [⟨#[97]⟩, ⟨#[40]⟩]
theorem ex_make : makeE exL = 0 := by kernel_rfl
theorem ex_nil : makeE [] = 2 := by kernel_rfl
theorem ex_form : makeE exM = 10 := by kernel_rfl
theorem ex_1 : matchA (quE exL) (fiE exL) ⟨#[97, 97, 98]⟩ 0 = (2, 0) := by kernel_rfl
theorem ex_2 : matchA (quE exL) (fiE exL) ⟨#[97, 98]⟩ 0 = (2, 1) := by kernel_rfl
theorem ex_3 : matchA (quE exL) (fiE exL) ⟨#[97, 97, 98]⟩ 2 = (1, 2) := by kernel_rfl
theorem ex_4 : matchA (quE exL) (fiE exL) ⟨#[99]⟩ 0 = (0, 0) := by kernel_rfl
theorem ex_5 : matchA (quE exL) (fiE exL) ⟨#[99]⟩ 2 = (0, -1) := by kernel_rfl

section
variable {w : World} {v : Value} {q : List Sta} {first : List Int} {L : List ByteArray}
theorem takes_any (h : NfaM w v q first) (hq : ∀ (i : Nat) (s : Sta), q[i]? = some s → StOk q.length s) (hi : InQ q first) (s : ByteArray) (hs : s.size ≤ 1000) (a x y : Int) :
    Calls Tryd.prog 23 #[v, .string s, .int .i64 a, .int .i64 x, .int .i64 y] w fun e w' => e = .returned (.bool (decide ((matchA q first s a).1 = x) && decide ((matchA q first s a).2 = y))) ∧ Below w.heap.size w w' := by
  have HM := Lib.hid (nmatch_any h hq hi s hs a)
  obtain ⟨m, hm⟩ : ∃ m, matchA q first s a = m := ⟨_, rfl⟩
  rw [hm] at HM ⊢
  obtain ⟨m1, m2⟩ := m
  clear h hq hi hs hm
  go_enter Tryd.func23, Tryd.ntmps23
  go_wp2_with fail
  go_fit HM.out
  rintro e w1 ⟨rfl, hb⟩
  have HB := Lib.hid hb
  clear hb
  by_cases h1 : m1 = x
  · have k1 : (m1 == x) = true := by rw [h1]; exact beq_self_eq_true _
    by_cases h2 : m2 = y
    · have k2 : (m2 == y) = true := by rw [h2]; exact beq_self_eq_true _
      go_wp2_with fail
      go_ret
      exact ⟨by simp [h1, h2], HB.out⟩
    · have k2 : (m2 == y) = false := beq_eq_false_iff_ne.2 h2
      go_wp2_with fail
      go_ret
      exact ⟨by simp [h1, h2], HB.out⟩
  · have k1 : (m1 == x) = false := beq_eq_false_iff_ne.2 h1
    go_wp2_with fail
    go_ret
    exact ⟨by simp [h1], HB.out⟩

/-! ### Are rules more than is gone through? -/
def greatB (L : List ByteArray) : Bool := decide (8 < L.length) || L.any fun s => decide (60 < s.size)
theorem great_false (h : greatB L = false) : L.length ≤ 8 ∧ ∀ s, s ∈ L → s.size ≤ 60 := by
  unfold greatB at h
  rw [Bool.or_eq_false_iff, decide_eq_false_iff_not, List.any_eq_false] at h
  exact ⟨by omega, fun s hs => by have := h.2 s hs; simp at this; omega⟩
theorem great_some (h : 8 < L.length) : greatB L = true := by unfold greatB; rw [decide_eq_true h]; rfl
theorem great_long {s : ByteArray} (h : s ∈ L) (hs : 60 < s.size) : greatB L = true := by
  unfold greatB
  rw [List.any_eq_true.2 ⟨s, h, decide_eq_true hs⟩, Bool.or_true]
theorem great_not (h : L.length ≤ 8) (ha : ∀ s, s ∈ L → s.size ≤ 60) : greatB L = false := by
  unfold greatB
  rw [Bool.or_eq_false_iff, decide_eq_false_iff_not, List.any_eq_false]
  exact ⟨by omega, fun s hs => by have := ha s hs; simp; omega⟩
set_option maxHeartbeats 2000000 in
theorem great_any (h : StrsW w v L) :
    Calls Tryd.prog 16 #[v] w fun e w' => e = .returned (.bool (greatB L)) ∧ w' = w := by
  obtain ⟨vo, vc, rfl, hvc⟩ := h.form
  have HG := Lib.hid (great_some (L := L))
  have HG2 : Hid (∀ s : ByteArray, s ∈ L → 60 < s.size → greatB L = true) := Lib.hid (fun s h1 h2 => great_long h1 h2)
  have HG3 := Lib.hid (great_not (L := L))
  have HV := Lib.hid h
  obtain ⟨m, hm⟩ : ∃ m, L.length = m := ⟨_, rfl⟩
  have HM := Lib.hid hm
  rw [hm] at hvc HV HG HG3 ⊢
  clear h hm
  obtain ⟨gb, hgb⟩ : ∃ b, greatB L = b := ⟨_, rfl⟩
  rw [hgb] at HG HG2 HG3 ⊢
  clear hgb
  by_cases hm8 : 8 < m
  · have hmi : (m : Int) > 8 := by omega
    have hg := HG.out hm8
    subst hg
    clear HG HG2 HG3 hm8
    go_enter Tryd.func16, Tryd.ntmps16
    go_wp2_with fail
    go_ret
    exact ⟨rfl, rfl⟩
  have hmi : ¬ (m : Int) > 8 := by omega
  clear HG
  go_enter Tryd.func16, Tryd.ntmps16
  go_wp2_with fail
  go_loop [3] (fun s3 => ∃ (i : Nat), s3 = .int .i64 (i : Int) ∧ i ≤ m ∧ Hid (∀ s, s ∈ L.take i → s.size ≤ 60)) (fun s3 => m - (intOf s3).toNat)
  case atStart => exact ⟨0, rfl, Nat.zero_le _, Lib.hid (fun s hs => by simp at hs)⟩
  case round =>
    obtain ⟨i, rfl, hi, HZ⟩ := hrel
    have i0 : (0 : Int) ≤ (i : Int) := by omega
    have ib : (i : Int) ≤ 8 := by omega
    by_cases hlt : i < m
    · have hli : (i : Int) < (m : Int) := by omega
      have hla : i < L.length := by have := HM.out; omega
      obtain ⟨s, hs⟩ : ∃ s, L[i] = s := ⟨_, rfl⟩
      have hil : L[i]? = some s := by rw [List.getElem?_eq_getElem hla, hs]
      obtain ⟨g, o, c, hve, hc⟩ := HV.out.get hil
      injection hve with e1 e2 e3
      subst e1
      clear e2 e3
      by_cases hs60 : 60 < s.size
      · have hs6 : (s.size : Int) > 60 := by omega
        have hg := HG2.out _ (List.mem_of_getElem? hil) hs60
        subst hg
        clear HG2 HG3 hla hs hil hs60
        go_wp2_with fail
        go_ret
        exact ⟨rfl, rfl⟩
      · have hs6 : ¬ (s.size : Int) > 60 := by omega
        have HZ2 : Hid (∀ s, s ∈ L.take (i + 1) → s.size ≤ 60) := Lib.hid (fun t ht => by
          rw [List.take_add_one, hil, List.mem_append] at ht
          rcases ht with ht | ht
          · exact HZ.out t ht
          · simp at ht
            rw [ht]
            omega)
        clear hla hs hil hs60 HG2 HG3
        go_wp2_with fail
        go_round
        case rel => exact ⟨i + 1, by go_num, hlt, HZ2⟩
        case measure => simp [intOf] <;> omega
    · have hli : ¬ (i : Int) < (m : Int) := by omega
      have hg := HG3.out (by omega) (fun s hs => HZ.out s (by rw [List.take_of_length_le (by have := HM.out; omega)]; exact hs))
      subst hg
      clear HG2 HG3
      go_wp2_with fail
      go_ret
      exact ⟨rfl, rfl⟩
theorem cell_of_al {W : World} {r : Array Value} {t : TypeId} (i : Nat) (x : Value) (h : r[i]? = some x) : (W.alloc (.cells r t)).cell? ⟨W.heap.size, i, none⟩ = some x := by
  rw [cell_of_row _ _ i _ _ (0, 0) (heap_alloc_new _ _)]; exact h
theorem strsW_of (W : World) (X : Nat) (L : List ByteArray) (h : ∀ (i : Nat) x, L[i]? = some x → W.cell? ⟨X, i, none⟩ = some (.string x)) : StrsW W (.slice (some ⟨X, 0, none⟩) L.length L.length) L :=
  ⟨_, _, rfl, Nat.le_refl _, fun i x hx => ⟨X, 0, rfl, by rw [Nat.zero_add]; exact h i x hx⟩⟩
theorem hit {a b : Int × Int} (h : a = b) : (decide (a.1 = b.1) && decide (a.2 = b.2)) = true := by subst h; simp
set_option maxRecDepth 4000 in
set_option maxHeartbeats 4000000 in
theorem matched_any (he : ErrW w) :
    Calls Tryd.prog 13 #[] w fun e w' => e = .returned (.bool true) ∧ Below w.heap.size w w' := by
  have HK := Lib.hid (fun (W : World) (hb : Below w.heap.size w W) (L : List ByteArray) (u : Value) (h : StrsW W u L) => nmake_any h (he.below hb))
  have HT := Lib.hid (fun (W : World) (u : Value) (h : NfaR W u (quE exL) (fiE exL)) (s : ByteArray) (hs : s.size ≤ 1000) (a x y : Int) (hm : matchA (quE exL) (fiE exL) s a = (x, y)) => ((takes_any (.inr h) (make_good ex_make).1.ok (make_good ex_make).1.in_ s hs a x y).mono fun e w' h2 => (⟨by rw [h2.1, hm]; simp, h2.2⟩ : e = .returned (.bool true) ∧ Below W.heap.size W w')))
  clear he
  go_enter Tryd.func13, Tryd.ntmps13
  go_wp2_with fail
  have hb1 := alloc_under w (.cells #[.string ⟨#[97, 42]⟩, .string ⟨#[97, 98]⟩, .string ⟨#[98]⟩] 9)
  go_fit (HK.out _ hb1 exL _ (strsW_of _ _ exL (fun i x hx => cell_of_al i _ (by
    have h3 : i < 3 := (List.getElem?_eq_some_iff.1 hx).1
    rcases i with _ | _ | _ | i
    · cases hx; rfl
    · cases hx; rfl
    · cases hx; rfl
    · omega))))
  rintro e w1 ⟨p, rfl, hp, _, hb2⟩
  rw [ex_make]
  have H1 := Lib.hid (And.intro (hp ex_make) (hb1.trans (hb2.mono hb1.size)))
  clear hb1 hb2 hp
  go_wp2_with fail
  go_fit (HK.out _ H1.out.2 [] _ (StrsW.nil _))
  rintro e w2 ⟨p2, rfl, _, _, hb2⟩
  rw [ex_nil]
  have H2 := Lib.hid (And.intro (H1.out.1.2.below hb2) (H1.out.2.trans (hb2.mono H1.out.2.size)))
  clear hb2 H1
  go_wp2_with fail
  have hb3 := H2.out.2.trans ((alloc_under w2 (.cells #[.string ⟨#[97]⟩, .string ⟨#[40]⟩] 9)).mono H2.out.2.size)
  have hn3 := H2.out.1.below (alloc_under w2 (.cells #[.string ⟨#[97]⟩, .string ⟨#[40]⟩] 9))
  go_fit (HK.out _ hb3 exM _ (strsW_of _ _ exM (fun i x hx => cell_of_al i _ (by
    have h3 : i < 2 := (List.getElem?_eq_some_iff.1 hx).1
    rcases i with _ | _ | i
    · cases hx; rfl
    · cases hx; rfl
    · omega))))
  rintro e w3 ⟨p3, rfl, _, _, hb4⟩
  rw [ex_form]
  have H3 := Lib.hid (And.intro (hn3.below hb4) (hb3.trans (hb4.mono hb3.size)))
  clear hb3 hn3 hb4 H2 HK
  go_wp2_with fail
  go_fit (HT.out _ _ H3.out.1 _ (by decide) _ _ _ ex_1)
  rintro e w4 ⟨rfl, hb⟩
  have H4 := Lib.hid (And.intro (H3.out.1.below hb) (H3.out.2.trans (hb.mono H3.out.2.size)))
  clear hb H3
  go_wp2_with fail
  go_fit (HT.out _ _ H4.out.1 _ (by decide) _ _ _ ex_2)
  rintro e w5 ⟨rfl, hb⟩
  have H5 := Lib.hid (And.intro (H4.out.1.below hb) (H4.out.2.trans (hb.mono H4.out.2.size)))
  clear hb H4
  go_wp2_with fail
  go_fit (HT.out _ _ H5.out.1 _ (by decide) _ _ _ ex_3)
  rintro e w6 ⟨rfl, hb⟩
  have H6 := Lib.hid (And.intro (H5.out.1.below hb) (H5.out.2.trans (hb.mono H5.out.2.size)))
  clear hb H5
  go_wp2_with fail
  go_fit (HT.out _ _ H6.out.1 _ (by decide) _ _ _ ex_4)
  rintro e w7 ⟨rfl, hb⟩
  have H7 := Lib.hid (And.intro (H6.out.1.below hb) (H6.out.2.trans (hb.mono H6.out.2.size)))
  clear hb H6
  go_wp2_with fail
  go_fit (HT.out _ _ H7.out.1 _ (by decide) _ _ _ ex_5)
  rintro e w8 ⟨rfl, hb⟩
  have H8 := Lib.hid (H7.out.2.trans (hb.mono H7.out.2.size))
  clear hb H7
  go_wp2_with fail
  go_ret
  exact ⟨rfl, H8.out⟩
end
end Go.Proofs.YtkopbngnhgdfhaaDoor
