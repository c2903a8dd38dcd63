/-
  regs.kidsOf, fits, alike: what each returns.
-/
import Derived.Test.YtkopbngnhgdfhaaDoorBe19
import Derived.Test.YtkopbngnhgdfhaaDoorBe10
namespace Go.Proofs.YtkopbngnhgdfhaaDoor
open Go.RowKit

/-- Where a slice's elements lie; all without any are one. -/
def kpK : Value → Kp
  | .slice ao n _ => if n = 0 then (none, 0) else (ao, n)
  | _ => (none, 0)
theorem drewN_below (w : World) : ∀ m, Below w.heap.size w (w.drewN m)
  | 0 => Below.refl _ _
  | m + 1 => (drewN_below w m).drew
set_option maxHeartbeats 2000000 in
theorem pkidsOf_any {ok : Nat → Prop} (n : Nd) (u : Value) (w : World) (hu : KidsW ok w n.kids u) :
    Calls Tryd.prog 27 #[nodeV n u] w fun e w' => e = .returned (kpV (kpK u)) ∧ Below w.heap.size w w' := by
  obtain ⟨ao, c, rfl, hc, hb⟩ := hu.form
  have HB : Hid (∀ o p, Below w.heap.size w ((w.alloc o).alloc p)) := fun o p => ((Below.refl _ w).alloc (Nat.le_refl _) o).alloc (by rw [alloc_size]; omega) p
  have HBD : Hid (∀ o p m, Below w.heap.size w (((w.alloc o).alloc p).drewN m)) := fun o p m => (HB.out o p).trans ((drewN_below _ m).mono (by rw [alloc_size, alloc_size]; omega))
  unfold nodeV
  by_cases h0 : n.kids.length = 0
  · have HK : Hid (kpK (.slice ao n.kids.length c) = (none, 0)) := (if_pos h0 : kpK (.slice ao n.kids.length c) = (none, 0))
    have b0 : ((n.kids.length : Int) == 0) = true := beq_iff_eq.2 (by omega)
    obtain ⟨m, hm⟩ : ∃ m, n.kids.length = m := ⟨_, rfl⟩
    rw [hm] at HK b0 hc hb ⊢
    clear hm h0 hu
    go_enter Tryd.func27, Tryd.ntmps27
    go_wp2_with fail
    exact bodyPost_ret (v := .agg #[.pointer none, .int .i64 0]) (by simp [results, Tryd.results27, go_sem]) rfl ⟨by rw [HK.out]; rfl, HB.out _ _⟩
  · have hlen : 0 < n.kids.length := by omega
    obtain ⟨g, o, c1, xa, hua, hc1, hoa, hka, hga⟩ := hu.at_ (i := 0) (n := n.kids[0]) (List.getElem?_eq_getElem hlen)
    injection hua with e1 e2 e3
    subst e1 e3
    clear e2
    have HK : Hid (kpK (.slice (some ⟨g, o, none⟩) n.kids.length c) = (some ⟨g, o, none⟩, n.kids.length)) := (if_neg h0 : kpK (.slice (some ⟨g, o, none⟩) n.kids.length c) = (some ⟨g, o, none⟩, n.kids.length))
    have b0 : ((n.kids.length : Int) == 0) = false := beq_eq_false_iff_ne.2 (by omega)
    obtain ⟨m, hm⟩ : ∃ m, n.kids.length = m := ⟨_, rfl⟩
    rw [hm] at HK b0 hc hb hlen ⊢
    have hmi : (0 : Int) < (m : Int) := by omega
    clear hm h0 hu hga hka hoa hc1
    go_enter Tryd.func27, Tryd.ntmps27
    go_wp2_with fail
    go_region
    all_goals (go_wp2_with fail; exact bodyPost_ret (v := .agg #[.pointer (some ⟨g, o, none⟩), .int .i64 (m : Int)]) (by simp [results, Tryd.results27, go_sem]) rfl ⟨by rw [HK.out]; rfl, HBD.out _ _ _⟩)
theorem form_zero (k : Int) (s : St4) (n : Nat) (h : k < 0 ∨ 6 < k) : formR k s n = false := by
  unfold formR
  rw [decide_eq_false (by omega)]; rfl
set_option maxHeartbeats 8000000 in
theorem pfits_any {ok : Nat → Prop} (n : Nd) (u : Value) (w : World) (hu : KidsW ok w n.kids u) :
    Calls Tryd.prog 66 #[nodeV n u] w fun e w' => e = .returned (.bool (formR n.kind n.set n.kids.length)) ∧ Below w.heap.size w w' := by
  obtain ⟨ao, c, rfl, hc, hb⟩ := hu.form
  have HB : Hid (∀ o, Below w.heap.size w (w.alloc o)) := fun o => alloc_under w o
  obtain ⟨l, hl⟩ : ∃ l, n.kids.length = l := ⟨_, rfl⟩
  have HEQ := Lib.hid (fun W => set_eqIn n.set noR W)
  unfold setV at HEQ
  simp only [show ((noR.1 : Nat) : Int) = 0 from rfl, show ((noR.2.1 : Nat) : Int) = 0 from rfl, show ((noR.2.2.1 : Nat) : Int) = 0 from rfl, show ((noR.2.2.2 : Nat) : Int) = 0 from rfl] at HEQ
  unfold nodeV
  rw [hl] at hc hb ⊢
  obtain ⟨k, hk⟩ : ∃ k, n.kind = k := ⟨_, rfl⟩
  obtain ⟨s, hs⟩ : ∃ s, n.set = s := ⟨_, rfl⟩
  rw [hk, hs]
  rw [hs] at HEQ
  clear hl hk hs hu
  have hform : ∀ z, decide (s = noR) = z → formR k s l = (decide (0 ≤ k ∧ k ≤ 6) && !(decide (k < 2) && decide (0 < l)) && !(decide (4 ≤ k) && decide (l ≠ 1)) && !((decide (k = 2) || decide (k = 3)) && decide (l < 2)) && (decide (k = 1) || z)) := fun z hz => by rw [← hz]; rfl
  obtain ⟨F, hF⟩ : ∃ F, formR k s l = F := ⟨_, rfl⟩
  rw [hF] at hform ⊢
  clear hF
  rcases hz : decide (s = noR)
  case false =>
    by_cases k0 : k = 0
    · subst k0
      rw [hz] at HEQ
      have heq := HEQ.out
      by_cases hl : l = 0
      · have bl : ((l : Int) == 0) = true := beq_iff_eq.2 (by omega)
        have HR : Hid (F = false) := by
          rw [hform _ hz]
          subst hl; exact rfl
        clear hz hform HEQ hl
        go_enter Tryd.func66, Tryd.ntmps66
        go_wp2_with fail
        go_ret
        exact ⟨by rw [HR.out]; rfl, HB.out _⟩
      · have bl : ((l : Int) == 0) = false := beq_eq_false_iff_ne.2 (by omega)
        have HR : Hid (F = false) := by
          rw [hform _ hz]
          have h1 : decide (0 < l) = true := decide_eq_true (by omega); rw [h1]; exact rfl
        clear hz hform HEQ hl
        go_enter Tryd.func66, Tryd.ntmps66
        go_wp2_with fail
        go_ret
        exact ⟨by rw [HR.out]; rfl, HB.out _⟩
    by_cases k1 : k = 1
    · subst k1
      rw [hz] at HEQ
      have heq := HEQ.out
      by_cases hl : l = 0
      · have bl : ((l : Int) == 0) = true := beq_iff_eq.2 (by omega)
        have HR : Hid (F = true) := by
          rw [hform _ hz]
          subst hl; exact rfl
        clear hz hform HEQ hl
        go_enter Tryd.func66, Tryd.ntmps66
        go_wp2_with fail
        go_ret
        exact ⟨by rw [HR.out]; rfl, HB.out _⟩
      · have bl : ((l : Int) == 0) = false := beq_eq_false_iff_ne.2 (by omega)
        have HR : Hid (F = false) := by
          rw [hform _ hz]
          have h1 : decide (0 < l) = true := decide_eq_true (by omega); rw [h1]; exact rfl
        clear hz hform HEQ hl
        go_enter Tryd.func66, Tryd.ntmps66
        go_wp2_with fail
        go_ret
        exact ⟨by rw [HR.out]; rfl, HB.out _⟩
    by_cases k2 : k = 2
    · subst k2
      rw [hz] at HEQ
      have heq := HEQ.out
      by_cases hl : 2 ≤ l
      · have bl : decide ((l : Int) ≥ 2) = true := decide_eq_true (by omega)
        have HR : Hid (F = false) := by
          rw [hform _ hz]
          have h1 : decide (l < 2) = false := decide_eq_false (by omega); rw [h1]; exact rfl
        clear hz hform HEQ hl
        go_enter Tryd.func66, Tryd.ntmps66
        go_wp2_with fail
        go_ret
        exact ⟨by rw [HR.out]; rfl, HB.out _⟩
      · have bl : decide ((l : Int) ≥ 2) = false := decide_eq_false (by omega)
        have HR : Hid (F = false) := by
          rw [hform _ hz]
          have h1 : decide (l < 2) = true := decide_eq_true (by omega); rw [h1]; exact rfl
        clear hz hform HEQ hl
        go_enter Tryd.func66, Tryd.ntmps66
        go_wp2_with fail
        go_ret
        exact ⟨by rw [HR.out]; rfl, HB.out _⟩
    by_cases k3 : k = 3
    · subst k3
      rw [hz] at HEQ
      have heq := HEQ.out
      by_cases hl : 2 ≤ l
      · have bl : decide ((l : Int) ≥ 2) = true := decide_eq_true (by omega)
        have HR : Hid (F = false) := by
          rw [hform _ hz]
          have h1 : decide (l < 2) = false := decide_eq_false (by omega); rw [h1]; exact rfl
        clear hz hform HEQ hl
        go_enter Tryd.func66, Tryd.ntmps66
        go_wp2_with fail
        go_ret
        exact ⟨by rw [HR.out]; rfl, HB.out _⟩
      · have bl : decide ((l : Int) ≥ 2) = false := decide_eq_false (by omega)
        have HR : Hid (F = false) := by
          rw [hform _ hz]
          have h1 : decide (l < 2) = true := decide_eq_true (by omega); rw [h1]; exact rfl
        clear hz hform HEQ hl
        go_enter Tryd.func66, Tryd.ntmps66
        go_wp2_with fail
        go_ret
        exact ⟨by rw [HR.out]; rfl, HB.out _⟩
    by_cases k4 : k = 4
    · subst k4
      rw [hz] at HEQ
      have heq := HEQ.out
      by_cases hl : l = 1
      · have bl : ((l : Int) == 1) = true := beq_iff_eq.2 (by omega)
        have HR : Hid (F = false) := by
          rw [hform _ hz]
          subst hl; exact rfl
        clear hz hform HEQ hl
        go_enter Tryd.func66, Tryd.ntmps66
        go_wp2_with fail
        go_ret
        exact ⟨by rw [HR.out]; rfl, HB.out _⟩
      · have bl : ((l : Int) == 1) = false := beq_eq_false_iff_ne.2 (by omega)
        have HR : Hid (F = false) := by
          rw [hform _ hz]
          have h1 : decide (l ≠ 1) = true := decide_eq_true hl; rw [h1]; exact rfl
        clear hz hform HEQ hl
        go_enter Tryd.func66, Tryd.ntmps66
        go_wp2_with fail
        go_ret
        exact ⟨by rw [HR.out]; rfl, HB.out _⟩
    by_cases k5 : k = 5
    · subst k5
      rw [hz] at HEQ
      have heq := HEQ.out
      by_cases hl : l = 1
      · have bl : ((l : Int) == 1) = true := beq_iff_eq.2 (by omega)
        have HR : Hid (F = false) := by
          rw [hform _ hz]
          subst hl; exact rfl
        clear hz hform HEQ hl
        go_enter Tryd.func66, Tryd.ntmps66
        go_wp2_with fail
        go_ret
        exact ⟨by rw [HR.out]; rfl, HB.out _⟩
      · have bl : ((l : Int) == 1) = false := beq_eq_false_iff_ne.2 (by omega)
        have HR : Hid (F = false) := by
          rw [hform _ hz]
          have h1 : decide (l ≠ 1) = true := decide_eq_true hl; rw [h1]; exact rfl
        clear hz hform HEQ hl
        go_enter Tryd.func66, Tryd.ntmps66
        go_wp2_with fail
        go_ret
        exact ⟨by rw [HR.out]; rfl, HB.out _⟩
    by_cases k6 : k = 6
    · subst k6
      rw [hz] at HEQ
      have heq := HEQ.out
      by_cases hl : l = 1
      · have bl : ((l : Int) == 1) = true := beq_iff_eq.2 (by omega)
        have HR : Hid (F = false) := by
          rw [hform _ hz]
          subst hl; exact rfl
        clear hz hform HEQ hl
        go_enter Tryd.func66, Tryd.ntmps66
        go_wp2_with fail
        go_ret
        exact ⟨by rw [HR.out]; rfl, HB.out _⟩
      · have bl : ((l : Int) == 1) = false := beq_eq_false_iff_ne.2 (by omega)
        have HR : Hid (F = false) := by
          rw [hform _ hz]
          have h1 : decide (l ≠ 1) = true := decide_eq_true hl; rw [h1]; exact rfl
        clear hz hform HEQ hl
        go_enter Tryd.func66, Tryd.ntmps66
        go_wp2_with fail
        go_ret
        exact ⟨by rw [HR.out]; rfl, HB.out _⟩
    have HR : Hid (F = false) := by rw [hform _ hz, decide_eq_false (show ¬ (0 ≤ k ∧ k ≤ 6) by omega)]; exact rfl
    have q0 : (k == 0) = false := beq_eq_false_iff_ne.2 k0
    have q1 : (k == 1) = false := beq_eq_false_iff_ne.2 k1
    have q2 : (k == 2) = false := beq_eq_false_iff_ne.2 k2
    have q3 : (k == 3) = false := beq_eq_false_iff_ne.2 k3
    have q4 : (k == 4) = false := beq_eq_false_iff_ne.2 k4
    have q5 : (k == 5) = false := beq_eq_false_iff_ne.2 k5
    have q6 : (k == 6) = false := beq_eq_false_iff_ne.2 k6
    rw [hz] at HEQ
    have heq := HEQ.out
    clear hz hform HEQ k0 k1 k2 k3 k4 k5 k6
    go_enter Tryd.func66, Tryd.ntmps66
    go_wp2_with fail
    go_ret
    exact ⟨by rw [HR.out]; rfl, HB.out _⟩
  case true =>
    by_cases k0 : k = 0
    · subst k0
      rw [hz] at HEQ
      have heq := HEQ.out
      by_cases hl : l = 0
      · have bl : ((l : Int) == 0) = true := beq_iff_eq.2 (by omega)
        have HR : Hid (F = true) := by
          rw [hform _ hz]
          subst hl; exact rfl
        clear hz hform HEQ hl
        go_enter Tryd.func66, Tryd.ntmps66
        go_wp2_with fail
        go_ret
        exact ⟨by rw [HR.out]; rfl, HB.out _⟩
      · have bl : ((l : Int) == 0) = false := beq_eq_false_iff_ne.2 (by omega)
        have HR : Hid (F = false) := by
          rw [hform _ hz]
          have h1 : decide (0 < l) = true := decide_eq_true (by omega); rw [h1]; exact rfl
        clear hz hform HEQ hl
        go_enter Tryd.func66, Tryd.ntmps66
        go_wp2_with fail
        go_ret
        exact ⟨by rw [HR.out]; rfl, HB.out _⟩
    by_cases k1 : k = 1
    · subst k1
      rw [hz] at HEQ
      have heq := HEQ.out
      by_cases hl : l = 0
      · have bl : ((l : Int) == 0) = true := beq_iff_eq.2 (by omega)
        have HR : Hid (F = true) := by
          rw [hform _ hz]
          subst hl; exact rfl
        clear hz hform HEQ hl
        go_enter Tryd.func66, Tryd.ntmps66
        go_wp2_with fail
        go_ret
        exact ⟨by rw [HR.out]; rfl, HB.out _⟩
      · have bl : ((l : Int) == 0) = false := beq_eq_false_iff_ne.2 (by omega)
        have HR : Hid (F = false) := by
          rw [hform _ hz]
          have h1 : decide (0 < l) = true := decide_eq_true (by omega); rw [h1]; exact rfl
        clear hz hform HEQ hl
        go_enter Tryd.func66, Tryd.ntmps66
        go_wp2_with fail
        go_ret
        exact ⟨by rw [HR.out]; rfl, HB.out _⟩
    by_cases k2 : k = 2
    · subst k2
      rw [hz] at HEQ
      have heq := HEQ.out
      by_cases hl : 2 ≤ l
      · have bl : decide ((l : Int) ≥ 2) = true := decide_eq_true (by omega)
        have HR : Hid (F = true) := by
          rw [hform _ hz]
          have h1 : decide (l < 2) = false := decide_eq_false (by omega); rw [h1]; exact rfl
        clear hz hform HEQ hl
        go_enter Tryd.func66, Tryd.ntmps66
        go_wp2_with fail
        go_ret
        exact ⟨by rw [HR.out]; rfl, HB.out _⟩
      · have bl : decide ((l : Int) ≥ 2) = false := decide_eq_false (by omega)
        have HR : Hid (F = false) := by
          rw [hform _ hz]
          have h1 : decide (l < 2) = true := decide_eq_true (by omega); rw [h1]; exact rfl
        clear hz hform HEQ hl
        go_enter Tryd.func66, Tryd.ntmps66
        go_wp2_with fail
        go_ret
        exact ⟨by rw [HR.out]; rfl, HB.out _⟩
    by_cases k3 : k = 3
    · subst k3
      rw [hz] at HEQ
      have heq := HEQ.out
      by_cases hl : 2 ≤ l
      · have bl : decide ((l : Int) ≥ 2) = true := decide_eq_true (by omega)
        have HR : Hid (F = true) := by
          rw [hform _ hz]
          have h1 : decide (l < 2) = false := decide_eq_false (by omega); rw [h1]; exact rfl
        clear hz hform HEQ hl
        go_enter Tryd.func66, Tryd.ntmps66
        go_wp2_with fail
        go_ret
        exact ⟨by rw [HR.out]; rfl, HB.out _⟩
      · have bl : decide ((l : Int) ≥ 2) = false := decide_eq_false (by omega)
        have HR : Hid (F = false) := by
          rw [hform _ hz]
          have h1 : decide (l < 2) = true := decide_eq_true (by omega); rw [h1]; exact rfl
        clear hz hform HEQ hl
        go_enter Tryd.func66, Tryd.ntmps66
        go_wp2_with fail
        go_ret
        exact ⟨by rw [HR.out]; rfl, HB.out _⟩
    by_cases k4 : k = 4
    · subst k4
      rw [hz] at HEQ
      have heq := HEQ.out
      by_cases hl : l = 1
      · have bl : ((l : Int) == 1) = true := beq_iff_eq.2 (by omega)
        have HR : Hid (F = true) := by
          rw [hform _ hz]
          subst hl; exact rfl
        clear hz hform HEQ hl
        go_enter Tryd.func66, Tryd.ntmps66
        go_wp2_with fail
        go_ret
        exact ⟨by rw [HR.out]; rfl, HB.out _⟩
      · have bl : ((l : Int) == 1) = false := beq_eq_false_iff_ne.2 (by omega)
        have HR : Hid (F = false) := by
          rw [hform _ hz]
          have h1 : decide (l ≠ 1) = true := decide_eq_true hl; rw [h1]; exact rfl
        clear hz hform HEQ hl
        go_enter Tryd.func66, Tryd.ntmps66
        go_wp2_with fail
        go_ret
        exact ⟨by rw [HR.out]; rfl, HB.out _⟩
    by_cases k5 : k = 5
    · subst k5
      rw [hz] at HEQ
      have heq := HEQ.out
      by_cases hl : l = 1
      · have bl : ((l : Int) == 1) = true := beq_iff_eq.2 (by omega)
        have HR : Hid (F = true) := by
          rw [hform _ hz]
          subst hl; exact rfl
        clear hz hform HEQ hl
        go_enter Tryd.func66, Tryd.ntmps66
        go_wp2_with fail
        go_ret
        exact ⟨by rw [HR.out]; rfl, HB.out _⟩
      · have bl : ((l : Int) == 1) = false := beq_eq_false_iff_ne.2 (by omega)
        have HR : Hid (F = false) := by
          rw [hform _ hz]
          have h1 : decide (l ≠ 1) = true := decide_eq_true hl; rw [h1]; exact rfl
        clear hz hform HEQ hl
        go_enter Tryd.func66, Tryd.ntmps66
        go_wp2_with fail
        go_ret
        exact ⟨by rw [HR.out]; rfl, HB.out _⟩
    by_cases k6 : k = 6
    · subst k6
      rw [hz] at HEQ
      have heq := HEQ.out
      by_cases hl : l = 1
      · have bl : ((l : Int) == 1) = true := beq_iff_eq.2 (by omega)
        have HR : Hid (F = true) := by
          rw [hform _ hz]
          subst hl; exact rfl
        clear hz hform HEQ hl
        go_enter Tryd.func66, Tryd.ntmps66
        go_wp2_with fail
        go_ret
        exact ⟨by rw [HR.out]; rfl, HB.out _⟩
      · have bl : ((l : Int) == 1) = false := beq_eq_false_iff_ne.2 (by omega)
        have HR : Hid (F = false) := by
          rw [hform _ hz]
          have h1 : decide (l ≠ 1) = true := decide_eq_true hl; rw [h1]; exact rfl
        clear hz hform HEQ hl
        go_enter Tryd.func66, Tryd.ntmps66
        go_wp2_with fail
        go_ret
        exact ⟨by rw [HR.out]; rfl, HB.out _⟩
    have HR : Hid (F = false) := by rw [hform _ hz, decide_eq_false (show ¬ (0 ≤ k ∧ k ≤ 6) by omega)]; exact rfl
    have q0 : (k == 0) = false := beq_eq_false_iff_ne.2 k0
    have q1 : (k == 1) = false := beq_eq_false_iff_ne.2 k1
    have q2 : (k == 2) = false := beq_eq_false_iff_ne.2 k2
    have q3 : (k == 3) = false := beq_eq_false_iff_ne.2 k3
    have q4 : (k == 4) = false := beq_eq_false_iff_ne.2 k4
    have q5 : (k == 5) = false := beq_eq_false_iff_ne.2 k5
    have q6 : (k == 6) = false := beq_eq_false_iff_ne.2 k6
    rw [hz] at HEQ
    have heq := HEQ.out
    clear hz hform HEQ k0 k1 k2 k3 k4 k5 k6
    go_enter Tryd.func66, Tryd.ntmps66
    go_wp2_with fail
    go_ret
    exact ⟨by rw [HR.out]; rfl, HB.out _⟩
end Go.Proofs.YtkopbngnhgdfhaaDoor
