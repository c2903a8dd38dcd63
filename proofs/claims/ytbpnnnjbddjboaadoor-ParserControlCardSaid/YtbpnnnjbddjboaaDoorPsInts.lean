/-
  limnerlaw01.Ints at any two rows of numbers; limnerlaw07.like at any two actions: what each call returns.
-/
import Derived.Test.YtbpnnnjbddjboaaDoorPsApp
import Derived.Deep.DeepFit
namespace Go.Proofs.YtbpnnnjbddjboaaDoor
open Go.RowKit

theorem take_eq_step {l m : List Nat} {k : Nat} (h : l.take k = m.take k) (hl : k < l.length) (hm : k < m.length) (he : l.getD k 0 = m.getD k 0) : l.take (k + 1) = m.take (k + 1) := by
  rw [List.take_succ_eq_append_getElem hl, List.take_succ_eq_append_getElem hm, h]
  simp [List.getD, List.getElem?_eq_getElem hl, List.getElem?_eq_getElem hm] at he
  rw [he]

set_option maxHeartbeats 1000000 in
theorem pints_part (A B : Option Addr) (ca cb : Nat) (n m : Nat) (w : World) (h : n ≠ m) :
    Calls Tryd.prog 25 #[.slice A n ca, .slice B m cb] w fun e w' => e = .returned (.bool false) ∧ w' = w := by
  have h1 : ((n : Int) != (m : Int)) = true := by rw [bne_iff_ne]; omega
  have h2 : ((n : Int) == (m : Int)) = false := by rw [beq_eq_false_iff_ne]; omega
  go_enter Tryd.func25, Tryd.ntmps25
  go_wp2
  go_ret
  exact ⟨rfl, rfl⟩

set_option maxHeartbeats 1000000 in
theorem pints_empty (A B : Option Addr) (ca cb : Nat) (w : World) :
    Calls Tryd.prog 25 #[.slice A 0 ca, .slice B 0 cb] w fun e w' => e = .returned (.bool true) ∧ w' = w := by
  go_enter Tryd.func25, Tryd.ntmps25
  go_wp2
  go_loop [5] (fun i => i = .int .i64 0) (fun _ => 0)
  case atStart => exact rfl
  case round =>
    subst hrel
    go_wp2
    go_ret
    exact ⟨rfl, rfl⟩

set_option maxHeartbeats 2000000 in
theorem pints_same (ga oa gb ob ca cb n : Nat) (xs ys : List Nat) (w : World) (hn : n ≤ 1000000) (hx : xs.length = n) (hy : ys.length = n)
    (hca : ∀ k, k < n → w.cell? ⟨ga, oa + k, none⟩ = some (.int .i64 ((xs.getD k 0 : Nat) : Int))) (hcb : ∀ k, k < n → w.cell? ⟨gb, ob + k, none⟩ = some (.int .i64 ((ys.getD k 0 : Nat) : Int))) :
    Calls Tryd.prog 25 #[.slice (some ⟨ga, oa, none⟩) n ca, .slice (some ⟨gb, ob, none⟩) n cb] w fun e w' => e = .returned (.bool (decide (xs = ys))) ∧ ∃ q, w' = w.drewN q := by
  have HX := Lib.hid hx
  have HY := Lib.hid hy
  have HCA := Lib.hid hca
  have HCB := Lib.hid hcb
  clear hx hy hca hcb
  go_enter Tryd.func25, Tryd.ntmps25
  go_wp2
  go_loopw [5] (fun i wr => ∃ (k q : Nat), wr = w.drewN q ∧ i = .int .i64 (k : Int) ∧ k ≤ n ∧ Hid (xs.take k = ys.take k)) (fun i _ => n - (intOf i).toNat)
  case atStart => exact ⟨0, 0, rfl, rfl, Nat.zero_le _, rfl⟩
  case round =>
    obtain ⟨k, q, rfl, rfl, hk, HT⟩ := hrel
    by_cases hlt : k < n
    · have c1 : w.cell? ⟨ga, oa + k, none⟩ = some (.int .i64 ((xs.getD k 0 : Nat) : Int)) := HCA.out k hlt
      have c2 : w.cell? ⟨gb, ob + k, none⟩ = some (.int .i64 ((ys.getD k 0 : Nat) : Int)) := HCB.out k hlt
      have HST := fun he => take_eq_step HT.out (by rw [HX.out]; exact hlt) (by rw [HY.out]; exact hlt) he
      have HNE : xs.getD k 0 ≠ ys.getD k 0 → xs ≠ ys := fun h e => h (by rw [e])
      obtain ⟨x, hx⟩ : ∃ x, xs.getD k 0 = x := ⟨_, rfl⟩
      obtain ⟨y, hy⟩ : ∃ y, ys.getD k 0 = y := ⟨_, rfl⟩
      rw [hx] at c1 HST HNE
      rw [hy] at c2 HST HNE
      clear hx hy
      by_cases he : x = y
      · subst he
        have HST2 := Lib.hid (HST rfl)
        clear HST HNE
        go_wp2
        go_quiet (fail)
        go_wp2
        go_roundw
        case rel => exact ⟨k + 1, _, rfl, by go_num, by omega, HST2⟩
        case measure => simp [intOf]; omega
      · have HF : Hid (decide (xs = ys) = false) := decide_eq_false (HNE he)
        have h1 : ((x : Int) != (y : Int)) = true := by rw [bne_iff_ne]; omega
        have h2 : ((x : Int) == (y : Int)) = false := by rw [beq_eq_false_iff_ne]; omega
        clear HST HNE
        go_wp2
        go_quiet (fail)
        go_wp2
        go_ret
        exact ⟨by rw [HF.out]; rfl, q + nq, by simp⟩
    · obtain rfl : k = n := by omega
      have HF : Hid (decide (xs = ys) = true) := by
        have := HT.out
        rw [List.take_of_length_le (by rw [HX.out]; exact Nat.le_refl _), List.take_of_length_le (by rw [HY.out]; exact Nat.le_refl _)] at this
        exact decide_eq_true this
      go_wp2
      go_ret
      exact ⟨by rw [HF.out]; rfl, _, rfl⟩

theorem nums_form {ok : Nat → Prop} {w : World} {v : Value} {xs : List Nat} (h : NumsW ok w v xs) :
    ∃ A ca, v = .slice A xs.length ca ∧ (xs.length = 0 ∨ ∃ g o, A = some ⟨g, o, none⟩ ∧ ∀ k, k < xs.length → w.cell? ⟨g, o + k, none⟩ = some (.int .i64 ((xs.getD k 0 : Nat) : Int))) := by
  obtain ⟨ao, cap, rfl, hn, _, hc⟩ := h.1
  refine ⟨ao, cap, rfl, ?_⟩
  by_cases h0 : xs.length = 0
  · exact .inl h0
  · obtain ⟨g, o, rfl, _⟩ := hc 0 _ (ints_getD xs 0 (by omega))
    refine .inr ⟨g, o, rfl, fun k hk => ?_⟩
    obtain ⟨g2, o2, e, hh⟩ := hc k _ (ints_getD xs k hk)
    cases e
    exact hh

theorem pints_any {ok ok' : Nat → Prop} (va vb : Value) (xs ys : List Nat) (w : World) (ha : NumsW ok w va xs) (hb : NumsW ok' w vb ys) (hx : xs.length ≤ 1000000) :
    Calls Tryd.prog 25 #[va, vb] w fun e w' => e = .returned (.bool (decide (xs = ys))) ∧ Below w.heap.size w w' := by
  obtain ⟨A, ca, rfl, hA⟩ := nums_form ha
  obtain ⟨B, cb, rfl, hB⟩ := nums_form hb
  by_cases hl : xs.length = ys.length
  · by_cases h0 : xs.length = 0
    · rw [← hl, h0]
      refine (pints_empty A B ca cb w).mono fun e w' h => ⟨?_, ?_⟩
      · have e1 : xs = [] := List.length_eq_zero_iff.1 h0
        have e2 : ys = [] := List.length_eq_zero_iff.1 (hl.symm.trans h0)
        rw [h.1, e1, e2]; rfl
      · rw [h.2]; exact Below.refl _ _
    · rcases hA with h | ⟨ga, oa, rfl, hca⟩
      · exact absurd h h0
      rcases hB with h | ⟨gb, ob, rfl, hcb⟩
      · omega
      rw [← hl] at hcb ⊢
      refine (pints_same ga oa gb ob ca cb xs.length xs ys w hx rfl hl.symm hca hcb).mono fun e w' h => ⟨h.1, ?_⟩
      obtain ⟨q, rfl⟩ := h.2
      exact below_drewN (Below.refl _ _) q
  · refine (pints_part A B ca cb xs.length ys.length w hl).mono fun e w' h => ⟨?_, ?_⟩
    · rw [h.1, decide_eq_false (fun e => hl (by rw [e]))]
    · rw [h.2]; exact Below.refl _ _

theorem ac_eq (a c : Ac) : decide (a = c) = (decide (a.1 = c.1) && decide (a.2.1 = c.2.1) && decide (a.2.2.2 = c.2.2.2) && decide (a.2.2.1 = c.2.2.1)) := by
  obtain ⟨a1, a2, a3, a4⟩ := a
  obtain ⟨c1, c2, c3, c4⟩ := c
  by_cases h1 : a1 = c1 <;> by_cases h2 : a2 = c2 <;> by_cases h3 : a3 = c3 <;> by_cases h4 : a4 = c4 <;> simp [h1, h2, h3, h4]

set_option maxHeartbeats 4000000 in
theorem like_any {ok ok' : Nat → Prop} (a c : Ac) (va vc : Value) (w : World) (ha : NumsW ok w va a.2.2.1) (hc : NumsW ok' w vc c.2.2.1) (hx : a.2.2.1.length ≤ 1000000) :
    Calls Tryd.prog 11 #[.agg #[.int .i64 (a.1 : Int), .int .i32 (a.2.1 : Int), va, .int .u8 (a.2.2.2 : Int)], .agg #[.int .i64 (c.1 : Int), .int .i32 (c.2.1 : Int), vc, .int .u8 (c.2.2.2 : Int)]] w fun e w' => e = .returned (.bool (decide (a = c))) ∧ Below w.heap.size w w' := by
  have HI : Hid (∀ W, Below w.heap.size w W → Calls Tryd.prog 25 #[va, vc] W fun e w' => e = .returned (.bool (decide (a.2.2.1 = c.2.2.1))) ∧ Below W.heap.size W w') := fun W hW => pints_any va vc _ _ W (ha.keep (keep_below _ hW)) (hc.keep (keep_below _ hW)) hx
  obtain ⟨A, ca, rfl, _⟩ := nums_form ha
  obtain ⟨B, cb, rfl, _⟩ := nums_form hc
  rw [ac_eq]
  obtain ⟨k1, r1, p1, f1⟩ := a
  obtain ⟨k2, r2, p2, f2⟩ := c
  dsimp only at HI ⊢
  clear ha hc hx
  obtain ⟨n1, hn1⟩ : ∃ n, p1.length = n := ⟨_, rfl⟩
  obtain ⟨n2, hn2⟩ : ∃ n, p2.length = n := ⟨_, rfl⟩
  rw [hn1, hn2] at HI ⊢
  obtain ⟨z, hz⟩ : ∃ z, decide (p1 = p2) = z := ⟨_, rfl⟩
  rw [hz] at HI ⊢
  have HB : Hid (Below w.heap.size w ((w.alloc (.cells #[.int .i64 (k1 : Int), .int .i32 (r1 : Int), .slice A n1 ca, .int .u8 (f1 : Int)] 34)).alloc (.cells #[.int .i64 (k2 : Int), .int .i32 (r2 : Int), .slice B n2 cb, .int .u8 (f2 : Int)] 35))) := ((Below.refl _ w).alloc (Nat.le_refl _) _).alloc (by simp) _
  clear hn1 hn2 hz
  by_cases h1 : k1 = k2
  · have i1 : ((k1 : Int) == (k2 : Int)) = true := by rw [h1]; exact beq_self_eq_true _
    by_cases h2 : r1 = r2
    · have i2 : ((r1 : Int) == (r2 : Int)) = true := by rw [h2]; exact beq_self_eq_true _
      by_cases h3 : f1 = f2
      · have i3 : ((f1 : Int) == (f2 : Int)) = true := by rw [h3]; exact beq_self_eq_true _
        have HR : Hid ((decide (k1 = k2) && decide (r1 = r2) && decide (f1 = f2) && z) = z) := by show _ = _; simp [h1, h2, h3]
        rw [HR.out]
        clear h1 h2 h3 HR
        go_enter Tryd.func11, Tryd.ntmps11
        go_wp2_with fail
        go_fit (HI.out _ HB.out)
        rintro e w2 ⟨rfl, hb2⟩
        go_wp2_with fail
        go_ret
        exact ⟨by cases z <;> rfl, HB.out.trans (hb2.mono HB.out.size)⟩
      · have i3 : ((f1 : Int) == (f2 : Int)) = false := beq_false_of_ne (by omega)
        have HR : Hid ((decide (k1 = k2) && decide (r1 = r2) && decide (f1 = f2) && z) = false) := by show _ = _; simp [h3]
        rw [HR.out]
        clear h1 h2 h3 HR HI
        go_enter Tryd.func11, Tryd.ntmps11
        go_wp2_with fail
        go_ret
        exact ⟨rfl, HB.out⟩
    · have i2 : ((r1 : Int) == (r2 : Int)) = false := beq_false_of_ne (by omega)
      have HR : Hid ((decide (k1 = k2) && decide (r1 = r2) && decide (f1 = f2) && z) = false) := by show _ = _; simp [h2]
      rw [HR.out]
      clear h1 h2 HR HI
      go_enter Tryd.func11, Tryd.ntmps11
      go_wp2_with fail
      go_ret
      exact ⟨rfl, HB.out⟩
  · have i1 : ((k1 : Int) == (k2 : Int)) = false := beq_false_of_ne (by omega)
    have HR : Hid ((decide (k1 = k2) && decide (r1 = r2) && decide (f1 = f2) && z) = false) := by show _ = _; simp [h1]
    rw [HR.out]
    clear h1 HR HI
    go_enter Tryd.func11, Tryd.ntmps11
    go_wp2_with fail
    go_ret
    exact ⟨rfl, HB.out⟩
end Go.Proofs.YtbpnnnjbddjboaaDoor
