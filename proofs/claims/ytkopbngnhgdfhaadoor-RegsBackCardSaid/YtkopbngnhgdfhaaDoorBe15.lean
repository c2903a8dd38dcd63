/-
  regs' reader: ended, sees, next, takes: what each call returns, or how it ends.
-/
import Derived.Test.YtkopbngnhgdfhaaDoorBe12
namespace Go.Proofs.YtkopbngnhgdfhaaDoor
open Go.RowKit

theorem drewN_under (w : World) : ∀ m, Below w.heap.size w (w.drewN m)
  | 0 => Below.refl _ _
  | m + 1 => (drewN_under w m).drew
section
variable {w : World} {R : Nat} {s : ByteArray} {i : Nat}
set_option maxHeartbeats 1000000 in
theorem pended_any (h : RdW w R s i) :
    Calls Tryd.prog 48 #[.pointer (some ⟨R, 0, none⟩)] w fun e w' => e = .returned (.bool (decide (i = s.size))) ∧ ∃ m, w' = w.drewN m := by
  obtain ⟨⟨x0, x1⟩, _⟩ := h.cells
  obtain ⟨v, hv⟩ : ∃ v, decide (i = s.size) = v := ⟨_, rfl⟩
  have hb : ((i : Int) == (s.size : Int)) = v := by
    rw [← hv]
    by_cases e : i = s.size
    · rw [e]; simp
    · rw [decide_eq_false e]; exact beq_eq_false_iff_ne.2 (by omega)
  rw [hv]
  clear hv h
  go_enter Tryd.func48, Tryd.ntmps48
  go_wp2_with fail
  go_quiet (fail)
  go_wp2_with fail
  go_ret
  exact ⟨rfl, _, rfl⟩
set_option maxHeartbeats 1000000 in
theorem psees_any (h : RdW w R s i) (hi : i ≤ s.size) (t : ByteArray) :
    Calls Tryd.prog 74 #[.pointer (some ⟨R, 0, none⟩), .string t] w fun e w' => e = .returned (.bool (seesR s i t)) ∧ ∃ m, w' = w.drewN m := by
  obtain ⟨⟨x0, x1⟩, _⟩ := h.cells
  have HE := Lib.hid (fun m => pended_any (h.below (drewN_under w m)))
  by_cases hlt : i < s.size
  · have HS := Lib.hid (show seesR s i t = decide (0 ≤ idxR t (bR s i)) by unfold seesR; rw [decide_eq_true hlt]; rfl)
    rw [decide_eq_false (by omega)] at HE
    have hb := getR s i hlt
    have H := Lib.hid (fun W => strIdx_any t (bR s i) W)
    have h1 : (i : Int) < (s.size : Int) := by omega
    have h0 : (0 : Int) ≤ (i : Int) := by omega
    obtain ⟨c, hc⟩ : ∃ c, bR s i = c := ⟨_, rfl⟩
    rw [hc] at hb H HS
    obtain ⟨k, hk⟩ : ∃ k, idxR t c = k := ⟨_, rfl⟩
    simp only [hk] at H HS
    obtain ⟨v, hv⟩ : ∃ v, decide (0 ≤ k) = v := ⟨_, rfl⟩
    rw [hv] at HS
    have hv' : decide (k ≥ 0) = v := hv
    clear h hc hk
    go_enter Tryd.func74, Tryd.ntmps74
    go_wp2_with fail
    go_quiet (first | (go_at_call 48; exact Calls.quiet_of (HE.out _)) | (go_at_call 81; exact Calls.quiet_of_same (H.out _)))
    go_wp2_with fail
    go_ret
    exact ⟨by rw [HS.out]; rfl, _, rfl⟩
  · have HS := Lib.hid (show seesR s i t = false by unfold seesR; rw [decide_eq_false hlt]; rfl)
    rw [decide_eq_true (by omega)] at HE
    clear h
    go_enter Tryd.func74, Tryd.ntmps74
    go_wp2_with fail
    go_quiet (first | (go_at_call 48; exact Calls.quiet_of (HE.out _)))
    go_wp2_with fail
    go_ret
    exact ⟨by rw [HS.out]; rfl, _, rfl⟩
/-- ended, for a region that runs in order. -/
theorem pended_w (h : RdW w R s i) (v : Bool) (hv : decide (i = s.size) = v) :
    Calls Tryd.prog 48 #[.pointer (some ⟨R, 0, none⟩)] w fun e w' => e = .returned (.bool v) ∧ Below w.heap.size w w' :=
  (pended_any h).mono fun e w' ⟨he, m, hm⟩ => ⟨by rw [he, hv], by rw [hm]; exact drewN_under w m⟩
theorem psees_w (h : RdW w R s i) (hi : i ≤ s.size) (t : ByteArray) (v : Bool) (hv : seesR s i t = v) :
    Calls Tryd.prog 74 #[.pointer (some ⟨R, 0, none⟩), .string t] w fun e w' => e = .returned (.bool v) ∧ Below w.heap.size w w' :=
  (psees_any h hi t).mono fun e w' ⟨he, m, hm⟩ => ⟨by rw [he, hv], by rw [hm]; exact drewN_under w m⟩
set_option maxHeartbeats 1000000 in
theorem pnext_no (h : RdW w R s s.size) :
    Calls Tryd.prog 83 #[.pointer (some ⟨R, 0, none⟩)] w fun e w' => e = failE ∧ Below w.heap.size w w' := by
  have HE := Lib.hid (pended_w h true (decide_eq_true rfl))
  have HN := Lib.hid (fun W => pneed_no W)
  clear h
  go_enter Tryd.func83, Tryd.ntmps83
  go_wp2_with fail
  go_fit HE.out
  rintro e w1 ⟨rfl, hb⟩
  have HB := Lib.hid hb
  clear hb
  go_wp2_with fail
  go_fit (HN.out _)
  rintro e w2 ⟨rfl, rfl⟩
  exact ⟨rfl, rfl, HB.out⟩
set_option maxHeartbeats 1000000 in
theorem pnext_yes (h : RdW w R s i) (hlt : i < s.size) (hs : s.size ≤ 1000) :
    Calls Tryd.prog 83 #[.pointer (some ⟨R, 0, none⟩)] w fun e w' => e = .returned (.int .u8 (bR s i : Int)) ∧ RdW w' R s (i + 1) ∧ KeepW (fun k => k ≠ R) w w' := by
  have HE := Lib.hid (pended_w h false (decide_eq_false (by omega)))
  have HN := Lib.hid (fun W => pneed_yes W)
  have HR := Lib.hid h
  have hb := getR s i hlt
  have h1 : (i : Int) < (s.size : Int) := by omega
  have h0 : (0 : Int) ≤ (i : Int) := by omega
  have h1000 : (i : Int) ≤ 1000 := by omega
  obtain ⟨c, hc⟩ : ∃ c, bR s i = c := ⟨_, rfl⟩
  rw [hc] at hb ⊢
  clear h hc
  go_enter Tryd.func83, Tryd.ntmps83
  go_wp2_with fail
  go_fit HE.out
  rintro e w1 ⟨rfl, hb1⟩
  have HB := Lib.hid (show RdW w1 R s i ∧ Below w.heap.size w w1 from ⟨HR.out.below hb1, hb1⟩)
  clear hb1
  obtain ⟨⟨x0, x1⟩, f0, f1⟩ := HB.out.1.cells
  have hlt1 := HB.out.1.lt
  go_wp2_with fail
  go_fit (HN.out _)
  rintro e w2 ⟨rfl, rfl⟩
  have HX := Lib.hid (show RdW (w2.setCell ⟨R, 1, none⟩ (.int .i64 ((i : Int) + 1))) R s (i + 1) ∧ KeepW (fun k => k ≠ R) w2 (w2.setCell ⟨R, 1, none⟩ (.int .i64 ((i : Int) + 1))) from ⟨HB.out.1.set (i + 1), keep_rd w2 R _⟩)
  go_upto_region 3 with (fail)
  obtain ⟨W2, hW2⟩ : ∃ W2, w2.setCell ⟨R, 1, none⟩ (.int .i64 ((i : Int) + 1)) = W2 := ⟨_, rfl⟩
  rw [hW2] at HX
  (try rw [hW2])
  clear hW2 x0 x1 f0 f1 hlt1
  obtain ⟨⟨y0, y1⟩, _⟩ := HX.out.1.cells
  rw [show ((i + 1 : Nat) : Int) = (i : Int) + 1 by omega] at y1
  have e1 : (i : Int) + 1 - 1 = (i : Int) := by omega
  go_quiet (fail)
  go_wp2_with fail
  go_ret
  exact ⟨rfl, HX.out.1.below (drewN_under _ _), ((keep_below (fun k => k ≠ R) HB.out.2).trans HX.out.2).trans (keep_below _ (drewN_under _ _))⟩
set_option maxHeartbeats 1000000 in
theorem ptakes_no (h : RdW w R s i) (hi : i ≤ s.size) (b : Nat) (hb : (restR s i).head? ≠ some b) :
    Calls Tryd.prog 64 #[.pointer (some ⟨R, 0, none⟩), .int .u8 (b : Int)] w fun e w' => e = .returned (.bool false) ∧ RdW w' R s i ∧ Below w.heap.size w w' := by
  obtain ⟨⟨x0, x1⟩, _⟩ := h.cells
  have HE := Lib.hid (fun m => pended_any (h.below (drewN_under w m)))
  have HB := Lib.hid (fun m => And.intro (h.below (drewN_under w m)) (drewN_under w m))
  by_cases hlt : i < s.size
  · rw [decide_eq_false (by omega)] at HE
    have hc1 := getR s i hlt
    have h1 : (i : Int) < (s.size : Int) := by omega
    have h0 : (0 : Int) ≤ (i : Int) := by omega
    rw [rest_cons s i hlt] at hb
    obtain ⟨c, hc⟩ : ∃ c, bR s i = c := ⟨_, rfl⟩
    rw [hc] at hc1 hb
    have hne : ¬ c = b := fun e => hb (by rw [e]; rfl)
    have hbe : ((c : Int) == (b : Int)) = false := beq_eq_false_iff_ne.2 (by omega)
    clear h hc hb hne
    go_enter Tryd.func64, Tryd.ntmps64
    go_wp2_with fail
    go_quiet (first | (go_at_call 48; exact Calls.quiet_of (HE.out _)))
    go_wp2_with fail
    go_ret
    exact ⟨rfl, HB.out _⟩
  · rw [decide_eq_true (by omega)] at HE
    clear h hb
    go_enter Tryd.func64, Tryd.ntmps64
    go_wp2_with fail
    go_quiet (first | (go_at_call 48; exact Calls.quiet_of (HE.out _)))
    go_wp2_with fail
    go_ret
    exact ⟨rfl, HB.out _⟩
set_option maxHeartbeats 1000000 in
theorem ptakes_yes (h : RdW w R s i) (hs : s.size ≤ 1000) (b : Nat) (hb : (restR s i).head? = some b) :
    Calls Tryd.prog 64 #[.pointer (some ⟨R, 0, none⟩), .int .u8 (b : Int)] w fun e w' => e = .returned (.bool true) ∧ RdW w' R s (i + 1) ∧ KeepW (fun k => k ≠ R) w w' := by
  obtain ⟨⟨x0, x1⟩, _⟩ := h.cells
  have HE := Lib.hid (fun m => pended_any (h.below (drewN_under w m)))
  have HB := Lib.hid (fun m => And.intro (h.below (drewN_under w m)) (drewN_under w m))
  have hlt : i < s.size := Classical.byContradiction fun hn => by rw [rest_nil s i (by omega)] at hb; cases hb
  rw [decide_eq_false (by omega)] at HE
  have hc1 := getR s i hlt
  have h1 : (i : Int) < (s.size : Int) := by omega
  have h0 : (0 : Int) ≤ (i : Int) := by omega
  have h1000 : (i : Int) ≤ 1000 := by omega
  rw [rest_cons s i hlt] at hb
  obtain ⟨c, hc⟩ : ∃ c, bR s i = c := ⟨_, rfl⟩
  rw [hc] at hc1 hb
  have hbc : c = b := Option.some.inj hb
  subst hbc
  clear h hc hb
  go_enter Tryd.func64, Tryd.ntmps64
  go_wp2_with fail
  go_quiet (first | (go_at_call 48; exact Calls.quiet_of (HE.out _)))
  have hb1 := HB.out nq
  obtain ⟨W1, hW1⟩ : ∃ W1, w.drewN nq = W1 := ⟨_, rfl⟩
  rw [hW1] at hb1
  (try rw [hW1])
  clear hW1 x0 x1
  have HX := Lib.hid (show RdW (W1.setCell ⟨R, 1, none⟩ (.int .i64 ((i : Int) + 1))) R s (i + 1) ∧ KeepW (fun k => k ≠ R) w (W1.setCell ⟨R, 1, none⟩ (.int .i64 ((i : Int) + 1))) from ⟨hb1.1.set (i + 1), (keep_below _ hb1.2).trans (keep_rd W1 R _)⟩)
  obtain ⟨⟨y0, y1⟩, f0, f1⟩ := hb1.1.cells
  have hlt1 := hb1.1.lt
  clear hb1
  go_wp2_with fail
  go_ret
  exact ⟨rfl, HX.out⟩
end
end Go.Proofs.YtkopbngnhgdfhaaDoor
