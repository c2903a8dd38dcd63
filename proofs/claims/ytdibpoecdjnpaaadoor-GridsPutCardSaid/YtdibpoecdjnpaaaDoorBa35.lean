/-
  Texts of this proof, one behind the other; each begins with its own remark.
-/
import Derived.Deep.DeepFit
import Derived.Test.YtdibpoecdjnpaaaDoorBa34
import Derived.Test.YtdibpoecdjnpaaaDoorBa7
import Derived.Test.YtdibpoecdjnpaaaDoorBa18
import Derived.Test.YtdibpoecdjnpaaaDoorBa20
import Derived.Test.YtdibpoecdjnpaaaDoorBa10
/-
  grids.New: what it returns, and lays.
-/
namespace Go.Proofs.YtdibpoecdjnpaaaDoor
open Go.RowKit

/-- A row of one cell that a literal lays. -/
theorem one_cell {w : World} (c : Cel) : CelsW AnyB (w.alloc (.cells #[.int .i32 c.1, .int .i64 c.2.1, .int .i64 c.2.2.1, .bool c.2.2.2.1, .bool c.2.2.2.2.1, .bool c.2.2.2.2.2] 52)) (.slice (some ⟨w.heap.size, 0, none⟩) 1 1) [c] := by
  refine ⟨_, 1, rfl, Nat.le_refl _, fun _ _ => trivial, fun j u hu => ⟨_, 0, rfl, ?_⟩⟩
  rw [celC_one] at hu
  rw [cell_of_row _ _ _ _ _ _ (heap_alloc_new w _), Nat.zero_add, ← Array.getElem?_toList]
  exact hu
set_option maxHeartbeats 1000000 in
theorem gnew_bad (r c : Int) (w : World) (hb : sizedB r c = false) :
    Calls Tryd.prog 11 #[.int .i64 r, .int .i64 c] w fun e w' => e = .returned (.tuple #[.agg #[.int .i64 0, .int .i64 0, .slice none 0 0, .int .i64 0, .int .i64 0], .int .i64 2]) ∧ Below w.heap.size w w' := by
  have H := Lib.hid (fun w => sized_any r c w)
  rw [hb] at H
  clear hb
  go_enter Tryd.func11, Tryd.ntmps11
  go_wp2_with fail
  go_fit (H.out _)
  rintro e w2 ⟨rfl, rfl⟩
  go_wp2
  exact bodyPost_ret (v := .tuple #[.agg #[.int .i64 0, .int .i64 0, .slice none 0 0, .int .i64 0, .int .i64 0], .int .i64 2]) (by simp [results, Tryd.results11, go_sem]) rfl ⟨rfl, (Below.refl _ w).alloc (Nat.le_refl _) _⟩
set_option maxHeartbeats 2000000 in
theorem gnew_any (m n : Nat) (w : World) (hm : 2 ≤ m ∧ m ≤ 100) (hn : 8 ≤ n ∧ n ≤ 200) (hL : BlankW w) :
    Calls Tryd.prog 11 #[.int .i64 (m : Int), .int .i64 (n : Int)] w fun e w' => ∃ g, e = .returned (.tuple #[.agg #[.int .i64 (m : Int), .int .i64 (n : Int), .slice (some ⟨g, 0, none⟩) (m * n) (m * n), .int .i64 0, .int .i64 0], .int .i64 0]) ∧ NewL w w' g (List.replicate (m * n) blkC) ∧ Below w.heap.size w w' := by
  have H := Lib.hid (fun w => sized_any (m : Int) (n : Int) w)
  rw [(sizedB_iff _ _).2 (by omega)] at H
  have hmul : (m : Int) * (n : Int) = ((m * n : Nat) : Int) := by rw [Int.natCast_mul]
  have hle : m * n ≤ 20000 := Nat.mul_le_mul hm.2 hn.2
  have hpos : 0 < m * n := Nat.mul_pos (by omega) (by omega)
  obtain ⟨N, hN⟩ : ∃ N, m * n = N := ⟨_, rfl⟩
  rw [hN] at hmul hle hpos ⊢
  obtain ⟨b0, b1, b2, b3, b4, b5⟩ := hL.2
  simp only [blkC, Nat.zero_add] at b0 b1 b2 b3 b4 b5
  have hg := hL.1
  have HR : Hid (∀ W g, W.heap.size = g → Calls Tryd.prog 30 #[.slice (some ⟨g, 0, none⟩) 1 1, .int .i64 (N : Int)] (W.alloc (.cells #[.int .i32 32, .int .i64 1, .int .i64 0, .bool false, .bool false, .bool false] 52)) fun e w' => e = .returned (.slice (some ⟨g + 1, 0, none⟩) N N) ∧ blkL w' (g + 1) (List.replicate N blkC) [] ∧ Below W.heap.size W w') := fun W g hW => by
    subst hW
    have := repeat_any blkC N (W.alloc (.cells #[.int .i32 32, .int .i64 1, .int .i64 0, .bool false, .bool false, .bool false] 52)) (one_cell (w := W) blkC) hpos hle
    rw [World.size_alloc] at this
    exact this.mono fun e w' ⟨k1, k2, k3⟩ => ⟨k1, k2, ((Below.refl _ W).alloc (Nat.le_refl _) _).trans (k3.mono (by omega))⟩
  have i1 : (m : Int) ≤ 100 := by omega
  have i2 : (n : Int) ≤ 200 := by omega
  have i3 : (0 : Int) ≤ (m : Int) := by omega
  have i4 : (0 : Int) ≤ (n : Int) := by omega
  have i5 : (N : Int) ≤ 20000 := by omega
  clear hL hN
  go_enter Tryd.func11, Tryd.ntmps11
  go_wp2_with fail
  go_fit (H.out _)
  rintro e w2 ⟨rfl, rfl⟩
  go_wp2_with fail
  go_fit (HR.out _ (w.heap.size + 1) (size_alloc _ _))
  rintro e w3 ⟨rfl, hg3, hb3⟩
  have hB := (frB.new (r := 0) (c := 0) (v := .slice none 0 0) (a := 0) (b := 0) w).below hb3 (by rw [World.size_alloc]; omega)
  obtain ⟨⟨d0, d1, d2, d3, d4⟩, f0, f1, f2, f3, f4⟩ := hB.cells
  have HE := Lib.hid (hB.all (r' := (m : Int)) (c' := (n : Int)) (v' := .slice (some ⟨w.heap.size + 1 + 1, 0, none⟩) N N) (a' := 0) (b' := 0))
  have HK : Hid (NewL w (set5 w3 w.heap.size (m : Int) (n : Int) (.slice (some ⟨w.heap.size + 1 + 1, 0, none⟩) N N) 0 0) (w.heap.size + 1 + 1) (List.replicate N blkC) ∧ Below w.heap.size w (set5 w3 w.heap.size (m : Int) (n : Int) (.slice (some ⟨w.heap.size + 1 + 1, 0, none⟩) N N) 0 0)) := by
    have b1 : Below w.heap.size w w3 := ((Below.refl _ w).alloc (Nat.le_refl _) _).trans (hb3.mono (by rw [World.size_alloc]; omega))
    exact ⟨⟨[], by omega, hg3.keep (set5_keep (ok := fun k => k ≠ w.heap.size) _ _ _ _ _ _ _ fun k => k rfl) (by show _ ≠ _; omega)⟩, KeepW.below b1 (set5_keep (ok := fun k => k ≠ w.heap.size) _ _ _ _ _ _ _ fun k => k rfl) b1.size (fun k hk => by omega)⟩
  have hlt : w.heap.size < w3.heap.size := hB.lt
  clear hB hg3 hb3 HR H b0 b1 b2 b3 b4 b5
  go_wp2
  obtain ⟨⟨y0, y1, y2, y3, y4⟩, _⟩ := HE.out.cells
  exact bodyPost_ret (v := .tuple #[.agg #[.int .i64 (m : Int), .int .i64 (n : Int), .slice (some ⟨w.heap.size + 1 + 1, 0, none⟩) N N, .int .i64 0, .int .i64 0], .int .i64 0]) (by unfold set5 at y0 y1 y2 y3 y4; simp [results, Tryd.results11, go_sem, y0, y1, y2, y3, y4]) rfl ⟨_, rfl, HK.out.1, HK.out.2⟩
end Go.Proofs.YtdibpoecdjnpaaaDoor

/-
  grids.Resize, limnerref06.Resize: what each returns where no frame is laid.
-/
namespace Go.Proofs.YtdibpoecdjnpaaaDoor
open Go.RowKit

theorem two_frB {w W : World} {ao : Option Addr} {n cap : Nat} {r c a b : Int} (hW : Below (w.heap.size + 2) ((w.alloc (.cells #[.int .i64 r, .int .i64 c, .slice ao n cap, .int .i64 a, .int .i64 b] 28)).alloc (.cells #[.int .i64 0, .int .i64 0, .slice none 0 0, .int .i64 0, .int .i64 0] 28)) W) :
    frB W w.heap.size r c (.slice ao n cap) a b ∧ frB W (w.heap.size + 1) 0 0 (.slice none 0 0) 0 0 ∧ Below w.heap.size w W := by
  have e2 := heap_alloc_new (w.alloc (.cells #[.int .i64 r, .int .i64 c, .slice ao n cap, .int .i64 a, .int .i64 b] 28)) (.cells #[.int .i64 0, .int .i64 0, .slice none 0 0, .int .i64 0, .int .i64 0] 28)
  rw [World.size_alloc] at e2
  have e1 := (Below.heap_alloc (w.alloc (.cells #[.int .i64 r, .int .i64 c, .slice ao n cap, .int .i64 a, .int .i64 b] 28)) (.cells #[.int .i64 0, .int .i64 0, .slice none 0 0, .int .i64 0, .int .i64 0] 28) w.heap.size (by rw [World.size_alloc]; omega)).trans (heap_alloc_new w (.cells #[.int .i64 r, .int .i64 c, .slice ao n cap, .int .i64 a, .int .i64 b] 28))
  exact ⟨(hW.block w.heap.size (by omega)).trans e1, (hW.block (w.heap.size + 1) (by omega)).trans e2, (((Below.refl _ w).alloc (Nat.le_refl _) _).alloc (by simp) _).trans (hW.mono (by omega))⟩
theorem two_end {w W : World} {ao : Option Addr} {n cap : Nat} {r c a b r' c' a' b' : Int} {v : Value} (hW : Below (w.heap.size + 2) ((w.alloc (.cells #[.int .i64 r, .int .i64 c, .slice ao n cap, .int .i64 a, .int .i64 b] 28)).alloc (.cells #[.int .i64 0, .int .i64 0, .slice none 0 0, .int .i64 0, .int .i64 0] 28)) W) :
    frB (set5 W (w.heap.size + 1) r' c' v a' b') (w.heap.size + 1) r' c' v a' b' ∧ Below w.heap.size w (set5 W (w.heap.size + 1) r' c' v a' b') := by
  obtain ⟨_, h2, h3⟩ := two_frB hW
  have hk := set5_keep (ok := fun k => k ≠ w.heap.size + 1) W (w.heap.size + 1) r' c' v a' b' (fun k => k rfl)
  exact ⟨h2.all, KeepW.below h3 hk h3.size (fun k hk => by show _ ≠ _; omega)⟩
theorem two_end2 {w W : World} {ao : Option Addr} {n cap : Nat} {r c a b r' c' a' b' r2 c2 a2 b2 : Int} {v v2 : Value} (hW : Below (w.heap.size + 2) ((w.alloc (.cells #[.int .i64 r, .int .i64 c, .slice ao n cap, .int .i64 a, .int .i64 b] 28)).alloc (.cells #[.int .i64 0, .int .i64 0, .slice none 0 0, .int .i64 0, .int .i64 0] 28)) W) :
    frB (set5 (set5 W (w.heap.size + 1) r' c' v a' b') (w.heap.size + 1) r2 c2 v2 a2 b2) (w.heap.size + 1) r2 c2 v2 a2 b2 ∧ Below w.heap.size w (set5 (set5 W (w.heap.size + 1) r' c' v a' b') (w.heap.size + 1) r2 c2 v2 a2 b2) := by
  obtain ⟨h1, h3⟩ := two_end (r' := r') (c' := c') (v := v) (a' := a') (b' := b') hW
  have hk := set5_keep (ok := fun k => k ≠ w.heap.size + 1) (set5 W (w.heap.size + 1) r' c' v a' b') (w.heap.size + 1) r2 c2 v2 a2 b2 (fun k => k rfl)
  exact ⟨h1.all, KeepW.below h3 hk h3.size (fun k hk => by show _ ≠ _; omega)⟩
theorem two_start {w : World} {ao : Option Addr} {n cap : Nat} {r c a b : Int} : Below w.heap.size w ((w.alloc (.cells #[.int .i64 r, .int .i64 c, .slice ao n cap, .int .i64 a, .int .i64 b] 28)).alloc (.cells #[.int .i64 0, .int .i64 0, .slice none 0 0, .int .i64 0, .int .i64 0] 28)) := (two_frB (Below.refl _ _)).2.2

section
variable {ok : Nat → Prop} {ao : Option Addr} {N cap : Nat} {f : Frm}

set_option maxHeartbeats 2000000 in
theorem gres_bad1 (rows cols : Int) (w : World) (hS : CelsW ok w (.slice ao N cap) f.cells) (hn : N = f.cells.length) (hcap : N ≤ cap) (hv : validB f = false) (hL : LaidW w) :
    Calls Tryd.prog 24 #[.agg #[.int .i64 f.rows, .int .i64 f.cols, .slice ao N cap, .int .i64 f.row, .int .i64 f.col], .int .i64 rows, .int .i64 cols] w fun e w' => e = .returned (.tuple #[.agg #[.int .i64 0, .int .i64 0, .slice none 0 0, .int .i64 0, .int .i64 0], .int .i64 2]) ∧ Below w.heap.size w w' := by
  have HV : Hid (∀ W, Below w.heap.size w W → Calls Tryd.prog 26 #[.agg #[.int .i64 f.rows, .int .i64 f.cols, .slice ao N cap, .int .i64 f.row, .int .i64 f.col]] W fun e w' => e = .returned (.bool false) ∧ Below W.heap.size W w') := fun W hW => by
    have := gvalid_any W (FrameW.below ⟨ao, N, cap, rfl, hn, hcap, hS⟩ hW) (hL.below hW)
    rwa [hv] at this
  have HF := Lib.hid (fun W hW => two_frB (w := w) (W := W) (ao := ao) (n := N) (cap := cap) (r := f.rows) (c := f.cols) (a := f.row) (b := f.col) hW)
  have HG := Lib.hid (fun W hW => two_end (w := w) (W := W) (ao := ao) (n := N) (cap := cap) (r := f.rows) (c := f.cols) (a := f.row) (b := f.col) (r' := 0) (c' := 0) (a' := 0) (b' := 0) (v := .slice none 0 0) hW)
  have HB := Lib.hid (two_start (w := w) (ao := ao) (n := N) (cap := cap) (r := f.rows) (c := f.cols) (a := f.row) (b := f.col))
  clear hS hn hcap hv hL
  go_enter Tryd.func24, Tryd.ntmps24
  go_wp2_with fail
  go_fit (HV.out _ HB.out)
  rintro e w2 ⟨rfl, hb2⟩
  have HX := Lib.hid (show Below (w.heap.size + 2) _ w2 by simpa using hb2)
  clear HV hb2
  obtain ⟨q1, q2, q3⟩ := HF.out _ HX.out
  obtain ⟨⟨d0, d1, d2, d3, d4⟩, f0, f1, f2, f3, f4⟩ := q2.cells
  have hlt := q2.lt
  have HE := Lib.hid (HG.out _ HX.out)
  clear q1 q2 q3 HF HG HB HX
  go_wp2
  obtain ⟨⟨y0, y1, y2, y3, y4⟩, _⟩ := HE.out.1.cells
  unfold set5 at y0 y1 y2 y3 y4
  exact bodyPost_ret (v := .tuple #[.agg #[.int .i64 0, .int .i64 0, .slice none 0 0, .int .i64 0, .int .i64 0], .int .i64 2]) (by simp [results, Tryd.results24, go_sem, y0, y1, y2, y3, y4]) rfl ⟨rfl, HE.out.2⟩

set_option maxHeartbeats 2000000 in
theorem gres_bad2 (rows cols : Int) (w : World) (hS : CelsW ok w (.slice ao N cap) f.cells) (hn : N = f.cells.length) (hcap : N ≤ cap) (hv : validB f = true) (hb : sizedB rows cols = false) (hL : LaidW w) :
    Calls Tryd.prog 24 #[.agg #[.int .i64 f.rows, .int .i64 f.cols, .slice ao N cap, .int .i64 f.row, .int .i64 f.col], .int .i64 rows, .int .i64 cols] w fun e w' => e = .returned (.tuple #[.agg #[.int .i64 0, .int .i64 0, .slice none 0 0, .int .i64 0, .int .i64 0], .int .i64 2]) ∧ Below w.heap.size w w' := by
  have HV : Hid (∀ W, Below w.heap.size w W → Calls Tryd.prog 26 #[.agg #[.int .i64 f.rows, .int .i64 f.cols, .slice ao N cap, .int .i64 f.row, .int .i64 f.col]] W fun e w' => e = .returned (.bool true) ∧ Below W.heap.size W w') := fun W hW => by
    have := gvalid_any W (FrameW.below ⟨ao, N, cap, rfl, hn, hcap, hS⟩ hW) (hL.below hW)
    rwa [hv] at this
  have HNw := Lib.hid (fun w => gnew_bad rows cols w hb)
  have HF := Lib.hid (fun W hW => two_frB (w := w) (W := W) (ao := ao) (n := N) (cap := cap) (r := f.rows) (c := f.cols) (a := f.row) (b := f.col) hW)
  have HG := Lib.hid (fun W hW => two_end2 (w := w) (W := W) (ao := ao) (n := N) (cap := cap) (r := f.rows) (c := f.cols) (a := f.row) (b := f.col) (r' := 0) (c' := 0) (a' := 0) (b' := 0) (v := .slice none 0 0) (r2 := 0) (c2 := 0) (a2 := 0) (b2 := 0) (v2 := .slice none 0 0) hW)
  have HB := Lib.hid (two_start (w := w) (ao := ao) (n := N) (cap := cap) (r := f.rows) (c := f.cols) (a := f.row) (b := f.col))
  clear hS hn hcap hv hL hb
  go_enter Tryd.func24, Tryd.ntmps24
  go_wp2_with fail
  go_fit (HV.out _ HB.out)
  rintro e w2 ⟨rfl, hb2⟩
  go_wp2_with fail
  go_fit (HNw.out _)
  rintro e w3 ⟨rfl, hb3⟩
  have HX := Lib.hid (show Below (w.heap.size + 2) _ w3 by simpa using hb2.trans (hb3.mono hb2.size))
  clear HV HNw hb2 hb3
  obtain ⟨q1, q2, q3⟩ := HF.out _ HX.out
  obtain ⟨⟨d0, d1, d2, d3, d4⟩, f0, f1, f2, f3, f4⟩ := q2.cells
  have hlt := q2.lt
  have HE := Lib.hid (HG.out _ HX.out)
  clear q1 q2 q3 HF HG HB HX
  go_wp2
  obtain ⟨⟨y0, y1, y2, y3, y4⟩, _⟩ := HE.out.1.cells
  unfold set5 at y0 y1 y2 y3 y4
  exact bodyPost_ret (v := .tuple #[.agg #[.int .i64 0, .int .i64 0, .slice none 0 0, .int .i64 0, .int .i64 0], .int .i64 2]) (by simp [results, Tryd.results24, go_sem, y0, y1, y2, y3, y4]) rfl ⟨rfl, HE.out.2⟩
end
end Go.Proofs.YtdibpoecdjnpaaaDoor
