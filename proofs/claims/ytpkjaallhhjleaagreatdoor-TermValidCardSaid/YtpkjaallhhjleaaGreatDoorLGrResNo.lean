/-
  grids.Resize, limnerref06.Resize: what each returns where no frame is laid.
-/
import Derived.Deep.DeepFit
import Derived.Test.YtpkjaallhhjleaaGreatDoorLGrRefValidA
import Derived.Test.YtpkjaallhhjleaaGreatDoorBa12
import Derived.Test.YtpkjaallhhjleaaGreatDoorBa27
import Derived.Test.YtpkjaallhhjleaaGreatDoorBa28
namespace Go.Proofs.YtpkjaallhhjleaaGreatDoor
open Go.RowKit

theorem two_frB {w W : World} {ao : Option Addr} {n cap : Nat} {r c a b : Int} (hW : Below (w.heap.size + 2) ((w.alloc (.cells #[.int .i64 r, .int .i64 c, .slice ao n cap, .int .i64 a, .int .i64 b] 35)).alloc (.cells #[.int .i64 0, .int .i64 0, .slice none 0 0, .int .i64 0, .int .i64 0] 35)) W) :
    frB W w.heap.size r c (.slice ao n cap) a b ∧ frB W (w.heap.size + 1) 0 0 (.slice none 0 0) 0 0 ∧ Below w.heap.size w W := by
  have e2 := heap_alloc_new (w.alloc (.cells #[.int .i64 r, .int .i64 c, .slice ao n cap, .int .i64 a, .int .i64 b] 35)) (.cells #[.int .i64 0, .int .i64 0, .slice none 0 0, .int .i64 0, .int .i64 0] 35)
  rw [World.size_alloc] at e2
  have e1 := (Below.heap_alloc (w.alloc (.cells #[.int .i64 r, .int .i64 c, .slice ao n cap, .int .i64 a, .int .i64 b] 35)) (.cells #[.int .i64 0, .int .i64 0, .slice none 0 0, .int .i64 0, .int .i64 0] 35) w.heap.size (by rw [World.size_alloc]; omega)).trans (heap_alloc_new w (.cells #[.int .i64 r, .int .i64 c, .slice ao n cap, .int .i64 a, .int .i64 b] 35))
  exact ⟨(hW.block w.heap.size (by omega)).trans e1, (hW.block (w.heap.size + 1) (by omega)).trans e2, (((Below.refl _ w).alloc (Nat.le_refl _) _).alloc (by simp) _).trans (hW.mono (by omega))⟩
theorem two_end {w W : World} {ao : Option Addr} {n cap : Nat} {r c a b r' c' a' b' : Int} {v : Value} (hW : Below (w.heap.size + 2) ((w.alloc (.cells #[.int .i64 r, .int .i64 c, .slice ao n cap, .int .i64 a, .int .i64 b] 35)).alloc (.cells #[.int .i64 0, .int .i64 0, .slice none 0 0, .int .i64 0, .int .i64 0] 35)) W) :
    frB (set5 W (w.heap.size + 1) r' c' v a' b') (w.heap.size + 1) r' c' v a' b' ∧ Below w.heap.size w (set5 W (w.heap.size + 1) r' c' v a' b') := by
  obtain ⟨_, h2, h3⟩ := two_frB hW
  have hk := set5_keep (ok := fun k => k ≠ w.heap.size + 1) W (w.heap.size + 1) r' c' v a' b' (fun k => k rfl)
  exact ⟨h2.all, KeepW.below h3 hk h3.size (fun k hk => by show _ ≠ _; omega)⟩
theorem two_end2 {w W : World} {ao : Option Addr} {n cap : Nat} {r c a b r' c' a' b' r2 c2 a2 b2 : Int} {v v2 : Value} (hW : Below (w.heap.size + 2) ((w.alloc (.cells #[.int .i64 r, .int .i64 c, .slice ao n cap, .int .i64 a, .int .i64 b] 35)).alloc (.cells #[.int .i64 0, .int .i64 0, .slice none 0 0, .int .i64 0, .int .i64 0] 35)) W) :
    frB (set5 (set5 W (w.heap.size + 1) r' c' v a' b') (w.heap.size + 1) r2 c2 v2 a2 b2) (w.heap.size + 1) r2 c2 v2 a2 b2 ∧ Below w.heap.size w (set5 (set5 W (w.heap.size + 1) r' c' v a' b') (w.heap.size + 1) r2 c2 v2 a2 b2) := by
  obtain ⟨h1, h3⟩ := two_end (r' := r') (c' := c') (v := v) (a' := a') (b' := b') hW
  have hk := set5_keep (ok := fun k => k ≠ w.heap.size + 1) (set5 W (w.heap.size + 1) r' c' v a' b') (w.heap.size + 1) r2 c2 v2 a2 b2 (fun k => k rfl)
  exact ⟨h1.all, KeepW.below h3 hk h3.size (fun k hk => by show _ ≠ _; omega)⟩
theorem two_start {w : World} {ao : Option Addr} {n cap : Nat} {r c a b : Int} : Below w.heap.size w ((w.alloc (.cells #[.int .i64 r, .int .i64 c, .slice ao n cap, .int .i64 a, .int .i64 b] 35)).alloc (.cells #[.int .i64 0, .int .i64 0, .slice none 0 0, .int .i64 0, .int .i64 0] 35)) := (two_frB (Below.refl _ _)).2.2

section
variable {ok : Nat → Prop} {ao : Option Addr} {N cap : Nat} {f : Frm}

set_option maxHeartbeats 2000000 in
theorem gres_bad1 (rows cols : Int) (w : World) (hS : CelsW ok w (.slice ao N cap) f.cells) (hn : N = f.cells.length) (hcap : N ≤ cap) (hv : validB f = false) (hL : LaidW w) :
    Calls Tryz.prog 39 #[.agg #[.int .i64 f.rows, .int .i64 f.cols, .slice ao N cap, .int .i64 f.row, .int .i64 f.col], .int .i64 rows, .int .i64 cols] w fun e w' => e = .returned (.tuple #[.agg #[.int .i64 0, .int .i64 0, .slice none 0 0, .int .i64 0, .int .i64 0], .int .i64 2]) ∧ Below w.heap.size w w' := by
  have HV : Hid (∀ W, Below w.heap.size w W → Calls Tryz.prog 19 #[.agg #[.int .i64 f.rows, .int .i64 f.cols, .slice ao N cap, .int .i64 f.row, .int .i64 f.col]] W fun e w' => e = .returned (.bool false) ∧ Below W.heap.size W w') := fun W hW => by
    have := gvalid_any W (FrameW.below ⟨ao, N, cap, rfl, hn, hcap, hS⟩ hW) (hL.below hW)
    rwa [hv] at this
  have HF := Lib.hid (fun W hW => two_frB (w := w) (W := W) (ao := ao) (n := N) (cap := cap) (r := f.rows) (c := f.cols) (a := f.row) (b := f.col) hW)
  have HG := Lib.hid (fun W hW => two_end (w := w) (W := W) (ao := ao) (n := N) (cap := cap) (r := f.rows) (c := f.cols) (a := f.row) (b := f.col) (r' := 0) (c' := 0) (a' := 0) (b' := 0) (v := .slice none 0 0) hW)
  have HB := Lib.hid (two_start (w := w) (ao := ao) (n := N) (cap := cap) (r := f.rows) (c := f.cols) (a := f.row) (b := f.col))
  clear hS hn hcap hv hL
  go_enter Tryz.func39, Tryz.ntmps39
  go_wp2_with fail
  go_fit (HV.out _ HB.out)
  rintro e w2 ⟨rfl, hb2⟩
  have HX := Lib.hid (show Below (w.heap.size + 2) _ w2 by simpa using hb2)
  clear HV hb2
  obtain ⟨q1, q2, q3⟩ := HF.out _ HX.out
  obtain ⟨⟨d0, d1, d2, d3, d4⟩, f0, f1, f2, f3, f4⟩ := q2.cells
  have hlt := q2.lt
  have HE := Lib.hid (HG.out _ HX.out)
  clear q1 q2 q3 HF HG HB HX
  go_wp2
  obtain ⟨⟨y0, y1, y2, y3, y4⟩, _⟩ := HE.out.1.cells
  unfold set5 at y0 y1 y2 y3 y4
  exact bodyPost_ret (v := .tuple #[.agg #[.int .i64 0, .int .i64 0, .slice none 0 0, .int .i64 0, .int .i64 0], .int .i64 2]) (by simp [results, Tryz.results39, go_sem, y0, y1, y2, y3, y4]) rfl ⟨rfl, HE.out.2⟩

set_option maxHeartbeats 2000000 in
theorem gres_bad2 (rows cols : Int) (w : World) (hS : CelsW ok w (.slice ao N cap) f.cells) (hn : N = f.cells.length) (hcap : N ≤ cap) (hv : validB f = true) (hb : sizedB rows cols = false) (hL : LaidW w) :
    Calls Tryz.prog 39 #[.agg #[.int .i64 f.rows, .int .i64 f.cols, .slice ao N cap, .int .i64 f.row, .int .i64 f.col], .int .i64 rows, .int .i64 cols] w fun e w' => e = .returned (.tuple #[.agg #[.int .i64 0, .int .i64 0, .slice none 0 0, .int .i64 0, .int .i64 0], .int .i64 2]) ∧ Below w.heap.size w w' := by
  have HV : Hid (∀ W, Below w.heap.size w W → Calls Tryz.prog 19 #[.agg #[.int .i64 f.rows, .int .i64 f.cols, .slice ao N cap, .int .i64 f.row, .int .i64 f.col]] W fun e w' => e = .returned (.bool true) ∧ Below W.heap.size W w') := fun W hW => by
    have := gvalid_any W (FrameW.below ⟨ao, N, cap, rfl, hn, hcap, hS⟩ hW) (hL.below hW)
    rwa [hv] at this
  have HNw := Lib.hid (fun w => gnew_bad rows cols w hb)
  have HF := Lib.hid (fun W hW => two_frB (w := w) (W := W) (ao := ao) (n := N) (cap := cap) (r := f.rows) (c := f.cols) (a := f.row) (b := f.col) hW)
  have HG := Lib.hid (fun W hW => two_end2 (w := w) (W := W) (ao := ao) (n := N) (cap := cap) (r := f.rows) (c := f.cols) (a := f.row) (b := f.col) (r' := 0) (c' := 0) (a' := 0) (b' := 0) (v := .slice none 0 0) (r2 := 0) (c2 := 0) (a2 := 0) (b2 := 0) (v2 := .slice none 0 0) hW)
  have HB := Lib.hid (two_start (w := w) (ao := ao) (n := N) (cap := cap) (r := f.rows) (c := f.cols) (a := f.row) (b := f.col))
  clear hS hn hcap hv hL hb
  go_enter Tryz.func39, Tryz.ntmps39
  go_wp2_with fail
  go_fit (HV.out _ HB.out)
  rintro e w2 ⟨rfl, hb2⟩
  go_wp2_with fail
  go_fit (HNw.out _)
  rintro e w3 ⟨rfl, hb3⟩
  have HX := Lib.hid (show Below (w.heap.size + 2) _ w3 by simpa using hb2.trans (hb3.mono hb2.size))
  clear HV HNw hb2 hb3
  obtain ⟨q1, q2, q3⟩ := HF.out _ HX.out
  obtain ⟨⟨d0, d1, d2, d3, d4⟩, f0, f1, f2, f3, f4⟩ := q2.cells
  have hlt := q2.lt
  have HE := Lib.hid (HG.out _ HX.out)
  clear q1 q2 q3 HF HG HB HX
  go_wp2
  obtain ⟨⟨y0, y1, y2, y3, y4⟩, _⟩ := HE.out.1.cells
  unfold set5 at y0 y1 y2 y3 y4
  exact bodyPost_ret (v := .tuple #[.agg #[.int .i64 0, .int .i64 0, .slice none 0 0, .int .i64 0, .int .i64 0], .int .i64 2]) (by simp [results, Tryz.results39, go_sem, y0, y1, y2, y3, y4]) rfl ⟨rfl, HE.out.2⟩
end
end Go.Proofs.YtpkjaallhhjleaaGreatDoor
