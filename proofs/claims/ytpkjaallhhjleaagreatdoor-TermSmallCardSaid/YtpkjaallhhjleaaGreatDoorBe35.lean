/-
  limnerlaw08.shows, wrapped: what each returns.
-/
import Derived.Laws.Concat
import Derived.Deep.RegionHeld3
import Derived.Test.YtpkjaallhhjleaaGreatDoorBe30
import Derived.Test.YtpkjaallhhjleaaGreatDoorBe18
import Derived.Test.YtpkjaallhhjleaaGreatDoorBe34
namespace Go.Proofs.YtpkjaallhhjleaaGreatDoor
open Go.RowKit

theorem two_strs (w : World) (x y : ByteArray) : StrsV AnyB (w.alloc (.cells #[.string x, .string y] 9)) (.slice (some ⟨w.heap.size, 0, none⟩) 2 2) [x, y] := by
  have := (row_new (w := w) (cs := [.string x, .string y]) (zs := []) (n := 2) (cap := 2) (e := 9) (Nat.le_refl _))
  rw [List.append_nil] at this
  obtain ⟨ao, cap, he, h1, _, h3⟩ := this
  exact ⟨ao, cap, he, h1, fun _ _ => trivial, h3⟩
theorem strs_alloc {w : World} {v : Value} {xs : List ByteArray} {o : Obj} (h : StrsV AnyB w v xs) : StrsV AnyB (w.alloc o) v xs := h.below ((Below.refl _ _).alloc (Nat.le_refl _) _)
theorem two_strs2 {w W : World} {x y : ByteArray} (h : Below (w.alloc (.cells #[.string x, .string y] 9)).heap.size (w.alloc (.cells #[.string x, .string y] 9)) W) : StrsV AnyB W (.slice (some ⟨w.heap.size, 0, none⟩) 2 2) [x, y] := (two_strs w x y).below h
theorem two_strs3 {w W : World} {x y : ByteArray} (h : Below (w.alloc (.cells #[.string x, .string y] 9)).drew.heap.size (w.alloc (.cells #[.string x, .string y] 9)).drew W) : StrsV AnyB W (.slice (some ⟨w.heap.size, 0, none⟩) 2 2) [x, y] := (two_strs w x y).below ⟨h.os, h.tape, h.output, h.size, h.block⟩

def sp8 : ByteArray := ⟨#[32, 32, 32, 32, 32, 32, 32, 32]⟩
set_option maxRecDepth 100000 in
set_option maxHeartbeats 8000000 in
theorem shows_any (s one two : ByteArray) (X : ByteArray) (row col : Int) (w : World) (hL : LaidT w) (hs : s.size ≤ 1000) (h1 : one.size ≤ 8) (hX : (one ++ sp8).extract 0 8 = X)
    (hR : rowsF (exT s.data.toList) = [X, two]) (hr : (exT s.data.toList).row = row) (hc : (exT s.data.toList).col = col) :
    Calls Tryz.prog 25 #[.string s, .string one, .string two, .int .i64 row, .int .i64 col] w fun e w' => e = .returned (.bool true) ∧ Below w.heap.size w w' := by
  have H1 := Lib.hid (tnew_any 2 8 w (by omega) (by omega) hL.fr (Below.refl _ w))
  have HW := Lib.hid (fun W B G (hS : TmS w W B G (2 * 8) (2 * 8) (newT ((2 : Nat) : Int) ((8 : Nat) : Int))) => twrite_any s W hS (newT_ok 2 8 (by omega) (by omega)) hL (by omega))
  have hok : OkF (exT s.data.toList) 2 8 := (write_ok (newT_ok 2 8 (by omega) (by omega)) s.data.toList).fr
  have HF := Lib.hid (fun W B G (hS : TmS w W B G (2 * 8) (2 * 8) (writeT (newT ((2 : Nat) : Int) ((8 : Nat) : Int)) s.data.toList)) => tframe_any W hS hok)
  obtain ⟨T0, hT0⟩ : ∃ T0, newT ((2 : Nat) : Int) ((8 : Nat) : Int) = T0 := ⟨_, rfl⟩
  obtain ⟨F, hFF⟩ : ∃ F, exT s.data.toList = F := ⟨_, rfl⟩
  have hF2 : ∀ T, writeT (newT ((2 : Nat) : Int) ((8 : Nat) : Int)) s.data.toList = T → T.f = F := fun T hT => by rw [← hT, ← hFF]; rfl
  rw [hT0] at H1 HW HF hF2
  obtain ⟨T1, hT1⟩ : ∃ T1, writeT T0 s.data.toList = T1 := ⟨_, rfl⟩
  have hTF := hF2 T1 hT1
  rw [hT1] at HW HF
  rw [hTF] at HF
  rw [hFF] at hok hR hr hc
  have HLR : Hid (∀ W v, Below w.heap.size w W → FrameW AnyB W v F → Calls Tryz.prog 24 #[v] W fun e w' => ∃ u, e = .returned u ∧ StrsV AnyB w' u [X, two] ∧ Below W.heap.size W w') := fun W v hW hv => by
    have := grows_any W hv (hL.below hW).fr
    rwa [hR] at this
  have hadd : ∀ W, (Op.stringOp .add one sp8).run Tryz.prog W = .ok (.string (one ++ sp8)) W := fun W => run_string_add_sum W one sp8 (by rw [show sp8.size = 8 from rfl]; omega)
  have hsl : ∀ W, (Instr.slice 9 (.string (one ++ sp8)) none (some (.int .i64 8)) none).run Tryz.prog W = .ok (.string X) W := fun W => by
    have hsz : (one ++ sp8).size = one.size + 8 := app_size _ _
    have hz1 : (8 : Int) ≤ ((one ++ sp8).size : Int) := by omega
    rw [← hX]
    simp [go_sem, hsz]
    intro hx
    omega
  have q3 : (F.row == row) = true := by rw [hr]; exact beq_self_eq_true _
  have q4 : (F.col == col) = true := by rw [hc]; exact beq_self_eq_true _
  obtain ⟨Y, hY⟩ : ∃ Y, one ++ sp8 = Y := ⟨_, rfl⟩
  rw [hY] at hadd hsl
  have hsp : (⟨#[32, 32, 32, 32, 32, 32, 32, 32]⟩ : ByteArray) = sp8 := rfl
  clear hX hL hs h1 hT0 hFF hF2 hT1 hTF hok hR hr hc hY
  go_enter Tryz.func25, Tryz.ntmps25
  go_wp2_with fail
  go_fit H1.out
  rintro e w1 ⟨B, G, rfl, hS1, hb1, _, _⟩
  go_wp2_with fail
  go_fit (HW.out _ _ _ hS1)
  rintro e w2 ⟨rfl, hS2, hK2⟩
  go_wp2_with fail
  go_fit (HF.out _ _ _ hS2)
  rintro e w3 ⟨v3, rfl, ⟨a3, n3, c3, rfl, rfl, hc3, hC3⟩, hb3⟩
  go_upto_region 4 with (fail)
  obtain ⟨W, hW⟩ : ∃ W, w3.alloc (.cells #[.int .i64 F.rows, .int .i64 F.cols, .slice a3 F.cells.length c3, .int .i64 F.row, .int .i64 F.col] 35) = W := ⟨_, rfl⟩
  obtain ⟨g, hg⟩ : ∃ g, w3.heap.size = g := ⟨_, rfl⟩
  have hbox : frB W g F.rows F.cols (.slice a3 F.cells.length c3) F.row F.col := by rw [← hW, ← hg]; exact frB.new w3
  have hB3 : Below w.heap.size w w3 := hS2.below.trans (hb3.mono hS2.below.size)
  have hB : Below w.heap.size w W := by rw [← hW]; exact blw_alloc hB3
  have hFr : FrameW AnyB W (.agg #[.int .i64 F.rows, .int .i64 F.cols, .slice a3 F.cells.length c3, .int .i64 F.row, .int .i64 F.col]) F := by
    rw [← hW]
    exact FrameW.below ⟨a3, _, c3, rfl, rfl, hc3, hC3⟩ ((Below.refl _ w3).alloc (Nat.le_refl _) _)
  have HB := Lib.hid hB
  have L1 : Hid (∀ V, Below W.heap.size W V → Calls Tryz.prog 24 #[.agg #[.int .i64 F.rows, .int .i64 F.cols, .slice a3 F.cells.length c3, .int .i64 F.row, .int .i64 F.col]] V fun e w' => ∃ u, e = .returned u ∧ StrsV AnyB w' u [X, two] ∧ Below W.heap.size W w' ∧ Below V.heap.size V w') := fun V hV => (HLR.out V _ (hB.trans (hV.mono hB.size)) (hFr.below hV)).mono fun e w' ⟨u, k1, k2, k3⟩ => ⟨u, k1, k2, hV.trans (k3.mono hV.size), k3⟩
  have LA : Hid (∀ V u z, Below W.heap.size W V → StrsV AnyB V u [X, two] → StrsV AnyB V z [X, two] → Calls Tryz.prog 49 #[u, z] V fun e w' => e = .returned (.bool true) ∧ Below W.heap.size W w') := fun V u z hV h hz => by
    have := strings_any V h hz (by simp)
    rw [decide_eq_true rfl] at this
    exact this.mono fun e w' ⟨k1, k3⟩ => ⟨k1, hV.trans (k3.mono hV.size)⟩
  have HC : Hid (∀ V, Below W.heap.size W V → V.cell? ⟨g, 0, none⟩ = some (.int .i64 F.rows) ∧ V.cell? ⟨g, 1, none⟩ = some (.int .i64 F.cols) ∧ V.cell? ⟨g, 2, none⟩ = some (.slice a3 F.cells.length c3) ∧ V.cell? ⟨g, 3, none⟩ = some (.int .i64 F.row) ∧ V.cell? ⟨g, 4, none⟩ = some (.int .i64 F.col)) := fun V hV => (hbox.below hV hbox.lt).cells.1
  rw [hW, hg]
  have kk : Below W.heap.size W W := Below.refl _ _
  have k0 : Below W.heap.size W W.drew := (Below.refl _ W).drew
  clear hW hg hbox hB3 hB hFr hC3 hc3 hb3 hK2 hS2 hS1 hb1 H1 HW HF HLR
  go_wp2_with fail
  go_region_held3 (fun V => V.cell? ⟨g, 0, none⟩ = some (.int .i64 F.rows) ∧ V.cell? ⟨g, 1, none⟩ = some (.int .i64 F.cols) ∧ V.cell? ⟨g, 2, none⟩ = some (.slice a3 F.cells.length c3) ∧ V.cell? ⟨g, 3, none⟩ = some (.int .i64 F.row) ∧ V.cell? ⟨g, 4, none⟩ = some (.int .i64 F.col))
    (first | with_reducible exact HC.out _ kk | with_reducible exact HC.out _ (blw_alloc kk) | with_reducible exact HC.out _ k0 | with_reducible exact HC.out _ (blw_drew2 _ _))
    (first
      | (go_at_call 24; go_fit (L1.out _ ?_); (first | with_reducible exact kk | with_reducible exact blw_alloc kk | with_reducible exact k0 | with_reducible exact blw_drew2 _ _); rintro e vv ⟨uu, rfl, hu, kk, hh⟩)
      | (go_at_call 49; go_fit (LA.out _ _ _ ?_ ?_ ?_); (first | with_reducible exact kk | with_reducible exact blw_alloc kk | with_reducible exact k0 | with_reducible exact blw_drew2 _ _); (first | with_reducible exact hu | with_reducible exact strs_alloc hu); (first | with_reducible exact two_strs _ _ _ | with_reducible exact two_strs2 hh | with_reducible exact two_strs3 hh); rintro e vv ⟨rfl, kk⟩))
  all_goals
    have HKK := Lib.hid (HB.out.trans (kk.mono HB.out.size))
    clear HC L1 LA
    go_wp2
    go_ret
    exact ⟨rfl, HKK.out⟩

theorem shows_ok (w0 : World) (s one two X : ByteArray) (row col : Int) (hL : LaidT w0) (hs : s.size ≤ 1000) (h1 : one.size ≤ 8) (hX : (one ++ sp8).extract 0 8 = X)
    (hR : rowsF (exT s.data.toList) = [X, two] ∧ (exT s.data.toList).row = row ∧ (exT s.data.toList).col = col) (w : World) (hW : Below w0.heap.size w0 w) :
    Calls Tryz.prog 25 #[.string s, .string one, .string two, .int .i64 row, .int .i64 col] w fun e w' => e = .returned (.bool true) ∧ Below w0.heap.size w0 w' :=
  (shows_any s one two X row col w (hL.below hW) hs h1 hX hR.1 hR.2.1 hR.2.2).mono fun _ _ ⟨k1, k2⟩ => ⟨k1, hW.trans (k2.mono hW.size)⟩

theorem spc_9 : ((⟨#[57]⟩ : ByteArray) ++ (⟨#[32, 32, 32, 32, 32, 32, 32, 32]⟩ : ByteArray).extract 1 8) = ⟨#[57, 32, 32, 32, 32, 32, 32, 32]⟩ := by decide +kernel
theorem spc_w : ((⟨#[230, 151, 165]⟩ : ByteArray) ++ (⟨#[32, 32, 32, 32, 32, 32, 32, 32]⟩ : ByteArray).extract 2 8) = ⟨#[230, 151, 165, 32, 32, 32, 32, 32, 32]⟩ := by decide +kernel
set_option maxRecDepth 100000 in
set_option maxHeartbeats 8000000 in
theorem wrapped_any (w : World) (hL : LaidT w) : Calls Tryz.prog 8 #[] w fun e w' => e = .returned (.bool true) ∧ Below w.heap.size w w' := by
  have H1 := Lib.hid (shows_ok w ⟨#[49, 50, 51, 52, 53, 54, 55, 56]⟩ ⟨#[49, 50, 51, 52, 53, 54, 55, 56]⟩ ⟨#[32, 32, 32, 32, 32, 32, 32, 32]⟩ ⟨#[49, 50, 51, 52, 53, 54, 55, 56]⟩ 0 7 hL (by decide) (by decide) (by decide +kernel) exT_1)
  have H2 := Lib.hid (shows_ok w ⟨#[49, 50, 51, 52, 53, 54, 55, 56, 57]⟩ ⟨#[49, 50, 51, 52, 53, 54, 55, 56]⟩ ⟨#[57, 32, 32, 32, 32, 32, 32, 32]⟩ ⟨#[49, 50, 51, 52, 53, 54, 55, 56]⟩ 1 1 hL (by decide) (by decide) (by decide +kernel) exT_2)
  have H3 := Lib.hid (shows_ok w ⟨#[97, 98, 27, 91, 49, 59, 49, 72, 120]⟩ ⟨#[120, 98]⟩ ⟨#[32, 32, 32, 32, 32, 32, 32, 32]⟩ ⟨#[120, 98, 32, 32, 32, 32, 32, 32]⟩ 0 1 hL (by decide) (by decide) (by decide +kernel) exT_3)
  have H4 := Lib.hid (shows_ok w ⟨#[49, 50, 51, 52, 53, 54, 55, 230, 151, 165]⟩ ⟨#[49, 50, 51, 52, 53, 54, 55, 32]⟩ ⟨#[230, 151, 165, 32, 32, 32, 32, 32, 32]⟩ ⟨#[49, 50, 51, 52, 53, 54, 55, 32]⟩ 1 2 hL (by decide) (by decide) (by decide +kernel) exT_4)
  have H5 := Lib.hid (shows_ok w ⟨#[97, 10, 10, 10]⟩ ⟨#[32, 32, 32, 32, 32, 32, 32, 32]⟩ ⟨#[32, 32, 32, 32, 32, 32, 32, 32]⟩ ⟨#[32, 32, 32, 32, 32, 32, 32, 32]⟩ 1 1 hL (by decide) (by decide) (by decide +kernel) exT_5)
  clear hL
  go_enter Tryz.func8, Tryz.ntmps8
  go_wp2_with fail
  go_fit (H1.out _ (Below.refl _ _))
  rintro e w1 ⟨rfl, hb1⟩
  go_wp2_with fail
  rw [spc_9]
  go_fit (H2.out _ hb1)
  rintro e w2 ⟨rfl, hb2⟩
  go_wp2_with fail
  go_fit (H3.out _ hb2)
  rintro e w3 ⟨rfl, hb3⟩
  go_wp2_with fail
  rw [spc_w]
  go_fit (H4.out _ hb3)
  rintro e w4 ⟨rfl, hb4⟩
  go_wp2_with fail
  go_fit (H5.out _ hb4)
  rintro e w5 ⟨rfl, hb5⟩
  go_wp2_with fail
  go_ret
  exact ⟨rfl, hb5⟩
end Go.Proofs.YtpkjaallhhjleaaGreatDoor
