/-
  limnerlaw06.shown: the chapter's frame: it returns true.
-/
import Derived.Deep.RegionHeld3
import Derived.Deep.Cut
import Derived.Test.YtdibpoecdjnpaaaDoorBa40
namespace Go.Proofs.YtdibpoecdjnpaaaDoor
open Go.RowKit

def exF : Frm := newF 2 8
def exG : Frm := putF exF 0 6 26085 (1, false, false, false)
def exH : Frm := putF exG 0 7 97 (0, false, false, false)
theorem ex_r1 : rowsF exG = [⟨#[32, 32, 32, 32, 32, 32, 230, 151, 165]⟩, ⟨#[32, 32, 32, 32, 32, 32, 32, 32]⟩] := by decide +kernel
theorem ex_r2 : rowsF exH = [⟨#[32, 32, 32, 32, 32, 32, 32, 97]⟩, ⟨#[32, 32, 32, 32, 32, 32, 32, 32]⟩] := by decide +kernel
theorem ex_d : diffF exG exH = 2 := by decide +kernel
theorem ex_p1 : sameB (putF exG 0 7 26085 (0, false, false, false)) exG = true := by decide +kernel
theorem ex_p2 : sameB (putF exG 2 0 97 (0, false, false, false)) exG = true := by decide +kernel
theorem ex_v : validB exG = true := by decide +kernel
theorem ex_s : sameB exG exH = false := by decide +kernel
theorem ex_l : exF.cells.length = 16 ∧ exG.cells.length = 16 ∧ exH.cells.length = 16 := by decide +kernel
theorem ex_l2 : (putF exG 0 7 26085 (0, false, false, false)).cells.length = 16 ∧ (putF exG 2 0 97 (0, false, false, false)).cells.length = 16 := by decide +kernel
theorem ex_n : newE 2 8 = 0 ∧ newE 1 8 = 2 ∧ resE zeroF 2 8 = 2 := by decide +kernel
theorem ex_strs (w : World) (x y : ByteArray) : StrsV AnyB (w.alloc (.cells #[.string x, .string y] 9)) (.slice (some ⟨w.heap.size, 0, none⟩) 2 2) [x, y] := by
  have := (row_new (w := w) (cs := [.string x, .string y]) (zs := []) (n := 2) (cap := 2) (e := 9) (Nat.le_refl _))
  rw [List.append_nil] at this
  obtain ⟨ao, cap, he, h1, _, h3⟩ := this
  exact ⟨ao, cap, he, h1, fun _ _ => trivial, h3⟩

theorem below_alloc {w W : World} {o : Obj} (h : Below w.heap.size w W) : Below w.heap.size w (W.alloc o) := h.alloc h.size _
theorem below_drew2 (W : World) (o : Obj) : Below W.heap.size W (W.alloc o).drew := ((Below.refl _ W).alloc (Nat.le_refl _) _).drew
theorem strs_alloc {w : World} {v : Value} {xs : List ByteArray} {o : Obj} (h : StrsV AnyB w v xs) : StrsV AnyB (w.alloc o) v xs := h.below ((Below.refl _ _).alloc (Nat.le_refl _) _)
theorem ex_strs2 {w W : World} {x y : ByteArray} (h : Below (w.alloc (.cells #[.string x, .string y] 9)).heap.size (w.alloc (.cells #[.string x, .string y] 9)) W) : StrsV AnyB W (.slice (some ⟨w.heap.size, 0, none⟩) 2 2) [x, y] := (ex_strs w x y).below h
theorem ex_strs3 {w W : World} {x y : ByteArray} (h : Below (w.alloc (.cells #[.string x, .string y] 9)).drew.heap.size (w.alloc (.cells #[.string x, .string y] 9)).drew W) : StrsV AnyB W (.slice (some ⟨w.heap.size, 0, none⟩) 2 2) [x, y] := (ex_strs w x y).below ⟨h.os, h.tape, h.output, h.size, h.block⟩

set_option maxRecDepth 100000 in
set_option maxHeartbeats 8000000 in
theorem lshown_any (w : World) (hL : LaidW w) :
    Calls Tryd.prog 10 #[] w fun e w' => e = .returned (.bool true) ∧ Below w.heap.size w w' := by
  have HL := Lib.hid (fun W (hW : Below w.heap.size w W) => hL.below hW)
  have H1 := Lib.hid (frame_out2 (gnew_all 2 8 w hL))
  have HP1 := Lib.hid (fun ao n cap W (hW : Below w.heap.size w W) (h : FrameW AnyB W (.agg #[.int .i64 exF.rows, .int .i64 exF.cols, .slice ao n cap, .int .i64 exF.row, .int .i64 exF.col]) exF) => frame_out (gput_any 0 6 26085 (1, false, false, false) W h (HL.out W hW)))
  have HP2 := Lib.hid (fun ao n cap W (hW : Below w.heap.size w W) (h : FrameW AnyB W (.agg #[.int .i64 exG.rows, .int .i64 exG.cols, .slice ao n cap, .int .i64 exG.row, .int .i64 exG.col]) exG) => frame_out (gput_any 0 7 97 (0, false, false, false) W h (HL.out W hW)))
  have H4 := Lib.hid (fun W (hW : Below w.heap.size w W) => frame_out2 (gnew_all 1 8 W (HL.out W hW)))
  have H5 := Lib.hid (fun W (hW : Below w.heap.size w W) => frame_out2 (gres_any 2 8 W (FrameW.zero AnyB W) (HL.out W hW)))
  obtain ⟨n1, n2, n3⟩ := ex_n
  rw [n1] at H1
  rw [n2] at H4
  rw [n3] at H5
  rw [show newF 2 8 = exF from rfl] at H1
  rw [show putF exF 0 6 26085 (1, false, false, false) = exG from rfl] at HP1
  rw [show putF exG 0 7 97 (0, false, false, false) = exH from rfl] at HP2
  obtain ⟨F, hF⟩ : ∃ F, exF = F := ⟨_, rfl⟩
  obtain ⟨G, hG⟩ : ∃ G, exG = G := ⟨_, rfl⟩
  obtain ⟨K, hK⟩ : ∃ K, exH = K := ⟨_, rfl⟩
  obtain ⟨X4, hX4⟩ : ∃ X, newF 1 8 = X := ⟨_, rfl⟩
  obtain ⟨X5, hX5⟩ : ∃ X, resF zeroF 2 8 = X := ⟨_, rfl⟩
  rw [hF] at H1 HP1
  rw [hG] at HP1 HP2
  rw [hK] at HP2
  rw [hX4] at H4
  rw [hX5] at H5
  have R1 := ex_r1
  have R2 := ex_r2
  have RD := ex_d
  have RP1 := ex_p1
  have RP2 := ex_p2
  have RV := ex_v
  have RS := ex_s
  have RL := ex_l
  have RL2 := ex_l2
  rw [hG] at R1 RD RP1 RP2 RV RS RL RL2
  rw [hK] at R2 RD RS RL
  obtain ⟨Y1, hY1⟩ : ∃ Y, putF G 0 7 26085 (0, false, false, false) = Y := ⟨_, rfl⟩
  obtain ⟨Y2, hY2⟩ : ∃ Y, putF G 2 0 97 (0, false, false, false) = Y := ⟨_, rfl⟩
  rw [hY1] at RP1 RL2
  rw [hY2] at RP2 RL2
  have A1 := Lib.hid R1
  have A2 := Lib.hid R2
  have A3 := Lib.hid RD
  have A4 := Lib.hid RP1
  have A5 := Lib.hid RP2
  have A6 := Lib.hid RV
  have A7 := Lib.hid RS
  have A8 := Lib.hid RL
  have A9 := Lib.hid RL2
  have B1 := Lib.hid hY1
  have B2 := Lib.hid hY2
  clear hL n1 n2 n3 hF hG hK hX4 hX5 R1 R2 RD RP1 RP2 RV RS RL RL2 hY1 hY2
  go_enter Tryd.func10, Tryd.ntmps10
  go_wp2_with fail
  go_fit (H1.out)
  rintro e w1 ⟨a1, n1, c1, rfl, hF1, hb1⟩
  have hb1' : Below w.heap.size w (w1.alloc (.cells #[.int .i64 F.rows, .int .i64 F.cols, .slice a1 n1 c1, .int .i64 F.row, .int .i64 F.col] 28)) := hb1.alloc hb1.size _
  have hF1' := hF1.below ((Below.refl _ w1).alloc (Nat.le_refl _) (.cells #[.int .i64 F.rows, .int .i64 F.cols, .slice a1 n1 c1, .int .i64 F.row, .int .i64 F.col] 28))
  have HB1 := Lib.hid hb1'
  have HF1 := Lib.hid hF1'
  clear hb1 hF1 hb1' hF1' H1
  go_wp2_with fail
  go_fit (HP1.out a1 n1 c1 _ HB1.out HF1.out)
  rintro e w2 ⟨a2, n2, c2, rfl, hG2, hb2⟩
  have HB2 := Lib.hid ((HB1.out.trans (hb2.mono HB1.out.size)).alloc (Nat.le_trans HB1.out.size hb2.size) (.cells #[.int .i64 G.rows, .int .i64 G.cols, .slice a2 n2 c2, .int .i64 G.row, .int .i64 G.col] 28))
  have HG2 := Lib.hid (hG2.below ((Below.refl _ w2).alloc (Nat.le_refl _) (.cells #[.int .i64 G.rows, .int .i64 G.cols, .slice a2 n2 c2, .int .i64 G.row, .int .i64 G.col] 28)))
  have HbG := Lib.hid (frB.new (r := G.rows) (c := G.cols) (v := .slice a2 n2 c2) (a := G.row) (b := G.col) w2)
  clear hb2 hG2 HB1 HF1 HP1
  go_wp2_with fail
  go_fit (HP2.out a2 n2 c2 _ HB2.out HG2.out)
  rintro e w3 ⟨a3, n3, c3, rfl, hK3, hb3⟩
  have HB3 := Lib.hid ((HB2.out.trans (hb3.mono HB2.out.size)).alloc (Nat.le_trans HB2.out.size hb3.size) (.cells #[.int .i64 K.rows, .int .i64 K.cols, .slice a3 n3 c3, .int .i64 K.row, .int .i64 K.col] 28))
  have HK3 := Lib.hid (hK3.below ((Below.refl _ w3).alloc (Nat.le_refl _) (.cells #[.int .i64 K.rows, .int .i64 K.cols, .slice a3 n3 c3, .int .i64 K.row, .int .i64 K.col] 28)))
  have HG3 := Lib.hid (HG2.out.below (hb3.alloc hb3.size (.cells #[.int .i64 K.rows, .int .i64 K.cols, .slice a3 n3 c3, .int .i64 K.row, .int .i64 K.col] 28)))
  have HbG3 := Lib.hid (HbG.out.below (hb3.alloc hb3.size (.cells #[.int .i64 K.rows, .int .i64 K.cols, .slice a3 n3 c3, .int .i64 K.row, .int .i64 K.col] 28)) HbG.out.lt)
  have HbK := Lib.hid (frB.new (r := K.rows) (c := K.cols) (v := .slice a3 n3 c3) (a := K.row) (b := K.col) w3)
  clear hb3 hK3 HB2 HG2 HbG HP2
  go_wp2_with fail
  go_fit (H4.out _ HB3.out)
  rintro e w4 ⟨a4, n4, c4, rfl, _, hb4⟩
  have HB4 := Lib.hid ((HB3.out.trans (hb4.mono HB3.out.size)).alloc (Nat.le_trans HB3.out.size hb4.size) (.cells #[.int .i64 X4.rows, .int .i64 X4.cols, .slice a4 n4 c4, .int .i64 X4.row, .int .i64 X4.col] 28))
  have HT4 := Lib.hid (hb4.alloc hb4.size (.cells #[.int .i64 X4.rows, .int .i64 X4.cols, .slice a4 n4 c4, .int .i64 X4.row, .int .i64 X4.col] 28))
  have HK4 := Lib.hid (HK3.out.below HT4.out)
  have HG4 := Lib.hid (HG3.out.below HT4.out)
  have HbG4 := Lib.hid (HbG3.out.below HT4.out HbG3.out.lt)
  have HbK4 := Lib.hid (HbK.out.below HT4.out HbK.out.lt)
  clear hb4 HB3 HK3 HG3 HbG3 HbK H4 HT4
  go_wp2_with fail
  go_fit (H5.out _ HB4.out)
  rintro e w5 ⟨a5, n5, c5, rfl, _, hb5⟩
  go_upto_region 6 with (fail)
  obtain ⟨W, hW⟩ : ∃ W, w5.alloc (.cells #[.int .i64 X5.rows, .int .i64 X5.cols, .slice a5 n5 c5, .int .i64 X5.row, .int .i64 X5.col] 28) = W := ⟨_, rfl⟩
  have hT5 := hb5.alloc hb5.size (.cells #[.int .i64 X5.rows, .int .i64 X5.cols, .slice a5 n5 c5, .int .i64 X5.row, .int .i64 X5.col] 28)
  have hB5 := (HB4.out.trans (hb5.mono HB4.out.size)).alloc (Nat.le_trans HB4.out.size hb5.size) (.cells #[.int .i64 X5.rows, .int .i64 X5.cols, .slice a5 n5 c5, .int .i64 X5.row, .int .i64 X5.col] 28)
  rw [hW] at hT5 hB5
  obtain ⟨g, hg⟩ : ∃ g, w2.heap.size = g := ⟨_, rfl⟩
  obtain ⟨k, hk⟩ : ∃ k, w3.heap.size = k := ⟨_, rfl⟩
  have hbG5 := HbG4.out.below hT5 HbG4.out.lt
  have hbK5 := HbK4.out.below hT5 HbK4.out.lt
  rw [hg] at hbG5
  rw [hk] at hbK5
  have HB := Lib.hid hB5
  have HGW := Lib.hid (fun V (hV : Below W.heap.size W V) => (HG4.out.below hT5).below hV)
  have HKW := Lib.hid (fun V (hV : Below W.heap.size W V) => (HK4.out.below hT5).below hV)
  have HC : Hid (∀ V, Below W.heap.size W V → (V.cell? ⟨g, 0, none⟩ = some (.int .i64 G.rows) ∧ V.cell? ⟨g, 1, none⟩ = some (.int .i64 G.cols) ∧ V.cell? ⟨g, 2, none⟩ = some (.slice a2 n2 c2) ∧ V.cell? ⟨g, 3, none⟩ = some (.int .i64 G.row) ∧ V.cell? ⟨g, 4, none⟩ = some (.int .i64 G.col)) ∧
      (V.cell? ⟨k, 0, none⟩ = some (.int .i64 K.rows) ∧ V.cell? ⟨k, 1, none⟩ = some (.int .i64 K.cols) ∧ V.cell? ⟨k, 2, none⟩ = some (.slice a3 n3 c3) ∧ V.cell? ⟨k, 3, none⟩ = some (.int .i64 K.row) ∧ V.cell? ⟨k, 4, none⟩ = some (.int .i64 K.col))) := fun V hV =>
    ⟨(hbG5.below hV hbG5.lt).cells.1, (hbK5.below hV hbK5.lt).cells.1⟩
  rw [hW, hg, hk]
  clear hW hT5 hB5 hb5 HB4 HK4 HG4 HbG4 HbK4 H5 hbG5 hbK5 hg hk
  have HLW := Lib.hid (fun V (hV : Below W.heap.size W V) => HL.out V (HB.out.trans (hV.mono HB.out.size)))
  -- what each call of the last line returns, in whatever later world
  have L1 : Hid (∀ V, Below W.heap.size W V → Calls Tryd.prog 20 #[.agg #[.int .i64 G.rows, .int .i64 G.cols, .slice a2 n2 c2, .int .i64 G.row, .int .i64 G.col]] V fun e w' => ∃ u, e = .returned u ∧ StrsV AnyB w' u [⟨#[32, 32, 32, 32, 32, 32, 230, 151, 165]⟩, ⟨#[32, 32, 32, 32, 32, 32, 32, 32]⟩] ∧ Below W.heap.size W w' ∧ Below V.heap.size V w') := fun V hV => by
    have := grows_any V (HGW.out V hV) (HLW.out V hV)
    rw [A1.out] at this
    exact this.mono fun e w' ⟨u, k1, k2, k3⟩ => ⟨u, k1, k2, hV.trans (k3.mono hV.size), k3⟩
  have L2 : Hid (∀ V, Below W.heap.size W V → Calls Tryd.prog 20 #[.agg #[.int .i64 K.rows, .int .i64 K.cols, .slice a3 n3 c3, .int .i64 K.row, .int .i64 K.col]] V fun e w' => ∃ u, e = .returned u ∧ StrsV AnyB w' u [⟨#[32, 32, 32, 32, 32, 32, 32, 97]⟩, ⟨#[32, 32, 32, 32, 32, 32, 32, 32]⟩] ∧ Below W.heap.size W w' ∧ Below V.heap.size V w') := fun V hV => by
    have := grows_any V (HKW.out V hV) (HLW.out V hV)
    rw [A2.out] at this
    exact this.mono fun e w' ⟨u, k1, k2, k3⟩ => ⟨u, k1, k2, hV.trans (k3.mono hV.size), k3⟩
  have L3 : Hid (∀ V, Below W.heap.size W V → Calls Tryd.prog 22 #[.agg #[.int .i64 G.rows, .int .i64 G.cols, .slice a2 n2 c2, .int .i64 G.row, .int .i64 G.col], .agg #[.int .i64 K.rows, .int .i64 K.cols, .slice a3 n3 c3, .int .i64 K.row, .int .i64 K.col]] V fun e w' => e = .returned (.int .i64 2) ∧ Below W.heap.size W w') := fun V hV => by
    have := gdiff_any V (HGW.out V hV) (HKW.out V hV) (HLW.out V hV)
    rw [A3.out] at this
    exact this.mono fun e w' ⟨k1, k3⟩ => ⟨k1, hV.trans (k3.mono hV.size)⟩
  have L4 : Hid (∀ V, Below W.heap.size W V → Calls Tryd.prog 17 #[.agg #[.int .i64 G.rows, .int .i64 G.cols, .slice a2 n2 c2, .int .i64 G.row, .int .i64 G.col], .int .i64 0, .int .i64 7, .int .i32 26085, .agg #[.int .i64 0, .bool false, .bool false, .bool false]] V fun e w' => ∃ a n c, e = .returned (.agg #[.int .i64 Y1.rows, .int .i64 Y1.cols, .slice a n c, .int .i64 Y1.row, .int .i64 Y1.col]) ∧ Hid (FrameW AnyB w' (.agg #[.int .i64 Y1.rows, .int .i64 Y1.cols, .slice a n c, .int .i64 Y1.row, .int .i64 Y1.col]) Y1) ∧ Below W.heap.size W w') := fun V hV => by
    have := frame_out (gput_any 0 7 26085 (0, false, false, false) V (HGW.out V hV) (HLW.out V hV))
    rw [B1.out] at this
    exact this.mono fun e w' ⟨a, n, c, k1, k2, k3⟩ => ⟨a, n, c, k1, k2, hV.trans (k3.mono hV.size)⟩
  have L5 : Hid (∀ V, Below W.heap.size W V → Calls Tryd.prog 17 #[.agg #[.int .i64 G.rows, .int .i64 G.cols, .slice a2 n2 c2, .int .i64 G.row, .int .i64 G.col], .int .i64 2, .int .i64 0, .int .i32 97, .agg #[.int .i64 0, .bool false, .bool false, .bool false]] V fun e w' => ∃ a n c, e = .returned (.agg #[.int .i64 Y2.rows, .int .i64 Y2.cols, .slice a n c, .int .i64 Y2.row, .int .i64 Y2.col]) ∧ Hid (FrameW AnyB w' (.agg #[.int .i64 Y2.rows, .int .i64 Y2.cols, .slice a n c, .int .i64 Y2.row, .int .i64 Y2.col]) Y2) ∧ Below W.heap.size W w') := fun V hV => by
    have := frame_out (gput_any 2 0 97 (0, false, false, false) V (HGW.out V hV) (HLW.out V hV))
    rw [B2.out] at this
    exact this.mono fun e w' ⟨a, n, c, k1, k2, k3⟩ => ⟨a, n, c, k1, k2, hV.trans (k3.mono hV.size)⟩
  have L6 : Hid (∀ V a n c, Below W.heap.size W V → FrameW AnyB V (.agg #[.int .i64 Y1.rows, .int .i64 Y1.cols, .slice a n c, .int .i64 Y1.row, .int .i64 Y1.col]) Y1 → Calls Tryd.prog 13 #[.agg #[.int .i64 Y1.rows, .int .i64 Y1.cols, .slice a n c, .int .i64 Y1.row, .int .i64 Y1.col], .agg #[.int .i64 G.rows, .int .i64 G.cols, .slice a2 n2 c2, .int .i64 G.row, .int .i64 G.col]] V fun e w' => e = .returned (.bool true) ∧ Below W.heap.size W w') := fun V a n c hV h => by
    have := gsame_any V h (HGW.out V hV) (by rw [A9.out.1]; omega)
    rw [A4.out] at this
    exact this.mono fun e w' ⟨k1, k3⟩ => ⟨k1, hV.trans (k3.mono hV.size)⟩
  have L7 : Hid (∀ V a n c, Below W.heap.size W V → FrameW AnyB V (.agg #[.int .i64 Y2.rows, .int .i64 Y2.cols, .slice a n c, .int .i64 Y2.row, .int .i64 Y2.col]) Y2 → Calls Tryd.prog 13 #[.agg #[.int .i64 Y2.rows, .int .i64 Y2.cols, .slice a n c, .int .i64 Y2.row, .int .i64 Y2.col], .agg #[.int .i64 G.rows, .int .i64 G.cols, .slice a2 n2 c2, .int .i64 G.row, .int .i64 G.col]] V fun e w' => e = .returned (.bool true) ∧ Below W.heap.size W w') := fun V a n c hV h => by
    have := gsame_any V h (HGW.out V hV) (by rw [A9.out.2]; omega)
    rw [A5.out] at this
    exact this.mono fun e w' ⟨k1, k3⟩ => ⟨k1, hV.trans (k3.mono hV.size)⟩
  have L8 : Hid (∀ V, Below W.heap.size W V → Calls Tryd.prog 26 #[.agg #[.int .i64 G.rows, .int .i64 G.cols, .slice a2 n2 c2, .int .i64 G.row, .int .i64 G.col]] V fun e w' => e = .returned (.bool true) ∧ Below W.heap.size W w') := fun V hV => by
    have := gvalid_any V (HGW.out V hV) (HLW.out V hV)
    rw [A6.out] at this
    exact this.mono fun e w' ⟨k1, k3⟩ => ⟨k1, hV.trans (k3.mono hV.size)⟩
  have L9 : Hid (∀ V, Below W.heap.size W V → Calls Tryd.prog 13 #[.agg #[.int .i64 G.rows, .int .i64 G.cols, .slice a2 n2 c2, .int .i64 G.row, .int .i64 G.col], .agg #[.int .i64 K.rows, .int .i64 K.cols, .slice a3 n3 c3, .int .i64 K.row, .int .i64 K.col]] V fun e w' => e = .returned (.bool false) ∧ Below W.heap.size W w') := fun V hV => by
    have := gsame_any V (HGW.out V hV) (HKW.out V hV) (by rw [A8.out.2.1]; omega)
    rw [A7.out] at this
    exact this.mono fun e w' ⟨k1, k3⟩ => ⟨k1, hV.trans (k3.mono hV.size)⟩
  have LA : Hid (∀ V u z, Below W.heap.size W V → StrsV AnyB V u [⟨#[32, 32, 32, 32, 32, 32, 230, 151, 165]⟩, ⟨#[32, 32, 32, 32, 32, 32, 32, 32]⟩] → StrsV AnyB V z [⟨#[32, 32, 32, 32, 32, 32, 230, 151, 165]⟩, ⟨#[32, 32, 32, 32, 32, 32, 32, 32]⟩] → Calls Tryd.prog 19 #[u, z] V fun e w' => e = .returned (.bool true) ∧ Below W.heap.size W w') := fun V u z hV h hz => by
    have := strings_any V h hz (by simp)
    rw [decide_eq_true rfl] at this
    exact this.mono fun e w' ⟨k1, k3⟩ => ⟨k1, hV.trans (k3.mono hV.size)⟩
  have LB : Hid (∀ V u z, Below W.heap.size W V → StrsV AnyB V u [⟨#[32, 32, 32, 32, 32, 32, 32, 97]⟩, ⟨#[32, 32, 32, 32, 32, 32, 32, 32]⟩] → StrsV AnyB V z [⟨#[32, 32, 32, 32, 32, 32, 32, 97]⟩, ⟨#[32, 32, 32, 32, 32, 32, 32, 32]⟩] → Calls Tryd.prog 19 #[u, z] V fun e w' => e = .returned (.bool true) ∧ Below W.heap.size W w') := fun V u z hV h hz => by
    have := strings_any V h hz (by simp)
    rw [decide_eq_true rfl] at this
    exact this.mono fun e w' ⟨k1, k3⟩ => ⟨k1, hV.trans (k3.mono hV.size)⟩
  clear HLW HGW HKW HL A1 A2 A3 A4 A5 A6 A7 A8 A9 B1 B2
  have k0 : Below W.heap.size W W.drew := (Below.refl _ W).drew
  go_wp2
  go_region_held3 (fun V => (V.cell? ⟨g, 0, none⟩ = some (.int .i64 G.rows) ∧ V.cell? ⟨g, 1, none⟩ = some (.int .i64 G.cols) ∧ V.cell? ⟨g, 2, none⟩ = some (.slice a2 n2 c2) ∧ V.cell? ⟨g, 3, none⟩ = some (.int .i64 G.row) ∧ V.cell? ⟨g, 4, none⟩ = some (.int .i64 G.col)) ∧ (V.cell? ⟨k, 0, none⟩ = some (.int .i64 K.rows) ∧ V.cell? ⟨k, 1, none⟩ = some (.int .i64 K.cols) ∧ V.cell? ⟨k, 2, none⟩ = some (.slice a3 n3 c3) ∧ V.cell? ⟨k, 3, none⟩ = some (.int .i64 K.row) ∧ V.cell? ⟨k, 4, none⟩ = some (.int .i64 K.col)))
    (first | with_reducible exact HC.out _ kk | with_reducible exact HC.out _ (below_alloc kk) | with_reducible exact HC.out _ k0 | with_reducible exact HC.out _ (below_drew2 _ _))
    (first
      | (go_at_call 20; go_fit (L1.out _ ?_); (first | with_reducible exact kk | with_reducible exact below_alloc kk | with_reducible exact k0 | with_reducible exact below_drew2 _ _); rintro e vv ⟨uu, rfl, hu, kk, hh⟩)
      | (go_at_call 20; go_fit (L2.out _ ?_); (first | with_reducible exact kk | with_reducible exact below_alloc kk | with_reducible exact k0 | with_reducible exact below_drew2 _ _); rintro e vv ⟨uu, rfl, hu, kk, hh⟩)
      | (go_at_call 19; go_fit (LA.out _ _ _ ?_ ?_ ?_); (first | with_reducible exact kk | with_reducible exact below_alloc kk | with_reducible exact k0 | with_reducible exact below_drew2 _ _); (first | with_reducible exact hu | with_reducible exact strs_alloc hu); (first | with_reducible exact ex_strs _ _ _ | with_reducible exact ex_strs2 hh | with_reducible exact ex_strs3 hh); rintro e vv ⟨rfl, kk⟩)
      | (go_at_call 19; go_fit (LB.out _ _ _ ?_ ?_ ?_); (first | with_reducible exact kk | with_reducible exact below_alloc kk | with_reducible exact k0 | with_reducible exact below_drew2 _ _); (first | with_reducible exact hu | with_reducible exact strs_alloc hu); (first | with_reducible exact ex_strs _ _ _ | with_reducible exact ex_strs2 hh | with_reducible exact ex_strs3 hh); rintro e vv ⟨rfl, kk⟩)
      | (go_at_call 22; go_fit (L3.out _ ?_); (first | with_reducible exact kk | with_reducible exact below_alloc kk | with_reducible exact k0 | with_reducible exact below_drew2 _ _); rintro e vv ⟨rfl, kk⟩)
      | (go_at_call 17; go_fit (L4.out _ ?_); (first | with_reducible exact kk | with_reducible exact below_alloc kk | with_reducible exact k0 | with_reducible exact below_drew2 _ _); rintro e vv ⟨ya, yn, yc, rfl, hy, kk⟩)
      | (go_at_call 17; go_fit (L5.out _ ?_); (first | with_reducible exact kk | with_reducible exact below_alloc kk | with_reducible exact k0 | with_reducible exact below_drew2 _ _); rintro e vv ⟨ya, yn, yc, rfl, hy, kk⟩)
      | (go_at_call 13; go_fit (L6.out _ _ _ _ ?_ ?_); (first | with_reducible exact kk | with_reducible exact below_alloc kk | with_reducible exact k0 | with_reducible exact below_drew2 _ _); exact hy.out; rintro e vv ⟨rfl, kk⟩)
      | (go_at_call 13; go_fit (L7.out _ _ _ _ ?_ ?_); (first | with_reducible exact kk | with_reducible exact below_alloc kk | with_reducible exact k0 | with_reducible exact below_drew2 _ _); exact hy.out; rintro e vv ⟨rfl, kk⟩)
      | (go_at_call 26; go_fit (L8.out _ ?_); (first | with_reducible exact kk | with_reducible exact below_alloc kk | with_reducible exact k0 | with_reducible exact below_drew2 _ _); rintro e vv ⟨rfl, kk⟩)
      | (go_at_call 13; go_fit (L9.out _ ?_); (first | with_reducible exact kk | with_reducible exact below_alloc kk | with_reducible exact k0 | with_reducible exact below_drew2 _ _); rintro e vv ⟨rfl, kk⟩))
  all_goals
    have HKK := Lib.hid (HB.out.trans (kk.mono HB.out.size))
    clear HC L1 L2 L3 L4 L5 L6 L7 L8 L9 LA LB
    go_wp2
    go_ret
    exact ⟨rfl, HKK.out⟩
end Go.Proofs.YtdibpoecdjnpaaaDoor
