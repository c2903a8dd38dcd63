/-
  limnerlaw06.GridsBack: it returns true: for every input that a row tells.
-/
import Derived.Deep.Cut
import Derived.Test.YtdibpoecdjnpaaaDoorBa41
import Derived.Test.YtdibpoecdjnpaaaDoorBa42
namespace Go.Proofs.YtdibpoecdjnpaaaDoor
open Go.RowKit

/-- A frame in a box of the law, beside what it was told. -/
structure BxF (B0 : Nat) (w0 W : World) (F : Frm) (H1 : Nat) (a1 : Option Addr) (n1 c1 : Nat) : Prop where
  base : Below B0 w0 W
  size : B0 ≤ W.heap.size
  b1 : frB W H1 F.rows F.cols (.slice a1 n1 c1) F.row F.col
  f1 : FrameW AnyB W (.agg #[.int .i64 F.rows, .int .i64 F.cols, .slice a1 n1 c1, .int .i64 F.row, .int .i64 F.col]) F
theorem BxF.next {B0 : Nat} {w0 W W' : World} {F : Frm} {H1 : Nat} {a1 : Option Addr} {n1 c1 : Nat} (h : BxF B0 w0 W F H1 a1 n1 c1) (hb : Below W.heap.size W W') : BxF B0 w0 W' F H1 a1 n1 c1 :=
  ⟨h.base.trans (hb.mono h.size), Nat.le_trans h.size hb.size, h.b1.below hb h.b1.lt, h.f1.below hb⟩
theorem BxF.cell {B0 : Nat} {w0 W : World} {F : Frm} {H1 : Nat} {a1 : Option Addr} {n1 c1 i : Nat} {c : Cel} (h : BxF B0 w0 W F H1 a1 n1 c1) (hc : F.cells[i]? = some c) : ∃ g o, a1 = some ⟨g, o, none⟩ ∧ n1 = F.cells.length ∧ cell6 W g (o + i * 6) c := by
  obtain ⟨ao, n, cap, he, h1, _, h3⟩ := h.f1
  simp at he
  obtain ⟨e1, e2, e3⟩ := he
  subst e1 e2 e3
  obtain ⟨g, o, cap', hee, _, _, hcell⟩ := h3.at_ hc
  injection hee with q1 q2 q3
  exact ⟨g, o, q1, h1, hcell i c hc⟩

set_option maxRecDepth 100000 in
set_option maxHeartbeats 16000000 in
theorem back_any {ao : Option Addr} {N cap : Nat} (p : Pnt) (s0 s1 : Int) (w : World) (hI : InkW w ao N cap p.ink) (hL : LaidW w) (hs0 : 0 ≤ s0 ∧ s0 ≤ 255) (hs1 : 0 ≤ s1 ∧ s1 ≤ 255) :
    Calls Tryd.prog 7 #[.agg #[.int .i64 p.rows, .int .i64 p.cols, .slice ao N cap, .int .i64 p.row, .int .i64 p.col], .agg #[.int .u8 s0, .int .u8 s1]] w fun e w' => e = .returned (.bool true) ∧ Below w.heap.size w w' := by
  have HS := Lib.hid (fun W (hW : Below w.heap.size w W) => lshown_any W (hL.below hW))
  have HG := Lib.hid (fun W => great_any (ao := ao) (n := N) (cap := cap) p.rows p.cols p.row p.col W)
  have hz0 : ((w.alloc (.cells #[.int .i64 p.rows, .int .i64 p.cols, .slice ao N cap, .int .i64 p.row, .int .i64 p.col] 24)).alloc (.cells #[.int .u8 s0, .int .u8 s1] 49)).heap.size = w.heap.size + 2 := by simp
  have HX : Hid (∀ W, Below (w.heap.size + 2) ((w.alloc (.cells #[.int .i64 p.rows, .int .i64 p.cols, .slice ao N cap, .int .i64 p.row, .int .i64 p.col] 24)).alloc (.cells #[.int .u8 s0, .int .u8 s1] 49)) W → Below w.heap.size w W ∧ (W.cell? ⟨w.heap.size, 0, none⟩ = some (.int .i64 p.rows) ∧ W.cell? ⟨w.heap.size, 1, none⟩ = some (.int .i64 p.cols) ∧ W.cell? ⟨w.heap.size, 2, none⟩ = some (.slice ao N cap) ∧ W.cell? ⟨w.heap.size, 3, none⟩ = some (.int .i64 p.row) ∧ W.cell? ⟨w.heap.size, 4, none⟩ = some (.int .i64 p.col)) ∧
      (W.cell? ⟨w.heap.size + 1, 0, none⟩ = some (.int .u8 s0) ∧ W.cell? ⟨w.heap.size + 1, 1, none⟩ = some (.int .u8 s1)) ∧ w.heap.size + 2 ≤ W.heap.size) := fun W hW => by
    have e0 := pnB.new w p (.slice ao N cap)
    have e0 : pnB ((w.alloc (.cells #[.int .i64 p.rows, .int .i64 p.cols, .slice ao N cap, .int .i64 p.row, .int .i64 p.col] 24)).alloc (.cells #[.int .u8 s0, .int .u8 s1] 49)) w.heap.size p (.slice ao N cap) := (Below.heap_alloc _ _ _ (by rw [World.size_alloc]; omega)).trans e0
    have e2 := heap_alloc_new (w.alloc (.cells #[.int .i64 p.rows, .int .i64 p.cols, .slice ao N cap, .int .i64 p.row, .int .i64 p.col] 24)) (.cells #[.int .u8 s0, .int .u8 s1] 49)
    rw [World.size_alloc] at e2
    have k2 := (hW.block (w.heap.size + 1) (by omega)).trans e2
    refine ⟨(((Below.refl _ w).alloc (Nat.le_refl _) _).alloc (by simp) _).trans (hW.mono (by omega)), (e0.below hW (by omega)).cells, ?_, by rw [← hz0]; exact hW.size⟩
    refine ⟨?_, ?_⟩ <;> (unfold World.cell?; rw [k2]; rfl)
  have HB0 := Lib.hid (Below.refl (w.heap.size + 2) ((w.alloc (.cells #[.int .i64 p.rows, .int .i64 p.cols, .slice ao N cap, .int .i64 p.row, .int .i64 p.col] 24)).alloc (.cells #[.int .u8 s0, .int .u8 s1] 49)))
  by_cases hg : 60 < N
  · rw [decide_eq_true hg] at HG
    clear hI hL hg hz0
    go_enter Tryd.func7, Tryd.ntmps7
    go_wp2_with fail
    go_fit (HG.out _)
    rintro e w2 ⟨rfl, hb2⟩
    have hb2' : Below (w.heap.size + 2) ((w.alloc (.cells #[.int .i64 p.rows, .int .i64 p.cols, .slice ao N cap, .int .i64 p.row, .int .i64 p.col] 24)).alloc (.cells #[.int .u8 s0, .int .u8 s1] 49)) w2 := by simpa using hb2
    have HB2 := Lib.hid (HX.out _ hb2').1
    clear hb2 hb2' HB0 HG HX
    go_wp2_with fail
    go_fit (HS.out _ HB2.out)
    rintro e w3 ⟨rfl, hb3⟩
    have HB3 := Lib.hid (HB2.out.trans (hb3.mono HB2.out.size))
    clear hb3 HB2 HS
    go_wp2
    go_ret
    exact ⟨rfl, HB3.out⟩
  · rw [decide_eq_false hg] at HG
    have HPt := Lib.hid (fun W (hW : Below w.heap.size w W) => paint_any p W (hI.below hW) (by omega))
    have hok := paint_ok p
    have h1 := dimR_in p.rows
    have h2 := dimC_in p.cols
    obtain ⟨m, hmm⟩ : ∃ m, (dimR p.rows).toNat = m := ⟨_, rfl⟩
    obtain ⟨nn, hnn⟩ : ∃ nn, (dimC p.cols).toNat = nn := ⟨_, rfl⟩
    rw [hmm, hnn] at hok
    have hFr := hok.rows
    have hFc := hok.cols
    have hF0 : (paintF p).cells.length ≤ 1000000 := Nat.le_trans hok.room (by decide)
    have hm10 : m ≤ 10 := by omega
    have hn20 : nn ≤ 20 := by omega
    obtain ⟨F, hF⟩ : ∃ F, paintF p = F := ⟨_, rfl⟩
    have HPt2 : Hid (∀ W, Below w.heap.size w W → Calls Tryd.prog 15 #[.agg #[.int .i64 p.rows, .int .i64 p.cols, .slice ao N cap, .int .i64 p.row, .int .i64 p.col]] W fun e w' => ∃ fo fn fc, e = .returned (.agg #[.int .i64 F.rows, .int .i64 F.cols, .slice fo fn fc, .int .i64 F.row, .int .i64 F.col]) ∧ FrameW AnyB w' (.agg #[.int .i64 F.rows, .int .i64 F.cols, .slice fo fn fc, .int .i64 F.row, .int .i64 F.col]) F ∧ Below W.heap.size W w') := fun W hW => by
      have := HPt.out W hW
      rw [hF] at this
      exact this
    rw [hF] at hok hFr hFc hF0
    have f1 : 2 ≤ F.rows := by have := hok.hm; omega
    have f2 : F.rows ≤ 10 := by omega
    have f3 : 8 ≤ F.cols := by have := hok.hn; omega
    have f4 : F.cols ≤ 20 := by omega
    -- larger, and back
    obtain ⟨t0, ht0⟩ : ∃ t, s0.tmod 50 = t := ⟨_, rfl⟩
    obtain ⟨t1, ht1⟩ : ∃ t, s1.tmod 100 = t := ⟨_, rfl⟩
    have q0 : 0 ≤ t0 ∧ t0 < 50 := by rw [← ht0]; exact ⟨Int.tmod_nonneg _ hs0.1, Int.tmod_lt_of_pos _ (by omega)⟩
    have q1 : 0 ≤ t1 ∧ t1 < 100 := by rw [← ht1]; exact ⟨Int.tmod_nonneg _ hs1.1, Int.tmod_lt_of_pos _ (by omega)⟩
    obtain ⟨P, hP⟩ : ∃ d, F.rows + t0 = d := ⟨_, rfl⟩
    obtain ⟨Q, hQ⟩ : ∃ d, F.cols + t1 = d := ⟨_, rfl⟩
    have hGok : OkF (resF F P Q) P.toNat Q.toNat := by
      have := res_okF hok P.toNat Q.toNat (by omega) (by omega)
      rwa [Int.toNat_of_nonneg (by omega), Int.toNat_of_nonneg (by omega)] at this
    have hGE : resE F P Q = 0 := by
      have := (resF_is hok P.toNat Q.toNat (by omega) (by omega)).2
      rwa [Int.toNat_of_nonneg (by omega), Int.toNat_of_nonneg (by omega)] at this
    have hGB : resF (resF F P Q) F.rows F.cols = F := by
      have := res_backF hok P.toNat Q.toNat (by omega) (by omega)
      rwa [Int.toNat_of_nonneg (by omega), Int.toNat_of_nonneg (by omega), ← hFr, ← hFc] at this
    have hGBE : resE (resF F P Q) F.rows F.cols = 0 := by
      have := (resF_is hGok m nn hok.hm hok.hn).2
      rwa [← hFr, ← hFc] at this
    -- smaller, and back
    obtain ⟨m1, hm1⟩ : ∃ d, F.rows - 1 = d := ⟨_, rfl⟩
    obtain ⟨m2, hm2⟩ : ∃ d, F.cols - 7 = d := ⟨_, rfl⟩
    obtain ⟨u0, hu0⟩ : ∃ t, s0.tmod m1 = t := ⟨_, rfl⟩
    obtain ⟨u1, hu1⟩ : ∃ t, s1.tmod m2 = t := ⟨_, rfl⟩
    have q2 : 0 ≤ u0 ∧ u0 < m1 := by rw [← hu0]; exact ⟨Int.tmod_nonneg _ hs0.1, Int.tmod_lt_of_pos _ (by omega)⟩
    have q3 : 0 ≤ u1 ∧ u1 < m2 := by rw [← hu1]; exact ⟨Int.tmod_nonneg _ hs1.1, Int.tmod_lt_of_pos _ (by omega)⟩
    obtain ⟨r, hr⟩ : ∃ d, 2 + u0 = d := ⟨_, rfl⟩
    obtain ⟨c, hc⟩ : ∃ d, 8 + u1 = d := ⟨_, rfl⟩
    have hAok : OkF (resF F r c) r.toNat c.toNat := by
      have := res_okF hok r.toNat c.toNat (by omega) (by omega)
      rwa [Int.toNat_of_nonneg (by omega), Int.toNat_of_nonneg (by omega)] at this
    have hAE : resE F r c = 0 := by
      have := (resF_is hok r.toNat c.toNat (by omega) (by omega)).2
      rwa [Int.toNat_of_nonneg (by omega), Int.toNat_of_nonneg (by omega)] at this
    have hBok : OkF (resF (resF F r c) F.rows F.cols) m nn := by
      have := res_okF hAok m nn hok.hm hok.hn
      rwa [← hFr, ← hFc] at this
    have hBE : resE (resF F r c) F.rows F.cols = 0 := by
      have := (resF_is hAok m nn hok.hm hok.hn).2
      rwa [← hFr, ← hFc] at this
    have hBk : ∀ i, i / nn < r.toNat → i % nn < c.toNat - 1 → (resF (resF F r c) F.rows F.cols).cells[i]? = F.cells[i]? := fun i hi hj => by
      have := res_keptF hok r.toNat c.toNat (by omega) (by omega) i hi hj
      rwa [Int.toNat_of_nonneg (by omega), Int.toNat_of_nonneg (by omega), ← hFr, ← hFc] at this
    obtain ⟨G, hG⟩ : ∃ G, resF F P Q = G := ⟨_, rfl⟩
    obtain ⟨A, hA⟩ : ∃ A, resF F r c = A := ⟨_, rfl⟩
    rw [hG] at hGok hGB hGBE
    rw [hA] at hAok hBok hBE hBk
    obtain ⟨B, hB⟩ : ∃ B, resF A F.rows F.cols = B := ⟨_, rfl⟩
    rw [hB] at hBok hBk
    have HR1 : Hid (∀ fo fn fc W, Below w.heap.size w W → FrameW AnyB W (.agg #[.int .i64 F.rows, .int .i64 F.cols, .slice fo fn fc, .int .i64 F.row, .int .i64 F.col]) F → Calls Tryd.prog 24 #[.agg #[.int .i64 F.rows, .int .i64 F.cols, .slice fo fn fc, .int .i64 F.row, .int .i64 F.col], .int .i64 P, .int .i64 Q] W fun e w' => ∃ ao n cap, e = .returned (.tuple #[.agg #[.int .i64 G.rows, .int .i64 G.cols, .slice ao n cap, .int .i64 G.row, .int .i64 G.col], .int .i64 0]) ∧ FrameW AnyB w' (.agg #[.int .i64 G.rows, .int .i64 G.cols, .slice ao n cap, .int .i64 G.row, .int .i64 G.col]) G ∧ Below W.heap.size W w') := fun fo fn fc W hW h => by
      have := frame_out2 (gres_any P Q W h (hL.below hW))
      rw [hGE, hG] at this
      exact this
    have HR2 : Hid (∀ ao n cap W, Below w.heap.size w W → FrameW AnyB W (.agg #[.int .i64 G.rows, .int .i64 G.cols, .slice ao n cap, .int .i64 G.row, .int .i64 G.col]) G → Calls Tryd.prog 24 #[.agg #[.int .i64 G.rows, .int .i64 G.cols, .slice ao n cap, .int .i64 G.row, .int .i64 G.col], .int .i64 F.rows, .int .i64 F.cols] W fun e w' => ∃ fo fn fc, e = .returned (.tuple #[.agg #[.int .i64 F.rows, .int .i64 F.cols, .slice fo fn fc, .int .i64 F.row, .int .i64 F.col], .int .i64 0]) ∧ FrameW AnyB w' (.agg #[.int .i64 F.rows, .int .i64 F.cols, .slice fo fn fc, .int .i64 F.row, .int .i64 F.col]) F ∧ Below W.heap.size W w') := fun fo fn fc W hW h => by
      have := frame_out2 (gres_any F.rows F.cols W h (hL.below hW))
      rw [hGBE, hGB] at this
      exact this
    have HR3 : Hid (∀ fo fn fc W, Below w.heap.size w W → FrameW AnyB W (.agg #[.int .i64 F.rows, .int .i64 F.cols, .slice fo fn fc, .int .i64 F.row, .int .i64 F.col]) F → Calls Tryd.prog 24 #[.agg #[.int .i64 F.rows, .int .i64 F.cols, .slice fo fn fc, .int .i64 F.row, .int .i64 F.col], .int .i64 r, .int .i64 c] W fun e w' => ∃ ao n cap, e = .returned (.tuple #[.agg #[.int .i64 A.rows, .int .i64 A.cols, .slice ao n cap, .int .i64 A.row, .int .i64 A.col], .int .i64 0]) ∧ FrameW AnyB w' (.agg #[.int .i64 A.rows, .int .i64 A.cols, .slice ao n cap, .int .i64 A.row, .int .i64 A.col]) A ∧ Below W.heap.size W w') := fun fo fn fc W hW h => by
      have := frame_out2 (gres_any r c W h (hL.below hW))
      rw [hAE, hA] at this
      exact this
    have HR4 : Hid (∀ ao n cap W, Below w.heap.size w W → FrameW AnyB W (.agg #[.int .i64 A.rows, .int .i64 A.cols, .slice ao n cap, .int .i64 A.row, .int .i64 A.col]) A → Calls Tryd.prog 24 #[.agg #[.int .i64 A.rows, .int .i64 A.cols, .slice ao n cap, .int .i64 A.row, .int .i64 A.col], .int .i64 F.rows, .int .i64 F.cols] W fun e w' => ∃ ao n cap, e = .returned (.tuple #[.agg #[.int .i64 B.rows, .int .i64 B.cols, .slice ao n cap, .int .i64 B.row, .int .i64 B.col], .int .i64 0]) ∧ FrameW AnyB w' (.agg #[.int .i64 B.rows, .int .i64 B.cols, .slice ao n cap, .int .i64 B.row, .int .i64 B.col]) B ∧ Below W.heap.size W w') := fun fo fn fc W hW h => by
      have := frame_out2 (gres_any F.rows F.cols W h (hL.below hW))
      rw [hBE, hB] at this
      exact this
    have HSm : Hid (∀ fo fn fc ao n cap W, FrameW AnyB W (.agg #[.int .i64 F.rows, .int .i64 F.cols, .slice fo fn fc, .int .i64 F.row, .int .i64 F.col]) F → FrameW AnyB W (.agg #[.int .i64 F.rows, .int .i64 F.cols, .slice ao n cap, .int .i64 F.row, .int .i64 F.col]) F → Calls Tryd.prog 13 #[.agg #[.int .i64 F.rows, .int .i64 F.cols, .slice fo fn fc, .int .i64 F.row, .int .i64 F.col], .agg #[.int .i64 F.rows, .int .i64 F.cols, .slice ao n cap, .int .i64 F.row, .int .i64 F.col]] W fun e w' => e = .returned (.bool true) ∧ Below W.heap.size W w') := fun fo fn fc ao n cap W h h' => by
      have := gsame_any W h h' hF0
      rwa [sameB_self] at this
    have HBk := Lib.hid hBk
    obtain ⟨L, hLn⟩ : ∃ L, F.cells.length = L := ⟨_, rfl⟩
    have HLn : Hid (F.cells.length = L ∧ B.cells.length = L ∧ L ≤ 20000 ∧ L = m * nn) := ⟨hLn, by rw [← hLn, hBok.len, hok.len], by rw [← hLn]; exact hok.room, by rw [← hLn, hok.len]⟩
    have HFN := Lib.hid (And.intro hFr hFc)
    have HNN : Hid (8 ≤ nn) := hok.hn.1
    have i0 : 0 ≤ s0 := hs0.1
    have i1 : s0 ≤ 255 := hs0.2
    have i2 : 0 ≤ s1 := hs1.1
    have i3 : s1 ≤ 255 := hs1.2
    obtain ⟨q0a, q0b⟩ := q0
    obtain ⟨q1a, q1b⟩ := q1
    obtain ⟨q2a, q2b⟩ := q2
    obtain ⟨q3a, q3b⟩ := q3
    clear hI hL hg hz0 hok h1 h2 hFr hFc hF0 hF HPt hGok hGE hGB hGBE hAok hAE hBok hBE hBk hG hA hB hLn hs0 hs1 hmm hnn hm10 hn20
    go_enter Tryd.func7, Tryd.ntmps7
    go_wp2_with fail
    go_fit (HG.out _)
    rintro e w2 ⟨rfl, hb2⟩
    have hb2' : Below (w.heap.size + 2) ((w.alloc (.cells #[.int .i64 p.rows, .int .i64 p.cols, .slice ao N cap, .int .i64 p.row, .int .i64 p.col] 24)).alloc (.cells #[.int .u8 s0, .int .u8 s1] 49)) w2 := by simpa using hb2
    have HB2 := Lib.hid hb2'
    obtain ⟨_, ⟨x0, x1, x2, x3, x4⟩, _⟩ := HX.out _ hb2'
    clear hb2 hb2' HB0 HG
    go_wp2_with fail
    go_fit (HPt2.out _ (HX.out _ HB2.out).1)
    rintro e w3 ⟨fo, fn, fc, rfl, hF3, hb3⟩
    have hT3 := hb3.alloc hb3.size (.cells #[.int .i64 F.rows, .int .i64 F.cols, .slice fo fn fc, .int .i64 F.row, .int .i64 F.col] 28)
    have hs3 := (HX.out _ HB2.out).2.2.2
    have HK3 : Hid (BxF (w.heap.size + 2) ((w.alloc (.cells #[.int .i64 p.rows, .int .i64 p.cols, .slice ao N cap, .int .i64 p.row, .int .i64 p.col] 24)).alloc (.cells #[.int .u8 s0, .int .u8 s1] 49)) (w3.alloc (.cells #[.int .i64 F.rows, .int .i64 F.cols, .slice fo fn fc, .int .i64 F.row, .int .i64 F.col] 28)) F w3.heap.size fo fn fc) :=
      ⟨HB2.out.trans (hT3.mono hs3), Nat.le_trans hs3 hT3.size, frB.new w3, hF3.below ((Below.refl _ w3).alloc (Nat.le_refl _) (.cells #[.int .i64 F.rows, .int .i64 F.cols, .slice fo fn fc, .int .i64 F.row, .int .i64 F.col] 28))⟩
    obtain ⟨H1, hH1⟩ : ∃ H1, w3.heap.size = H1 := ⟨_, rfl⟩
    rw [hH1] at HK3
    have hl3 : w.heap.size + 2 ≤ w3.heap.size := Nat.le_trans hs3 hb3.size
    obtain ⟨_, _, ⟨v0, v1⟩, _⟩ := HX.out _ HK3.out.base
    clear hb3 hF3 HB2 HPt2 x0 x1 x2 x3 x4 hT3 hs3
    go_wp2_with fail
    go_fit (HR1.out fo fn fc _ (HX.out _ HK3.out.base).1 HK3.out.f1)
    rintro e w4 ⟨go, gn, gc, rfl, hG4, hb4⟩
    have hT4 := hb4.alloc hb4.size (.cells #[.int .i64 G.rows, .int .i64 G.cols, .slice go gn gc, .int .i64 G.row, .int .i64 G.col] 28)
    have HK4 := Lib.hid (HK3.out.next hT4)
    have HG4 := Lib.hid (hG4.below ((Below.refl _ w4).alloc (Nat.le_refl _) (.cells #[.int .i64 G.rows, .int .i64 G.cols, .slice go gn gc, .int .i64 G.row, .int .i64 G.col] 28)))
    have hl4 : H1 < w4.heap.size := by have := hb4.size; rw [World.size_alloc] at this; omega
    obtain ⟨⟨x0, x1, x2, x3, x4⟩, _⟩ := HK4.out.b1.cells
    clear hb4 hG4 hT4 HK3 HR1 v0 v1 hl3
    go_wp2_with fail
    go_fit (HR2.out go gn gc _ (HX.out _ HK4.out.base).1 HG4.out)
    rintro e w5 ⟨ho, hn, hc', rfl, hF5, hb5⟩
    have hT5 := hb5.alloc hb5.size (.cells #[.int .i64 F.rows, .int .i64 F.cols, .slice ho hn hc', .int .i64 F.row, .int .i64 F.col] 28)
    have HK5 := Lib.hid (HK4.out.next hT5)
    have HF5 := Lib.hid (hF5.below ((Below.refl _ w5).alloc (Nat.le_refl _) (.cells #[.int .i64 F.rows, .int .i64 F.cols, .slice ho hn hc', .int .i64 F.row, .int .i64 F.col] 28)))
    have hl5 : H1 < w5.heap.size := by have := hb5.size; rw [World.size_alloc] at this; omega
    clear hb5 hF5 hT5 HK4 HR2 HG4 x0 x1 x2 x3 x4 hl4
    obtain ⟨⟨x0, x1, x2, x3, x4⟩, _⟩ := HK5.out.b1.cells
    go_wp2_with fail
    go_fit (HSm.out fo fn fc ho hn hc' _ HK5.out.f1 HF5.out)
    rintro e w6 ⟨rfl, hb6⟩
    have HK6 := Lib.hid (HK5.out.next hb6)
    clear hb6 HK5 HF5 x0 x1 x2 x3 x4 hl5 HSm
    obtain ⟨⟨x0, x1, x2, x3, x4⟩, _⟩ := HK6.out.b1.cells
    obtain ⟨_, _, ⟨v0, v1⟩, _⟩ := HX.out _ HK6.out.base
    have n0 : ¬ m1 = 0 := by omega
    have n1 : ¬ m2 = 0 := by omega
    have k0 : IntKind.i64.wrap (F.rows - 1) = m1 := by rw [IntWalk.i64_in _ (by omega)]; exact hm1
    have k1 : IntKind.i64.wrap (F.cols - 7) = m2 := by rw [IntWalk.i64_in _ (by omega)]; exact hm2
    have k2 : IntKind.i64.wrap (2 + u0) = r := by rw [IntWalk.i64_in _ (by omega)]; exact hr
    have k3 : IntKind.i64.wrap (8 + u1) = c := by rw [IntWalk.i64_in _ (by omega)]; exact hc
    have k4 : IntKind.i64.wrap s0 = s0 := IntWalk.i64_in _ (by omega)
    have k5 : IntKind.i64.wrap s1 = s1 := IntWalk.i64_in _ (by omega)
    go_wp2
    go_quiet (fail)
    obtain ⟨V, hV⟩ : ∃ V, w6.drewN nq = V := ⟨_, rfl⟩
    have HKV : Hid (BxF (w.heap.size + 2) ((w.alloc (.cells #[.int .i64 p.rows, .int .i64 p.cols, .slice ao N cap, .int .i64 p.row, .int .i64 p.col] 24)).alloc (.cells #[.int .u8 s0, .int .u8 s1] 49)) V F H1 fo fn fc) := by rw [← hV]; exact HK6.out.next ⟨rfl, rfl, rfl, Nat.le_refl _, fun _ _ => rfl⟩
    rw [hV]
    clear hV HK6 x0 x1 x2 x3 x4 v0 v1 k0 k1 k2 k3 k4 k5
    obtain ⟨⟨x0, x1, x2, x3, x4⟩, _⟩ := HKV.out.b1.cells
    go_wp2_with fail
    go_fit (HR3.out fo fn fc _ (HX.out _ HKV.out.base).1 HKV.out.f1)
    rintro e w7 ⟨ra, rn, rc, rfl, hA7, hb7⟩
    have hT7 := hb7.alloc hb7.size (.cells #[.int .i64 A.rows, .int .i64 A.cols, .slice ra rn rc, .int .i64 A.row, .int .i64 A.col] 28)
    have HK7 := Lib.hid (HKV.out.next hT7)
    have HA7 := Lib.hid (hA7.below ((Below.refl _ w7).alloc (Nat.le_refl _) (.cells #[.int .i64 A.rows, .int .i64 A.cols, .slice ra rn rc, .int .i64 A.row, .int .i64 A.col] 28)))
    have hl7 : H1 < w7.heap.size := by have := hb7.size; have := HKV.out.b1.lt; omega
    clear hb7 hA7 hT7 HKV HR3 x0 x1 x2 x3 x4
    obtain ⟨⟨x0, x1, x2, x3, x4⟩, _⟩ := HK7.out.b1.cells
    go_wp2_with fail
    go_fit (HR4.out ra rn rc _ (HX.out _ HK7.out.base).1 HA7.out)
    rintro e w8 ⟨bo, bn, bc, rfl, hB8, hb8⟩
    have hT8 := hb8.alloc hb8.size (.cells #[.int .i64 B.rows, .int .i64 B.cols, .slice bo bn bc, .int .i64 B.row, .int .i64 B.col] 28)
    have HK8 := Lib.hid (HK7.out.next hT8)
    have HP8 : Hid (BxF (w.heap.size + 2) ((w.alloc (.cells #[.int .i64 p.rows, .int .i64 p.cols, .slice ao N cap, .int .i64 p.row, .int .i64 p.col] 24)).alloc (.cells #[.int .u8 s0, .int .u8 s1] 49)) (w8.alloc (.cells #[.int .i64 B.rows, .int .i64 B.cols, .slice bo bn bc, .int .i64 B.row, .int .i64 B.col] 28)) B w8.heap.size bo bn bc) :=
      ⟨HK8.out.base, HK8.out.size, frB.new w8, hB8.below ((Below.refl _ w8).alloc (Nat.le_refl _) (.cells #[.int .i64 B.rows, .int .i64 B.cols, .slice bo bn bc, .int .i64 B.row, .int .i64 B.col] 28))⟩
    have hl8 : H1 < w8.heap.size := by have := hb8.size; rw [World.size_alloc] at this; omega
    obtain ⟨H5, hH5⟩ : ∃ H5, w8.heap.size = H5 := ⟨_, rfl⟩
    rw [hH5] at HP8
    clear hb8 hB8 hT8 HK7 HR4 HA7 x0 x1 x2 x3 x4 hl7
    obtain ⟨⟨x0, x1, x2, x3, x4⟩, _⟩ := HK8.out.b1.cells
    have hlenF : fn = L := by
      obtain ⟨_, _, _, he, h3, _⟩ := HK8.out.f1
      simp at he
      rw [he.2.1, h3]; exact HLn.out.1
    have hlenB : bn = L := by
      obtain ⟨_, _, _, he, h3, _⟩ := HP8.out.f1
      simp at he
      rw [he.2.1, h3]; exact HLn.out.2.1
    subst hlenF
    have bL : ((bn : Int) != (fn : Int)) = false := by rw [hlenB]; simp
    have HLB := Lib.hid hlenB
    have i4 : (fn : Int) ≤ 20000 := by have := HLn.out.2.2.1; omega
    have H80 : Hid (BxF (w.heap.size + 2) ((w.alloc (.cells #[.int .i64 p.rows, .int .i64 p.cols, .slice ao N cap, .int .i64 p.row, .int .i64 p.col] 24)).alloc (.cells #[.int .u8 s0, .int .u8 s1] 49)) (w8.alloc (.cells #[.int .i64 B.rows, .int .i64 B.cols, .slice bo bn bc, .int .i64 B.row, .int .i64 B.col] 28)) F H1 fo fn fc ∧ BxF (w.heap.size + 2) ((w.alloc (.cells #[.int .i64 p.rows, .int .i64 p.cols, .slice ao N cap, .int .i64 p.row, .int .i64 p.col] 24)).alloc (.cells #[.int .u8 s0, .int .u8 s1] 49)) (w8.alloc (.cells #[.int .i64 B.rows, .int .i64 B.cols, .slice bo bn bc, .int .i64 B.row, .int .i64 B.col] 28)) B H5 bo bn bc) := ⟨HK8.out, HP8.out⟩
    clear hlenB HK8 HP8
    go_wp2
    clear x0 x1 x2 x3 x4 hl8
    go_loopw [16] (fun s16 wr => ∃ i : Nat, s16 = .int .i64 (i : Int) ∧ i ≤ fn ∧ Hid (BxF (w.heap.size + 2) ((w.alloc (.cells #[.int .i64 p.rows, .int .i64 p.cols, .slice ao N cap, .int .i64 p.row, .int .i64 p.col] 24)).alloc (.cells #[.int .u8 s0, .int .u8 s1] 49)) wr F H1 fo fn fc ∧ BxF (w.heap.size + 2) ((w.alloc (.cells #[.int .i64 p.rows, .int .i64 p.cols, .slice ao N cap, .int .i64 p.row, .int .i64 p.col] 24)).alloc (.cells #[.int .u8 s0, .int .u8 s1] 49)) wr B H5 bo bn bc)) (fun s16 _ => fn - (intOf s16).toNat)
    case atStart => exact ⟨0, rfl, Nat.zero_le _, H80⟩
    case round =>
      obtain ⟨i, rfl, hi, HI⟩ := hrel
      clear H80
      obtain ⟨⟨x0, x1, x2, x3, x4⟩, _⟩ := HI.out.1.b1.cells
      by_cases hlt : i < fn
      · obtain ⟨y, hy⟩ : ∃ y, i + 1 = y := ⟨_, rfl⟩
        have hy1 : (i : Int) + 1 = (y : Int) := by omega
        have hyL : y ≤ fn := by omega
        have HY := Lib.hid hy
        have j1 : (i : Int) < (fn : Int) := by omega
        have j2 : (0 : Int) ≤ (i : Int) := by omega
        obtain ⟨a, ha⟩ : ∃ a, i / nn = a := ⟨_, rfl⟩
        obtain ⟨b, hb⟩ : ∃ b, i % nn = b := ⟨_, rfl⟩
        have e1 : (i : Int).tdiv F.cols = (a : Int) := by rw [HFN.out.2, ← ha]; exact Int.ofNat_tdiv i nn
        have e2 : (i : Int).tmod F.cols = (b : Int) := by rw [HFN.out.2, ← hb]; exact Int.ofNat_tmod i nn
        have hba : a ≤ i := by rw [← ha]; exact Nat.div_le_self i nn
        have hbb : b < nn := by rw [← hb]; exact Nat.mod_lt _ (by have := HNN.out; omega)
        have e3 : IntKind.i64.wrap ((i : Int).tdiv F.cols) = (a : Int) := by rw [e1]; exact IntWalk.i64_in _ (by omega)
        have e4 : IntKind.i64.wrap (a : Int) = (a : Int) := IntWalk.i64_in _ (by omega)
        have e5 : ¬ F.cols = 0 := by omega
        obtain ⟨c1, hc1⟩ : ∃ d, c - 1 = d := ⟨_, rfl⟩
        have e6 : IntKind.i64.wrap (c - 1) = c1 := by rw [IntWalk.i64_in _ (by omega)]; exact hc1
        have HAB := Lib.hid (And.intro ha hb)
        clear ha hb hy
        by_cases hA : (a : Int) < r
        · by_cases hB : (b : Int) < c1
          · have hcells := HBk.out i (by rw [HAB.out.1]; omega) (by rw [HAB.out.2]; omega)
            obtain ⟨cc, hcc⟩ : ∃ cc, F.cells[i]? = some cc := ⟨_, List.getElem?_eq_getElem (by have := HLn.out.1; omega)⟩
            rw [hcc] at hcells
            obtain ⟨g, o, hg1, hgn1, z0, z1, z2, z3, z4, z5⟩ := HI.out.1.cell hcc
            obtain ⟨g2, o2, hg2, hgn2, y0, y1, y2, y3, y4, y5⟩ := HI.out.2.cell hcells
            obtain ⟨⟨p0, p1, p2, p3, p4⟩, _⟩ := HI.out.2.b1.cells
            subst hg1 hg2
            have hq := fun w => cel_neq cc cc w
            rw [decide_eq_true rfl] at hq
            have hbl : (i : Int) < (bn : Int) := by have := HLB.out; omega
            have hlg := rlt z0
            have hlg2 := rlt y0
            have hl1 := rlt x0
            have hl5 := rlt p0
            clear hcells hcc HBk HX HS HLn HLB HAB HFN hgn1 hgn2
            go_wp2
            go_quiet (fail)
            go_wp2
            go_roundw
            case rel => exact ⟨y, rfl, hyL, HI.out.1.next ⟨rfl, rfl, rfl, Nat.le_refl _, fun _ _ => rfl⟩, HI.out.2.next ⟨rfl, rfl, rfl, Nat.le_refl _, fun _ _ => rfl⟩⟩
            case measure => simp [intOf]; have := HY.out; omega
          · have hB' : decide ((b : Int) < c1) = false := decide_eq_false hB
            clear hB HBk HX HS HLn HLB HAB HFN
            go_wp2
            go_quiet (fail)
            go_wp2
            go_roundw
            case rel => exact ⟨y, rfl, hyL, HI.out.1.next ⟨rfl, rfl, rfl, Nat.le_refl _, fun _ _ => rfl⟩, HI.out.2.next ⟨rfl, rfl, rfl, Nat.le_refl _, fun _ _ => rfl⟩⟩
            case measure => simp [intOf]; have := HY.out; omega
        · have hA' : decide ((a : Int) < r) = false := decide_eq_false hA
          clear hA HBk HX HS HLn HLB HAB HFN
          go_wp2
          go_quiet (fail)
          go_wp2
          go_roundw
          case rel => exact ⟨y, rfl, hyL, HI.out.1.next ⟨rfl, rfl, rfl, Nat.le_refl _, fun _ _ => rfl⟩, HI.out.2.next ⟨rfl, rfl, rfl, Nat.le_refl _, fun _ _ => rfl⟩⟩
          case measure => simp [intOf]; have := HY.out; omega
      · have HB9 := Lib.hid (HX.out _ HI.out.1.base).1
        clear HI HX HBk HLn HLB HFN
        go_wp2_with fail
        go_fit (HS.out _ HB9.out)
        rintro e w9 ⟨rfl, hb9⟩
        have HB10 := Lib.hid (HB9.out.trans (hb9.mono HB9.out.size))
        clear hb9 HS HB9
        go_wp2
        go_ret
        exact ⟨rfl, HB10.out⟩
end Go.Proofs.YtdibpoecdjnpaaaDoor
