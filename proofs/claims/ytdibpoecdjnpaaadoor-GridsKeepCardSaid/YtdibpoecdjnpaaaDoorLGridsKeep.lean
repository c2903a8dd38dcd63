/-
  limnerlaw06.GridsKeep: it returns true: for every input that a row tells.
-/
import Derived.Deep.Cut
import Derived.Test.YtdibpoecdjnpaaaDoorBa41
import Derived.Test.YtdibpoecdjnpaaaDoorBa42
namespace Go.Proofs.YtdibpoecdjnpaaaDoor
open Go.RowKit

/-- Two frames in boxes of the law, beside what it was told. -/
structure KpF (B0 : Nat) (w0 W : World) (F G : Frm) (H1 H2 : Nat) (a1 a2 : Option Addr) (n1 n2 c1 c2 : Nat) : Prop where
  base : Below B0 w0 W
  size : B0 ≤ W.heap.size
  b1 : frB W H1 F.rows F.cols (.slice a1 n1 c1) F.row F.col
  b2 : frB W H2 G.rows G.cols (.slice a2 n2 c2) G.row G.col
  f1 : FrameW AnyB W (.agg #[.int .i64 F.rows, .int .i64 F.cols, .slice a1 n1 c1, .int .i64 F.row, .int .i64 F.col]) F
  f2 : FrameW AnyB W (.agg #[.int .i64 G.rows, .int .i64 G.cols, .slice a2 n2 c2, .int .i64 G.row, .int .i64 G.col]) G
theorem KpF.next {B0 : Nat} {w0 W W' : World} {F G : Frm} {H1 H2 : Nat} {a1 a2 : Option Addr} {n1 n2 c1 c2 : Nat} (h : KpF B0 w0 W F G H1 H2 a1 a2 n1 n2 c1 c2) (hb : Below W.heap.size W W') : KpF B0 w0 W' F G H1 H2 a1 a2 n1 n2 c1 c2 :=
  ⟨h.base.trans (hb.mono h.size), Nat.le_trans h.size hb.size, h.b1.below hb h.b1.lt, h.b2.below hb h.b2.lt, h.f1.below hb, h.f2.below hb⟩

set_option maxRecDepth 100000 in
set_option maxHeartbeats 16000000 in
theorem keep_any {ao : Option Addr} {N cap : Nat} (p : Pnt) (x : Inkd) (s0 s1 : Int) (w : World) (hI : InkW w ao N cap p.ink) (hL : LaidW w) (hs0 : 0 ≤ s0 ∧ s0 ≤ 255) (hs1 : 0 ≤ s1 ∧ s1 ≤ 255) :
    Calls Tryd.prog 6 #[.agg #[.int .i64 p.rows, .int .i64 p.cols, .slice ao N cap, .int .i64 p.row, .int .i64 p.col], .agg #[.int .i64 x.row, .int .i64 x.col, .int .i32 x.r, .int .i64 x.s.1, .bool x.s.2.1, .bool x.s.2.2.1, .bool x.s.2.2.2], .agg #[.int .u8 s0, .int .u8 s1]] w fun e w' => e = .returned (.bool true) ∧ Below w.heap.size w w' := by
  have HS := Lib.hid (fun W (hW : Below w.heap.size w W) => lshown_any W (hL.below hW))
  have HG := Lib.hid (fun W => great_any (ao := ao) (n := N) (cap := cap) p.rows p.cols p.row p.col W)
  have hz0 : (((w.alloc (.cells #[.int .i64 p.rows, .int .i64 p.cols, .slice ao N cap, .int .i64 p.row, .int .i64 p.col] 24)).alloc (.cells #[.int .i64 x.row, .int .i64 x.col, .int .i32 x.r, .int .i64 x.s.1, .bool x.s.2.1, .bool x.s.2.2.1, .bool x.s.2.2.2] 37)).alloc (.cells #[.int .u8 s0, .int .u8 s1] 49)).heap.size = w.heap.size + 3 := by simp
  have HX : Hid (∀ W, Below (w.heap.size + 3) (((w.alloc (.cells #[.int .i64 p.rows, .int .i64 p.cols, .slice ao N cap, .int .i64 p.row, .int .i64 p.col] 24)).alloc (.cells #[.int .i64 x.row, .int .i64 x.col, .int .i32 x.r, .int .i64 x.s.1, .bool x.s.2.1, .bool x.s.2.2.1, .bool x.s.2.2.2] 37)).alloc (.cells #[.int .u8 s0, .int .u8 s1] 49)) W → Below w.heap.size w W ∧ (W.cell? ⟨w.heap.size, 0, none⟩ = some (.int .i64 p.rows) ∧ W.cell? ⟨w.heap.size, 1, none⟩ = some (.int .i64 p.cols) ∧ W.cell? ⟨w.heap.size, 2, none⟩ = some (.slice ao N cap) ∧ W.cell? ⟨w.heap.size, 3, none⟩ = some (.int .i64 p.row) ∧ W.cell? ⟨w.heap.size, 4, none⟩ = some (.int .i64 p.col)) ∧
      (W.cell? ⟨w.heap.size + 1, 0, none⟩ = some (.int .i64 x.row) ∧ W.cell? ⟨w.heap.size + 1, 1, none⟩ = some (.int .i64 x.col) ∧ W.cell? ⟨w.heap.size + 1, 2, none⟩ = some (.int .i32 x.r) ∧ W.cell? ⟨w.heap.size + 1, 3, none⟩ = some (.int .i64 x.s.1) ∧ W.cell? ⟨w.heap.size + 1, 4, none⟩ = some (.bool x.s.2.1) ∧ W.cell? ⟨w.heap.size + 1, 5, none⟩ = some (.bool x.s.2.2.1) ∧ W.cell? ⟨w.heap.size + 1, 6, none⟩ = some (.bool x.s.2.2.2)) ∧
      (W.cell? ⟨w.heap.size + 1 + 1, 0, none⟩ = some (.int .u8 s0) ∧ W.cell? ⟨w.heap.size + 1 + 1, 1, none⟩ = some (.int .u8 s1)) ∧ w.heap.size + 3 ≤ W.heap.size) := fun W hW => by
    have e0 := pnB.new w p (.slice ao N cap)
    have e0 : pnB (((w.alloc (.cells #[.int .i64 p.rows, .int .i64 p.cols, .slice ao N cap, .int .i64 p.row, .int .i64 p.col] 24)).alloc (.cells #[.int .i64 x.row, .int .i64 x.col, .int .i32 x.r, .int .i64 x.s.1, .bool x.s.2.1, .bool x.s.2.2.1, .bool x.s.2.2.2] 37)).alloc (.cells #[.int .u8 s0, .int .u8 s1] 49)) w.heap.size p (.slice ao N cap) := (Below.heap_alloc _ _ _ (by rw [World.size_alloc, World.size_alloc]; omega)).trans ((Below.heap_alloc _ _ _ (by rw [World.size_alloc]; omega)).trans e0)
    have e1 := heap_alloc_new (w.alloc (.cells #[.int .i64 p.rows, .int .i64 p.cols, .slice ao N cap, .int .i64 p.row, .int .i64 p.col] 24)) (.cells #[.int .i64 x.row, .int .i64 x.col, .int .i32 x.r, .int .i64 x.s.1, .bool x.s.2.1, .bool x.s.2.2.1, .bool x.s.2.2.2] 37)
    rw [World.size_alloc] at e1
    have e1 := (Below.heap_alloc _ (.cells #[.int .u8 s0, .int .u8 s1] 49) (w.heap.size + 1) (by rw [World.size_alloc, World.size_alloc]; omega)).trans e1
    have e2 := heap_alloc_new ((w.alloc (.cells #[.int .i64 p.rows, .int .i64 p.cols, .slice ao N cap, .int .i64 p.row, .int .i64 p.col] 24)).alloc (.cells #[.int .i64 x.row, .int .i64 x.col, .int .i32 x.r, .int .i64 x.s.1, .bool x.s.2.1, .bool x.s.2.2.1, .bool x.s.2.2.2] 37)) (.cells #[.int .u8 s0, .int .u8 s1] 49)
    rw [World.size_alloc, World.size_alloc] at e2
    have k1 := (hW.block (w.heap.size + 1) (by omega)).trans e1
    have k2 := (hW.block (w.heap.size + 1 + 1) (by omega)).trans e2
    refine ⟨((((Below.refl _ w).alloc (Nat.le_refl _) _).alloc (by simp) _).alloc (by simp; omega) _).trans (hW.mono (by omega)), (e0.below hW (by omega)).cells, ?_, ?_, by rw [← hz0]; exact hW.size⟩
    · refine ⟨?_, ?_, ?_, ?_, ?_, ?_, ?_⟩ <;> (unfold World.cell?; rw [k1]; rfl)
    · refine ⟨?_, ?_⟩ <;> (unfold World.cell?; rw [k2]; rfl)
  have HB0 := Lib.hid (Below.refl (w.heap.size + 3) (((w.alloc (.cells #[.int .i64 p.rows, .int .i64 p.cols, .slice ao N cap, .int .i64 p.row, .int .i64 p.col] 24)).alloc (.cells #[.int .i64 x.row, .int .i64 x.col, .int .i32 x.r, .int .i64 x.s.1, .bool x.s.2.1, .bool x.s.2.2.1, .bool x.s.2.2.2] 37)).alloc (.cells #[.int .u8 s0, .int .u8 s1] 49)))
  by_cases hg : 60 < N
  · rw [decide_eq_true hg] at HG
    clear hI hL hg hz0
    go_enter Tryd.func6, Tryd.ntmps6
    go_wp2_with fail
    go_fit (HG.out _)
    rintro e w2 ⟨rfl, hb2⟩
    have hb2' : Below (w.heap.size + 3) (((w.alloc (.cells #[.int .i64 p.rows, .int .i64 p.cols, .slice ao N cap, .int .i64 p.row, .int .i64 p.col] 24)).alloc (.cells #[.int .i64 x.row, .int .i64 x.col, .int .i32 x.r, .int .i64 x.s.1, .bool x.s.2.1, .bool x.s.2.2.1, .bool x.s.2.2.2] 37)).alloc (.cells #[.int .u8 s0, .int .u8 s1] 49)) w2 := by simpa using hb2
    have HB2 := Lib.hid (HX.out _ hb2').1
    clear hb2 hb2' HB0 HG HX
    go_wp2_with fail
    go_fit (HS.out _ HB2.out)
    rintro e w3 ⟨rfl, hb3⟩
    have HB3 := Lib.hid (HB2.out.trans (hb3.mono HB2.out.size))
    clear hb3 HB2 HS
    go_wp2
    go_ret
    exact ⟨rfl, HB3.out⟩
  · rw [decide_eq_false hg] at HG
    have HPt := Lib.hid (fun W (hW : Below w.heap.size w W) => paint_any p W (hI.below hW) (by omega))
    have hok := paint_ok p
    have h1 := dimR_in p.rows
    have h2 := dimC_in p.cols
    obtain ⟨m, hmm⟩ : ∃ m, (dimR p.rows).toNat = m := ⟨_, rfl⟩
    obtain ⟨nn, hnn⟩ : ∃ nn, (dimC p.cols).toNat = nn := ⟨_, rfl⟩
    rw [hmm, hnn] at hok
    have hFr := hok.rows
    have hFc := hok.cols
    have hF0 : (paintF p).cells.length ≤ 1000000 := Nat.le_trans hok.room (by decide)
    obtain ⟨F, hF⟩ : ∃ F, paintF p = F := ⟨_, rfl⟩
    have HPt2 : Hid (∀ W, Below w.heap.size w W → Calls Tryd.prog 15 #[.agg #[.int .i64 p.rows, .int .i64 p.cols, .slice ao N cap, .int .i64 p.row, .int .i64 p.col]] W fun e w' => ∃ fo fn fc, e = .returned (.agg #[.int .i64 F.rows, .int .i64 F.cols, .slice fo fn fc, .int .i64 F.row, .int .i64 F.col]) ∧ FrameW AnyB w' (.agg #[.int .i64 F.rows, .int .i64 F.cols, .slice fo fn fc, .int .i64 F.row, .int .i64 F.col]) F ∧ Below W.heap.size W w') := fun W hW => by
      have := HPt.out W hW
      rw [hF] at this
      exact this
    rw [hF] at hok hFr hFc hF0
    have hGok := put_okF hok x.row x.col x.r x.s
    obtain ⟨gcur1, gcur2⟩ := put_curs hok x.row x.col x.r x.s
    obtain ⟨G, hG⟩ : ∃ G, putF F x.row x.col x.r x.s = G := ⟨_, rfl⟩
    have HPut : Hid (∀ fo fn fc W, Below w.heap.size w W → FrameW AnyB W (.agg #[.int .i64 F.rows, .int .i64 F.cols, .slice fo fn fc, .int .i64 F.row, .int .i64 F.col]) F → Calls Tryd.prog 17 #[.agg #[.int .i64 F.rows, .int .i64 F.cols, .slice fo fn fc, .int .i64 F.row, .int .i64 F.col], .int .i64 x.row, .int .i64 x.col, .int .i32 x.r, .agg #[.int .i64 x.s.1, .bool x.s.2.1, .bool x.s.2.2.1, .bool x.s.2.2.2]] W fun e w' => ∃ ao n cap, e = .returned (.agg #[.int .i64 G.rows, .int .i64 G.cols, .slice ao n cap, .int .i64 G.row, .int .i64 G.col]) ∧ FrameW AnyB w' (.agg #[.int .i64 G.rows, .int .i64 G.cols, .slice ao n cap, .int .i64 G.row, .int .i64 G.col]) G ∧ Below W.heap.size W w') := fun fo fn fc W hW h => by
      have := frame_out (gput_any x.row x.col x.r x.s W h (hL.below hW))
      rw [hG] at this
      exact this
    rw [hG] at hGok gcur1 gcur2
    -- the other size
    obtain ⟨t0, ht0⟩ : ∃ t, s0.tmod 99 = t := ⟨_, rfl⟩
    obtain ⟨t1, ht1⟩ : ∃ t, s1.tmod 193 = t := ⟨_, rfl⟩
    have q0 : 0 ≤ t0 ∧ t0 < 99 := by rw [← ht0]; exact ⟨Int.tmod_nonneg _ hs0.1, Int.tmod_lt_of_pos _ (by omega)⟩
    have q1 : 0 ≤ t1 ∧ t1 < 193 := by rw [← ht1]; exact ⟨Int.tmod_nonneg _ hs1.1, Int.tmod_lt_of_pos _ (by omega)⟩
    obtain ⟨d0, hd0⟩ : ∃ d, 2 + t0 = d := ⟨_, rfl⟩
    obtain ⟨d1, hd1⟩ : ∃ d, 8 + t1 = d := ⟨_, rfl⟩
    have hRok : OkF (resF F d0 d1) d0.toNat d1.toNat := by
      have := res_okF hok d0.toNat d1.toNat (by omega) (by omega)
      rwa [Int.toNat_of_nonneg (by omega), Int.toNat_of_nonneg (by omega)] at this
    have hRE : resE F d0 d1 = 0 := by
      have := (resF_is hok d0.toNat d1.toNat (by omega) (by omega)).2
      rwa [Int.toNat_of_nonneg (by omega), Int.toNat_of_nonneg (by omega)] at this
    obtain ⟨R, hR⟩ : ∃ R, resF F d0 d1 = R := ⟨_, rfl⟩
    have HRs : Hid (∀ fo fn fc W, Below w.heap.size w W → FrameW AnyB W (.agg #[.int .i64 F.rows, .int .i64 F.cols, .slice fo fn fc, .int .i64 F.row, .int .i64 F.col]) F → Calls Tryd.prog 24 #[.agg #[.int .i64 F.rows, .int .i64 F.cols, .slice fo fn fc, .int .i64 F.row, .int .i64 F.col], .int .i64 d0, .int .i64 d1] W fun e w' => ∃ ao n cap, e = .returned (.tuple #[.agg #[.int .i64 R.rows, .int .i64 R.cols, .slice ao n cap, .int .i64 R.row, .int .i64 R.col], .int .i64 0]) ∧ FrameW AnyB w' (.agg #[.int .i64 R.rows, .int .i64 R.cols, .slice ao n cap, .int .i64 R.row, .int .i64 R.col]) R ∧ Below W.heap.size W w') := fun fo fn fc W hW h => by
      have := frame_out2 (gres_any d0 d1 W h (hL.below hW))
      rw [hRE, hR] at this
      exact this
    rw [hR] at hRok
    have HVF : Hid (∀ fo fn fc W, Below w.heap.size w W → FrameW AnyB W (.agg #[.int .i64 F.rows, .int .i64 F.cols, .slice fo fn fc, .int .i64 F.row, .int .i64 F.col]) F → Calls Tryd.prog 26 #[.agg #[.int .i64 F.rows, .int .i64 F.cols, .slice fo fn fc, .int .i64 F.row, .int .i64 F.col]] W fun e w' => e = .returned (.bool true) ∧ Below W.heap.size W w') := fun fo fn fc W hW h => by
      have := gvalid_any W h (hL.below hW)
      rwa [hok.valid] at this
    have HVG : Hid (∀ ao n cap W, Below w.heap.size w W → FrameW AnyB W (.agg #[.int .i64 G.rows, .int .i64 G.cols, .slice ao n cap, .int .i64 G.row, .int .i64 G.col]) G → Calls Tryd.prog 26 #[.agg #[.int .i64 G.rows, .int .i64 G.cols, .slice ao n cap, .int .i64 G.row, .int .i64 G.col]] W fun e w' => e = .returned (.bool true) ∧ Below W.heap.size W w') := fun fo fn fc W hW h => by
      have := gvalid_any W h (hL.below hW)
      rwa [hGok.valid] at this
    have HVR : Hid (∀ ao n cap W, Below w.heap.size w W → FrameW AnyB W (.agg #[.int .i64 R.rows, .int .i64 R.cols, .slice ao n cap, .int .i64 R.row, .int .i64 R.col]) R → Calls Tryd.prog 26 #[.agg #[.int .i64 R.rows, .int .i64 R.cols, .slice ao n cap, .int .i64 R.row, .int .i64 R.col]] W fun e w' => e = .returned (.bool true) ∧ Below W.heap.size W w') := fun fo fn fc W hW h => by
      have := gvalid_any W h (hL.below hW)
      rwa [hRok.valid] at this
    have HOf := Lib.hid (fun W (hW : Below w.heap.size w W) => of_any x.r W (hL.below hW).1)
    have HSm : Hid (∀ fo fn fc ao n cap W, FrameW AnyB W (.agg #[.int .i64 F.rows, .int .i64 F.cols, .slice fo fn fc, .int .i64 F.row, .int .i64 F.col]) F → FrameW AnyB W (.agg #[.int .i64 G.rows, .int .i64 G.cols, .slice ao n cap, .int .i64 G.row, .int .i64 G.col]) G → Calls Tryd.prog 13 #[.agg #[.int .i64 F.rows, .int .i64 F.cols, .slice fo fn fc, .int .i64 F.row, .int .i64 F.col], .agg #[.int .i64 G.rows, .int .i64 G.cols, .slice ao n cap, .int .i64 G.row, .int .i64 G.col]] W fun e w' => e = .returned (.bool (sameB F G)) ∧ Below W.heap.size W w') := fun fo fn fc ao n cap W h h' => gsame_any W h h' hF0
    have HDf : Hid (∀ fo fn fc ao n cap W, Below w.heap.size w W → FrameW AnyB W (.agg #[.int .i64 F.rows, .int .i64 F.cols, .slice fo fn fc, .int .i64 F.row, .int .i64 F.col]) F → FrameW AnyB W (.agg #[.int .i64 G.rows, .int .i64 G.cols, .slice ao n cap, .int .i64 G.row, .int .i64 G.col]) G → Calls Tryd.prog 22 #[.agg #[.int .i64 F.rows, .int .i64 F.cols, .slice fo fn fc, .int .i64 F.row, .int .i64 F.col], .agg #[.int .i64 G.rows, .int .i64 G.cols, .slice ao n cap, .int .i64 G.row, .int .i64 G.col]] W fun e w' => e = .returned (.int .i64 (diffF F G)) ∧ Below W.heap.size W w') := fun fo fn fc ao n cap W hW h h' => gdiff_any W h h' (hL.below hW)
    have HNo : Hid (canB F x.row x.col x.r x.s = false → sameB F G = true) := fun hc => by
      have : G = F := by
        rw [← hG]
        unfold putF
        rw [hok.valid, if_pos rfl, hc]
        rfl
      rw [this]; exact sameB_self F
    have HYes : Hid (canB F x.row x.col x.r x.s = true → ∀ i, i = x.row.toNat * nn + x.col.toNat → G.cells[i]? = some (x.r, (ofN x.r : Int), x.s) ∧ diffF F G ≤ (ofN x.r : Int) + 2) := fun hc i hi => by
      refine ⟨?_, ?_⟩
      · have := put_there hok hc
        rw [hG] at this
        rw [hi]; exact this
      · have h3 := put_fewF hok hc
        rw [hG] at h3
        rw [diffF_is hok hGok]
        omega
    have bRow : (G.row != F.row) = false := by rw [gcur1]; simp
    have bCol : (G.col != F.col) = false := by rw [gcur2]; simp
    have HFN := Lib.hid (And.intro hFr hFc)
    have HMN := Lib.hid (And.intro hok.hm hok.hn)
    have HGl : Hid (G.cells.length = m * nn) := hGok.len
    have i0 : 0 ≤ s0 := hs0.1
    have i1 : s0 ≤ 255 := hs0.2
    have i2 : 0 ≤ s1 := hs1.1
    have i3 : s1 ≤ 255 := hs1.2
    obtain ⟨q0a, q0b⟩ := q0
    obtain ⟨q1a, q1b⟩ := q1
    have f1 : 2 ≤ F.rows := by have := hok.hm; omega
    have f2 : F.rows ≤ 100 := by have := hok.hm; omega
    have f3 : 8 ≤ F.cols := by have := hok.hn; omega
    have f4 : F.cols ≤ 200 := by have := hok.hn; omega
    obtain ⟨dn, hdn⟩ : ∃ dn, ofN x.r = dn := ⟨_, rfl⟩
    have hdn2 : dn ≤ 2 := by rw [← hdn]; exact ofN_le _
    rw [hdn] at HOf HYes
    have HDN := Lib.hid hdn
    obtain ⟨sm, hsm⟩ : ∃ b, sameB F G = b := ⟨_, rfl⟩
    rw [hsm] at HSm HNo
    obtain ⟨df, hdf⟩ : ∃ d, diffF F G = d := ⟨_, rfl⟩
    rw [hdf] at HDf HYes
    clear hI hL hg hz0 hok h1 h2 hFr hFc hF0 hF HPt hGok gcur1 gcur2 hG hRok hRE hR hs0 hs1 hmm hnn hdn hsm hdf
    go_enter Tryd.func6, Tryd.ntmps6
    go_wp2_with fail
    go_fit (HG.out _)
    rintro e w2 ⟨rfl, hb2⟩
    have hb2' : Below (w.heap.size + 3) (((w.alloc (.cells #[.int .i64 p.rows, .int .i64 p.cols, .slice ao N cap, .int .i64 p.row, .int .i64 p.col] 24)).alloc (.cells #[.int .i64 x.row, .int .i64 x.col, .int .i32 x.r, .int .i64 x.s.1, .bool x.s.2.1, .bool x.s.2.2.1, .bool x.s.2.2.2] 37)).alloc (.cells #[.int .u8 s0, .int .u8 s1] 49)) w2 := by simpa using hb2
    have HB2 := Lib.hid hb2'
    obtain ⟨_, ⟨x0, x1, x2, x3, x4⟩, _⟩ := HX.out _ hb2'
    clear hb2 hb2' HB0 HG
    go_wp2_with fail
    go_fit (HPt2.out _ (HX.out _ HB2.out).1)
    rintro e w3 ⟨fo, fn, fc, rfl, hF3, hb3⟩
    have hT3 := hb3.alloc hb3.size (.cells #[.int .i64 F.rows, .int .i64 F.cols, .slice fo fn fc, .int .i64 F.row, .int .i64 F.col] 28)
    have HB3 := Lib.hid (HB2.out.trans (hT3.mono (HX.out _ HB2.out).2.2.2.2))
    have HF3 := Lib.hid (hF3.below ((Below.refl _ w3).alloc (Nat.le_refl _) (.cells #[.int .i64 F.rows, .int .i64 F.cols, .slice fo fn fc, .int .i64 F.row, .int .i64 F.col] 28)))
    have Hb3 := Lib.hid (frB.new (r := F.rows) (c := F.cols) (v := .slice fo fn fc) (a := F.row) (b := F.col) w3)
    obtain ⟨_, _, ⟨u0, u1, u2, u3, u4, u5, u6⟩, _⟩ := HX.out _ HB3.out
    have hl3 := (HX.out _ HB3.out).2.2.2.2
    rw [World.size_alloc] at hl3
    clear hb3 hF3 HB2 HPt2 x0 x1 x2 x3 x4 hT3
    go_wp2_with fail
    go_fit (HPut.out fo fn fc _ (HX.out _ HB3.out).1 HF3.out)
    rintro e w4 ⟨go, gn, gc, rfl, hG4, hb4⟩
    have hT4 := hb4.alloc hb4.size (.cells #[.int .i64 G.rows, .int .i64 G.cols, .slice go gn gc, .int .i64 G.row, .int .i64 G.col] 28)
    have HK4 : Hid (KpF (w.heap.size + 3) (((w.alloc (.cells #[.int .i64 p.rows, .int .i64 p.cols, .slice ao N cap, .int .i64 p.row, .int .i64 p.col] 24)).alloc (.cells #[.int .i64 x.row, .int .i64 x.col, .int .i32 x.r, .int .i64 x.s.1, .bool x.s.2.1, .bool x.s.2.2.1, .bool x.s.2.2.2] 37)).alloc (.cells #[.int .u8 s0, .int .u8 s1] 49)) (w4.alloc (.cells #[.int .i64 G.rows, .int .i64 G.cols, .slice go gn gc, .int .i64 G.row, .int .i64 G.col] 28)) F G w3.heap.size w4.heap.size fo go fn gn fc gc) :=
      ⟨HB3.out.trans (hT4.mono (HX.out _ HB3.out).2.2.2.2), Nat.le_trans (HX.out _ HB3.out).2.2.2.2 hT4.size, Hb3.out.below hT4 Hb3.out.lt, frB.new w4, HF3.out.below hT4, hG4.below ((Below.refl _ w4).alloc (Nat.le_refl _) _)⟩
    obtain ⟨H1, hH1⟩ : ∃ H1, w3.heap.size = H1 := ⟨_, rfl⟩
    obtain ⟨H2, hH2⟩ : ∃ H2, w4.heap.size = H2 := ⟨_, rfl⟩
    rw [hH1, hH2] at HK4
    obtain ⟨_, _, _, ⟨v0, v1⟩, _⟩ := HX.out _ HK4.out.base
    obtain ⟨⟨x0, x1, x2, x3, x4⟩, _⟩ := HK4.out.b1.cells
    have hl4 : w.heap.size + 3 ≤ w4.heap.size := Nat.le_trans (HX.out _ HB3.out).2.2.2.2 hb4.size
    have hl5 : H1 < w4.heap.size := by have := hb4.size; rw [World.size_alloc] at this; omega
    clear hT4 hb4 hG4 HB3 HF3 Hb3 HPut u0 u1 u2 u3 u4 u5 u6 hl3
    go_wp2_with fail
    go_fit (HRs.out fo fn fc _ (HX.out _ HK4.out.base).1 HK4.out.f1)
    rintro e w5 ⟨ro, rn, rc, rfl, hR5, hb5⟩
    have hT5 := hb5.alloc hb5.size (.cells #[.int .i64 R.rows, .int .i64 R.cols, .slice ro rn rc, .int .i64 R.row, .int .i64 R.col] 28)
    have HK5 := Lib.hid (HK4.out.next hT5)
    have HR5 := Lib.hid (hR5.below ((Below.refl _ w5).alloc (Nat.le_refl _) (.cells #[.int .i64 R.rows, .int .i64 R.cols, .slice ro rn rc, .int .i64 R.row, .int .i64 R.col] 28)))
    have Hb5 := Lib.hid (frB.new (r := R.rows) (c := R.cols) (v := .slice ro rn rc) (a := R.row) (b := R.col) w5)
    clear hb5 hR5 hT5 HK4 HRs v0 v1 x0 x1 x2 x3 x4 hl4 hl5
    obtain ⟨⟨x0, x1, x2, x3, x4⟩, _⟩ := HK5.out.b1.cells
    have hl6 := HK5.out.b1.lt
    rw [World.size_alloc] at hl6
    go_wp2_with fail
    go_fit (HVF.out fo fn fc _ (HX.out _ HK5.out.base).1 HK5.out.f1)
    rintro e w6 ⟨rfl, hb6⟩
    have HK6 := Lib.hid (HK5.out.next hb6)
    have HR6 := Lib.hid (HR5.out.below hb6)
    have Hb6 := Lib.hid (Hb5.out.below hb6 Hb5.out.lt)
    clear HK5 HR5 Hb5 hb6 x0 x1 x2 x3 x4 hl6 HVF
    obtain ⟨⟨x0, x1, x2, x3, x4⟩, _⟩ := HK6.out.b2.cells
    go_wp2_with fail
    go_fit (HVG.out go gn gc _ (HX.out _ HK6.out.base).1 HK6.out.f2)
    rintro e w7 ⟨rfl, hb7⟩
    have HK7 := Lib.hid (HK6.out.next hb7)
    have HR7 := Lib.hid (HR6.out.below hb7)
    obtain ⟨⟨y0, y1, y2, y3, y4⟩, _⟩ := (Hb6.out.below hb7 Hb6.out.lt).cells
    clear HK6 HR6 Hb6 hb7 x0 x1 x2 x3 x4 HVG
    go_wp2_with fail
    go_fit (HVR.out ro rn rc _ (HX.out _ HK7.out.base).1 HR7.out)
    rintro e w8 ⟨rfl, hb8⟩
    have HK8 := Lib.hid (HK7.out.next hb8)
    clear HK7 HR7 hb8 y0 y1 y2 y3 y4 HVR
    obtain ⟨⟨x0, x1, x2, x3, x4⟩, _⟩ := HK8.out.b1.cells
    obtain ⟨⟨y0, y1, y2, y3, y4⟩, _⟩ := HK8.out.b2.cells
    obtain ⟨_, _, ⟨u0, u1, u2, u3, u4, u5, u6⟩, _⟩ := HX.out _ HK8.out.base
    go_wp2_with fail
    go_fit (HOf.out _ (HX.out _ HK8.out.base).1)
    rintro e w9 ⟨rfl, hb9⟩
    have HK9 := Lib.hid (HK8.out.next hb9)
    clear HK8 hb9 HOf x0 x1 x2 x3 x4 y0 y1 y2 y3 y4 u0 u1 u2 u3 u4 u5 u6 bRow bCol
    obtain ⟨⟨x0, x1, x2, x3, x4⟩, _⟩ := HK9.out.b1.cells
    obtain ⟨⟨y0, y1, y2, y3, y4⟩, _⟩ := HK9.out.b2.cells
    obtain ⟨_, _, ⟨u0, u1, u2, u3, u4, u5, u6⟩, _⟩ := HX.out _ HK9.out.base
    obtain ⟨z, hz⟩ : ∃ z, F.cols - (dn : Int) = z := ⟨_, rfl⟩
    have j1 : (0 : Int) ≤ (dn : Int) := by omega
    have j2 : (dn : Int) ≤ 2 := by omega
    by_cases hn0 : dn = 0
    · have bn : ((dn : Int) == 0) = true := by rw [beq_iff_eq]; omega
      have hcan : canB F x.row x.col x.r x.s = false := canB_no (by rintro ⟨k1, ⟨k2, k3, k4, k5⟩, k6, k7⟩; rw [HDN.out] at k1 k6; omega)
      have HSv := Lib.hid (HNo.out hcan)
      rw [HSv.out] at HSm
      clear HYes HNo hcan HDf
      go_wp2_with fail
      go_fit (HSm.out fo fn fc go gn gc _ HK9.out.f1 HK9.out.f2)
      rintro e w10 ⟨rfl, hb10⟩
      have HK10 := Lib.hid (HK9.out.next hb10)
      clear HK9 hb10 HSm x0 x1 x2 x3 x4 y0 y1 y2 y3 y4 u0 u1 u2 u3 u4 u5 u6
      go_wp2_with fail
      go_fit (HS.out _ (HX.out _ HK10.out.base).1)
      rintro e w11 ⟨rfl, hb11⟩
      have HB11 := Lib.hid ((HX.out _ HK10.out.base).1.trans (hb11.mono (HX.out _ HK10.out.base).1.size))
      clear HK10 hb11 HS HX
      go_wp2
      go_ret
      exact ⟨rfl, HB11.out⟩
    have bn : ((dn : Int) == 0) = false := by rw [beq_eq_false_iff_ne]; omega
    by_cases hr0 : x.row < 0
    · have hcan : canB F x.row x.col x.r x.s = false := canB_no (by rintro ⟨k1, ⟨k2, k3, k4, k5⟩, k6, k7⟩; rw [HDN.out] at k1 k6; omega)
      have HSv := Lib.hid (HNo.out hcan)
      rw [HSv.out] at HSm
      clear HYes HNo hcan HDf
      go_wp2_with fail
      go_fit (HSm.out fo fn fc go gn gc _ HK9.out.f1 HK9.out.f2)
      rintro e w10 ⟨rfl, hb10⟩
      have HK10 := Lib.hid (HK9.out.next hb10)
      clear HK9 hb10 HSm x0 x1 x2 x3 x4 y0 y1 y2 y3 y4 u0 u1 u2 u3 u4 u5 u6
      go_wp2_with fail
      go_fit (HS.out _ (HX.out _ HK10.out.base).1)
      rintro e w11 ⟨rfl, hb11⟩
      have HB11 := Lib.hid ((HX.out _ HK10.out.base).1.trans (hb11.mono (HX.out _ HK10.out.base).1.size))
      clear HK10 hb11 HS HX
      go_wp2
      go_ret
      exact ⟨rfl, HB11.out⟩
    by_cases hr1 : F.rows ≤ x.row
    · have hcan : canB F x.row x.col x.r x.s = false := canB_no (by rintro ⟨k1, ⟨k2, k3, k4, k5⟩, k6, k7⟩; rw [HDN.out] at k1 k6; omega)
      have HSv := Lib.hid (HNo.out hcan)
      rw [HSv.out] at HSm
      clear HYes HNo hcan HDf
      go_wp2_with fail
      go_fit (HSm.out fo fn fc go gn gc _ HK9.out.f1 HK9.out.f2)
      rintro e w10 ⟨rfl, hb10⟩
      have HK10 := Lib.hid (HK9.out.next hb10)
      clear HK9 hb10 HSm x0 x1 x2 x3 x4 y0 y1 y2 y3 y4 u0 u1 u2 u3 u4 u5 u6
      go_wp2_with fail
      go_fit (HS.out _ (HX.out _ HK10.out.base).1)
      rintro e w11 ⟨rfl, hb11⟩
      have HB11 := Lib.hid ((HX.out _ HK10.out.base).1.trans (hb11.mono (HX.out _ HK10.out.base).1.size))
      clear HK10 hb11 HS HX
      go_wp2
      go_ret
      exact ⟨rfl, HB11.out⟩
    by_cases hc0 : x.col < 0
    · have hcan : canB F x.row x.col x.r x.s = false := canB_no (by rintro ⟨k1, ⟨k2, k3, k4, k5⟩, k6, k7⟩; rw [HDN.out] at k1 k6; omega)
      have HSv := Lib.hid (HNo.out hcan)
      rw [HSv.out] at HSm
      clear HYes HNo hcan HDf
      go_wp2_with fail
      go_fit (HSm.out fo fn fc go gn gc _ HK9.out.f1 HK9.out.f2)
      rintro e w10 ⟨rfl, hb10⟩
      have HK10 := Lib.hid (HK9.out.next hb10)
      clear HK9 hb10 HSm x0 x1 x2 x3 x4 y0 y1 y2 y3 y4 u0 u1 u2 u3 u4 u5 u6
      go_wp2_with fail
      go_fit (HS.out _ (HX.out _ HK10.out.base).1)
      rintro e w11 ⟨rfl, hb11⟩
      have HB11 := Lib.hid ((HX.out _ HK10.out.base).1.trans (hb11.mono (HX.out _ HK10.out.base).1.size))
      clear HK10 hb11 HS HX
      go_wp2
      go_ret
      exact ⟨rfl, HB11.out⟩
    by_cases hc1 : z < x.col
    · have hcan : canB F x.row x.col x.r x.s = false := canB_no (by rintro ⟨k1, ⟨k2, k3, k4, k5⟩, k6, k7⟩; rw [HDN.out] at k1 k6; omega)
      have HSv := Lib.hid (HNo.out hcan)
      rw [HSv.out] at HSm
      clear HYes HNo hcan HDf
      go_wp2_with fail
      go_fit (HSm.out fo fn fc go gn gc _ HK9.out.f1 HK9.out.f2)
      rintro e w10 ⟨rfl, hb10⟩
      have HK10 := Lib.hid (HK9.out.next hb10)
      clear HK9 hb10 HSm x0 x1 x2 x3 x4 y0 y1 y2 y3 y4 u0 u1 u2 u3 u4 u5 u6
      go_wp2_with fail
      go_fit (HS.out _ (HX.out _ HK10.out.base).1)
      rintro e w11 ⟨rfl, hb11⟩
      have HB11 := Lib.hid ((HX.out _ HK10.out.base).1.trans (hb11.mono (HX.out _ HK10.out.base).1.size))
      clear HK10 hb11 HS HX
      go_wp2
      go_ret
      exact ⟨rfl, HB11.out⟩
    by_cases hf0 : x.s.1 < 0
    · have hcan : canB F x.row x.col x.r x.s = false := canB_no (by rintro ⟨k1, ⟨k2, k3, k4, k5⟩, k6, k7⟩; rw [HDN.out] at k1 k6; rw [styB_iff] at k7; omega)
      have HSv := Lib.hid (HNo.out hcan)
      rw [HSv.out] at HSm
      clear HYes HNo hcan HDf
      go_wp2_with fail
      go_fit (HSm.out fo fn fc go gn gc _ HK9.out.f1 HK9.out.f2)
      rintro e w10 ⟨rfl, hb10⟩
      have HK10 := Lib.hid (HK9.out.next hb10)
      clear HK9 hb10 HSm x0 x1 x2 x3 x4 y0 y1 y2 y3 y4 u0 u1 u2 u3 u4 u5 u6
      go_wp2_with fail
      go_fit (HS.out _ (HX.out _ HK10.out.base).1)
      rintro e w11 ⟨rfl, hb11⟩
      have HB11 := Lib.hid ((HX.out _ HK10.out.base).1.trans (hb11.mono (HX.out _ HK10.out.base).1.size))
      clear HK10 hb11 HS HX
      go_wp2
      go_ret
      exact ⟨rfl, HB11.out⟩
    by_cases hf1 : 8 < x.s.1
    · have hcan : canB F x.row x.col x.r x.s = false := canB_no (by rintro ⟨k1, ⟨k2, k3, k4, k5⟩, k6, k7⟩; rw [HDN.out] at k1 k6; rw [styB_iff] at k7; omega)
      have HSv := Lib.hid (HNo.out hcan)
      rw [HSv.out] at HSm
      clear HYes HNo hcan HDf
      go_wp2_with fail
      go_fit (HSm.out fo fn fc go gn gc _ HK9.out.f1 HK9.out.f2)
      rintro e w10 ⟨rfl, hb10⟩
      have HK10 := Lib.hid (HK9.out.next hb10)
      clear HK9 hb10 HSm x0 x1 x2 x3 x4 y0 y1 y2 y3 y4 u0 u1 u2 u3 u4 u5 u6
      go_wp2_with fail
      go_fit (HS.out _ (HX.out _ HK10.out.base).1)
      rintro e w11 ⟨rfl, hb11⟩
      have HB11 := Lib.hid ((HX.out _ HK10.out.base).1.trans (hb11.mono (HX.out _ HK10.out.base).1.size))
      clear HK10 hb11 HS HX
      go_wp2
      go_ret
      exact ⟨rfl, HB11.out⟩
    have hcan : canB F x.row x.col x.r x.s = true := (canB_iff _ _ _ _ _).2 (by rw [HDN.out, styB_iff]; omega)
    obtain ⟨rw', hrw⟩ : ∃ r : Nat, x.row = (r : Int) := ⟨x.row.toNat, by omega⟩
    obtain ⟨cl', hcl⟩ : ∃ r : Nat, x.col = (r : Int) := ⟨x.col.toNat, by omega⟩
    obtain ⟨a, ha⟩ : ∃ a, rw' * nn = a := ⟨_, rfl⟩
    obtain ⟨i, hi⟩ : ∃ i, a + cl' = i := ⟨_, rfl⟩
    obtain ⟨hcell, hdiff⟩ := HYes.out hcan i (by rw [hrw, hcl, Int.toNat_natCast, Int.toNat_natCast, ha, hi])
    have hroom := row_room (n := nn) (k := rw') (m := m) (by have := HFN.out.1; omega)
    rw [ha, ← HGl.out] at hroom
    have hil : i < G.cells.length := (List.getElem?_eq_some_iff.1 hcell).1
    have hGn : G.cells.length ≤ 20000 := by rw [HGl.out]; exact Nat.mul_le_mul HMN.out.1.2 HMN.out.2.2
    have e1 : x.row * F.cols = (a : Int) := by rw [hrw, HFN.out.2, ← ha, Int.natCast_mul]
    have e2 : (a : Int) + x.col = (i : Int) := by omega
    obtain ⟨gg, go2, cap2, he, hlen2, _, hcl2⟩ := HK9.out.f2
    simp at he
    obtain ⟨he1, he2, he3⟩ := he
    subst he1 he2 he3
    obtain ⟨g, o, cap', hee, _, _, hc6⟩ := hcl2.at_ hcell
    injection hee with e11 e12 e13
    subst e11
    obtain ⟨c0, c1, c2, c3, c4, c5⟩ := hc6 i _ hcell
    have hq := fun w => cel_eql (x.r, (dn : Int), x.s) (x.r, (dn : Int), x.s) w
    rw [decide_eq_true rfl] at hq
    obtain ⟨z2, hz2⟩ : ∃ z, (dn : Int) + 2 = z := ⟨_, rfl⟩
    have e3 : df ≤ z2 := by omega
    have e4 : (i : Int) < (gn : Int) := by omega
    have e5 : (0 : Int) ≤ (i : Int) := by omega
    have e6 : (a : Int) ≤ 20000 := by omega
    have e7 : (0 : Int) ≤ (a : Int) := by omega
    have e8 : x.col < 200 := by omega
    have e9 : x.row < 100 := by omega
    have e10 : 0 ≤ x.row := by omega
    have e14 : 0 ≤ x.col := by omega
    have hbx : Below w9.heap.size w9 (w9.alloc (.cells #[.int .i32 x.r, .int .i64 (dn : Int), .int .i64 x.s.1, .bool x.s.2.1, .bool x.s.2.2.1, .bool x.s.2.2.2] 52)) := (Below.refl _ w9).alloc (Nat.le_refl _) _
    have HK10 := Lib.hid (HK9.out.next hbx)
    have hlg := rlt c0
    have hlx : w.heap.size + 1 < w9.heap.size := rlt u0
    have hl1 : H1 < w9.heap.size := rlt x0
    have hl2 : H2 < w9.heap.size := rlt y0
    clear hcan hrw hcl ha hi hcell hdiff hroom hil hGn hlen2 hcl2 hc6 hbx HYes HNo HSm HDN HGl HK9 HFN HMN e13 e12
    go_wp2_with fail
    go_fit (HDf.out _ _ _ _ _ _ _ (HX.out _ HK10.out.base).1 HK10.out.f1 HK10.out.f2)
    rintro e w11 ⟨rfl, hb11⟩
    have HK11 := Lib.hid (HK10.out.next hb11)
    clear HK10 hb11 HDf x0 x1 x2 x3 x4 y0 y1 y2 y3 y4 u0 u1 u2 u3 u4 u5 u6 c0 c1 c2 c3 c4 c5 hlg hlx hl1 hl2
    go_wp2_with fail
    go_fit (HS.out _ (HX.out _ HK11.out.base).1)
    rintro e w12 ⟨rfl, hb12⟩
    have HB12 := Lib.hid ((HX.out _ HK11.out.base).1.trans (hb12.mono (HX.out _ HK11.out.base).1.size))
    clear HK11 hb12 HS HX
    go_wp2
    go_ret
    exact ⟨rfl, HB12.out⟩
end Go.Proofs.YtdibpoecdjnpaaaDoor
