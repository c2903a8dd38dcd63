/-
  limnerlaw06.GridsSame: it returns true: for every input that a row tells.
-/
import Derived.Deep.Cut
import Derived.Deep.RegionHeld3
import Derived.Test.YtdibpoecdjnpaaaDoorBa41
import Derived.Test.YtdibpoecdjnpaaaDoorBa42
namespace Go.Proofs.YtdibpoecdjnpaaaDoor
open Go.RowKit

/-- Two frames in boxes of the law, beside what it was told. -/
structure SmF (w0 W : World) (F G : Frm) (H1 H2 : Nat) (a1 a2 : Option Addr) (n1 n2 c1 c2 : Nat) : Prop where
  base : Below w0.heap.size w0 W
  b1 : frB W H1 F.rows F.cols (.slice a1 n1 c1) F.row F.col
  b2 : frB W H2 G.rows G.cols (.slice a2 n2 c2) G.row G.col
  f1 : FrameW AnyB W (.agg #[.int .i64 F.rows, .int .i64 F.cols, .slice a1 n1 c1, .int .i64 F.row, .int .i64 F.col]) F
  f2 : FrameW AnyB W (.agg #[.int .i64 G.rows, .int .i64 G.cols, .slice a2 n2 c2, .int .i64 G.row, .int .i64 G.col]) G
theorem SmF.next {w0 W W' : World} {F G : Frm} {H1 H2 : Nat} {a1 a2 : Option Addr} {n1 n2 c1 c2 : Nat} (h : SmF w0 W F G H1 H2 a1 a2 n1 n2 c1 c2) (hb : Below W.heap.size W W') : SmF w0 W' F G H1 H2 a1 a2 n1 n2 c1 c2 :=
  ⟨h.base.trans (hb.mono h.base.size), h.b1.below hb h.b1.lt, h.b2.below hb h.b2.lt, h.f1.below hb, h.f2.below hb⟩

/-- A box made before a call stands behind it. -/
theorem sm_nb1 {X W : World} (h : Below (X.alloc (.cells #[.int .i64 0, .int .i64 0, .slice none 0 0, .int .i64 0, .int .i64 0] 28)).heap.size (X.alloc (.cells #[.int .i64 0, .int .i64 0, .slice none 0 0, .int .i64 0, .int .i64 0] 28)) W) : frB W X.heap.size 0 0 (.slice none 0 0) 0 0 := (frB.new X).below h (by simp)
theorem sm_nb2 {X W : World} (h : Below ((X.alloc (.cells #[.int .i64 0, .int .i64 0, .slice none 0 0, .int .i64 0, .int .i64 0] 28)).alloc (.cells #[.int .i64 0, .int .i64 0, .slice none 0 0, .int .i64 0, .int .i64 0] 28)).heap.size ((X.alloc (.cells #[.int .i64 0, .int .i64 0, .slice none 0 0, .int .i64 0, .int .i64 0] 28)).alloc (.cells #[.int .i64 0, .int .i64 0, .slice none 0 0, .int .i64 0, .int .i64 0] 28)) W) : frB W X.heap.size 0 0 (.slice none 0 0) 0 0 ∧ frB W (X.heap.size + 1) 0 0 (.slice none 0 0) 0 0 := by
  have h1 := (frB.new (r := 0) (c := 0) (v := .slice none 0 0) (a := 0) (b := 0) X).below ((Below.refl _ (X.alloc (.cells #[.int .i64 0, .int .i64 0, .slice none 0 0, .int .i64 0, .int .i64 0] 28))).alloc (Nat.le_refl _) (.cells #[.int .i64 0, .int .i64 0, .slice none 0 0, .int .i64 0, .int .i64 0] 28)) (by simp)
  have h2 := sm_nb1 (X := X.alloc (.cells #[.int .i64 0, .int .i64 0, .slice none 0 0, .int .i64 0, .int .i64 0] 28)) h
  rw [World.size_alloc] at h2
  exact ⟨h1.below h (by simp; omega), h2⟩
theorem sm_set {n : Nat} {X W : World} {A i : Nat} {u : Value} (h : Below n X W) (hA : n ≤ A) : Below n X (W.setCell ⟨A, i, none⟩ u) := h.setCell hA u
theorem sm_dr {X W : World} (h : Below X.drew.heap.size X.drew W) : Below X.heap.size X W := ((Below.refl _ X).drew).trans h
theorem sm_of {X W : World} {o : Obj} (h : Below (X.alloc o).heap.size (X.alloc o) W) : Below X.heap.size X W := ((Below.refl _ X).alloc (Nat.le_refl _) o).trans (h.mono (by simp))

/-- A frame that lies elsewhere stands behind a store into an empty box. -/
theorem sm_store {W : World} {A : Nat} {X : Frm} {fo : Option Addr} {fn fc : Nat} {r c a b : Int} {v : Value} (hz : frB W A 0 0 (.slice none 0 0) 0 0) (h : FrameW AnyB W (.agg #[.int .i64 X.rows, .int .i64 X.cols, .slice fo fn fc, .int .i64 X.row, .int .i64 X.col]) X) (h0 : 0 < X.cells.length) : FrameW AnyB (set5 W A r c v a b) (.agg #[.int .i64 X.rows, .int .i64 X.cols, .slice fo fn fc, .int .i64 X.row, .int .i64 X.col]) X := by
  obtain ⟨ao2, n2, c2, he, k1, k2, k3⟩ := h
  have hc := cels_apart (ok := fun k => k ≠ A) k3 h0 fun g hg => by
    by_cases q : g = A
    · subst q; exact .inr fun o x => hz.apart (fun _ e => by cases e) o x
    · exact .inl q
  have hc2 := RowV.keep hc (set5_keep W A r c v a b (fun k => k rfl))
  obtain ⟨ao', cap', he', q1, _, q3⟩ := hc2
  exact ⟨ao2, n2, c2, he, k1, k2, ⟨ao', cap', he', q1, fun _ _ => trivial, q3⟩⟩
theorem sm_below {w0 W : World} {A : Nat} {r c a b : Int} {v : Value} (hb : Below w0.heap.size w0 W) (hA : w0.heap.size ≤ A) : Below w0.heap.size w0 (set5 W A r c v a b) :=
  KeepW.below hb (set5_keep (ok := fun k => k ≠ A) W A r c v a b (fun k => k rfl)) hb.size (fun k hk => by show _ ≠ _; omega)
theorem sm_size {W : World} {A : Nat} {r c a b : Int} {v : Value} : (set5 W A r c v a b).heap.size = W.heap.size := by unfold set5; simp
theorem sm_1 {w0 W : World} {F G : Frm} {fo go : Option Addr} {fn fc gn gc : Nat} (hb : Below w0.heap.size w0 W) (hf : FrameW AnyB W (.agg #[.int .i64 F.rows, .int .i64 F.cols, .slice fo fn fc, .int .i64 F.row, .int .i64 F.col]) F) (hg : FrameW AnyB W (.agg #[.int .i64 G.rows, .int .i64 G.cols, .slice go gn gc, .int .i64 G.row, .int .i64 G.col]) G) : SmF w0 ((W.alloc (.cells #[.int .i64 F.rows, .int .i64 F.cols, .slice fo fn fc, .int .i64 F.row, .int .i64 F.col] 28)).alloc (.cells #[.int .i64 G.rows, .int .i64 G.cols, .slice go gn gc, .int .i64 G.row, .int .i64 G.col] 28)) F G W.heap.size (W.heap.size + 1) fo go fn gn fc gc := by
  have k := ((Below.refl _ W).alloc (Nat.le_refl _) (.cells #[.int .i64 F.rows, .int .i64 F.cols, .slice fo fn fc, .int .i64 F.row, .int .i64 F.col] 28)).alloc (by simp) (.cells #[.int .i64 G.rows, .int .i64 G.cols, .slice go gn gc, .int .i64 G.row, .int .i64 G.col] 28)
  have h1 := (frB.new (r := F.rows) (c := F.cols) (v := .slice fo fn fc) (a := F.row) (b := F.col) W).below ((Below.refl _ (W.alloc (.cells #[.int .i64 F.rows, .int .i64 F.cols, .slice fo fn fc, .int .i64 F.row, .int .i64 F.col] 28))).alloc (Nat.le_refl _) (.cells #[.int .i64 G.rows, .int .i64 G.cols, .slice go gn gc, .int .i64 G.row, .int .i64 G.col] 28)) (by simp)
  have h2 := frB.new (r := G.rows) (c := G.cols) (v := .slice go gn gc) (a := G.row) (b := G.col) (W.alloc (.cells #[.int .i64 F.rows, .int .i64 F.cols, .slice fo fn fc, .int .i64 F.row, .int .i64 F.col] 28))
  rw [World.size_alloc] at h2
  exact ⟨hb.trans (k.mono hb.size), h1, h2, hf.below k, hg.below k⟩
theorem sm_1x {w0 W : World} {F G : Frm} {fo go : Option Addr} {fn fc gn gc : Nat} (hb : Below w0.heap.size w0 W) (hf : FrameW AnyB W (.agg #[.int .i64 F.rows, .int .i64 F.cols, .slice fo fn fc, .int .i64 F.row, .int .i64 F.col]) F) (hg : FrameW AnyB W (.agg #[.int .i64 G.rows, .int .i64 G.cols, .slice go gn gc, .int .i64 G.row, .int .i64 G.col]) G) : SmF w0 ((W.alloc (.cells #[.int .i64 G.rows, .int .i64 G.cols, .slice go gn gc, .int .i64 G.row, .int .i64 G.col] 28)).alloc (.cells #[.int .i64 F.rows, .int .i64 F.cols, .slice fo fn fc, .int .i64 F.row, .int .i64 F.col] 28)) F G (W.heap.size + 1) W.heap.size fo go fn gn fc gc := by
  have k := ((Below.refl _ W).alloc (Nat.le_refl _) (.cells #[.int .i64 G.rows, .int .i64 G.cols, .slice go gn gc, .int .i64 G.row, .int .i64 G.col] 28)).alloc (by simp) (.cells #[.int .i64 F.rows, .int .i64 F.cols, .slice fo fn fc, .int .i64 F.row, .int .i64 F.col] 28)
  have h1 := (frB.new (r := G.rows) (c := G.cols) (v := .slice go gn gc) (a := G.row) (b := G.col) W).below ((Below.refl _ (W.alloc (.cells #[.int .i64 G.rows, .int .i64 G.cols, .slice go gn gc, .int .i64 G.row, .int .i64 G.col] 28))).alloc (Nat.le_refl _) (.cells #[.int .i64 F.rows, .int .i64 F.cols, .slice fo fn fc, .int .i64 F.row, .int .i64 F.col] 28)) (by simp)
  have h2 := frB.new (r := F.rows) (c := F.cols) (v := .slice fo fn fc) (a := F.row) (b := F.col) (W.alloc (.cells #[.int .i64 G.rows, .int .i64 G.cols, .slice go gn gc, .int .i64 G.row, .int .i64 G.col] 28))
  rw [World.size_alloc] at h2
  exact ⟨hb.trans (k.mono hb.size), h2, h1, hf.below k, hg.below k⟩
theorem sm_2 {w0 W : World} {F G : Frm} {fo go : Option Addr} {fn fc gn gc : Nat} {A : Nat} (hz : frB W A 0 0 (.slice none 0 0) 0 0) (hA : w0.heap.size ≤ A) (hb : Below w0.heap.size w0 W) (hf : FrameW AnyB W (.agg #[.int .i64 F.rows, .int .i64 F.cols, .slice fo fn fc, .int .i64 F.row, .int .i64 F.col]) F) (hg : FrameW AnyB W (.agg #[.int .i64 G.rows, .int .i64 G.cols, .slice go gn gc, .int .i64 G.row, .int .i64 G.col]) G) (f0 : 0 < F.cells.length) (g0 : 0 < G.cells.length) : SmF w0 ((((((W.setCell ⟨A, 0, none⟩ (.int .i64 F.rows)).setCell ⟨A, 1, none⟩ (.int .i64 F.cols)).setCell ⟨A, 2, none⟩ (.slice fo fn fc)).setCell ⟨A, 3, none⟩ (.int .i64 F.row)).setCell ⟨A, 4, none⟩ (.int .i64 F.col)).alloc (.cells #[.int .i64 G.rows, .int .i64 G.cols, .slice go gn gc, .int .i64 G.row, .int .i64 G.col] 28)) F G A W.heap.size fo go fn gn fc gc := by
  show SmF w0 ((set5 W A F.rows F.cols (.slice fo fn fc) F.row F.col).alloc (.cells #[.int .i64 G.rows, .int .i64 G.cols, .slice go gn gc, .int .i64 G.row, .int .i64 G.col] 28)) F G A W.heap.size fo go fn gn fc gc
  have e := frB.new (r := G.rows) (c := G.cols) (v := .slice go gn gc) (a := G.row) (b := G.col) (set5 W A F.rows F.cols (.slice fo fn fc) F.row F.col)
  rw [sm_size] at e
  have b1 := sm_below (r := F.rows) (c := F.cols) (v := .slice fo fn fc) (a := F.row) (b := F.col) hb hA
  have k := (Below.refl _ (set5 W A F.rows F.cols (.slice fo fn fc) F.row F.col)).alloc (Nat.le_refl _) (.cells #[.int .i64 G.rows, .int .i64 G.cols, .slice go gn gc, .int .i64 G.row, .int .i64 G.col] 28)
  exact ⟨b1.trans (k.mono b1.size), (hz.all).below k (by rw [sm_size]; exact hz.lt), e, (sm_store hz hf f0).below k, (sm_store hz hg g0).below k⟩
theorem sm_3 {w0 W : World} {F G : Frm} {fo go : Option Addr} {fn fc gn gc : Nat} {B : Nat} (hz : frB W B 0 0 (.slice none 0 0) 0 0) (hB : w0.heap.size ≤ B) (hb : Below w0.heap.size w0 W) (hf : FrameW AnyB W (.agg #[.int .i64 F.rows, .int .i64 F.cols, .slice fo fn fc, .int .i64 F.row, .int .i64 F.col]) F) (hg : FrameW AnyB W (.agg #[.int .i64 G.rows, .int .i64 G.cols, .slice go gn gc, .int .i64 G.row, .int .i64 G.col]) G) (f0 : 0 < F.cells.length) (g0 : 0 < G.cells.length) : SmF w0 ((((((W.setCell ⟨B, 0, none⟩ (.int .i64 G.rows)).setCell ⟨B, 1, none⟩ (.int .i64 G.cols)).setCell ⟨B, 2, none⟩ (.slice go gn gc)).setCell ⟨B, 3, none⟩ (.int .i64 G.row)).setCell ⟨B, 4, none⟩ (.int .i64 G.col)).alloc (.cells #[.int .i64 F.rows, .int .i64 F.cols, .slice fo fn fc, .int .i64 F.row, .int .i64 F.col] 28)) F G W.heap.size B fo go fn gn fc gc := by
  show SmF w0 ((set5 W B G.rows G.cols (.slice go gn gc) G.row G.col).alloc (.cells #[.int .i64 F.rows, .int .i64 F.cols, .slice fo fn fc, .int .i64 F.row, .int .i64 F.col] 28)) F G W.heap.size B fo go fn gn fc gc
  have e := frB.new (r := F.rows) (c := F.cols) (v := .slice fo fn fc) (a := F.row) (b := F.col) (set5 W B G.rows G.cols (.slice go gn gc) G.row G.col)
  rw [sm_size] at e
  have b1 := sm_below (r := G.rows) (c := G.cols) (v := .slice go gn gc) (a := G.row) (b := G.col) hb hB
  have k := (Below.refl _ (set5 W B G.rows G.cols (.slice go gn gc) G.row G.col)).alloc (Nat.le_refl _) (.cells #[.int .i64 F.rows, .int .i64 F.cols, .slice fo fn fc, .int .i64 F.row, .int .i64 F.col] 28)
  exact ⟨b1.trans (k.mono b1.size), e, (hz.all).below k (by rw [sm_size]; exact hz.lt), (sm_store hz hf f0).below k, (sm_store hz hg g0).below k⟩
theorem sm_4 {w0 W : World} {F G : Frm} {fo go : Option Addr} {fn fc gn gc : Nat} {A B : Nat} (hz : frB W A 0 0 (.slice none 0 0) 0 0) (hz2 : frB W B 0 0 (.slice none 0 0) 0 0) (hAB : A ≠ B) (hA : w0.heap.size ≤ A) (hB : w0.heap.size ≤ B) (hb : Below w0.heap.size w0 W) (hf : FrameW AnyB W (.agg #[.int .i64 F.rows, .int .i64 F.cols, .slice fo fn fc, .int .i64 F.row, .int .i64 F.col]) F) (hg : FrameW AnyB W (.agg #[.int .i64 G.rows, .int .i64 G.cols, .slice go gn gc, .int .i64 G.row, .int .i64 G.col]) G) (f0 : 0 < F.cells.length) (g0 : 0 < G.cells.length) : SmF w0 ((((((((((W.setCell ⟨A, 0, none⟩ (.int .i64 F.rows)).setCell ⟨A, 1, none⟩ (.int .i64 F.cols)).setCell ⟨A, 2, none⟩ (.slice fo fn fc)).setCell ⟨A, 3, none⟩ (.int .i64 F.row)).setCell ⟨A, 4, none⟩ (.int .i64 F.col)).setCell ⟨B, 0, none⟩ (.int .i64 G.rows)).setCell ⟨B, 1, none⟩ (.int .i64 G.cols)).setCell ⟨B, 2, none⟩ (.slice go gn gc)).setCell ⟨B, 3, none⟩ (.int .i64 G.row)).setCell ⟨B, 4, none⟩ (.int .i64 G.col)) F G A B fo go fn gn fc gc := by
  show SmF w0 (set5 (set5 W A F.rows F.cols (.slice fo fn fc) F.row F.col) B G.rows G.cols (.slice go gn gc) G.row G.col) F G A B fo go fn gn fc gc
  have e : frB (set5 W A F.rows F.cols (.slice fo fn fc) F.row F.col) B 0 0 (.slice none 0 0) 0 0 := hz2.keep (set5_keep (ok := fun k => k ≠ A) W A _ _ _ _ _ (fun k => k rfl)) (fun h => hAB h.symm)
  exact ⟨sm_below (sm_below hb hA) hB, (hz.all).keep (set5_keep (ok := fun k => k ≠ B) _ B _ _ _ _ _ (fun k => k rfl)) hAB, e.all, sm_store e (sm_store hz hf f0) f0, sm_store e (sm_store hz hg g0) g0⟩

set_option maxRecDepth 100000 in
set_option maxHeartbeats 16000000 in
theorem same2_any {ao ao2 : Option Addr} {N cap N2 cap2 : Nat} (p q : Pnt) (w : World) (hI : InkW w ao N cap p.ink) (hI2 : InkW w ao2 N2 cap2 q.ink) (hL : LaidW w) :
    Calls Tryd.prog 8 #[.agg #[.int .i64 p.rows, .int .i64 p.cols, .slice ao N cap, .int .i64 p.row, .int .i64 p.col], .agg #[.int .i64 q.rows, .int .i64 q.cols, .slice ao2 N2 cap2, .int .i64 q.row, .int .i64 q.col]] w fun e w' => e = .returned (.bool true) ∧ Below w.heap.size w w' := by
  have HS := Lib.hid (fun W (hW : Below w.heap.size w W) => lshown_any W (hL.below hW))
  have HG := Lib.hid (fun W => great_any (ao := ao) (n := N) (cap := cap) p.rows p.cols p.row p.col W)
  have HG2 := Lib.hid (fun W => great_any (ao := ao2) (n := N2) (cap := cap2) q.rows q.cols q.row q.col W)
  have hz0 : ((w.alloc (.cells #[.int .i64 p.rows, .int .i64 p.cols, .slice ao N cap, .int .i64 p.row, .int .i64 p.col] 24)).alloc (.cells #[.int .i64 q.rows, .int .i64 q.cols, .slice ao2 N2 cap2, .int .i64 q.row, .int .i64 q.col] 24)).heap.size = w.heap.size + 2 := by simp
  have HX : Hid (∀ W, Below (w.heap.size + 2) ((w.alloc (.cells #[.int .i64 p.rows, .int .i64 p.cols, .slice ao N cap, .int .i64 p.row, .int .i64 p.col] 24)).alloc (.cells #[.int .i64 q.rows, .int .i64 q.cols, .slice ao2 N2 cap2, .int .i64 q.row, .int .i64 q.col] 24)) W → Below w.heap.size w W ∧ pnB W w.heap.size p (.slice ao N cap) ∧ pnB W (w.heap.size + 1) q (.slice ao2 N2 cap2) ∧ w.heap.size + 2 ≤ W.heap.size) := fun W hW => by
    have e0 := pnB.new w p (.slice ao N cap)
    have e0 : pnB ((w.alloc (.cells #[.int .i64 p.rows, .int .i64 p.cols, .slice ao N cap, .int .i64 p.row, .int .i64 p.col] 24)).alloc (.cells #[.int .i64 q.rows, .int .i64 q.cols, .slice ao2 N2 cap2, .int .i64 q.row, .int .i64 q.col] 24)) w.heap.size p (.slice ao N cap) := (Below.heap_alloc _ _ _ (by rw [World.size_alloc]; omega)).trans e0
    have e2 := pnB.new (w.alloc (.cells #[.int .i64 p.rows, .int .i64 p.cols, .slice ao N cap, .int .i64 p.row, .int .i64 p.col] 24)) q (.slice ao2 N2 cap2)
    rw [World.size_alloc] at e2
    exact ⟨(((Below.refl _ w).alloc (Nat.le_refl _) _).alloc (by simp) _).trans (hW.mono (by omega)), e0.below hW (by omega), e2.below hW (by omega), by rw [← hz0]; exact hW.size⟩
  have HB0 := Lib.hid (Below.refl (w.heap.size + 2) ((w.alloc (.cells #[.int .i64 p.rows, .int .i64 p.cols, .slice ao N cap, .int .i64 p.row, .int .i64 p.col] 24)).alloc (.cells #[.int .i64 q.rows, .int .i64 q.cols, .slice ao2 N2 cap2, .int .i64 q.row, .int .i64 q.col] 24)))
  by_cases hg : 60 < N
  · rw [decide_eq_true hg] at HG
    clear hI hI2 hL hg hz0 HG2
    go_enter Tryd.func8, Tryd.ntmps8
    go_wp2_with fail
    go_fit (HG.out _)
    rintro e w2 ⟨rfl, hb2⟩
    have HB2 := Lib.hid (HX.out _ (show Below (w.heap.size + 2) ((w.alloc (.cells #[.int .i64 p.rows, .int .i64 p.cols, .slice ao N cap, .int .i64 p.row, .int .i64 p.col] 24)).alloc (.cells #[.int .i64 q.rows, .int .i64 q.cols, .slice ao2 N2 cap2, .int .i64 q.row, .int .i64 q.col] 24)) w2 by simpa using hb2)).1
    clear hb2 HB0 HG HX
    go_wp2_with fail
    go_fit (HS.out _ HB2.out)
    rintro e w3 ⟨rfl, hb3⟩
    have HB3 := Lib.hid (HB2.out.trans (hb3.mono HB2.out.size))
    clear hb3 HB2 HS
    go_wp2
    go_ret
    exact ⟨rfl, HB3.out⟩
  rw [decide_eq_false hg] at HG
  by_cases hg2 : 60 < N2
  · rw [decide_eq_true hg2] at HG2
    clear hI hI2 hL hg hg2 hz0
    go_enter Tryd.func8, Tryd.ntmps8
    go_wp2_with fail
    go_fit (HG.out _)
    rintro e w2 ⟨rfl, hb2⟩
    have HB2 := Lib.hid (show Below (w.heap.size + 2) ((w.alloc (.cells #[.int .i64 p.rows, .int .i64 p.cols, .slice ao N cap, .int .i64 p.row, .int .i64 p.col] 24)).alloc (.cells #[.int .i64 q.rows, .int .i64 q.cols, .slice ao2 N2 cap2, .int .i64 q.row, .int .i64 q.col] 24)) w2 by simpa using hb2)
    obtain ⟨x0, x1, x2, x3, x4⟩ := (HX.out _ HB2.out).2.2.1.cells
    clear hb2 HB0 HG
    go_wp2_with fail
    go_fit (HG2.out _)
    rintro e w3 ⟨rfl, hb3⟩
    have HB3 := Lib.hid (HX.out _ (HB2.out.trans (hb3.mono (HX.out _ HB2.out).2.2.2))).1
    clear hb3 HB2 HG2 HX x0 x1 x2 x3 x4
    go_wp2_with fail
    go_fit (HS.out _ HB3.out)
    rintro e w4 ⟨rfl, hb4⟩
    have HB4 := Lib.hid (HB3.out.trans (hb4.mono HB3.out.size))
    clear hb4 HB3 HS
    go_wp2
    go_ret
    exact ⟨rfl, HB4.out⟩
  rw [decide_eq_false hg2] at HG2
  obtain ⟨q2, hq2⟩ : ∃ q2 : Pnt, q2 = { q with rows := p.rows, cols := p.cols } := ⟨_, rfl⟩
  have hq2i : q2.ink = q.ink := by rw [hq2]
  have hI2' : InkW w ao2 N2 cap2 q2.ink := by rw [hq2i]; exact hI2
  have HPt := Lib.hid (fun W (hW : Below w.heap.size w W) => paint_any p W (hI.below hW) (by omega))
  have hPt2 := fun W (hW : Below w.heap.size w W) => paint_any q2 W (hI2'.below hW) (by omega)
  have hok := paint_ok p
  have hok2 := paint_ok q2
  have h1 := dimR_in p.rows
  have h2 := dimC_in p.cols
  rw [show q2.rows = p.rows by rw [hq2], show q2.cols = p.cols by rw [hq2]] at hok2
  obtain ⟨m, hmm⟩ : ∃ m, (dimR p.rows).toNat = m := ⟨_, rfl⟩
  obtain ⟨nn, hnn⟩ : ∃ nn, (dimC p.cols).toNat = nn := ⟨_, rfl⟩
  rw [hmm, hnn] at hok hok2
  obtain ⟨F, hF⟩ : ∃ F, paintF p = F := ⟨_, rfl⟩
  obtain ⟨G, hG⟩ : ∃ G, paintF q2 = G := ⟨_, rfl⟩
  have HPF : Hid (∀ W, Below w.heap.size w W → Calls Tryd.prog 15 #[.agg #[.int .i64 p.rows, .int .i64 p.cols, .slice ao N cap, .int .i64 p.row, .int .i64 p.col]] W fun e w' => ∃ fo fn fc, e = .returned (.agg #[.int .i64 F.rows, .int .i64 F.cols, .slice fo fn fc, .int .i64 F.row, .int .i64 F.col]) ∧ FrameW AnyB w' (.agg #[.int .i64 F.rows, .int .i64 F.cols, .slice fo fn fc, .int .i64 F.row, .int .i64 F.col]) F ∧ Below W.heap.size W w') := fun W hW => by
    have := HPt.out W hW
    rw [hF] at this
    exact this
  have HPG : Hid (∀ W, Below w.heap.size w W → Calls Tryd.prog 15 #[.agg #[.int .i64 p.rows, .int .i64 p.cols, .slice ao2 N2 cap2, .int .i64 q.row, .int .i64 q.col]] W fun e w' => ∃ fo fn fc, e = .returned (.agg #[.int .i64 G.rows, .int .i64 G.cols, .slice fo fn fc, .int .i64 G.row, .int .i64 G.col]) ∧ FrameW AnyB w' (.agg #[.int .i64 G.rows, .int .i64 G.cols, .slice fo fn fc, .int .i64 G.row, .int .i64 G.col]) G ∧ Below W.heap.size W w') := fun W hW => by
    have := hPt2 W hW
    rw [hG] at this
    rw [hq2] at this
    exact this
  rw [hF] at hok
  rw [hG] at hok2
  have HF1 : Hid (0 < F.cells.length) := by show _ < _; rw [hok.len]; exact Nat.mul_pos (by have := hok.hm; omega) (by have := hok.hn; omega)
  have HG1 : Hid (0 < G.cells.length) := by show _ < _; rw [hok2.len]; exact Nat.mul_pos (by have := hok2.hm; omega) (by have := hok2.hn; omega)
  have hF0 : F.cells.length ≤ 1000000 := Nat.le_trans hok.room (by decide)
  obtain ⟨D, hD⟩ : ∃ D, diffF F G = D := ⟨_, rfl⟩
  have hD0 : 0 ≤ D := by rw [← hD, diffF_is hok hok2]; omega
  have hD1 : diffF G F = D := by rw [← hD, diffF_is hok2 hok, diffF_is hok hok2, diff_comm]
  have hD2 : diffF F F = 0 := by rw [diffF_is hok hok, diff_self]; rfl
  have hSm := diffF_zero hok hok2
  rw [hD] at hSm
  have HD1 : Hid (∀ fo fn fc go gn gc W, Below w.heap.size w W → FrameW AnyB W (.agg #[.int .i64 F.rows, .int .i64 F.cols, .slice fo fn fc, .int .i64 F.row, .int .i64 F.col]) F → FrameW AnyB W (.agg #[.int .i64 G.rows, .int .i64 G.cols, .slice go gn gc, .int .i64 G.row, .int .i64 G.col]) G → Calls Tryd.prog 22 #[.agg #[.int .i64 F.rows, .int .i64 F.cols, .slice fo fn fc, .int .i64 F.row, .int .i64 F.col], .agg #[.int .i64 G.rows, .int .i64 G.cols, .slice go gn gc, .int .i64 G.row, .int .i64 G.col]] W fun e w' => e = .returned (.int .i64 D) ∧ Below W.heap.size W w') := fun fo fn fc go gn gc W hW h h' => by
    have := gdiff_any W h h' (hL.below hW)
    rwa [hD] at this
  have HD2 : Hid (∀ fo fn fc go gn gc W, Below w.heap.size w W → FrameW AnyB W (.agg #[.int .i64 F.rows, .int .i64 F.cols, .slice fo fn fc, .int .i64 F.row, .int .i64 F.col]) F → FrameW AnyB W (.agg #[.int .i64 G.rows, .int .i64 G.cols, .slice go gn gc, .int .i64 G.row, .int .i64 G.col]) G → Calls Tryd.prog 22 #[.agg #[.int .i64 G.rows, .int .i64 G.cols, .slice go gn gc, .int .i64 G.row, .int .i64 G.col], .agg #[.int .i64 F.rows, .int .i64 F.cols, .slice fo fn fc, .int .i64 F.row, .int .i64 F.col]] W fun e w' => e = .returned (.int .i64 D) ∧ Below W.heap.size W w') := fun fo fn fc go gn gc W hW h h' => by
    have := gdiff_any W h' h (hL.below hW)
    rwa [hD1] at this
  have HD3 : Hid (∀ fo fn fc W, Below w.heap.size w W → FrameW AnyB W (.agg #[.int .i64 F.rows, .int .i64 F.cols, .slice fo fn fc, .int .i64 F.row, .int .i64 F.col]) F → Calls Tryd.prog 22 #[.agg #[.int .i64 F.rows, .int .i64 F.cols, .slice fo fn fc, .int .i64 F.row, .int .i64 F.col], .agg #[.int .i64 F.rows, .int .i64 F.cols, .slice fo fn fc, .int .i64 F.row, .int .i64 F.col]] W fun e w' => e = .returned (.int .i64 0) ∧ Below W.heap.size W w') := fun fo fn fc W hW h => by
    have := gdiff_any W h h (hL.below hW)
    rwa [hD2] at this
  have HSm : Hid (∀ fo fn fc go gn gc W, FrameW AnyB W (.agg #[.int .i64 F.rows, .int .i64 F.cols, .slice fo fn fc, .int .i64 F.row, .int .i64 F.col]) F → FrameW AnyB W (.agg #[.int .i64 G.rows, .int .i64 G.cols, .slice go gn gc, .int .i64 G.row, .int .i64 G.col]) G → Calls Tryd.prog 13 #[.agg #[.int .i64 F.rows, .int .i64 F.cols, .slice fo fn fc, .int .i64 F.row, .int .i64 F.col], .agg #[.int .i64 G.rows, .int .i64 G.cols, .slice go gn gc, .int .i64 G.row, .int .i64 G.col]] W fun e w' => e = .returned (.bool (decide (D = 0) && decide (F.row = G.row) && decide (F.col = G.col))) ∧ Below W.heap.size W w') := fun fo fn fc go gn gc W h h' => by
    have := gsame_any W h h' hF0
    rwa [hSm] at this
  have HQ2 := Lib.hid hq2
  clear hI hI2 hI2' hL hg hg2 hz0 hq2 hq2i HPt hPt2 hok hok2 h1 h2 hmm hnn hF hG hF0 hD hD1 hD2 hSm
  go_enter Tryd.func8, Tryd.ntmps8
  go_wp2_with fail
  go_fit (HG.out _)
  rintro e w2 ⟨rfl, hb2⟩
  have HB2 := Lib.hid (show Below (w.heap.size + 2) ((w.alloc (.cells #[.int .i64 p.rows, .int .i64 p.cols, .slice ao N cap, .int .i64 p.row, .int .i64 p.col] 24)).alloc (.cells #[.int .i64 q.rows, .int .i64 q.cols, .slice ao2 N2 cap2, .int .i64 q.row, .int .i64 q.col] 24)) w2 by simpa using hb2)
  obtain ⟨x0, x1, x2, x3, x4⟩ := (HX.out _ HB2.out).2.2.1.cells
  clear hb2 HB0 HG
  go_wp2_with fail
  go_fit (HG2.out _)
  rintro e w3 ⟨rfl, hb3⟩
  have HB3 := Lib.hid (HB2.out.trans (hb3.mono (HX.out _ HB2.out).2.2.2))
  clear hb3 HB2 HG2 x0 x1 x2 x3 x4
  obtain ⟨hbw, hp3, hq3, hs3⟩ := HX.out _ HB3.out
  obtain ⟨x0, x1, x2, x3, x4⟩ := hp3.cells
  obtain ⟨y0, y1, y2, y3, y4⟩ := hq3.cells
  have fz : ∀ k, w3.frozen? ⟨w.heap.size + 1, k, none⟩ = false := fun k => by unfold World.frozen?; unfold pnB at hq3; rw [hq3]; simp
  have z0 := fz 0
  have z1 := fz 1
  have hlq := hq3.lt
  have HV : Hid (∀ V, ((w3.setCell ⟨w.heap.size + 1, 0, none⟩ (.int .i64 p.rows)).setCell ⟨w.heap.size + 1, 1, none⟩ (.int .i64 p.cols)).drew = V → Below w.heap.size w V ∧ pnB V w.heap.size p (.slice ao N cap) ∧ pnB V (w.heap.size + 1) q2 (.slice ao2 N2 cap2)) := fun V hV => by
    have k := ((keep_set (ok := fun k => k ≠ w.heap.size + 1) (w.heap.size + 1) 0 none (.int .i64 p.rows) w3 (fun k => k rfl)).trans (keep_set (ok := fun k => k ≠ w.heap.size + 1) (w.heap.size + 1) 1 none (.int .i64 p.cols) _ (fun k => k rfl))).trans (keep_drew _ _)
    rw [hV] at k
    refine ⟨KeepW.below hbw k hbw.size (fun j hj => by show _ ≠ _; omega), hp3.keep k (by show _ ≠ _; omega), ?_⟩
    have e1 := heap_set (v := .int .i64 p.cols) (p := 1) (heap_set (v := .int .i64 p.rows) (p := 0) hq3)
    rw [← hV]
    unfold pnB
    rw [HQ2.out]
    exact e1
  clear fz hp3 hq3 hbw hs3 HX HB3
  go_wp2
  go_region
  obtain ⟨V, hV⟩ : ∃ V, ((w3.setCell ⟨w.heap.size + 1, 0, none⟩ (.int .i64 p.rows)).setCell ⟨w.heap.size + 1, 1, none⟩ (.int .i64 p.cols)).drew = V := ⟨_, rfl⟩
  obtain ⟨kb, kp, kq⟩ := HV.out V hV
  rw [hV]
  clear hV HV x0 x1 x2 x3 x4 y0 y1 y2 y3 y4 z0 z1 hlq
  have HKB := Lib.hid kb
  have HC : Hid (∀ W, Below V.heap.size V W → (W.cell? ⟨w.heap.size, 0, none⟩ = some (.int .i64 p.rows) ∧ W.cell? ⟨w.heap.size, 1, none⟩ = some (.int .i64 p.cols) ∧ W.cell? ⟨w.heap.size, 2, none⟩ = some (.slice ao N cap) ∧ W.cell? ⟨w.heap.size, 3, none⟩ = some (.int .i64 p.row) ∧ W.cell? ⟨w.heap.size, 4, none⟩ = some (.int .i64 p.col)) ∧ (W.cell? ⟨w.heap.size + 1, 0, none⟩ = some (.int .i64 p.rows) ∧ W.cell? ⟨w.heap.size + 1, 1, none⟩ = some (.int .i64 p.cols) ∧ W.cell? ⟨w.heap.size + 1, 2, none⟩ = some (.slice ao2 N2 cap2) ∧ W.cell? ⟨w.heap.size + 1, 3, none⟩ = some (.int .i64 q.row) ∧ W.cell? ⟨w.heap.size + 1, 4, none⟩ = some (.int .i64 q.col))) := fun W hW => by
    have e := (kq.below hW kq.lt).cells
    rw [HQ2.out] at e
    exact ⟨(kp.below hW kp.lt).cells, e⟩
  have L1 : Hid (∀ W, Below V.heap.size V W → Calls Tryd.prog 15 #[.agg #[.int .i64 p.rows, .int .i64 p.cols, .slice ao N cap, .int .i64 p.row, .int .i64 p.col]] W fun e w' => ∃ fo fn fc, e = .returned (.agg #[.int .i64 F.rows, .int .i64 F.cols, .slice fo fn fc, .int .i64 F.row, .int .i64 F.col]) ∧ FrameW AnyB w' (.agg #[.int .i64 F.rows, .int .i64 F.cols, .slice fo fn fc, .int .i64 F.row, .int .i64 F.col]) F ∧ Below W.heap.size W w' ∧ Below V.heap.size V w') := fun W hW =>
    (HPF.out W (HKB.out.trans (hW.mono HKB.out.size))).mono fun e w' ⟨_, _, _, h1, h2, h3⟩ => ⟨_, _, _, h1, h2, h3, hW.trans (h3.mono hW.size)⟩
  have L2 : Hid (∀ W, Below V.heap.size V W → Calls Tryd.prog 15 #[.agg #[.int .i64 p.rows, .int .i64 p.cols, .slice ao2 N2 cap2, .int .i64 q.row, .int .i64 q.col]] W fun e w' => ∃ go gn gc, e = .returned (.agg #[.int .i64 G.rows, .int .i64 G.cols, .slice go gn gc, .int .i64 G.row, .int .i64 G.col]) ∧ FrameW AnyB w' (.agg #[.int .i64 G.rows, .int .i64 G.cols, .slice go gn gc, .int .i64 G.row, .int .i64 G.col]) G ∧ Below W.heap.size W w' ∧ Below V.heap.size V w') := fun W hW =>
    (HPG.out W (HKB.out.trans (hW.mono HKB.out.size))).mono fun e w' ⟨_, _, _, h1, h2, h3⟩ => ⟨_, _, _, h1, h2, h3, hW.trans (h3.mono hW.size)⟩
  have k0 : Below V.heap.size V V.drew := (Below.refl _ V).drew
  clear HQ2
  go_wp2
  rename_i Q' K hK
  have HT : ∀ (u0 u1 u2 u3 u4 u7 u8 u9 u10 u11 u12 u13 u14 u15 u16 u17 u18 u19 u20 u21 u22 u23 u24 u25 u26 u27 u28 u29 u30 u31 u32 u33 u34 u35 u36 u37 u38 u39 u40 u41 u42 u43 u44 u45 u46 u47 u48 u49 u50 u51 u52 u53 u54 u55 u56 u57 u58 u59 u60 u61 u62 u63 u64 u65 u66 u67 : Value) (A B : Nat) (fo : Option Addr) (fn fc : Nat) (go : Option Addr) (gn gc : Nat) (W : World), SmF w W F G A B fo go fn gn fc gc → Exit.then K Q' .normal { tmps := #[u0, u1, u2, u3, u4, .pointer (some ⟨A, 0, none⟩), .pointer (some ⟨B, 0, none⟩), u7, u8, u9, u10, u11, u12, u13, u14, u15, u16, u17, u18, u19, u20, u21, u22, u23, u24, u25, u26, u27, u28, u29, u30, u31, u32, u33, u34, u35, u36, u37, u38, u39, u40, u41, u42, u43, u44, u45, u46, u47, u48, u49, u50, u51, u52, u53, u54, u55, u56, u57, u58, u59, u60, u61, u62, u63, u64, u65, u66, u67], defers := [] } W := by
    intro u0 u1 u2 u3 u4 u7 u8 u9 u10 u11 u12 u13 u14 u15 u16 u17 u18 u19 u20 u21 u22 u23 u24 u25 u26 u27 u28 u29 u30 u31 u32 u33 u34 u35 u36 u37 u38 u39 u40 u41 u42 u43 u44 u45 u46 u47 u48 u49 u50 u51 u52 u53 u54 u55 u56 u57 u58 u59 u60 u61 u62 u63 u64 u65 u66 u67 A B fo fn fc go gn gc W hS
    have HK := Lib.hid hS
    clear hS HPF HPG kb kp kq
    obtain ⟨⟨x0, x1, x2, x3, x4⟩, _⟩ := HK.out.b1.cells
    obtain ⟨⟨y0, y1, y2, y3, y4⟩, _⟩ := HK.out.b2.cells
    have hlA := HK.out.b1.lt
    have hlB := HK.out.b2.lt
    go_wp2_with fail
    go_fit (HD1.out fo fn fc go gn gc _ HK.out.base HK.out.f1 HK.out.f2)
    rintro e w5 ⟨rfl, hb5⟩
    have HK5 := Lib.hid (HK.out.next hb5)
    clear hb5 HK HD1
    clear x0 x1 x2 x3 x4 y0 y1 y2 y3 y4 hlA hlB
    obtain ⟨⟨x0, x1, x2, x3, x4⟩, _⟩ := HK5.out.b1.cells
    obtain ⟨⟨y0, y1, y2, y3, y4⟩, _⟩ := HK5.out.b2.cells
    have hlA := HK5.out.b1.lt
    have hlB := HK5.out.b2.lt
    by_cases hd : D = 0
    · rw [decide_eq_true hd, Bool.true_and] at HSm
      by_cases hr : F.row = G.row
      · rw [decide_eq_true hr, Bool.true_and] at HSm
        by_cases hc : F.col = G.col
        · rw [decide_eq_true hc] at HSm
          have HRS := Lib.hid hr
          clear hr
          have HCS := Lib.hid hc
          clear hc
          go_wp2_with fail
          go_fit (HD2.out fo fn fc go gn gc _ HK5.out.base HK5.out.f1 HK5.out.f2)
          rintro e w6 ⟨rfl, hb6⟩
          have HK6 := Lib.hid (HK5.out.next hb6)
          clear hb6 HK5 HD2
          clear x0 x1 x2 x3 x4 y0 y1 y2 y3 y4 hlA hlB
          obtain ⟨⟨x0, x1, x2, x3, x4⟩, _⟩ := HK6.out.b1.cells
          obtain ⟨⟨y0, y1, y2, y3, y4⟩, _⟩ := HK6.out.b2.cells
          have hlA := HK6.out.b1.lt
          have hlB := HK6.out.b2.lt
          go_wp2_with fail
          go_fit (HD3.out fo fn fc _ HK6.out.base HK6.out.f1)
          rintro e w7 ⟨rfl, hb7⟩
          have HK7 := Lib.hid (HK6.out.next hb7)
          clear hb7 HK6 HD3
          clear x0 x1 x2 x3 x4 y0 y1 y2 y3 y4 hlA hlB
          obtain ⟨⟨x0, x1, x2, x3, x4⟩, _⟩ := HK7.out.b1.cells
          obtain ⟨⟨y0, y1, y2, y3, y4⟩, _⟩ := HK7.out.b2.cells
          have hlA := HK7.out.b1.lt
          have hlB := HK7.out.b2.lt
          go_wp2_with fail
          go_fit (HSm.out fo fn fc go gn gc _ HK7.out.f1 HK7.out.f2)
          rintro e w8 ⟨rfl, hb8⟩
          have HK8 := Lib.hid (HK7.out.next hb8)
          clear hb8 HK7 HSm
          clear x0 x1 x2 x3 x4 y0 y1 y2 y3 y4 hlA hlB
          obtain ⟨⟨x0, x1, x2, x3, x4⟩, _⟩ := HK8.out.b1.cells
          obtain ⟨⟨y0, y1, y2, y3, y4⟩, _⟩ := HK8.out.b2.cells
          have hlA := HK8.out.b1.lt
          have hlB := HK8.out.b2.lt
          have hr := HRS.out
          have hc := HCS.out
          go_wp2_with fail
          go_fit (HS.out _ HK8.out.base)
          rintro e w9 ⟨rfl, hb9⟩
          have HB9 := Lib.hid (HK8.out.base.trans (hb9.mono HK8.out.base.size))
          clear hb9 HK8 HS
          clear x0 x1 x2 x3 x4 y0 y1 y2 y3 y4 hlA hlB
          go_wp2
          go_ret
          exact ⟨rfl, HB9.out⟩
        · rw [decide_eq_false hc] at HSm
          have HRS := Lib.hid hr
          clear hr
          go_wp2_with fail
          go_fit (HD2.out fo fn fc go gn gc _ HK5.out.base HK5.out.f1 HK5.out.f2)
          rintro e w6 ⟨rfl, hb6⟩
          have HK6 := Lib.hid (HK5.out.next hb6)
          clear hb6 HK5 HD2
          clear x0 x1 x2 x3 x4 y0 y1 y2 y3 y4 hlA hlB
          obtain ⟨⟨x0, x1, x2, x3, x4⟩, _⟩ := HK6.out.b1.cells
          obtain ⟨⟨y0, y1, y2, y3, y4⟩, _⟩ := HK6.out.b2.cells
          have hlA := HK6.out.b1.lt
          have hlB := HK6.out.b2.lt
          go_wp2_with fail
          go_fit (HD3.out fo fn fc _ HK6.out.base HK6.out.f1)
          rintro e w7 ⟨rfl, hb7⟩
          have HK7 := Lib.hid (HK6.out.next hb7)
          clear hb7 HK6 HD3
          clear x0 x1 x2 x3 x4 y0 y1 y2 y3 y4 hlA hlB
          obtain ⟨⟨x0, x1, x2, x3, x4⟩, _⟩ := HK7.out.b1.cells
          obtain ⟨⟨y0, y1, y2, y3, y4⟩, _⟩ := HK7.out.b2.cells
          have hlA := HK7.out.b1.lt
          have hlB := HK7.out.b2.lt
          go_wp2_with fail
          go_fit (HSm.out fo fn fc go gn gc _ HK7.out.f1 HK7.out.f2)
          rintro e w8 ⟨rfl, hb8⟩
          have HK8 := Lib.hid (HK7.out.next hb8)
          clear hb8 HK7 HSm
          clear x0 x1 x2 x3 x4 y0 y1 y2 y3 y4 hlA hlB
          obtain ⟨⟨x0, x1, x2, x3, x4⟩, _⟩ := HK8.out.b1.cells
          obtain ⟨⟨y0, y1, y2, y3, y4⟩, _⟩ := HK8.out.b2.cells
          have hlA := HK8.out.b1.lt
          have hlB := HK8.out.b2.lt
          have hr := HRS.out
          have hcb : (F.col == G.col) = false := by simp [hc]
          go_wp2_with fail
          go_fit (HS.out _ HK8.out.base)
          rintro e w9 ⟨rfl, hb9⟩
          have HB9 := Lib.hid (HK8.out.base.trans (hb9.mono HK8.out.base.size))
          clear hb9 HK8 HS
          clear x0 x1 x2 x3 x4 y0 y1 y2 y3 y4 hlA hlB
          go_wp2
          go_ret
          exact ⟨rfl, HB9.out⟩
      · rw [decide_eq_false hr, Bool.false_and] at HSm
        go_wp2_with fail
        go_fit (HD2.out fo fn fc go gn gc _ HK5.out.base HK5.out.f1 HK5.out.f2)
        rintro e w6 ⟨rfl, hb6⟩
        have HK6 := Lib.hid (HK5.out.next hb6)
        clear hb6 HK5 HD2
        clear x0 x1 x2 x3 x4 y0 y1 y2 y3 y4 hlA hlB
        obtain ⟨⟨x0, x1, x2, x3, x4⟩, _⟩ := HK6.out.b1.cells
        obtain ⟨⟨y0, y1, y2, y3, y4⟩, _⟩ := HK6.out.b2.cells
        have hlA := HK6.out.b1.lt
        have hlB := HK6.out.b2.lt
        go_wp2_with fail
        go_fit (HD3.out fo fn fc _ HK6.out.base HK6.out.f1)
        rintro e w7 ⟨rfl, hb7⟩
        have HK7 := Lib.hid (HK6.out.next hb7)
        clear hb7 HK6 HD3
        clear x0 x1 x2 x3 x4 y0 y1 y2 y3 y4 hlA hlB
        obtain ⟨⟨x0, x1, x2, x3, x4⟩, _⟩ := HK7.out.b1.cells
        obtain ⟨⟨y0, y1, y2, y3, y4⟩, _⟩ := HK7.out.b2.cells
        have hlA := HK7.out.b1.lt
        have hlB := HK7.out.b2.lt
        go_wp2_with fail
        go_fit (HSm.out fo fn fc go gn gc _ HK7.out.f1 HK7.out.f2)
        rintro e w8 ⟨rfl, hb8⟩
        have HK8 := Lib.hid (HK7.out.next hb8)
        clear hb8 HK7 HSm
        clear x0 x1 x2 x3 x4 y0 y1 y2 y3 y4 hlA hlB
        obtain ⟨⟨x0, x1, x2, x3, x4⟩, _⟩ := HK8.out.b1.cells
        obtain ⟨⟨y0, y1, y2, y3, y4⟩, _⟩ := HK8.out.b2.cells
        have hlA := HK8.out.b1.lt
        have hlB := HK8.out.b2.lt
        go_wp2_with fail
        go_fit (HS.out _ HK8.out.base)
        rintro e w9 ⟨rfl, hb9⟩
        have HB9 := Lib.hid (HK8.out.base.trans (hb9.mono HK8.out.base.size))
        clear hb9 HK8 HS
        clear x0 x1 x2 x3 x4 y0 y1 y2 y3 y4 hlA hlB
        go_wp2
        go_ret
        exact ⟨rfl, HB9.out⟩
    · rw [decide_eq_false hd, Bool.false_and, Bool.false_and] at HSm
      go_wp2_with fail
      go_fit (HD2.out fo fn fc go gn gc _ HK5.out.base HK5.out.f1 HK5.out.f2)
      rintro e w6 ⟨rfl, hb6⟩
      have HK6 := Lib.hid (HK5.out.next hb6)
      clear hb6 HK5 HD2
      clear x0 x1 x2 x3 x4 y0 y1 y2 y3 y4 hlA hlB
      obtain ⟨⟨x0, x1, x2, x3, x4⟩, _⟩ := HK6.out.b1.cells
      obtain ⟨⟨y0, y1, y2, y3, y4⟩, _⟩ := HK6.out.b2.cells
      have hlA := HK6.out.b1.lt
      have hlB := HK6.out.b2.lt
      go_wp2_with fail
      go_fit (HD3.out fo fn fc _ HK6.out.base HK6.out.f1)
      rintro e w7 ⟨rfl, hb7⟩
      have HK7 := Lib.hid (HK6.out.next hb7)
      clear hb7 HK6 HD3
      clear x0 x1 x2 x3 x4 y0 y1 y2 y3 y4 hlA hlB
      obtain ⟨⟨x0, x1, x2, x3, x4⟩, _⟩ := HK7.out.b1.cells
      obtain ⟨⟨y0, y1, y2, y3, y4⟩, _⟩ := HK7.out.b2.cells
      have hlA := HK7.out.b1.lt
      have hlB := HK7.out.b2.lt
      go_wp2_with fail
      go_fit (HSm.out fo fn fc go gn gc _ HK7.out.f1 HK7.out.f2)
      rintro e w8 ⟨rfl, hb8⟩
      have HK8 := Lib.hid (HK7.out.next hb8)
      clear hb8 HK7 HSm
      clear x0 x1 x2 x3 x4 y0 y1 y2 y3 y4 hlA hlB
      obtain ⟨⟨x0, x1, x2, x3, x4⟩, _⟩ := HK8.out.b1.cells
      obtain ⟨⟨y0, y1, y2, y3, y4⟩, _⟩ := HK8.out.b2.cells
      have hlA := HK8.out.b1.lt
      have hlB := HK8.out.b2.lt
      go_wp2_with fail
      go_fit (HS.out _ HK8.out.base)
      rintro e w9 ⟨rfl, hb9⟩
      have HB9 := Lib.hid (HK8.out.base.trans (hb9.mono HK8.out.base.size))
      clear hb9 HK8 HS
      clear x0 x1 x2 x3 x4 y0 y1 y2 y3 y4 hlA hlB
      go_wp2
      go_ret
      exact ⟨rfl, HB9.out⟩
  clear HPF HPG kp kq HD1 HD2 HD3 HSm HS
  go_region_held3 (fun W => (W.cell? ⟨w.heap.size, 0, none⟩ = some (.int .i64 p.rows) ∧ W.cell? ⟨w.heap.size, 1, none⟩ = some (.int .i64 p.cols) ∧ W.cell? ⟨w.heap.size, 2, none⟩ = some (.slice ao N cap) ∧ W.cell? ⟨w.heap.size, 3, none⟩ = some (.int .i64 p.row) ∧ W.cell? ⟨w.heap.size, 4, none⟩ = some (.int .i64 p.col)) ∧ (W.cell? ⟨w.heap.size + 1, 0, none⟩ = some (.int .i64 p.rows) ∧ W.cell? ⟨w.heap.size + 1, 1, none⟩ = some (.int .i64 p.cols) ∧ W.cell? ⟨w.heap.size + 1, 2, none⟩ = some (.slice ao2 N2 cap2) ∧ W.cell? ⟨w.heap.size + 1, 3, none⟩ = some (.int .i64 q.row) ∧ W.cell? ⟨w.heap.size + 1, 4, none⟩ = some (.int .i64 q.col)))
    (((refine HC.out _ ?_); (repeat' (first | (with_reducible exact k2) | (with_reducible exact k1) | (with_reducible exact k0) | (with_reducible exact Below.refl _ _) | (with_reducible refine Below.drew ?_) | (with_reducible refine sm_set ?_ ?_) | (with_reducible refine below_alloc ?_) | omega))))
    (first
      | (go_at_call 15; go_fit (L1.out _ ?_); (focus (repeat' (first | (with_reducible exact k2) | (with_reducible exact k1) | (with_reducible exact k0) | (with_reducible exact Below.refl _ _) | (with_reducible refine Below.drew ?_) | (with_reducible refine sm_set ?_ ?_) | (with_reducible refine below_alloc ?_) | omega))); rintro e w1 ⟨fo, fn, fc, rfl, h1, b1, k1⟩; (try replace b1 := sm_dr b1); have s1 := k1.size; (first | (obtain ⟨n1, n2⟩ := sm_nb2 b1; (try rw [World.size_drew] at n1); obtain ⟨⟨a0, a1, a2, a3, a4⟩, a5, a6, a7, a8, a9⟩ := n1.cells; have al := n1.lt; (try rw [World.size_drew] at n2); obtain ⟨⟨c0, c1, c2, c3, c4⟩, c5, c6, c7, c8, c9⟩ := n2.cells; have cl := n2.lt) | (have n1 := sm_nb1 b1; (try rw [World.size_drew] at n1); obtain ⟨⟨a0, a1, a2, a3, a4⟩, a5, a6, a7, a8, a9⟩ := n1.cells; have al := n1.lt) | skip))
      | (go_at_call 15; go_fit (L2.out _ ?_); (focus (repeat' (first | (with_reducible exact k2) | (with_reducible exact k1) | (with_reducible exact k0) | (with_reducible exact Below.refl _ _) | (with_reducible refine Below.drew ?_) | (with_reducible refine sm_set ?_ ?_) | (with_reducible refine below_alloc ?_) | omega))); rintro e w2 ⟨go, gn, gc, rfl, h2, b2, k2⟩; (try replace b2 := sm_dr b2); have s2 := k2.size; have s3 := b2.size; (first | (have m1 := n1.below b2 n1.lt; have m2 := n2.below b2 n2.lt; (try rw [World.size_drew] at m1); obtain ⟨⟨a0, a1, a2, a3, a4⟩, a5, a6, a7, a8, a9⟩ := m1.cells; have al := m1.lt; (try rw [World.size_drew] at m2); obtain ⟨⟨c0, c1, c2, c3, c4⟩, c5, c6, c7, c8, c9⟩ := m2.cells; have cl := m2.lt) | (have m1 := n1.below (sm_of b2) n1.lt; have m2 := sm_nb1 b2; (try rw [World.size_drew] at m1); obtain ⟨⟨a0, a1, a2, a3, a4⟩, a5, a6, a7, a8, a9⟩ := m1.cells; have al := m1.lt; (try rw [World.size_drew] at m2); obtain ⟨⟨c0, c1, c2, c3, c4⟩, c5, c6, c7, c8, c9⟩ := m2.cells; have cl := m2.lt) | (have m1 := n1.below b2 n1.lt; (try rw [World.size_drew] at m1); obtain ⟨⟨a0, a1, a2, a3, a4⟩, a5, a6, a7, a8, a9⟩ := m1.cells; have al := m1.lt) | (obtain ⟨m1, m2⟩ := sm_nb2 b2; (try rw [World.size_drew] at m1); obtain ⟨⟨a0, a1, a2, a3, a4⟩, a5, a6, a7, a8, a9⟩ := m1.cells; have al := m1.lt; (try rw [World.size_drew] at m2); obtain ⟨⟨c0, c1, c2, c3, c4⟩, c5, c6, c7, c8, c9⟩ := m2.cells; have cl := m2.lt) | (have m1 := sm_nb1 b2; (try rw [World.size_drew] at m1); obtain ⟨⟨a0, a1, a2, a3, a4⟩, a5, a6, a7, a8, a9⟩ := m1.cells; have al := m1.lt) | skip)))
  all_goals
    have hb9 := HKB.out.trans (k2.mono HKB.out.size)
    have hs9 := HKB.out.size
    have g1 : FrameW AnyB w2 (.agg #[.int .i64 F.rows, .int .i64 F.cols, .slice fo fn fc, .int .i64 F.row, .int .i64 F.col]) F := by first | exact h1.below b2 | exact h1.below (sm_of b2) | exact h1.below (sm_of (sm_of b2))
    (try have hs8 := n1.lt)
    refine HT _ _ _ _ _ _ _ _ _ _ _ _ _ _ _ _ _ _ _ _ _ _ _ _ _ _ _ _ _ _ _ _ _ _ _ _ _ _ _ _ _ _ _ _ _ _ _ _ _ _ _ _ _ _ _ _ _ _ _ _ _ _ _ _ _ _ _ _ fo fn fc go gn gc _ ?_
    first
    | with_reducible exact sm_1 hb9 g1 h2
    | with_reducible exact sm_1x hb9 g1 h2
    | with_reducible exact sm_2 m1 (by omega) hb9 g1 h2 HF1.out HG1.out
    | with_reducible exact sm_3 m1 (by omega) hb9 g1 h2 HF1.out HG1.out
    | with_reducible exact sm_4 m1 m2 (by omega) (by omega) (by omega) hb9 g1 h2 HF1.out HG1.out
    | with_reducible exact sm_4 m2 m1 (by omega) (by omega) (by omega) hb9 g1 h2 HF1.out HG1.out
end Go.Proofs.YtdibpoecdjnpaaaDoor
