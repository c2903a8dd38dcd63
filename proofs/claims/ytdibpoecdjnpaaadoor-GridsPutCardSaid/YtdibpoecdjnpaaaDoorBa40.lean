/-
  Texts of this proof, one behind the other; each begins with its own remark.
-/
import Derived.Test.YtdibpoecdjnpaaaDoorBa39
import Derived.Test.YtdibpoecdjnpaaaDoorBa21
import Derived.Test.YtdibpoecdjnpaaaDoorBa26
import Derived.Test.YtdibpoecdjnpaaaDoorBa30
import Derived.Test.YtdibpoecdjnpaaaDoorBa33
import Derived.Test.YtdibpoecdjnpaaaDoorBa38
/-
  limnerref06.Resize: what it returns, and lays: for every frame, every size.
-/
namespace Go.Proofs.YtdibpoecdjnpaaaDoor
open Go.RowKit

theorem rres_any {ok : Nat → Prop} {v : Value} {f : Frm} (rows cols : Int) (w : World) (h : FrameW ok w v f) :
    Calls Tryd.prog 25 #[v, .int .i64 rows, .int .i64 cols] w fun e w' => ∃ v', e = .returned (.tuple #[v', .int .i64 (resE f rows cols)]) ∧ FrameW AnyB w' v' (resF f rows cols) ∧ Below w.heap.size w w' := by
  obtain ⟨ao, N, cap, rfl, hn, hcap, hS⟩ := h
  have no : (validB f && sizedB rows cols) = false → resE f rows cols = 2 ∧ resF f rows cols = zeroF := fun k => by
    unfold resE resF
    rw [k]
    exact ⟨rfl, rfl⟩
  cases hb : sizedB rows cols with
  | false =>
    obtain ⟨e1, e2⟩ := no (by rw [hb, Bool.and_false])
    rw [e1, e2]
    exact (rres_bad1 rows cols w hb).mono fun e w' ⟨k1, k2⟩ => ⟨_, k1, FrameW.zero _ _, k2⟩
  | true =>
    obtain ⟨a1, a2, a3, a4⟩ := (sizedB_iff _ _).1 hb
    obtain ⟨p, rfl⟩ : ∃ p : Nat, rows = (p : Int) := ⟨rows.toNat, by omega⟩
    obtain ⟨q, rfl⟩ : ∃ q : Nat, cols = (q : Int) := ⟨cols.toNat, by omega⟩
    cases hv : validB f with
    | false =>
      obtain ⟨e1, e2⟩ := no (by rw [hv]; rfl)
      rw [e1, e2]
      exact (rres_bad2 p q w hS hn hcap hv (by omega) (by omega)).mono fun e w' ⟨k1, k2⟩ => ⟨_, k1, FrameW.zero _ _, k2⟩
    | true =>
      have hf := valid_ok hv
      obtain ⟨m, hm⟩ : ∃ m, f.rows.toNat = m := ⟨_, rfl⟩
      obtain ⟨n, hnn⟩ : ∃ n, f.cols.toNat = n := ⟨_, rfl⟩
      rw [hm, hnn] at hf
      have h0 : 0 < f.cells.length := by rw [hf.len]; exact Nat.mul_pos (by have := hf.hm; omega) (by have := hf.hn; omega)
      obtain ⟨g, o, rfl, _⟩ := hS.ptr (i := 0) (List.getElem?_eq_getElem h0)
      obtain ⟨e1, e2⟩ := resF_is hf p q (by omega) (by omega)
      rw [e1, e2]
      exact rres_yes w hf hn hcap hS (by omega) (by omega)
end Go.Proofs.YtdibpoecdjnpaaaDoor

/-
  limnerlaw06: what is put into a frame, as it lies in memory; contracts of frames, with the frame's parts named; Great. Nothing of the laws is run here.
-/
namespace Go.Proofs.YtdibpoecdjnpaaaDoor
open Go.RowKit

/-- A rune that is put in; all of them, and a size, a cursor. -/
structure Inkd where
  row : Int
  col : Int
  r : Int
  s : Sty
structure Pnt where
  rows : Int
  cols : Int
  ink : List Inkd
  row : Int
  col : Int
def inkV (x : Inkd) : List Value := [.int .i64 x.row, .int .i64 x.col, .int .i32 x.r, .int .i64 x.s.1, .bool x.s.2.1, .bool x.s.2.2.1, .bool x.s.2.2.2]
def inkC (l : List Inkd) : List Value := l.flatMap inkV
theorem inkC_at (l : List Inkd) (i : Nat) (x : Inkd) (h : l[i]? = some x) (k : Nat) (hk : k < 7) : (inkC l)[i * 7 + k]? = (inkV x)[k]? := by
  induction l generalizing i with
  | nil => simp at h
  | cons y l ih =>
    have e : inkC (y :: l) = inkV y ++ inkC l := by unfold inkC; rw [List.flatMap_cons]
    have hl : ∀ y, (inkV y).length = 7 := fun _ => rfl
    cases i with
    | zero => simp at h; subst h; rw [e, List.getElem?_append_left (by rw [hl]; omega), Nat.zero_mul, Nat.zero_add]
    | succ i =>
      rw [e, List.getElem?_append_right (by rw [hl]; omega), hl, show (i + 1) * 7 + k - 7 = i * 7 + k by omega]
      exact ih i (by simpa using h)
/-- The seven cells of one. -/
def cell7 (w : World) (g p : Nat) (x : Inkd) : Prop :=
  w.cell? ⟨g, p, none⟩ = some (.int .i64 x.row) ∧ w.cell? ⟨g, p + 1, none⟩ = some (.int .i64 x.col) ∧ w.cell? ⟨g, p + 2, none⟩ = some (.int .i32 x.r) ∧ w.cell? ⟨g, p + 3, none⟩ = some (.int .i64 x.s.1) ∧
    w.cell? ⟨g, p + 4, none⟩ = some (.bool x.s.2.1) ∧ w.cell? ⟨g, p + 5, none⟩ = some (.bool x.s.2.2.1) ∧ w.cell? ⟨g, p + 6, none⟩ = some (.bool x.s.2.2.2)
/-- Where the runes lie. -/
def InkW (w : World) (ao : Option Addr) (n cap : Nat) (l : List Inkd) : Prop := n = l.length ∧ n ≤ cap ∧ RowV AnyB w (.slice ao n cap) n (inkC l)
theorem InkW.below {w w' : World} {ao : Option Addr} {n cap : Nat} {l : List Inkd} (h : InkW w ao n cap l) (hb : Below w.heap.size w w') : InkW w' ao n cap l := ⟨h.1, h.2.1, RowV.keep h.2.2 (keep_below AnyB hb)⟩
theorem InkW.at_ {w : World} {ao : Option Addr} {n cap : Nat} {l : List Inkd} {i : Nat} {x : Inkd} (h : InkW w ao n cap l) (hx : l[i]? = some x) : ∃ g o, ao = some ⟨g, o, none⟩ ∧ cell7 w g (o + i * 7) x := by
  obtain ⟨g, o, c, he, _, _, hc⟩ := RowV.at_ h.2.2 ((inkC_at l i x hx 0 (by omega)).trans rfl)
  injection he with e1 e2 e3
  have a := fun k hk y (hy : (inkV x)[k]? = some y) => hc (i * 7 + k) y ((inkC_at l i x hx k hk).trans hy)
  simp only [← Nat.add_assoc] at a
  exact ⟨g, o, e1, a 0 (by omega) _ rfl, a 1 (by omega) _ rfl, a 2 (by omega) _ rfl, a 3 (by omega) _ rfl, a 4 (by omega) _ rfl, a 5 (by omega) _ rfl, a 6 (by omega) _ rfl⟩

/-- The frame that is painted. -/
def dimR (a : Int) : Int := 2 + ((a.tmod 9) + 9).tmod 9
def dimC (a : Int) : Int := 8 + ((a.tmod 13) + 13).tmod 13
theorem tmod_near (a n : Int) (hn : 0 < n) : -n < a.tmod n ∧ a.tmod n < n := ⟨Int.lt_tmod_of_pos a hn, Int.tmod_lt_of_pos a hn⟩
theorem tmod_in (a n : Int) (hn : 0 < n) : 0 ≤ ((a.tmod n) + n).tmod n ∧ ((a.tmod n) + n).tmod n < n := by
  obtain ⟨h1, h2⟩ := tmod_near a n hn
  exact ⟨Int.tmod_nonneg n (by omega), Int.tmod_lt_of_pos _ hn⟩
theorem dimR_in (a : Int) : 2 ≤ dimR a ∧ dimR a ≤ 10 := by have := tmod_in a 9 (by omega); unfold dimR; omega
theorem dimC_in (a : Int) : 8 ≤ dimC a ∧ dimC a ≤ 20 := by have := tmod_in a 13 (by omega); unfold dimC; omega
def foldP (l : List Inkd) (f : Frm) : Frm := l.foldl (fun f x => putF f x.row x.col x.r x.s) f
theorem foldP_step (l : List Inkd) (f : Frm) (i : Nat) (x : Inkd) (hx : l[i]? = some x) : foldP (l.take (i + 1)) f = putF (foldP (l.take i) f) x.row x.col x.r x.s := by
  unfold foldP
  rw [List.take_succ_eq_append_getElem (List.getElem?_eq_some_iff.1 hx).1, (List.getElem?_eq_some_iff.1 hx).2, List.foldl_append]
  rfl
theorem foldP_ok {f : Frm} {m n : Nat} (l : List Inkd) (h : OkF f m n) : OkF (foldP l f) m n := by
  unfold foldP
  induction l generalizing f with
  | nil => exact h
  | cons x l ih => exact ih (put_okF h x.row x.col x.r x.s)
def paintF (p : Pnt) : Frm := { foldP p.ink (newF (dimR p.rows) (dimC p.cols)) with row := ((p.row.tmod (dimR p.rows)) + dimR p.rows).tmod (dimR p.rows), col := ((p.col.tmod (dimC p.cols)) + dimC p.cols).tmod (dimC p.cols) }
theorem new_dims (a b : Int) : OkF (newF (dimR a) (dimC b)) (dimR a).toNat (dimC b).toNat := by
  have h1 := dimR_in a
  have h2 := dimC_in b
  have := new_ok (dimR a).toNat (dimC b).toNat (by omega) (by omega)
  rwa [Int.toNat_of_nonneg (by omega), Int.toNat_of_nonneg (by omega)] at this
theorem paint_ok (p : Pnt) : OkF (paintF p) (dimR p.rows).toNat (dimC p.cols).toNat := by
  have h1 := dimR_in p.rows
  have h2 := dimC_in p.cols
  have h := foldP_ok p.ink (new_dims p.rows p.cols)
  have k1 := tmod_in p.row (dimR p.rows) (by omega)
  have k2 := tmod_in p.col (dimC p.cols) (by omega)
  unfold paintF
  exact ⟨h.rows, h.cols, h.hm, h.hn, h.len, by simp only []; omega, by simp only []; omega, h.each⟩

/-- What a frame's own box holds is no cell of a frame: its cells lie elsewhere. -/
theorem frB.apart {w : World} {B : Nat} {r c a b : Int} {v : Value} (h : frB w B r c v a b) (hv : ∀ x, v ≠ .int .i32 x) (o : Nat) (x : Int) : w.cell? ⟨B, o, none⟩ ≠ some (.int .i32 x) := by
  intro e
  unfold frB at h
  rw [cell_of_row _ _ _ _ _ (0, 0) h] at e
  match o, e with
  | 0, e => simp at e
  | 1, e => simp at e
  | 2, e => simp at e; exact hv x e
  | 3, e => simp at e
  | 4, e => simp at e
  | o + 5, e => simp at e
theorem cels_apart {w : World} {v : Value} {l : List Cel} {ok : Nat → Prop} (h : CelsW AnyB w v l) (h0 : 0 < l.length) (hno : ∀ g, g < w.heap.size → ok g ∨ ∀ o x, w.cell? ⟨g, o, none⟩ ≠ some (.int .i32 x)) : CelsW ok w v l := by
  obtain ⟨g, o, cap, rfl, hc, _, hcell⟩ := h.at_ (i := 0) (List.getElem?_eq_getElem h0)
  have h1 := (hcell 0 _ (List.getElem?_eq_getElem h0)).1
  rcases hno g (rlt h1) with hg | hg
  · obtain ⟨ao', cap', he, hn, ho, hc2⟩ := h
    exact ⟨ao', cap', he, hn, fun a e => by cases he; cases e; exact hg, hc2⟩
  · exact (hg _ _ h1).elim

section
variable {ok ok2 : Nat → Prop} {v u : Value} {f g : Frm}
/-- The contracts of frames, with the new frame's parts named. -/
theorem frame_out {P : Program} {F : FuncId} {args : Array Value} {w : World} (h : Calls P F args w fun e w' => ∃ v', e = .returned v' ∧ FrameW AnyB w' v' f ∧ Below w.heap.size w w') :
    Calls P F args w fun e w' => ∃ ao n cap, e = .returned (.agg #[.int .i64 f.rows, .int .i64 f.cols, .slice ao n cap, .int .i64 f.row, .int .i64 f.col]) ∧ FrameW AnyB w' (.agg #[.int .i64 f.rows, .int .i64 f.cols, .slice ao n cap, .int .i64 f.row, .int .i64 f.col]) f ∧ Below w.heap.size w w' :=
  h.mono fun e w' ⟨v', h1, h2, h3⟩ => by
    obtain ⟨ao, n, cap, rfl, k1, k2, k3⟩ := h2
    exact ⟨ao, n, cap, h1, ⟨ao, n, cap, rfl, k1, k2, k3⟩, h3⟩
theorem frame_out2 {P : Program} {F : FuncId} {args : Array Value} {w : World} {E : Int} (h : Calls P F args w fun e w' => ∃ v', e = .returned (.tuple #[v', .int .i64 E]) ∧ FrameW AnyB w' v' f ∧ Below w.heap.size w w') :
    Calls P F args w fun e w' => ∃ ao n cap, e = .returned (.tuple #[.agg #[.int .i64 f.rows, .int .i64 f.cols, .slice ao n cap, .int .i64 f.row, .int .i64 f.col], .int .i64 E]) ∧ FrameW AnyB w' (.agg #[.int .i64 f.rows, .int .i64 f.cols, .slice ao n cap, .int .i64 f.row, .int .i64 f.col]) f ∧ Below w.heap.size w w' :=
  h.mono fun e w' ⟨v', h1, h2, h3⟩ => by
    obtain ⟨ao, n, cap, rfl, k1, k2, k3⟩ := h2
    exact ⟨ao, n, cap, h1, ⟨ao, n, cap, rfl, k1, k2, k3⟩, h3⟩
/-- New, of whatever size. -/
theorem gnew_all (r c : Int) (w : World) (hL : LaidW w) : Calls Tryd.prog 11 #[.int .i64 r, .int .i64 c] w fun e w' => ∃ v', e = .returned (.tuple #[v', .int .i64 (newE r c)]) ∧ FrameW AnyB w' v' (newF r c) ∧ Below w.heap.size w w' := by
  unfold newF newE
  cases hb : sizedB r c with
  | false => exact (gnew_bad r c w hb).mono fun e w' ⟨k1, k2⟩ => ⟨_, k1, FrameW.zero _ _, k2⟩
  | true =>
    obtain ⟨a1, a2, a3, a4⟩ := (sizedB_iff _ _).1 hb
    obtain ⟨p, rfl⟩ : ∃ p : Nat, r = (p : Int) := ⟨r.toNat, by omega⟩
    obtain ⟨q, rfl⟩ : ∃ q : Nat, c = (q : Int) := ⟨c.toNat, by omega⟩
    refine (gnew_any p q w (by omega) (by omega) hL.2).mono fun e w' ⟨g, k1, ⟨zs, _, hbk⟩, k2⟩ => ⟨_, k1, ⟨_, p * q, p * q, rfl, ?_, Nat.le_refl _, ?_⟩, k2⟩
    · simp [← Int.natCast_mul]
    · rw [if_pos rfl]
      show CelsW AnyB w' _ (List.replicate _ _)
      rw [← Int.natCast_mul, Int.toNat_natCast]
      exact hbk.slice trivial List.length_replicate (Nat.le_refl _)
theorem rnew_all (r c : Int) (w : World) : Calls Tryd.prog 12 #[.int .i64 r, .int .i64 c] w fun e w' => ∃ v', e = .returned (.tuple #[v', .int .i64 (newE r c)]) ∧ FrameW AnyB w' v' (newF r c) ∧ Below w.heap.size w w' := by
  unfold newF newE
  cases hb : sizedB r c with
  | false => exact (rnew_bad r c w hb).mono fun e w' ⟨k1, k2⟩ => ⟨_, k1, FrameW.zero _ _, k2⟩
  | true =>
    obtain ⟨a1, a2, a3, a4⟩ := (sizedB_iff _ _).1 hb
    obtain ⟨p, rfl⟩ : ∃ p : Nat, r = (p : Int) := ⟨r.toNat, by omega⟩
    obtain ⟨q, rfl⟩ : ∃ q : Nat, c = (q : Int) := ⟨c.toNat, by omega⟩
    refine (rnew_any p q w (by omega) (by omega)).mono fun e w' ⟨g, cc, k1, hcc, ⟨zs, _, hbk⟩, k2⟩ => ⟨_, k1, ⟨_, p * q, cc, rfl, ?_, hcc, ?_⟩, k2⟩
    · simp [← Int.natCast_mul]
    · rw [if_pos rfl]
      show CelsW AnyB w' _ (List.replicate _ _)
      rw [← Int.natCast_mul, Int.toNat_natCast]
      exact hbk.slice trivial List.length_replicate hcc
/-- A copy of a frame that may be. -/
theorem copy_all {m n : Nat} (w : World) (h : FrameW ok w v f) (hf : OkF f m n) : Calls Tryd.prog 16 #[v] w fun e w' => ∃ v', e = .returned v' ∧ FrameW AnyB w' v' f ∧ Below w.heap.size w w' := by
  obtain ⟨ao, N, cap, rfl, hn, hcap, hS⟩ := h
  have h0 : 0 < f.cells.length := by rw [hf.len]; exact Nat.mul_pos (by have := hf.hm; omega) (by have := hf.hn; omega)
  have hr := hf.room
  obtain ⟨g, o, rfl, _⟩ := hS.ptr (i := 0) (List.getElem?_eq_getElem h0)
  refine (copy_any g o cap N f.rows f.cols f.row f.col w hS hn.symm (by omega) (by omega)).mono fun e w' ⟨g', c', k1, hc, ⟨zs, _, hbk⟩, k2⟩ => ⟨_, k1, ⟨_, N, c', rfl, hn, hc, ?_⟩, k2⟩
  exact hbk.slice trivial hn.symm hc
end

theorem great_any {ao : Option Addr} {n cap : Nat} (a b c d : Int) (w : World) :
    Calls Tryd.prog 9 #[.agg #[.int .i64 a, .int .i64 b, .slice ao n cap, .int .i64 c, .int .i64 d]] w fun e w' => e = .returned (.bool (decide (60 < n))) ∧ Below w.heap.size w w' := by
  by_cases h : 60 < n
  · have i1 : (60 : Int) < (n : Int) := by omega
    rw [decide_eq_true h]
    clear h
    go_enter Tryd.func9, Tryd.ntmps9
    go_wp2
    go_ret
    exact ⟨rfl, (Below.refl _ w).alloc (Nat.le_refl _) _⟩
  · have i1 : ¬ (60 : Int) < (n : Int) := by omega
    rw [decide_eq_false h]
    clear h
    go_enter Tryd.func9, Tryd.ntmps9
    go_wp2
    go_ret
    exact ⟨rfl, (Below.refl _ w).alloc (Nat.le_refl _) _⟩
end Go.Proofs.YtdibpoecdjnpaaaDoor
