/-
  Plain facts: a terminal: its frame, its style, how often it rang, whether a wrap waits, where its parser stands; what an action makes of it, what bytes do. Nothing of the program is run here.
-/
import Derived.Test.YtpkjaallhhjleaaGreatDoorBe11
import Derived.Test.YtpkjaallhhjleaaGreatDoorBe7
namespace Go.Proofs.YtpkjaallhhjleaaGreatDoor
open Go.RowKit

structure Tm where
  f : Frm
  sty : Sty
  bells : Int
  waits : Bool
  p : Ps

def sty0 : Sty := (0, false, false, false)
def newT (m n : Int) : Tm := ⟨newF m n, sty0, 0, false, .zero⟩

def goF (f : Frm) (row col : Int) : Frm := { f with row := min (max 0 row) (f.rows - 1), col := min (max 0 col) (f.cols - 1) }
/-- Is the cell the other half of a wide rune? -/
def w0_ (L : List Cel) (i : Nat) : Bool := (L[i]?).any fun c => decide (c.2.1 = 0)
def fillB (L : List Cel) (a b : Nat) : List Cel := L.take a ++ List.replicate (b - a) blkC ++ L.drop (max a b)
def fromN (L : List Cel) (a b : Nat) : Nat := if a < b ∧ w0_ L a = true then a - 1 else a
def toN (L : List Cel) (b : Nat) : Nat := if w0_ L b = true then b + 1 else b
def eraseL (L : List Cel) (a b : Nat) : List Cel := fillB L (fromN L a b) (toN L b)
def scrollL (L : List Cel) (n : Nat) : List Cel := L.drop n ++ List.replicate n blkC
def feedF (f : Frm) : Frm := if f.row < f.rows - 1 then { f with row := f.row + 1 } else { f with cells := scrollL f.cells f.cols.toNat }
def styN (s : Sty) (n : Nat) : Sty :=
  if n = 0 then sty0 else if n = 1 ∨ n = 22 then (s.1, decide (n = 1), s.2.2.1, s.2.2.2) else if n = 4 ∨ n = 24 then (s.1, s.2.1, decide (n = 4), s.2.2.2) else if n = 7 ∨ n = 27 then (s.1, s.2.1, s.2.2.1, decide (n = 7))
  else if 30 ≤ n ∧ n ≤ 37 then ((n : Int) - 29, s.2.1, s.2.2.1, s.2.2.2) else if n = 39 then (0, s.2.1, s.2.2.1, s.2.2.2) else s
def stysN (s : Sty) (l : List Nat) : Sty := if l = [] then sty0 else l.foldl styN s
def rowsE (f : Frm) (n : Nat) : Frm :=
  let L := if n = 0 ∨ n = 2 then eraseL f.cells ((f.row.toNat + 1) * f.cols.toNat) f.cells.length else f.cells
  { f with cells := if n = 1 ∨ n = 2 then eraseL L 0 (f.row.toNat * f.cols.toNat) else L }
def rowE (f : Frm) (n : Nat) : Frm :=
  let a := f.row.toNat * f.cols.toNat
  { f with cells := if n = 0 then eraseL f.cells (a + f.col.toNat) (a + f.cols.toNat) else if n = 1 then eraseL f.cells a (a + f.col.toNat + 1) else if n = 2 then eraseL f.cells a (a + f.cols.toNat) else f.cells }
def showT (t : Tm) (r : Int) : Tm :=
  let w : Int := (ofN r : Int)
  let f := if t.waits = true ∨ t.f.cols < t.f.col + w then feedF { t.f with col := 0 } else t.f
  let g := putF f f.row f.col r t.sty
  { t with f := goF g g.row (g.col + w), waits := decide (g.col + w = g.cols) }
def controlT (t : Tm) (r : Int) : Tm :=
  if r = 7 then { t with bells := wrap64 (t.bells + 1) } else if r = 8 then { t with f := goF t.f t.f.row (t.f.col - 1), waits := false } else if r = 10 then { t with f := feedF t.f, waits := false } else
    if r = 13 then { t with f := { t.f with col := 0 }, waits := false } else t
def seqT (t : Tm) (l : List Nat) (b : Nat) : Tm :=
  let n := l.getD 0 0
  let s : Int := max 1 (n : Int)
  if b = 65 then { t with f := goF t.f (t.f.row - s) t.f.col, waits := false } else if b = 66 then { t with f := goF t.f (t.f.row + s) t.f.col, waits := false } else
  if b = 67 then { t with f := goF t.f t.f.row (t.f.col + s), waits := false } else if b = 68 then { t with f := goF t.f t.f.row (t.f.col - s), waits := false } else
  if b = 72 then { t with f := goF t.f ((n : Int) - 1) ((l.getD 1 0 : Nat) - 1), waits := false } else
  if b = 74 then { t with f := rowE (rowsE t.f n) n, waits := false } else if b = 75 then { t with f := rowE t.f n, waits := false } else
  if b = 109 then { t with sty := stysN t.sty l } else t
def doT (t : Tm) (a : Ac) : Tm := if a.1 = 1 then showT t (shI (a.2.1 : Int)) else if a.1 = 2 then controlT t (a.2.1 : Int) else if a.1 = 3 then seqT t a.2.2.1 a.2.2.2 else t
def byteT (t : Tm) (b : Nat) : Tm := (feedN t.p b).2.foldl doT { t with p := (feedN t.p b).1 }
def writeT (t : Tm) (L : List UInt8) : Tm := L.foldl (fun t u => byteT t u.toNat) t
theorem write_app (t : Tm) (a b : List UInt8) : writeT t (a ++ b) = writeT (writeT t a) b := List.foldl_append
theorem write_cons (t : Tm) (u : UInt8) (l : List UInt8) : writeT t (u :: l) = writeT (byteT t u.toNat) l := rfl

/-- What a terminal may be. -/
structure OkT (t : Tm) (m n : Nat) : Prop where
  fr : OkF t.f m n
  st : styB t.sty = true
  ps : OkP t.p

theorem ok_blk (n : Nat) (L : List Cel) (i : Nat) : okA n L i blkC := ⟨by decide, by decide, by decide, fun _ => by rw [show blkC.1 = 32 from rfl, of_blank]; rfl, fun k => absurd k (by decide), fun k => absurd k (by decide)⟩
theorem okF_all {f : Frm} {m n : Nat} (h : OkF f m n) : ∀ i c, f.cells[i]? = some c → okA n f.cells i c := (rows_all (by have := h.hn; omega) h.len).1 h.each
/-- The same frame with other cells, or another cursor. -/
theorem OkF.with_ {f : Frm} {m n : Nat} (h : OkF f m n) {M : List Cel} {r c : Int} (hl : M.length = m * n) (hM : ∀ i d, M[i]? = some d → okA n M i d) (hr : 0 ≤ r ∧ r < (m : Int)) (hc : 0 ≤ c ∧ c < (n : Int)) : OkF ⟨f.rows, f.cols, M, r, c⟩ m n :=
  ⟨h.rows, h.cols, h.hm, h.hn, hl, hr, hc, (rows_all (by have := h.hn; omega) hl).2 hM⟩
theorem OkF.cells_ {f : Frm} {m n : Nat} (h : OkF f m n) {M : List Cel} (hl : M.length = m * n) (hM : ∀ i d, M[i]? = some d → okA n M i d) : OkF { f with cells := M } m n := h.with_ hl hM h.row h.col
theorem OkF.curs {f : Frm} {m n : Nat} (h : OkF f m n) {r c : Int} (hr : 0 ≤ r ∧ r < (m : Int)) (hc : 0 ≤ c ∧ c < (n : Int)) : OkF { f with row := r, col := c } m n := h.with_ h.len (okF_all h) hr hc
theorem go_ok {f : Frm} {m n : Nat} (h : OkF f m n) (r c : Int) : OkF (goF f r c) m n := by
  have h1 := h.rows; have h2 := h.cols; have h3 := h.hm; have h4 := h.hn
  exact h.curs (by omega) (by omega)

theorem w0_iff {L : List Cel} {i : Nat} : w0_ L i = true ↔ ∃ c, L[i]? = some c ∧ c.2.1 = 0 := any_w0
theorem w0_out {L : List Cel} {i : Nat} (h : L.length ≤ i) : w0_ L i = false := by
  unfold w0_
  rw [List.getElem?_eq_none h]; rfl
theorem fill_at {L : List Cel} {a b : Nat} (hab : a ≤ b) (hb : b ≤ L.length) (i : Nat) : (fillB L a b)[i]? = if a ≤ i ∧ i < b then some blkC else L[i]? := by
  unfold fillB
  have ht : (L.take a).length = a := by rw [List.length_take]; omega
  rw [Nat.max_eq_right hab, List.append_assoc]
  by_cases h1 : i < a
  · rw [List.getElem?_append_left (by omega), List.getElem?_take, if_pos h1, if_neg (by omega)]
  · rw [List.getElem?_append_right (by omega), ht]
    by_cases h2 : i < b
    · rw [List.getElem?_append_left (by rw [List.length_replicate]; omega), List.getElem?_replicate, if_pos (by omega), if_pos (by omega)]
    · rw [List.getElem?_append_right (by rw [List.length_replicate]; omega), List.length_replicate, List.getElem?_drop, if_neg (by omega)]
      congr 1; omega
theorem fillLen {L : List Cel} {a b : Nat} (hab : a ≤ b) (hb : b ≤ L.length) : (fillB L a b).length = L.length := by
  unfold fillB
  rw [List.length_append, List.length_append, List.length_take, List.length_replicate, List.length_drop]; omega
theorem fill_none (L : List Cel) (a : Nat) : fillB L a a = L := by
  unfold fillB
  rw [Nat.sub_self, Nat.max_self, List.replicate_zero, List.append_nil, List.take_append_drop]
/-- Where cells are erased: what is wide is within or without as a whole. -/
theorem erase_ends {L : List Cel} {n a b : Nat} (hL : ∀ i c, L[i]? = some c → okA n L i c) (hab : a < b) (hb : b ≤ L.length) :
    fromN L a b ≤ a ∧ b ≤ toN L b ∧ toN L b ≤ L.length ∧ w0_ L (fromN L a b) = false ∧ w0_ L (toN L b) = false := by
  have hstep : ∀ i, w0_ L i = true → 0 < i ∧ i < L.length ∧ w0_ L (i - 1) = false ∧ w0_ L (i + 1) = false := fun i hi => by
    obtain ⟨c, hc, hw⟩ := w0_iff.1 hi
    obtain ⟨_, _, _, _, _, h6⟩ := hL i c hc
    obtain ⟨h7, p, hp, hp2, _⟩ := h6 hw
    have hlt := (List.getElem?_eq_some_iff.1 hc).1
    have h0 : 0 < i := by
      rcases Nat.eq_zero_or_pos i with e | e
      · subst e; exact (h7 (Nat.zero_mod n)).elim
      · exact e
    refine ⟨h0, hlt, ?_, ?_⟩
    · rw [Bool.eq_false_iff]
      intro k
      obtain ⟨d, hd, hd0⟩ := w0_iff.1 k
      rw [hp] at hd; cases hd; omega
    · rw [Bool.eq_false_iff]
      intro k
      obtain ⟨d, hd, hd0⟩ := w0_iff.1 k
      obtain ⟨_, _, _, _, _, g6⟩ := hL _ d hd
      obtain ⟨_, q, hq, hq2, _⟩ := g6 hd0
      rw [show i + 1 - 1 = i from rfl, hc] at hq
      cases hq; omega
  have A : fromN L a b ≤ a ∧ w0_ L (fromN L a b) = false := by
    unfold fromN
    by_cases h : w0_ L a = true
    · obtain ⟨k1, k2, k3, k4⟩ := hstep a h
      rw [if_pos ⟨hab, h⟩]
      exact ⟨by omega, k3⟩
    · rw [if_neg (fun k => h k.2)]
      exact ⟨Nat.le_refl _, by simpa using h⟩
  have B : b ≤ toN L b ∧ toN L b ≤ L.length ∧ w0_ L (toN L b) = false := by
    unfold toN
    by_cases h : w0_ L b = true
    · obtain ⟨k1, k2, k3, k4⟩ := hstep b h
      rw [if_pos h]
      exact ⟨by omega, by omega, k4⟩
    · rw [if_neg h]
      exact ⟨Nat.le_refl _, hb, by simpa using h⟩
  exact ⟨A.1, B.1, B.2.1, A.2, B.2.2⟩
theorem erase_ok {L : List Cel} {n a b : Nat} (hL : ∀ i c, L[i]? = some c → okA n L i c) (hab : a ≤ b) (hb : b ≤ L.length) (h0 : a = b → w0_ L b = false) :
    (eraseL L a b).length = L.length ∧ ∀ i c, (eraseL L a b)[i]? = some c → okA n (eraseL L a b) i c := by
  unfold eraseL
  by_cases hlt : a < b
  · obtain ⟨h1, h2, h3, h4, h5⟩ := erase_ends hL hlt hb
    obtain ⟨a', ha⟩ : ∃ x, fromN L a b = x := ⟨_, rfl⟩
    obtain ⟨b', hb'⟩ : ∃ x, toN L b = x := ⟨_, rfl⟩
    rw [ha] at h1 h4
    rw [hb'] at h2 h3 h5
    rw [ha, hb']
    refine ⟨fillLen (by omega) h3, fun i c hc => ?_⟩
    rw [fill_at (by omega) h3] at hc
    split at hc
    · cases hc; exact ok_blk _ _ _
    · rename_i hi
      obtain ⟨k1, k2, k3, k4, k5, k6⟩ := hL i c hc
      refine ⟨k1, k2, k3, k4, fun hw => ?_, fun hw => ?_⟩
      · obtain ⟨e1, d, hd, hd0⟩ := k5 hw
        refine ⟨e1, d, ?_, hd0⟩
        rw [fill_at (by omega) h3, if_neg, hd]
        intro hin
        have : i + 1 = a' := by clear k4 k5 k6 hc hw; omega
        rw [this] at hd
        rw [w0_iff.2 ⟨d, hd, hd0⟩] at h4; cases h4
      · obtain ⟨e1, p, hp, e2⟩ := k6 hw
        refine ⟨e1, p, ?_, e2⟩
        rw [fill_at (by omega) h3, if_neg, hp]
        intro hin
        have hi0 : i ≠ 0 := fun e => by subst e; exact e1 (Nat.zero_mod n)
        have : i = b' := by clear k4 k5 k6 hc hw; omega
        rw [this] at hc
        rw [w0_iff.2 ⟨c, hc, hw⟩] at h5; cases h5
  · obtain rfl : a = b := by omega
    have hw := h0 rfl
    have e1 : fromN L a a = a := by unfold fromN; rw [if_neg (fun k => hlt k.1)]
    have e2 : toN L a = a := by unfold toN; rw [hw, if_neg (by decide)]
    rw [e1, e2, fill_none]
    exact ⟨rfl, hL⟩
/-- At a row's front no other half stands. -/
theorem w0_front {L : List Cel} {n k : Nat} (hL : ∀ i c, L[i]? = some c → okA n L i c) : w0_ L (k * n) = false := by
  rw [Bool.eq_false_iff]
  intro h
  obtain ⟨c, hc, hw⟩ := w0_iff.1 h
  exact ((hL _ c hc).2.2.2.2.2 hw).1 (Nat.mul_mod_left k n)
theorem scroll_len {L : List Cel} {n : Nat} (h : n ≤ L.length) : (scrollL L n).length = L.length := by
  unfold scrollL
  rw [List.length_append, List.length_drop, List.length_replicate]; omega
theorem scroll_at {L : List Cel} {n : Nat} (h : n ≤ L.length) (i : Nat) : (scrollL L n)[i]? = if i < L.length - n then L[i + n]? else if i < L.length then some blkC else none := by
  unfold scrollL
  by_cases h1 : i < L.length - n
  · rw [if_pos h1, List.getElem?_append_left (by rw [List.length_drop]; omega), List.getElem?_drop, Nat.add_comm]
  · rw [if_neg h1, List.getElem?_append_right (by rw [List.length_drop]; omega), List.length_drop, List.getElem?_replicate]
    by_cases h2 : i < L.length
    · rw [if_pos h2, if_pos (by omega)]
    · rw [if_neg h2, if_neg (by omega)]
theorem OkF.le {f : Frm} {m n : Nat} (h : OkF f m n) : n ≤ f.cells.length ∧ f.cells.length - n = (m - 1) * n := by
  have h1 := h.hm
  obtain ⟨k, rfl⟩ : ∃ k, m = k + 1 := ⟨m - 1, by omega⟩
  rw [h.len, Nat.add_mul, Nat.one_mul, show k + 1 - 1 = k from rfl]
  omega
theorem feed_ok' {f : Frm} {m n : Nat} (h : OkF f m n) : OkF (feedF f) m n := by
  unfold feedF
  have hr := h.rows; have h1 := h.row
  split
  · exact h.curs (by omega) h.col
  · rw [h.nat.2]
    obtain ⟨hn, hs⟩ := h.le
    have hL := okF_all h
    have hn8 := h.hn
    refine h.cells_ (by rw [scroll_len hn, h.len]) fun i c hc => ?_
    rw [scroll_at hn] at hc
    split at hc
    · rename_i hi
      obtain ⟨k1, k2, k3, k4, k5, k6⟩ := hL _ c hc
      rw [Nat.add_mod_right] at k5 k6
      refine ⟨k1, k2, k3, k4, fun hw => ?_, fun hw => ?_⟩
      · obtain ⟨e1, d, hd, hd0⟩ := k5 hw
        refine ⟨e1, d, ?_, hd0⟩
        rw [scroll_at hn, if_pos]
        · rw [← hd]; congr 1; omega
        · -- i is not its row's last place, so i + 1 is of the same row
          rw [hs] at hi ⊢
          rcases Nat.lt_or_ge (i + 1) ((m - 1) * n) with k | k
          · exact k
          · exfalso
            have : i + 1 = (m - 1) * n := by omega
            apply e1
            obtain ⟨q, hq⟩ : ∃ q, m - 1 = q + 1 := ⟨m - 2, by have := h.hm; omega⟩
            rw [hq, Nat.add_mul, Nat.one_mul] at this
            have e : i = q * n + (n - 1) := by omega
            rw [e, Nat.mul_comm q n, Nat.mul_add_mod]
            exact Nat.mod_eq_of_lt (by omega)
      · obtain ⟨e1, p, hp, e2⟩ := k6 hw
        have hi0 : i ≠ 0 := fun e => by subst e; exact e1 (Nat.zero_mod n)
        refine ⟨e1, p, ?_, e2⟩
        rw [scroll_at hn, if_pos (by omega), ← hp]
        congr 1; omega
    · split at hc
      · cases hc; exact ok_blk _ _ _
      · cases hc
theorem sty_ok (s : Sty) (n : Nat) (h : styB s = true) : styB (styN s n) = true := by
  rw [styB_iff] at h ⊢
  unfold styN
  repeat' split
  all_goals first | exact h | (simp only [sty0]; omega)
theorem sty_fold : ∀ (l : List Nat) (s : Sty), styB s = true → styB (l.foldl styN s) = true
  | [], _, h => h
  | a :: l, s, h => sty_fold l _ (sty_ok s a h)
theorem stys_ok (s : Sty) (l : List Nat) (h : styB s = true) : styB (stysN s l) = true := by
  unfold stysN
  split
  · decide
  · exact sty_fold l s h
theorem rowsE_is (f : Frm) (n : Nat) : (rowsE f n).rows = f.rows ∧ (rowsE f n).cols = f.cols ∧ (rowsE f n).row = f.row ∧ (rowsE f n).col = f.col := ⟨rfl, rfl, rfl, rfl⟩
theorem place_lt {m n r c : Nat} (hr : r < m) (hc : c < n) : r * n + c < m * n := by
  have := row_room (n := n) hr
  omega
theorem rowsE_ok {f : Frm} {m n : Nat} (h : OkF f m n) (k : Nat) : OkF (rowsE f k) m n := by
  unfold rowsE
  rw [h.nat.2]
  have hr := h.rows; have h1 := h.row
  have hL := okF_all h
  have hrow : f.row.toNat < m := by omega
  have hle := row_room (n := n) hrow
  have A : ∀ (L : List Cel), L.length = m * n → (∀ i c, L[i]? = some c → okA n L i c) → (eraseL L ((f.row.toNat + 1) * n) L.length).length = m * n ∧ ∀ i c, (eraseL L ((f.row.toNat + 1) * n) L.length)[i]? = some c → okA n (eraseL L ((f.row.toNat + 1) * n) L.length) i c := fun L hl hL => by
    have := erase_ok (a := (f.row.toNat + 1) * n) (b := L.length) hL (by rw [hl]; exact Nat.mul_le_mul_right n hrow) (Nat.le_refl _) (fun _ => w0_out (Nat.le_refl _))
    rwa [hl] at this ⊢
  have B : ∀ (L : List Cel), L.length = m * n → (∀ i c, L[i]? = some c → okA n L i c) → (eraseL L 0 (f.row.toNat * n)).length = m * n ∧ ∀ i c, (eraseL L 0 (f.row.toNat * n))[i]? = some c → okA n (eraseL L 0 (f.row.toNat * n)) i c := fun L hl hL => by
    have := erase_ok (a := 0) (b := f.row.toNat * n) hL (Nat.zero_le _) (by rw [hl]; omega) (fun _ => w0_front hL)
    rwa [hl] at this
  have C : ∀ L : List Cel, (L.length = m * n ∧ ∀ i c, L[i]? = some c → okA n L i c) → (if k = 1 ∨ k = 2 then eraseL L 0 (f.row.toNat * n) else L).length = m * n ∧ ∀ i c, (if k = 1 ∨ k = 2 then eraseL L 0 (f.row.toNat * n) else L)[i]? = some c → okA n (if k = 1 ∨ k = 2 then eraseL L 0 (f.row.toNat * n) else L) i c := fun L ⟨a, b⟩ => by
    split
    · exact B L a b
    · exact ⟨a, b⟩
  have D : (if k = 0 ∨ k = 2 then eraseL f.cells ((f.row.toNat + 1) * n) f.cells.length else f.cells).length = m * n ∧ ∀ i c, (if k = 0 ∨ k = 2 then eraseL f.cells ((f.row.toNat + 1) * n) f.cells.length else f.cells)[i]? = some c → okA n (if k = 0 ∨ k = 2 then eraseL f.cells ((f.row.toNat + 1) * n) f.cells.length else f.cells) i c := by
    split
    · exact A _ h.len hL
    · exact ⟨h.len, hL⟩
  exact h.cells_ (C _ D).1 (C _ D).2
theorem rowE_ok {f : Frm} {m n : Nat} (h : OkF f m n) (k : Nat) : OkF (rowE f k) m n := by
  unfold rowE
  rw [h.nat.2]
  have hr := h.rows; have h1 := h.row; have hc := h.cols; have h2 := h.col
  have hL := okF_all h
  have hrow : f.row.toNat < m := by omega
  have hcol : f.col.toNat < n := by omega
  have hle := row_room (n := n) hrow
  have hlen := h.len
  have E : ∀ a b, a < b → b ≤ m * n → (eraseL f.cells a b).length = m * n ∧ ∀ i c, (eraseL f.cells a b)[i]? = some c → okA n (eraseL f.cells a b) i c := fun a b hab hb => by
    have := erase_ok (a := a) (b := b) hL (by omega) (by omega) (fun e => by omega)
    rwa [hlen] at this
  have C : ∀ L : List Cel, (L.length = m * n ∧ ∀ i c, L[i]? = some c → okA n L i c) → OkF { f with cells := L } m n := fun L k => h.cells_ k.1 k.2
  split
  · exact C _ (E _ _ (by omega) (by omega))
  split
  · exact C _ (E _ _ (by omega) (by omega))
  split
  · exact C _ (E _ _ (by omega) (by omega))
  · exact h
theorem show_ok {t : Tm} {m n : Nat} (h : OkT t m n) (r : Int) : OkT (showT t r) m n := by
  refine ⟨?_, h.st, h.ps⟩
  unfold showT
  have hn := h.fr.hn
  have A : OkF (if t.waits = true ∨ t.f.cols < t.f.col + (ofN r : Int) then feedF { t.f with col := 0 } else t.f) m n := by
    split
    · exact feed_ok' (h.fr.curs h.fr.row (by omega))
    · exact h.fr
  exact go_ok (put_okF A _ _ _ _) _ _
theorem control_ok {t : Tm} {m n : Nat} (h : OkT t m n) (r : Int) : OkT (controlT t r) m n := by
  have hn := h.fr.hn
  unfold controlT
  repeat' split
  · exact ⟨h.fr, h.st, h.ps⟩
  · exact ⟨go_ok h.fr _ _, h.st, h.ps⟩
  · exact ⟨feed_ok' h.fr, h.st, h.ps⟩
  · exact ⟨h.fr.curs h.fr.row (by omega), h.st, h.ps⟩
  · exact h
theorem seq_ok {t : Tm} {m n : Nat} (h : OkT t m n) (l : List Nat) (b : Nat) : OkT (seqT t l b) m n := by
  unfold seqT
  simp only []
  repeat' split
  all_goals first | exact h | exact ⟨go_ok h.fr _ _, h.st, h.ps⟩ | exact ⟨rowE_ok (rowsE_ok h.fr _) _, h.st, h.ps⟩ | exact ⟨rowE_ok h.fr _, h.st, h.ps⟩ | exact ⟨h.fr, stys_ok _ _ h.st, h.ps⟩
theorem do_ok {t : Tm} {m n : Nat} (h : OkT t m n) (a : Ac) : OkT (doT t a) m n := by
  unfold doT
  repeat' split
  · exact show_ok h _
  · exact control_ok h _
  · exact seq_ok h _ _
  · exact h
theorem dos_ok {t : Tm} {m n : Nat} (h : OkT t m n) (l : List Ac) : OkT (l.foldl doT t) m n := by
  induction l generalizing t with
  | nil => exact h
  | cons a l ih => exact ih (do_ok h a)
theorem byte_ok {t : Tm} {m n : Nat} (h : OkT t m n) (b : Nat) : OkT (byteT t b) m n := dos_ok (t := { t with p := (feedN t.p b).1 }) ⟨h.fr, h.st, ok_feed _ b h.ps⟩ _
theorem write_ok {t : Tm} {m n : Nat} (h : OkT t m n) (L : List UInt8) : OkT (writeT t L) m n := by
  induction L generalizing t with
  | nil => exact h
  | cons a l ih => exact ih (byte_ok h a.toNat)
theorem newT_ok (m n : Nat) (hm : 2 ≤ m ∧ m ≤ 100) (hn : 8 ≤ n ∧ n ≤ 200) : OkT (newT m n) m n := ⟨new_ok m n hm hn, (by decide : styB sty0 = true), trivial⟩
end Go.Proofs.YtpkjaallhhjleaaGreatDoor
