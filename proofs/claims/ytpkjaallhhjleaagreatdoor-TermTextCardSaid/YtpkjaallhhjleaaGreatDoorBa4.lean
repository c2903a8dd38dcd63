/-
  Texts of this proof, one behind the other; each begins with its own remark.
-/
import Derived.Deep.RegionHeld3
import Derived.Deep.RegionWith
import Derived.Test.YtpkjaallhhjleaaGreatDoorBa3
import Derived.Test.YtpkjaallhhjleaaGreatDoorBa2
/-
  Plain facts: frames: which may be, what becomes of one as a rune is put in, what it is in another size; in how many cells two are unlike; what the rows show. Nothing of the program is run here.
-/
namespace Go.Proofs.YtpkjaallhhjleaaGreatDoor
open Go.RowKit

/-- A frame: its size, its cells, row by row, its cursor. -/
structure Frm where
  rows : Int
  cols : Int
  cells : List Cel
  row : Int
  col : Int
def zeroF : Frm := ⟨0, 0, [], 0, 0⟩
def rowK (L : List Cel) (n k : Nat) : List Cel := (L.drop (k * n)).take n
def setK (L : List Cel) (n k : Nat) (R : List Cel) : List Cel := L.take (k * n) ++ R ++ L.drop (k * n + n)

theorem rowK_at (L : List Cel) (n k j : Nat) : (rowK L n k)[j]? = if j < n then L[k * n + j]? else none := by
  unfold rowK
  rw [List.getElem?_take, List.getElem?_drop]
theorem row_room {m n k : Nat} (hk : k < m) : k * n + n ≤ m * n := by
  have := Nat.mul_le_mul_right n (show k + 1 ≤ m from hk)
  rwa [Nat.add_mul, Nat.one_mul] at this
theorem rowK_len {L : List Cel} {m n k : Nat} (hl : L.length = m * n) (hk : k < m) : (rowK L n k).length = n := by
  have := row_room (n := n) hk
  unfold rowK
  rw [List.length_take, List.length_drop]; omega
theorem parts (L : List Cel) (n k : Nat) : L = L.take (k * n) ++ rowK L n k ++ L.drop (k * n + n) := by
  unfold rowK
  rw [List.append_assoc, show L.drop (k * n + n) = (L.drop (k * n)).drop n by rw [List.drop_drop], List.take_append_drop, List.take_append_drop]
theorem setK_len {L : List Cel} {m n k : Nat} (R : List Cel) (hl : L.length = m * n) (hk : k < m) (hR : R.length = n) : (setK L n k R).length = m * n := by
  have := row_room (n := n) hk
  unfold setK
  rw [List.length_append, List.length_append, List.length_take, List.length_drop]; omega
theorem setK_row {L : List Cel} {m n k : Nat} (R : List Cel) (hl : L.length = m * n) (hk : k < m) (hR : R.length = n) (j : Nat) : rowK (setK L n k R) n j = if j = k then R else rowK L n j := by
  have hr := row_room (n := n) hk
  apply List.ext_getElem?
  intro i
  rw [rowK_at]
  by_cases hi : i < n
  · rw [if_pos hi]
    unfold setK
    by_cases e : j = k
    · subst e
      rw [if_pos rfl, List.append_assoc, List.getElem?_append_right (by rw [List.length_take]; omega), List.length_take, Nat.min_eq_left (by omega), show j * n + i - j * n = i by omega, List.getElem?_append_left (by omega)]
    · rw [if_neg e, rowK_at, if_pos hi]
      rcases Nat.lt_or_ge j k with h | h
      · have := row_room (n := n) h
        rw [List.append_assoc, List.getElem?_append_left (by rw [List.length_take]; omega), List.getElem?_take, if_pos (by omega)]
      · have := row_room (n := n) (show k < j by omega)
        rw [List.getElem?_append_right (by rw [List.length_append, List.length_take]; omega), List.getElem?_drop]
        congr 1
        rw [List.length_append, List.length_take]; omega
  · rw [if_neg hi]
    split
    · rw [List.getElem?_eq_none (by omega)]
    · rw [rowK_at, if_neg hi]
theorem setK_self (L : List Cel) (n k : Nat) : setK L n k (rowK L n k) = L := (parts L n k).symm
/-- Two lists of rows are one if their rows are. -/
theorem rows_ext {L M : List Cel} {m n : Nat} (hn : 0 < n) (h1 : L.length = m * n) (h2 : M.length = m * n) (h : ∀ k, k < m → rowK L n k = rowK M n k) : L = M := by
  apply List.ext_getElem?
  intro i
  by_cases hi : i < m * n
  · have hk : i / n < m := Nat.div_lt_of_lt_mul (by rw [Nat.mul_comm]; exact hi)
    have e := congrArg (fun l : List Cel => l[i % n]?) (h _ hk)
    simp only [rowK_at, if_pos (Nat.mod_lt i hn)] at e
    rwa [Nat.div_add_mod' i n] at e
  · rw [List.getElem?_eq_none (by omega), List.getElem?_eq_none (by omega)]
theorem flat_len {m n : Nat} {g : Nat → List Cel} (hg : ∀ k, k < m → (g k).length = n) : ((List.range m).flatMap g).length = m * n := by
  induction m with
  | zero => simp
  | succ m ih =>
    rw [List.range_succ, List.flatMap_append, List.length_append, ih fun k hk => hg k (by omega)]
    simp only [List.flatMap_cons, List.flatMap_nil, List.append_nil]
    rw [hg m (by omega), Nat.add_mul, Nat.one_mul]
theorem flat_row {m n : Nat} {g : Nat → List Cel} (hg : ∀ k, k < m → (g k).length = n) (k : Nat) (hk : k < m) : rowK ((List.range m).flatMap g) n k = g k := by
  induction m with
  | zero => omega
  | succ m ih =>
    have hl := flat_len (m := m) (n := n) (g := g) fun k hk => hg k (by omega)
    rw [List.range_succ, List.flatMap_append]
    simp only [List.flatMap_cons, List.flatMap_nil, List.append_nil]
    by_cases h : k < m
    · rw [← ih (fun k hk => hg k (by omega)) h]
      have := row_room (n := n) h
      unfold rowK
      rw [List.drop_append_of_le_length (by omega), List.take_append_of_le_length (by rw [List.length_drop]; omega)]
    · obtain rfl : k = m := by omega
      unfold rowK
      rw [← hl, List.drop_left, List.take_of_length_le (by rw [hg k hk]; exact Nat.le_refl _)]

def sizedB (rows cols : Int) : Bool := decide (2 ≤ rows) && decide (rows ≤ 100) && decide (8 ≤ cols) && decide (cols ≤ 200)
def withinB (rows cols row col : Int) : Bool := decide (0 ≤ row) && decide (row < rows) && decide (0 ≤ col) && decide (col < cols)
theorem sizedB_iff (a b : Int) : sizedB a b = true ↔ 2 ≤ a ∧ a ≤ 100 ∧ 8 ≤ b ∧ b ≤ 200 := by unfold sizedB; simp [and_assoc]
theorem withinB_iff (a b c d : Int) : withinB a b c d = true ↔ 0 ≤ c ∧ c < a ∧ 0 ≤ d ∧ d < b := by unfold withinB; simp [and_assoc]
def rowsB (L : List Cel) (n m : Nat) : Bool := (List.range m).all fun k => rowB (rowK L n k)
theorem rowsB_iff (L : List Cel) (n m : Nat) : rowsB L n m = true ↔ ∀ k, k < m → okRow (rowK L n k) := by
  unfold rowsB
  rw [List.all_eq_true]
  exact ⟨fun h k hk => (rowB_iff _).1 (h k (List.mem_range.2 hk)), fun h k hk => (rowB_iff _).2 (h k (List.mem_range.1 hk))⟩
/-- May it be? -/
def validB (f : Frm) : Bool := sizedB f.rows f.cols && decide ((f.cells.length : Int) = f.rows * f.cols) && withinB f.rows f.cols f.row f.col && rowsB f.cells f.cols.toNat f.rows.toNat
structure OkF (f : Frm) (m n : Nat) : Prop where
  rows : f.rows = (m : Int)
  cols : f.cols = (n : Int)
  hm : 2 ≤ m ∧ m ≤ 100
  hn : 8 ≤ n ∧ n ≤ 200
  len : f.cells.length = m * n
  row : 0 ≤ f.row ∧ f.row < (m : Int)
  col : 0 ≤ f.col ∧ f.col < (n : Int)
  each : ∀ k, k < m → okRow (rowK f.cells n k)
theorem OkF.valid {f : Frm} {m n : Nat} (h : OkF f m n) : validB f = true := by
  unfold validB
  simp only [Bool.and_eq_true, decide_eq_true_eq, sizedB_iff, withinB_iff]
  rw [h.rows, h.cols]
  refine ⟨⟨⟨?_, by rw [h.len]; exact Int.natCast_mul m n⟩, h.row.1, h.row.2, h.col.1, h.col.2⟩, (rowsB_iff _ _ _).2 h.each⟩
  have := h.hm; have := h.hn
  omega
theorem valid_ok {f : Frm} (h : validB f = true) : OkF f f.rows.toNat f.cols.toNat := by
  unfold validB at h
  simp only [Bool.and_eq_true, decide_eq_true_eq, sizedB_iff, withinB_iff] at h
  obtain ⟨⟨⟨⟨h1, h2, h3, h4⟩, h5⟩, h6, h7, h8, h9⟩, h10⟩ := h
  refine ⟨by omega, by omega, by omega, by omega, ?_, by omega, by omega, (rowsB_iff _ _ _).1 h10⟩
  have e1 : ((f.rows.toNat : Nat) : Int) = f.rows := Int.toNat_of_nonneg (by omega)
  have e2 : ((f.cols.toNat : Nat) : Int) = f.cols := Int.toNat_of_nonneg (by omega)
  have : (f.cells.length : Int) = ((f.rows.toNat * f.cols.toNat : Nat) : Int) := by rw [Int.natCast_mul, e1, e2, h5]
  omega
theorem OkF.nat {f : Frm} {m n : Nat} (h : OkF f m n) : f.rows.toNat = m ∧ f.cols.toNat = n := by
  have h1 := h.rows; have h2 := h.cols; omega
theorem OkF.room {f : Frm} {m n : Nat} (h : OkF f m n) : f.cells.length ≤ 20000 := by
  rw [h.len]
  exact Nat.le_trans (Nat.mul_le_mul h.hm.2 h.hn.2) (by decide)

/-- What may stand at place i among all cells, in rows of n. -/
def okA (n : Nat) (L : List Cel) (i : Nat) (c : Cel) : Prop :=
  styB c.2.2 = true ∧ 0 ≤ c.2.1 ∧ c.2.1 ≤ 2 ∧ (0 < c.2.1 → (ofN c.1 : Int) = c.2.1) ∧ (c.2.1 = 2 → i % n ≠ n - 1 ∧ ∃ d, L[i + 1]? = some d ∧ d.2.1 = 0) ∧
    (c.2.1 = 0 → i % n ≠ 0 ∧ ∃ p, L[i - 1]? = some p ∧ p.2.1 = 2 ∧ c.1 = 0 ∧ c.2.2 = p.2.2)
theorem okA_row (n : Nat) (L : List Cel) (k j : Nat) (c : Cel) (hj : j < n) : okA n L (k * n + j) c ↔ okC (rowK L n k) j c := by
  have hmod : (k * n + j) % n = j := by rw [Nat.mul_comm, Nat.mul_add_mod]; exact Nat.mod_eq_of_lt hj
  unfold okA okC
  refine and_congr Iff.rfl (and_congr Iff.rfl (and_congr Iff.rfl (and_congr Iff.rfl (and_congr (imp_congr Iff.rfl ?_) (imp_congr Iff.rfl ?_)))))
  · rw [hmod, rowK_at]
    by_cases h : j + 1 < n
    · rw [if_pos h]; exact ⟨fun k => k.2, fun k => ⟨by omega, k⟩⟩
    · rw [if_neg h]
      exact ⟨fun k => (k.1 (by omega)).elim, fun ⟨d, hd, _⟩ => by cases hd⟩
  · rw [hmod]
    cases j with
    | zero => exact ⟨fun k => (k.1 rfl).elim, fun ⟨i, p, hi, _⟩ => by omega⟩
    | succ j =>
      constructor
      · rintro ⟨_, p, hp, h⟩
        exact ⟨j, p, rfl, by rw [rowK_at, if_pos (by omega)]; exact hp, h⟩
      · rintro ⟨i, p, hi, hp, h⟩
        obtain rfl : i = j := by omega
        rw [rowK_at, if_pos (by omega)] at hp
        exact ⟨by omega, p, hp, h⟩
theorem rows_all {L : List Cel} {m n : Nat} (hn : 0 < n) (hl : L.length = m * n) : (∀ k, k < m → okRow (rowK L n k)) ↔ ∀ i c, L[i]? = some c → okA n L i c := by
  constructor
  · intro H i c hc
    have hi := (List.getElem?_eq_some_iff.1 hc).1
    have hk : i / n < m := Nat.div_lt_of_lt_mul (by rw [Nat.mul_comm, ← hl]; exact hi)
    have e := Nat.div_add_mod' i n
    have := (okA_row n L (i / n) (i % n) c (Nat.mod_lt i hn)).2 (H _ hk _ _ (by rw [rowK_at, if_pos (Nat.mod_lt i hn), e]; exact hc))
    rwa [e] at this
  · intro H k hk j c hj
    rw [rowK_at] at hj
    split at hj
    · rename_i h
      exact (okA_row n L k j c h).1 (H _ _ hj)
    · cases hj

def sameB (a b : Frm) : Bool := decide (a.rows = b.rows) && decide (a.cols = b.cols) && decide (a.row = b.row) && decide (a.col = b.col) && decide (a.cells = b.cells)
theorem sameB_iff (a b : Frm) : sameB a b = true ↔ a = b := by
  unfold sameB
  simp only [Bool.and_eq_true, decide_eq_true_eq]
  constructor
  · rintro ⟨⟨⟨⟨h1, h2⟩, h3⟩, h4⟩, h5⟩
    cases a; cases b
    simp_all
  · rintro rfl; simp
theorem sameB_self (a : Frm) : sameB a a = true := (sameB_iff a a).2 rfl

def newF (rows cols : Int) : Frm := if sizedB rows cols then ⟨rows, cols, List.replicate (rows * cols).toNat blkC, 0, 0⟩ else zeroF
def newE (rows cols : Int) : Int := if sizedB rows cols then 0 else 2
theorem rep_row (m n k : Nat) (hk : k < m) : rowK (List.replicate (m * n) blkC) n k = List.replicate n blkC := by
  have := row_room (n := n) hk
  unfold rowK
  rw [List.drop_replicate, List.take_replicate, Nat.min_eq_left (by omega)]
theorem new_ok (m n : Nat) (hm : 2 ≤ m ∧ m ≤ 100) (hn : 8 ≤ n ∧ n ≤ 200) : OkF (newF (m : Int) (n : Int)) m n := by
  unfold newF
  rw [if_pos ((sizedB_iff _ _).2 (by omega))]
  refine ⟨rfl, rfl, hm, hn, ?_, by simp; omega, by simp; omega, fun k hk => ?_⟩
  · rw [List.length_replicate, ← Int.natCast_mul]; exact Int.toNat_natCast _
  · show okRow (rowK (List.replicate _ _) n k)
    rw [← Int.natCast_mul, Int.toNat_natCast, rep_row m n k hk]
    exact rep_ok n

def canB (f : Frm) (row col r : Int) (s : Sty) : Bool := decide (0 < ofN r) && withinB f.rows f.cols row col && decide (col + (ofN r : Int) ≤ f.cols) && styB s
theorem canB_iff (f : Frm) (row col r : Int) (s : Sty) : canB f row col r s = true ↔ 0 < ofN r ∧ (0 ≤ row ∧ row < f.rows ∧ 0 ≤ col ∧ col < f.cols) ∧ col + (ofN r : Int) ≤ f.cols ∧ styB s = true := by
  unfold canB; simp only [Bool.and_eq_true, decide_eq_true_eq, withinB_iff, and_assoc]
def layF (f : Frm) (row col r : Int) (s : Sty) : Frm := { f with cells := setK f.cells f.cols.toNat row.toNat (putL (rowK f.cells f.cols.toNat row.toNat) col.toNat r (ofN r) s) }
def putF (f : Frm) (row col r : Int) (s : Sty) : Frm := if validB f then (if canB f row col r s then layF f row col r s else f) else zeroF
theorem of_two {r : Int} (h : 0 < ofN r) : ofN r = 1 ∨ ofN r = 2 := by have := ofN_le r; omega
theorem put_okF {f : Frm} {m n : Nat} (h : OkF f m n) (row col r : Int) (s : Sty) : OkF (putF f row col r s) m n := by
  unfold putF
  rw [if_pos h.valid]
  cases hc : canB f row col r s with
  | false => exact h
  | true =>
    obtain ⟨c1, ⟨c2, c3, c4, c5⟩, c6, c7⟩ := (canB_iff _ _ _ _ _).1 hc
    rw [if_pos rfl]
    unfold layF
    obtain ⟨e1, e2⟩ := h.nat
    rw [e2]
    have hr := h.rows; have hcl := h.cols
    have hk : row.toNat < m := by omega
    have hlen := rowK_len h.len hk
    have hP := put_ok (h.each _ hk) col.toNat r (ofN r) s rfl (of_two c1) (by rw [hlen]; omega) c7
    refine ⟨h.rows, h.cols, h.hm, h.hn, setK_len _ h.len hk (by rw [put_len, hlen]), h.row, h.col, fun k hk2 => ?_⟩
    show okRow (rowK (setK _ _ _ _) n k)
    rw [setK_row _ h.len hk (by rw [put_len, hlen])]
    split
    · exact hP
    · exact h.each k hk2
theorem put_curs {f : Frm} {m n : Nat} (h : OkF f m n) (row col r : Int) (s : Sty) : (putF f row col r s).row = f.row ∧ (putF f row col r s).col = f.col := by
  unfold putF layF
  rw [if_pos h.valid]
  split <;> exact ⟨rfl, rfl⟩
/-- What is put in stands there. -/
theorem put_there {f : Frm} {m n : Nat} (h : OkF f m n) {row col r : Int} {s : Sty} (hc : canB f row col r s = true) : (putF f row col r s).cells[row.toNat * n + col.toNat]? = some (r, (ofN r : Int), s) := by
  obtain ⟨c1, ⟨c2, c3, c4, c5⟩, c6, c7⟩ := (canB_iff _ _ _ _ _).1 hc
  have hr := h.rows; have hcl := h.cols
  have hk : row.toNat < m := by omega
  have hlen := rowK_len h.len hk
  have hj : col.toNat < n := by omega
  have e : (rowK (putF f row col r s).cells n row.toNat)[col.toNat]? = some (r, (ofN r : Int), s) := by
    unfold putF layF
    rw [if_pos h.valid, hc, if_pos rfl, h.nat.2]
    show (rowK (setK _ _ _ _) n row.toNat)[col.toNat]? = _
    rw [setK_row _ h.len hk (by rw [put_len, hlen]), if_pos rfl, put_at (h.each _ hk) _ _ _ _ (of_two c1) (by rw [hlen]; omega), if_pos rfl]
  rw [rowK_at, if_pos hj] at e
  exact e
theorem put_fewF {f : Frm} {m n : Nat} (h : OkF f m n) {row col r : Int} {s : Sty} (hc : canB f row col r s = true) : diffN f.cells (putF f row col r s).cells ≤ ofN r + 2 := by
  obtain ⟨c1, ⟨c2, c3, c4, c5⟩, c6, c7⟩ := (canB_iff _ _ _ _ _).1 hc
  have hr := h.rows; have hcl := h.cols
  have hk : row.toNat < m := by omega
  have hlen := rowK_len h.len hk
  unfold putF layF
  rw [if_pos h.valid, hc, if_pos rfl, h.nat.2]
  show diffN f.cells (setK _ _ _ _) ≤ _
  have hP := put_few (h.each _ hk) col.toNat r (ofN r) s (of_two c1) (by rw [hlen]; omega)
  conv => lhs; arg 1; rw [parts f.cells n row.toNat]
  unfold setK
  rw [diff_app _ _ _ _ (by rw [List.length_append, List.length_append, put_len]), diff_app _ _ _ _ rfl, diff_self, diff_self]
  omega

def resC (f : Frm) (rows cols : Nat) : List Cel := (List.range rows).flatMap fun (k : Nat) => if (k : Int) < f.rows then resL (rowK f.cells f.cols.toNat k) cols else List.replicate cols blkC
def resF (f : Frm) (rows cols : Int) : Frm := if validB f && sizedB rows cols then ⟨rows, cols, resC f rows.toNat cols.toNat, min f.row (rows - 1), min f.col (cols - 1)⟩ else zeroF
def resE (f : Frm) (rows cols : Int) : Int := if validB f && sizedB rows cols then 0 else 2
theorem resC_each (f : Frm) (cols k : Nat) : (if (k : Int) < f.rows then resL (rowK f.cells f.cols.toNat k) cols else List.replicate cols blkC).length = cols := by
  split
  · exact res_len _ _
  · exact List.length_replicate
theorem resC_len (f : Frm) (rows cols : Nat) : (resC f rows cols).length = rows * cols := flat_len fun k _ => resC_each f cols k
theorem resC_row (f : Frm) (rows cols k : Nat) (hk : k < rows) : rowK (resC f rows cols) cols k = if (k : Int) < f.rows then resL (rowK f.cells f.cols.toNat k) cols else List.replicate cols blkC := flat_row (fun k _ => resC_each f cols k) k hk
theorem resF_is {f : Frm} {m n : Nat} (h : OkF f m n) (p q : Nat) (hp : 2 ≤ p ∧ p ≤ 100) (hq : 8 ≤ q ∧ q ≤ 200) : resF f (p : Int) (q : Int) = ⟨p, q, resC f p q, min f.row ((p : Int) - 1), min f.col ((q : Int) - 1)⟩ ∧ resE f (p : Int) (q : Int) = 0 := by
  unfold resF resE
  rw [h.valid, (sizedB_iff _ _).2 (show 2 ≤ (p : Int) ∧ (p : Int) ≤ 100 ∧ 8 ≤ (q : Int) ∧ (q : Int) ≤ 200 by omega)]
  exact ⟨rfl, rfl⟩
theorem res_okF {f : Frm} {m n : Nat} (h : OkF f m n) (p q : Nat) (hp : 2 ≤ p ∧ p ≤ 100) (hq : 8 ≤ q ∧ q ≤ 200) : OkF (resF f (p : Int) (q : Int)) p q := by
  rw [(resF_is h p q hp hq).1]
  have h1 := h.row; have h2 := h.col
  refine ⟨rfl, rfl, hp, hq, resC_len f p q, by simp only []; omega, by simp only []; omega, fun k hk => ?_⟩
  show okRow (rowK (resC f p q) q k)
  rw [resC_row f p q k hk]
  split
  · rename_i hlt
    rw [h.nat.2]
    have hr := h.rows
    exact res_ok (h.each k (by omega)) q
  · exact rep_ok q
/-- One that is made larger, and as it was again, is as it was. -/
theorem res_backF {f : Frm} {m n : Nat} (h : OkF f m n) (p q : Nat) (hp : m ≤ p ∧ p ≤ 100) (hq : n ≤ q ∧ q ≤ 200) : resF (resF f (p : Int) (q : Int)) (m : Int) (n : Int) = f := by
  have hm := h.hm; have hn := h.hn
  have h1 := res_okF h p q (by omega) (by omega)
  rw [(resF_is h1 m n hm hn).1]
  have e := (resF_is h p q (by omega) (by omega)).1
  have hrow : (resF f (p : Int) (q : Int)).row = f.row := by rw [e]; have := h.row; simp only []; omega
  have hcol : (resF f (p : Int) (q : Int)).col = f.col := by rw [e]; have := h.col; simp only []; omega
  have hcs : resC (resF f (p : Int) (q : Int)) m n = f.cells := by
    refine rows_ext (m := m) (n := n) (by omega) (resC_len _ m n) h.len fun k hk => ?_
    rw [resC_row _ m n k hk, h1.rows, if_pos (by omega), h1.nat.2, e]
    show resL (rowK (resC f p q) q k) n = _
    have hr := h.rows
    rw [resC_row f p q k (by omega), if_pos (by omega), h.nat.2]
    have hl := rowK_len h.len hk
    have := res_back (h.each k hk) q (by omega)
    rwa [hl] at this
  rw [hrow, hcol, hcs]
  have h1 := h.row; have h2 := h.col; have h3 := h.rows; have h4 := h.cols
  cases f
  simp only [Frm.mk.injEq] at *
  refine ⟨by omega, by omega, trivial, by omega, by omega⟩
/-- One that is made smaller, and larger again, has what was not cut. -/
theorem res_keptF {f : Frm} {m n : Nat} (h : OkF f m n) (p q : Nat) (hp : 2 ≤ p ∧ p ≤ m) (hq : 8 ≤ q ∧ q ≤ n) (i : Nat) (h1 : i / n < p) (h2 : i % n < q - 1) :
    (resF (resF f (p : Int) (q : Int)) (m : Int) (n : Int)).cells[i]? = f.cells[i]? := by
  have hm := h.hm; have hn := h.hn
  have k1 := res_okF h p q (by omega) (by omega)
  rw [(resF_is k1 m n hm hn).1, (resF_is h p q (by omega) (by omega)).1]
  have e := Nat.div_add_mod' i n
  have hlt := Nat.mod_lt i (show 0 < n by omega)
  have a : ∀ L : List Cel, L[i]? = (rowK L n (i / n))[i % n]? := fun L => by rw [rowK_at, if_pos hlt, e]
  have hr := h.rows
  rw [a, a f.cells]
  show (rowK (resC ⟨(p : Int), (q : Int), resC f p q, _, _⟩ m n) n (i / n))[i % n]? = _
  rw [resC_row _ m n _ (by omega), if_pos (show ((i / n : Nat) : Int) < (p : Int) by omega)]
  show (resL (rowK (resC f p q) (q : Int).toNat (i / n)) n)[i % n]? = _
  rw [Int.toNat_natCast, resC_row f p q _ h1, if_pos (by omega), h.nat.2]
  have hl := rowK_len h.len (show i / n < m by omega)
  have hok := h.each _ (show i / n < m by omega)
  rw [res_at, if_neg (by omega), res_len, if_neg (by omega), if_neg (by omega), res_at, if_neg (by omega), if_neg (by omega), if_neg (by omega)]

def diffF (a b : Frm) : Int := if validB a && validB b && decide (a.rows = b.rows) && decide (a.cols = b.cols) then (diffN a.cells b.cells : Int) else -1
theorem diffF_is {a b : Frm} {m n : Nat} (h : OkF a m n) (g : OkF b m n) : diffF a b = (diffN a.cells b.cells : Int) := by
  unfold diffF
  rw [h.valid, g.valid, h.rows, g.rows, h.cols, g.cols]
  simp
theorem diffF_zero {a b : Frm} {m n : Nat} (h : OkF a m n) (g : OkF b m n) : sameB a b = (decide (diffF a b = 0) && decide (a.row = b.row) && decide (a.col = b.col)) := by
  rw [diffF_is h g]
  have := diff_zero a.cells b.cells (by rw [h.len, g.len])
  unfold sameB
  rw [h.rows, g.rows, h.cols, g.cols]
  rw [Bool.eq_iff_iff]
  simp only [Bool.and_eq_true, decide_eq_true_eq]
  rw [← this]
  constructor
  · rintro ⟨⟨⟨_, h3⟩, h4⟩, h5⟩
    exact ⟨⟨by omega, h3⟩, h4⟩
  · rintro ⟨⟨h5, h3⟩, h4⟩
    exact ⟨⟨⟨⟨trivial, trivial⟩, h3⟩, h4⟩, by omega⟩

/-- What a row shows, as bytes. -/
def shownL (l : List Cel) : List UInt8 := l.flatMap fun c => if 0 < c.2.1 then (putB c.1).data.toList else []
def shownS (l : List Cel) : ByteArray := ⟨(shownL l).toArray⟩
def rowsF (f : Frm) : List ByteArray := if validB f then (List.range f.rows.toNat).map fun k => shownS (rowK f.cells f.cols.toNat k) else []
theorem shownL_step (l : List Cel) (i : Nat) (c : Cel) (hc : l[i]? = some c) : shownL (l.take (i + 1)) = shownL (l.take i) ++ if 0 < c.2.1 then (putB c.1).data.toList else [] := by
  have h1 := (List.getElem?_eq_some_iff.1 hc).1
  rw [List.take_succ_eq_append_getElem h1, (List.getElem?_eq_some_iff.1 hc).2]
  unfold shownL
  rw [List.flatMap_append]
  simp
end Go.Proofs.YtpkjaallhhjleaaGreatDoor

/-
  widths.side and the two closures that ask it of a table's run: what each call returns: for every rune and every run.
-/
namespace Go.Proofs.YtpkjaallhhjleaaGreatDoor
open Go.RowKit

/-- What the two tables hold, cell by cell. -/
def TabW (w : World) : Prop := (1 < w.heap.size ∧ 2 < w.heap.size) ∧ (∀ k, k < 14 → w.cell? ⟨1, k, none⟩ = some (.int .i32 (hidF.getD k 0))) ∧ (∀ k, k < 28 → w.cell? ⟨2, k, none⟩ = some (.int .i32 (widF.getD k 0)))
theorem TabW.below {w w' : World} (h : TabW w) (hb : Below w.heap.size w w') : TabW w' :=
  ⟨⟨Nat.lt_of_lt_of_le h.1.1 hb.size, Nat.lt_of_lt_of_le h.1.2 hb.size⟩, fun k hk => by rw [hb.cell (p := ⟨1, k, none⟩) h.1.1]; exact h.2.1 k hk,
    fun k hk => by rw [hb.cell (p := ⟨2, k, none⟩) h.1.2]; exact h.2.2 k hk⟩

set_option maxHeartbeats 1000000 in
theorem side_any (r a b : Int) (w : World) :
    Calls Tryz.prog 78 #[.int .i32 r, .agg #[.int .i32 a, .int .i32 b]] w fun e w' => e = .returned (.int .i64 (sideI r a b)) ∧ Below w.heap.size w w' := by
  unfold sideI
  by_cases h1 : r < a
  · go_enter Tryz.func78, Tryz.ntmps78
    go_wp2
    go_ret
    exact ⟨by simp, (Below.refl _ _).alloc (Nat.le_refl _) _⟩
  · by_cases h2 : b < r
    · go_enter Tryz.func78, Tryz.ntmps78
      go_wp2
      go_ret
      exact ⟨by simp, (Below.refl _ _).alloc (Nat.le_refl _) _⟩
    · go_enter Tryz.func78, Tryz.ntmps78
      go_wp2
      go_ret
      exact ⟨by simp, (Below.refl _ _).alloc (Nat.le_refl _) _⟩

theorem TabW.hid {w : World} (h : TabW w) (i : Nat) (hi : i < 7) : w.cell? ⟨1, 2 * i, none⟩ = some (.int .i32 (hidF.getD (2 * i) 0)) ∧ w.cell? ⟨1, 2 * i + 1, none⟩ = some (.int .i32 (hidF.getD (2 * i + 1) 0)) :=
  ⟨h.2.1 _ (by omega), h.2.1 _ (by omega)⟩
theorem TabW.wid {w : World} (h : TabW w) (i : Nat) (hi : i < 14) : w.cell? ⟨2, 2 * i, none⟩ = some (.int .i32 (widF.getD (2 * i) 0)) ∧ w.cell? ⟨2, 2 * i + 1, none⟩ = some (.int .i32 (widF.getD (2 * i + 1) 0)) :=
  ⟨h.2.2 _ (by omega), h.2.2 _ (by omega)⟩

set_option maxHeartbeats 1000000 in
theorem hidSide_any (r : Int) (i br : Nat) (w : World) (hi : i < 7) (hT : TabW w) (hr : w.cell? ⟨br, 0, none⟩ = some (.int .i32 r)) :
    Calls Tryz.prog 77 #[.int .i64 (i : Int), .pointer (some ⟨br, 0, none⟩)] w fun e w' => e = .returned (.int .i64 (sideAt hidF r i)) ∧ Below w.heap.size w w' := by
  obtain ⟨c0, c1⟩ := hT.hid i hi
  unfold sideAt
  generalize hidF.getD (2 * i) 0 = a at *
  generalize hidF.getD (2 * i + 1) 0 = b at *
  have H := Lib.hid (fun w => side_any r a b w)
  clear hT
  have hi0 : (0 : Int) ≤ (i : Int) := by omega
  rw [Nat.mul_comm 2 i] at c0 c1
  have hi1 : (i : Int) < 7 := by omega
  go_enter Tryz.func77, Tryz.ntmps77
  go_wp2
  go_region_with (go_at_call 78; refine (H.out _).mono ?_; rintro e w' ⟨rfl, hb⟩)
  all_goals go_wp2
  all_goals go_ret
  all_goals exact ⟨rfl, ((Below.refl _ w).drew).trans hb⟩

set_option maxHeartbeats 1000000 in
theorem widSide_any (r : Int) (i br : Nat) (w : World) (hi : i < 14) (hT : TabW w) (hr : w.cell? ⟨br, 0, none⟩ = some (.int .i32 r)) :
    Calls Tryz.prog 79 #[.int .i64 (i : Int), .pointer (some ⟨br, 0, none⟩)] w fun e w' => e = .returned (.int .i64 (sideAt widF r i)) ∧ Below w.heap.size w w' := by
  obtain ⟨c0, c1⟩ := hT.wid i hi
  unfold sideAt
  generalize widF.getD (2 * i) 0 = a at *
  generalize widF.getD (2 * i + 1) 0 = b at *
  have H := Lib.hid (fun w => side_any r a b w)
  clear hT
  have hi0 : (0 : Int) ≤ (i : Int) := by omega
  rw [Nat.mul_comm 2 i] at c0 c1
  have hi1 : (i : Int) < 14 := by omega
  go_enter Tryz.func79, Tryz.ntmps79
  go_wp2
  go_region_with (go_at_call 78; refine (H.out _).mono ?_; rintro e w' ⟨rfl, hb⟩)
  all_goals go_wp2
  all_goals go_ret
  all_goals exact ⟨rfl, ((Below.refl _ w).drew).trans hb⟩
end Go.Proofs.YtpkjaallhhjleaaGreatDoor
