/-
  Plain facts: the runs of runes of the chapter on widths, how many cells a rune takes, what is shown of it. Nothing of the program is run here.
-/
import Derived.Test.YtdnldfgolbcjiaaDoorBe5
namespace Go.Proofs.YtdnldfgolbcjiaaDoor
open Go.RowKit

/-- The runs of what is not shown; of what is wide. -/
def hidF : List Int := [0, 31, 127, 159, 768, 879, 8203, 8207, 8232, 8238, 65024, 65039, 65279, 65279]
def widF : List Int := [4352, 4447, 11904, 12350, 12353, 13311, 13312, 19903, 19968, 40959, 40960, 42191, 44032, 55203, 63744, 64255, 65072, 65135, 65281, 65376, 65504, 65510, 127744, 128591, 129280, 129535, 131072, 262141]

/-- Is r in one of the runs, each two numbers of the list? -/
def amongB (r : Int) : List Int → Bool
  | a :: b :: t => (decide (a ≤ r) && decide (r ≤ b)) || amongB r t
  | _ => false
/-- Where r is to a run. -/
def sideI (r a b : Int) : Int := if r < a then -1 else if b < r then 1 else 0
theorem side_zero (r a b : Int) : (sideI r a b == 0) = (decide (a ≤ r) && decide (r ≤ b)) := by
  unfold sideI
  by_cases h1 : r < a
  · rw [if_pos h1, decide_eq_false (by omega)]; rfl
  · rw [if_neg h1]
    by_cases h2 : b < r
    · rw [if_pos h2, decide_eq_false (p := r ≤ b) (by omega), Bool.and_false]; rfl
    · rw [if_neg h2, decide_eq_true (p := a ≤ r) (by omega), decide_eq_true (p := r ≤ b) (by omega)]; rfl
theorem side_pos (r a b : Int) (h : a ≤ b) : 0 < sideI r a b ↔ b < r := by
  unfold sideI
  repeat' split
  all_goals omega
theorem side_neg (r a b : Int) : sideI r a b < 0 ↔ r < a := by
  unfold sideI
  repeat' split
  all_goals omega
theorem side_bd (r a b : Int) : -1 ≤ sideI r a b ∧ sideI r a b ≤ 1 := by
  unfold sideI
  repeat' split
  all_goals omega

/-- Where r is to run i of a list. -/
def sideAt (l : List Int) (r : Int) (i : Nat) : Int := sideI r (l.getD (2 * i) 0) (l.getD (2 * i + 1) 0)

/-- A search by halves finds one of side 0 just if there is one. -/
def foundB (n : Nat) (p : Nat → Int) : Bool := (List.range n).any fun i => p i == 0
theorem found_iff (n : Nat) (p : Nat → Int) (i : Nat) (hi : i ≤ n) (h1 : ∀ t, t < i → 0 < p t) (h2 : ∀ t, i ≤ t → t < n → p t ≤ 0) (hm : ∀ a b, a ≤ b → b < n → p a < 0 → p b < 0) :
    foundB n p = (decide (i < n) && (p i == 0)) := by
  unfold foundB
  rw [Bool.eq_iff_iff, List.any_eq_true, Bool.and_eq_true, decide_eq_true_iff, beq_iff_eq]
  constructor
  · rintro ⟨t, ht, hz⟩
    rw [List.mem_range] at ht
    rw [beq_iff_eq] at hz
    have hit : i ≤ t := by
      rcases Nat.lt_or_ge t i with h | h
      · have := h1 t h; omega
      · exact h
    refine ⟨by omega, ?_⟩
    have h3 := h2 i (Nat.le_refl _) (by omega)
    by_cases h4 : p i < 0
    · have := hm i t hit ht h4; omega
    · omega
  · rintro ⟨h, hz⟩
    exact ⟨i, List.mem_range.2 h, by rw [beq_iff_eq]; exact hz⟩

def sortedF (l : List Int) (n : Nat) : Bool := (List.range n).all fun b => (List.range (b + 1)).all fun a => decide (l.getD (2 * a) 0 ≤ l.getD (2 * b) 0) && decide (l.getD (2 * a + 1) 0 ≤ l.getD (2 * b + 1) 0) && decide (l.getD (2 * a) 0 ≤ l.getD (2 * a + 1) 0) && decide (l.getD (2 * b) 0 ≤ l.getD (2 * b + 1) 0)
theorem sorted_at {l : List Int} {n : Nat} (h : sortedF l n = true) {a b : Nat} (hab : a ≤ b) (hb : b < n) :
    l.getD (2 * a) 0 ≤ l.getD (2 * b) 0 ∧ l.getD (2 * a + 1) 0 ≤ l.getD (2 * b + 1) 0 ∧ l.getD (2 * a) 0 ≤ l.getD (2 * a + 1) 0 ∧ l.getD (2 * b) 0 ≤ l.getD (2 * b + 1) 0 := by
  have := List.all_eq_true.1 (List.all_eq_true.1 h b (List.mem_range.2 hb)) a (List.mem_range.2 (by omega))
  simp only [Bool.and_eq_true, decide_eq_true_iff] at this
  exact ⟨this.1.1.1, this.1.1.2, this.1.2, this.2⟩
theorem mono_pos {l : List Int} {n : Nat} (h : sortedF l n = true) (r : Int) : ∀ a b, a ≤ b → b < n → 0 < sideAt l r b → 0 < sideAt l r a := by
  intro a b hab hb hp
  obtain ⟨h1, h2, h3, h4⟩ := sorted_at h hab hb
  unfold sideAt at hp ⊢
  rw [side_pos _ _ _ h4] at hp
  rw [side_pos _ _ _ h3]
  omega
theorem mono_neg {l : List Int} {n : Nat} (h : sortedF l n = true) (r : Int) : ∀ a b, a ≤ b → b < n → sideAt l r a < 0 → sideAt l r b < 0 := by
  intro a b hab hb hp
  obtain ⟨h1, h2, h3, h4⟩ := sorted_at h hab hb
  unfold sideAt at hp ⊢
  rw [side_neg] at hp
  rw [side_neg]
  omega
theorem hid_sorted : sortedF hidF 7 = true := by decide
theorem wid_sorted : sortedF widF 14 = true := by decide

theorem hid_found (r : Int) : foundB 7 (sideAt hidF r) = amongB r hidF := by
  unfold foundB sideAt
  simp only [side_zero]
  rfl
theorem wid_found (r : Int) : foundB 14 (sideAt widF r) = amongB r widF := by
  unfold foundB sideAt
  simp only [side_zero]
  rfl

/-- Is r not shown as it is? -/
def hidB (r : Int) : Bool := amongB r hidF || !Lib.validRune r
/-- How many cells r takes; what is shown of it. -/
def ofN (r : Int) : Nat := if hidB r then 0 else if amongB r widF then 2 else 1
def shI (r : Int) : Int := if hidB r then 65533 else r
theorem ofN_le (r : Int) : ofN r ≤ 2 := by
  unfold ofN
  repeat' split
  all_goals omega
theorem hid_rep : hidB 65533 = false := by decide
theorem sh_hid (r : Int) : hidB (shI r) = false := by
  unfold shI
  cases h : hidB r
  · simp [h]
  · simp [hid_rep]
theorem of_sh (r : Int) : 1 ≤ ofN (shI r) ∧ ofN (shI r) ≤ 2 := by
  refine ⟨?_, ofN_le _⟩
  unfold ofN
  rw [sh_hid]
  simp only [Bool.false_eq_true, if_false]
  split <;> omega
theorem sh_sh (r : Int) : shI (shI r) = shI r := by
  have h := sh_hid r
  generalize shI r = x at h
  unfold shI
  rw [h]; rfl

/-- The document's way of asking: the first run by one comparison. -/
theorem hid_ref (r : Int) : hidB r = (!Lib.validRune r || (decide (r < 32) || amongB r (hidF.drop 2))) := by
  unfold hidB
  rw [Bool.or_comm]
  cases hv : Lib.validRune r
  · rfl
  · have h0 : 0 ≤ r ∧ r < 55296 ∨ 57343 < r ∧ r ≤ 1114111 := of_decide_eq_true hv
    show amongB r (0 :: 31 :: hidF.drop 2) = _
    rw [show amongB r (0 :: 31 :: hidF.drop 2) = ((decide (0 ≤ r) && decide (r ≤ 31)) || amongB r (hidF.drop 2)) from rfl]
    rw [decide_eq_true (p := 0 ≤ r) (by omega), Bool.true_and, Bool.not_true, Bool.false_or]
    congr 1
    rw [Bool.eq_iff_iff, decide_eq_true_iff, decide_eq_true_iff]
    omega

theorem put_empty (r : Int) : ((putB r).toList == []) = !Lib.validRune r := by
  cases hv : Lib.validRune r
  · rw [show putB r = ⟨#[]⟩ by simp [putB, hv], Lib.toList_data]; rfl
  · have h0 : 0 ≤ r ∧ r < 55296 ∨ 57343 < r ∧ r ≤ 1114111 := of_decide_eq_true hv
    obtain ⟨R, rfl⟩ := Int.eq_ofNat_of_zero_le (a := r) (by omega)
    show _ = false
    rw [beq_eq_false_iff_ne]
    intro e
    rw [Lib.toList_data] at e
    have e2 := putB_nums R
    rw [e] at e2
    unfold putN at e2
    repeat' split at e2
    all_goals first | (cases e2; done) | omega

theorem size_alloc (w : World) (o : Obj) : (w.alloc o).heap.size = w.heap.size + 1 := by show (w.heap.push o).size = _; simp

theorem put_none (r : Int) : (putB r).toList.isEmpty = !Lib.validRune r := by
  rw [← put_empty]
  cases (putB r).toList <;> rfl

theorem cell_box (w : World) (v : Value) (t : TypeId) : (w.alloc (.cells #[v] t)).cell? ⟨w.heap.size, 0, none⟩ = some v := by
  rw [cell_of_row _ _ _ _ _ _ (heap_alloc_new w _)]; rfl

/-- How many blanks a tab is. -/
def tabN (c : Int) : Int := if c < 0 then 8 else 8 - c % 8
end Go.Proofs.YtdnldfgolbcjiaaDoor
