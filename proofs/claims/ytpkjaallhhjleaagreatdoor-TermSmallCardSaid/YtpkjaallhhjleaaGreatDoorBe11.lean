/-
  Texts of this proof, one behind the other; each begins with its own remark.
-/
import Derived.Test.YtpkjaallhhjleaaGreatDoorBe4
/-
  Plain facts: the cells of a row of a frame: which may stand side by side; what becomes of a row as a rune is put in, or as it is made longer or shorter; in how many cells two rows are unlike. Nothing of the program is run here.
-/
namespace Go.Proofs.YtpkjaallhhjleaaGreatDoor
open Go.RowKit

/-- A style: its color, three marks. A cell: its rune, how many columns, its style. -/
abbrev Sty := Int × Bool × Bool × Bool
abbrev Cel := Int × Int × Sty
def blkC : Cel := (32, 1, 0, false, false, false)
def halfC (s : Sty) : Cel := (0, 0, s)
def styB (s : Sty) : Bool := decide (0 ≤ s.1) && decide (s.1 ≤ 8)
theorem styB_iff (s : Sty) : styB s = true ↔ 0 ≤ s.1 ∧ s.1 ≤ 8 := by unfold styB; simp
theorem of_blank : ofN 32 = 1 := by decide

/-- What may stand at place j of a row. -/
def okC (l : List Cel) (j : Nat) (c : Cel) : Prop :=
  styB c.2.2 = true ∧ 0 ≤ c.2.1 ∧ c.2.1 ≤ 2 ∧ (0 < c.2.1 → (ofN c.1 : Int) = c.2.1) ∧ (c.2.1 = 2 → ∃ d, l[j + 1]? = some d ∧ d.2.1 = 0) ∧
    (c.2.1 = 0 → ∃ i p, j = i + 1 ∧ l[i]? = some p ∧ p.2.1 = 2 ∧ c.1 = 0 ∧ c.2.2 = p.2.2)
def okRow (l : List Cel) : Prop := ∀ j c, l[j]? = some c → okC l j c

/-- The same, from the front on. -/
def oneB (c : Cel) : Bool := decide (c.2.1 = 1) && decide (ofN c.1 = 1) && styB c.2.2
def twoB (c d : Cel) : Bool := decide (c.2.1 = 2) && decide (ofN c.1 = 2) && styB c.2.2 && decide (d = halfC c.2.2)
def rowB : List Cel → Bool
  | [] => true
  | [c] => oneB c
  | c :: d :: t => if oneB c then rowB (d :: t) else (twoB c d && rowB t)

theorem okC_shift (x : Cel) (l : List Cel) (j : Nat) (c : Cel) (hx : x.2.1 ≠ 2 ∨ j ≠ 0) : okC (x :: l) (j + 1) c ↔ okC l j c := by
  unfold okC
  refine and_congr Iff.rfl (and_congr Iff.rfl (and_congr Iff.rfl (and_congr Iff.rfl (and_congr (by simp) (imp_congr Iff.rfl ?_)))))
  constructor
  · rintro ⟨i, p, hj, hp, h⟩
    cases i with
    | zero =>
      rcases hx with hx | hx
      · simp at hp; subst hp; exact (hx h.1).elim
      · omega
    | succ i => exact ⟨i, p, by omega, by simpa using hp, h⟩
  · rintro ⟨i, p, hj, hp, h⟩
    exact ⟨i + 1, p, by omega, by simpa using hp, h⟩

theorem oneB_iff (c : Cel) : oneB c = true ↔ c.2.1 = 1 ∧ ofN c.1 = 1 ∧ styB c.2.2 = true := by unfold oneB; simp [and_assoc]
theorem twoB_iff (c d : Cel) : twoB c d = true ↔ c.2.1 = 2 ∧ ofN c.1 = 2 ∧ styB c.2.2 = true ∧ d = halfC c.2.2 := by unfold twoB; simp [and_assoc]
theorem row_tail (c : Cel) (t : List Cel) (h : oneB c = true) : rowB (c :: t) = rowB t := by
  cases t with
  | nil => simp [rowB, h]
  | cons d t => rw [rowB, if_pos h]
theorem okC_w {l : List Cel} {j : Nat} {c : Cel} (h : okC l j c) : c.2.1 = 0 ∨ c.2.1 = 1 ∨ c.2.1 = 2 := by
  have h1 := h.2.1; have h2 := h.2.2.1; omega
theorem okRow_one (c : Cel) (t : List Cel) (h : oneB c = true) : okRow (c :: t) ↔ okRow t := by
  obtain ⟨h1, h2, h3⟩ := (oneB_iff c).1 h
  constructor
  · intro H j d hd
    exact (okC_shift c t j d (.inl (by omega))).1 (H (j + 1) d (by simpa using hd))
  · intro H j d hd
    cases j with
    | zero => simp at hd; subst hd; exact ⟨h3, by omega, by omega, fun _ => by omega, fun k => by omega, fun k => by omega⟩
    | succ j => exact (okC_shift c t j d (.inl (by omega))).2 (H j d (by simpa using hd))
theorem okRow_two (c d : Cel) (t : List Cel) (h : twoB c d = true) : okRow (c :: d :: t) ↔ okRow t := by
  obtain ⟨h1, h2, h3, h4⟩ := (twoB_iff c d).1 h
  subst h4
  constructor
  · intro H j e he
    have := H (j + 2) e (by simpa using he)
    rw [okC_shift c _ (j + 1) e (.inr (by omega)), okC_shift _ _ j e (.inl (by simp [halfC]))] at this
    exact this
  · intro H j e he
    match j with
    | 0 => simp at he; subst he; exact ⟨h3, by omega, by omega, fun _ => by omega, fun _ => ⟨_, by simp; rfl, rfl⟩, fun k => by omega⟩
    | 1 => simp at he; subst he; exact ⟨h3, by simp [halfC], by simp [halfC], fun k => by simp [halfC] at k, fun k => by simp [halfC] at k, fun _ => ⟨0, c, rfl, rfl, h1, rfl, rfl⟩⟩
    | j + 2 =>
      rw [okC_shift c _ (j + 1) e (.inr (by omega)), okC_shift _ _ j e (.inl (by simp [halfC]))]
      exact H j e (by simpa using he)
theorem row_says : ∀ (n : Nat) (l : List Cel), l.length ≤ n → (rowB l = true ↔ okRow l)
  | 0, l, h => by
    obtain rfl := List.eq_nil_of_length_eq_zero (Nat.le_zero.1 h)
    exact ⟨fun _ j c hc => by simp at hc, fun _ => rfl⟩
  | n + 1, [], _ => ⟨fun _ j c hc => by simp at hc, fun _ => rfl⟩
  | n + 1, c :: t, h => by
    have hl : t.length ≤ n := by simpa using h
    by_cases ho : oneB c = true
    · rw [row_tail c t ho, row_says n t hl, okRow_one c t ho]
    · cases t with
      | nil =>
        rw [rowB]
        refine ⟨fun k => (ho k).elim, fun H => ?_⟩
        have h0 := H 0 c rfl
        exfalso
        rcases okC_w h0 with k | k | k
        · obtain ⟨i, p, hi, _⟩ := h0.2.2.2.2.2 k; omega
        · exact ho ((oneB_iff c).2 ⟨k, by have := h0.2.2.2.1 (by omega); omega, h0.1⟩)
        · obtain ⟨d, hd, _⟩ := h0.2.2.2.2.1 k; simp at hd
      | cons d t =>
        rw [rowB, if_neg ho, Bool.and_eq_true]
        constructor
        · rintro ⟨h2, h3⟩
          rw [okRow_two c d t h2]
          exact (row_says n t (by simp at hl; omega)).1 h3
        · intro H
          have h0 := H 0 c rfl
          have h2 : twoB c d = true := by
            rcases okC_w h0 with k | k | k
            · obtain ⟨i, p, hi, _⟩ := h0.2.2.2.2.2 k; omega
            · exact (ho ((oneB_iff c).2 ⟨k, by have := h0.2.2.2.1 (by omega); omega, h0.1⟩)).elim
            · obtain ⟨e, he, hw⟩ := h0.2.2.2.2.1 k
              simp at he; subst he
              obtain ⟨i, p, hi, hp, _, hr, hs⟩ := (H 1 d rfl).2.2.2.2.2 hw
              obtain rfl : i = 0 := by omega
              simp at hp; subst hp
              exact (twoB_iff c d).2 ⟨k, by have := h0.2.2.2.1 (by omega); omega, h0.1, Prod.ext hr (Prod.ext hw hs)⟩
          exact ⟨h2, (row_says n t (by simp at hl; omega)).2 ((okRow_two c d t h2).1 H)⟩
theorem rowB_iff (l : List Cel) : rowB l = true ↔ okRow l := row_says l.length l (Nat.le_refl _)

/-- How many cells the rune at a row's front takes; 0: none may stand there so. -/
def frontN : List Cel → Nat
  | [] => 0
  | [c] => if oneB c then 1 else 0
  | c :: d :: _ => if oneB c then 1 else if twoB c d then 2 else 0
theorem front_zero (c : Cel) (t : List Cel) (h : frontN (c :: t) = 0) : rowB (c :: t) = false := by
  cases t with
  | nil =>
    rw [frontN] at h; rw [rowB]
    cases ho : oneB c with
    | false => rfl
    | true => rw [ho] at h; simp at h
  | cons d t =>
    rw [frontN] at h; rw [rowB]
    cases ho : oneB c with
    | true => rw [ho] at h; simp at h
    | false =>
      rw [ho] at h
      cases h2 : twoB c d with
      | true => rw [h2] at h; simp at h
      | false => rfl
theorem front_some (c : Cel) (t : List Cel) (n : Nat) (h : frontN (c :: t) = n) (hn : n ≠ 0) : n ≤ (c :: t).length ∧ n ≤ 2 ∧ rowB (c :: t) = rowB ((c :: t).drop n) := by
  cases t with
  | nil =>
    rw [frontN] at h
    cases ho : oneB c with
    | false => rw [ho] at h; simp at h; omega
    | true => rw [ho] at h; simp at h; subst h; exact ⟨by simp, by omega, by rw [row_tail c [] ho]; rfl⟩
  | cons d t =>
    rw [frontN] at h
    cases ho : oneB c with
    | true => rw [ho] at h; simp at h; subst h; exact ⟨by simp, by omega, by rw [row_tail c _ ho]; rfl⟩
    | false =>
      rw [ho] at h
      cases h2 : twoB c d with
      | false => rw [h2] at h; simp at h; omega
      | true => rw [h2] at h; simp at h; subst h; exact ⟨by simp, by omega, by rw [rowB, ho, h2]; simp⟩

/-- Halves side by side: what follows of a row that may be. -/
theorem okRow.right {l : List Cel} (h : okRow l) {j : Nat} {c : Cel} (hc : l[j]? = some c) (hw : c.2.1 = 2) : ∃ d, l[j + 1]? = some d ∧ d.2.1 = 0 := (h j c hc).2.2.2.2.1 hw
theorem okRow.left {l : List Cel} (h : okRow l) {j : Nat} {c : Cel} (hc : l[j + 1]? = some c) (hw : c.2.1 = 0) : ∃ d, l[j]? = some d ∧ d.2.1 = 2 ∧ c.1 = 0 ∧ c.2.2 = d.2.2 := by
  obtain ⟨i, p, hi, hp, h1, h2, h3⟩ := (h _ c hc).2.2.2.2.2 hw
  obtain rfl : i = j := by omega
  exact ⟨p, hp, h1, h2, h3⟩
theorem okRow.first {l : List Cel} (h : okRow l) {c : Cel} (hc : l[0]? = some c) : c.2.1 ≠ 0 := fun hw => by
  obtain ⟨i, p, hi, _⟩ := (h _ c hc).2.2.2.2.2 hw; omega

/-- A cell of a row that lost its other half. -/
def badC (l : List Cel) (j : Nat) (c : Cel) : Bool := (decide (c.2.1 = 2) && !((l[j + 1]?).any fun d => decide (d.2.1 = 0))) || (decide (c.2.1 = 0) && !(decide (0 < j) && (l[j - 1]?).any fun d => decide (d.2.1 = 2)))
def mendC (l : List Cel) (j : Nat) (c : Cel) : Cel := if badC l j c then blkC else c
def mendL (l : List Cel) : List Cel := l.mapIdx (mendC l)
theorem mend_at (l : List Cel) (j : Nat) : (mendL l)[j]? = (l[j]?).map (mendC l j) := by unfold mendL; rw [List.getElem?_mapIdx]
theorem mend_len (l : List Cel) : (mendL l).length = l.length := by unfold mendL; rw [List.length_mapIdx]
theorem badC_ok {l : List Cel} (h : okRow l) {j : Nat} {c : Cel} (hc : l[j]? = some c) : badC l j c = false := by
  unfold badC
  by_cases h2 : c.2.1 = 2
  · obtain ⟨d, hd, hw⟩ := h.right hc h2
    simp [h2, hd, hw]
  · by_cases h0 : c.2.1 = 0
    · cases j with
      | zero => exact (h.first hc h0).elim
      | succ j =>
        obtain ⟨d, hd, hw, _⟩ := h.left hc h0
        simp [h0, hd, hw]
    · simp [h2, h0]

/-- A wide rune that stands on both sides of a column's left edge makes way. -/
def partL (l : List Cel) (j : Nat) : List Cel := if (l[j]?).any fun c => decide (c.2.1 = 0) then (l.set (j - 1) blkC).set j blkC else l
theorem part_len (l : List Cel) (j : Nat) : (partL l j).length = l.length := by unfold partL; split <;> simp
def layL (l : List Cel) (col : Nat) (r : Int) (n : Nat) (s : Sty) : List Cel := if n = 2 then (l.set col (r, (n : Int), s)).set (col + 1) (halfC s) else l.set col (r, (n : Int), s)
theorem lay_len (l : List Cel) (col : Nat) (r : Int) (n : Nat) (s : Sty) : (layL l col r n s).length = l.length := by unfold layL; split <;> simp
/-- A row with a rune put in. -/
def putL (l : List Cel) (col : Nat) (r : Int) (n : Nat) (s : Sty) : List Cel := layL (partL (partL l col) (col + n)) col r n s
theorem put_len (l : List Cel) (col : Nat) (r : Int) (n : Nat) (s : Sty) : (putL l col r n s).length = l.length := by unfold putL; rw [lay_len, part_len, part_len]

/-- What a row with a rune put in has at each place. -/
theorem put_at {l : List Cel} (_ : okRow l) (col : Nat) (r : Int) (n : Nat) (s : Sty) (hn : n = 1 ∨ n = 2) (hc : col + n ≤ l.length) (j : Nat) :
    (putL l col r n s)[j]? = if j = col then some (r, (n : Int), s) else if j = col + 1 ∧ n = 2 then some (halfC s) else
      if j + 1 = col ∧ (l[col]?).any (fun c => decide (c.2.1 = 0)) = true then some blkC else if j = col + n ∧ (l[j]?).any (fun c => decide (c.2.1 = 0)) = true then some blkC else l[j]? := by
  obtain ⟨c, hcl⟩ : ∃ c, l[col]? = some c := ⟨_, List.getElem?_eq_getElem (by omega)⟩
  have hl1 : ∀ k, col < k → (partL l col)[k]? = l[k]? := fun k hk => by
    unfold partL; split
    · rw [List.getElem?_set_ne (by omega), List.getElem?_set_ne (by omega)]
    · rfl
  have hl0 : ∀ k, k + 1 < col → (partL l col)[k]? = l[k]? := fun k hk => by
    unfold partL; split
    · rw [List.getElem?_set_ne (by omega), List.getElem?_set_ne (by omega)]
    · rfl
  have hp2 : ∀ (m : List Cel) k, k + 1 ≠ col + n → k ≠ col + n → (partL m (col + n))[k]? = m[k]? := fun m k h1 h2 => by
    unfold partL; split
    · rw [List.getElem?_set_ne (by omega), List.getElem?_set_ne (by omega)]
    · rfl
  have hlay : ∀ (m : List Cel), m.length = l.length → (layL m col r n s)[j]? = if j = col then some (r, (n : Int), s) else if j = col + 1 ∧ n = 2 then some (halfC s) else m[j]? := fun m hm => by
    unfold layL
    rcases hn with rfl | rfl
    · simp only [show ¬ (1 = 2) by omega, if_false, and_false]
      rw [List.getElem?_set]
      split
      · subst_vars; rw [if_pos rfl, if_pos (by omega)]
      · rw [if_neg (by omega)]
    · simp only [if_true, and_true]
      rw [List.getElem?_set, List.getElem?_set, List.length_set]
      by_cases e1 : j = col
      · subst e1; rw [if_neg (by omega), if_pos rfl, if_pos (by omega), if_pos rfl]
      · by_cases e2 : j = col + 1
        · subst e2; rw [if_pos rfl, if_pos (by omega), if_neg (by omega), if_pos rfl]
        · rw [if_neg (by omega), if_neg (by omega), if_neg e1, if_neg e2]
  unfold putL
  rw [hlay _ (by rw [part_len, part_len])]
  by_cases e1 : j = col
  · rw [if_pos e1, if_pos e1]
  rw [if_neg e1, if_neg e1]
  by_cases e2 : j = col + 1 ∧ n = 2
  · rw [if_pos e2, if_pos e2]
  rw [if_neg e2, if_neg e2]
  by_cases e3 : j + 1 = col
  · rw [hp2 _ j (by omega) (by omega)]
    by_cases e4 : (l[col]?).any (fun c => decide (c.2.1 = 0)) = true
    · rw [if_pos ⟨e3, e4⟩]
      unfold partL
      rw [if_pos e4, List.getElem?_set_ne (by omega), List.getElem?_set, if_pos (by omega), if_pos (by omega)]
    · rw [if_neg (fun k => e4 k.2), if_neg (by omega)]
      unfold partL
      rw [if_neg e4]
  rw [if_neg (fun k => e3 k.1)]
  by_cases e5 : j = col + n
  · subst e5
    by_cases e6 : (l[col + n]?).any (fun c => decide (c.2.1 = 0)) = true
    · rw [if_pos ⟨rfl, e6⟩]
      have e7 : ((partL l col)[col + n]?).any (fun c => decide (c.2.1 = 0)) = true := by rw [hl1 _ (by omega)]; exact e6
      unfold partL at e7 ⊢
      rw [if_pos e7]
      have hlt : col + n < l.length := by
        rcases Nat.lt_or_ge (col + n) l.length with k | k
        · exact k
        · rw [List.getElem?_eq_none k] at e6; cases e6
      rw [List.getElem?_set, if_pos rfl, if_pos]
      rw [List.length_set]
      exact (part_len l col).symm ▸ hlt
    · rw [if_neg (fun k => e6 k.2)]
      have e7 : ¬ ((partL l col)[col + n]?).any (fun c => decide (c.2.1 = 0)) = true := by rw [hl1 _ (by omega)]; exact e6
      unfold partL at e7 ⊢
      rw [if_neg e7]
      exact hl1 _ (by omega)
  · rw [if_neg (fun k => e5 k.1), hp2 _ j (by omega) e5]
    rcases Nat.lt_or_ge col j with k | k
    · exact hl1 _ k
    · exact hl0 _ (by omega)

theorem any_w0 {l : List Cel} {j : Nat} : (l[j]?).any (fun c => decide (c.2.1 = 0)) = true ↔ ∃ c, l[j]? = some c ∧ c.2.1 = 0 := by
  cases l[j]? <;> simp

/-- A row with a rune put in may be. -/
theorem put_ok {l : List Cel} (h : okRow l) (col : Nat) (r : Int) (n : Nat) (s : Sty) (hr : ofN r = n) (hn : n = 1 ∨ n = 2) (hc : col + n ≤ l.length) (hs : styB s = true) : okRow (putL l col r n s) := by
  have P := put_at h col r n s hn hc
  have B : ∀ m j, okC m j blkC := fun m j => ⟨by decide, by decide, by decide, fun _ => by rw [show blkC.1 = 32 from rfl, of_blank]; rfl, fun k => absurd k (by decide), fun k => absurd k (by decide)⟩
  intro j c hj
  rw [P j] at hj
  by_cases e1 : j = col
  · rw [if_pos e1] at hj
    cases hj
    subst e1
    refine ⟨hs, by simp, by rcases hn with rfl | rfl <;> simp, fun _ => by rw [hr], fun k => ?_, fun k => ?_⟩
    · have hn2 : n = 2 := by simp at k; omega
      refine ⟨halfC s, ?_, rfl⟩
      rw [P (j + 1), if_neg (by omega), if_pos ⟨rfl, hn2⟩]
    · simp at k; omega
  rw [if_neg e1] at hj
  by_cases e2 : j = col + 1 ∧ n = 2
  · rw [if_pos e2] at hj
    cases hj
    exact ⟨hs, by simp [halfC], by simp [halfC], fun k => by simp [halfC] at k, fun k => by simp [halfC] at k, fun _ => ⟨col, (r, (n : Int), s), e2.1, by rw [P col, if_pos rfl], by have := e2.2; show (n : Int) = 2; omega, rfl, rfl⟩⟩
  rw [if_neg e2] at hj
  split at hj
  · cases hj; exact B _ _
  rename_i e3
  split at hj
  · cases hj; exact B _ _
  rename_i e4
  have ho := h j c hj
  refine ⟨ho.1, ho.2.1, ho.2.2.1, ho.2.2.2.1, fun k => ?_, fun k => ?_⟩
  · obtain ⟨d, hd, hw⟩ := h.right hj k
    have n1 : j + 1 ≠ col := fun e => e3 ⟨e, any_w0.2 ⟨d, by rw [← e]; exact hd, hw⟩⟩
    have n2 : ¬ (j + 1 = col + 1 ∧ n = 2) := by omega
    refine ⟨d, ?_, hw⟩
    rw [P (j + 1), if_neg n1, if_neg n2, if_neg, if_neg, hd]
    · rintro ⟨e, _⟩; omega
    · rintro ⟨e, hz⟩
      obtain ⟨x, hx, hx0⟩ := any_w0.1 hz
      have hjc : j + 1 + 1 = col := e
      rw [← hjc] at hx
      obtain ⟨y, hy, hy2, _⟩ := h.left hx hx0
      rw [hd] at hy; cases hy; omega
  · cases j with
    | zero => exact (h.first hj k).elim
    | succ i =>
      obtain ⟨p, hp, hp2, h1, h2⟩ := h.left hj k
      refine ⟨i, p, rfl, ?_, hp2, h1, h2⟩
      have n0 : i + 1 ≠ col + n := fun e => e4 ⟨e, any_w0.2 ⟨c, hj, k⟩⟩
      have n2 : ¬ (i = col + 1 ∧ n = 2) := by omega
      rw [P i, if_neg (by omega), if_neg n2, if_neg, if_neg, hp]
      · rintro ⟨e, hz⟩
        obtain ⟨x, hx, hx0⟩ := any_w0.1 hz
        rw [hp] at hx; cases hx; omega
      · rintro ⟨e, hz⟩
        omega

/-- The document's way: the cells are taken away, what was cut is mended, the rune is laid. -/
def wipeL (l : List Cel) (col n : Nat) : List Cel := if n = 2 then (l.set col blkC).set (col + 1) blkC else l.set col blkC
theorem wipe_len (l : List Cel) (col n : Nat) : (wipeL l col n).length = l.length := by unfold wipeL; split <;> simp
theorem put_ref {l : List Cel} (h : okRow l) (col : Nat) (r : Int) (n : Nat) (s : Sty) (hn : n = 1 ∨ n = 2) (hc : col + n ≤ l.length) : layL (mendL (wipeL l col n)) col r n s = putL l col r n s := by
  apply List.ext_getElem?
  intro j
  rw [put_at h col r n s hn hc j]
  have W : ∀ k, (wipeL l col n)[k]? = if k = col ∨ (k = col + 1 ∧ n = 2) then some blkC else l[k]? := fun k => by
    unfold wipeL
    rcases hn with rfl | rfl
    · simp only [show ¬ (1 = 2) by omega, if_false, and_false, or_false]
      rw [List.getElem?_set]
      by_cases e : k = col
      · subst e; rw [if_pos rfl, if_pos (by omega), if_pos rfl]
      · rw [if_neg (by omega), if_neg e]
    · simp only [if_true, and_true]
      rw [List.getElem?_set, List.getElem?_set, List.length_set]
      by_cases e1 : k = col
      · subst e1; rw [if_neg (by omega), if_pos rfl, if_pos (by omega), if_pos (.inl rfl)]
      · by_cases e2 : k = col + 1
        · subst e2; rw [if_pos rfl, if_pos (by omega), if_pos (.inr rfl)]
        · rw [if_neg (by omega), if_neg (by omega), if_neg (by omega)]
  have hlay : ∀ (m : List Cel), m.length = l.length → (layL m col r n s)[j]? = if j = col then some (r, (n : Int), s) else if j = col + 1 ∧ n = 2 then some (halfC s) else m[j]? := fun m hm => by
    unfold layL
    rcases hn with rfl | rfl
    · simp only [show ¬ (1 = 2) by omega, if_false, and_false]
      rw [List.getElem?_set]
      split
      · subst_vars; rw [if_pos rfl, if_pos (by omega)]
      · rw [if_neg (by omega)]
    · simp only [if_true, and_true]
      rw [List.getElem?_set, List.getElem?_set, List.length_set]
      by_cases e1 : j = col
      · subst e1; rw [if_neg (by omega), if_pos rfl, if_pos (by omega), if_pos rfl]
      · by_cases e2 : j = col + 1
        · subst e2; rw [if_pos rfl, if_pos (by omega), if_neg (by omega), if_pos rfl]
        · rw [if_neg (by omega), if_neg (by omega), if_neg e1, if_neg e2]
  rw [hlay _ (by rw [mend_len, wipe_len])]
  by_cases e1 : j = col
  · rw [if_pos e1, if_pos e1]
  rw [if_neg e1, if_neg e1]
  by_cases e2 : j = col + 1 ∧ n = 2
  · rw [if_pos e2, if_pos e2]
  rw [if_neg e2, if_neg e2, mend_at, W j, if_neg (by omega)]
  cases hj : l[j]? with
  | none =>
    have hlen := List.getElem?_eq_none_iff.1 hj
    rw [if_neg (by omega), if_neg]
    · rfl
    · rintro ⟨_, k⟩; simp at k
  | some c =>
    rw [Option.map_some, mendC]
    by_cases e3 : j + 1 = col ∧ (l[col]?).any (fun c => decide (c.2.1 = 0)) = true
    · rw [if_pos e3]
      obtain ⟨d, hd, hw⟩ := any_w0.1 e3.2
      obtain ⟨y, hy, hy2, _⟩ := h.left (j := j) (by rw [e3.1]; exact hd) hw
      rw [hj] at hy; cases hy
      have : badC (wipeL l col n) j c = true := by
        unfold badC
        rw [W (j + 1), if_pos (.inl e3.1)]
        simp [hy2, blkC]
      rw [this]; rfl
    rw [if_neg e3]
    by_cases e4 : j = col + n ∧ (Option.some c).any (fun c => decide (c.2.1 = 0)) = true
    · rw [if_pos e4]
      have hw : c.2.1 = 0 := by simpa using e4.2
      have : badC (wipeL l col n) j c = true := by
        unfold badC
        rw [W (j - 1), if_pos (by omega)]
        simp [hw, blkC]
      rw [this]; rfl
    rw [if_neg e4]
    have hb : badC (wipeL l col n) j c = false := by
      have hb0 := badC_ok h hj
      unfold badC at hb0 ⊢
      rw [W (j + 1), W (j - 1)]
      by_cases h2 : c.2.1 = 2
      · obtain ⟨d, hd, hw⟩ := h.right hj h2
        have n1 : j + 1 ≠ col := fun e => e3 ⟨e, any_w0.2 ⟨d, by rw [← e]; exact hd, hw⟩⟩
        rw [if_neg (show ¬ (j + 1 = col ∨ j + 1 = col + 1 ∧ n = 2) by omega), hd]
        simp [h2, hw]
      · by_cases h0 : c.2.1 = 0
        · cases j with
          | zero => exact (h.first hj h0).elim
          | succ i =>
            obtain ⟨p, hp, hp2, _⟩ := h.left hj h0
            have n0 : i + 1 ≠ col + n := fun e => e4 ⟨e, by simp [h0]⟩
            rw [show i + 1 - 1 = i from rfl, if_neg (show ¬ (i = col ∨ i = col + 1 ∧ n = 2) by omega), hp]
            simp [h0, hp2]
        · simp [h2, h0]
    rw [hb]; rfl

/-- A row of another length: what is cut of a wide rune is a blank. -/
def lastC (t : List Cel) : List Cel := if (t[t.length - 1]?).any fun c => decide (c.2.1 = 2) then t.set (t.length - 1) blkC else t
theorem lastC_len (t : List Cel) : (lastC t).length = t.length := by unfold lastC; split <;> simp
def resL (l : List Cel) (m : Nat) : List Cel := lastC (l.take m) ++ List.replicate (m - l.length) blkC
theorem res_len (l : List Cel) (m : Nat) : (resL l m).length = m := by unfold resL; rw [List.length_append, lastC_len, List.length_take, List.length_replicate]; omega
theorem res_at {l : List Cel} (m j : Nat) : (resL l m)[j]? = if m ≤ j then none else if l.length ≤ j then some blkC else
    if j + 1 = min m l.length ∧ (l[j]?).any (fun c => decide (c.2.1 = 2)) = true then some blkC else l[j]? := by
  unfold resL
  by_cases h1 : m ≤ j
  · rw [if_pos h1, List.getElem?_eq_none]
    rw [List.length_append, lastC_len, List.length_take, List.length_replicate]; omega
  rw [if_neg h1]
  by_cases h2 : l.length ≤ j
  · rw [if_pos h2, List.getElem?_append_right (by rw [lastC_len, List.length_take]; omega), List.getElem?_replicate, if_pos (by rw [lastC_len, List.length_take]; omega)]
  rw [if_neg h2, List.getElem?_append_left (by rw [lastC_len, List.length_take]; omega)]
  have ht : ∀ k, k < m → (l.take m)[k]? = l[k]? := fun k hk => by rw [List.getElem?_take, if_pos hk]
  unfold lastC
  rw [List.length_take, ht _ (by omega)]
  by_cases h3 : j + 1 = min m l.length
  · rw [show min m l.length - 1 = j by omega]
    by_cases h4 : (l[j]?).any (fun c => decide (c.2.1 = 2)) = true
    · rw [if_pos h4, if_pos ⟨h3, h4⟩, List.getElem?_set, if_pos rfl, if_pos (by rw [List.length_take]; omega)]
    · rw [if_neg h4, if_neg (fun k => h4 k.2), ht _ (by omega)]
  · have h5 : ¬ (j + 1 = min m l.length ∧ (l[j]?).any (fun c => decide (c.2.1 = 2)) = true) := fun k => h3 k.1
    rw [if_neg h5]
    split
    · rw [List.getElem?_set_ne (by omega), ht _ (by omega)]
    · rw [ht _ (by omega)]
theorem any_w2 {l : List Cel} {j : Nat} : (l[j]?).any (fun c => decide (c.2.1 = 2)) = true ↔ ∃ c, l[j]? = some c ∧ c.2.1 = 2 := by
  cases l[j]? <;> simp
theorem res_ok {l : List Cel} (h : okRow l) (m : Nat) : okRow (resL l m) := by
  have B : ∀ m j, okC m j blkC := fun m j => ⟨by decide, by decide, by decide, fun _ => by rw [show blkC.1 = 32 from rfl, of_blank]; rfl, fun k => absurd k (by decide), fun k => absurd k (by decide)⟩
  intro j c hj
  rw [res_at m j] at hj
  split at hj
  · cases hj
  rename_i h1
  split at hj
  · cases hj; exact B _ _
  rename_i h2
  split at hj
  · cases hj; exact B _ _
  rename_i h3
  have ho := h j c hj
  refine ⟨ho.1, ho.2.1, ho.2.2.1, ho.2.2.2.1, fun k => ?_, fun k => ?_⟩
  · obtain ⟨d, hd, hw⟩ := h.right hj k
    have hlt := (List.getElem?_eq_some_iff.1 hd).1
    refine ⟨d, ?_, hw⟩
    have n1 : j + 1 ≠ min m l.length := fun e => h3 ⟨e, any_w2.2 ⟨c, hj, k⟩⟩
    rw [res_at, if_neg (by omega), if_neg (by omega), if_neg, hd]
    rintro ⟨_, hz⟩
    obtain ⟨x, hx, hx2⟩ := any_w2.1 hz
    rw [hd] at hx; cases hx; omega
  · cases j with
    | zero => exact (h.first hj k).elim
    | succ i =>
      obtain ⟨p, hp, hp2, k1, k2⟩ := h.left hj k
      refine ⟨i, p, rfl, ?_, hp2, k1, k2⟩
      rw [res_at, if_neg (by omega), if_neg (by omega), if_neg (by omega), hp]
theorem rep_ok (m : Nat) : okRow (List.replicate m blkC) := by
  intro j c hj
  rw [List.getElem?_replicate] at hj
  split at hj
  · cases hj
    exact ⟨by decide, by decide, by decide, fun _ => by rw [show blkC.1 = 32 from rfl, of_blank]; rfl, fun k => absurd k (by decide), fun k => absurd k (by decide)⟩
  · cases hj
/-- The document's way: what was laid over a row of blanks is mended. -/
theorem res_ref {l : List Cel} (h : okRow l) (m : Nat) : mendL (l.take m ++ List.replicate (m - l.length) blkC) = resL l m := by
  apply List.ext_getElem?
  intro j
  rw [mend_at, res_at]
  have T : ∀ k, (l.take m ++ List.replicate (m - l.length) blkC)[k]? = if m ≤ k then none else if l.length ≤ k then some blkC else l[k]? := fun k => by
    by_cases h1 : m ≤ k
    · rw [if_pos h1, List.getElem?_eq_none]
      rw [List.length_append, List.length_take, List.length_replicate]; omega
    rw [if_neg h1]
    by_cases h2 : l.length ≤ k
    · rw [if_pos h2, List.getElem?_append_right (by rw [List.length_take]; omega), List.getElem?_replicate, if_pos (by rw [List.length_take]; omega)]
    · rw [if_neg h2, List.getElem?_append_left (by rw [List.length_take]; omega), List.getElem?_take, if_pos (by omega)]
  rw [T j]
  by_cases h1 : m ≤ j
  · rw [if_pos h1, if_pos h1]; rfl
  rw [if_neg h1, if_neg h1]
  by_cases h2 : l.length ≤ j
  · rw [if_pos h2, if_pos h2, Option.map_some, mendC]
    split <;> rfl
  rw [if_neg h2, if_neg h2]
  obtain ⟨c, hj⟩ : ∃ c, l[j]? = some c := ⟨_, List.getElem?_eq_getElem (by omega)⟩
  rw [hj, Option.map_some, mendC]
  by_cases h3 : j + 1 = min m l.length ∧ (Option.some c).any (fun c => decide (c.2.1 = 2)) = true
  · rw [if_pos h3]
    have hw : c.2.1 = 2 := by simpa using h3.2
    obtain ⟨d, hd, _⟩ := h.right hj hw
    have hlt := (List.getElem?_eq_some_iff.1 hd).1
    have : badC (l.take m ++ List.replicate (m - l.length) blkC) j c = true := by
      unfold badC
      rw [T (j + 1), if_pos (by omega)]
      simp [hw]
    rw [this]; rfl
  · rw [if_neg h3]
    have hb : badC (l.take m ++ List.replicate (m - l.length) blkC) j c = false := by
      unfold badC
      rw [T (j + 1), T (j - 1)]
      by_cases hw : c.2.1 = 2
      · obtain ⟨d, hd, hdw⟩ := h.right hj hw
        have hlt := (List.getElem?_eq_some_iff.1 hd).1
        have n1 : j + 1 ≠ min m l.length := fun e => h3 ⟨e, by simp [hw]⟩
        rw [if_neg (show ¬ m ≤ j + 1 by omega), if_neg (show ¬ l.length ≤ j + 1 by omega), hd]
        simp [hw, hdw]
      · by_cases h0 : c.2.1 = 0
        · cases j with
          | zero => exact (h.first hj h0).elim
          | succ i =>
            obtain ⟨p, hp, hp2, _⟩ := h.left hj h0
            rw [show i + 1 - 1 = i from rfl, if_neg (show ¬ m ≤ i by omega), if_neg (show ¬ l.length ≤ i by omega), hp]
            simp [h0, hp2]
        · simp [hw, h0]
    rw [hb]; rfl
/-- The same, where the row is the last one that was laid over: no rune is cut. -/
theorem res_whole {l : List Cel} (h : okRow l) (m : Nat) (hm : l.length ≤ m) : resL l m = l ++ List.replicate (m - l.length) blkC := by
  unfold resL
  rw [List.take_of_length_le hm]
  unfold lastC
  rw [if_neg]
  intro k
  obtain ⟨c, hc, hw⟩ := any_w2.1 k
  obtain ⟨d, hd, _⟩ := h.right hc hw
  have := (List.getElem?_eq_some_iff.1 hd).1
  have := (List.getElem?_eq_some_iff.1 hc).1
  omega
theorem res_back {l : List Cel} (h : okRow l) (m : Nat) (hm : l.length ≤ m) : resL (resL l m) l.length = l := by
  have h2 := res_ok h m
  have e : (resL l m).take l.length = l := by rw [res_whole h m hm, List.take_left]
  unfold resL
  rw [show List.take l.length (lastC (List.take m l) ++ List.replicate (m - l.length) blkC) = l from e, show l.length - (lastC (List.take m l) ++ List.replicate (m - l.length) blkC).length = 0 by rw [List.length_append, lastC_len, List.length_take, List.length_replicate]; omega, List.replicate_zero, List.append_nil]
  have := res_whole h l.length (Nat.le_refl _)
  unfold resL at this
  rw [List.take_length, Nat.sub_self, List.replicate_zero, List.append_nil, List.append_nil] at this
  exact this

/-- In how many cells two rows are unlike. -/
def diffN : List Cel → List Cel → Nat
  | c :: l, d :: m => (if c = d then 0 else 1) + diffN l m
  | _, _ => 0
theorem diff_self : ∀ l, diffN l l = 0
  | [] => rfl
  | c :: l => by rw [diffN, if_pos rfl, diff_self l]
theorem diff_comm : ∀ l m, diffN l m = diffN m l
  | [], [] => rfl
  | [], _ :: _ => rfl
  | _ :: _, [] => rfl
  | c :: l, d :: m => by rw [diffN, diffN, diff_comm l m]; congr 1; by_cases h : c = d <;> simp [h, eq_comm]
theorem diff_zero : ∀ l m, l.length = m.length → (diffN l m = 0 ↔ l = m)
  | [], [], _ => by simp [diffN]
  | [], _ :: _, h => by simp at h
  | _ :: _, [], h => by simp at h
  | c :: l, d :: m, h => by
    have ih := diff_zero l m (by simpa using h)
    rw [diffN, List.cons.injEq, ← ih]
    by_cases e : c = d
    · simp [e]
    · simp [e]
theorem diff_le : ∀ l m, diffN l m ≤ l.length
  | [], _ => by simp [diffN]
  | _ :: _, [] => by simp [diffN]
  | c :: l, d :: m => by have := diff_le l m; rw [diffN, List.length_cons]; split <;> omega
theorem diff_app : ∀ (a b l m : List Cel), a.length = b.length → diffN (a ++ l) (b ++ m) = diffN a b + diffN l m
  | [], [], l, m, _ => by simp [diffN]
  | [], _ :: _, _, _, h => by simp at h
  | _ :: _, [], _, _, h => by simp at h
  | c :: a, d :: b, l, m, h => by
    rw [List.cons_append, List.cons_append, diffN, diffN, diff_app a b l m (by simpa using h)]; omega
theorem diff_step (l m : List Cel) (i : Nat) (c d : Cel) (hc : l[i]? = some c) (hd : m[i]? = some d) : diffN (l.take (i + 1)) (m.take (i + 1)) = diffN (l.take i) (m.take i) + if c = d then 0 else 1 := by
  have h1 := (List.getElem?_eq_some_iff.1 hc).1
  have h2 := (List.getElem?_eq_some_iff.1 hd).1
  rw [List.take_succ_eq_append_getElem h1, List.take_succ_eq_append_getElem h2, (List.getElem?_eq_some_iff.1 hc).2, (List.getElem?_eq_some_iff.1 hd).2, diff_app _ _ _ _ (by simp; omega)]
  rfl
theorem diff_few : ∀ (l m : List Cel) (lo n : Nat), l.length = m.length → (∀ j, (j < lo ∨ lo + n ≤ j) → l[j]? = m[j]?) → diffN l m ≤ n
  | [], m, lo, n, _, _ => by simp [diffN]
  | c :: l, [], lo, n, h, _ => by simp at h
  | c :: l, d :: m, lo, n, h, H => by
    have hl : l.length = m.length := by simpa using h
    rw [diffN]
    cases lo with
    | succ lo =>
      have e : c = d := by simpa using H 0 (.inl (by omega))
      rw [if_pos e]
      have := diff_few l m lo n hl fun j hj => by simpa using H (j + 1) (by omega)
      omega
    | zero =>
      cases n with
      | zero =>
        have e : c = d := by simpa using H 0 (.inr (by omega))
        rw [if_pos e]
        have := diff_few l m 0 0 hl fun j hj => by simpa using H (j + 1) (by omega)
        omega
      | succ n =>
        have := diff_few l m 0 n hl fun j hj => by simpa using H (j + 1) (by omega)
        split <;> omega
theorem put_few {l : List Cel} (h : okRow l) (col : Nat) (r : Int) (n : Nat) (s : Sty) (hn : n = 1 ∨ n = 2) (hc : col + n ≤ l.length) : diffN l (putL l col r n s) ≤ n + 2 := by
  refine Nat.le_trans (diff_few l _ (col - 1) (if col = 0 then n + 1 else n + 2) (put_len l col r n s).symm fun j hj => ?_) (by split <;> omega)
  rw [put_at h col r n s hn hc j]
  by_cases h0 : col = 0
  · rw [if_pos h0] at hj
    rw [if_neg (by omega), if_neg (by omega), if_neg (by omega), if_neg (by omega)]
  · rw [if_neg h0] at hj
    rw [if_neg (by omega), if_neg (by omega), if_neg (by omega), if_neg (by omega)]
end Go.Proofs.YtpkjaallhhjleaaGreatDoor

/-
  Plain facts: frames: which may be, what becomes of one as a rune is put in, what it is in another size; in how many cells two are unlike; what the rows show. Nothing of the program is run here.
-/
namespace Go.Proofs.YtpkjaallhhjleaaGreatDoor
open Go.RowKit

/-- A frame: its size, its cells, row by row, its cursor. -/
structure Frm where
  rows : Int
  cols : Int
  cells : List Cel
  row : Int
  col : Int
def zeroF : Frm := ⟨0, 0, [], 0, 0⟩
def rowK (L : List Cel) (n k : Nat) : List Cel := (L.drop (k * n)).take n
def setK (L : List Cel) (n k : Nat) (R : List Cel) : List Cel := L.take (k * n) ++ R ++ L.drop (k * n + n)

theorem rowK_at (L : List Cel) (n k j : Nat) : (rowK L n k)[j]? = if j < n then L[k * n + j]? else none := by
  unfold rowK
  rw [List.getElem?_take, List.getElem?_drop]
theorem row_room {m n k : Nat} (hk : k < m) : k * n + n ≤ m * n := by
  have := Nat.mul_le_mul_right n (show k + 1 ≤ m from hk)
  rwa [Nat.add_mul, Nat.one_mul] at this
theorem rowK_len {L : List Cel} {m n k : Nat} (hl : L.length = m * n) (hk : k < m) : (rowK L n k).length = n := by
  have := row_room (n := n) hk
  unfold rowK
  rw [List.length_take, List.length_drop]; omega
theorem parts (L : List Cel) (n k : Nat) : L = L.take (k * n) ++ rowK L n k ++ L.drop (k * n + n) := by
  unfold rowK
  rw [List.append_assoc, show L.drop (k * n + n) = (L.drop (k * n)).drop n by rw [List.drop_drop], List.take_append_drop, List.take_append_drop]
theorem setK_len {L : List Cel} {m n k : Nat} (R : List Cel) (hl : L.length = m * n) (hk : k < m) (hR : R.length = n) : (setK L n k R).length = m * n := by
  have := row_room (n := n) hk
  unfold setK
  rw [List.length_append, List.length_append, List.length_take, List.length_drop]; omega
theorem setK_row {L : List Cel} {m n k : Nat} (R : List Cel) (hl : L.length = m * n) (hk : k < m) (hR : R.length = n) (j : Nat) : rowK (setK L n k R) n j = if j = k then R else rowK L n j := by
  have hr := row_room (n := n) hk
  apply List.ext_getElem?
  intro i
  rw [rowK_at]
  by_cases hi : i < n
  · rw [if_pos hi]
    unfold setK
    by_cases e : j = k
    · subst e
      rw [if_pos rfl, List.append_assoc, List.getElem?_append_right (by rw [List.length_take]; omega), List.length_take, Nat.min_eq_left (by omega), show j * n + i - j * n = i by omega, List.getElem?_append_left (by omega)]
    · rw [if_neg e, rowK_at, if_pos hi]
      rcases Nat.lt_or_ge j k with h | h
      · have := row_room (n := n) h
        rw [List.append_assoc, List.getElem?_append_left (by rw [List.length_take]; omega), List.getElem?_take, if_pos (by omega)]
      · have := row_room (n := n) (show k < j by omega)
        rw [List.getElem?_append_right (by rw [List.length_append, List.length_take]; omega), List.getElem?_drop]
        congr 1
        rw [List.length_append, List.length_take]; omega
  · rw [if_neg hi]
    split
    · rw [List.getElem?_eq_none (by omega)]
    · rw [rowK_at, if_neg hi]
theorem setK_self (L : List Cel) (n k : Nat) : setK L n k (rowK L n k) = L := (parts L n k).symm
/-- Two lists of rows are one if their rows are. -/
theorem rows_ext {L M : List Cel} {m n : Nat} (hn : 0 < n) (h1 : L.length = m * n) (h2 : M.length = m * n) (h : ∀ k, k < m → rowK L n k = rowK M n k) : L = M := by
  apply List.ext_getElem?
  intro i
  by_cases hi : i < m * n
  · have hk : i / n < m := Nat.div_lt_of_lt_mul (by rw [Nat.mul_comm]; exact hi)
    have e := congrArg (fun l : List Cel => l[i % n]?) (h _ hk)
    simp only [rowK_at, if_pos (Nat.mod_lt i hn)] at e
    rwa [Nat.div_add_mod' i n] at e
  · rw [List.getElem?_eq_none (by omega), List.getElem?_eq_none (by omega)]
theorem flat_len {m n : Nat} {g : Nat → List Cel} (hg : ∀ k, k < m → (g k).length = n) : ((List.range m).flatMap g).length = m * n := by
  induction m with
  | zero => simp
  | succ m ih =>
    rw [List.range_succ, List.flatMap_append, List.length_append, ih fun k hk => hg k (by omega)]
    simp only [List.flatMap_cons, List.flatMap_nil, List.append_nil]
    rw [hg m (by omega), Nat.add_mul, Nat.one_mul]
theorem flat_row {m n : Nat} {g : Nat → List Cel} (hg : ∀ k, k < m → (g k).length = n) (k : Nat) (hk : k < m) : rowK ((List.range m).flatMap g) n k = g k := by
  induction m with
  | zero => omega
  | succ m ih =>
    have hl := flat_len (m := m) (n := n) (g := g) fun k hk => hg k (by omega)
    rw [List.range_succ, List.flatMap_append]
    simp only [List.flatMap_cons, List.flatMap_nil, List.append_nil]
    by_cases h : k < m
    · rw [← ih (fun k hk => hg k (by omega)) h]
      have := row_room (n := n) h
      unfold rowK
      rw [List.drop_append_of_le_length (by omega), List.take_append_of_le_length (by rw [List.length_drop]; omega)]
    · obtain rfl : k = m := by omega
      unfold rowK
      rw [← hl, List.drop_left, List.take_of_length_le (by rw [hg k hk]; exact Nat.le_refl _)]

def sizedB (rows cols : Int) : Bool := decide (2 ≤ rows) && decide (rows ≤ 100) && decide (8 ≤ cols) && decide (cols ≤ 200)
def withinB (rows cols row col : Int) : Bool := decide (0 ≤ row) && decide (row < rows) && decide (0 ≤ col) && decide (col < cols)
theorem sizedB_iff (a b : Int) : sizedB a b = true ↔ 2 ≤ a ∧ a ≤ 100 ∧ 8 ≤ b ∧ b ≤ 200 := by unfold sizedB; simp [and_assoc]
theorem withinB_iff (a b c d : Int) : withinB a b c d = true ↔ 0 ≤ c ∧ c < a ∧ 0 ≤ d ∧ d < b := by unfold withinB; simp [and_assoc]
def rowsB (L : List Cel) (n m : Nat) : Bool := (List.range m).all fun k => rowB (rowK L n k)
theorem rowsB_iff (L : List Cel) (n m : Nat) : rowsB L n m = true ↔ ∀ k, k < m → okRow (rowK L n k) := by
  unfold rowsB
  rw [List.all_eq_true]
  exact ⟨fun h k hk => (rowB_iff _).1 (h k (List.mem_range.2 hk)), fun h k hk => (rowB_iff _).2 (h k (List.mem_range.1 hk))⟩
/-- May it be? -/
def validB (f : Frm) : Bool := sizedB f.rows f.cols && decide ((f.cells.length : Int) = f.rows * f.cols) && withinB f.rows f.cols f.row f.col && rowsB f.cells f.cols.toNat f.rows.toNat
structure OkF (f : Frm) (m n : Nat) : Prop where
  rows : f.rows = (m : Int)
  cols : f.cols = (n : Int)
  hm : 2 ≤ m ∧ m ≤ 100
  hn : 8 ≤ n ∧ n ≤ 200
  len : f.cells.length = m * n
  row : 0 ≤ f.row ∧ f.row < (m : Int)
  col : 0 ≤ f.col ∧ f.col < (n : Int)
  each : ∀ k, k < m → okRow (rowK f.cells n k)
theorem OkF.valid {f : Frm} {m n : Nat} (h : OkF f m n) : validB f = true := by
  unfold validB
  simp only [Bool.and_eq_true, decide_eq_true_eq, sizedB_iff, withinB_iff]
  rw [h.rows, h.cols]
  refine ⟨⟨⟨?_, by rw [h.len]; exact Int.natCast_mul m n⟩, h.row.1, h.row.2, h.col.1, h.col.2⟩, (rowsB_iff _ _ _).2 h.each⟩
  have := h.hm; have := h.hn
  omega
theorem valid_ok {f : Frm} (h : validB f = true) : OkF f f.rows.toNat f.cols.toNat := by
  unfold validB at h
  simp only [Bool.and_eq_true, decide_eq_true_eq, sizedB_iff, withinB_iff] at h
  obtain ⟨⟨⟨⟨h1, h2, h3, h4⟩, h5⟩, h6, h7, h8, h9⟩, h10⟩ := h
  refine ⟨by omega, by omega, by omega, by omega, ?_, by omega, by omega, (rowsB_iff _ _ _).1 h10⟩
  have e1 : ((f.rows.toNat : Nat) : Int) = f.rows := Int.toNat_of_nonneg (by omega)
  have e2 : ((f.cols.toNat : Nat) : Int) = f.cols := Int.toNat_of_nonneg (by omega)
  have : (f.cells.length : Int) = ((f.rows.toNat * f.cols.toNat : Nat) : Int) := by rw [Int.natCast_mul, e1, e2, h5]
  omega
theorem OkF.nat {f : Frm} {m n : Nat} (h : OkF f m n) : f.rows.toNat = m ∧ f.cols.toNat = n := by
  have h1 := h.rows; have h2 := h.cols; omega
theorem OkF.room {f : Frm} {m n : Nat} (h : OkF f m n) : f.cells.length ≤ 20000 := by
  rw [h.len]
  exact Nat.le_trans (Nat.mul_le_mul h.hm.2 h.hn.2) (by decide)

/-- What may stand at place i among all cells, in rows of n. -/
def okA (n : Nat) (L : List Cel) (i : Nat) (c : Cel) : Prop :=
  styB c.2.2 = true ∧ 0 ≤ c.2.1 ∧ c.2.1 ≤ 2 ∧ (0 < c.2.1 → (ofN c.1 : Int) = c.2.1) ∧ (c.2.1 = 2 → i % n ≠ n - 1 ∧ ∃ d, L[i + 1]? = some d ∧ d.2.1 = 0) ∧
    (c.2.1 = 0 → i % n ≠ 0 ∧ ∃ p, L[i - 1]? = some p ∧ p.2.1 = 2 ∧ c.1 = 0 ∧ c.2.2 = p.2.2)
theorem okA_row (n : Nat) (L : List Cel) (k j : Nat) (c : Cel) (hj : j < n) : okA n L (k * n + j) c ↔ okC (rowK L n k) j c := by
  have hmod : (k * n + j) % n = j := by rw [Nat.mul_comm, Nat.mul_add_mod]; exact Nat.mod_eq_of_lt hj
  unfold okA okC
  refine and_congr Iff.rfl (and_congr Iff.rfl (and_congr Iff.rfl (and_congr Iff.rfl (and_congr (imp_congr Iff.rfl ?_) (imp_congr Iff.rfl ?_)))))
  · rw [hmod, rowK_at]
    by_cases h : j + 1 < n
    · rw [if_pos h]; exact ⟨fun k => k.2, fun k => ⟨by omega, k⟩⟩
    · rw [if_neg h]
      exact ⟨fun k => (k.1 (by omega)).elim, fun ⟨d, hd, _⟩ => by cases hd⟩
  · rw [hmod]
    cases j with
    | zero => exact ⟨fun k => (k.1 rfl).elim, fun ⟨i, p, hi, _⟩ => by omega⟩
    | succ j =>
      constructor
      · rintro ⟨_, p, hp, h⟩
        exact ⟨j, p, rfl, by rw [rowK_at, if_pos (by omega)]; exact hp, h⟩
      · rintro ⟨i, p, hi, hp, h⟩
        obtain rfl : i = j := by omega
        rw [rowK_at, if_pos (by omega)] at hp
        exact ⟨by omega, p, hp, h⟩
theorem rows_all {L : List Cel} {m n : Nat} (hn : 0 < n) (hl : L.length = m * n) : (∀ k, k < m → okRow (rowK L n k)) ↔ ∀ i c, L[i]? = some c → okA n L i c := by
  constructor
  · intro H i c hc
    have hi := (List.getElem?_eq_some_iff.1 hc).1
    have hk : i / n < m := Nat.div_lt_of_lt_mul (by rw [Nat.mul_comm, ← hl]; exact hi)
    have e := Nat.div_add_mod' i n
    have := (okA_row n L (i / n) (i % n) c (Nat.mod_lt i hn)).2 (H _ hk _ _ (by rw [rowK_at, if_pos (Nat.mod_lt i hn), e]; exact hc))
    rwa [e] at this
  · intro H k hk j c hj
    rw [rowK_at] at hj
    split at hj
    · rename_i h
      exact (okA_row n L k j c h).1 (H _ _ hj)
    · cases hj

def sameB (a b : Frm) : Bool := decide (a.rows = b.rows) && decide (a.cols = b.cols) && decide (a.row = b.row) && decide (a.col = b.col) && decide (a.cells = b.cells)
theorem sameB_iff (a b : Frm) : sameB a b = true ↔ a = b := by
  unfold sameB
  simp only [Bool.and_eq_true, decide_eq_true_eq]
  constructor
  · rintro ⟨⟨⟨⟨h1, h2⟩, h3⟩, h4⟩, h5⟩
    cases a; cases b
    simp_all
  · rintro rfl; simp
theorem sameB_self (a : Frm) : sameB a a = true := (sameB_iff a a).2 rfl

def newF (rows cols : Int) : Frm := if sizedB rows cols then ⟨rows, cols, List.replicate (rows * cols).toNat blkC, 0, 0⟩ else zeroF
def newE (rows cols : Int) : Int := if sizedB rows cols then 0 else 2
theorem rep_row (m n k : Nat) (hk : k < m) : rowK (List.replicate (m * n) blkC) n k = List.replicate n blkC := by
  have := row_room (n := n) hk
  unfold rowK
  rw [List.drop_replicate, List.take_replicate, Nat.min_eq_left (by omega)]
theorem new_ok (m n : Nat) (hm : 2 ≤ m ∧ m ≤ 100) (hn : 8 ≤ n ∧ n ≤ 200) : OkF (newF (m : Int) (n : Int)) m n := by
  unfold newF
  rw [if_pos ((sizedB_iff _ _).2 (by omega))]
  refine ⟨rfl, rfl, hm, hn, ?_, by simp; omega, by simp; omega, fun k hk => ?_⟩
  · rw [List.length_replicate, ← Int.natCast_mul]; exact Int.toNat_natCast _
  · show okRow (rowK (List.replicate _ _) n k)
    rw [← Int.natCast_mul, Int.toNat_natCast, rep_row m n k hk]
    exact rep_ok n

def canB (f : Frm) (row col r : Int) (s : Sty) : Bool := decide (0 < ofN r) && withinB f.rows f.cols row col && decide (col + (ofN r : Int) ≤ f.cols) && styB s
theorem canB_iff (f : Frm) (row col r : Int) (s : Sty) : canB f row col r s = true ↔ 0 < ofN r ∧ (0 ≤ row ∧ row < f.rows ∧ 0 ≤ col ∧ col < f.cols) ∧ col + (ofN r : Int) ≤ f.cols ∧ styB s = true := by
  unfold canB; simp only [Bool.and_eq_true, decide_eq_true_eq, withinB_iff, and_assoc]
def layF (f : Frm) (row col r : Int) (s : Sty) : Frm := { f with cells := setK f.cells f.cols.toNat row.toNat (putL (rowK f.cells f.cols.toNat row.toNat) col.toNat r (ofN r) s) }
def putF (f : Frm) (row col r : Int) (s : Sty) : Frm := if validB f then (if canB f row col r s then layF f row col r s else f) else zeroF
theorem of_two {r : Int} (h : 0 < ofN r) : ofN r = 1 ∨ ofN r = 2 := by have := ofN_le r; omega
theorem put_okF {f : Frm} {m n : Nat} (h : OkF f m n) (row col r : Int) (s : Sty) : OkF (putF f row col r s) m n := by
  unfold putF
  rw [if_pos h.valid]
  cases hc : canB f row col r s with
  | false => exact h
  | true =>
    obtain ⟨c1, ⟨c2, c3, c4, c5⟩, c6, c7⟩ := (canB_iff _ _ _ _ _).1 hc
    rw [if_pos rfl]
    unfold layF
    obtain ⟨e1, e2⟩ := h.nat
    rw [e2]
    have hr := h.rows; have hcl := h.cols
    have hk : row.toNat < m := by omega
    have hlen := rowK_len h.len hk
    have hP := put_ok (h.each _ hk) col.toNat r (ofN r) s rfl (of_two c1) (by rw [hlen]; omega) c7
    refine ⟨h.rows, h.cols, h.hm, h.hn, setK_len _ h.len hk (by rw [put_len, hlen]), h.row, h.col, fun k hk2 => ?_⟩
    show okRow (rowK (setK _ _ _ _) n k)
    rw [setK_row _ h.len hk (by rw [put_len, hlen])]
    split
    · exact hP
    · exact h.each k hk2
theorem put_curs {f : Frm} {m n : Nat} (h : OkF f m n) (row col r : Int) (s : Sty) : (putF f row col r s).row = f.row ∧ (putF f row col r s).col = f.col := by
  unfold putF layF
  rw [if_pos h.valid]
  split <;> exact ⟨rfl, rfl⟩
/-- What is put in stands there. -/
theorem put_there {f : Frm} {m n : Nat} (h : OkF f m n) {row col r : Int} {s : Sty} (hc : canB f row col r s = true) : (putF f row col r s).cells[row.toNat * n + col.toNat]? = some (r, (ofN r : Int), s) := by
  obtain ⟨c1, ⟨c2, c3, c4, c5⟩, c6, c7⟩ := (canB_iff _ _ _ _ _).1 hc
  have hr := h.rows; have hcl := h.cols
  have hk : row.toNat < m := by omega
  have hlen := rowK_len h.len hk
  have hj : col.toNat < n := by omega
  have e : (rowK (putF f row col r s).cells n row.toNat)[col.toNat]? = some (r, (ofN r : Int), s) := by
    unfold putF layF
    rw [if_pos h.valid, hc, if_pos rfl, h.nat.2]
    show (rowK (setK _ _ _ _) n row.toNat)[col.toNat]? = _
    rw [setK_row _ h.len hk (by rw [put_len, hlen]), if_pos rfl, put_at (h.each _ hk) _ _ _ _ (of_two c1) (by rw [hlen]; omega), if_pos rfl]
  rw [rowK_at, if_pos hj] at e
  exact e
theorem put_fewF {f : Frm} {m n : Nat} (h : OkF f m n) {row col r : Int} {s : Sty} (hc : canB f row col r s = true) : diffN f.cells (putF f row col r s).cells ≤ ofN r + 2 := by
  obtain ⟨c1, ⟨c2, c3, c4, c5⟩, c6, c7⟩ := (canB_iff _ _ _ _ _).1 hc
  have hr := h.rows; have hcl := h.cols
  have hk : row.toNat < m := by omega
  have hlen := rowK_len h.len hk
  unfold putF layF
  rw [if_pos h.valid, hc, if_pos rfl, h.nat.2]
  show diffN f.cells (setK _ _ _ _) ≤ _
  have hP := put_few (h.each _ hk) col.toNat r (ofN r) s (of_two c1) (by rw [hlen]; omega)
  conv => lhs; arg 1; rw [parts f.cells n row.toNat]
  unfold setK
  rw [diff_app _ _ _ _ (by rw [List.length_append, List.length_append, put_len]), diff_app _ _ _ _ rfl, diff_self, diff_self]
  omega

def resC (f : Frm) (rows cols : Nat) : List Cel := (List.range rows).flatMap fun (k : Nat) => if (k : Int) < f.rows then resL (rowK f.cells f.cols.toNat k) cols else List.replicate cols blkC
def resF (f : Frm) (rows cols : Int) : Frm := if validB f && sizedB rows cols then ⟨rows, cols, resC f rows.toNat cols.toNat, min f.row (rows - 1), min f.col (cols - 1)⟩ else zeroF
def resE (f : Frm) (rows cols : Int) : Int := if validB f && sizedB rows cols then 0 else 2
theorem resC_each (f : Frm) (cols k : Nat) : (if (k : Int) < f.rows then resL (rowK f.cells f.cols.toNat k) cols else List.replicate cols blkC).length = cols := by
  split
  · exact res_len _ _
  · exact List.length_replicate
theorem resC_len (f : Frm) (rows cols : Nat) : (resC f rows cols).length = rows * cols := flat_len fun k _ => resC_each f cols k
theorem resC_row (f : Frm) (rows cols k : Nat) (hk : k < rows) : rowK (resC f rows cols) cols k = if (k : Int) < f.rows then resL (rowK f.cells f.cols.toNat k) cols else List.replicate cols blkC := flat_row (fun k _ => resC_each f cols k) k hk
theorem resF_is {f : Frm} {m n : Nat} (h : OkF f m n) (p q : Nat) (hp : 2 ≤ p ∧ p ≤ 100) (hq : 8 ≤ q ∧ q ≤ 200) : resF f (p : Int) (q : Int) = ⟨p, q, resC f p q, min f.row ((p : Int) - 1), min f.col ((q : Int) - 1)⟩ ∧ resE f (p : Int) (q : Int) = 0 := by
  unfold resF resE
  rw [h.valid, (sizedB_iff _ _).2 (show 2 ≤ (p : Int) ∧ (p : Int) ≤ 100 ∧ 8 ≤ (q : Int) ∧ (q : Int) ≤ 200 by omega)]
  exact ⟨rfl, rfl⟩
theorem res_okF {f : Frm} {m n : Nat} (h : OkF f m n) (p q : Nat) (hp : 2 ≤ p ∧ p ≤ 100) (hq : 8 ≤ q ∧ q ≤ 200) : OkF (resF f (p : Int) (q : Int)) p q := by
  rw [(resF_is h p q hp hq).1]
  have h1 := h.row; have h2 := h.col
  refine ⟨rfl, rfl, hp, hq, resC_len f p q, by simp only []; omega, by simp only []; omega, fun k hk => ?_⟩
  show okRow (rowK (resC f p q) q k)
  rw [resC_row f p q k hk]
  split
  · rename_i hlt
    rw [h.nat.2]
    have hr := h.rows
    exact res_ok (h.each k (by omega)) q
  · exact rep_ok q
/-- One that is made larger, and as it was again, is as it was. -/
theorem res_backF {f : Frm} {m n : Nat} (h : OkF f m n) (p q : Nat) (hp : m ≤ p ∧ p ≤ 100) (hq : n ≤ q ∧ q ≤ 200) : resF (resF f (p : Int) (q : Int)) (m : Int) (n : Int) = f := by
  have hm := h.hm; have hn := h.hn
  have h1 := res_okF h p q (by omega) (by omega)
  rw [(resF_is h1 m n hm hn).1]
  have e := (resF_is h p q (by omega) (by omega)).1
  have hrow : (resF f (p : Int) (q : Int)).row = f.row := by rw [e]; have := h.row; simp only []; omega
  have hcol : (resF f (p : Int) (q : Int)).col = f.col := by rw [e]; have := h.col; simp only []; omega
  have hcs : resC (resF f (p : Int) (q : Int)) m n = f.cells := by
    refine rows_ext (m := m) (n := n) (by omega) (resC_len _ m n) h.len fun k hk => ?_
    rw [resC_row _ m n k hk, h1.rows, if_pos (by omega), h1.nat.2, e]
    show resL (rowK (resC f p q) q k) n = _
    have hr := h.rows
    rw [resC_row f p q k (by omega), if_pos (by omega), h.nat.2]
    have hl := rowK_len h.len hk
    have := res_back (h.each k hk) q (by omega)
    rwa [hl] at this
  rw [hrow, hcol, hcs]
  have h1 := h.row; have h2 := h.col; have h3 := h.rows; have h4 := h.cols
  cases f
  simp only [Frm.mk.injEq] at *
  refine ⟨by omega, by omega, trivial, by omega, by omega⟩
/-- One that is made smaller, and larger again, has what was not cut. -/
theorem res_keptF {f : Frm} {m n : Nat} (h : OkF f m n) (p q : Nat) (hp : 2 ≤ p ∧ p ≤ m) (hq : 8 ≤ q ∧ q ≤ n) (i : Nat) (h1 : i / n < p) (h2 : i % n < q - 1) :
    (resF (resF f (p : Int) (q : Int)) (m : Int) (n : Int)).cells[i]? = f.cells[i]? := by
  have hm := h.hm; have hn := h.hn
  have k1 := res_okF h p q (by omega) (by omega)
  rw [(resF_is k1 m n hm hn).1, (resF_is h p q (by omega) (by omega)).1]
  have e := Nat.div_add_mod' i n
  have hlt := Nat.mod_lt i (show 0 < n by omega)
  have a : ∀ L : List Cel, L[i]? = (rowK L n (i / n))[i % n]? := fun L => by rw [rowK_at, if_pos hlt, e]
  have hr := h.rows
  rw [a, a f.cells]
  show (rowK (resC ⟨(p : Int), (q : Int), resC f p q, _, _⟩ m n) n (i / n))[i % n]? = _
  rw [resC_row _ m n _ (by omega), if_pos (show ((i / n : Nat) : Int) < (p : Int) by omega)]
  show (resL (rowK (resC f p q) (q : Int).toNat (i / n)) n)[i % n]? = _
  rw [Int.toNat_natCast, resC_row f p q _ h1, if_pos (by omega), h.nat.2]
  have hl := rowK_len h.len (show i / n < m by omega)
  have hok := h.each _ (show i / n < m by omega)
  rw [res_at, if_neg (by omega), res_len, if_neg (by omega), if_neg (by omega), res_at, if_neg (by omega), if_neg (by omega), if_neg (by omega)]

def diffF (a b : Frm) : Int := if validB a && validB b && decide (a.rows = b.rows) && decide (a.cols = b.cols) then (diffN a.cells b.cells : Int) else -1
theorem diffF_is {a b : Frm} {m n : Nat} (h : OkF a m n) (g : OkF b m n) : diffF a b = (diffN a.cells b.cells : Int) := by
  unfold diffF
  rw [h.valid, g.valid, h.rows, g.rows, h.cols, g.cols]
  simp
theorem diffF_zero {a b : Frm} {m n : Nat} (h : OkF a m n) (g : OkF b m n) : sameB a b = (decide (diffF a b = 0) && decide (a.row = b.row) && decide (a.col = b.col)) := by
  rw [diffF_is h g]
  have := diff_zero a.cells b.cells (by rw [h.len, g.len])
  unfold sameB
  rw [h.rows, g.rows, h.cols, g.cols]
  rw [Bool.eq_iff_iff]
  simp only [Bool.and_eq_true, decide_eq_true_eq]
  rw [← this]
  constructor
  · rintro ⟨⟨⟨_, h3⟩, h4⟩, h5⟩
    exact ⟨⟨by omega, h3⟩, h4⟩
  · rintro ⟨⟨h5, h3⟩, h4⟩
    exact ⟨⟨⟨⟨trivial, trivial⟩, h3⟩, h4⟩, by omega⟩

/-- What a row shows, as bytes. -/
def shownL (l : List Cel) : List UInt8 := l.flatMap fun c => if 0 < c.2.1 then (putB c.1).data.toList else []
def shownS (l : List Cel) : ByteArray := ⟨(shownL l).toArray⟩
def rowsF (f : Frm) : List ByteArray := if validB f then (List.range f.rows.toNat).map fun k => shownS (rowK f.cells f.cols.toNat k) else []
theorem shownL_step (l : List Cel) (i : Nat) (c : Cel) (hc : l[i]? = some c) : shownL (l.take (i + 1)) = shownL (l.take i) ++ if 0 < c.2.1 then (putB c.1).data.toList else [] := by
  have h1 := (List.getElem?_eq_some_iff.1 hc).1
  rw [List.take_succ_eq_append_getElem h1, (List.getElem?_eq_some_iff.1 hc).2]
  unfold shownL
  rw [List.flatMap_append]
  simp
end Go.Proofs.YtpkjaallhhjleaaGreatDoor
