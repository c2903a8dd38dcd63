/-
  regs, plain: the rules of one byte, of two, of what is between them, and of the others: what they are parsed as. No call is walked here.
-/
import Derived.Test.YthokamikejnbeaaDoorBe22
import Derived.Test.YthokamikejnbeaaDoorBe2
import Derived.Test.YthokamikejnbeaaDoorBe30
namespace Go.Proofs.YthokamikejnbeaaDoor

def hexT (b : Nat) : List Nat := [92, 120, hexC (b / 16), hexC (b % 16)]
theorem let_hex (br : Bool) (b : Nat) (hb : b < 256) (r : List Nat) : letR br (hexT b ++ r) = some (b, r) := by
  show letR br (92 :: 120 :: (hexC (b / 16) :: hexC (b % 16) :: r)) = _
  rw [letR, if_pos rfl, escR, if_neg (by decide), if_neg (by decide), if_neg (by decide), if_pos rfl]
  exact hex_back b hb r
theorem parse_one {l : List Nat} {n : Nd} (hh : HeadR l) (hp : atR l = some (n, [])) : parseR l = some n := by
  rw [parse_eq, rw_piece hh (q := []) (n := n) (by unfold pieceR; rw [hp]; rfl), rw_next (.inl rfl)]
  rfl
theorem head_c (c : Nat) (t : List Nat) (h : c ≠ 41 ∧ c ≠ 124 ∧ c ≠ 42 ∧ c ≠ 43 ∧ c ≠ 63) : HeadR (c :: t) := ⟨c, t, rfl, h⟩
theorem parse_byte (a : Nat) (ha : a < 256) : parseR (hexT a) = some (.mk 1 (withR noR a 1) []) := by
  refine parse_one (head_c _ _ (by decide)) ?_
  have h := let_hex false a ha []
  rw [List.append_nil] at h
  rw [at_eq, if_neg (by show ¬ some 92 = some 40; decide), if_neg (by show ¬ some 92 = some 91; decide), if_neg (by show ¬ some 92 = some 46; decide), h]
  rfl
theorem spans_end (f : Nat) (s : St4) : spansR (f + 1) false s [93] = some (s, []) := by
  rw [spansR, if_pos ⟨rfl, rfl⟩]
  rfl
theorem spans_two (f : Nat) (first : Bool) (s : St4) (a b : Nat) (ha : a < 256) (hb : b < 256) (hab : a ≤ b) : spansR (f + 2) first s (hexT a ++ 45 :: (hexT b ++ [93])) = some (withR s a (b + 1 - a), []) := by
  rw [spansR, if_neg (by rintro ⟨_, h⟩; exact absurd (show some 92 = some 93 from h) (by decide)), let_hex true a ha]
  simp only [List.head?_cons, if_true, List.tail_cons]
  rw [let_hex true b hb]
  simp only
  rw [if_neg (by omega)]
  exact spans_end f _
theorem spans_pair (f : Nat) (s : St4) (a b : Nat) (ha : a < 256) (hb : b < 256) : spansR (f + 3) true s (hexT a ++ (hexT b ++ [93])) = some (withR (withR s a 1) b 1, []) := by
  rw [spansR, if_neg (by rintro ⟨h, _⟩; cases h), let_hex true a ha]
  simp only
  rw [if_neg (by show ¬ some 92 = some 45; decide), spansR, if_neg (by rintro ⟨_, h⟩; exact absurd (show some 92 = some 93 from h) (by decide)), let_hex true b hb]
  simp only
  rw [if_neg (by show ¬ some 93 = some 45; decide)]
  exact spans_end f _
theorem at_bracket (l : List Nat) : atR (91 :: l) = bracketR l := by
  rw [at_eq, if_neg (by show ¬ some 91 = some 40; decide)]
  exact if_pos (show (91 :: l : List Nat).head? = some 91 from rfl)
theorem parse_pair (a b : Nat) (ha : a < 256) (hb : b < 256) : parseR (91 :: (hexT a ++ (hexT b ++ [93]))) = some (.mk 1 (withR (withR noR a 1) b 1) []) := by
  refine parse_one (head_c _ _ (by decide)) ?_
  rw [at_bracket, bracketR, if_neg (by show ¬ some 92 = some 94; decide)]
  show (spansR (7 + 3) true noR _).map _ = _
  rw [spans_pair 7 noR a b ha hb]
  rfl
theorem parse_range (a b : Nat) (ha : a < 256) (hb : b < 256) (hab : a ≤ b) : parseR (91 :: (hexT a ++ 45 :: (hexT b ++ [93]))) = some (.mk 1 (withR noR a (b + 1 - a)) []) := by
  refine parse_one (head_c _ _ (by decide)) ?_
  rw [at_bracket, bracketR, if_neg (by show ¬ some 92 = some 94; decide)]
  show (spansR (9 + 2) true noR _).map _ = _
  rw [spans_two 9 true noR a b ha hb hab]
  rfl
theorem parse_not (a b : Nat) (ha : a < 256) (hb : b < 256) (hab : a ≤ b) : parseR (91 :: 94 :: (hexT a ++ 45 :: (hexT b ++ [93]))) = some (.mk 1 (notR (withR noR a (b + 1 - a)) 256) []) := by
  refine parse_one (head_c _ _ (by decide)) ?_
  rw [at_bracket, bracketR, if_pos (show (94 :: (hexT a ++ 45 :: (hexT b ++ [93])) : List Nat).head? = some 94 from rfl)]
  show (spansR (10 + 2) true noR _).map _ = _
  rw [List.tail_cons, spans_two 10 true noR a b ha hb hab]
  rfl
theorem hexC_lt2 (d : Nat) (h : d < 16) : hexC d < 256 := by unfold hexC; split <;> omega
theorem hexT_lt (a : Nat) (ha : a < 256) : ∀ x, x ∈ hexT a → x < 256 := by
  have h1 := hexC_lt2 (a / 16) (by omega)
  have h2 := hexC_lt2 (a % 16) (by omega)
  intro x hx
  simp only [hexT, List.mem_cons, List.not_mem_nil, or_false] at hx
  omega
theorem parseP_of {l : List Nat} {n : Nd} (hl : ∀ x, x ∈ l → x < 256) (h2 : l.length ≤ 200) (h : parseR l = some n) : parseP (strR l) = (n, 0) := by
  unfold parseP
  rw [if_neg (by rw [strR_size]; omega), strR_bytes l hl, h]
theorem lt_app {l m : List Nat} (h1 : ∀ x, x ∈ l → x < 256) (h2 : ∀ x, x ∈ m → x < 256) : ∀ x, x ∈ l ++ m → x < 256 := fun x hx => by
  rcases List.mem_append.1 hx with hx | hx
  · exact h1 x hx
  · exact h2 x hx
theorem lt_cons {c : Nat} {l : List Nat} (hc : c < 256) (h1 : ∀ x, x ∈ l → x < 256) : ∀ x, x ∈ c :: l → x < 256 := fun x hx => by
  rcases List.mem_cons.1 hx with rfl | hx
  · exact hc
  · exact h1 x hx
theorem lt_one : ∀ x, x ∈ [93] → x < 256 := by decide
theorem has_one (a c : Nat) (ha : a < 256) (hc : c < 256) : hasR (withR noR a 1) c = decide (c = a) := by
  rw [has_with noR a c hc 1 (by omega), has_no, Bool.false_or]
  exact decide_eq_decide.2 (by omega)
theorem has_two (a b c : Nat) (ha : a < 256) (hb : b < 256) (hc : c < 256) : hasR (withR (withR noR a 1) b 1) c = (decide (c = a) || decide (c = b)) := by
  rw [has_with _ b c hc 1 (by omega), has_one a c ha hc]
  congr 1
  exact decide_eq_decide.2 (by omega)
theorem has_range (a b c : Nat) (hb : b < 256) (hab : a ≤ b) (hc : c < 256) : hasR (withR noR a (b + 1 - a)) c = decide (a ≤ c ∧ c ≤ b) := by
  rw [has_with noR a c hc _ (by omega), has_no, Bool.false_or]
  exact decide_eq_decide.2 (by omega)
theorem has_others (a b c : Nat) (hb : b < 256) (hab : a ≤ b) (hc : c < 256) : hasR (notR (withR noR a (b + 1 - a)) 256) c = !decide (a ≤ c ∧ c ≤ b) := by
  rw [has_not _ c hc 256 (Nat.le_refl _), has_range a b c hb hab hc, decide_eq_true hc, Bool.true_and]
/-- The four rules, as Parse has them. -/
theorem set_rules (a b : Nat) (ha : a < 256) (hb : b < 256) (hab : a ≤ b) :
    parseP (strR (hexT a)) = (.mk 1 (withR noR a 1) [], 0) ∧ parseP (strR (91 :: (hexT a ++ (hexT b ++ [93])))) = (.mk 1 (withR (withR noR a 1) b 1) [], 0) ∧
    parseP (strR (91 :: (hexT a ++ 45 :: (hexT b ++ [93])))) = (.mk 1 (withR noR a (b + 1 - a)) [], 0) ∧ parseP (strR (91 :: 94 :: (hexT a ++ 45 :: (hexT b ++ [93])))) = (.mk 1 (notR (withR noR a (b + 1 - a)) 256) [], 0) := by
  have h1 := hexT_lt a ha
  have h2 := hexT_lt b hb
  exact ⟨parseP_of h1 (by show 4 ≤ 200; decide) (parse_byte a ha),
    parseP_of (lt_cons (by decide) (lt_app h1 (lt_app h2 lt_one))) (by show 10 ≤ 200; decide) (parse_pair a b ha hb),
    parseP_of (lt_cons (by decide) (lt_app h1 (lt_cons (by decide) (lt_app h2 lt_one)))) (by show 11 ≤ 200; decide) (parse_range a b ha hb hab),
    parseP_of (lt_cons (by decide) (lt_cons (by decide) (lt_app h1 (lt_cons (by decide) (lt_app h2 lt_one))))) (by show 12 ≤ 200; decide) (parse_not a b ha hb hab)⟩
end Go.Proofs.YthokamikejnbeaaDoor
