/-
  Plain facts on the parts of which ParserParts puts a text together: their bytes, what they ask for; a control put into a sequence. Nothing of the program.
-/
import Derived.Test.YtbpnnnjbddjboaaDoorPsIs
import Derived.Test.YtbpnnnjbddjboaaDoorJoin
import Derived.Test.YtbpnnnjbddjboaaDoorPsRefN
namespace Go.Proofs.YtbpnnnjbddjboaaDoor
open Go.RowKit

/-- A part: its kind, a rune, a number, numbers. -/
abbrev Prt := Int × Int × Int × List Int
def low13 (z : Int) : Nat := (z % 8192).toNat
def numsP (x : Prt) : List Nat := (x.2.2.2.take 16).map low13
/-- The numbers' digits, with 3B between. -/
def midL : List Nat → List UInt8
  | [] => []
  | [n] => Lib.decDigits n
  | n :: l => Lib.decDigits n ++ 59 :: midL l
def finP (x : Prt) : Nat := 64 + (x.2.2.1 % 63).toNat
def ctlP (x : Prt) : Nat := if (x.2.2.1 % 32).toNat = 27 then 127 else (x.2.2.1 % 32).toNat
def escP (x : Prt) : Nat := if 48 + (x.2.2.1 % 79).toNat = 91 then 99 else 48 + (x.2.2.1 % 79).toNat
def runeP (x : Prt) : Nat := if Lib.validRune x.2.1 = true ∧ 32 ≤ x.2.1 ∧ x.2.1 ≠ 127 then x.2.1.toNat else 26085
def kindP (x : Prt) : Nat := (x.1 % 4).toNat
def seqB (x : Prt) : ByteArray := ⟨(27 :: 91 :: (midL (numsP x) ++ [UInt8.ofNat (finP x)])).toArray⟩
def prtB (x : Prt) : ByteArray :=
  if kindP x = 1 then oneB (ctlP x) else if kindP x = 2 then seqB x else if kindP x = 3 then ⟨#[27, UInt8.ofNat (escP x)]⟩ else putB (runeP x : Nat)
def prtA (x : Prt) : Ac :=
  if kindP x = 1 then (2, ctlP x, [], 0) else if kindP x = 2 then (3, 0, numsP x, finP x) else if kindP x = 3 then (4, 0, [], escP x) else (1, runeP x, [], 0)

theorem low13_le (z : Int) : low13 z ≤ 8191 := by unfold low13; omega
theorem midL_cons (n : Nat) (l : List Nat) (h : l ≠ []) : midL (n :: l) = Lib.decDigits n ++ 59 :: midL l := by
  cases l with
  | nil => exact absurd rfl h
  | cons m l => rfl
theorem midL_snoc (l : List Nat) (n : Nat) (h : l ≠ []) : midL (l ++ [n]) = midL l ++ 59 :: Lib.decDigits n := by
  induction l with
  | nil => exact absurd rfl h
  | cons m l ih =>
    cases l with
    | nil => rfl
    | cons k l =>
      rw [List.cons_append, midL_cons _ _ (by simp), ih (by simp), midL_cons m (k :: l) (by simp)]
      simp
theorem midL_dig : ∀ l : List Nat, ∀ u ∈ midL l, 48 ≤ u.toNat ∧ u.toNat ≤ 59
  | [], u, h => by cases h
  | [n], u, h => by have := digits_dig n n (Nat.le_refl _) u h; unfold digitU at this; omega
  | n :: m :: l, u, h => by
    rw [midL_cons _ _ (by simp)] at h
    rcases List.mem_append.1 h with h | h
    · have := digits_dig n n (Nat.le_refl _) u h; unfold digitU at this; omega
    · rcases List.mem_cons.1 h with h | h
      · subst h; decide
      · exact midL_dig (m :: l) u h
/-- Digits behind a sequence. -/
theorem run_digits (pre : List (Option Nat)) : ∀ (k n : Nat), n ≤ k → n ≤ 9999 → runN (.seq pre none) ((Lib.decDigits n).map UInt8.toNat) = (.seq pre (some n), [])
  | k, n, hk, hn => by
    rw [Lib.decDigits]
    split
    · rename_i h
      rw [List.map_cons, List.map_nil, runN_cons, UInt8.toNat_ofNat', Nat.mod_eq_of_lt (by omega)]
      show ((runN (seqN pre none (48 + n)).1 []).1, (seqN pre none (48 + n)).2 ++ (runN (seqN pre none (48 + n)).1 []).2) = _
      unfold seqN
      rw [if_neg (by omega), if_pos (by omega)]
      unfold stepN
      rw [if_neg (by omega), if_pos (by omega)]
      show ((Ps.seq pre (some (capN 0 (48 + n - 48)))), ([] : List Ac)) = _
      rw [show capN 0 (48 + n - 48) = n by unfold capN; omega]
    · rename_i h
      rw [List.map_append, runN_app, run_digits pre (k - 1) (n / 10) (by omega) (by omega), List.map_cons, List.map_nil, runN_cons, UInt8.toNat_ofNat', Nat.mod_eq_of_lt (by omega)]
      show ((runN (seqN pre (some (n / 10)) (48 + n % 10)).1 []).1, ([] : List Ac) ++ ((seqN pre (some (n / 10)) (48 + n % 10)).2 ++ [])) = _
      unfold seqN
      rw [if_neg (by omega), if_pos (by omega)]
      unfold stepN
      rw [if_neg (by omega), if_pos (by omega)]
      show ((Ps.seq pre (some (capN (n / 10) (48 + n % 10 - 48)))), ([] : List Ac)) = _
      rw [show capN (n / 10) (48 + n % 10 - 48) = n by unfold capN; omega]
termination_by k => k
decreasing_by omega
theorem run_sep (pre : List (Option Nat)) (x : Option Nat) (h : pre.length < 15) : runN (.seq pre x) [59] = (.seq (pre ++ [x]) none, []) := by
  rw [runN_cons]
  show ((runN (seqN pre x 59).1 []).1, (seqN pre x 59).2 ++ []) = _
  unfold seqN
  rw [if_neg (by omega), if_pos (by omega)]
  unfold stepN
  rw [if_pos ⟨rfl, h⟩]
  rfl
def lastO (l : List Nat) : List (Option Nat) × Option Nat := (l.dropLast.map some, l.getLast?)
/-- The numbers of a sequence. -/
theorem run_mid : ∀ (l : List Nat) (pre : List (Option Nat)), pre.length + l.length ≤ 16 → (∀ n ∈ l, n ≤ 9999) → ∃ q x, runN (.seq pre none) ((midL l).map UInt8.toNat) = (.seq q x, []) ∧ q ++ [x] = pre ++ (if l = [] then [none] else l.map some)
  | [], pre, _, _ => ⟨pre, none, rfl, rfl⟩
  | [n], pre, _, h => ⟨pre, some n, run_digits pre n n (Nat.le_refl _) (h n (List.mem_singleton.2 rfl)), rfl⟩
  | n :: m :: l, pre, hl, h => by
    obtain ⟨q, x, h1, h2⟩ := run_mid (m :: l) (pre ++ [some n]) (by rw [List.length_append]; simp only [List.length_cons, List.length_nil] at hl ⊢; omega) (fun k hk => h k (List.mem_cons_of_mem _ hk))
    refine ⟨q, x, ?_, ?_⟩
    · rw [midL_cons _ _ (by simp), List.map_append, runN_app, run_digits pre n n (Nat.le_refl _) (h n (List.mem_cons_self ..)), List.map_cons]
      show ((runN (.seq pre (some n)) (([59] : List Nat) ++ (midL (m :: l)).map UInt8.toNat)).1, ([] : List Ac) ++ (runN (.seq pre (some n)) (([59] : List Nat) ++ (midL (m :: l)).map UInt8.toNat)).2) = _
      rw [runN_app, run_sep pre (some n) (by simp only [List.length_cons] at hl; omega), h1]
      rfl
    · rw [h2]
      simp
theorem nums_eq (q : List (Option Nat)) (x : Option Nat) (l : List Nat) (h : q ++ [x] = (if l = [] then [none] else l.map some)) : paramsN q x = l := by
  unfold paramsN nums
  by_cases h0 : l = []
  · subst h0
    rw [if_pos rfl] at h
    have h1 : q = [] ∧ x = none := by
      cases q with
      | nil => exact ⟨rfl, by simpa using h⟩
      | cons a q => have := congrArg List.length h; simp at this
    rw [if_pos h1]
  · rw [if_neg h0] at h
    have h1 : ¬ (q = [] ∧ x = none) := by
      rintro ⟨rfl, rfl⟩
      cases l with
      | nil => exact h0 rfl
      | cons a l => simp at h
    rw [if_neg h1, h, List.map_map]
    show List.map (fun n => n) l = l
    exact List.map_id' l
theorem numsP_facts (x : Prt) : (numsP x).length ≤ 16 ∧ ∀ n ∈ numsP x, n ≤ 9999 := by
  refine ⟨by unfold numsP; rw [List.length_map, List.length_take]; omega, fun n hn => ?_⟩
  obtain ⟨z, _, rfl⟩ := List.mem_map.1 hn
  have := low13_le z
  omega
theorem runN_two (l : List Nat) : runN .zero (27 :: 91 :: l) = runN (.seq [] none) l := by
  rw [runN_cons, runN_cons]
  rfl
/-- Behind a sequence's beginning and its numbers, the last byte. -/
theorem run_seq (x : Prt) : runN .zero (bytesN (seqB x)) = (.zero, [(3, 0, numsP x, finP x)]) := by
  have e : bytesN (seqB x) = 27 :: 91 :: ((midL (numsP x)).map UInt8.toNat ++ [finP x]) := by
    unfold bytesN seqB
    show (27 :: 91 :: (midL (numsP x) ++ [UInt8.ofNat (finP x)])).map UInt8.toNat = _
    rw [List.map_cons, List.map_cons, List.map_append, List.map_cons, List.map_nil, UInt8.toNat_ofNat', Nat.mod_eq_of_lt (by unfold finP; omega)]
    rfl
  obtain ⟨q, y, h1, h2⟩ := run_mid (numsP x) [] (by have := (numsP_facts x).1; simpa using this) (numsP_facts x).2
  rw [e, runN_two, runN_app, h1, runN_cons]
  show ((runN (seqN q y (finP x)).1 []).1, ([] : List Ac) ++ ((seqN q y (finP x)).2 ++ [])) = _
  unfold seqN
  rw [if_neg (by unfold finP; omega), if_neg (by unfold finP; omega), if_pos (by unfold finP; omega), nums_eq q y (numsP x) (by rw [h2]; rfl)]
  rfl
theorem bt_l (s : ByteArray) (b i : Nat) (h : i < s.size) : bt (s ++ oneB b) i = bt s i := bt_appL s (oneB b) i h
theorem bt_r (s : ByteArray) (b i : Nat) (h : i = s.size) (hb : b < 256) : bt (s ++ oneB b) i = b := by
  subst h
  have := bt_appR s (oneB b) 0
  rw [Nat.add_zero, bt_one b hb] at this
  exact this
theorem nums_one (b : Nat) (h : b < 256) : (oneB b).data.toList.map UInt8.toNat = [b] := by
  show [(UInt8.ofNat b).toNat] = [b]
  rw [ofNat_toNat b h]
theorem nums_snoc (s : ByteArray) (b : Nat) (h : b < 256) : (s ++ oneB b).data.toList.map UInt8.toNat = s.data.toList.map UInt8.toNat ++ [b] := by rw [app_data, List.map_append, nums_one b h]
theorem first_run (b : Nat) (hb : b < 256) (h : Beg (oneB b)) : feedN .zero b = (.start (oneB b), []) := by
  have h1 : 194 ≤ b := by
    have h2 := beg_first _ h
    rw [bt_one b hb] at h2
    exact h2.2.1
  show firstN b = _
  unfold firstN
  rw [if_neg (by omega), if_neg (by omega), if_neg (by omega), if_pos (show begB (oneB b) = true from decide_eq_true h)]
theorem start_run (s : ByteArray) (b : Nat) (h : Beg (s ++ oneB b)) : feedN (.start s) b = (.start (s ++ oneB b), []) := by
  show startN s b = _
  have ho : okAt (s ++ oneB b) 0 = false := by unfold okAt; rw [beg_none _ h]; rfl
  unfold startN
  rw [if_neg (by rw [ho]; decide), if_pos (show begB (s ++ oneB b) = true from decide_eq_true h)]
theorem end_run (s : ByteArray) (b R n : Nat) (h : Utf8.decode (s ++ oneB b) 0 = (R, n)) (hn : n ≠ 1) : feedN (.start s) b = (.zero, [(1, R, [], 0)]) := by
  show startN s b = _
  have ho : okAt (s ++ oneB b) 0 = true := by unfold okAt; rw [h]; simp [hn]
  unfold startN
  rw [if_pos ho, h]
/-- One rune's bytes ask for it. -/
theorem run_rune (R : Nat) (h : R < 55296 ∨ 57344 ≤ R ∧ R ≤ 1114111) (h32 : 32 ≤ R) (h127 : R ≠ 127) : runN .zero (bytesN (putB (R : Int))) = (.zero, [(1, R, [], 0)]) := by
  obtain ⟨hd, _, _, _, _⟩ := dec_put R h
  have hp := put_size R
  have hb := putB_nums R
  show runN .zero ((putB (R : Int)).data.toList.map UInt8.toNat) = _
  rw [hb]
  by_cases h1 : R < 128
  · have e : putN R = [R] := by unfold putN; rw [if_pos h1]
    rw [e, runN_cons]
    show ((runN (firstN R).1 []).1, (firstN R).2 ++ []) = _
    unfold firstN
    rw [if_neg (by omega), if_neg (by omega), if_pos h1]
    rfl
  by_cases h2 : R < 2048
  · have e : putN R = [192 + R / 64, 128 + R % 64] := by unfold putN; rw [if_neg h1, if_pos h2]
    have eb : putB (R : Int) = oneB (192 + R / 64) ++ oneB (128 + R % 64) := ba_eq.2 (by rw [hb, e, nums_snoc _ _ (by omega), nums_one _ (by omega)]; rfl)
    have B1 : Beg (oneB (192 + R / 64)) := .inl ⟨rfl, by rw [bt_one _ (by omega)]; omega, by rw [bt_one _ (by omega)]; omega⟩
    rw [hp, e, eb] at hd
    rw [e, runN_cons, first_run _ (by omega) B1, runN_cons, end_run _ _ R 2 hd (by decide)]
    rfl
  have three : R < 55296 ∨ 57344 ≤ R → R < 65536 → runN .zero (putN R) = (.zero, [(1, R, [], 0)]) := by
    intro h3 h4
    have e : putN R = [224 + R / 4096, 128 + R / 64 % 64, 128 + R % 64] := by
      unfold putN
      rw [if_neg h1, if_neg h2]
      by_cases h5 : R < 55296
      · rw [if_pos h5]
      · rw [if_neg h5, if_neg (by omega), if_pos h4]
    have eb : putB (R : Int) = oneB (224 + R / 4096) ++ oneB (128 + R / 64 % 64) ++ oneB (128 + R % 64) := ba_eq.2 (by rw [hb, e, nums_snoc _ _ (by omega), nums_snoc _ _ (by omega), nums_one _ (by omega)]; rfl)
    have B1 : Beg (oneB (224 + R / 4096)) := .inl ⟨rfl, by rw [bt_one _ (by omega)]; omega, by rw [bt_one _ (by omega)]; omega⟩
    have B2 : Beg (oneB (224 + R / 4096) ++ oneB (128 + R / 64 % 64)) := by
      refine .inr (.inl ⟨rfl, ?_, ?_, ?_, ?_⟩)
      all_goals rw [bt_l _ _ 0 (by rw [one_size]; decide), bt_one _ (by omega)]
      · omega
      · omega
      · rw [bt_r _ _ 1 rfl (by omega)]
        unfold loB
        rw [if_neg (show ¬ 224 + R / 4096 = 240 by omega)]
        split <;> omega
      · rw [bt_r _ _ 1 rfl (by omega)]
        unfold hiB
        rw [if_neg (show ¬ 224 + R / 4096 = 244 by omega)]
        split <;> omega
    rw [hp, e, eb] at hd
    rw [e, runN_cons, first_run _ (by omega) B1, runN_cons, start_run _ _ B2, runN_cons, end_run _ _ R 3 hd (by decide)]
    rfl
  by_cases h4 : R < 65536
  · exact three (by omega) h4
  · have e : putN R = [240 + R / 262144, 128 + R / 4096 % 64, 128 + R / 64 % 64, 128 + R % 64] := by
      unfold putN
      rw [if_neg h1, if_neg h2, if_neg (by omega), if_neg (by omega), if_neg h4, if_pos (by omega)]
    have eb : putB (R : Int) = oneB (240 + R / 262144) ++ oneB (128 + R / 4096 % 64) ++ oneB (128 + R / 64 % 64) ++ oneB (128 + R % 64) := ba_eq.2 (by rw [hb, e, nums_snoc _ _ (by omega), nums_snoc _ _ (by omega), nums_snoc _ _ (by omega), nums_one _ (by omega)]; rfl)
    have B1 : Beg (oneB (240 + R / 262144)) := .inl ⟨rfl, by rw [bt_one _ (by omega)]; omega, by rw [bt_one _ (by omega)]; omega⟩
    have lo : loB (240 + R / 262144) ≤ 128 + R / 4096 % 64 := by
      unfold loB
      rw [if_neg (show ¬ 240 + R / 262144 = 224 by omega)]
      split <;> omega
    have hi : 128 + R / 4096 % 64 ≤ hiB (240 + R / 262144) := by
      unfold hiB
      rw [if_neg (show ¬ 240 + R / 262144 = 237 by omega)]
      split <;> omega
    have B2 : Beg (oneB (240 + R / 262144) ++ oneB (128 + R / 4096 % 64)) := by
      refine .inr (.inl ⟨rfl, ?_, ?_, ?_, ?_⟩)
      all_goals rw [bt_l _ _ 0 (by rw [one_size]; decide), bt_one _ (by omega)]
      · omega
      · omega
      · rw [bt_r _ _ 1 rfl (by omega)]; exact lo
      · rw [bt_r _ _ 1 rfl (by omega)]; exact hi
    have B3 : Beg (oneB (240 + R / 262144) ++ oneB (128 + R / 4096 % 64) ++ oneB (128 + R / 64 % 64)) := by
      have s2 : (oneB (240 + R / 262144) ++ oneB (128 + R / 4096 % 64)).size = 2 := rfl
      refine .inr (.inr ⟨rfl, ?_, ?_, ?_, ?_, ?_, ?_⟩)
      · rw [bt_l _ _ 0 (by rw [s2]; decide), bt_l _ _ 0 (by rw [one_size]; decide), bt_one _ (by omega)]; omega
      · rw [bt_l _ _ 0 (by rw [s2]; decide), bt_l _ _ 0 (by rw [one_size]; decide), bt_one _ (by omega)]; omega
      · rw [bt_l _ _ 0 (by rw [s2]; decide), bt_l _ _ 0 (by rw [one_size]; decide), bt_one _ (by omega), bt_l _ _ 1 (by rw [s2]; decide), bt_r _ _ 1 rfl (by omega)]; exact lo
      · rw [bt_l _ _ 0 (by rw [s2]; decide), bt_l _ _ 0 (by rw [one_size]; decide), bt_one _ (by omega), bt_l _ _ 1 (by rw [s2]; decide), bt_r _ _ 1 rfl (by omega)]; exact hi
      · rw [bt_r _ _ 2 rfl (by omega)]; omega
      · rw [bt_r _ _ 2 rfl (by omega)]; omega
    rw [hp, e, eb] at hd
    rw [e, runN_cons, first_run _ (by omega) B1, runN_cons, start_run _ _ B2, runN_cons, start_run _ _ B3, runN_cons, end_run _ _ R 4 hd (by decide)]
    rfl
theorem runeP_facts (x : Prt) : (runeP x < 55296 ∨ 57344 ≤ runeP x ∧ runeP x ≤ 1114111) ∧ 32 ≤ runeP x ∧ runeP x ≠ 127 := by
  unfold runeP
  by_cases h : Lib.validRune x.2.1 = true ∧ 32 ≤ x.2.1 ∧ x.2.1 ≠ 127
  · rw [if_pos h]
    obtain ⟨h1, h2, h3⟩ := h
    have h1 : 0 ≤ x.2.1 ∧ x.2.1 < 55296 ∨ 57343 < x.2.1 ∧ x.2.1 ≤ 1114111 := of_decide_eq_true h1
    omega
  · rw [if_neg h]
    omega
/-- A part's bytes ask for just it, and lead to the beginning. -/
theorem run_part (x : Prt) : runN .zero (bytesN (prtB x)) = (.zero, [prtA x]) := by
  unfold prtB prtA
  by_cases h1 : kindP x = 1
  · rw [if_pos h1, if_pos h1]
    have hc : ctlP x ≠ 27 ∧ (ctlP x < 32 ∨ ctlP x = 127) := by
      unfold ctlP
      split <;> omega
    show runN .zero ((oneB (ctlP x)).data.toList.map UInt8.toNat) = _
    rw [nums_one _ (by omega), runN_cons]
    show ((runN (firstN (ctlP x)).1 []).1, (firstN (ctlP x)).2 ++ []) = _
    unfold firstN
    rw [if_neg hc.1, if_pos hc.2]
    rfl
  · rw [if_neg h1, if_neg h1]
    by_cases h2 : kindP x = 2
    · rw [if_pos h2, if_pos h2]
      exact run_seq x
    · rw [if_neg h2, if_neg h2]
      by_cases h3 : kindP x = 3
      · rw [if_pos h3, if_pos h3]
        have hc : escP x ≠ 91 ∧ 48 ≤ escP x ∧ escP x < 127 := by
          unfold escP
          split <;> omega
        have e : bytesN ⟨#[27, UInt8.ofNat (escP x)]⟩ = [27, escP x] := by
          show [(27 : UInt8).toNat, (UInt8.ofNat (escP x)).toNat] = _
          rw [ofNat_toNat _ (by omega)]
          rfl
        rw [e, runN_cons, runN_cons]
        show ((runN (escN (escP x)).1 []).1, ([] : List Ac) ++ ((escN (escP x)).2 ++ [])) = _
        unfold escN
        rw [if_neg (by omega), if_neg hc.1, if_pos hc.2]
        rfl
      · rw [if_neg h3, if_neg h3]
        obtain ⟨a, b, c⟩ := runeP_facts x
        exact run_rune _ a b c
theorem run_parts : ∀ l : List Prt, runN .zero ((l.map fun x => bytesN (prtB x)).flatten) = (.zero, l.map prtA)
  | [] => rfl
  | x :: l => by
    rw [List.map_cons, List.flatten_cons, runN_app, run_part x, run_parts l]
    rfl
end Go.Proofs.YtbpnnnjbddjboaaDoor
