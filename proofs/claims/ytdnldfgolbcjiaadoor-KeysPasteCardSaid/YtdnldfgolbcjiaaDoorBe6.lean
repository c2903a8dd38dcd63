/-
  Texts of this proof, one behind the other; each begins with its own remark.
-/
import Derived.Test.YtdnldfgolbcjiaaDoorBe4
import Derived.Test.YtdnldfgolbcjiaaDoorBe5
/-
  Plain facts on the places of a text: the last one is told by the last four bytes; a cut text's, a joined text's. Nothing of the program is run here.
-/
namespace Go.Proofs.YtdnldfgolbcjiaaDoor
open Go.RowKit

theorem lastL_spec (s : ByteArray) : ∀ f p a, p < s.size → s.size ≤ p + f → p ≤ lastL s f p a ∧ lastL s f p a < s.size ∧ lastL s f p a + (Utf8.decode s (lastL s f p a)).2 = s.size
  | 0, p, a, h, hf => by omega
  | f + 1, p, a, h, hf => by
    obtain ⟨h1, h2⟩ := decW s p h
    rw [lastL_step s f p a h]
    by_cases hp : p + (Utf8.decode s p).2 < s.size
    · obtain ⟨g1, g2, g3⟩ := lastL_spec s f (p + (Utf8.decode s p).2) p hp (by omega)
      exact ⟨by omega, g2, g3⟩
    · rw [lastL_end s f _ p hp]
      exact ⟨Nat.le_refl _, h, by omega⟩

theorem lastL_uniq (s : ByteArray) (q : Nat) (hq : q < s.size) (he : q + (Utf8.decode s q).2 = s.size) (hc : bt s q / 64 ≠ 2) : ∀ f p a, p ≤ q → s.size ≤ p + f → lastL s f p a = q
  | 0, p, a, h, hf => by omega
  | f + 1, p, a, h, hf => by
    have hp : p < s.size := by omega
    obtain ⟨h1, h2⟩ := decW s p hp
    rw [lastL_step s f p a hp]
    by_cases e : p = q
    · subst e
      exact lastL_end s f _ p (by omega)
    · refine lastL_uniq s q hq he hc f _ p ?_ (by omega)
      rcases Nat.lt_or_ge q (p + (Utf8.decode s p).2) with g | g
      · exact absurd (dec_cont s p q (by omega) g) hc
      · exact g

/-- The chain of places from 0 and the one from n end alike, if n is among the last four bytes' beginnings. -/
theorem last_four (s : ByteArray) (n f a : Nat) (hn : n < s.size) (h4 : s.size ≤ n + 4) (h4' : n + 4 ≤ s.size ∨ n = 0) (hf : s.size ≤ n + f) : lastL s f n a = lastA s := by
  have h0 : 0 < s.size := by omega
  obtain ⟨a1, a2, a3⟩ := lastL_spec s s.size 0 0 h0 (by omega)
  obtain ⟨b1, b2, b3⟩ := lastL_spec s f n a hn hf
  have hA : lastL s s.size 0 0 = lastA s := rfl
  rw [hA] at a1 a2 a3
  have hw1 := Lib.width_pos s (lastA s)
  have hw2 := Lib.width_pos s (lastL s f n a)
  have hle : (Utf8.decode s (lastA s)).2 ≤ 4 := by rw [dec_bt]; exact decN_le4 _ _ _ _ _
  by_cases c1 : 2 ≤ (Utf8.decode s (lastA s)).2
  · exact lastL_uniq s _ a2 a3 (by have := dec_lead s _ c1; omega) f n a (by omega) hf
  by_cases c2 : 2 ≤ (Utf8.decode s (lastL s f n a)).2
  · exact (lastL_uniq s _ b2 b3 (by have := dec_lead s _ c2; omega) s.size 0 0 (by omega) (by omega)).symm
  · omega

theorem lastL_tail (s : ByteArray) (n : Nat) : ∀ f p a, n + lastL (s.extract n s.size) f p a = lastL s f (n + p) (n + a)
  | 0, p, a => rfl
  | f + 1, p, a => by
    have hs := Lib.tail_size s n
    by_cases h : n + p < s.size
    · rw [lastL_step _ f p a (by omega), lastL_step s f (n + p) (n + a) h, lastL_tail s n f _ p, Lib.tail_decode]
      congr 1
      omega
    · rw [lastL_end _ _ p a (by omega), lastL_end s _ (n + p) (n + a) h]

theorem ex_ex (s : ByteArray) (k : Nat) : (s.extract 0 k).extract (k - 4) k = s.extract (k - 4) k := by
  apply ByteArray.ext
  apply Array.toList_inj.1
  rw [Lib.extract_data, Lib.extract_data, Lib.extract_data, List.drop_zero, Nat.sub_zero, List.drop_take]
  rw [List.take_take, Nat.min_self]

theorem okAt_tail (s : ByteArray) (n p : Nat) : okAt (s.extract n s.size) p = okAt s (n + p) := by
  unfold okAt; rw [Lib.tail_decode]

/-- THE LAST RUNE IS TOLD BY THE LAST FOUR BYTES. -/
theorem back_four (s : ByteArray) (k : Nat) (h0 : 0 < k) (h1 : k ≤ s.size) :
    Utf8.decode (s.extract (k - 4) k) (lastA (s.extract (k - 4) k)) = Utf8.decode (s.extract 0 k) (lastA (s.extract 0 k)) ∧
    okAt (s.extract (k - 4) k) (lastA (s.extract (k - 4) k)) = okAt (s.extract 0 k) (lastA (s.extract 0 k)) := by
  have hU := head_size s k h1
  have e1 := ex_ex s k
  generalize s.extract 0 k = U at hU e1
  rw [← e1]
  obtain rfl := hU
  have ht := lastL_tail U (U.size - 4) (U.extract (U.size - 4) U.size).size 0 0
  have hts := Lib.tail_size U (U.size - 4)
  rw [Nat.add_zero, hts] at ht
  rw [last_four U (U.size - 4) _ _ (by omega) (by omega) (by omega) (by omega)] at ht
  have hl : lastA (U.extract (U.size - 4) U.size) = lastL (U.extract (U.size - 4) U.size) (U.size - (U.size - 4)) 0 0 := by unfold lastA; rw [hts]
  rw [← hl] at ht
  rw [Lib.tail_decode, okAt_tail, ht]
  exact ⟨rfl, rfl⟩

/-- Where part j begins; behind the last one: the end. -/
def posN (s : ByteArray) : Nat → Nat
  | 0 => 0
  | j + 1 => if posN s j < s.size then posN s j + (Utf8.decode s (posN s j)).2 else posN s j
theorem posN_succ (s : ByteArray) (j : Nat) (h : posN s j < s.size) : posN s (j + 1) = posN s j + (Utf8.decode s (posN s j)).2 := by
  show (if posN s j < s.size then _ else _) = _
  rw [if_pos h]
theorem posN_le (s : ByteArray) : ∀ j, posN s j ≤ s.size
  | 0 => Nat.zero_le _
  | j + 1 => by
    have ih := posN_le s j
    by_cases h : posN s j < s.size
    · have := decW s _ h; rw [posN_succ s j h]; omega
    · show (if posN s j < s.size then _ else _) ≤ _; rw [if_neg h]; exact ih
theorem posN_ge (s : ByteArray) : ∀ j, posN s j < s.size → j ≤ posN s j
  | 0, _ => Nat.zero_le _
  | j + 1, h => by
    by_cases h1 : posN s j < s.size
    · have := posN_ge s j h1
      have := decW s _ h1
      rw [posN_succ s j h1]; omega
    · have e : posN s (j + 1) = posN s j := by show (if posN s j < s.size then _ else _) = _; rw [if_neg h1]
      rw [e] at h; exact absurd h h1
theorem drop_stA (s : ByteArray) : ∀ j, (stA s).drop j = stL s (s.size - j) (posN s j)
  | 0 => rfl
  | j + 1 => by
    have ih := drop_stA s j
    by_cases h : posN s j < s.size
    · have hg := posN_ge s j h
      obtain ⟨m, hm⟩ : ∃ m, s.size - j = m + 1 := ⟨s.size - j - 1, by omega⟩
      rw [hm, stL_step s m _ h] at ih
      rw [posN_succ s j h, show s.size - (j + 1) = m by omega, show (stA s).drop (j + 1) = ((stA s).drop j).drop 1 by rw [List.drop_drop], ih]
      rfl
    · have e : posN s (j + 1) = posN s j := by show (if posN s j < s.size then _ else _) = _; rw [if_neg h]
      rw [stL_end s _ _ h] at ih
      rw [e, stL_end s _ _ h]
      have : (stA s).length ≤ j := by have := congrArg List.length ih; rw [List.length_drop] at this; simp at this; omega
      exact List.drop_of_length_le (by omega)
theorem posN_lt (s : ByteArray) (j : Nat) : j < (stA s).length ↔ posN s j < s.size := by
  have h := drop_stA s j
  constructor
  · intro hj
    rcases Nat.lt_or_ge (posN s j) s.size with g | g
    · exact g
    · rw [stL_end s _ _ (by omega)] at h
      have := congrArg List.length h; rw [List.length_drop] at this; simp at this; omega
  · intro hj
    have hg := posN_ge s j hj
    obtain ⟨m, hm⟩ : ∃ m, s.size - j = m + 1 := ⟨s.size - j - 1, by omega⟩
    rw [hm, stL_step s m _ hj] at h
    have := congrArg List.length h; rw [List.length_drop] at this; simp at this; omega
theorem stA_getD (s : ByteArray) (j : Nat) (hj : j < (stA s).length) : (stA s).getD j 0 = posN s j := by
  have h := drop_stA s j
  have hp := (posN_lt s j).1 hj
  have hg := posN_ge s j hp
  obtain ⟨m, hm⟩ : ∃ m, s.size - j = m + 1 := ⟨s.size - j - 1, by omega⟩
  rw [hm, stL_step s m _ hp, List.drop_eq_getElem_cons hj] at h
  simp only [List.getD, List.getElem?_eq_getElem hj, Option.getD_some]
  exact (List.cons.inj h).1
theorem posN_len (s : ByteArray) : posN s (stA s).length = s.size := by
  have h1 := posN_le s (stA s).length
  rcases Nat.lt_or_ge (posN s (stA s).length) s.size with g | g
  · have := (posN_lt s _).2 g; omega
  · omega
theorem posN_step_le (s : ByteArray) (j : Nat) : posN s j ≤ posN s (j + 1) := by
  by_cases h : posN s j < s.size
  · rw [posN_succ s j h]; omega
  · have e : posN s (j + 1) = posN s j := by show (if posN s j < s.size then _ else _) = _; rw [if_neg h]
    omega
theorem posN_mono (s : ByteArray) (i : Nat) : ∀ d, posN s i ≤ posN s (i + d)
  | 0 => Nat.le_refl _
  | d + 1 => Nat.le_trans (posN_mono s i d) (posN_step_le s (i + d))

theorem head_last_from (s : ByteArray) (j : Nat) (hj : posN s j < s.size) : ∀ d i f a, i + d = j → posN s (j + 1) ≤ posN s i + f → lastL (s.extract 0 (posN s (j + 1))) f (posN s i) a = posN s j
  | d, i, 0, a, hd, hf => by
    have h1 := posN_mono s i d
    rw [hd] at h1
    have := posN_succ s j hj
    have := decW s _ hj
    omega
  | 0, i, f + 1, a, hd, hf => by
    have hi : i = j := hd
    subst hi
    have hle := posN_le s (i + 1)
    have e := posN_succ s i hj
    have hw := decW s _ hj
    have hs := head_size s _ hle
    have hdec := dec_head s (posN s i) (posN s (i + 1)) hle (by omega)
    rw [lastL_step _ f _ a (by rw [hs]; omega), hdec, ← e]
    exact lastL_end _ f _ _ (by rw [hs]; omega)
  | d + 1, i, f + 1, a, hd, hf => by
    have hle := posN_le s (j + 1)
    have hs := head_size s _ hle
    have m1 := posN_mono s i (d + 1)
    rw [hd] at m1
    have m2 := posN_mono s (i + 1) d
    rw [show i + 1 + d = j by omega] at m2
    have hi : posN s i < s.size := by omega
    have e := posN_succ s i hi
    have hw := decW s _ hi
    have e2 := posN_succ s j hj
    have hw2 := decW s _ hj
    have hdec := dec_head s (posN s i) (posN s (j + 1)) hle (by omega)
    rw [lastL_step _ f _ a (by rw [hs]; omega), hdec, ← e]
    exact head_last_from s j hj d (i + 1) f _ (by omega) (by omega)

/-- BACK FROM A PART's END: that part. -/
theorem head_last (s : ByteArray) (j : Nat) (hj : posN s j < s.size) : lastA (s.extract 0 (posN s (j + 1))) = posN s j ∧ Utf8.decode (s.extract 0 (posN s (j + 1))) (posN s j) = Utf8.decode s (posN s j) := by
  have hle := posN_le s (j + 1)
  have hs := head_size s _ hle
  have e := posN_succ s j hj
  constructor
  · unfold lastA
    rw [hs]
    exact head_last_from s j hj j 0 _ 0 (Nat.zero_add _) (by show _ ≤ 0 + _; omega)
  · exact dec_head s _ _ hle (by omega)
end Go.Proofs.YtdnldfgolbcjiaaDoor

/-
  Plain facts on joined texts, and on a rune's bytes read again. Nothing of the program is run here.
-/
namespace Go.Proofs.YtdnldfgolbcjiaaDoor
open Go.RowKit

theorem okAt_ne (s : ByteArray) (k : Nat) (h : okAt s k = true) : Utf8.decode s k ≠ (65533, 1) := by
  intro e
  unfold okAt at h
  rw [e] at h
  simp at h
theorem okAt_of (s t : ByteArray) (k m : Nat) (h : Utf8.decode s k = Utf8.decode t m) : okAt s k = okAt t m := by unfold okAt; rw [h]
theorem okAt_yes (s : ByteArray) (k : Nat) (h : Utf8.decode s k ≠ (65533, 1)) : okAt s k = true := by
  unfold okAt
  rw [decide_eq_false (fun e => h (Prod.ext e.1 e.2))]
  rfl

theorem stL_fuel (s : ByteArray) : ∀ f g p, s.size ≤ p + f → s.size ≤ p + g → stL s f p = stL s g p
  | 0, g, p, hf, hg => by rw [stL_end s g p (by omega), stL_end s 0 p (by omega)]
  | f + 1, 0, p, hf, hg => by rw [stL_end s 0 p (by omega), stL_end s (f + 1) p (by omega)]
  | f + 1, g + 1, p, hf, hg => by
    by_cases h : p < s.size
    · have := decW s p h
      rw [stL_step s f p h, stL_step s g p h, stL_fuel s f g _ (by omega) (by omega)]
    · rw [stL_end s _ p h, stL_end s _ p h]

theorem stL_shift (a b : ByteArray) : ∀ f i, stL (a ++ b) f (a.size + i) = (stL b f i).map (a.size + ·)
  | 0, i => rfl
  | f + 1, i => by
    have hs := app_size a b
    by_cases h : i < b.size
    · rw [stL_step _ f _ (by omega), stL_step b f i h, dec_appR, Nat.add_assoc, stL_shift a b f]
      rfl
    · rw [stL_end _ _ _ (by omega), stL_end b _ i h]; rfl

theorem stL_join (a b : ByteArray) : ∀ f p, a.size ≤ p + f → p ≤ a.size → (∀ x ∈ stL a f p, Utf8.decode (a ++ b) x = Utf8.decode a x) → stL (a ++ b) (f + b.size) p = stL a f p ++ (stA b).map (a.size + ·)
  | 0, p, hf, hp, hx => by
    obtain rfl : p = a.size := by omega
    rw [stL_end a 0 _ (by omega), Nat.zero_add]
    have := stL_shift a b b.size 0
    rw [Nat.add_zero] at this
    exact this
  | f + 1, p, hf, hp, hx => by
    have hs := app_size a b
    by_cases h : p < a.size
    · have hw := decW a p h
      have hst := stL_step a f p h
      rw [hst] at hx ⊢
      have hd := hx p (List.mem_cons_self ..)
      rw [show f + 1 + b.size = (f + b.size) + 1 by omega, stL_step _ _ p (by omega), hd, stL_join a b f _ (by omega) (by omega) (fun x h => hx x (List.mem_cons_of_mem _ h))]
      rfl
    · obtain rfl : p = a.size := by omega
      rw [stL_end a _ _ h, stL_fuel (a ++ b) (f + 1 + b.size) b.size a.size (by omega) (by omega)]
      have := stL_shift a b b.size 0
      rw [Nat.add_zero] at this
      exact this

theorem stA_join (a b : ByteArray) (hx : ∀ x ∈ stA a, Utf8.decode (a ++ b) x = Utf8.decode a x) : stA (a ++ b) = stA a ++ (stA b).map (a.size + ·) := by
  have h := stL_join a b a.size 0 (by omega) (Nat.zero_le _) hx
  rw [← app_size] at h
  exact h

theorem both_join (a b : ByteArray) (hx : ∀ x ∈ stA a, Utf8.decode (a ++ b) x = Utf8.decode a x) :
    (stA (a ++ b)).length = (stA a).length + (stA b).length ∧ allOk (a ++ b) (stA (a ++ b)) = (allOk a (stA a) && allOk b (stA b)) := by
  rw [stA_join a b hx]
  constructor
  · rw [List.length_append, List.length_map]
  · unfold allOk
    rw [List.all_append, List.all_map]
    congr 1
    · rw [Bool.eq_iff_iff, List.all_eq_true, List.all_eq_true]
      constructor
      · intro h x hm; rw [← okAt_of _ _ x x (hx x hm)]; exact h x hm
      · intro h x hm; rw [okAt_of _ _ x x (hx x hm)]; exact h x hm
    · rw [Bool.eq_iff_iff, List.all_eq_true, List.all_eq_true]
      constructor
      · intro h x hm; have := h x hm; rw [Function.comp, okAt_of _ _ _ x (dec_appR a b x)] at this; exact this
      · intro h x hm; rw [Function.comp, okAt_of _ _ _ x (dec_appR a b x)]; exact h x hm

theorem bt_none (s : ByteArray) (i : Nat) (h : s.size ≤ i) : bt s i = 0 := by
  rw [Lib.size_eq] at h
  rw [bt_data, List.getD, List.getElem?_eq_none h]; rfl

theorem valid_first (a : ByteArray) (ha : allOk a (stA a) = true) : bt a 0 / 64 ≠ 2 := by
  by_cases h0 : 0 < a.size
  · intro h
    obtain ⟨m, hm⟩ : ∃ m, a.size = m + 1 := ⟨a.size - 1, by omega⟩
    have hst : stA a = 0 :: stL a m (0 + (Utf8.decode a 0).2) := by unfold stA; rw [hm]; exact stL_step a m 0 h0
    rw [hst, allOk_cons, Bool.and_eq_true] at ha
    have := okAt_ne a 0 ha.1
    rw [dec_bt] at this
    exact this (nat0 _ _ _ _ _ (.inl (by omega)))
  · rw [bt_none a 0 (by omega)]; omega

theorem stL_lt' (s : ByteArray) : ∀ f p, ∀ x ∈ stL s f p, x < s.size
  | 0, p, x, h => by simp [stL] at h
  | f + 1, p, x, h => by
    by_cases hp : p < s.size
    · rw [stL_step s f p hp] at h
      rcases List.mem_cons.1 h with rfl | h
      · exact hp
      · exact stL_lt' s f _ x h
    · rw [stL_end s _ p hp] at h; simp at h

/-- A VALID TEXT AHEAD OF ANOTHER ONE, OR BEHIND. -/
theorem join_facts (a b : ByteArray) (ha : allOk a (stA a) = true) :
    (stA (a ++ b)).length = (stA a).length + (stA b).length ∧ (stA (b ++ a)).length = (stA a).length + (stA b).length ∧ allOk (a ++ b) (stA (a ++ b)) = allOk b (stA b) ∧ allOk (b ++ a) (stA (b ++ a)) = allOk b (stA b) := by
  have h1 := both_join a b (fun x hx => dec_appL a b x (stL_lt' a _ _ x hx) (okAt_ne a x (List.all_eq_true.1 ha x hx)))
  have h2 := both_join b a (fun x hx => dec_appStop b a x (stL_lt' b _ _ x hx) (valid_first a ha))
  refine ⟨h1.1, by rw [h2.1, Nat.add_comm], by rw [h1.2, ha]; rfl, by rw [h2.2, ha, Bool.and_true]⟩

theorem getD_map (L : List UInt8) (i : Nat) : (L.getD i 0).toNat = (L.map UInt8.toNat).getD i 0 := by
  rw [List.getD, List.getD, List.getElem?_map]
  cases L[i]? <;> rfl
theorem put_bt (R i : Nat) : bt (putB (R : Int)) i = (putN R).getD i 0 := by rw [bt_data, getD_map, putB_nums]
theorem put_size (R : Nat) : (putB (R : Int)).size = (putN R).length := by rw [← putB_nums, List.length_map, ← Lib.size_eq]

/-- A RUNE's BYTES READ AGAIN: that rune. -/
theorem dec_put (R : Nat) (h : R < 55296 ∨ 57344 ≤ R ∧ R ≤ 1114111) :
    Utf8.decode (putB (R : Int)) 0 = (R, (putB (R : Int)).size) ∧ 1 ≤ (putB (R : Int)).size ∧ (putB (R : Int)).size ≤ 4 ∧ bt (putB (R : Int)) 0 / 64 ≠ 2 ∧ (R = 65533 → (putB (R : Int)).size = 3) := by
  rw [dec_bt, put_size, put_bt, put_bt, put_bt, put_bt]
  by_cases h1 : R < 128
  · have e : putN R = [R] := by unfold putN; rw [if_pos h1]
    rw [e]
    exact ⟨nat1 _ _ _ _ _ h1, by simp, by simp, by show R / 64 ≠ 2; omega, fun _ => by omega⟩
  by_cases h2 : R < 2048
  · have e : putN R = [192 + R / 64, 128 + R % 64] := by unfold putN; rw [if_neg h1, if_pos h2]
    rw [e]
    refine ⟨?_, by simp, by simp, by show (192 + R / 64) / 64 ≠ 2; omega, fun _ => by omega⟩
    have := nat2y 2 (192 + R / 64) (128 + R % 64) 0 0 ⟨by omega, by omega⟩ (by omega) (by omega) (by omega)
    rw [show (192 + R / 64 - 192) * 64 + (128 + R % 64) % 64 = R by omega] at this
    exact this
  by_cases h3 : R < 65536
  · have e : putN R = [224 + R / 4096, 128 + R / 64 % 64, 128 + R % 64] := by
      unfold putN; rw [if_neg h1, if_neg h2]
      by_cases h4 : R < 55296
      · rw [if_pos h4]
      · rw [if_neg h4, if_neg (by omega), if_pos h3]
    rw [e]
    refine ⟨?_, by simp, by simp, by show (224 + R / 4096) / 64 ≠ 2; omega, fun _ => rfl⟩
    have := nat3y 3 (224 + R / 4096) (128 + R / 64 % 64) (128 + R % 64) 0 ⟨by omega, by omega⟩ (by omega) (by omega) (by omega) (by omega) (by omega)
    rw [show ((224 + R / 4096 - 224) * 64 + (128 + R / 64 % 64) % 64) * 64 + (128 + R % 64) % 64 = R by omega] at this
    exact this
  · have e : putN R = [240 + R / 262144, 128 + R / 4096 % 64, 128 + R / 64 % 64, 128 + R % 64] := by
      unfold putN; rw [if_neg h1, if_neg h2, if_neg (by omega), if_neg (by omega), if_neg h3, if_pos (by omega)]
    rw [e]
    refine ⟨?_, by simp, by simp, by show (240 + R / 262144) / 64 ≠ 2; omega, fun _ => by omega⟩
    have := nat4y 4 (240 + R / 262144) (128 + R / 4096 % 64) (128 + R / 64 % 64) (128 + R % 64) ⟨by omega, by omega⟩ (by omega) (by omega) (by omega) (by omega) (by omega) (by omega)
    rw [show (((240 + R / 262144 - 240) * 64 + (128 + R / 4096 % 64) % 64) * 64 + (128 + R / 64 % 64) % 64) * 64 + (128 + R % 64) % 64 = R by omega] at this
    exact this

theorem head_app (a b : ByteArray) : (a ++ b).extract 0 a.size = a := by
  apply ByteArray.ext
  apply Array.toList_inj.1
  rw [Lib.extract_data, app_data, List.drop_zero, Nat.sub_zero, Lib.size_eq, List.take_left']
  rfl

/-- A RUNE IS READ AS IT WAS PUT, WHATEVER STANDS AROUND IT: from its front, and from its end. -/
theorem put_stands (a z : ByteArray) (R : Nat) (h : R < 55296 ∨ 57344 ≤ R ∧ R ≤ 1114111) (P : ByteArray) (hP : putB (R : Int) = P) :
    Utf8.decode (a ++ P ++ z) a.size = (R, P.size) ∧ okAt (a ++ P ++ z) a.size = true ∧ lastA (a ++ P) = a.size ∧ Utf8.decode (a ++ P) a.size = (R, P.size) ∧ okAt (a ++ P) a.size = true := by
  obtain ⟨d1, d2, d3, d4, d5⟩ := dec_put R h
  rw [hP] at d1 d2 d3 d4 d5
  have e1 : Utf8.decode (a ++ P) a.size = (R, P.size) := by
    have := dec_appR a P 0
    rw [Nat.add_zero] at this
    rw [this, d1]
  have hne : Utf8.decode (a ++ P) a.size ≠ (65533, 1) := by
    rw [e1]
    intro e
    have e2 := congrArg Prod.fst e
    have e3 := congrArg Prod.snd e
    have := d5 e2
    simp only at e3
    omega
  have hs := app_size a P
  have e4 : Utf8.decode (a ++ P ++ z) a.size = (R, P.size) := by rw [dec_appL _ z a.size (by omega) hne, e1]
  have hb : bt (a ++ P) a.size / 64 ≠ 2 := by
    have := bt_appR a P 0
    rw [Nat.add_zero] at this
    rw [this]; exact d4
  refine ⟨e4, okAt_yes _ _ (by rw [e4, ← e1]; exact hne), ?_, e1, okAt_yes _ _ hne⟩
  exact lastL_uniq (a ++ P) a.size (by omega) (by rw [e1]; show a.size + P.size = _; omega) hb _ 0 0 (Nat.zero_le _) (by omega)
end Go.Proofs.YtdnldfgolbcjiaaDoor
