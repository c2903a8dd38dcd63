/-
  Plain facts on lines of a text: where the line of a place begins and ends, how many line feeds lie ahead, where a line begins, a place by line and column; how these lead back to each other. Nothing of the program.
-/
import Derived.Test.YtdkoonnimfildaaPcs
namespace Go.Proofs.Ytdkoonnimfildaa

/-- Byte i is a line feed. -/
def nlAt (b : List UInt8) (i : Nat) : Prop := b[i]? = some 10
instance (b : List UInt8) (i : Nat) : Decidable (nlAt b i) := by unfold nlAt; infer_instance
theorem nlAt_lt {b : List UInt8} {i : Nat} (h : nlAt b i) : i < b.length := (List.getElem?_eq_some_iff.1 h).1

/-- Where the line of a place begins. -/
def startF (b : List UInt8) : Nat → Nat
  | 0 => 0
  | a + 1 => if nlAt b a then a + 1 else startF b a
/-- Where it ends: at most f bytes on. -/
def endF (b : List UInt8) : Nat → Nat → Nat
  | 0, a => a
  | f + 1, a => if a < b.length ∧ ¬ nlAt b a then endF b f (a + 1) else a
def endN (b : List UInt8) (a : Nat) : Nat := endF b (b.length - a) a
/-- How many line feeds are ahead of a place. -/
def lineN (b : List UInt8) (a : Nat) : Nat := (b.take a).count 10
/-- Where a line begins: what is to be gone through from i on, l line feeds to come. -/
def firstF (b : List UInt8) : Nat → Nat → Nat → Nat → Nat
  | 0, _, p, _ => p
  | f + 1, i, p, l => if i < b.length ∧ 0 < l then (if nlAt b i then firstF b f (i + 1) (i + 1) (l - 1) else firstF b f (i + 1) p l) else p
def firstN (b : List UInt8) (l : Nat) : Nat := firstF b b.length 0 0 l
/-- A place by line and column. -/
def atN (b : List UInt8) (l c : Nat) : Nat := min (endN b (firstN b l)) (firstN b l + c)

theorem startF_le (b : List UInt8) : ∀ a, startF b a ≤ a
  | 0 => Nat.le_refl _
  | a + 1 => by
    have := startF_le b a
    unfold startF
    split <;> omega
theorem startF_none (b : List UInt8) (i : Nat) : ∀ a, i ≤ a → (∀ k, i ≤ k → k < a → ¬ nlAt b k) → startF b a = startF b i
  | 0, h, _ => by rw [show i = 0 by omega]
  | a + 1, h, hn => by
    by_cases e : i = a + 1
    · rw [e]
    · rw [startF, if_neg (hn a (by omega) (by omega)), startF_none b i a (by omega) fun k h1 h2 => hn k h1 (by omega)]
/-- Between where a line begins and a place of it there is no line feed. -/
theorem startF_gap (b : List UInt8) : ∀ a k, startF b a ≤ k → k < a → ¬ nlAt b k
  | 0, k, _, h => by omega
  | a + 1, k, h1, h2 => by
    unfold startF at h1
    by_cases hn : nlAt b a
    · rw [if_pos hn] at h1; omega
    · rw [if_neg hn] at h1
      by_cases e : k = a
      · rw [e]; exact hn
      · exact startF_gap b a k h1 (by omega)
theorem startF_start (b : List UInt8) (a : Nat) : startF b (startF b a) = startF b a :=
  (startF_none b _ a (startF_le b a) fun k h1 h2 => startF_gap b a k h1 h2).symm
/-- Where a line begins there is nothing ahead, or a line feed. -/
theorem startF_prev (b : List UInt8) : ∀ a, startF b a = 0 ∨ nlAt b (startF b a - 1)
  | 0 => .inl rfl
  | a + 1 => by
    unfold startF
    by_cases hn : nlAt b a
    · rw [if_pos hn]; exact .inr hn
    · rw [if_neg hn]; exact startF_prev b a

theorem endF_ge (b : List UInt8) : ∀ f a, a ≤ endF b f a
  | 0, a => Nat.le_refl _
  | f + 1, a => by
    have := endF_ge b f (a + 1)
    unfold endF
    split <;> omega
theorem endF_le (b : List UInt8) : ∀ f a, a ≤ b.length → endF b f a ≤ b.length
  | 0, a, h => h
  | f + 1, a, h => by
    unfold endF
    by_cases hc : a < b.length ∧ ¬ nlAt b a
    · rw [if_pos hc]; exact endF_le b f (a + 1) hc.1
    · rw [if_neg hc]; exact h
theorem endF_gap (b : List UInt8) : ∀ f a k, a ≤ k → k < endF b f a → ¬ nlAt b k
  | 0, a, k, h1, h2 => by unfold endF at h2; omega
  | f + 1, a, k, h1, h2 => by
    unfold endF at h2
    by_cases hc : a < b.length ∧ ¬ nlAt b a
    · rw [if_pos hc] at h2
      by_cases e : k = a
      · rw [e]; exact hc.2
      · exact endF_gap b f (a + 1) k (by omega) h2
    · rw [if_neg hc] at h2; omega
theorem endF_stop (b : List UInt8) : ∀ f a, b.length ≤ a + f → a ≤ b.length → endF b f a = b.length ∨ nlAt b (endF b f a)
  | 0, a, h, h2 => .inl (by unfold endF; omega)
  | f + 1, a, h, h2 => by
    unfold endF
    by_cases hc : a < b.length ∧ ¬ nlAt b a
    · rw [if_pos hc]; exact endF_stop b f (a + 1) (by omega) (by omega)
    · rw [if_neg hc]
      by_cases hl : a < b.length
      · by_cases hn : nlAt b a
        · exact .inr hn
        · exact absurd ⟨hl, hn⟩ hc
      · exact .inl (by omega)
theorem endN_ge (b : List UInt8) (a : Nat) : a ≤ endN b a := endF_ge b _ a
theorem endN_le (b : List UInt8) (a : Nat) (h : a ≤ b.length) : endN b a ≤ b.length := endF_le b _ a h
theorem endN_gap (b : List UInt8) (a k : Nat) (h1 : a ≤ k) (h2 : k < endN b a) : ¬ nlAt b k := endF_gap b _ a k h1 h2
theorem endN_stop (b : List UInt8) (a : Nat) (h : a ≤ b.length) : endN b a = b.length ∨ nlAt b (endN b a) := endF_stop b _ a (by omega) h
/-- What ends a line is told by this alone. -/
theorem endN_uniq (b : List UInt8) (a e : Nat) (h1 : a ≤ e) (h2 : e ≤ b.length) (hg : ∀ k, a ≤ k → k < e → ¬ nlAt b k) (hs : e = b.length ∨ nlAt b e) : endN b a = e := by
  have g1 := endN_ge b a
  have g2 := endN_le b a (by omega)
  rcases Nat.lt_trichotomy (endN b a) e with h | h | h
  · rcases endN_stop b a (by omega) with g | g
    · omega
    · exact absurd g (hg _ g1 h)
  · exact h
  · rcases hs with g | g
    · omega
    · exact absurd g (endN_gap b a e h1 h)
theorem endN_start (b : List UInt8) (a : Nat) (h : a ≤ b.length) : endN b (startF b a) = endN b a := by
  refine endN_uniq b _ _ (Nat.le_trans (startF_le b a) (endN_ge b a)) (endN_le b a h) (fun k h1 h2 => ?_) (endN_stop b a h)
  by_cases e : k < a
  · exact startF_gap b a k h1 e
  · exact endN_gap b a k (by omega) h2
theorem start_endN (b : List UInt8) (a : Nat) : startF b (endN b a) = startF b a :=
  startF_none b a _ (endN_ge b a) fun k h1 h2 => endN_gap b a k h1 h2

theorem count_one (u : UInt8) : [u].count 10 = if u = 10 then 1 else 0 := by
  rw [List.count_singleton]
  by_cases h : u = 10
  · subst h; rfl
  · rw [if_neg h, if_neg]; simpa using h
theorem lineN_step (b : List UInt8) (a : Nat) (h : a < b.length) : lineN b (a + 1) = lineN b a + if nlAt b a then 1 else 0 := by
  have e0 : lineN b (a + 1) = lineN b a + [b[a]].count 10 := by
    unfold lineN
    rw [List.take_add_one, List.getElem?_eq_getElem h, List.count_append]
    rfl
  rw [e0, count_one]
  by_cases e : b[a] = 10
  · rw [if_pos e, if_pos (show nlAt b a by unfold nlAt; rw [List.getElem?_eq_getElem h, e])]
  · rw [if_neg e, if_neg (show ¬ nlAt b a by unfold nlAt; rw [List.getElem?_eq_getElem h]; exact fun h => e (Option.some.inj h))]
theorem lineN_mono (b : List UInt8) (i : Nat) : ∀ a, i ≤ a → lineN b i ≤ lineN b a
  | 0, h => by rw [show i = 0 by omega]; exact Nat.le_refl _
  | a + 1, h => by
    by_cases e : i = a + 1
    · rw [e]; exact Nat.le_refl _
    · have h1 := lineN_mono b i a (by omega)
      by_cases hl : a < b.length
      · have := lineN_step b a hl
        split at this <;> omega
      · have : lineN b (a + 1) = lineN b a := by unfold lineN; rw [List.take_of_length_le (by omega), List.take_of_length_le (by omega)]
        omega
/-- As many line feeds ahead: none between. -/
theorem lineN_same (b : List UInt8) (i a : Nat) (he : lineN b i = lineN b a) : ∀ k, i ≤ k → k < a → ¬ nlAt b k := by
  intro k h1 h2 hn
  have hk := lineN_step b k (nlAt_lt hn)
  rw [if_pos hn] at hk
  have m1 := lineN_mono b i k h1
  have m2 := lineN_mono b (k + 1) a (by omega)
  omega

theorem firstF_of (b : List UInt8) (a : Nat) (ha : a ≤ b.length) : ∀ f i, b.length ≤ i + f → i ≤ a → firstF b f i (startF b i) (lineN b a - lineN b i) = startF b a
  | 0, i, hf, hi => by rw [show i = a by omega]; rfl
  | f + 1, i, hf, hi => by
    have hm := lineN_mono b i a hi
    unfold firstF
    by_cases hc : i < b.length ∧ 0 < lineN b a - lineN b i
    · rw [if_pos hc]
      have hia : i < a := by
        rcases Nat.lt_or_ge i a with h | h
        · exact h
        · rw [show i = a by omega] at hc; omega
      have hs := lineN_step b i hc.1
      by_cases hn : nlAt b i
      · rw [if_pos hn] at hs ⊢
        have := firstF_of b a ha f (i + 1) (by omega) (by omega)
        rw [startF, if_pos hn, hs] at this
        rw [show lineN b a - lineN b i - 1 = lineN b a - (lineN b i + 1) by omega]
        exact this
      · rw [if_neg hn] at hs ⊢
        have := firstF_of b a ha f (i + 1) (by omega) (by omega)
        rw [startF, if_neg hn, hs] at this
        exact this
    · rw [if_neg hc]
      rcases Nat.lt_or_ge i b.length with h | h
      · have e : lineN b i = lineN b a := by
          have : ¬ 0 < lineN b a - lineN b i := fun h' => hc ⟨h, h'⟩
          omega
        exact (startF_none b i a hi (lineN_same b i a e)).symm
      · rw [show i = a by omega]
theorem first_line (b : List UInt8) (a : Nat) (ha : a ≤ b.length) : firstN b (lineN b a) = startF b a := by
  have := firstF_of b a ha b.length 0 (by omega) (Nat.zero_le _)
  rwa [show lineN b 0 = 0 from rfl, Nat.sub_zero] at this
theorem at_back (b : List UInt8) (a : Nat) (ha : a ≤ b.length) : atN b (lineN b a) (a - startF b a) = a := by
  have h1 := startF_le b a
  have h2 := endN_ge b a
  unfold atN
  rw [first_line b a ha, endN_start b a ha]
  omega
theorem firstF_le (b : List UInt8) : ∀ f i p l, p ≤ i → i ≤ b.length → firstF b f i p l ≤ b.length
  | 0, i, p, l, h1, h2 => by unfold firstF; omega
  | f + 1, i, p, l, h1, h2 => by
    unfold firstF
    by_cases hc : i < b.length ∧ 0 < l
    · rw [if_pos hc]
      split
      · exact firstF_le b f (i + 1) (i + 1) (l - 1) (Nat.le_refl _) (by omega)
      · exact firstF_le b f (i + 1) p l (by omega) (by omega)
    · rw [if_neg hc]; omega
theorem firstN_le (b : List UInt8) (l : Nat) : firstN b l ≤ b.length := firstF_le b _ 0 0 l (Nat.le_refl _) (Nat.zero_le _)
end Go.Proofs.Ytdkoonnimfildaa
