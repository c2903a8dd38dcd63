/-
  nfas, plain: which states are reached without a byte; the states behind a byte; the rule that ends there; the longest beginning. No call is walked here.
-/
import Derived.Test.YtkopbngnhgdfhaaDoorBe4
namespace Go.Proofs.YtkopbngnhgdfhaaDoor

/-! ### Marks -/
def markF : Nat → List Sta → List Bool → Nat → List Bool
  | 0, _, seen, _ => seen
  | f + 1, q, seen, a =>
    if seen.getD a true = true then seen else
    match q[a]? with
    | none => seen
    | some s => if s.kind = 1 then markF f q (markF f q (seen.set a true) s.next) s.also else seen.set a true
/-- How many are not marked. -/
def openB : List Bool → Nat
  | [] => 0
  | b :: l => (if b = true then 0 else 1) + openB l
theorem open_le : ∀ (l : List Bool), openB l ≤ l.length
  | [] => Nat.le_refl _
  | b :: l => by
    have := open_le l
    rw [openB, List.length_cons]
    split <;> omega
theorem open_set : ∀ (l : List Bool) (a : Nat), l.getD a true = false → openB (l.set a true) + 1 = openB l
  | [], a, h => by simp at h
  | b :: l, 0, h => by
    have : b = false := by simpa using h
    subst this
    rw [List.set_cons_zero, openB, openB]
    simp; omega
  | b :: l, a + 1, h => by
    have := open_set l a (by simpa using h)
    rw [List.set_cons_succ, openB, openB]
    omega
theorem open_zero : ∀ (l : List Bool) (a : Nat), openB l = 0 → l.getD a true = true
  | [], a, _ => by simp
  | b :: l, 0, h => by
    rw [openB] at h
    cases b with
    | true => rfl
    | false => simp at h
  | b :: l, a + 1, h => by
    rw [openB] at h
    have := open_zero l a (by omega)
    simpa using this
/-- Without a byte, from one state to another one. -/
inductive Eps (q : List Sta) : Nat → Nat → Prop
  | refl (a : Nat) : Eps q a a
  | next {a b : Nat} {s : Sta} (h : q[a]? = some s) (hk : s.kind = 1) (g : Eps q s.next b) : Eps q a b
  | also {a b : Nat} {s : Sta} (h : q[a]? = some s) (hk : s.kind = 1) (g : Eps q s.also b) : Eps q a b
def ClosedB (q : List Sta) (seen : List Bool) (i : Nat) : Prop := ∀ s, q[i]? = some s → s.kind = 1 → seen.getD s.next false = true ∧ seen.getD s.also false = true
structure Marked (q : List Sta) (seen out : List Bool) (a : Nat) : Prop where
  len : out.length = seen.length
  mono : ∀ i, seen.getD i false = true → out.getD i false = true
  at_ : out.getD a false = true
  cnt : openB out ≤ openB seen
  sound : ∀ i, out.getD i false = true → seen.getD i false = true ∨ Eps q a i
  closed : ∀ i, out.getD i false = true → seen.getD i false = true ∨ ClosedB q out i
theorem getD_flip {l : List Bool} {a : Nat} (h : a < l.length) (d e : Bool) : l.getD a d = l.getD a e := by
  simp [List.getD, List.getElem?_eq_getElem h]
theorem getD_set {l : List Bool} {a i : Nat} (h : a < l.length) : (l.set a true).getD i false = if i = a then true else l.getD i false := by
  simp only [List.getD_eq_getElem?_getD, List.getElem?_set]
  by_cases e : a = i
  · subst e; simp [h]
  · rw [if_neg e, if_neg (fun x => e x.symm)]
theorem mark_ok (q : List Sta) (hq : ∀ (i : Nat) (s : Sta), q[i]? = some s → StOk q.length s) : ∀ (f : Nat) (seen : List Bool) (a : Nat), seen.length = q.length → a < q.length → openB seen ≤ f → Marked q seen (markF f q seen a) a
  | 0, seen, a, hl, ha, hf => by
    have h1 : seen.getD a false = true := by
      rw [getD_flip (by omega) false true]
      exact open_zero _ _ (by omega)
    exact ⟨rfl, fun _ h => h, h1, Nat.le_refl _, fun _ h => .inl h, fun _ h => .inl h⟩
  | f + 1, seen, a, hl, ha, hf => by
    rw [markF]
    by_cases h0 : seen.getD a true = true
    · rw [if_pos h0]
      exact ⟨rfl, fun _ h => h, by rw [getD_flip (by omega) false true]; exact h0, Nat.le_refl _, fun _ h => .inl h, fun _ h => .inl h⟩
    rw [if_neg h0]
    have h0' : seen.getD a true = false := by simpa using h0
    have hc := open_set seen a h0'
    rw [List.getElem?_eq_getElem ha]
    obtain ⟨s, hs⟩ : ∃ s, q[a] = s := ⟨_, rfl⟩
    have hsa : q[a]? = some s := by rw [List.getElem?_eq_getElem ha, hs]
    simp only [hs]
    by_cases hk : s.kind = 1
    · rw [if_pos hk]
      obtain ⟨o1, o2, _⟩ := hq a s hsa
      obtain ⟨l1, m1, a1, c1, s1, d1⟩ := mark_ok q hq f (seen.set a true) s.next (by rw [List.length_set]; exact hl) o1 (by omega)
      obtain ⟨l2, m2, a2, c2, s2, d2⟩ := mark_ok q hq f (markF f q (seen.set a true) s.next) s.also (by rw [l1, List.length_set]; exact hl) o2 (by omega)
      refine ⟨by rw [l2, l1, List.length_set], fun i h => ?_, ?_, by omega, fun i h => ?_, fun i h => ?_⟩
      · refine m2 i (m1 i ?_)
        rw [getD_set (by omega)]
        split
        · rfl
        · exact h
      · refine m2 a (m1 a ?_)
        rw [getD_set (by omega), if_pos rfl]
      · rcases s2 i h with h | h
        · rcases s1 i h with h | h
          · rw [getD_set (by omega)] at h
            split at h
            · rename_i e; rw [e]; exact .inr (.refl _)
            · exact .inl h
          · exact .inr (.next hsa hk h)
        · exact .inr (.also hsa hk h)
      · rcases d2 i h with h | h
        · rcases d1 i h with h | h
          · rw [getD_set (by omega)] at h
            split at h
            · rename_i e
              right
              intro t ht _
              rw [e, hsa] at ht
              cases ht
              exact ⟨m2 _ a1, a2⟩
            · exact .inl h
          · right
            intro t ht hkt
            obtain ⟨x, y⟩ := h t ht hkt
            exact ⟨m2 _ x, m2 _ y⟩
        · exact .inr h
    · rw [if_neg hk]
      refine ⟨by rw [List.length_set], fun i h => ?_, ?_, by omega, fun i h => ?_, fun i h => ?_⟩
      · rw [getD_set (by omega)]
        split
        · rfl
        · exact h
      · rw [getD_set (by omega), if_pos rfl]
      · rw [getD_set (by omega)] at h
        split at h
        · rename_i e; rw [e]; exact .inr (.refl _)
        · exact .inl h
      · rw [getD_set (by omega)] at h
        split at h
        · rename_i e
          right
          intro t ht hkt
          rw [e, hsa] at ht
          cases ht
          exact absurd hkt hk
        · exact .inl h
/-- All of some marked, one behind the other. -/
def marksP (q : List Sta) : List Int → List Bool → List Bool
  | [], seen => seen
  | a :: l, seen => marksP q l (markF q.length q seen a.toNat)
theorem marks_snoc (q : List Sta) : ∀ (l : List Int) (a : Int) (seen : List Bool), marksP q (l ++ [a]) seen = markF q.length q (marksP q l seen) a.toNat
  | [], a, seen => rfl
  | b :: l, a, seen => by rw [List.cons_append, marksP, marksP, marks_snoc q l a]
def InQ (q : List Sta) (l : List Int) : Prop := ∀ a, a ∈ l → 0 ≤ a ∧ a < q.length
theorem marks_ok (q : List Sta) (hq : ∀ (i : Nat) (s : Sta), q[i]? = some s → StOk q.length s) : ∀ (l : List Int) (seen : List Bool), InQ q l → seen.length = q.length →
    (marksP q l seen).length = q.length ∧ (∀ i, seen.getD i false = true → (marksP q l seen).getD i false = true) ∧ (∀ a, a ∈ l → (marksP q l seen).getD a.toNat false = true) ∧
    (∀ i, (marksP q l seen).getD i false = true → seen.getD i false = true ∨ ∃ a, a ∈ l ∧ Eps q a.toNat i) ∧ (∀ i, (marksP q l seen).getD i false = true → seen.getD i false = true ∨ ClosedB q (marksP q l seen) i)
  | [], seen, _, hl => ⟨hl, fun _ h => h, (fun a h => by cases h), fun _ h => .inl h, fun _ h => .inl h⟩
  | a :: l, seen, hi, hl => by
    have ha := hi a (by simp)
    obtain ⟨l1, m1, a1, c1, s1, d1⟩ := mark_ok q hq q.length seen a.toNat hl (by omega) (by have := open_le seen; omega)
    obtain ⟨l2, m2, a2, s2, d2⟩ := marks_ok q hq l (markF q.length q seen a.toNat) (fun x hx => hi x (by simp [hx])) (by rw [l1]; exact hl)
    rw [marksP]
    refine ⟨l2, fun i h => m2 i (m1 i h), fun x hx => ?_, fun i h => ?_, fun i h => ?_⟩
    · rcases List.mem_cons.1 hx with rfl | hx
      · exact m2 _ a1
      · exact a2 x hx
    · rcases s2 i h with h | ⟨x, hx, h⟩
      · rcases s1 i h with h | h
        · exact .inl h
        · exact .inr ⟨a, by simp, h⟩
      · exact .inr ⟨x, by simp [hx], h⟩
    · rcases d2 i h with h | h
      · rcases d1 i h with h | h
        · exact .inl h
        · right
          intro t ht hk
          obtain ⟨x, y⟩ := h t ht hk
          exact ⟨m2 _ x, m2 _ y⟩
      · exact .inr h
/-- Those marked that are no forks, rising. -/
def keepP (q : List Sta) (seen : List Bool) : Nat → List Int
  | 0 => []
  | i + 1 => if seen.getD i false = true ∧ (q[i]?.map (·.kind)) ≠ some 1 then keepP q seen i ++ [(i : Int)] else keepP q seen i
def noneB : Nat → List Bool
  | 0 => []
  | n + 1 => false :: noneB n
theorem noneB_len : ∀ n, (noneB n).length = n
  | 0 => rfl
  | n + 1 => by rw [noneB, List.length_cons, noneB_len n]
theorem noneB_get : ∀ n i, (noneB n).getD i false = false
  | 0, i => by simp [noneB]
  | n + 1, 0 => rfl
  | n + 1, i + 1 => by
    have := noneB_get n i
    simpa [noneB] using this
def reachP (q : List Sta) (l : List Int) : List Int := keepP q (marksP q l (noneB q.length)) q.length
theorem keep_mem (q : List Sta) (seen : List Bool) : ∀ (n : Nat) (x : Int), x ∈ keepP q seen n ↔ ∃ i : Nat, x = i ∧ i < n ∧ seen.getD i false = true ∧ (q[i]?.map (·.kind)) ≠ some 1
  | 0, x => ⟨(fun h => by cases h), fun ⟨_, _, h, _⟩ => absurd h (by omega)⟩
  | n + 1, x => by
    rw [keepP]
    split
    · rename_i h
      rw [List.mem_append, keep_mem q seen n x, List.mem_singleton]
      constructor
      · rintro (⟨i, a, b, c⟩ | e)
        · exact ⟨i, a, by omega, c⟩
        · exact ⟨n, e, by omega, h⟩
      · rintro ⟨i, a, b, c⟩
        by_cases e : i = n
        · right; rw [a, e]
        · left; exact ⟨i, a, by omega, c⟩
    · rename_i h
      rw [keep_mem q seen n x]
      constructor
      · rintro ⟨i, a, b, c⟩; exact ⟨i, a, by omega, c⟩
      · rintro ⟨i, a, b, c⟩
        by_cases e : i = n
        · subst e; exact absurd c h
        · exact ⟨i, a, by omega, c⟩
def AccP (q : List Sta) (l : List Int) (w : List Nat) (r : Nat) : Prop := ∃ a, a ∈ l ∧ 0 ≤ a ∧ ∃ k, Goes q a.toNat w r k
def NoFork (q : List Sta) (l : List Int) : Prop := ∀ a s, a ∈ l → q[a.toNat]? = some s → s.kind ≠ 1
theorem eps_goes {q : List Sta} {a b : Nat} (h : Eps q a b) : ∀ {w r k}, Goes q b w r k → ∃ k', Goes q a w r k' := by
  induction h with
  | refl a => intro w r k g; exact ⟨k, g⟩
  | next h hk _ ih => intro w r k g; obtain ⟨k', g'⟩ := ih g; exact ⟨_, .next h hk g'⟩
  | also h hk _ ih => intro w r k g; obtain ⟨k', g'⟩ := ih g; exact ⟨_, .also h hk g'⟩
theorem reach_ok (q : List Sta) (hq : ∀ (i : Nat) (s : Sta), q[i]? = some s → StOk q.length s) (l : List Int) (hl : InQ q l) : InQ q (reachP q l) ∧ NoFork q (reachP q l) ∧ ∀ w r, AccP q (reachP q l) w r ↔ AccP q l w r := by
  obtain ⟨l1, _, a1, s1, d1⟩ := marks_ok q hq l (noneB q.length) hl (noneB_len _)
  unfold reachP
  generalize marksP q l (noneB q.length) = seen at l1 a1 s1 d1
  have s1' : ∀ i, seen.getD i false = true → ∃ a, a ∈ l ∧ Eps q a.toNat i := fun i h => by
    rcases s1 i h with h | h
    · rw [noneB_get] at h; cases h
    · exact h
  have d1' : ∀ i, seen.getD i false = true → ClosedB q seen i := fun i h => by
    rcases d1 i h with h | h
    · rw [noneB_get] at h; cases h
    · exact h
  refine ⟨fun a ha => ?_, fun a s ha hs hk => ?_, fun w r => Iff.intro ?_ ?_⟩
  · obtain ⟨i, rfl, hi, _⟩ := (keep_mem q seen _ a).1 ha
    omega
  · obtain ⟨i, rfl, hi, _, hn⟩ := (keep_mem q seen _ a).1 ha
    rw [Int.toNat_natCast] at hs
    exact hn (by rw [hs, Option.map_some, hk])
  · rintro ⟨a, ha, h0, k, g⟩
    obtain ⟨i, rfl, hi, hs, hn⟩ := (keep_mem q seen _ a).1 ha
    rw [Int.toNat_natCast] at g
    obtain ⟨b, hb, he⟩ := s1' i hs
    obtain ⟨k', g'⟩ := eps_goes he g
    exact ⟨b, hb, (hl b hb).1, k', g'⟩
  · rintro ⟨a, ha, h0, k, g⟩
    have key : ∀ (k i : Nat) (w : List Nat) (r : Nat), seen.getD i false = true → i < q.length → Goes q i w r k → ∃ j : Nat, j < q.length ∧ seen.getD j false = true ∧ (q[j]?.map (·.kind)) ≠ some 1 ∧ ∃ k', Goes q j w r k' := by
      intro k
      induction k with
      | zero =>
        intro i w r hs hi g
        cases g with
        | fin h2 hk => exact ⟨i, hi, hs, by rw [h2, Option.map_some, hk]; simp, _, .fin h2 hk⟩
      | succ k ih =>
        intro i w r hs hi g
        cases g with
        | take h2 hk hb g => exact ⟨i, hi, hs, by rw [h2, Option.map_some, hk]; simp, _, .take h2 hk hb g⟩
        | next h2 hk g => exact ih _ _ _ (d1' i hs _ h2 hk).1 (hq _ _ h2).1 g
        | also h2 hk g => exact ih _ _ _ (d1' i hs _ h2 hk).2 (hq _ _ h2).2.1 g
    have hr := hl a ha
    obtain ⟨j, hj, hsj, hnj, k', g'⟩ := key k a.toNat w r (a1 a ha) (by omega) g
    exact ⟨(j : Int), (keep_mem q seen _ _).2 ⟨j, rfl, hj, hsj, hnj⟩, by omega, k', by rw [Int.toNat_natCast]; exact g'⟩

/-! ### Steps -/
def lookS (q : List Sta) (a : Int) : Option Sta := if 0 ≤ a then q[a.toNat]? else none
def nextsP (q : List Sta) (b : Nat) : List Int → List Int
  | [] => []
  | a :: l => match lookS q a with
    | none => nextsP q b l
    | some s => if s.kind = 0 ∧ hasR s.set b = true then (s.next : Int) :: nextsP q b l else nextsP q b l
theorem nexts_app (q : List Sta) (b : Nat) : ∀ (l m : List Int), nextsP q b (l ++ m) = nextsP q b l ++ nextsP q b m
  | [], m => rfl
  | a :: l, m => by
    rw [List.cons_append, nextsP, nextsP, nexts_app q b l m]
    split
    · rfl
    · split <;> rfl
theorem nexts_mem (q : List Sta) (b : Nat) : ∀ (l : List Int) (x : Int), x ∈ nextsP q b l ↔ ∃ a s, a ∈ l ∧ lookS q a = some s ∧ s.kind = 0 ∧ hasR s.set b = true ∧ x = s.next
  | [], x => ⟨(fun h => by cases h), fun ⟨_, _, h, _⟩ => by cases h⟩
  | a :: l, x => by
    rw [nextsP]
    have ih := nexts_mem q b l x
    split
    · rename_i h
      rw [ih]
      constructor
      · rintro ⟨c, s, hc, h2⟩; exact ⟨c, s, by simp [hc], h2⟩
      · rintro ⟨c, s, hc, h2, h3⟩
        rcases List.mem_cons.1 hc with rfl | hc
        · rw [h] at h2; cases h2
        · exact ⟨c, s, hc, h2, h3⟩
    · rename_i t h
      split
      · rename_i hk
        rw [List.mem_cons, ih]
        constructor
        · rintro (e | ⟨c, s, hc, h2⟩)
          · exact ⟨a, t, by simp, h, hk.1, hk.2, e⟩
          · exact ⟨c, s, by simp [hc], h2⟩
        · rintro ⟨c, s, hc, h2, h3⟩
          rcases List.mem_cons.1 hc with rfl | hc
          · rw [h] at h2; cases h2; exact .inl h3.2.2
          · exact .inr ⟨c, s, hc, h2, h3⟩
      · rename_i hk
        rw [ih]
        constructor
        · rintro ⟨c, s, hc, h2⟩; exact ⟨c, s, by simp [hc], h2⟩
        · rintro ⟨c, s, hc, h2, h3⟩
          rcases List.mem_cons.1 hc with rfl | hc
          · rw [h] at h2; cases h2; exact absurd ⟨h3.1, h3.2.1⟩ hk
          · exact ⟨c, s, hc, h2, h3⟩
def stepP (q : List Sta) (b : Nat) (l : List Int) : List Int := if nextsP q b l = [] then [] else reachP q (nextsP q b l)
theorem nexts_in (q : List Sta) (hq : ∀ (i : Nat) (s : Sta), q[i]? = some s → StOk q.length s) (b : Nat) (l : List Int) : InQ q (nextsP q b l) := by
  intro x hx
  obtain ⟨a, s, _, h, _, _, rfl⟩ := (nexts_mem q b l x).1 hx
  unfold lookS at h
  split at h
  · have := (hq _ _ h).1; omega
  · cases h
theorem nexts_acc (q : List Sta) (b : Nat) (l : List Int) (hn : NoFork q l) (w : List Nat) (r : Nat) : AccP q (nextsP q b l) w r ↔ AccP q l (b :: w) r := by
  constructor
  · rintro ⟨x, hx, h0, k, g⟩
    obtain ⟨a, s, ha, h, hk, hb, rfl⟩ := (nexts_mem q b l x).1 hx
    unfold lookS at h
    split at h
    · rename_i ha0
      rw [Int.toNat_natCast] at g
      exact ⟨a, ha, ha0, _, .take h hk hb g⟩
    · cases h
  · rintro ⟨a, ha, h0, k, g⟩
    cases g with
    | take h hk hb g => exact ⟨_, (nexts_mem q b l _).2 ⟨a, _, ha, by unfold lookS; rw [if_pos h0]; exact h, hk, hb, rfl⟩, by omega, _, by rw [Int.toNat_natCast]; exact g⟩
    | next h hk g => exact absurd hk (hn a _ ha h)
    | also h hk g => exact absurd hk (hn a _ ha h)
theorem step_ok (q : List Sta) (hq : ∀ (i : Nat) (s : Sta), q[i]? = some s → StOk q.length s) (b : Nat) (l : List Int) (hn : NoFork q l) : InQ q (stepP q b l) ∧ NoFork q (stepP q b l) ∧ ∀ w r, AccP q (stepP q b l) w r ↔ AccP q l (b :: w) r := by
  unfold stepP
  have h1 := nexts_in q hq b l
  have h2 := fun w r => nexts_acc q b l hn w r
  split
  · rename_i e
    rw [e] at h2
    exact ⟨(fun a h => by cases h), (fun a s h => by cases h), h2⟩
  · obtain ⟨a, c, d⟩ := reach_ok q hq _ h1
    exact ⟨a, c, fun w r => (d w r).trans (h2 w r)⟩
/-- The least rule that ends in one. -/
def accP (q : List Sta) : List Int → Int → Int
  | [], r => r
  | a :: l, r => match lookS q a with
    | none => accP q l r
    | some s => if s.kind = 2 ∧ (r = -1 ∨ (s.rule : Int) < r) then accP q l s.rule else accP q l r
theorem acc_app (q : List Sta) : ∀ (l m : List Int) (r : Int), accP q (l ++ m) r = accP q m (accP q l r)
  | [], m, r => rfl
  | a :: l, m, r => by
    rw [List.cons_append, accP, accP]
    split
    · exact acc_app q l m r
    · split
      · exact acc_app q l m _
      · exact acc_app q l m r
/-- The least number of which something holds; -1: of none. -/
def LeastI (A : Nat → Prop) (r : Int) : Prop := (r = -1 ∧ ∀ j, ¬ A j) ∨ ∃ j : Nat, r = j ∧ A j ∧ ∀ i, i < j → ¬ A i
theorem LeastI.unique {A B : Nat → Prop} {r s : Int} (h : LeastI A r) (g : LeastI B s) (e : ∀ j, A j ↔ B j) : r = s := by
  rcases h with ⟨rfl, h⟩ | ⟨j, rfl, h1, h2⟩
  · rcases g with ⟨rfl, _⟩ | ⟨i, rfl, g1, _⟩
    · rfl
    · exact absurd ((e i).2 g1) (h i)
  · rcases g with ⟨rfl, g⟩ | ⟨i, rfl, g1, g2⟩
    · exact absurd ((e j).1 h1) (g j)
    · have h3 : ¬ i < j := fun x => h2 i x ((e i).2 g1)
      have h4 : ¬ j < i := fun x => g2 j x ((e j).1 h1)
      omega
theorem LeastI.conv {A B : Nat → Prop} {r : Int} (h : LeastI A r) (e : ∀ j, A j ↔ B j) : LeastI B r := by
  rcases h with ⟨rfl, h⟩ | ⟨j, rfl, h1, h2⟩
  · exact .inl ⟨rfl, fun j hj => h j ((e j).2 hj)⟩
  · exact .inr ⟨j, rfl, (e j).1 h1, fun i hi hb => h2 i hi ((e i).2 hb)⟩
def EndsP (q : List Sta) (l : List Int) (j : Nat) : Prop := ∃ a s, a ∈ l ∧ lookS q a = some s ∧ s.kind = 2 ∧ s.rule = j
theorem acc_least (q : List Sta) : ∀ (l : List Int) (A : Nat → Prop) (r : Int), LeastI A r → LeastI (fun j => A j ∨ EndsP q l j) (accP q l r)
  | [], A, r, h => h.conv fun j => Iff.intro .inl fun h => h.resolve_right fun ⟨_, _, h, _⟩ => by cases h
  | a :: l, A, r, h => by
    rw [accP]
    split
    · rename_i hn
      refine (acc_least q l A r h).conv fun j => or_congr Iff.rfl ⟨fun ⟨c, s, hc, h2⟩ => ⟨c, s, by simp [hc], h2⟩, fun ⟨c, s, hc, h2, h3⟩ => ?_⟩
      rcases List.mem_cons.1 hc with rfl | hc
      · rw [hn] at h2; cases h2
      · exact ⟨c, s, hc, h2, h3⟩
    · rename_i t ht
      split
      · rename_i hk
        have hnew : LeastI (fun j => A j ∨ j = t.rule) (t.rule : Int) := by
          refine .inr ⟨t.rule, rfl, .inr rfl, fun i hi hA => ?_⟩
          rcases hA with hA | hA
          · rcases h with ⟨rfl, h⟩ | ⟨j, rfl, h1, h2⟩
            · exact h i hA
            · rcases hk.2 with e | e
              · omega
              · exact h2 i (by omega) hA
          · omega
        refine (acc_least q l _ _ hnew).conv fun j => ⟨?_, ?_⟩
        · rintro ((hA | e) | ⟨c, s, hc, h2⟩)
          · exact .inl hA
          · exact .inr ⟨a, t, by simp, ht, hk.1, e.symm⟩
          · exact .inr ⟨c, s, by simp [hc], h2⟩
        · rintro (hA | ⟨c, s, hc, h2, h3, h4⟩)
          · exact .inl (.inl hA)
          · rcases List.mem_cons.1 hc with rfl | hc
            · rw [ht] at h2; cases h2; exact .inl (.inr h4.symm)
            · exact .inr ⟨c, s, hc, h2, h3, h4⟩
      · rename_i hk
        have hold : LeastI (fun j => A j ∨ t.kind = 2 ∧ t.rule = j) r := by
          rcases h with ⟨rfl, h⟩ | ⟨j, rfl, h1, h2⟩
          · exact .inl ⟨rfl, fun j hj => hj.elim (h j) fun ⟨e, _⟩ => hk ⟨e, .inl rfl⟩⟩
          · exact .inr ⟨j, rfl, .inl h1, fun i hi hj => hj.elim (h2 i hi) fun ⟨e, e2⟩ => hk ⟨e, .inr (by omega)⟩⟩
        refine (acc_least q l _ _ hold).conv fun j => ⟨?_, ?_⟩
        · rintro ((hA | ⟨e, e2⟩) | ⟨c, s, hc, h2⟩)
          · exact .inl hA
          · exact .inr ⟨a, t, by simp, ht, e, e2⟩
          · exact .inr ⟨c, s, by simp [hc], h2⟩
        · rintro (hA | ⟨c, s, hc, h2, h3, h4⟩)
          · exact .inl (.inl hA)
          · rcases List.mem_cons.1 hc with rfl | hc
            · rw [ht] at h2; cases h2; exact .inl (.inr ⟨h3, h4⟩)
            · exact .inr ⟨c, s, hc, h2, h3, h4⟩
theorem accepts_ok (q : List Sta) (l : List Int) (hn : NoFork q l) : LeastI (fun j => AccP q l [] j) (accP q l (-1)) := by
  refine (acc_least q l (fun _ => False) (-1) (.inl ⟨rfl, fun _ h => h⟩)).conv fun j => ⟨?_, ?_⟩
  · rintro (h | ⟨a, s, ha, h, hk, rfl⟩)
    · exact h.elim
    · unfold lookS at h
      split at h
      · rename_i h0; exact ⟨a, ha, h0, _, .fin h hk⟩
      · cases h
  · rintro ⟨a, ha, h0, k, g⟩
    right
    cases g with
    | fin h hk => exact ⟨a, _, ha, by unfold lookS; rw [if_pos h0]; exact h, hk, rfl⟩
    | next h hk g => exact absurd hk (hn a _ ha h)
    | also h hk g => exact absurd hk (hn a _ ha h)

/-! ### The longest beginning -/
def goM (q : List Sta) : List Nat → List Int → Int → Int → Int → Int × Int
  | [], _, _, long, rule => (long, rule)
  | b :: w, l, i, long, rule =>
    if l = [] then (long, rule)
    else if accP q (stepP q b l) (-1) ≠ -1 then goM q w (stepP q b l) (i + 1) (i + 1) (accP q (stepP q b l) (-1))
    else goM q w (stepP q b l) (i + 1) long rule
def matchP (q : List Sta) (first : List Int) (w : List Nat) : Int × Int := goM q w (reachP q first) 0 0 (accP q (reachP q first) (-1))
/-- What Match is to tell: A u j: text u is of rule j. -/
def MatchI (A : List Nat → Nat → Prop) (w : List Nat) (long rule : Int) : Prop :=
  (rule = -1 ∧ long = 0 ∧ ∀ i, i ≤ w.length → ∀ j, ¬ A (w.take i) j) ∨
  ∃ m : Nat, long = m ∧ m ≤ w.length ∧ rule ≠ -1 ∧ LeastI (A (w.take m)) rule ∧ ∀ i, m < i → i ≤ w.length → ∀ j, ¬ A (w.take i) j
theorem LeastI.cases {A : Nat → Prop} {r : Int} (h : LeastI A r) : r = -1 ∧ (∀ j, ¬ A j) ∨ r ≠ -1 ∧ 0 ≤ r ∧ ∃ j, A j := by
  rcases h with h | ⟨j, rfl, h1, _⟩
  · exact .inl h
  · exact .inr ⟨by omega, by omega, j, h1⟩
theorem MatchI.unique {A B : List Nat → Nat → Prop} {w : List Nat} {l r l2 r2 : Int} (h : MatchI A w l r) (g : MatchI B w l2 r2) (e : ∀ u j, A u j ↔ B u j) : l = l2 ∧ r = r2 := by
  rcases h with ⟨rfl, rfl, h⟩ | ⟨m, rfl, hm, hr, h1, h2⟩
  · rcases g with ⟨rfl, rfl, g⟩ | ⟨n, rfl, hn, hr, g1, g2⟩
    · exact ⟨rfl, rfl⟩
    · rcases g1.cases with ⟨x, _⟩ | ⟨_, _, j, hj⟩
      · exact absurd x hr
      · exact absurd ((e _ j).2 hj) (h n hn j)
  · rcases h1.cases with ⟨x, _⟩ | ⟨_, _, j, hj⟩
    · exact absurd x hr
    rcases g with ⟨rfl, rfl, g⟩ | ⟨n, rfl, hn, hr2, g1, g2⟩
    · exact absurd ((e _ j).1 hj) (g m hm j)
    · rcases g1.cases with ⟨x, _⟩ | ⟨_, _, j2, hj2⟩
      · exact absurd x hr2
      have e1 : ¬ m < n := fun x => h2 n x hn j2 ((e _ j2).2 hj2)
      have e2 : ¬ n < m := fun x => g2 m x hm j ((e _ j).1 hj)
      have : m = n := by omega
      subst this
      exact ⟨rfl, h1.unique g1 (e _)⟩
theorem goM_ok (q : List Sta) (hq : ∀ (i : Nat) (s : Sta), q[i]? = some s → StOk q.length s) (A : List Nat → Nat → Prop) (W : List Nat) : ∀ (w : List Nat) (l : List Int) (i : Nat) (long rule : Int), W.drop i = w → i ≤ W.length → NoFork q l → (∀ u j, AccP q l u j ↔ A (W.take i ++ u) j) →
    MatchI A (W.take i) long rule → MatchI A W (goM q w l i long rule).1 (goM q w l i long rule).2
  | [], l, i, long, rule, hw, hi, hn, hA, hm => by
    rw [goM]
    have : W.length ≤ i := List.drop_eq_nil_iff.1 hw
    rw [List.take_of_length_le this] at hm
    exact hm
  | b :: w, l, i, long, rule, hw, hi, hn, hA, hm => by
    have hlt : i < W.length := by
      have := congrArg List.length hw
      rw [List.length_drop, List.length_cons] at this
      omega
    have hb : W[i]? = some b := by
      have := congrArg (fun x => x[0]?) hw
      simpa using this
    have htk : W.take (i + 1) = W.take i ++ [b] := by rw [List.take_add_one, hb]; rfl
    have hdr : W.drop (i + 1) = w := by rw [← List.drop_drop, hw]; rfl
    -- a longer beginning, as one of the elder one
    have ext : (∀ i', i < i' → i' ≤ W.length → ∀ j, ¬ A (W.take i') j) → MatchI A W long rule := fun hno => by
      rcases hm with ⟨e1, e2, h⟩ | ⟨m, rfl, hm1, hr, h1, h2⟩
      · refine .inl ⟨e1, e2, fun i' hi' j hj => ?_⟩
        by_cases hc : i < i'
        · exact hno i' hc hi' j hj
        · refine h i' (by rw [List.length_take]; omega) j ?_
          rw [List.take_take, Nat.min_eq_left (by omega)]
          exact hj
      · rw [List.length_take] at hm1
        rw [List.take_take, Nat.min_eq_left (by omega)] at h1
        refine .inr ⟨m, rfl, by omega, hr, h1, fun i' hi1 hi' j hj => ?_⟩
        by_cases hc : i < i'
        · exact hno i' hc hi' j hj
        · refine h2 i' hi1 (by rw [List.length_take]; omega) j ?_
          rw [List.take_take, Nat.min_eq_left (by omega)]
          exact hj
    rw [goM]
    split
    · rename_i e
      refine ext fun i' hc hi' j hj => ?_
      have h1 := (hA (W.drop i |>.take (i' - i)) j).2 (by
        rw [show W.take i ++ (W.drop i).take (i' - i) = W.take i' by
          rw [← List.take_add]; congr 1; omega]
        exact hj)
      rw [e] at h1
      obtain ⟨a, ha, _⟩ := h1
      cases ha
    · obtain ⟨s1, s2, s3⟩ := step_ok q hq b l hn
      have hA' : ∀ u j, AccP q (stepP q b l) u j ↔ A (W.take (i + 1) ++ u) j := fun u j => by
        rw [s3 u j, hA (b :: u) j, htk, List.append_assoc]
        rfl
      have hl := accepts_ok q (stepP q b l) s2
      have hl2 : LeastI (A (W.take (i + 1))) (accP q (stepP q b l) (-1)) := hl.conv fun j => by
        rw [hA' [] j, List.append_nil]
      have hlen : (W.take (i + 1)).length = i + 1 := by rw [List.length_take]; omega
      split
      · rename_i hne
        have := goM_ok q hq A W w (stepP q b l) (i + 1) ((i : Int) + 1) (accP q (stepP q b l) (-1)) hdr hlt s2 hA' (.inr ⟨i + 1, by omega, by omega, hne, by
          rw [List.take_take, Nat.min_self]; exact hl2, fun i' h1 h2 => by omega⟩)
        exact this
      · rename_i he
        have he : accP q (stepP q b l) (-1) = -1 := by omega
        have hno : ∀ j, ¬ A (W.take (i + 1)) j := by
          rcases hl2.cases with ⟨_, h⟩ | ⟨h, _⟩
          · exact h
          · exact absurd he h
        have := goM_ok q hq A W w (stepP q b l) (i + 1) long rule hdr hlt s2 hA' (by
          rcases hm with ⟨e1, e2, h⟩ | ⟨m, rfl, hm1, hr, h1, h2⟩
          · refine .inl ⟨e1, e2, fun i' hi' j hj => ?_⟩
            rw [hlen] at hi'
            rw [List.take_take, Nat.min_eq_left hi'] at hj
            by_cases hc : i' = i + 1
            · rw [hc] at hj; exact hno j hj
            · refine h i' (by rw [List.length_take]; omega) j ?_
              rw [List.take_take, Nat.min_eq_left (by omega)]
              exact hj
          · rw [List.length_take] at hm1
            rw [List.take_take, Nat.min_eq_left (by omega)] at h1
            refine .inr ⟨m, rfl, by omega, hr, by rw [List.take_take, Nat.min_eq_left (by omega)]; exact h1, fun i' hi1 hi' j hj => ?_⟩
            rw [hlen] at hi'
            rw [List.take_take, Nat.min_eq_left hi'] at hj
            by_cases hc : i' = i + 1
            · rw [hc] at hj; exact hno j hj
            · refine h2 i' hi1 (by rw [List.length_take]; omega) j ?_
              rw [List.take_take, Nat.min_eq_left (by omega)]
              exact hj)
        exact this
end Go.Proofs.YtkopbngnhgdfhaaDoor
