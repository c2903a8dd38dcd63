/-
  regs, plain: a set's bytes as spans that are as long as can be; that they tell the same text as the runs do. No call is walked here.
-/
import Derived.Test.YthokamikejnbeaaDoorBe22
namespace Go.Proofs.YthokamikejnbeaaDoor

/-- The spans of the bytes below n, the last one first. -/
def spS (s : St4) : Nat → List (Nat × Nat)
  | 0 => []
  | n + 1 => if hasR s n = false then spS s n else match spS s n with
    | [] => [(n, n)]
    | (f, t) :: r => if t + 1 = n then (f, n) :: r else (n, n) :: (f, t) :: r
def spT (p : Nat × Nat) : List Nat := byteR p.1 ++ if p.1 < p.2 then 45 :: byteR p.2 else []
/-- The text of spans, the last one first. -/
def spsT : List (Nat × Nat) → List Nat
  | [] => []
  | p :: r => spsT r ++ spT p
def spZ : List (Nat × Nat) → Nat
  | [] => 0
  | p :: r => spZ r + (p.2 + 1 - p.1)
theorem runs_snoc (s : St4) : ∀ (n b : Nat), runsT s (n + 1) b = runsT s n b ++ runT s (b + n)
  | 0, b => by rw [runsT, runsT, runsT, List.append_nil, List.nil_append, Nat.add_zero]
  | n + 1, b => by rw [runsT, runs_snoc s n (b + 1), runsT, List.append_assoc, show b + 1 + n = b + (n + 1) by omega]
theorem last_is (s : St4) (f t : Nat) (ht : t < 256) (hf : f ≤ t) (hall : ∀ c, f ≤ c → c ≤ t → hasR s c = true) (hend : t = 255 ∨ hasR s (t + 1) = false) : lastR s f = t := by
  obtain ⟨h1, h2, h3, h4⟩ := last_spec s 256 f (by omega) (hall f (Nat.le_refl _) hf)
  have h5 := h4 (by omega)
  unfold lastR
  obtain ⟨x, hx⟩ : ∃ x, lastF s 256 f = x := ⟨_, rfl⟩
  rw [hx] at h1 h2 h3 h5 ⊢
  by_cases e1 : x < t
  · have := h5 (by omega)
    rw [hall (x + 1) (by omega) (by omega)] at this
    cases this
  · by_cases e2 : t < x
    · rcases hend with e | e
      · omega
      · rw [h3 (t + 1) (by omega) (by omega)] at e
        cases e
    · omega
/-- How the spans of the first n bytes are. -/
structure SpI (s : St4) (n : Nat) (l : List (Nat × Nat)) : Prop where
  mem : ∀ p, p ∈ l → p.1 ≤ p.2 ∧ p.2 < n ∧ hasR s p.1 = true
  cnt : cntR s n = spZ l
  nil : l = [] → (∀ c, c < n → hasR s c = false) ∧ runsT s n 0 = []
  cons : ∀ f t r, l = (f, t) :: r → (∀ c, f ≤ c → c ≤ t → hasR s c = true) ∧ (∀ c, t < c → c < n → hasR s c = false) ∧ runsT s n 0 = spsT r ++ spanT s f
theorem sp_inv (s : St4) : ∀ n, n ≤ 256 → SpI s n (spS s n)
  | 0, _ => ⟨(fun p hp => by cases hp), rfl, (fun _ => ⟨fun c hc => absurd hc (Nat.not_lt_zero _), rfl⟩), fun f t r h => by cases h⟩
  | n + 1, hn => by
    have ih := sp_inv s n (by omega)
    have hsn := runs_snoc s n 0
    rw [Nat.zero_add] at hsn
    rw [spS]
    rcases hb : hasR s n with _ | _
    · have hr : runT s n = [] := by unfold runT; rw [hb, if_neg (by rintro ⟨h, _⟩; cases h)]
      rw [if_pos rfl]
      rw [hr, List.append_nil] at hsn
      refine ⟨fun p hp => ⟨(ih.mem p hp).1, by have := (ih.mem p hp).2.1; omega, (ih.mem p hp).2.2⟩, ?_, fun h => ⟨fun c hc => ?_, by rw [hsn]; exact (ih.nil h).2⟩, fun f t r h => ⟨(ih.cons f t r h).1, fun c h1 h2 => ?_, by rw [hsn]; exact (ih.cons f t r h).2.2⟩⟩
      · rw [cntR, ih.cnt, hb, if_neg (by decide), Nat.add_zero]
      · by_cases e : c = n
        · rw [e]; exact hb
        · exact (ih.nil h).1 c (by omega)
      · by_cases e : c = n
        · rw [e]; exact hb
        · exact (ih.cons f t r h).2.1 c h1 (by omega)
    · rw [if_neg (by decide)]
      rcases hl : spS s n with _ | ⟨⟨f, t⟩, r⟩
      · rw [hl] at ih
        obtain ⟨h0, h1⟩ := ih.nil rfl
        have hr : runT s n = spanT s n := by
          unfold runT
          rw [hb, if_pos ⟨rfl, fun ⟨hp, hh⟩ => by rw [h0 (n - 1) (by omega)] at hh; cases hh⟩]
        rw [hr, h1, List.nil_append] at hsn
        refine ⟨fun p hp => ?_, ?_, (fun h => by cases h), fun f t r h => ?_⟩
        · rw [List.mem_singleton.1 hp]; exact ⟨Nat.le_refl _, Nat.lt_succ_self _, hb⟩
        · rw [cntR, ih.cnt, hb, if_pos rfl]
          show 0 + 1 = 0 + (n + 1 - n)
          omega
        · injection h with h2 h3
          injection h2 with h4 h5
          subst h4 h5 h3
          refine ⟨fun c hc1 hc2 => by rw [show c = n by omega]; exact hb, fun c hc1 hc2 => by omega, ?_⟩
          rw [hsn]; rfl
      · rw [hl] at ih
        obtain ⟨h1, h2, h3⟩ := ih.cons f t r rfl
        obtain ⟨hm1, hm2, hm3⟩ := ih.mem (f, t) (by simp)
        simp only at hm1 hm2 hm3
        dsimp only
        by_cases e : t + 1 = n
        · rw [if_pos e]
          have hr : runT s n = [] := by
            unfold runT
            rw [if_neg]
            rintro ⟨_, h⟩
            exact h ⟨by omega, h1 (n - 1) (by omega) (by omega)⟩
          rw [hr, List.append_nil] at hsn
          refine ⟨fun p hp => ?_, ?_, (fun h => by cases h), fun f' t' r' h => ?_⟩
          · rcases List.mem_cons.1 hp with hp | hp
            · rw [hp]; exact ⟨by show f ≤ n; omega, by show n < n + 1; omega, hm3⟩
            · have := ih.mem p (by simp [hp])
              exact ⟨this.1, by omega, this.2.2⟩
          · rw [cntR, ih.cnt, hb, if_pos rfl]
            show spZ r + (t + 1 - f) + 1 = spZ r + (n + 1 - f)
            omega
          · injection h with h4 h5
            injection h4 with h6 h7
            subst h6 h7 h5
            refine ⟨fun c hc1 hc2 => ?_, fun c hc1 hc2 => by omega, by rw [hsn]; exact h3⟩
            by_cases ec : c = n
            · rw [ec]; exact hb
            · exact h1 c hc1 (by omega)
        · rw [if_neg e]
          have hr : runT s n = spanT s n := by
            unfold runT
            rw [hb, if_pos ⟨rfl, fun ⟨hp, hh⟩ => by rw [h2 (n - 1) (by omega) (by omega)] at hh; cases hh⟩]
          have hlast := last_is s f t (by omega) hm1 h1 (.inr (h2 (t + 1) (by omega) (by omega)))
          rw [hr, h3] at hsn
          refine ⟨fun p hp => ?_, ?_, (fun h => by cases h), fun f' t' r' h => ?_⟩
          · rcases List.mem_cons.1 hp with hp | hp
            · rw [hp]; exact ⟨Nat.le_refl _, by show n < n + 1; omega, hb⟩
            · have := ih.mem p hp
              exact ⟨this.1, by omega, this.2.2⟩
          · rw [cntR, ih.cnt, hb, if_pos rfl]
            show spZ r + (t + 1 - f) + 1 = spZ r + (t + 1 - f) + (n + 1 - n)
            omega
          · injection h with h4 h5
            injection h4 with h6 h7
            subst h6 h7 h5
            refine ⟨fun c hc1 hc2 => by rw [show c = n by omega]; exact hb, fun c hc1 hc2 => by omega, ?_⟩
            rw [hsn]
            show _ = (spsT r ++ spT (f, t)) ++ _
            unfold spT spanT
            rw [hlast]
theorem sp_none (s : St4) : spS s 256 = [] → setT s = [91, 94, 92, 120, 48, 48, 45, 92, 120, 102, 102, 93] := fun h => by
  have hi := sp_inv s 256 (Nat.le_refl _)
  unfold setT
  rw [hi.cnt, h]
  rfl
theorem sp_text (s : St4) : runsT s 256 0 = spsT (spS s 256) := by
  have hi := sp_inv s 256 (Nat.le_refl _)
  rcases h : spS s 256 with _ | ⟨⟨f, t⟩, r⟩
  · exact (hi.nil h).2
  · obtain ⟨h1, h2, h3⟩ := hi.cons f t r h
    obtain ⟨hm1, hm2, hm3⟩ := hi.mem (f, t) (by rw [h]; simp)
    rw [h3]
    show _ = spsT r ++ spT (f, t)
    unfold spT spanT
    simp only at hm1 hm2
    rw [last_is s f t hm2 hm1 h1 (by
      by_cases e : t = 255
      · exact .inl e
      · exact .inr (h2 (t + 1) (by omega) (by omega)))]
theorem spZ_pos (s : St4) (n : Nat) (l : List (Nat × Nat)) (h : SpI s n l) : l.length ≤ spZ l ∧ ∀ p, p ∈ l → p.2 + 1 - p.1 ≤ spZ l := by
  have hm := h.mem
  clear h
  induction l with
  | nil => exact ⟨Nat.le_refl _, fun p hp => by cases hp⟩
  | cons p r ih =>
    obtain ⟨h1, h2⟩ := ih fun q hq => hm q (by simp [hq])
    have h3 := (hm p (by simp)).1
    rw [spZ, List.length_cons]
    refine ⟨by omega, fun q hq => ?_⟩
    rcases List.mem_cons.1 hq with rfl | hq
    · omega
    · have := h2 q hq; omega
/-- One byte alone. -/
theorem sp_one (s : St4) (f t : Nat) (h : spS s 256 = [(f, t)]) (he : f = t) : setT s = byteR f := by
  have hi := sp_inv s 256 (Nat.le_refl _)
  have hc := hi.cnt
  rw [h] at hc
  have hz : spZ [(f, t)] = 1 := by show 0 + (t + 1 - f) = 1; omega
  unfold setT
  rw [hc, hz, if_neg (by decide), if_pos rfl, sp_text, h]
  show [] ++ spT (f, t) = _
  unfold spT
  rw [if_neg (by show ¬ f < t; omega), List.append_nil, List.nil_append]
theorem sp_more (s : St4) (hne : spS s 256 ≠ []) (h : ∀ f t, spS s 256 = [(f, t)] → f ≠ t) : setT s = 91 :: (spsT (spS s 256) ++ [93]) := by
  have hi := sp_inv s 256 (Nat.le_refl _)
  have hc := hi.cnt
  unfold setT
  rw [sp_text]
  rcases hl : spS s 256 with _ | ⟨⟨f, t⟩, r⟩
  · exact absurd hl hne
  · rw [hl] at hc hi
    obtain ⟨hm1, _⟩ := hi.mem (f, t) (by simp)
    simp only at hm1
    have hz : 2 ≤ spZ ((f, t) :: r) := by
      cases r with
      | nil => have := h f t hl; show 2 ≤ 0 + (t + 1 - f); omega
      | cons p q => have := (spZ_pos s 256 _ hi).1; rw [List.length_cons, List.length_cons] at this; omega
    rw [hc, if_neg (by omega), if_neg (by omega)]
end Go.Proofs.YthokamikejnbeaaDoor
