/-
  Texts of this proof, one behind the other; each begins with its own remark.
-/
import Derived.Test.YtkopbngnhgdfhaaDoorBe1
import Derived.Test.YtkopbngnhgdfhaaDoorBe5
/-
  regs, plain: what is shown of a node; that it is read as that node. No call is walked here.
-/
namespace Go.Proofs.YtkopbngnhgdfhaaDoor

/-! ### What is shown of a node -/
/-- The last byte of a run that has byte b. -/
def lastF (s : St4) : Nat → Nat → Nat
  | 0, b => b
  | f + 1, b => if b < 255 ∧ hasR s (b + 1) = true then lastF s f (b + 1) else b
def lastR (s : St4) (b : Nat) : Nat := lastF s 256 b
def spanT (s : St4) (b : Nat) : List Nat := byteR b ++ if b < lastR s b then 45 :: byteR (lastR s b) else []
def runT (s : St4) (b : Nat) : List Nat := if hasR s b = true ∧ ¬ (0 < b ∧ hasR s (b - 1) = true) then spanT s b else []
/-- The runs from b on, n bytes. -/
def runsT (s : St4) : Nat → Nat → List Nat
  | 0, _ => []
  | n + 1, b => runT s b ++ runsT s n (b + 1)
/-- How many bytes a set has, of the first n. -/
def cntR (s : St4) : Nat → Nat
  | 0 => 0
  | n + 1 => cntR s n + if hasR s n = true then 1 else 0
def setT (s : St4) : List Nat := if cntR s 256 = 0 then [91, 94, 92, 120, 48, 48, 45, 92, 120, 102, 102, 93] else if cntR s 256 = 1 then runsT s 256 0 else 91 :: (runsT s 256 0 ++ [93])
def wrapT (k kk : Int) (t : List Nat) : List Nat := if kk = 3 ∨ kk = 2 ∧ k ≠ 3 then 40 :: (t ++ [41]) else t
def tailT (k : Int) : List Nat := if k = 4 then [42] else if k = 5 then [43] else if k = 6 then [63] else []
mutual
def showT : Nd → List Nat
  | .mk k s l => if k = 0 then [40, 41] else if k = 1 then setT s else showL k true l ++ tailT k
def showL : Int → Bool → List Nd → List Nat
  | _, _, [] => []
  | k, first, n :: l => ((if k = 3 ∧ first = false then [124] else []) ++ wrapT k n.kind (showT n)) ++ showL k false l
end
/-- May a node of this kind, with this set, have so many kids? -/
def formR (k : Int) (s : St4) (n : Nat) : Bool :=
  decide (0 ≤ k ∧ k ≤ 6) && !(decide (k < 2) && decide (0 < n)) && !(decide (4 ≤ k) && decide (n ≠ 1)) && !((decide (k = 2) || decide (k = 3)) && decide (n < 2)) && (decide (k = 1) || decide (s = noR))
mutual
def mayR : Nd → Bool
  | .mk k s l => formR k s l.length && mayL l
def mayL : List Nd → Bool
  | [] => true
  | n :: l => mayR n && mayL l
end
mutual
def deepR : Nd → Nat
  | .mk _ _ l => deepL l + 1
def deepL : List Nd → Nat
  | [] => 0
  | n :: l => max (deepR n) (deepL l)
end
mutual
/-- The sets are such. -/
def wfR : Nd → Prop
  | .mk _ s l => OkR s ∧ wfL l
def wfL : List Nd → Prop
  | [] => True
  | n :: l => wfR n ∧ wfL l
end
def textR (n : Nd) : List Nat := if mayR n = true ∧ deepR n ≤ 200 then showT n else []

/-- How a text begins that is a node's: no sign, no end. -/
def HeadR (l : List Nat) : Prop := ∃ c t, l = c :: t ∧ c ≠ 41 ∧ c ≠ 124 ∧ c ≠ 42 ∧ c ≠ 43 ∧ c ≠ 63
theorem head_app {l : List Nat} (h : HeadR l) (r : List Nat) : HeadR (l ++ r) := by
  obtain ⟨c, t, rfl, h⟩ := h
  exact ⟨c, t ++ r, rfl, h⟩
theorem head_byte (b : Nat) : HeadR (byteR b) := by
  obtain ⟨c, t, e, h⟩ := byte_head b
  refine ⟨c, t, e, ?_⟩
  rcases h with rfl | h
  · decide
  · refine ⟨?_, ?_, ?_, ?_, ?_⟩ <;> (intro e; subst e; exact absurd h (by decide))
theorem cnt_none (s : St4) : ∀ n, cntR s n = 0 → ∀ c, c < n → hasR s c = false
  | 0, _, c, hc => absurd hc (Nat.not_lt_zero _)
  | n + 1, h, c, hc => by
    rw [cntR] at h
    split at h
    · omega
    · rename_i hn
      by_cases e : c = n
      · subst e; simpa using hn
      · exact cnt_none s n (by omega) c (by omega)
theorem cnt_one (s : St4) : ∀ n, cntR s n = 1 → ∃ b, b < n ∧ hasR s b = true ∧ ∀ c, c < n → c ≠ b → hasR s c = false
  | 0, h => by cases h
  | n + 1, h => by
    rw [cntR] at h
    split at h
    · rename_i hn
      have h0 := cnt_none s n (by omega)
      exact ⟨n, by omega, hn, fun c hc hne => h0 c (by omega)⟩
    · rename_i hn
      obtain ⟨b, hb, hs, hall⟩ := cnt_one s n (by omega)
      refine ⟨b, by omega, hs, fun c hc hne => ?_⟩
      by_cases e : c = n
      · subst e; simpa using hn
      · exact hall c (by omega) hne
/-- A set that has a byte has one with which a run begins. -/
theorem run_first (s : St4) : ∀ n, cntR s n ≠ 0 → ∃ b, b < n ∧ hasR s b = true ∧ ¬ (0 < b ∧ hasR s (b - 1) = true)
  | 0, h => absurd rfl h
  | n + 1, h => by
    by_cases h0 : cntR s n = 0
    · rw [cntR, h0] at h
      split at h
      · rename_i hn
        refine ⟨n, by omega, hn, fun ⟨hp, hh⟩ => ?_⟩
        rw [cnt_none s n h0 (n - 1) (by omega)] at hh
        cases hh
      · exact absurd rfl h
    · obtain ⟨b, hb, h1, h2⟩ := run_first s n h0
      exact ⟨b, by omega, h1, h2⟩
theorem last_spec (s : St4) : ∀ (f b : Nat), b < 256 → hasR s b = true → b ≤ lastF s f b ∧ lastF s f b < 256 ∧ (∀ c, b ≤ c → c ≤ lastF s f b → hasR s c = true) ∧ (256 ≤ b + f → lastF s f b < 255 → hasR s (lastF s f b + 1) = false)
  | 0, b, hb, hs => ⟨Nat.le_refl _, hb, fun c h1 h2 => by rw [lastF] at h2; rw [show c = b by omega]; exact hs, fun h => by omega⟩
  | f + 1, b, hb, hs => by
    rw [lastF]
    split
    · rename_i hc
      obtain ⟨h1, h2, h3, h4⟩ := last_spec s f (b + 1) (by omega) hc.2
      refine ⟨by omega, h2, fun c hbc hcl => ?_, fun h5 => h4 (by omega)⟩
      by_cases e : c = b
      · rw [e]; exact hs
      · exact h3 c (by omega) hcl
    · rename_i hc
      refine ⟨Nat.le_refl _, hb, fun c h1 h2 => by rw [show c = b by omega]; exact hs, fun _ h6 => ?_⟩
      have : ¬ hasR s (b + 1) = true := fun h => hc ⟨h6, h⟩
      simpa using this
/-- What of a set stands ahead of byte b, or in a run that goes on there. -/
def partR (s : St4) (b c : Nat) : Prop := hasR s c = true ∧ (c < b ∨ 0 < b ∧ ∀ d, b - 1 ≤ d → d ≤ c → hasR s d = true)
theorem runs_head (s : St4) : ∀ (n b : Nat) (r : List Nat), (∃ c, b ≤ c ∧ c < b + n ∧ runT s c ≠ []) → HeadR (runsT s n b ++ r) ∧ (runsT s n b ++ r).head? ≠ some 93 ∧ (runsT s n b ++ r).head? ≠ some 45 ∧ (runsT s n b ++ r).head? ≠ some 94
  | 0, b, r, ⟨c, h1, h2, _⟩ => by omega
  | n + 1, b, r, ⟨c, h1, h2, h3⟩ => by
    rw [runsT]
    by_cases e : runT s b = []
    · rw [e, List.nil_append]
      refine runs_head s n (b + 1) r ⟨c, ?_, by omega, h3⟩
      by_cases hc : c = b
      · subst hc; exact absurd e h3
      · omega
    · have e2 : runT s b = spanT s b := by unfold runT at e ⊢; split <;> simp_all
      rw [e2]
      unfold spanT
      obtain ⟨x, t, hx, hh⟩ := byte_head b
      rw [List.append_assoc, List.append_assoc]
      refine ⟨head_app (head_byte b) _, ?_⟩
      rw [hx]
      show some x ≠ some 93 ∧ some x ≠ some 45 ∧ some x ≠ some 94
      rcases hh with rfl | hh
      · decide
      · refine ⟨?_, ?_, ?_⟩ <;> (intro e; cases e; exact absurd hh (by decide))
theorem runs_parse (s : St4) : ∀ (n b : Nat) (f : Nat) (first : Bool) (t : St4) (r : List Nat), b + n = 256 → (runsT s n b ++ 93 :: r).length < f → OkR t → (∀ c, c < 256 → (hasR t c = true ↔ partR s b c)) → (first = true → ∃ c, b ≤ c ∧ c < b + n ∧ runT s c ≠ []) →
    ∃ t', spansR f first t (runsT s n b ++ 93 :: r) = some (t', r) ∧ OkR t' ∧ ∀ c, c < 256 → (hasR t' c = true ↔ hasR s c = true)
  | 0, b, f, first, t, r, hbn, hf, ht, hp, hfirst => by
    obtain ⟨f, rfl⟩ : ∃ k, f = k + 1 := ⟨f - 1, by omega⟩
    cases first with
    | true => obtain ⟨c, h1, h2, _⟩ := hfirst rfl; omega
    | false =>
      refine ⟨t, ?_, ht, fun c hc => (hp c hc).trans ⟨fun h => h.1, fun h => ⟨h, .inl (by omega)⟩⟩⟩
      simp [spansR, runsT]
  | n + 1, b, f, first, t, r, hbn, hf, ht, hp, hfirst => by
    by_cases hrun : hasR s b = true ∧ ¬ (0 < b ∧ hasR s (b - 1) = true)
    · obtain ⟨f, rfl⟩ : ∃ k, f = k + 1 := ⟨f - 1, by omega⟩
      have e : runT s b = spanT s b := if_pos hrun
      obtain ⟨l1, l2, l3, l4⟩ := last_spec s 256 b (by omega) hrun.1
      have l4 := l4 (by omega)
      rw [show lastF s 256 b = lastR s b from rfl] at l1 l2 l3 l4
      have hh := runs_head s (n + 1) b (93 :: r) ⟨b, Nat.le_refl _, by omega, by rw [e]; unfold spanT; obtain ⟨x, q, hx, _⟩ := byte_head b; rw [hx]; simp⟩
      rw [runsT, e] at hf hh ⊢
      have hstep : ∀ t2, OkR t2 → (∀ c, c < 256 → (hasR t2 c = true ↔ hasR t c = true ∨ b ≤ c ∧ c ≤ lastR s b)) → (runsT s n (b + 1) ++ 93 :: r).length < f → ∃ t', spansR f false t2 (runsT s n (b + 1) ++ 93 :: r) = some (t', r) ∧ OkR t' ∧ ∀ c, c < 256 → (hasR t' c = true ↔ hasR s c = true) := by
        intro t2 hok2 hp2 hf2
        refine runs_parse s n (b + 1) f false t2 r (by omega) hf2 hok2 (fun c hc => ?_) (fun h => by cases h)
        rw [hp2 c hc, hp c hc]
        constructor
        · rintro (⟨h1, h2 | ⟨h2, h3⟩⟩ | ⟨h1, h2⟩)
          · exact ⟨h1, .inl (by omega)⟩
          · refine ⟨h1, ?_⟩
            by_cases hcb : c < b
            · exact .inl (by omega)
            · exact absurd ⟨h2, h3 (b - 1) (Nat.le_refl _) (by omega)⟩ hrun.2
          · exact ⟨l3 c h1 h2, .inr ⟨by omega, fun d hd1 hd2 => l3 d (by omega) (by omega)⟩⟩
        · rintro ⟨h1, h2⟩
          by_cases hcb : c < b
          · exact .inl ⟨h1, .inl hcb⟩
          · refine .inr ⟨by omega, ?_⟩
            rcases h2 with h2 | ⟨_, h2⟩
            · omega
            · rcases Nat.lt_or_ge (lastR s b) c with h | h
              · have h5 := h2 (lastR s b + 1) (by omega) (by omega)
                rw [l4 (by omega)] at h5
                cases h5
              · exact h
      have hlen1 : (byteR b).length ≥ 1 := by obtain ⟨x, q, hx, _⟩ := byte_head b; rw [hx]; simp
      by_cases hl : b < lastR s b
      · have e3 : spanT s b ++ runsT s n (b + 1) ++ 93 :: r = byteR b ++ (45 :: (byteR (lastR s b) ++ (runsT s n (b + 1) ++ 93 :: r))) := by
          unfold spanT; rw [if_pos hl]; simp
        rw [e3] at hf hh ⊢
        simp only [spansR]
        rw [if_neg (fun h => hh.2.1 h.2), let_byte true b (by omega)]
        simp only [List.head?_cons, if_true, List.tail_cons]
        rw [let_byte true _ (by omega)]
        simp only
        rw [if_neg (by omega)]
        refine hstep _ (ok_with _ _ _ (by omega) ht) (fun c hc => ?_) (by simp only [List.length_append, List.length_cons] at hf ⊢; omega)
        rw [has_with _ _ _ hc _ (by omega)]
        simp only [Bool.or_eq_true, decide_eq_true_eq]
        constructor
        · rintro (h | h)
          · exact .inl h
          · exact .inr (by omega)
        · rintro (h | h)
          · exact .inl h
          · exact .inr (by omega)
      · have e4 : lastR s b = b := by omega
        have e3 : spanT s b ++ runsT s n (b + 1) ++ 93 :: r = byteR b ++ (runsT s n (b + 1) ++ 93 :: r) := by
          unfold spanT; rw [if_neg hl]; simp
        rw [e3] at hf hh ⊢
        simp only [spansR]
        rw [if_neg (fun h => hh.2.1 h.2), let_byte true b (by omega)]
        simp only
        have hno : ¬ (runsT s n (b + 1) ++ 93 :: r).head? = some 45 := by
          by_cases hx : ∃ c, b + 1 ≤ c ∧ c < b + 1 + n ∧ runT s c ≠ []
          · exact (runs_head s n (b + 1) (93 :: r) hx).2.2.1
          · have : runsT s n (b + 1) = [] := by
              have aux : ∀ (m q : Nat), (∀ c, q ≤ c → c < q + m → runT s c = []) → runsT s m q = [] := by
                intro m
                induction m with
                | zero => intro q _; rfl
                | succ m ih => intro q h; rw [runsT, h q (Nat.le_refl _) (by omega), List.nil_append]; exact ih (q + 1) fun c h1 h2 => h c (by omega) (by omega)
              exact aux n (b + 1) fun c h1 h2 => by
                by_cases h : runT s c = []
                · exact h
                · exact absurd ⟨c, h1, h2, h⟩ hx
            rw [this]
            simp
        rw [if_neg hno]
        refine hstep _ (ok_with _ _ _ (by omega) ht) (fun c hc => ?_) (by simp only [List.length_append, List.length_cons] at hf ⊢; omega)
        rw [has_with _ _ _ hc _ (by omega)]
        simp only [Bool.or_eq_true, decide_eq_true_eq]
        constructor
        · rintro (h | h)
          · exact .inl h
          · exact .inr (by omega)
        · rintro (h | h)
          · exact .inl h
          · exact .inr (by omega)
    · have e : runT s b = [] := if_neg hrun
      rw [runsT, e, List.nil_append] at hf ⊢
      refine runs_parse s n (b + 1) f first t r (by omega) hf ht (fun c hc => (hp c hc).trans ?_) (fun hfi => ?_)
      · constructor
        · rintro ⟨h1, h2 | ⟨h2, h3⟩⟩
          · exact ⟨h1, .inl (by omega)⟩
          · exact ⟨h1, .inr ⟨by omega, fun d hd1 hd2 => h3 d (by omega) hd2⟩⟩
        · rintro ⟨h1, h2⟩
          by_cases hcb : c < b
          · exact ⟨h1, .inl hcb⟩
          · have hb : hasR s b = true := by
              rcases h2 with h2 | ⟨_, h2⟩
              · rw [show b = c by omega]; exact h1
              · exact h2 b (by omega) (by omega)
            have hb1 : 0 < b ∧ hasR s (b - 1) = true := Classical.byContradiction fun h => hrun ⟨hb, h⟩
            refine ⟨h1, .inr ⟨hb1.1, fun d hd1 hd2 => ?_⟩⟩
            by_cases hd : d = b - 1
            · rw [hd]; exact hb1.2
            · rcases h2 with h2 | ⟨_, h2⟩
              · rw [show d = b by omega]; exact hb
              · exact h2 d (by omega) hd2
      · obtain ⟨c, h1, h2, h3⟩ := hfirst hfi
        refine ⟨c, ?_, by omega, h3⟩
        by_cases hc : c = b
        · subst hc; exact absurd e h3
        · omega

/-! ### What is shown is read as it was -/
theorem runs_none (s : St4) : ∀ (m q : Nat), (∀ c, q ≤ c → c < q + m → runT s c = []) → runsT s m q = []
  | 0, _, _ => rfl
  | m + 1, q, h => by rw [runsT, h q (Nat.le_refl _) (by omega), List.nil_append]; exact runs_none s m (q + 1) fun c h1 h2 => h c (by omega) (by omega)
theorem runs_one (s : St4) (b : Nat) (t : List Nat) (hb : runT s b = t) : ∀ (m q : Nat), q ≤ b → b < q + m → (∀ c, q ≤ c → c < q + m → c ≠ b → runT s c = []) → runsT s m q = t
  | 0, _, h1, h2, _ => by omega
  | m + 1, q, h1, h2, h => by
    rw [runsT]
    by_cases e : q = b
    · rw [e, hb, runs_none s m (b + 1) (fun c h3 h4 => h c (by omega) (by omega) (by omega)), List.append_nil]
    · rw [h q (Nat.le_refl _) (by omega) e, List.nil_append]
      exact runs_one s b t hb m (q + 1) (by omega) (by omega) fun c h3 h4 h5 => h c (by omega) (by omega) h5
theorem set_head (s : St4) : HeadR (setT s) := by
  unfold setT
  split
  · exact ⟨_, _, rfl, by decide⟩
  split
  · rename_i h0 h
    obtain ⟨b, hb, h1, h2⟩ := run_first s 256 h0
    have := (runs_head s 256 0 [] ⟨b, Nat.zero_le _, by omega, by unfold runT; rw [if_pos ⟨h1, h2⟩]; unfold spanT; obtain ⟨x, q, hx, _⟩ := byte_head b; rw [hx]; simp⟩).1
    rwa [List.append_nil] at this
  · exact ⟨_, _, rfl, by decide⟩
/-- A set, shown, is read as it was. -/
theorem set_parse (s : St4) (hs : OkR s) (r : List Nat) : atR (setT s ++ r) = some (.mk 1 s [], r) := by
  unfold setT
  split
  · rename_i h0
    have e : s = noR := set_ext s noR hs ok_no fun b hb => by rw [cnt_none s 256 h0 b hb, has_no]
    subst e
    rw [at_eq, if_neg (by simp), if_pos (by simp)]
    show bracketR (94 :: 92 :: 120 :: 48 :: 48 :: 45 :: 92 :: 120 :: 102 :: 102 :: 93 :: r) = _
    unfold bracketR
    rw [if_pos (by rfl)]
    have hx : spansR ((94 :: 92 :: 120 :: 48 :: 48 :: 45 :: 92 :: 120 :: 102 :: 102 :: 93 :: r).length + 1) true noR (94 :: 92 :: 120 :: 48 :: 48 :: 45 :: 92 :: 120 :: 102 :: 102 :: 93 :: r).tail = some (withR noR 0 256, r) := by
      simp [spansR, letR, escR, hexR, digR]
    have e2 : notR (withR noR 0 256) 256 = noR := by
      refine set_ext _ _ (ok_not _ 256 (Nat.le_refl _)) ok_no fun c hc => ?_
      rw [has_not _ c hc 256 (Nat.le_refl _), has_with _ _ _ hc 256 (Nat.le_refl _), has_no]
      simp [hc]
    rw [hx]
    simp only [Option.map_some, e2]
  split
  · rename_i h0 h1
    obtain ⟨b, hb, hsb, hall⟩ := cnt_one s 256 h1
    have hrb : runT s b = byteR b := by
      unfold runT
      rw [if_pos ⟨hsb, fun h => by rw [hall (b - 1) (by omega) (by omega)] at h; cases h.2⟩]
      unfold spanT
      obtain ⟨l1, l2, l3, _⟩ := last_spec s 256 b hb hsb
      rw [if_neg, List.append_nil]
      intro h
      have h5 := l3 (b + 1) (by omega) h
      rw [hall (b + 1) (by have : lastR s b < 256 := l2; omega) (by omega)] at h5
      cases h5
    rw [runs_one s b _ hrb 256 0 (Nat.zero_le _) (by omega) fun c _ h2 hne => by
      unfold runT
      rw [if_neg]
      rintro ⟨h3, _⟩
      rw [hall c (by omega) hne] at h3
      cases h3]
    obtain ⟨x, q, hx, hh⟩ := byte_head b
    have hxs : x ≠ 40 ∧ x ≠ 91 ∧ x ≠ 46 := by
      rcases hh with rfl | hh
      · decide
      · refine ⟨?_, ?_, ?_⟩ <;> (intro e; subst e; exact absurd hh (by decide))
    rw [at_eq]
    have hd : (byteR b ++ r).head? = some x := by rw [hx]; rfl
    rw [hd, if_neg (by simpa using hxs.1), if_neg (by simpa using hxs.2.1), if_neg (by simpa using hxs.2.2), let_byte false b hb]
    show some (byteN b, r) = _
    unfold byteN
    congr 3
    refine set_ext _ _ (ok_with _ _ _ (by omega) ok_no) hs fun c hc => ?_
    rw [has_with _ _ _ hc _ (by omega), has_no, Bool.false_or]
    by_cases e : c = b
    · rw [e, hsb]; simp
    · rw [hall c hc e]; simp; omega
  · rename_i h0 h1
    obtain ⟨b, hb, hrb1, hrb2⟩ := run_first s 256 h0
    have hex : ∃ c, 0 ≤ c ∧ c < 0 + 256 ∧ runT s c ≠ [] := ⟨b, Nat.zero_le _, by omega, by unfold runT; rw [if_pos ⟨hrb1, hrb2⟩]; unfold spanT; obtain ⟨x, q, hx, _⟩ := byte_head b; rw [hx]; simp⟩
    have hh := runs_head s 256 0 (93 :: r) hex
    obtain ⟨t', ht, hok, hsame⟩ := runs_parse s 256 0 ((runsT s 256 0 ++ 93 :: r).length + 1) true noR r rfl (Nat.lt_succ_self _) ok_no (fun c hc => by
      rw [has_no]
      constructor
      · intro h; cases h
      · rintro ⟨_, h | ⟨h, _⟩⟩ <;> omega) (fun _ => hex)
    rw [at_eq]
    have hl : 91 :: (runsT s 256 0 ++ [93]) ++ r = 91 :: (runsT s 256 0 ++ 93 :: r) := by simp
    rw [hl, if_neg (by simp), if_pos (by simp)]
    show bracketR (runsT s 256 0 ++ 93 :: r) = _
    unfold bracketR
    rw [if_neg hh.2.2.2, ht]
    show some (Nd.mk 1 t' [], r) = _
    congr 3
    exact set_ext _ _ hok hs fun c hc => Bool.eq_iff_iff.2 (hsame c hc)

theorem may_parts {k : Int} {s : St4} {l : List Nd} (h : mayR (.mk k s l) = true) : formR k s l.length = true ∧ mayL l = true := by
  rw [mayR, Bool.and_eq_true] at h; exact h
/-- What the form says. -/
theorem form_spec {k : Int} {s : St4} {n : Nat} (h : formR k s n = true) : 0 ≤ k ∧ k ≤ 6 ∧ (k < 2 → n = 0) ∧ (4 ≤ k → n = 1) ∧ (k = 2 ∨ k = 3 → 2 ≤ n) ∧ (k ≠ 1 → s = noR) := by
  unfold formR at h
  simp only [Bool.and_eq_true, Bool.not_eq_true', Bool.or_eq_true, decide_eq_true_eq, Bool.and_eq_false_iff, decide_eq_false_iff_not, Bool.or_eq_false_iff] at h
  obtain ⟨⟨⟨⟨h1, h2⟩, h3⟩, h4⟩, h5⟩ := h
  refine ⟨h1.1, h1.2, fun h => by omega, fun h => by omega, fun h => by omega, fun h => ?_⟩
  rcases h5 with h5 | h5
  · exact absurd h5 h
  · exact h5
theorem form_of {k : Int} {s : St4} {n : Nat} (h0 : 0 ≤ k) (h6 : k ≤ 6) (h1 : k < 2 → n = 0) (h2 : 4 ≤ k → n = 1) (h3 : k = 2 ∨ k = 3 → 2 ≤ n) (h4 : k ≠ 1 → s = noR) : formR k s n = true := by
  unfold formR
  simp only [Bool.and_eq_true, Bool.not_eq_true', Bool.or_eq_true, decide_eq_true_eq, Bool.and_eq_false_iff, decide_eq_false_iff_not, Bool.or_eq_false_iff]
  refine ⟨⟨⟨⟨⟨h0, h6⟩, by omega⟩, by omega⟩, by omega⟩, ?_⟩
  by_cases e : k = 1
  · exact .inl e
  · exact .inr (h4 e)
def NextR (r : List Nat) : Prop := r = [] ∨ r.head? = some 41 ∨ r.head? = some 124
theorem signs_next {r : List Nat} (h : NextR r) (n : Nd) : signsR n r = (n, r) := by
  match r, h with
  | [], _ => rfl
  | c :: t, h =>
    have : c = 41 ∨ c = 124 := by
      rcases h with h | h | h
      · cases h
      · cases h; exact .inl rfl
      · cases h; exact .inr rfl
    simp only [signsR]
    rw [if_neg]
    rcases this with rfl | rfl <;> decide
theorem signs_head {r : List Nat} (h : HeadR r) (n : Nd) : signsR n r = (n, r) := by
  obtain ⟨c, t, rfl, _, _, h1, h2, h3⟩ := h
  simp only [signsR]
  rw [if_neg]
  unfold signR
  rw [if_neg h1, if_neg h2, if_neg h3]
  decide
def pieceR (l : List Nat) : Option (Nd × List Nat) := (atR l).map fun x => signsR x.1 x.2
theorem rw_piece {l q : List Nat} {n : Nd} (hh : HeadR l) (hp : pieceR l = some (n, q)) (all row : List Nd) : rwR l all row = rwR q all (row ++ [n]) := by
  obtain ⟨c, t, rfl, h41, h124, _⟩ := hh
  rw [rw_eq, if_neg (by simp [h41]), if_neg (by simp [h124])]
  unfold pieceR at hp
  rcases ha : atR (c :: t) with _ | ⟨m, z⟩
  · rw [ha] at hp; cases hp
  · rw [ha] at hp
    simp only [Option.map_some, Option.some.injEq] at hp
    show rwR (signsR m z).2 all (row ++ [(signsR m z).1]) = _
    rw [hp]
theorem rw_next {r : List Nat} (h : r = [] ∨ r.head? = some 41) (all row : List Nd) : rwR r all row = some (joinR 3 (all ++ [joinR 2 row]), r) := by
  rw [rw_eq, if_pos h]
theorem rw_bar (t : List Nat) (all row : List Nd) : rwR (124 :: t) all row = rwR t (all ++ [joinR 2 row]) [] := by
  rw [rw_eq, if_neg (by simp), if_pos (by simp)]; rfl

def IsPiece (n : Nd) : Prop := n.kind ≠ 2 ∧ n.kind ≠ 3
theorem wrap_head (k kk : Int) (t : List Nat) (h : HeadR t) : HeadR (wrapT k kk t) := by
  unfold wrapT
  split
  · exact ⟨40, _, rfl, by decide⟩
  · exact h
mutual
theorem show_head : ∀ (n : Nd), mayR n = true → HeadR (showT n)
  | .mk k s l, h => by
    obtain ⟨h1, h2⟩ := may_parts h
    obtain ⟨f0, f6, f1, f4, f2, fs⟩ := form_spec h1
    rw [showT]
    split
    · exact ⟨40, _, rfl, by decide⟩
    split
    · exact set_head s
    · refine head_app ?_ _
      match l, h2, f4, f2 with
      | [], _, f4, f2 => simp at f4 f2; omega
      | n :: l, h2, _, _ =>
        rw [mayL, Bool.and_eq_true] at h2
        rw [showL]
        refine head_app ?_ _
        rw [if_neg (by simp), List.nil_append]
        exact wrap_head _ _ _ (show_head n h2.1)
end
theorem showL_next (k : Int) : ∀ (l : List Nd) (r : List Nat), mayL l = true → k ≠ 3 → NextR r → NextR (showL k false l ++ r) ∨ HeadR (showL k false l ++ r)
  | [], r, _, _, hr => .inl (by rw [showL]; exact hr)
  | n :: l, r, h, hk, _ => by
    rw [mayL, Bool.and_eq_true] at h
    refine .inr (head_app ?_ _)
    rw [showL]
    refine head_app ?_ _
    rw [if_neg (by simp [hk]), List.nil_append]
    exact wrap_head _ _ _ (show_head n h.1)
/-- How a node's text is read: as a piece; as a row; as a whole. -/
structure Reads (n : Nd) : Prop where
  may : mayR n = true
  piece : IsPiece n → ∀ r, pieceR (showT n ++ r) = some (signsR n r)
  row : n.kind ≠ 3 → ∃ row, joinR 2 row = n ∧ ∀ all r, NextR r → rwR (showT n ++ r) all [] = rwR r all row
  whole : ∀ r, (r = [] ∨ r.head? = some 41) → rwR (showT n ++ r) [] [] = some (n, r)
theorem Reads.of_row {n : Nd} (hm : mayR n = true) (hp : ¬ IsPiece n) (_ : n.kind ≠ 3) (hr : ∃ row, joinR 2 row = n ∧ ∀ all r, NextR r → rwR (showT n ++ r) all [] = rwR r all row) : Reads n := by
  refine ⟨hm, fun h => absurd h hp, fun _ => hr, fun r h => ?_⟩
  obtain ⟨row, hj, hrow⟩ := hr
  rw [hrow [] r (h.elim .inl fun h => .inr (.inl h)), rw_next h, List.nil_append, hj]
  rfl
theorem Reads.of_piece {n : Nd} (hm : mayR n = true) (_ : IsPiece n) (hp : ∀ r, pieceR (showT n ++ r) = some (signsR n r)) : Reads n := by
  have hr : ∀ all r, NextR r → rwR (showT n ++ r) all [] = rwR r all [n] := fun all r h => by
    rw [rw_piece (head_app (show_head n hm) r) (by rw [hp r, signs_next h]), List.nil_append]
  refine ⟨hm, fun _ => hp, fun _ => ⟨[n], rfl, hr⟩, fun r h => ?_⟩
  rw [hr [] r (h.elim .inl fun h => .inr (.inl h)), rw_next h]
  rfl
theorem Reads.wrapped {n : Nd} (h : Reads n) (r : List Nat) : pieceR (40 :: (showT n ++ [41]) ++ r) = some (signsR n r) := by
  unfold pieceR
  have e : 40 :: (showT n ++ [41]) ++ r = 40 :: (showT n ++ 41 :: r) := by simp
  rw [e, at_eq, if_pos (by simp)]
  show Option.map _ (match rwR (showT n ++ 41 :: r) [] [] with
      | none => none
      | some (n, r) => if r.head? = some 41 then some (n, r.tail) else none) = _
  rw [h.whole (41 :: r) (.inr rfl)]
  simp
theorem Reads.inRow {n : Nd} (h : Reads n) (k : Int) (hk : ¬ (n.kind = 2 ∧ k = 3)) (r : List Nat) : pieceR (wrapT k n.kind (showT n) ++ r) = some (signsR n r) := by
  unfold wrapT
  split
  · exact h.wrapped r
  · rename_i hw
    refine h.piece ⟨fun e => ?_, fun e => hw (.inl e)⟩ r
    by_cases e3 : k = 3
    · exact hk ⟨e, e3⟩
    · exact hw (.inr ⟨e, e3⟩)
theorem rowL_reads : ∀ (l : List Nd), (∀ m, m ∈ l → Reads m) → ∀ first all row r, NextR r → rwR (showL 2 first l ++ r) all row = rwR r all (row ++ l)
  | [], _, first, all, row, r, _ => by rw [showL, List.nil_append, List.append_nil]
  | n :: l, h, first, all, row, r, hr => by
    have hn := h n (by simp)
    have hml : mayL l = true := by
      have aux : ∀ l : List Nd, (∀ m, m ∈ l → Reads m) → mayL l = true := by
        intro l
        induction l with
        | nil => intro _; rfl
        | cons m l ih => intro h; rw [mayL, (h m (by simp)).may, ih (fun x hx => h x (by simp [hx]))]; rfl
      exact aux l fun x hx => h x (by simp [hx])
    rw [showL, if_neg (by simp), List.nil_append, List.append_assoc]
    have hs : signsR n (showL 2 false l ++ r) = (n, showL 2 false l ++ r) := by
      rcases showL_next 2 l r hml (by decide) hr with h1 | h1
      · exact signs_next h1 n
      · exact signs_head h1 n
    rw [rw_piece (head_app (wrap_head _ _ _ (show_head n hn.may)) _) (by rw [hn.inRow 2 (by simp), hs]), rowL_reads l (fun x hx => h x (by simp [hx])) false all _ r hr]
    simp
theorem barL_reads : ∀ (l : List Nd) (n : Nd), (∀ m, m ∈ n :: l → Reads m) → ∀ all r, (r = [] ∨ r.head? = some 41) → rwR (showL 3 true (n :: l) ++ r) all [] = some (joinR 3 (all ++ n :: l), r)
  | l, n, h, all, r, hr => by
    have hn := h n (by simp)
    have hrow : ∃ row, joinR 2 row = n ∧ ∀ all r, NextR r → rwR (wrapT 3 n.kind (showT n) ++ r) all [] = rwR r all row := by
      by_cases e : n.kind = 3
      · refine ⟨[n], rfl, fun all r h => ?_⟩
        rw [rw_piece (head_app (wrap_head _ _ _ (show_head n hn.may)) _) (by rw [hn.inRow 3 (by simp [e]), signs_next h]), List.nil_append]
      · obtain ⟨row, hj, hx⟩ := hn.row e
        refine ⟨row, hj, fun all r h => ?_⟩
        unfold wrapT
        rw [if_neg (by simp [e])]
        exact hx all r h
    obtain ⟨row, hj, hx⟩ := hrow
    rw [showL, if_neg (by simp), List.nil_append, List.append_assoc]
    match l, h with
    | [], _ =>
      rw [showL, List.nil_append, hx all r (hr.elim .inl fun h => .inr (.inl h)), rw_next hr, hj]
    | m :: l, h =>
      have e : showL 3 false (m :: l) ++ r = 124 :: (showL 3 true (m :: l) ++ r) := by
        rw [showL, showL, if_pos (by simp), if_neg (by simp)]; simp
      rw [e, hx all _ (.inr (.inr rfl)), rw_bar, hj, barL_reads l m (fun x hx => h x (List.mem_cons_of_mem _ hx)) _ r hr]
      simp
mutual
theorem reads : ∀ (n : Nd), mayR n = true → wfR n → Reads n
  | .mk k s l, h, hw => by
    obtain ⟨h1, h2⟩ := may_parts h
    obtain ⟨f0, f6, f1, f4, f2, fs⟩ := form_spec h1
    rw [wfR] at hw
    have hl := readsL l h2 hw.2
    by_cases k0 : k = 0
    · subst k0
      have e1 : l = [] := List.eq_nil_of_length_eq_zero (f1 (by decide))
      have e2 : s = noR := fs (by decide)
      subst e1 e2
      refine Reads.of_piece h ⟨by decide, by decide⟩ fun r => ?_
      unfold pieceR
      rw [showT, if_pos rfl, at_eq, if_pos (by simp)]
      show Option.map _ (match rwR (41 :: r) [] [] with
        | none => none
        | some (n, r) => if r.head? = some 41 then some (n, r.tail) else none) = _
      rw [rw_next (.inr rfl)]
      simp [joinR, emptyR]
    by_cases k1 : k = 1
    · subst k1
      have e1 : l = [] := List.eq_nil_of_length_eq_zero (f1 (by decide))
      subst e1
      refine Reads.of_piece h ⟨show (1 : Int) ≠ 2 by decide, show (1 : Int) ≠ 3 by decide⟩ fun r => ?_
      unfold pieceR
      rw [showT, if_neg (by decide), if_pos rfl, set_parse s hw.1]
      rfl
    have e2 : s = noR := fs k1
    subst e2
    have hsh : showT (.mk k noR l) = showL k true l ++ tailT k := by rw [showT, if_neg k0, if_neg k1]
    by_cases k4 : 4 ≤ k
    · obtain ⟨m, rfl⟩ : ∃ m, l = [m] := List.length_eq_one_iff.1 (f4 k4)
      have hm := hl m (by simp)
      refine Reads.of_piece h ⟨show k ≠ 2 by omega, show k ≠ 3 by omega⟩ fun r => ?_
      rw [hsh, showL, showL, if_neg (by simp), List.nil_append, List.append_nil, List.append_assoc, hm.inRow k (by omega)]
      have h456 : k = 4 ∨ k = 5 ∨ k = 6 := by omega
      rcases h456 with rfl | rfl | rfl <;> rfl
    have hnil : tailT k = [] := by unfold tailT; rw [if_neg (by omega), if_neg (by omega), if_neg (by omega)]
    have h2l : 2 ≤ l.length := f2 (by omega)
    match l, h2l, hl, h, hsh with
    | a :: b :: l, _, hl, h, hsh =>
    by_cases k2 : k = 2
    · subst k2
      refine Reads.of_row h (fun h => h.1 rfl) (show (2 : Int) ≠ 3 by decide) ⟨a :: b :: l, rfl, fun all r hr => ?_⟩
      rw [hsh, hnil, List.append_nil, rowL_reads _ hl true all [] r hr, List.nil_append]
    · have k3 : k = 3 := by omega
      subst k3
      refine ⟨h, fun h => absurd rfl h.2, fun h => absurd rfl h, fun r hr => ?_⟩
      rw [hsh, hnil, List.append_nil, barL_reads _ a hl [] r hr]
      rfl
theorem readsL : ∀ (l : List Nd), mayL l = true → wfL l → ∀ m, m ∈ l → Reads m
  | [], _, _, m, hm => by cases hm
  | n :: l, h, hw, m, hm => by
    rw [mayL, Bool.and_eq_true] at h
    rw [wfL] at hw
    rcases List.mem_cons.1 hm with e | hm
    · rw [e]; exact reads n h.1 hw.1
    · exact readsL l h.2 hw.2 m hm
end
/-- What is shown of a node that may be is parsed as it. -/
theorem show_back (n : Nd) (h : mayR n = true) (hw : wfR n) : parseR (showT n) = some n := by
  have := (reads n h hw).whole [] (.inl rfl)
  rw [List.append_nil] at this
  rw [parse_eq, this]
end Go.Proofs.YtkopbngnhgdfhaaDoor

/-
  limnerref10: Has, with: what each returns.
-/
namespace Go.Proofs.YtkopbngnhgdfhaaDoor
open Go.RowKit

theorem bit_int (x k : Nat) : (((x : Int) / 2 ^ k).tmod 2 == 1) = x.testBit k := by
  have e : (x : Int) / 2 ^ k = ((x / 2 ^ k : Nat) : Int) := by rw [Int.natCast_ediv, Int.natCast_pow]; rfl
  have e2 : ((x / 2 ^ k : Nat) : Int).tmod 2 = ((x / 2 ^ k % 2 : Nat) : Int) := by rw [show (2 : Int) = ((2 : Nat) : Int) from rfl, ← Int.ofNat_tmod]
  rw [e, e2, Nat.testBit_eq_decide_div_mod_eq]
  by_cases h : x / 2 ^ k % 2 = 1
  · rw [h]; rfl
  · rw [decide_eq_false h]
    exact beq_eq_false_iff_ne.2 (by omega)
set_option maxHeartbeats 2000000 in
theorem rhas_any (s : St4) (b : Nat) (w : World) (hs : OkR s) (hb : b < 256) :
    Calls Tryd.prog 61 #[setV s, .int .u8 (b : Int)] w fun e w' => e = .returned (.bool (hasR s b)) ∧ Below w.heap.size w w' := by
  unfold setV
  obtain ⟨k, hk⟩ : ∃ k, b % 64 = k := ⟨_, rfl⟩
  have hk64 : k < 64 := by omega
  have e2 : (b : Int).tmod 64 = (k : Int) := by rw [show (64 : Int) = ((64 : Nat) : Int) from rfl, ← Int.ofNat_tmod, hk]
  have hba := alloc_under w (.cells #[.int .u64 (s.1 : Int), .int .u64 (s.2.1 : Int), .int .u64 (s.2.2.1 : Int), .int .u64 (s.2.2.2 : Int)] 23)
  have HB := Lib.hid hba
  clear hba
  have h4 : b / 64 = 0 ∨ b / 64 = 1 ∨ b / 64 = 2 ∨ b / 64 = 3 := by omega
  rcases h4 with hq | hq | hq | hq
  · have e1 : (b : Int).tdiv 64 = 0 := by rw [show (64 : Int) = ((64 : Nat) : Int) from rfl, ← Int.ofNat_tdiv, hq]; rfl
    have hx := hs.1
    have HR : Hid (hasR s b = (s.1).testBit k) := by unfold hasR; rw [hq, hk]; rfl
    obtain ⟨x, hxx⟩ : ∃ x, s.1 = x := ⟨_, rfl⟩
    rw [hxx] at hx HR
    rw [hxx] at HB ⊢
    clear hxx hs
    go_enter Tryd.func61, Tryd.ntmps61
    go_wp2_with fail
    go_ret
    exact ⟨by rw [HR.out, ← bit_int]; rfl, HB.out⟩
  · have e1 : (b : Int).tdiv 64 = 1 := by rw [show (64 : Int) = ((64 : Nat) : Int) from rfl, ← Int.ofNat_tdiv, hq]; rfl
    have hx := hs.2.1
    have HR : Hid (hasR s b = (s.2.1).testBit k) := by unfold hasR; rw [hq, hk]; rfl
    obtain ⟨x, hxx⟩ : ∃ x, s.2.1 = x := ⟨_, rfl⟩
    rw [hxx] at hx HR
    rw [hxx] at HB ⊢
    clear hxx hs
    go_enter Tryd.func61, Tryd.ntmps61
    go_wp2_with fail
    go_ret
    exact ⟨by rw [HR.out, ← bit_int]; rfl, HB.out⟩
  · have e1 : (b : Int).tdiv 64 = 2 := by rw [show (64 : Int) = ((64 : Nat) : Int) from rfl, ← Int.ofNat_tdiv, hq]; rfl
    have hx := hs.2.2.1
    have HR : Hid (hasR s b = (s.2.2.1).testBit k) := by unfold hasR; rw [hq, hk]; rfl
    obtain ⟨x, hxx⟩ : ∃ x, s.2.2.1 = x := ⟨_, rfl⟩
    rw [hxx] at hx HR
    rw [hxx] at HB ⊢
    clear hxx hs
    go_enter Tryd.func61, Tryd.ntmps61
    go_wp2_with fail
    go_ret
    exact ⟨by rw [HR.out, ← bit_int]; rfl, HB.out⟩
  · have e1 : (b : Int).tdiv 64 = 3 := by rw [show (64 : Int) = ((64 : Nat) : Int) from rfl, ← Int.ofNat_tdiv, hq]; rfl
    have hx := hs.2.2.2
    have HR : Hid (hasR s b = (s.2.2.2).testBit k) := by unfold hasR; rw [hq, hk]; rfl
    obtain ⟨x, hxx⟩ : ∃ x, s.2.2.2 = x := ⟨_, rfl⟩
    rw [hxx] at hx HR
    rw [hxx] at HB ⊢
    clear hxx hs
    go_enter Tryd.func61, Tryd.ntmps61
    go_wp2_with fail
    go_ret
    exact ⟨by rw [HR.out, ← bit_int]; rfl, HB.out⟩
end Go.Proofs.YtkopbngnhgdfhaaDoor
