/-
  Texts of this proof, one behind the other; each begins with its own remark.
-/
import Derived.Test.YtkopbngnhgdfhaaDoorBe2
/-
  regs, plain: what is read of a text may be, and is not too deep. No call is walked here.
-/
namespace Go.Proofs.YtkopbngnhgdfhaaDoor

/-! ### What is read may be -/
theorem spans_ok : ∀ (f : Nat) (first : Bool) (s : St4) (l : List Nat) (x : St4 × List Nat), (∀ y, y ∈ l → y < 256) → OkR s → spansR f first s l = some x → OkR x.1 ∧ ∀ y, y ∈ x.2 → y ∈ l
  | 0, _, _, _, _, _, _, h => by cases h
  | f + 1, first, s, l, x, hl, hs, h => by
    simp only [spansR] at h
    split at h
    · cases h; exact ⟨hs, fun y hy => List.mem_of_mem_tail hy⟩
    split at h
    · cases h
    · rename_i a r ha
      have h1 := let_lt hl ha
      have h2 := let_mem ha
      split at h
      · split at h
        · cases h
        · rename_i b u hb
          have h3 := let_lt (fun y hy => hl y (h2 y (List.mem_of_mem_tail hy))) hb
          have h4 := let_mem hb
          split at h
          · cases h
          · obtain ⟨q1, q2⟩ := spans_ok f _ _ u x (fun y hy => hl y (h2 y (List.mem_of_mem_tail (h4 y hy)))) (ok_with _ _ _ (by omega) hs) h
            exact ⟨q1, fun y hy => h2 y (List.mem_of_mem_tail (h4 y (q2 y hy)))⟩
      · obtain ⟨q1, q2⟩ := spans_ok f _ _ r x (fun y hy => hl y (h2 y hy)) (ok_with _ _ _ (by omega) hs) h
        exact ⟨q1, fun y hy => h2 y (q2 y hy)⟩
/-- A good node, at most so deep. -/
structure Good (n : Nd) (d : Nat) : Prop where
  may : mayR n = true
  wf : wfR n
  deep : deepR n ≤ d
theorem Good.mono {n : Nd} {d e : Nat} (h : Good n d) (hd : d ≤ e) : Good n e := ⟨h.may, h.wf, Nat.le_trans h.deep hd⟩
theorem deep_pos (n : Nd) : 1 ≤ deepR n := by
  cases n with
  | mk k s l => rw [deepR]; omega
theorem good_bytes (s : St4) (hs : OkR s) : Good (.mk 1 s []) 1 := ⟨by rw [mayR, mayL]; rfl, by rw [wfR, wfL]; exact ⟨hs, trivial⟩, by rw [deepR, deepL]; exact Nat.le_refl _⟩
theorem good_list : ∀ (l : List Nd) (d : Nat), (∀ x, x ∈ l → Good x d) → mayL l = true ∧ wfL l ∧ deepL l ≤ d
  | [], d, _ => ⟨rfl, trivial, Nat.zero_le _⟩
  | n :: l, d, h => by
    have h1 := h n (by simp)
    obtain ⟨a, b, c⟩ := good_list l d fun x hx => h x (by simp [hx])
    rw [mayL, wfL, deepL, h1.may, a]
    exact ⟨rfl, ⟨h1.wf, b⟩, Nat.max_le.2 ⟨h1.deep, c⟩⟩
theorem good_kids (k : Int) (l : List Nd) (d : Nat) (hk : formR k noR l.length = true) (h : ∀ x, x ∈ l → Good x d) : Good (.mk k noR l) (d + 1) := by
  obtain ⟨a, b, c⟩ := good_list l d h
  refine ⟨by rw [mayR, hk, a]; rfl, by rw [wfR]; exact ⟨ok_no, b⟩, by rw [deepR]; omega⟩
theorem good_join (k : Int) (hk : k = 2 ∨ k = 3) (l : List Nd) (d : Nat) (h : ∀ x, x ∈ l → Good x d) (h2 : 2 ≤ l.length → ∀ x, x ∈ l → Good x (d - 1)) (hd : 1 ≤ d) : Good (joinR k l) d := by
  match l, h, h2 with
  | [], _, _ => exact ⟨rfl, ⟨ok_no, trivial⟩, hd⟩
  | [x], h, _ => exact h x (by simp)
  | x :: y :: l, _, h2 =>
    have := good_kids k (x :: y :: l) (d - 1) (form_of (by omega) (by omega) (by omega) (by omega) (fun _ => by simp) (fun _ => rfl)) (h2 (by simp))
    rw [show d - 1 + 1 = d by omega] at this
    exact this
theorem bracket_good {l r : List Nat} {n : Nd} (hl : ∀ y, y ∈ l → y < 256) (h : bracketR l = some (n, r)) : Good n 1 ∧ ∀ y, y ∈ r → y ∈ l := by
  unfold bracketR at h
  split at h
  · rcases hs : spansR (l.length + 1) true noR l.tail with _ | x
    · rw [hs] at h; cases h
    · rw [hs] at h
      cases h
      obtain ⟨a, b⟩ := spans_ok _ _ _ _ _ (fun y hy => hl y (List.mem_of_mem_tail hy)) ok_no hs
      exact ⟨good_bytes _ (ok_not _ 256 (Nat.le_refl _)), fun y hy => List.mem_of_mem_tail (b y hy)⟩
  · rcases hs : spansR (l.length + 1) true noR l with _ | x
    · rw [hs] at h; cases h
    · rw [hs] at h
      cases h
      obtain ⟨a, b⟩ := spans_ok _ _ _ _ _ hl ok_no hs
      exact ⟨good_bytes _ a, b⟩
theorem signs_good : ∀ (l : List Nat) (n : Nd) (d : Nat), Good n d → ∃ e, Good (signsR n l).1 e ∧ e + (signsR n l).2.length = d + l.length ∧ ∀ y, y ∈ (signsR n l).2 → y ∈ l
  | [], n, d, h => ⟨d, h, rfl, fun y hy => hy⟩
  | c :: t, n, d, h => by
    simp only [signsR]
    split
    · rename_i hc
      have hk : formR ((signR c : Nat) : Int) noR [n].length = true := by
        unfold signR at hc ⊢
        by_cases h1 : c = 42
        · rw [if_pos h1]; rfl
        by_cases h2 : c = 43
        · rw [if_neg h1, if_pos h2]; rfl
        by_cases h3 : c = 63
        · rw [if_neg h1, if_neg h2, if_pos h3]; rfl
        · rw [if_neg h1, if_neg h2, if_neg h3] at hc; omega
      obtain ⟨e, h1, h2, h3⟩ := signs_good t _ (d + 1) (good_kids _ [n] d hk fun x hx => by rw [List.mem_singleton.1 hx]; exact h)
      exact ⟨e, h1, by simp only [List.length_cons]; omega, fun y hy => List.mem_cons_of_mem _ (h3 y hy)⟩
    · exact ⟨d, h, rfl, fun y hy => hy⟩
theorem rows_good : ∀ (N : Nat) (l : List Nat), l.length ≤ N → (∀ y, y ∈ l → y < 256) →
    (∀ n r, atR l = some (n, r) → Good n (l.length - r.length) ∧ ∀ y, y ∈ r → y ∈ l) ∧
    (∀ all row ca cr n r, (∀ x, x ∈ row → Good x cr) → (2 ≤ row.length → ∀ x, x ∈ row → Good x (cr - 1)) → (∀ x, x ∈ all → Good x (max 2 ca - 1)) → (all ≠ [] → 1 ≤ ca) → rwR l all row = some (n, r) → Good n (max 2 (ca + cr + (l.length - r.length))) ∧ ∀ y, y ∈ r → y ∈ l)
  | N, l, hN, hl => by
    have hA : ∀ n r, atR l = some (n, r) → Good n (l.length - r.length) ∧ ∀ y, y ∈ r → y ∈ l := by
      intro n r h
      have hlt := at_len h
      have htl : l.tail.length + 1 = l.length := by rw [List.length_tail]; omega
      rw [at_eq] at h
      split at h
      · rename_i hc
        split at h
        · cases h
        · rename_i m q hq
          split at h
          · rename_i hp
            cases h
            have h4 := congrArg List.length (head_tail hp)
            simp only [List.length_cons] at h4
            obtain ⟨N, rfl⟩ : ∃ k, N = k + 1 := ⟨N - 1, by omega⟩
            obtain ⟨g1, g2⟩ := (rows_good N l.tail (by omega) (fun y hy => hl y (List.mem_of_mem_tail hy))).2 [] [] 0 0 _ q (fun x hx => by cases hx) (fun h => by simp at h) (fun x hx => by cases hx) (fun h => absurd rfl h) hq
            have h5 := rw_len hq
            refine ⟨g1.mono ?_, fun y hy => List.mem_of_mem_tail (g2 y (List.mem_of_mem_tail hy))⟩
            omega
          · cases h
      split at h
      · obtain ⟨g1, g2⟩ := bracket_good (fun y hy => hl y (List.mem_of_mem_tail hy)) h
        exact ⟨g1.mono (by omega), fun y hy => List.mem_of_mem_tail (g2 y hy)⟩
      split at h
      · cases h
        exact ⟨(good_bytes _ (ok_with _ _ _ (by omega) (ok_with _ _ _ (by omega) ok_no))).mono (by omega), fun y hy => List.mem_of_mem_tail hy⟩
      · rcases hs : letR false l with _ | x
        · rw [hs] at h; cases h
        · rw [hs] at h
          cases h
          have := let_lt hl hs
          exact ⟨(good_bytes _ (ok_with _ _ _ (by omega) ok_no)).mono (by omega), let_mem hs⟩
    refine ⟨hA, fun all row ca cr n r hrow hrow2 hall hca h => ?_⟩
    have hj : Good (joinR 2 row) (max cr 1) := good_join 2 (.inl rfl) row _ (fun x hx => (hrow x hx).mono (by omega)) (fun h2 x hx => (hrow2 h2 x hx).mono (by omega)) (by omega)
    rw [rw_eq] at h
    split at h
    · cases h
      refine ⟨good_join 3 (.inr rfl) _ _ (fun x hx => ?_) (fun h2 x hx => ?_) (by omega), fun y hy => hy⟩
      · rcases List.mem_append.1 hx with hx | hx
        · exact (hall x hx).mono (by omega)
        · rw [List.mem_singleton.1 hx]; exact hj.mono (by omega)
      · have hne : all ≠ [] := by
          intro e
          subst e
          simp at h2
        have := hca hne
        rcases List.mem_append.1 hx with hx | hx
        · exact (hall x hx).mono (by omega)
        · rw [List.mem_singleton.1 hx]; exact hj.mono (by omega)
    split at h
    · rename_i hc
      have h4 := congrArg List.length (head_tail hc)
      simp only [List.length_cons] at h4
      obtain ⟨N, rfl⟩ : ∃ k, N = k + 1 := ⟨N - 1, by omega⟩
      obtain ⟨g1, g2⟩ := (rows_good N l.tail (by omega) (fun y hy => hl y (List.mem_of_mem_tail hy))).2 (all ++ [joinR 2 row]) [] (ca + cr + 1) 0 n r (fun x hx => by cases hx) (fun h => by simp at h) (fun x hx => by
        rcases List.mem_append.1 hx with hx | hx
        · exact (hall x hx).mono (by omega)
        · rw [List.mem_singleton.1 hx]; exact hj.mono (by omega)) (fun _ => by omega) h
      have h5 := rw_len h
      exact ⟨g1.mono (by omega), fun y hy => List.mem_of_mem_tail (g2 y hy)⟩
    split at h
    · cases h
    · rename_i m q hq
      obtain ⟨g1, g2⟩ := hA m q hq
      have hlt := at_len hq
      obtain ⟨e, s1, s2, s3⟩ := signs_good q m _ g1
      have hsl := signs_len q m
      obtain ⟨N, rfl⟩ : ∃ k, N = k + 1 := ⟨N - 1, by omega⟩
      have hep := deep_pos (signsR m q).1
      have hed := s1.deep
      obtain ⟨k1, k2⟩ := (rows_good N (signsR m q).2 (by omega) (fun y hy => hl y (g2 y (s3 y hy)))).2 all (row ++ [(signsR m q).1]) ca (cr + e) n r (fun x hx => by
        rcases List.mem_append.1 hx with hx | hx
        · exact (hrow x hx).mono (by omega)
        · rw [List.mem_singleton.1 hx]; exact s1.mono (by omega)) (fun h2 x hx => by
        rcases List.mem_append.1 hx with hx | hx
        · exact (hrow x hx).mono (by omega)
        · rw [List.mem_singleton.1 hx]
          have hne : row ≠ [] := by
            intro e
            subst e
            simp at h2
          obtain ⟨z, zs, hz⟩ := List.exists_cons_of_ne_nil hne
          have h7 := (hrow z (by rw [hz]; simp)).deep
          have h8 := deep_pos z
          exact s1.mono (by omega)) hall hca h
      have h5 := rw_len h
      exact ⟨k1.mono (by omega), fun y hy => g2 y (s3 y (k2 y hy))⟩
theorem parse_good (l : List Nat) (n : Nd) (hl : ∀ y, y ∈ l → y < 256) (h : parseR l = some n) : mayR n = true ∧ wfR n ∧ deepR n ≤ max 2 l.length := by
  rw [parse_eq] at h
  split at h
  · rename_i m hm
    cases h
    have := ((rows_good _ l (Nat.le_refl _) hl).2 [] [] 0 0 _ [] (fun x hx => by cases hx) (fun h => by simp at h) (fun x hx => by cases hx) (fun h => absurd rfl h) hm).1
    exact ⟨this.may, this.wf, Nat.le_trans this.deep (by simp)⟩
  · cases h
end Go.Proofs.YtkopbngnhgdfhaaDoor

/-
  How many nodes a node is; that what is read of a text has not too many. No call is walked here.
-/
namespace Go.Proofs.YtkopbngnhgdfhaaDoor

mutual
def wtR : Nd → Nat
  | .mk _ _ l => wtL l + 1
def wtL : List Nd → Nat
  | [] => 0
  | n :: l => wtR n + wtL l
end
theorem wt_kids (n : Nd) : wtR n = wtL n.kids + 1 := by
  cases n with
  | mk k s l => rw [wtR]; rfl
theorem wt_pos (n : Nd) : 1 ≤ wtR n := by rw [wt_kids]; omega
theorem wtL_len : ∀ (l : List Nd), l.length ≤ wtL l
  | [] => Nat.le_refl _
  | n :: l => by
    have := wtL_len l
    have := wt_pos n
    rw [wtL, List.length_cons]; omega
theorem wtL_app : ∀ (l m : List Nd), wtL (l ++ m) = wtL l + wtL m
  | [], m => by simp [wtL]
  | n :: l, m => by rw [List.cons_append, wtL, wtL, wtL_app l m]; omega
theorem wtL_one (n : Nd) : wtL [n] = wtR n := by simp [wtL]
theorem wtL_mem : ∀ (l : List Nd) (n : Nd), n ∈ l → wtR n ≤ wtL l
  | m :: l, n, h => by
    rw [wtL]
    rcases List.mem_cons.1 h with rfl | h
    · omega
    · have := wtL_mem l n h; omega
theorem wt_join (k : Int) (l : List Nd) : wtR (joinR k l) ≤ wtL l + 1 := by
  match l with
  | [] => simp [joinR, emptyR, wtR, wtL]
  | [x] => simp [joinR, wtL]
  | x :: y :: l => simp [joinR, wtR]
theorem wt_signs : ∀ (l : List Nat) (n : Nd), wtR (signsR n l).1 + (signsR n l).2.length = wtR n + l.length
  | [], n => rfl
  | c :: t, n => by
    simp only [signsR]
    split
    · have := wt_signs t (.mk (signR c : Nat) noR [n])
      rw [this]
      simp only [wtR, wtL, List.length_cons]
      omega
    · rfl
theorem wt_bracket {l r : List Nat} {n : Nd} (h : bracketR l = some (n, r)) : wtR n = 1 := by
  unfold bracketR at h
  split at h
  · rcases hs : spansR (l.length + 1) true noR l.tail with _ | x
    · rw [hs] at h; cases h
    · rw [hs] at h; cases h; simp [wtR, wtL]
  · rcases hs : spansR (l.length + 1) true noR l with _ | x
    · rw [hs] at h; cases h
    · rw [hs] at h; cases h; simp [wtR, wtL]
theorem wt_rows : ∀ (N : Nat) (l : List Nat), l.length ≤ N →
    (∀ n r, atR l = some (n, r) → wtR n + 2 * r.length ≤ 2 * l.length) ∧
    (∀ all row n r, rwR l all row = some (n, r) → wtR n + 2 * r.length ≤ wtL all + wtL row + 2 * l.length + 3)
  | N, l, hN => by
    have hA : ∀ n r, atR l = some (n, r) → wtR n + 2 * r.length ≤ 2 * l.length := by
      intro n r h
      have hlt := at_len h
      have htl : l.tail.length + 1 = l.length := by rw [List.length_tail]; omega
      rw [at_eq] at h
      split at h
      · split at h
        · cases h
        · rename_i m q hq
          split at h
          · rename_i hp
            cases h
            have h4 := congrArg List.length (head_tail hp)
            simp only [List.length_cons] at h4
            obtain ⟨N, rfl⟩ : ∃ k, N = k + 1 := ⟨N - 1, by omega⟩
            have := (wt_rows N l.tail (by omega)).2 [] [] _ q hq
            simp only [wtL] at this
            omega
          · cases h
      split at h
      · have := wt_bracket h
        omega
      split at h
      · cases h
        simp only [dotR, wtR, wtL]
        omega
      · rcases hs : letR false l with _ | x
        · rw [hs] at h; cases h
        · rw [hs] at h
          cases h
          simp only [byteN, wtR, wtL]
          omega
    refine ⟨hA, fun all row n r h => ?_⟩
    have hj := wt_join 2 row
    rw [rw_eq] at h
    split at h
    · cases h
      have := wt_join 3 (all ++ [joinR 2 row])
      rw [wtL_app, wtL_one] at this
      omega
    split at h
    · rename_i hc
      have h4 := congrArg List.length (head_tail hc)
      simp only [List.length_cons] at h4
      obtain ⟨N, rfl⟩ : ∃ k, N = k + 1 := ⟨N - 1, by omega⟩
      have := (wt_rows N l.tail (by omega)).2 _ _ _ r h
      rw [wtL_app, wtL_one] at this
      simp only [wtL] at this
      omega
    split at h
    · cases h
    · rename_i m q hq
      have h1 := hA m q hq
      have hlt := at_len hq
      have h2 := wt_signs q m
      have hsl := signs_len q m
      obtain ⟨N, rfl⟩ : ∃ k, N = k + 1 := ⟨N - 1, by omega⟩
      have := (wt_rows N (signsR m q).2 (by omega)).2 _ _ _ r h
      rw [wtL_app, wtL_one] at this
      omega
theorem wt_parse (l : List Nat) (n : Nd) (h : parseR l = some n) : wtR n ≤ 2 * l.length + 3 := by
  rw [parse_eq] at h
  split at h
  · rename_i m hm
    cases h
    have := (wt_rows _ l (Nat.le_refl _)).2 [] [] _ [] hm
    simp only [wtL, List.length_nil] at this
    omega
  · cases h
end Go.Proofs.YtkopbngnhgdfhaaDoor
