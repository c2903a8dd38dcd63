/-
  Texts of this proof, one behind the other; each begins with its own remark.
-/
import Derived.Test.YtjeomlickkpebaaGreatDoorBe2
/-
  dfas, plain: a table made state by state, byte by byte, out of what stands behind what. No call is walked here.
-/
namespace Go.Proofs.YtjeomlickkpebaaGreatDoor

section
variable {α : Type}
/-- Where the first one that is the same stands; -1: nowhere. -/
def findX (same : α → α → Bool) : List α → α → Nat → Int
  | [], _, _ => -1
  | x :: xs, y, j => if same x y = true then (j : Int) else findX same xs y (j + 1)
theorem findX_no {same : α → α → Bool} {y : α} : ∀ {xs : List α} {j : Nat}, findX same xs y j < 0 → ∀ (i : Nat) x, xs[i]? = some x → same x y = false
  | [], _, _, i, x, h => by simp at h
  | z :: xs, j, h, i, x, hx => by
    rw [findX] at h
    split at h
    · omega
    · rename_i hz
      cases i with
      | zero => cases hx; simpa using hz
      | succ i => exact findX_no h i x hx
theorem findX_yes {same : α → α → Bool} {y : α} : ∀ {xs : List α} {j : Nat}, 0 ≤ findX same xs y j → ∃ (i : Nat) (x : α), findX same xs y j = ((j + i : Nat) : Int) ∧ xs[i]? = some x ∧ same x y = true
  | [], _, h => absurd (show (0 : Int) ≤ -1 from h) (by decide)
  | z :: xs, j, h => by
    rw [findX] at h ⊢
    split
    · rename_i hz
      exact ⟨0, z, rfl, rfl, hz⟩
    · rename_i hz
      rw [if_neg hz] at h
      obtain ⟨i, x, h1, h2, h3⟩ := findX_yes h
      exact ⟨i + 1, x, by rw [h1]; congr 1; omega, h2, h3⟩
theorem findX_low {same : α → α → Bool} {y : α} : ∀ (xs : List α) (j : Nat), -1 ≤ findX same xs y j
  | [], _ => Int.le_refl _
  | z :: xs, j => by
    rw [findX]
    split
    · omega
    · exact findX_low xs (j + 1)
variable (step : α → Nat → α) (dead : α → Bool) (same : α → α → Bool)
def oneX (x : α) (s : List α × List Int) (b : Nat) : List α × List Int :=
  if dead (step x b) = true then (s.1, s.2 ++ [-1])
  else if findX same s.1 (step x b) 0 < 0 then (s.1 ++ [step x b], s.2 ++ [(s.1.length : Int)])
  else (s.1, s.2 ++ [findX same s.1 (step x b) 0])
def rowX (x : α) (xs : List α) : Nat → List α × List Int
  | 0 => (xs, [])
  | b + 1 => oneX step dead same x (rowX x xs b) b
def goX (first : α) : Nat → List α × List (List Int)
  | 0 => ([first], [])
  | k + 1 => match (goX first k).1[k]? with
    | some x => ((rowX step dead same x (goX first k).1 256).1, (goX first k).2 ++ [(rowX step dead same x (goX first k).1 256).2])
    | none => goX first k
/-- What stands behind what, and what it says of texts. -/
structure XHyp (G : α → Prop) (sem : α → List Nat → Int) : Prop where
  step_good : ∀ x b, G x → b < 256 → dead (step x b) = false → G (step x b)
  step_sem : ∀ x b, G x → b < 256 → dead (step x b) = false → ∀ w, ByL w → sem (step x b) w = sem x (b :: w)
  dead_sem : ∀ x b, G x → b < 256 → dead (step x b) = true → ∀ w, ByL w → sem x (b :: w) = -1
  same_sem : ∀ x y, G x → G y → same x y = true → ∀ w, ByL w → sem x w = sem y w
/-- What holds of the states that there are, and of the entries of a row, as far as it is made. -/
structure RowI (G : α → Prop) (sem : α → List Nat → Int) (xs0 : List α) (x : α) (done : List Int) (xs : List α) (row : List Int) : Prop where
  pre : ∃ t, xs = xs0 ++ t
  good : ∀ y, y ∈ xs → G y
  unlike : ∀ (i j : Nat) a b, i < j → xs[i]? = some a → xs[j]? = some b → same a b = false
  scan : scanI (done ++ row) 1 = some xs.length
  ent : ∀ (b : Nat) e, row[b]? = some e → (e = -1 ∧ dead (step x b) = true) ∨ ∃ (k : Nat) (y : α), e = k ∧ xs[k]? = some y ∧ dead (step x b) = false ∧ (y = step x b ∨ same y (step x b) = true) ∧ ∀ w, ByL w → sem y w = sem x (b :: w)
variable {step dead same} {G : α → Prop} {sem : α → List Nat → Int}
theorem row_ok (H : XHyp step dead same G sem) {xs0 : List α} {x : α} {done : List Int} (hx : G x) (h0 : RowI step dead same G sem xs0 x done xs0 []) : ∀ b, b ≤ 256 → RowI step dead same G sem xs0 x done (rowX step dead same x xs0 b).1 (rowX step dead same x xs0 b).2 ∧ (rowX step dead same x xs0 b).2.length = b
  | 0, _ => ⟨h0, rfl⟩
  | b + 1, hb => by
    obtain ⟨h, hl⟩ := row_ok H hx h0 b (by omega)
    rw [rowX]
    generalize hs : rowX step dead same x xs0 b = s at h hl
    obtain ⟨xs, row⟩ := s
    dsimp only at h hl
    have old : ∀ {xs' : List α} {e : Int}, (∃ t, xs' = xs ++ t) → ((e = -1 ∧ dead (step x b) = true) ∨ ∃ (k : Nat) (y : α), e = k ∧ xs'[k]? = some y ∧ dead (step x b) = false ∧ (y = step x b ∨ same y (step x b) = true) ∧ ∀ w, ByL w → sem y w = sem x (b :: w)) →
        ∀ (c : Nat) e', (row ++ [e])[c]? = some e' → (e' = -1 ∧ dead (step x c) = true) ∨ ∃ (k : Nat) (y : α), e' = k ∧ xs'[k]? = some y ∧ dead (step x c) = false ∧ (y = step x c ∨ same y (step x c) = true) ∧ ∀ w, ByL w → sem y w = sem x (c :: w) := by
      intro xs' e hp he c e' hc
      by_cases hcl : c < row.length
      · rw [List.getElem?_append_left hcl] at hc
        rcases h.ent c e' hc with h1 | ⟨k, y, h1, h2, h3⟩
        · exact .inl h1
        · obtain ⟨t, rfl⟩ := hp
          exact .inr ⟨k, y, h1, by rw [List.getElem?_append_left (List.getElem?_eq_some_iff.1 h2).1]; exact h2, h3⟩
      · have hlt := (List.getElem?_eq_some_iff.1 hc).1
        rw [List.length_append] at hlt
        have hcb : c = b := by simp at hlt; omega
        subst hcb
        rw [List.getElem?_append_right (by omega), hl, Nat.sub_self] at hc
        cases hc
        exact he
    unfold oneX
    dsimp only
    by_cases hd : dead (step x b) = true
    · rw [if_pos hd]
      refine ⟨⟨h.pre, h.good, h.unlike, ?_, old ⟨[], by simp⟩ (.inl ⟨rfl, hd⟩)⟩, by simp [hl]⟩
      rw [← List.append_assoc, scan_app, h.scan]
      show scanI [-1] _ = _
      rw [scanI, if_pos (by omega)]
      rfl
    · rw [if_neg hd]
      have hdf : dead (step x b) = false := by simpa using hd
      have hy := H.step_good x b hx (by omega) hdf
      by_cases hf : findX same xs (step x b) 0 < 0
      · rw [if_pos hf]
        refine ⟨⟨?_, fun y hym => ?_, fun i j a c hij hi hj => ?_, ?_, old ⟨[step x b], rfl⟩ (.inr ⟨xs.length, step x b, rfl, ?_, hdf, .inl rfl, fun w hw => H.step_sem x b hx (by omega) hdf w hw⟩)⟩, by simp [hl]⟩
        · obtain ⟨t, ht⟩ := h.pre
          exact ⟨t ++ [step x b], by rw [ht, List.append_assoc]⟩
        · rcases List.mem_append.1 hym with hym | hym
          · exact h.good y hym
          · rw [List.mem_singleton.1 hym]; exact hy
        · have hjl := (List.getElem?_eq_some_iff.1 hj).1
          rw [List.length_append] at hjl
          simp at hjl
          by_cases hc : j < xs.length
          · rw [List.getElem?_append_left (by omega)] at hi
            rw [List.getElem?_append_left hc] at hj
            exact h.unlike i j a c hij hi hj
          · rw [List.getElem?_append_left (by omega)] at hi
            rw [show j = xs.length by omega, List.getElem?_append_right (Nat.le_refl _), Nat.sub_self] at hj
            cases hj
            exact findX_no hf i a hi
        · rw [← List.append_assoc, scan_app, h.scan]
          show scanI [(xs.length : Int)] xs.length = _
          rw [scanI, if_neg (by omega), if_pos rfl, scanI, List.length_append]
          rfl
        · rw [List.getElem?_append_right (Nat.le_refl _), Nat.sub_self]
          rfl
      · rw [if_neg hf]
        obtain ⟨i, y, h1, h2, h3⟩ := findX_yes (same := same) (xs := xs) (y := step x b) (j := 0) (by omega)
        rw [Nat.zero_add] at h1
        have hil := (List.getElem?_eq_some_iff.1 h2).1
        refine ⟨⟨h.pre, h.good, h.unlike, ?_, old ⟨[], by simp⟩ (.inr ⟨i, y, h1, h2, hdf, .inr h3, fun w hw => ?_⟩)⟩, by simp [hl]⟩
        · rw [← List.append_assoc, scan_app, h.scan, h1]
          show scanI [(i : Int)] xs.length = _
          rw [scanI, if_pos (by omega)]
          rfl
        · rw [H.same_sem y (step x b) (h.good y (List.mem_of_getElem? h2)) hy h3 w hw]
          exact H.step_sem x b hx (by omega) hdf w hw
/-- What holds when so many rows are made. -/
structure GoI (step : α → Nat → α) (dead : α → Bool) (same : α → α → Bool) (G : α → Prop) (sem : α → List Nat → Int) (first : α) (k : Nat) (xs : List α) (rows : List (List Int)) : Prop where
  head : xs[0]? = some first
  len : rows.length = k
  le : k ≤ xs.length
  good : ∀ y, y ∈ xs → G y
  unlike : ∀ (i j : Nat) a b, i < j → xs[i]? = some a → xs[j]? = some b → same a b = false
  scan : scanI rows.flatten 1 = some xs.length
  past : ∀ j, j < k → ∃ s, scanI ((rows.take j).flatten) 1 = some s ∧ j < s ∧ s ≤ xs.length
  row : ∀ (j : Nat) r, rows[j]? = some r → r.length = 256 ∧ ∃ x, xs[j]? = some x ∧ ∀ (b : Nat) e, r[b]? = some e → (e = -1 ∧ dead (step x b) = true) ∨ ∃ (i : Nat) (y : α), e = i ∧ xs[i]? = some y ∧ dead (step x b) = false ∧ (y = step x b ∨ same y (step x b) = true) ∧ ∀ w, ByL w → sem y w = sem x (b :: w)
theorem go_first (first : α) (h : G first) : GoI step dead same G sem first 0 [first] [] where
  head := rfl
  len := rfl
  le := Nat.zero_le _
  good := fun y hy => by rw [List.mem_singleton.1 hy]; exact h
  unlike := fun i j a b hij hi hj => by
    have := (List.getElem?_eq_some_iff.1 hj).1
    simp at this
    omega
  scan := rfl
  past := fun j hj => absurd hj (by omega)
  row := fun j r h => by simp at h
theorem go_rowI {first x : α} {k : Nat} {xs : List α} {rows : List (List Int)} (h : GoI step dead same G sem first k xs rows) : RowI step dead same G sem xs x rows.flatten xs [] where
  pre := ⟨[], by simp⟩
  good := h.good
  unlike := h.unlike
  scan := by rw [List.append_nil]; exact h.scan
  ent := fun b e h => by simp at h
theorem go_next (H : XHyp step dead same G sem) {first x : α} {k : Nat} {xs : List α} {rows : List (List Int)} (h : GoI step dead same G sem first k xs rows) (hx : xs[k]? = some x) :
    GoI step dead same G sem first (k + 1) (rowX step dead same x xs 256).1 (rows ++ [(rowX step dead same x xs 256).2]) := by
  have hk := (List.getElem?_eq_some_iff.1 hx).1
  obtain ⟨hr, hl⟩ := row_ok H (h.good x (List.mem_of_getElem? hx)) (go_rowI h) 256 (Nat.le_refl _)
  generalize rowX step dead same x xs 256 = s at hr hl ⊢
  obtain ⟨ys, row⟩ := s
  dsimp only at hr hl ⊢
  obtain ⟨t, ht⟩ := hr.pre
  have hxy : ∀ (i : Nat) y, xs[i]? = some y → ys[i]? = some y := fun i y hy => by
    rw [ht, List.getElem?_append_left (List.getElem?_eq_some_iff.1 hy).1]
    exact hy
  have hyl : xs.length ≤ ys.length := by rw [ht, List.length_append]; omega
  exact {
    head := hxy 0 _ h.head
    len := by rw [List.length_append, h.len]; rfl
    le := by omega
    good := hr.good
    unlike := hr.unlike
    scan := by rw [List.flatten_append]; simpa using hr.scan
    past := fun j hj => by
      by_cases hjk : j < k
      · obtain ⟨s, h1, h2, h3⟩ := h.past j hjk
        refine ⟨s, ?_, h2, by omega⟩
        rw [List.take_append_of_le_length (by rw [h.len]; omega)]
        exact h1
      · have : j = k := by omega
        subst this
        refine ⟨xs.length, ?_, hk, hyl⟩
        rw [List.take_append_of_le_length (by rw [h.len]; omega), List.take_of_length_le (by rw [h.len]; omega)]
        exact h.scan
    row := fun j r hj => by
      by_cases hjk : j < k
      · rw [List.getElem?_append_left (by rw [h.len]; exact hjk)] at hj
        obtain ⟨h1, z, h2, h3⟩ := h.row j r hj
        refine ⟨h1, z, hxy j z h2, fun b e he => ?_⟩
        rcases h3 b e he with h4 | ⟨i, y, h4, h5, h6⟩
        · exact .inl h4
        · exact .inr ⟨i, y, h4, hxy i y h5, h6⟩
      · have hjl := (List.getElem?_eq_some_iff.1 hj).1
        rw [List.length_append, h.len] at hjl
        simp at hjl
        have : j = k := by omega
        subst this
        rw [List.getElem?_append_right (by rw [h.len]; exact Nat.le_refl _), h.len, Nat.sub_self] at hj
        cases hj
        exact ⟨hl, x, hxy _ x hx, hr.ent⟩ }
/-! ### The table -/
section
variable {first : α} {xs : List α} {rows : List (List Int)} {acc : α → Int}
theorem go_okD (h : GoI step dead same G sem first xs.length xs rows) (hacc : ∀ x, G x → -1 ≤ acc x) : OkD ⟨rows, xs.map acc⟩ where
  pos := by
    have := (List.getElem?_eq_some_iff.1 h.head).1
    show 0 < rows.length
    rw [h.len]
    exact this
  rules := by show (xs.map acc).length = rows.length; rw [List.length_map, h.len]
  row := fun r hr => by
    obtain ⟨j, hj⟩ := List.mem_iff_getElem?.1 hr
    exact (h.row j r hj).1
  into := fun r hr e he => by
    obtain ⟨j, hj⟩ := List.mem_iff_getElem?.1 hr
    obtain ⟨b, hb⟩ := List.mem_iff_getElem?.1 he
    obtain ⟨_, x, _, h3⟩ := h.row j r hj
    have hn : ((⟨rows, xs.map acc⟩ : Dfa).n : Int) = (xs.length : Int) := by
      show ((rows.length : Nat) : Int) = _
      rw [h.len]
    rcases h3 b e hb with ⟨rfl, _⟩ | ⟨i, y, rfl, h5, _⟩
    · exact ⟨Int.le_refl _, by omega⟩
    · have := (List.getElem?_eq_some_iff.1 h5).1
      omega
  low := fun r hr => by
    obtain ⟨x, hx, rfl⟩ := List.mem_map.1 hr
    exact hacc x (h.good x hx)
theorem go_to (h : GoI step dead same G sem first xs.length xs rows) {j : Nat} {x : α} (hx : xs[j]? = some x) (b : Nat) (hb : b < 256) :
    ((⟨rows, xs.map acc⟩ : Dfa).to j b = -1 ∧ dead (step x b) = true) ∨ ∃ (i : Nat) (y : α), (⟨rows, xs.map acc⟩ : Dfa).to j b = i ∧ xs[i]? = some y ∧ dead (step x b) = false ∧ (y = step x b ∨ same y (step x b) = true) ∧ ∀ w, ByL w → sem y w = sem x (b :: w) := by
  have hj := (List.getElem?_eq_some_iff.1 hx).1
  have hr : rows[j]? = some (rows[j]'(by rw [h.len]; exact hj)) := List.getElem?_eq_getElem _
  obtain ⟨h1, z, h2, h3⟩ := h.row j _ hr
  rw [hx] at h2
  cases h2
  have hb2 : (rows[j]'(by rw [h.len]; exact hj))[b]? = some ((rows[j]'(by rw [h.len]; exact hj))[b]'(by rw [h1]; exact hb)) := List.getElem?_eq_getElem _
  have ht : (⟨rows, xs.map acc⟩ : Dfa).to j b = (rows[j]'(by rw [h.len]; exact hj))[b]'(by rw [h1]; exact hb) := by
    unfold Dfa.to
    rw [if_pos (by omega), Int.toNat_natCast]
    show (rows.getD j []).getD b (-1) = _
    rw [getD_at hr, getD_at hb2]
  rw [ht]
  exact h3 b _ hb2
theorem go_says (h : GoI step dead same G sem first xs.length xs rows) (hacc : ∀ x, G x → acc x = sem x []) (hdead : ∀ x b, G x → b < 256 → dead (step x b) = true → ∀ w, ByL w → sem x (b :: w) = -1) : ∀ (w : List Nat) (j : Nat) (x : α), ByL w → xs[j]? = some x → (⟨rows, xs.map acc⟩ : Dfa).says j w = sem x w
  | [], j, x, _, hx => by
    rw [says_nil]
    unfold Dfa.acc
    rw [if_pos (by omega), Int.toNat_natCast]
    show (xs.map acc).getD j (-1) = _
    rw [getD_at (by rw [List.getElem?_map, hx]; rfl)]
    exact hacc x (h.good x (List.mem_of_getElem? hx))
  | b :: w, j, x, hw, hx => by
    rw [says_cons]
    rcases go_to (acc := acc) h hx b hw.cons.1 with ⟨h1, h2⟩ | ⟨i, y, h1, h2, _, _, h4⟩
    · rw [h1, says_neg _ (by decide)]
      exact (hdead x b (h.good x (List.mem_of_getElem? hx)) hw.cons.1 h2 w hw.cons.2).symm
    · rw [h1, go_says h hacc hdead w i y hw.cons.2 h2]
      exact h4 w hw.cons.2
open Classical in
noncomputable def byF (f : List Nat → Int) (w : List Nat) : Int := if ByL w then f w else -1
theorem byF_yes {f : List Nat → Int} {w : List Nat} (h : ByL w) : byF f w = f w := if_pos h
theorem go_byF (h : GoI step dead same G sem first xs.length xs rows) (H : XHyp step dead same G sem) (hacc : ∀ x, G x → acc x = sem x []) (hlow : ∀ x, G x → -1 ≤ acc x) (w : List Nat) : (⟨rows, xs.map acc⟩ : Dfa).says 0 w = byF (sem first) w := by
  unfold byF
  split
  · rename_i hw
    exact go_says h hacc H.dead_sem w 0 first hw h.head
  · rename_i hw
    exact (go_okD h hlow).says_big w 0 hw
theorem go_min (h : GoI step dead same G sem first xs.length xs rows) (H : XHyp step dead same G sem) (hacc : ∀ x, G x → acc x = sem x []) (hlow : ∀ x, G x → -1 ≤ acc x)
    (hlive : ∀ x b, G x → b < 256 → dead (step x b) = false → ∃ w, ByL w ∧ sem x (b :: w) ≠ -1) (hap : ∀ x y, G x → G y → same x y = false → ∃ w, ByL w ∧ sem x w ≠ sem y w) : IsMin (byF (sem first)) ⟨rows, xs.map acc⟩ where
  ok := go_okD h hlow
  says := go_byF h H hacc hlow
  live := fun k b hk h0 => by
    have hk2 : k < xs.length := by rw [← h.len]; exact hk
    have hx : xs[k]? = some xs[k] := List.getElem?_eq_getElem hk2
    have hb : b < 256 := by
      by_cases c : b < 256
      · exact c
      · rw [(go_okD h hlow).to_big k b (by omega)] at h0
        exact absurd h0 (by decide)
    rcases go_to (acc := acc) h hx b hb with ⟨h1, h2⟩ | ⟨i, y, h1, h2, h3, _, h4⟩
    · omega
    · obtain ⟨w, hw, hne⟩ := hlive _ b (h.good _ (List.mem_of_getElem? hx)) hb h3
      refine ⟨w, ?_⟩
      rw [h1, go_says h hacc H.dead_sem w i y hw h2, h4 w hw]
      exact hne
  apart := fun i k hik hk => by
    have hk2 : k < xs.length := by rw [← h.len]; exact hk
    have hx : xs[k]? = some xs[k] := List.getElem?_eq_getElem hk2
    have hi : xs[i]? = some (xs[i]'(by omega)) := List.getElem?_eq_getElem _
    obtain ⟨w, hw, hne⟩ := hap _ _ (h.good _ (List.mem_of_getElem? hi)) (h.good _ (List.mem_of_getElem? hx)) (h.unlike i k _ _ hik hi hx)
    exact ⟨w, by rw [go_says h hacc H.dead_sem w i _ hw hi, go_says h hacc H.dead_sem w k _ hw hx]; exact hne⟩
  num := fun k hk => by
    have hk2 : k ≤ xs.length := by rw [← h.len]; exact hk
    have hn : (⟨rows, xs.map acc⟩ : Dfa).n = xs.length := h.len
    rw [hn]
    by_cases c : k < xs.length
    · obtain ⟨s, h1, h2, h3⟩ := h.past k c
      exact ⟨s, h1, fun _ => h2, h3⟩
    · refine ⟨xs.length, ?_, fun x => absurd x c, Nat.le_refl _⟩
      show scanI ((rows.take k).flatten) 1 = _
      rw [List.take_of_length_le (by rw [h.len]; omega)]
      exact h.scan
end
end
end Go.Proofs.YtjeomlickkpebaaGreatDoor

/-
  dfas, plain: which states some text tells apart; the least table out of that. No call is walked here.
-/
namespace Go.Proofs.YtjeomlickkpebaaGreatDoor

section
variable (d : Dfa)
/-- The state behind a byte; how many there are: none. -/
def toN (i b : Nat) : Nat := if i < d.n ∧ 0 ≤ d.to i b then (d.to i b).toNat else d.n
def ruN (i : Nat) : Int := if i < d.n then d.acc i else -1
def sayN (i : Nat) (w : List Nat) : Int := if i < d.n then d.says i w else -1
def ApartN (i k : Nat) : Prop := ∃ w, ByL w ∧ sayN d i w ≠ sayN d k w
/-- A table of states that are apart. -/
structure MatI (A : Nat → Nat → Bool) : Prop where
  sound : ∀ i k, i ≤ d.n → k ≤ d.n → A i k = true → ApartN d i k
  rule : ∀ i k, i ≤ d.n → k ≤ d.n → ruN d i ≠ ruN d k → A i k = true
  closed : ∀ i k b, i ≤ d.n → k ≤ d.n → b < 256 → A i k = false → A (toN d i b) (toN d k b) = false
end
section
variable {d : Dfa}
theorem toN_le (h : OkD d) (i b : Nat) : toN d i b ≤ d.n := by
  unfold toN
  split
  · have := h.to_in i b; omega
  · exact Nat.le_refl _
theorem sayN_nil (i : Nat) : sayN d i [] = ruN d i := rfl
theorem toN_yes {i b : Nat} (hi : i < d.n) (h0 : 0 ≤ d.to i b) : toN d i b = (d.to i b).toNat := if_pos ⟨hi, h0⟩
theorem toN_no {i b : Nat} (h : ¬ (i < d.n ∧ 0 ≤ d.to i b)) : toN d i b = d.n := if_neg h
theorem sayN_yes {i : Nat} (hi : i < d.n) (w : List Nat) : sayN d i w = d.says i w := if_pos hi
theorem sayN_no {i : Nat} (hi : d.n ≤ i) (w : List Nat) : sayN d i w = -1 := if_neg (by omega)
theorem sayN_step (h : OkD d) (i b : Nat) (w : List Nat) : sayN d (toN d i b) w = sayN d i (b :: w) := by
  have := h.to_in i b
  by_cases hi : i < d.n
  · rw [sayN_yes hi, says_cons]
    by_cases h0 : 0 ≤ d.to i b
    · rw [toN_yes hi h0, sayN_yes (by omega), Int.toNat_of_nonneg h0]
    · rw [toN_no (by omega), sayN_no (Nat.le_refl _), says_neg d (by omega)]
  · rw [toN_no (by omega), sayN_no (Nat.le_refl _), sayN_no (by omega)]
theorem sayN_end (w : List Nat) : sayN d d.n w = -1 := if_neg (Nat.lt_irrefl _)
theorem ruN_low (h : OkD d) (i : Nat) : -1 ≤ ruN d i := by
  unfold ruN
  split
  · exact h.acc_low i
  · exact Int.le_refl _
theorem apart_step (h : OkD d) {i k b : Nat} (hb : b < 256) (ha : ApartN d (toN d i b) (toN d k b)) : ApartN d i k := by
  obtain ⟨w, hw, hne⟩ := ha
  refine ⟨b :: w, fun c hc => ?_, by rw [← sayN_step h, ← sayN_step h]; exact hne⟩
  rcases List.mem_cons.1 hc with rfl | hc
  · exact hb
  · exact hw c hc
variable {A : Nat → Nat → Bool}
theorem MatI.same (hA : MatI d A) (h : OkD d) : ∀ (w : List Nat), ByL w → ∀ i k, i ≤ d.n → k ≤ d.n → A i k = false → sayN d i w = sayN d k w
  | [], _, i, k, hi, hk, ha => by
    rw [sayN_nil, sayN_nil]
    exact Classical.byContradiction fun hne => by rw [hA.rule i k hi hk hne] at ha; cases ha
  | b :: w, hw, i, k, hi, hk, ha => by
    rw [← sayN_step h, ← sayN_step h]
    exact hA.same h w hw.cons.2 _ _ (toN_le h i b) (toN_le h k b) (hA.closed i k b hi hk hw.cons.1 ha)
def deadN (d : Dfa) (A : Nat → Nat → Bool) (t : Nat) : Bool := !A t d.n
def sameN (A : Nat → Nat → Bool) (i k : Nat) : Bool := !A i k
theorem min_hyp (hA : MatI d A) (h : OkD d) : XHyp (toN d) (deadN d A) (sameN A) (fun i => i < d.n) (sayN d) where
  step_good := fun x b _ _ hd => by
    have h1 := toN_le h x b
    by_cases c : toN d x b = d.n
    · unfold deadN at hd
      rw [c] at hd
      obtain ⟨w, _, hne⟩ := hA.sound d.n d.n (Nat.le_refl _) (Nat.le_refl _) (by simpa using hd)
      exact absurd rfl hne
    · show toN d x b < d.n
      omega
  step_sem := fun x b _ _ _ w _ => sayN_step h x b w
  dead_sem := fun x b _ _ hd w hw => by
    rw [← sayN_step h, hA.same h w hw _ d.n (toN_le h x b) (Nat.le_refl _) (by simpa [deadN] using hd), sayN_end]
  same_sem := fun x y hx hy hs w hw => hA.same h w hw x y (Nat.le_of_lt hx) (Nat.le_of_lt hy) (by simpa [sameN] using hs)
theorem byF_says (h : OkD d) (w : List Nat) : byF (sayN d 0) w = d.says 0 w := by
  unfold byF
  have hp := h.pos
  split
  · unfold sayN
    rw [if_pos hp]
    rfl
  · rename_i hw
    exact (h.says_big w 0 hw).symm
/-- The least table of a table. -/
theorem min_of (hA : MatI d A) (h : OkD d) {xs : List Nat} {rows : List (List Int)} (hg : GoI (toN d) (deadN d A) (sameN A) (fun i => i < d.n) (sayN d) 0 xs.length xs rows) : IsMin (d.says 0) ⟨rows, xs.map (ruN d)⟩ := by
  refine (go_min hg (min_hyp hA h) (fun x _ => (sayN_nil x).symm) (fun x _ => ruN_low h x) (fun x b hx hb hd => ?_) (fun x y hx hy hs => ?_)).conv (byF_says h)
  · obtain ⟨w, hw, hne⟩ := hA.sound (toN d x b) d.n (toN_le h x b) (Nat.le_refl _) (by simpa [deadN] using hd)
    refine ⟨w, hw, ?_⟩
    rw [sayN_end, sayN_step h] at hne
    exact hne
  · exact hA.sound x y (Nat.le_of_lt hx) (Nat.le_of_lt hy) (by simpa [sameN] using hs)
end
end Go.Proofs.YtjeomlickkpebaaGreatDoor

/-
  nfas, plain: rules made of nodes, on both sides; that both tell what Match is to tell. No call is walked here.
-/
namespace Go.Proofs.YtjeomlickkpebaaGreatDoor

/-- What texts are of: rule j's. -/
def LangR (l : List Nd) (w : List Nat) (j : Nat) : Prop := ∃ n, l[j]? = some n ∧ LangN n w
def GoodL (l : List Nd) : Prop := ∀ n, n ∈ l → mayR n = true ∧ wfR n

/-! ### The program's -/
/-- Rules' states, one behind the other: the numbers go on from j. -/
def makeF : List Nd → Nat → List Sta → List Int → List Sta × List Int
  | [], _, q, first => (q, first)
  | n :: l, j, q, first => makeF l (j + 1) (buildT n (q ++ [endS j]) q.length).1 (first ++ [((buildT n (q ++ [endS j]) q.length).2 : Int)])
def makeQ (l : List Nd) : List Sta × List Int := makeF l 0 [] []
structure Made (q : List Sta) (first : List Int) (l : List Nd) : Prop where
  ok : ∀ (i : Nat) (s : Sta), q[i]? = some s → StOk q.length s
  in_ : InQ q first
  len : first.length = l.length
  word : ∀ (Q : List Sta), (∀ i, i < q.length → Q[i]? = q[i]?) → ∀ (j : Nat) (n : Nd) (a : Int), l[j]? = some n → first[j]? = some a → ∀ w r, (∃ k, Goes Q a.toNat w r k) ↔ LangN n w ∧ r = j
theorem made_nil : Made [] [] [] := ⟨(fun i s h => by simp at h), (fun a h => by cases h), rfl, fun Q _ j n a h => by simp at h⟩
theorem made_snoc {q : List Sta} {first : List Int} {l : List Nd} (h : Made q first l) (n : Nd) (hm : mayR n = true) (hw : wfR n) :
    Made (buildT n (q ++ [endS l.length]) q.length).1 (first ++ [((buildT n (q ++ [endS l.length]) q.length).2 : Int)]) (l ++ [n]) := by
  have hb := build_ok n hm hw (q ++ [endS l.length]) q.length
  have hlen : (q ++ [endS l.length]).length = q.length + 1 := by rw [List.length_append]; rfl
  generalize (buildT n (q ++ [endS l.length]) q.length).1 = q1 at hb
  generalize (buildT n (q ++ [endS l.length]) q.length).2 = a1 at hb
  have h1 := hb.len
  rw [hlen] at h1
  have hat := hb.atlt (by omega)
  refine ⟨fun i s hs => ?_, fun a ha => ?_, by rw [List.length_append, List.length_append, h.len]; rfl, fun Q hQ j m a hj ha w r => ?_⟩
  · by_cases c1 : i < q.length
    · rw [hb.same i (by omega), snoc_lt c1] at hs
      exact (h.ok i s hs).mono (by omega)
    · by_cases c2 : i = q.length
      · rw [c2, hb.same _ (by omega), snoc_at] at hs
        cases hs
        exact ⟨by show 0 < _; omega, by show 0 < _; omega, by show 2 < 3; omega, ok_no⟩
      · exact hb.ok (by omega) i s (by omega) hs
  · rw [List.mem_append, List.mem_singleton] at ha
    rcases ha with ha | ha
    · have := h.in_ a ha; omega
    · omega
  · by_cases c : j < l.length
    · rw [List.getElem?_append_left c] at hj
      rw [List.getElem?_append_left (by rw [h.len]; exact c)] at ha
      exact h.word Q (fun i hi => by rw [hQ i (by omega), hb.same i (by omega), snoc_lt hi]) j m a hj ha w r
    · have hjl := (List.getElem?_eq_some_iff.1 hj).1
      rw [List.length_append] at hjl
      have e : j = l.length := by simp at hjl; omega
      subst e
      rw [List.getElem?_append_right (Nat.le_refl _), Nat.sub_self] at hj
      rw [List.getElem?_append_right (by rw [h.len]; exact Nat.le_refl _), h.len, Nat.sub_self] at ha
      cases hj
      cases ha
      rw [Int.toNat_natCast]
      have hq : Q[q.length]? = some (endS l.length) := by rw [hQ _ (by omega), hb.same _ (by omega), snoc_at]
      constructor
      · rintro ⟨k, g⟩
        obtain ⟨u, v, k', rfl, hu, g', _⟩ := hb.fwd Q (fun i _ hi => hQ i hi) w r k g
        obtain ⟨rfl, e⟩ := goes_end hq g'
        rw [List.append_nil]
        exact ⟨hu, e⟩
      · rintro ⟨hl, rfl⟩
        obtain ⟨k', g'⟩ := hb.bwd Q (fun i _ hi => hQ i hi) w [] l.length 0 hl (.fin hq rfl)
        rw [List.append_nil] at g'
        exact ⟨k', g'⟩
theorem makeF_ok : ∀ (l done : List Nd) (q : List Sta) (first : List Int), GoodL l → Made q first done → Made (makeF l done.length q first).1 (makeF l done.length q first).2 (done ++ l)
  | [], done, q, first, _, h => by rw [makeF, List.append_nil]; exact h
  | n :: l, done, q, first, hg, h => by
    rw [makeF]
    have h1 := made_snoc h n (hg n (by simp)).1 (hg n (by simp)).2
    have := makeF_ok l (done ++ [n]) _ _ (fun m hm => hg m (by simp [hm])) h1
    rw [List.append_assoc, List.length_append] at this
    exact this
theorem makeQ_ok (l : List Nd) (hg : GoodL l) : Made (makeQ l).1 (makeQ l).2 l := makeF_ok l [] [] [] hg made_nil
theorem makeF_len : ∀ (l : List Nd) (j : Nat) (q : List Sta) (first : List Int), (makeF l j q first).1.length ≤ q.length + 2 * wtL l + l.length
  | [], _, q, _ => by rw [makeF]; simp [wtL]
  | n :: l, j, q, first => by
    rw [makeF, wtL, List.length_cons]
    have := makeF_len l (j + 1) (buildT n (q ++ [endS j]) q.length).1 (first ++ [((buildT n (q ++ [endS j]) q.length).2 : Int)])
    have := build_len n (q ++ [endS j]) q.length
    rw [List.length_append] at this
    simp only [List.length_cons, List.length_nil] at this
    omega
theorem made_acc {q : List Sta} {first : List Int} {l : List Nd} (h : Made q first l) (w : List Nat) (r : Nat) : AccP q first w r ↔ LangR l w r := by
  constructor
  · rintro ⟨a, ha, h0, k, g⟩
    obtain ⟨j, hj⟩ := List.getElem?_of_mem ha
    obtain ⟨n, hn⟩ : ∃ n, l[j]? = some n := ⟨_, List.getElem?_eq_getElem (by rw [← h.len]; exact (List.getElem?_eq_some_iff.1 hj).1)⟩
    obtain ⟨h1, rfl⟩ := (h.word q (fun _ _ => rfl) j n a hn hj w r).1 ⟨k, g⟩
    exact ⟨n, hn, h1⟩
  · rintro ⟨n, hn, hl⟩
    obtain ⟨a, ha⟩ : ∃ a, first[r]? = some a := ⟨_, List.getElem?_eq_getElem (by rw [h.len]; exact (List.getElem?_eq_some_iff.1 hn).1)⟩
    obtain ⟨k, g⟩ := (h.word q (fun _ _ => rfl) r n a hn ha w r).2 ⟨hl, rfl⟩
    have hm := List.mem_of_getElem? ha
    exact ⟨a, hm, (h.in_ a hm).1, k, g⟩
theorem match_ok {q : List Sta} {first : List Int} {l : List Nd} (h : Made q first l) (w : List Nat) : MatchI (LangR l) w (matchP q first w).1 (matchP q first w).2 := by
  obtain ⟨r1, r2, r3⟩ := reach_ok q h.ok first h.in_
  have h0 : ∀ u j, AccP q (reachP q first) u j ↔ LangR l u j := fun u j => (r3 u j).trans (made_acc h u j)
  have hl : LeastI (LangR l []) (accP q (reachP q first) (-1)) := (accepts_ok q _ r2).conv (h0 [])
  unfold matchP
  refine goM_ok q h.ok (LangR l) w w (reachP q first) 0 0 _ rfl (Nat.zero_le _) r2 (fun u j => ?_) ?_
  · rw [List.take_zero, List.nil_append]; exact h0 u j
  · rw [List.take_zero]
    rcases hl.cases with ⟨e, hno⟩ | ⟨hne, _⟩
    · exact .inl ⟨e, rfl, fun i hi j hj => by rw [List.take_nil] at hj; exact hno j hj⟩
    · exact .inr ⟨0, rfl, Nat.le_refl _, hne, by rw [List.take_zero]; exact hl, fun i h1 h2 => by simp at h2; omega⟩
/-- Behind all of a text's bytes. -/
def stepsP (q : List Sta) : List Nat → List Int → List Int
  | [], l => l
  | b :: w, l => stepsP q w (stepP q b l)
theorem steps_snoc (q : List Sta) : ∀ (w : List Nat) (b : Nat) (l : List Int), stepsP q (w ++ [b]) l = stepP q b (stepsP q w l)
  | [], b, l => rfl
  | c :: w, b, l => by rw [List.cons_append, stepsP, stepsP, steps_snoc q w b]
theorem steps_ok {q : List Sta} (hq : ∀ (i : Nat) (s : Sta), q[i]? = some s → StOk q.length s) : ∀ (u : List Nat) (l : List Int), InQ q l → NoFork q l → InQ q (stepsP q u l) ∧ NoFork q (stepsP q u l) ∧ ∀ w r, AccP q (stepsP q u l) w r ↔ AccP q l (u ++ w) r
  | [], l, h1, h2 => ⟨h1, h2, fun _ _ => Iff.rfl⟩
  | b :: u, l, h1, h2 => by
    obtain ⟨s1, s2, s3⟩ := step_ok q hq b l h2
    obtain ⟨t1, t2, t3⟩ := steps_ok hq u _ s1 s2
    exact ⟨t1, t2, fun w r => (t3 w r).trans (s3 (u ++ w) r)⟩
theorem least_ok {q : List Sta} {first : List Int} {l : List Nd} (h : Made q first l) (w : List Nat) : LeastI (LangR l w) (accP q (stepsP q w (reachP q first)) (-1)) := by
  obtain ⟨r1, r2, r3⟩ := reach_ok q h.ok first h.in_
  obtain ⟨s1, s2, s3⟩ := steps_ok h.ok w _ r1 r2
  refine (accepts_ok q _ s2).conv fun j => ?_
  rw [s3 [] j, List.append_nil, r3 w j]
  exact made_acc h w j

/-! ### The document's -/
structure RuN where
  m : Nat
  sets : List St4
  behind : Nat → Nat → Bool
  last : Nat → Bool
def ruleN (n : Nd) : RuN := ⟨(setsN n).length + 1, noR :: setsN n, fun p q => if p = 0 then (glN n 1).first q else (glN n 1).fol p q, fun p => if p = 0 then (glN n 1).null else (glN n 1).last p⟩
def anyF (f : Nat → Bool) : Nat → Bool
  | 0 => false
  | n + 1 => anyF f n || f n
theorem any_iff (f : Nat → Bool) : ∀ n, anyF f n = true ↔ ∃ i, i < n ∧ f i = true
  | 0 => ⟨(fun h => by cases h), (fun ⟨i, h, _⟩ => absurd h (by omega))⟩
  | n + 1 => by
    rw [anyF, Bool.or_eq_true, any_iff f n]
    constructor
    · rintro (⟨i, h, e⟩ | e)
      · exact ⟨i, by omega, e⟩
      · exact ⟨n, by omega, e⟩
    · rintro ⟨i, h, e⟩
      by_cases c : i = n
      · subst c; exact .inr e
      · exact .inl ⟨i, by omega, e⟩
def startG : Nat → Bool := oneF 0
def setAt (l : List St4) (i : Nat) : St4 := l.getD i noR
/-- Some as one: those behind the first k. -/
def orsG (r : RuN) (at_ : Nat → Bool) : Nat → Nat → Bool
  | 0 => noF
  | k + 1 => if at_ k = true then orF (orsG r at_ k) (r.behind k) else orsG r at_ k
theorem ors_iff (r : RuN) (at_ : Nat → Bool) (q : Nat) : ∀ k, orsG r at_ k q = true ↔ ∃ p, p < k ∧ at_ p = true ∧ r.behind p q = true
  | 0 => ⟨(fun h => by cases h), (fun ⟨i, h, _⟩ => absurd h (by omega))⟩
  | k + 1 => by
    rw [orsG]
    split
    · rename_i h
      rw [orF, Bool.or_eq_true, ors_iff r at_ q k]
      constructor
      · rintro (⟨i, h, e⟩ | e)
        · exact ⟨i, by omega, e⟩
        · exact ⟨k, by omega, h, e⟩
      · rintro ⟨i, h2, e⟩
        by_cases c : i = k
        · subst c; exact .inr e.2
        · exact .inl ⟨i, by omega, e⟩
    · rename_i h
      rw [ors_iff r at_ q k]
      constructor
      · rintro ⟨i, h, e⟩; exact ⟨i, by omega, e⟩
      · rintro ⟨i, h2, e⟩
        by_cases c : i = k
        · subst c; exact absurd e.1 h
        · exact ⟨i, by omega, e⟩
def stepG (r : RuN) (at_ : Nat → Bool) (b : Nat) : Nat → Bool := fun q => orsG r at_ r.m q && (decide (0 < q) && hasR (setAt r.sets q) b)
def endsG (r : RuN) (at_ : Nat → Bool) : Bool := anyF (fun p => at_ p && r.last p) r.m
def isAny (r : RuN) (at_ : Nat → Bool) : Bool := anyF at_ r.m
/-- The states stand for a language. -/
def RunG (r : RuN) (at_ : Nat → Bool) (w : List Nat) : Prop := ∃ p, p < r.m ∧ at_ p = true ∧ PathG r.behind (setAt r.sets) r.last w p
structure RuOk (r : RuN) (L : List Nat → Prop) : Prop where
  pos : 0 < r.m
  len : r.sets.length = r.m
  to : ∀ p q, r.behind p q = true → 0 < q ∧ q < r.m
  lt : ∀ p, r.last p = true → p < r.m
  sets : ∀ s, s ∈ r.sets → OkR s
  word : ∀ w, RunG r startG w ↔ L w
mutual
theorem sets_wf : ∀ (n : Nd), wfR n → ∀ s, s ∈ setsN n → OkR s
  | .mk k t l, h, s, hs => by
    rw [wfR] at h
    rw [setsN] at hs
    split at hs
    · rcases List.mem_cons.1 hs with rfl | hs
      · exact h.1
      · exact setsL_wf l h.2 s hs
    · exact setsL_wf l h.2 s hs
theorem setsL_wf : ∀ (l : List Nd), wfL l → ∀ s, s ∈ setsL l → OkR s
  | [], _, s, hs => by cases hs
  | n :: l, h, s, hs => by
    rw [wfL] at h
    rw [setsL, List.mem_append] at hs
    rcases hs with hs | hs
    · exact sets_wf n h.1 s hs
    · exact setsL_wf l h.2 s hs
end
theorem rule_ok (n : Nd) (hm : mayR n = true) (hw : wfR n) : RuOk (ruleN n) (LangN n) := by
  have hset : SetsAt (setAt (noR :: setsN n)) 1 (setsN n) := fun i s h => by
    unfold setAt
    rw [Nat.add_comm, List.getD_cons_succ, List.getD_eq_getElem?_getD, h]; rfl
  obtain ⟨g1, g2⟩ := gl_ok n hm 1 _ hset
  have hpath : ∀ (w : List Nat) (p : Nat), 0 < p → (PathG (ruleN n).behind (setAt (noR :: setsN n)) (ruleN n).last w p ↔ PathG (glN n 1).fol (setAt (noR :: setsN n)) (glN n 1).last w p) := by
    intro w
    induction w with
    | nil =>
      intro p hp
      simp only [PathG, ruleN]
      rw [if_neg (by omega)]
    | cons b w ih =>
      intro p hp
      simp only [PathG]
      refine exists_congr fun q => ?_
      rw [show (ruleN n).behind p q = (glN n 1).fol p q by simp only [ruleN]; rw [if_neg (by omega)]]
      constructor
      · rintro ⟨e, f, g⟩; exact ⟨e, f, (ih q (by have := (g1.fol _ _ e).2; omega)).1 g⟩
      · rintro ⟨e, f, g⟩; exact ⟨e, f, (ih q (by have := (g1.fol _ _ e).2; omega)).2 g⟩
  refine ⟨Nat.succ_pos _, rfl, fun p q e => ?_, fun p e => ?_, fun s hs => ?_, fun w => ?_⟩
  · simp only [ruleN] at e ⊢
    split at e
    · have := g1.first q e; omega
    · have := (g1.fol p q e).2; omega
  · simp only [ruleN] at e ⊢
    split at e
    · omega
    · have := g1.last p e; omega
  · rcases List.mem_cons.1 hs with rfl | hs
    · exact ok_no
    · exact sets_wf n hw s hs
  · rw [← g2 w]
    have hrun : RunG (ruleN n) startG w ↔ PathG (ruleN n).behind (setAt (noR :: setsN n)) (ruleN n).last w 0 := by
      constructor
      · rintro ⟨p, _, e, g⟩
        have : p = 0 := by simpa [startG, oneF] using e
        rw [← this]; exact g
      · intro g; exact ⟨0, Nat.succ_pos _, rfl, g⟩
    rw [hrun]
    match w with
    | [] => simp [PathG, ruleN, WordG]
    | b :: w =>
      simp only [PathG, WordG]
      refine exists_congr fun q => ?_
      rw [show (ruleN n).behind 0 q = (glN n 1).first q from rfl]
      constructor
      · rintro ⟨e, f, g⟩; exact ⟨e, f, (hpath w q (by have := g1.first q e; omega)).1 g⟩
      · rintro ⟨e, f, g⟩; exact ⟨e, f, (hpath w q (by have := g1.first q e; omega)).2 g⟩
section
variable {r : RuN} {L : List Nat → Prop}
theorem run_step (h : RuOk r L) (at_ : Nat → Bool) (b : Nat) (w : List Nat) : RunG r (stepG r at_ b) w ↔ RunG r at_ (b :: w) := by
  constructor
  · rintro ⟨q, hq, e, g⟩
    simp only [stepG, Bool.and_eq_true] at e
    obtain ⟨p, hp, e1, e2⟩ := (ors_iff r at_ q r.m).1 e.1
    exact ⟨p, hp, e1, q, e2, e.2.2, g⟩
  · rintro ⟨p, hp, e1, q, e2, e3, g⟩
    have := h.to p q e2
    refine ⟨q, this.2, ?_, g⟩
    simp only [stepG, Bool.and_eq_true]
    exact ⟨(ors_iff r at_ q r.m).2 ⟨p, hp, e1, e2⟩, by simpa using this.1, e3⟩
theorem run_ends (at_ : Nat → Bool) : endsG r at_ = true ↔ RunG r at_ [] := by
  unfold endsG
  rw [any_iff]
  refine exists_congr fun p => and_congr Iff.rfl ?_
  rw [Bool.and_eq_true]
  exact Iff.rfl
theorem run_any (at_ : Nat → Bool) (h : isAny r at_ = false) (w : List Nat) : ¬ RunG r at_ w := by
  rintro ⟨p, hp, e, _⟩
  have := (any_iff at_ r.m).2 ⟨p, hp, e⟩
  unfold isAny at h
  rw [h] at this
  cases this
end
/-- Behind all of a text's bytes. -/
def stepsG (r : RuN) : List Nat → (Nat → Bool) → Nat → Bool
  | [], x => x
  | b :: w, at_ => stepsG r w (stepG r at_ b)
theorem run_steps {r : RuN} {L : List Nat → Prop} (h : RuOk r L) : ∀ (u : List Nat) (at_ : Nat → Bool) (w : List Nat), RunG r (stepsG r u at_) w ↔ RunG r at_ (u ++ w)
  | [], _, _ => Iff.rfl
  | b :: u, at_, w => (run_steps h u (stepG r at_ b) w).trans (run_step h at_ b (u ++ w))
theorem ends_lang {r : RuN} {L : List Nat → Prop} (h : RuOk r L) (w : List Nat) : endsG r (stepsG r w startG) = true ↔ L w := by
  rw [run_ends, run_steps h, List.append_nil, h.word]
def leastG : List RuN → List Nat → Nat → Int
  | [], _, _ => -1
  | r :: l, w, j => if endsG r (stepsG r w startG) = true then (j : Int) else leastG l w (j + 1)
theorem leastG_ok (w : List Nat) (all : List Nd) : ∀ (l : List Nd) (j : Nat), GoodL l → all.drop j = l → (∀ i, i < j → ¬ LangR all w i) → LeastI (LangR all w) (leastG (l.map ruleN) w j)
  | [], j, _, hd, hno => by
    refine .inl ⟨rfl, fun i ⟨n, hn, hl⟩ => ?_⟩
    by_cases c : i < j
    · exact hno i c ⟨n, hn, hl⟩
    · have := List.drop_eq_nil_iff.1 hd
      have := (List.getElem?_eq_some_iff.1 hn).1
      omega
  | n :: l, j, hg, hd, hno => by
    have hj : all[j]? = some n := by
      have := congrArg (fun x => x[0]?) hd
      simpa using this
    have hr := rule_ok n (hg n (by simp)).1 (hg n (by simp)).2
    rw [List.map_cons, leastG]
    split
    · rename_i h
      exact .inr ⟨j, rfl, ⟨n, hj, (ends_lang hr w).1 h⟩, fun i hi => hno i hi⟩
    · rename_i h
      refine leastG_ok w all l (j + 1) (fun m hm => hg m (by simp [hm])) (by rw [← List.drop_drop, hd]; rfl) fun i hi hl => ?_
      by_cases c : i = j
      · subst c
        obtain ⟨m, hm, hl⟩ := hl
        rw [hj] at hm
        cases hm
        exact h ((ends_lang hr w).2 hl)
      · exact hno i (by omega) hl
/-- One rule, from where it stands on: so long, that rule, are the best so far. -/
def goG (r : RuN) (j : Nat) : List Nat → (Nat → Bool) → Int → Int → Int → Int × Int
  | [], at_, i, long, rule => if isAny r at_ = true then (if endsG r at_ = true ∧ (rule < 0 ∨ long < i) then (i, (j : Int)) else (long, rule)) else (long, rule)
  | b :: w, at_, i, long, rule => if isAny r at_ = true then
      (if endsG r at_ = true ∧ (rule < 0 ∨ long < i) then goG r j w (stepG r at_ b) (i + 1) i (j : Int) else goG r j w (stepG r at_ b) (i + 1) long rule) else (long, rule)
/-- What is known: of the rules ahead all, of this one the beginnings shorter than i. -/
def Upto (all : List Nd) (r i : Nat) (u : List Nat) (j : Nat) : Prop := LangR all u j ∧ (j < r ∨ j = r ∧ u.length < i)
theorem matchI_hit {all : List Nd} {W : List Nat} {r i : Nat} {long rule : Int} (hi : i ≤ W.length) (hm : MatchI (Upto all r i) W long rule) (hl : LangR all (W.take i) r) (hc : rule < 0 ∨ long < i) : MatchI (Upto all r (i + 1)) W i r := by
  have hlen : ∀ x, x ≤ W.length → (W.take x).length = x := fun x hx => by rw [List.length_take]; omega
  have hno : ∀ j, j < r → ∀ x, i ≤ x → x ≤ W.length → ¬ LangR all (W.take x) j := by
    intro j hj x hx hxl hL
    rcases hm with ⟨e, _, h⟩ | ⟨m, e, hm1, hr, h1, h2⟩
    · exact h x hxl j ⟨hL, .inl hj⟩
    · have hr0 : ¬ rule < 0 := by
        rcases h1.cases with ⟨e, _⟩ | ⟨_, h0, _⟩
        · exact absurd e hr
        · omega
      have hmi : m < i := by omega
      exact h2 x (by omega) hxl j ⟨hL, .inl hj⟩
  refine .inr ⟨i, rfl, hi, by omega, .inr ⟨r, rfl, ⟨hl, .inr ⟨rfl, by rw [hlen i hi]; omega⟩⟩, fun j hj hu => hno j hj i (Nat.le_refl _) hi hu.1⟩, fun x hx hxl j hu => ?_⟩
  rcases hu.2 with hj | ⟨_, hj⟩
  · exact hno j hj x (by omega) hxl hu.1
  · rw [hlen x hxl] at hj; omega
theorem matchI_miss {all : List Nd} {W : List Nat} {r i : Nat} {long rule : Int} (hi : i ≤ W.length) (hm : MatchI (Upto all r i) W long rule) (hc : ¬ (LangR all (W.take i) r ∧ (rule < 0 ∨ long < i))) : MatchI (Upto all r (i + 1)) W long rule := by
  have hlen : ∀ x, x ≤ W.length → (W.take x).length = x := fun x hx => by rw [List.length_take]; omega
  rcases hm with ⟨e, e2, h⟩ | ⟨m, e, hm1, hr, h1, h2⟩
  · refine .inl ⟨e, e2, fun x hx j hu => ?_⟩
    by_cases c : j = r ∧ x = i
    · obtain ⟨rfl, rfl⟩ := c
      exact hc ⟨hu.1, .inl (by omega)⟩
    · refine h x hx j ⟨hu.1, ?_⟩
      rcases hu.2 with hj | ⟨hj, hj2⟩
      · exact .inl hj
      · rw [hlen x hx] at hj2 ⊢; exact .inr ⟨hj, by omega⟩
  · have hr0 : 0 ≤ rule := by
      rcases h1.cases with ⟨e, _⟩ | ⟨_, h0, _⟩
      · exact absurd e hr
      · exact h0
    have key : ∀ x, x ≤ W.length → m ≤ x → ∀ j, Upto all r (i + 1) (W.take x) j → Upto all r i (W.take x) j ∨ (j = r ∧ x = i ∧ m = i) := by
      intro x hx hmx j hu
      rcases hu.2 with hj | ⟨hj, hj2⟩
      · exact .inl ⟨hu.1, .inl hj⟩
      · rw [hlen x hx] at hj2
        by_cases c : x = i
        · by_cases c2 : m = i
          · exact .inr ⟨hj, c, c2⟩
          · exfalso
            rw [hj, c] at hu
            exact hc ⟨hu.1, .inr (by omega)⟩
        · exact .inl ⟨hu.1, .inr ⟨hj, by rw [hlen x hx]; omega⟩⟩
    refine .inr ⟨m, e, hm1, hr, ?_, fun x hx hxl j hu => ?_⟩
    · rcases h1 with ⟨e0, _⟩ | ⟨j, e1, hj, hleast⟩
      · exact absurd e0 hr
      · refine .inr ⟨j, e1, ⟨hj.1, ?_⟩, fun y hy hu => ?_⟩
        · rcases hj.2 with a | ⟨a, b⟩
          · exact .inl a
          · exact .inr ⟨a, by omega⟩
        · rcases key m hm1 (Nat.le_refl _) y hu with hu | ⟨hy2, _, hmi⟩
          · exact hleast y hy hu
          · rcases hj.2 with a | ⟨a, b⟩
            · omega
            · rw [hlen m hm1] at b; omega
    · rcases key x hxl (by omega) j hu with hu | ⟨_, hxi, hmi⟩
      · exact h2 x hx hxl j hu
      · omega
theorem matchI_conv {A B : List Nat → Nat → Prop} {W : List Nat} {long rule : Int} (h : MatchI A W long rule) (e : ∀ x, x ≤ W.length → ∀ j, A (W.take x) j ↔ B (W.take x) j) : MatchI B W long rule := by
  rcases h with ⟨e1, e2, h⟩ | ⟨m, e1, hm, hr, h1, h2⟩
  · exact .inl ⟨e1, e2, fun x hx j hb => h x hx j ((e x hx j).2 hb)⟩
  · exact .inr ⟨m, e1, hm, hr, h1.conv (e m hm), fun x hx hxl j hb => h2 x hx hxl j ((e x hxl j).2 hb)⟩
theorem goG_ok {all : List Nd} {j : Nat} {n : Nd} (hj : all[j]? = some n) (hm : mayR n = true) (hw : wfR n) (W : List Nat) : ∀ (w : List Nat) (at_ : Nat → Bool) (i : Nat) (long rule : Int), W.drop i = w → i ≤ W.length → (∀ u, RunG (ruleN n) at_ u ↔ LangN n (W.take i ++ u)) →
    MatchI (Upto all j i) W long rule → MatchI (Upto all j (W.length + 1)) W (goG (ruleN n) j w at_ i long rule).1 (goG (ruleN n) j w at_ i long rule).2 := by
  have hr := rule_ok n hm hw
  have hL : ∀ u, LangR all u j ↔ LangN n u := fun u => ⟨fun ⟨m, h1, h2⟩ => by rw [hj] at h1; cases h1; exact h2, fun h => ⟨n, hj, h⟩⟩
  have hlen : ∀ x, x ≤ W.length → (W.take x).length = x := fun x hx => by rw [List.length_take]; omega
  -- where it stands nowhere, no longer beginning is of it
  have stop : ∀ (at_ : Nat → Bool) (i : Nat) (long rule : Int), i ≤ W.length → (∀ u, RunG (ruleN n) at_ u ↔ LangN n (W.take i ++ u)) → isAny (ruleN n) at_ = false → MatchI (Upto all j i) W long rule → MatchI (Upto all j (W.length + 1)) W long rule := by
    intro at_ i long rule hi hA hn hM
    refine matchI_conv hM fun x hx y => ⟨fun ⟨a, b⟩ => ⟨a, b.imp id fun ⟨b, _⟩ => ⟨b, by rw [hlen x hx]; omega⟩⟩, fun ⟨a, b⟩ => ⟨a, b.imp id fun ⟨b, _⟩ => ⟨b, ?_⟩⟩⟩
    rw [hlen x hx]
    refine Nat.lt_of_not_le fun hle => ?_
    rw [b, hL] at a
    refine run_any at_ hn ((W.drop i).take (x - i)) ((hA _).2 ?_)
    rw [show W.take i ++ (W.drop i).take (x - i) = W.take x by rw [← List.take_add]; congr 1; omega]
    exact a
  have hends : ∀ (at_ : Nat → Bool) (i : Nat), (∀ u, RunG (ruleN n) at_ u ↔ LangN n (W.take i ++ u)) → (endsG (ruleN n) at_ = true ↔ LangR all (W.take i) j) := fun at_ i hA => by
    rw [run_ends, hA [], List.append_nil, hL]
  intro w
  induction w with
  | nil =>
    intro at_ i long rule hd hi hA hM
    have hW : W.length ≤ i := List.drop_eq_nil_iff.1 hd
    have hWi : W.length + 1 = i + 1 := by omega
    rw [goG]
    split
    · rw [hWi]
      split
      · rename_i hc
        exact matchI_hit hi hM ((hends at_ i hA).1 hc.1) hc.2
      · rename_i hc
        exact matchI_miss hi hM fun h => hc ⟨(hends at_ i hA).2 h.1, h.2⟩
    · rename_i hn
      exact stop at_ i long rule hi hA (by simpa using hn) hM
  | cons b w ih =>
    intro at_ i long rule hd hi hA hM
    have hlt : i < W.length := by
      have := congrArg List.length hd
      rw [List.length_drop, List.length_cons] at this
      omega
    have hb : W[i]? = some b := by
      have := congrArg (fun x => x[0]?) hd
      simpa using this
    have htk : W.take (i + 1) = W.take i ++ [b] := by rw [List.take_add_one, hb]; rfl
    have hdr : W.drop (i + 1) = w := by rw [← List.drop_drop, hd]; rfl
    have hA' : ∀ u, RunG (ruleN n) (stepG (ruleN n) at_ b) u ↔ LangN n (W.take (i + 1) ++ u) := fun u => by
      rw [run_step hr, hA (b :: u), htk, List.append_assoc]; rfl
    rw [goG]
    split
    · split
      · rename_i hc
        exact ih _ (i + 1) i j hdr hlt hA' (matchI_hit hi hM ((hends at_ i hA).1 hc.1) hc.2)
      · rename_i hc
        exact ih _ (i + 1) long rule hdr hlt hA' (matchI_miss hi hM fun h => hc ⟨(hends at_ i hA).2 h.1, h.2⟩)
    · rename_i hn
      exact stop at_ i long rule hi hA (by simpa using hn) hM
def matchG : List RuN → Nat → List Nat → Int → Int → Int × Int
  | [], _, _, long, rule => (long, rule)
  | r :: l, j, w, long, rule => matchG l (j + 1) w (goG r j w startG 0 long rule).1 (goG r j w startG 0 long rule).2
theorem matchG_ok (all : List Nd) (W : List Nat) : ∀ (l : List Nd) (j : Nat) (long rule : Int), GoodL l → all.drop j = l → MatchI (Upto all j 0) W long rule → MatchI (LangR all) W (matchG (l.map ruleN) j W long rule).1 (matchG (l.map ruleN) j W long rule).2
  | [], j, long, rule, _, hd, hM => by
    rw [List.map_nil, matchG]
    refine matchI_conv hM fun x hx y => ⟨fun h => h.1, fun h => ⟨h, .inl ?_⟩⟩
    obtain ⟨m, hm, _⟩ := h
    have := List.drop_eq_nil_iff.1 hd
    have := (List.getElem?_eq_some_iff.1 hm).1
    omega
  | n :: l, j, long, rule, hg, hd, hM => by
    have hj : all[j]? = some n := by
      have := congrArg (fun x => x[0]?) hd
      simpa using this
    have hgn := hg n (by simp)
    rw [List.map_cons, matchG]
    have h1 := goG_ok hj hgn.1 hgn.2 W W startG 0 long rule rfl (Nat.zero_le _) (fun u => by rw [List.take_zero, List.nil_append]; exact (rule_ok n hgn.1 hgn.2).word u) hM
    refine matchG_ok all W l (j + 1) _ _ (fun m hm => hg m (by simp [hm])) (by rw [← List.drop_drop, hd]; rfl) (matchI_conv h1 fun x hx y => ?_)
    have hlen : (W.take x).length = x := by rw [List.length_take]; omega
    unfold Upto
    rw [hlen]
    constructor
    · rintro ⟨a, b | ⟨b, _⟩⟩
      · exact ⟨a, .inl (by omega)⟩
      · exact ⟨a, .inl (by omega)⟩
    · rintro ⟨a, b | ⟨b, c⟩⟩
      · by_cases e : y = j
        · exact ⟨a, .inr ⟨e, by omega⟩⟩
        · exact ⟨a, .inl (by omega)⟩
      · omega
theorem match_ref (all : List Nd) (hg : GoodL all) (W : List Nat) : MatchI (LangR all) W (matchG (all.map ruleN) 0 W 0 (-1)).1 (matchG (all.map ruleN) 0 W 0 (-1)).2 :=
  matchG_ok all W all 0 0 (-1) hg rfl (.inl ⟨rfl, rfl, fun x hx j h => by rcases h.2 with h | ⟨_, h⟩ <;> omega⟩)
theorem least_ref (all : List Nd) (hg : GoodL all) (W : List Nat) : LeastI (LangR all W) (leastG (all.map ruleN) W 0) := leastG_ok W all all 0 hg rfl fun i hi => by omega
/-- Both sides tell the same. -/
theorem match_same (all : List Nd) (hg : GoodL all) (W : List Nat) : matchP (makeQ all).1 (makeQ all).2 W = matchG (all.map ruleN) 0 W 0 (-1) := by
  obtain ⟨a, b⟩ := (match_ok (makeQ_ok all hg) W).unique (match_ref all hg W) fun _ _ => Iff.rfl
  exact Prod.ext a b
theorem least_same (all : List Nd) (hg : GoodL all) (W : List Nat) : accP (makeQ all).1 (stepsP (makeQ all).1 W (reachP (makeQ all).1 (makeQ all).2)) (-1) = leastG (all.map ruleN) W 0 :=
  (least_ok (makeQ_ok all hg) W).unique (least_ref all hg W) fun _ => Iff.rfl
end Go.Proofs.YtjeomlickkpebaaGreatDoor

/-
  dfas, plain: where one stands in rules (the document's), lists of states (the program's): both say of texts which rule they are of, the least one. No call is walked here.
-/
namespace Go.Proofs.YtjeomlickkpebaaGreatDoor

/-! ### The document's places -/
def eqF (a b : Nat → Bool) : Nat → Bool
  | 0 => true
  | m + 1 => eqF a b m && (a m == b m)
def sameP : List RuN → List (Nat → Bool) → List (Nat → Bool) → Bool
  | r :: rs, a :: x, b :: y => eqF a b r.m && sameP rs x y
  | _, _, _ => true
def startP (rs : List RuN) : List (Nat → Bool) := rs.map fun _ => startG
def semP : List RuN → List (Nat → Bool) → Nat → List Nat → Int
  | r :: rs, a :: x, j, w => if endsG r (stepsG r w a) = true then (j : Int) else semP rs x (j + 1) w
  | _, _, _, _ => -1
theorem semP_start : ∀ (rs : List RuN) (j : Nat) (w : List Nat), semP rs (startP rs) j w = leastG rs w j
  | [], _, _ => rfl
  | r :: rs, j, w => by
    show (if endsG r (stepsG r w startG) = true then (j : Int) else semP rs (startP rs) (j + 1) w) = _
    rw [leastG, semP_start rs (j + 1) w]
/-! ### The program's lists -/
def semL (q : List Sta) (l : List Int) (w : List Nat) : Int := accP q (stepsP q w l) (-1)
theorem semL_nil (q : List Sta) : ∀ w, semL q [] w = -1
  | [] => rfl
  | b :: w => by
    show accP q (stepsP q w (stepP q b [])) (-1) = -1
    exact semL_nil q w
theorem accP_low (q : List Sta) : ∀ (l : List Int) (r : Int), -1 ≤ r → -1 ≤ accP q l r
  | [], _, h => h
  | a :: l, r, h => by
    rw [accP]
    split
    · exact accP_low q l r h
    · split
      · exact accP_low q l _ (by omega)
      · exact accP_low q l r h
def nilL (l : List Int) : Bool := l.isEmpty
def sameL (a b : List Int) : Bool := decide (a = b)
/-- A list that some text leads to. -/
def ListG (q : List Sta) (start l : List Int) : Prop := ∃ w, ByL w ∧ l = stepsP q w start ∧ (w = [] ∨ l ≠ [])
theorem lists_hyp (q : List Sta) (start : List Int) : XHyp (fun l b => stepP q b l) nilL sameL (ListG q start) (semL q) where
  step_good := fun x b ⟨w, hw, hx, _⟩ hb hd => by
    refine ⟨w ++ [b], fun c hc => ?_, by rw [steps_snoc, hx], .inr fun e => ?_⟩
    · rcases List.mem_append.1 hc with hc | hc
      · exact hw c hc
      · rw [List.mem_singleton.1 hc]; exact hb
    · unfold nilL at hd
      rw [e] at hd
      cases hd
  step_sem := fun _ _ _ _ _ _ _ => rfl
  dead_sem := fun x b _ _ hd w _ => by
    show semL q (stepP q b x) w = -1
    rw [List.isEmpty_iff.1 hd]
    exact semL_nil q w
  same_sem := fun x y _ _ h w _ => by rw [of_decide_eq_true h]
/-- Both say the same. -/
theorem both_say (all : List Nd) (hg : GoodL all) (w : List Nat) : semL (makeQ all).1 (reachP (makeQ all).1 (makeQ all).2) w = semP (all.map ruleN) (startP (all.map ruleN)) 0 w := by
  rw [semP_start]
  exact least_same all hg w
end Go.Proofs.YtjeomlickkpebaaGreatDoor

/-
  dfas, plain: a rule in brackets, twice, again and again: how it is parsed, and that it takes the same. No call is walked here.
-/
namespace Go.Proofs.YtjeomlickkpebaaGreatDoor

theorem hex_ext {l r : List Nat} {b : Nat} (t : List Nat) (h : hexR l = some (b, r)) : hexR (l ++ t) = some (b, r ++ t) := by
  match l, h with
  | a :: c :: u, h =>
    simp only [hexR, List.cons_append] at h ⊢
    split at h
    · cases h
      rfl
    · cases h
theorem esc_ext {l r : List Nat} {b : Nat} (t : List Nat) (h : escR l = some (b, r)) : escR (l ++ t) = some (b, r ++ t) := by
  match l, h with
  | d :: u, h =>
    simp only [escR, List.cons_append] at h ⊢
    by_cases c1 : d = 110
    · rw [if_pos c1] at h ⊢; cases h; rfl
    rw [if_neg c1] at h ⊢
    by_cases c2 : d = 116
    · rw [if_pos c2] at h ⊢; cases h; rfl
    rw [if_neg c2] at h ⊢
    by_cases c3 : d = 114
    · rw [if_pos c3] at h ⊢; cases h; rfl
    rw [if_neg c3] at h ⊢
    by_cases c4 : d = 120
    · rw [if_pos c4] at h ⊢
      exact hex_ext t h
    rw [if_neg c4] at h ⊢
    by_cases c5 : specR d = true
    · rw [if_pos c5] at h ⊢; cases h; rfl
    · rw [if_neg c5] at h; cases h
theorem let_ext {br : Bool} {l r : List Nat} {b : Nat} (t : List Nat) (h : letR br l = some (b, r)) : letR br (l ++ t) = some (b, r ++ t) := by
  match l, h with
  | c :: u, h =>
    simp only [letR, List.cons_append] at h ⊢
    by_cases c1 : c = 92
    · rw [if_pos c1] at h ⊢
      exact esc_ext t h
    rw [if_neg c1] at h ⊢
    by_cases c2 : specR c = true ∧ (br = true ∨ c ≠ 45 ∧ c ≠ 94)
    · rw [if_pos c2] at h; cases h
    · rw [if_neg c2] at h ⊢; cases h; rfl
theorem head_ext {l : List Nat} (t : List Nat) (h : l ≠ []) : (l ++ t).head? = l.head? ∧ (l ++ t).tail = l.tail ++ t := by
  match l, h with
  | c :: u, _ => exact ⟨rfl, rfl⟩
theorem spans_none (f : Nat) (first : Bool) (s : St4) : spansR f first s [] = none := by
  cases f with
  | zero => rfl
  | succ f => simp [spansR, letR]
theorem spans_ext (t : List Nat) : ∀ (f g : Nat), f ≤ g → ∀ (first : Bool) (s : St4) (l : List Nat) (x : St4 × List Nat), spansR f first s l = some x → spansR g first s (l ++ t) = some (x.1, x.2 ++ t)
  | 0, _, _, _, _, _, _, h => by cases h
  | f + 1, 0, hfg, _, _, _, _, _ => absurd hfg (by omega)
  | f + 1, g + 1, hfg, first, s, l, x, h => by
    have hl : l ≠ [] := fun e => by
      subst e
      rw [spans_none] at h
      cases h
    obtain ⟨e1, e2⟩ := head_ext t hl
    simp only [spansR, e1, e2] at h ⊢
    by_cases c1 : first = false ∧ l.head? = some 93
    · rw [if_pos c1] at h ⊢; cases h; rfl
    rw [if_neg c1] at h ⊢
    rcases hq : letR true l with _ | ⟨a, r⟩
    · rw [hq] at h; cases h
    rw [hq] at h
    rw [let_ext t hq]
    dsimp only at h ⊢
    by_cases hr : r = []
    · subst hr
      rw [if_neg (by simp), spans_none] at h
      cases h
    obtain ⟨e3, e4⟩ := head_ext t hr
    rw [e3, e4]
    by_cases c2 : r.head? = some 45
    · rw [if_pos c2] at h ⊢
      rcases hq2 : letR true r.tail with _ | ⟨b, u⟩
      · rw [hq2] at h; cases h
      rw [hq2] at h
      rw [let_ext t hq2]
      dsimp only at h ⊢
      by_cases c3 : b < a
      · rw [if_pos c3] at h; cases h
      · rw [if_neg c3] at h ⊢
        exact spans_ext t f g (by omega) _ _ _ _ h
    · rw [if_neg c2] at h ⊢
      exact spans_ext t f g (by omega) _ _ _ _ h
theorem bracket_ext {l r : List Nat} {n : Nd} (t : List Nat) (h : bracketR l = some (n, r)) : bracketR (l ++ t) = some (n, r ++ t) := by
  unfold bracketR at h ⊢
  by_cases hl : l = []
  · subst hl
    simp [spans_none] at h
  obtain ⟨e1, e2⟩ := head_ext t hl
  rw [e1, e2]
  by_cases c : l.head? = some 94
  · rw [if_pos c] at h ⊢
    rw [Option.map_eq_some_iff] at h
    obtain ⟨x, hx, e⟩ := h
    cases e
    rw [spans_ext t _ ((l ++ t).length + 1) (by rw [List.length_append]; omega) _ _ _ _ hx]
    rfl
  · rw [if_neg c] at h ⊢
    rw [Option.map_eq_some_iff] at h
    obtain ⟨x, hx, e⟩ := h
    cases e
    rw [spans_ext t _ ((l ++ t).length + 1) (by rw [List.length_append]; omega) _ _ _ _ hx]
    rfl
theorem signs_ext {t : List Nat} (ht : ∀ n, signsR n t = (n, t)) : ∀ (l : List Nat) (n : Nd), signsR n (l ++ t) = ((signsR n l).1, (signsR n l).2 ++ t)
  | [], n => by rw [List.nil_append, ht n]; rfl
  | c :: l, n => by
    rw [List.cons_append, signsR, signsR]
    split
    · exact signs_ext ht l _
    · rfl
theorem ext_both (t : List Nat) : ∀ (N : Nat) (l : List Nat), l.length ≤ N →
    (∀ n r, atR l = some (n, r) → atR (l ++ 41 :: t) = some (n, r ++ 41 :: t)) ∧ (∀ all row n r, rwR l all row = some (n, r) → rwR (l ++ 41 :: t) all row = some (n, r ++ 41 :: t))
  | 0, l, hN => by
    have : l = [] := List.eq_nil_of_length_eq_zero (by omega)
    subst this
    refine ⟨fun n r h => ?_, fun all row n r h => ?_⟩
    · rw [at_eq] at h
      simp [letR] at h
    · rw [rw_eq, if_pos (.inl rfl)] at h
      cases h
      rw [rw_eq, if_pos (.inr rfl)]
  | N + 1, l, hN => by
    by_cases hl : l = []
    · subst hl
      refine ⟨fun n r h => ?_, fun all row n r h => ?_⟩
      · rw [at_eq] at h
        simp [letR] at h
      · rw [rw_eq, if_pos (.inl rfl)] at h
        cases h
        rw [rw_eq, if_pos (.inr rfl)]
    obtain ⟨e1, e2⟩ := head_ext (41 :: t) hl
    have hpos : 0 < l.length := List.length_pos_iff.2 hl
    have htl : l.tail.length + 1 = l.length := by rw [List.length_tail]; omega
    have hne : l ++ 41 :: t ≠ [] := by simp
    have hat : ∀ n r, atR l = some (n, r) → atR (l ++ 41 :: t) = some (n, r ++ 41 :: t) := fun n r h => by
      rw [at_eq] at h ⊢
      rw [e1, e2]
      by_cases c1 : l.head? = some 40
      · rw [if_pos c1] at h ⊢
        rcases hq : rwR l.tail [] [] with _ | ⟨m, q⟩
        · rw [hq] at h; cases h
        rw [hq] at h
        rw [(ext_both t N l.tail (by omega)).2 _ _ _ _ hq]
        dsimp only at h ⊢
        by_cases c2 : q.head? = some 41
        · rw [if_pos c2] at h
          have hq0 : q ≠ [] := fun e => by rw [e] at c2; cases c2
          obtain ⟨e3, e4⟩ := head_ext (41 :: t) hq0
          rw [e3, e4, if_pos c2]
          cases h
          rfl
        · rw [if_neg c2] at h; cases h
      rw [if_neg c1] at h ⊢
      by_cases c3 : l.head? = some 91
      · rw [if_pos c3] at h ⊢
        exact bracket_ext _ h
      rw [if_neg c3] at h ⊢
      by_cases c4 : l.head? = some 46
      · rw [if_pos c4] at h ⊢
        cases h; rfl
      rw [if_neg c4] at h ⊢
      rw [Option.map_eq_some_iff] at h
      obtain ⟨x, hx, e⟩ := h
      cases e
      rw [let_ext _ hx]
      rfl
    refine ⟨hat, fun all row n r h => ?_⟩
    rw [rw_eq] at h ⊢
    rw [e1, e2]
    by_cases c1 : l.head? = some 41
    · rw [if_pos (.inr c1)] at h ⊢
      cases h; rfl
    rw [if_neg (by simp [hl, c1])] at h
    rw [if_neg (by simp [c1])]
    by_cases c2 : l.head? = some 124
    · rw [if_pos c2] at h ⊢
      exact (ext_both t N l.tail (by omega)).2 _ _ _ _ h
    rw [if_neg c2] at h ⊢
    rcases hq : atR l with _ | ⟨m, q⟩
    · rw [hq] at h; cases h
    rw [hq] at h
    rw [hat _ _ hq]
    dsimp only at h ⊢
    have h1 := at_len hq
    have h2 := signs_len q m
    rw [signs_ext (t := 41 :: t) (fun n => rfl) q m]
    exact (ext_both t N (signsR m q).2 (by omega)).2 _ _ _ _ h
/-- A rule in brackets is an atom. -/
theorem at_paren {l : List Nat} {n : Nd} (h : parseR l = some n) (r : List Nat) : atR (40 :: l ++ 41 :: r) = some (n, r) := by
  rw [parse_eq] at h
  have hq : rwR l [] [] = some (n, []) := by
    split at h
    · rename_i m hm
      cases h
      exact hm
    · cases h
  have := (ext_both r l.length l (Nat.le_refl _)).2 _ _ _ _ hq
  rw [at_eq, if_pos (show (40 :: l ++ 41 :: r).head? = some 40 from rfl)]
  show (match rwR (l ++ 41 :: r) [] [] with
      | none => none
      | some (n, r) => if r.head? = some 41 then some (n, r.tail) else none) = _
  rw [this]
  rfl
theorem rw_paren {l : List Nat} {n : Nd} (h : parseR l = some n) (r : List Nat) (all row : List Nd) : rwR (40 :: l ++ 41 :: r) all row = rwR (signsR n r).2 all (row ++ [(signsR n r).1]) := by
  rw [rw_eq, if_neg (by simp), if_neg (by simp), at_paren h r]
def parT (l : List Nat) : List Nat := 40 :: l ++ [41]
theorem parse_two {l : List Nat} {n : Nd} (h : parseR l = some n) : parseR (parT l ++ 124 :: parT l) = some (.mk 3 noR [n, n]) := by
  have e : parT l ++ 124 :: parT l = 40 :: l ++ 41 :: (124 :: parT l) := by simp [parT]
  rw [parse_eq, e, rw_paren h _ [] []]
  show (match rwR (124 :: parT l) [] ([] ++ [n]) with
    | some (n, []) => some n
    | _ => none) = _
  rw [rw_bar]
  show (match rwR (parT l) [n] [] with
    | some (n, []) => some n
    | _ => none) = _
  rw [parT, rw_paren h [] [n] []]
  rfl
theorem parse_star {l : List Nat} {n : Nd} (h : parseR l = some n) : parseR (parT l ++ [42]) = some (.mk 4 noR [n]) := by
  have e : parT l ++ [42] = 40 :: l ++ 41 :: [42] := by simp [parT]
  rw [parse_eq, e, rw_paren h _ [] []]
  rfl
theorem parse_plus {l : List Nat} {n : Nd} (h : parseR l = some n) : parseR (parT l ++ [43]) = some (.mk 5 noR [n]) := by
  have e : parT l ++ [43] = 40 :: l ++ 41 :: [43] := by simp [parT]
  rw [parse_eq, e, rw_paren h _ [] []]
  rfl
theorem parse_maybe {l : List Nat} {n : Nd} (h : parseR l = some n) : parseR (40 :: (parT l ++ [43]) ++ [41, 63]) = some (.mk 6 noR [.mk 5 noR [n]]) := by
  rw [parse_eq, rw_paren (parse_plus h) [63] [] []]
  rfl
theorem lang_two (n : Nd) (w : List Nat) : LangN (.mk 3 noR [n, n]) w ↔ LangN n w := by
  rw [LangN, if_neg (by decide), if_neg (by decide), if_pos rfl, LangA, LangA, LangA, or_false, or_self]
theorem lang_maybe (n : Nd) (w : List Nat) : LangN (.mk 6 noR [.mk 5 noR [n]]) w ↔ LangN (.mk 4 noR [n]) w := by
  rw [LangN, if_neg (by decide), if_neg (by decide), if_neg (by decide), if_neg (by decide), if_neg (by decide), if_pos rfl, LangO, LangN, if_neg (by decide), if_neg (by decide), if_neg (by decide), if_neg (by decide), if_pos rfl,
    LangN, if_neg (by decide), if_neg (by decide), if_neg (by decide), if_pos rfl]
  constructor
  · rintro (rfl | ⟨u, v, rfl, hu, hv⟩)
    · exact .nil
    · exact .cons hu hv
  · intro h
    cases h with
    | nil => exact .inl rfl
    | cons hu hv => exact .inr ⟨_, _, rfl, hu, hv⟩
theorem langR_one {n m : Nd} (h : ∀ w, LangN n w ↔ LangN m w) (w : List Nat) (j : Nat) : LangR [n] w j ↔ LangR [m] w j := by
  unfold LangR
  cases j with
  | zero => simp [h w]
  | succ j => simp
end Go.Proofs.YtjeomlickkpebaaGreatDoor
