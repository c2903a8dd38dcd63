/-
  Texts of this proof, one behind the other; each begins with its own remark.
-/
import Derived.Test.YtjeomlickkpebaaGreatDoorBe26
import Derived.Test.YtjeomlickkpebaaGreatDoorBe8
import Derived.Test.YtjeomlickkpebaaGreatDoorBe3
/-
  dfas.DFA in memory: a row of states of 257 cells each. No call is walked here.
-/
namespace Go.Proofs.YtjeomlickkpebaaGreatDoor
open Go.RowKit

/-- A state's cells: the states behind all bytes, and the rule. -/
def staD (s : List Int × Int) : List Value := s.1.map (Value.int .i64) ++ [.int .i64 s.2]
def stasD : List (List Int × Int) → List Value
  | [] => []
  | s :: q => staD s ++ stasD q
def W256 (q : List (List Int × Int)) : Prop := ∀ s, s ∈ q → s.1.length = 256
theorem staD_len {s : List Int × Int} (h : s.1.length = 256) : (staD s).length = 257 := by
  unfold staD
  rw [List.length_append, List.length_map, h]
  rfl
theorem stasD_app : ∀ q r, stasD (q ++ r) = stasD q ++ stasD r
  | [], r => rfl
  | s :: q, r => by rw [List.cons_append, stasD, stasD, stasD_app q r, List.append_assoc]
theorem stasD_at : ∀ (q : List (List Int × Int)) (i : Nat) (s : List Int × Int), W256 q → q[i]? = some s → ∀ j, j < 257 → (stasD q)[i * 257 + j]? = (staD s)[j]?
  | t :: q, 0, s, hw, h, j, hj => by
    cases h
    rw [stasD, Nat.zero_mul, Nat.zero_add, List.getElem?_append_left (by rw [staD_len (hw t (by simp))]; exact hj)]
  | t :: q, i + 1, s, hw, h, j, hj => by
    have hl := staD_len (hw t (by simp))
    rw [stasD, List.getElem?_append_right (by rw [hl]; omega), hl, show (i + 1) * 257 + j - 257 = i * 257 + j by omega]
    exact stasD_at q i s (fun t ht => hw t (by simp [ht])) h j hj
theorem staD_next {s : List Int × Int} {j : Nat} {a : Int} (h : s.1[j]? = some a) : (staD s)[j]? = some (.int .i64 a) := by
  unfold staD
  rw [List.getElem?_append_left (by rw [List.length_map]; exact (List.getElem?_eq_some_iff.1 h).1), List.getElem?_map, h]
  rfl
theorem staD_rule {s : List Int × Int} (h : s.1.length = 256) : (staD s)[256]? = some (.int .i64 s.2) := by
  unfold staD
  rw [List.getElem?_append_right (by rw [List.length_map, h]; exact Nat.le_refl _), List.length_map, h]
  rfl
theorem staD_one {s : List Int × Int} : ∀ x, x ∈ staD s → x.oneCell' = true := fun x hx => by
  unfold staD at hx
  rcases List.mem_append.1 hx with hx | hx
  · obtain ⟨a, _, rfl⟩ := List.mem_map.1 hx
    rfl
  · rw [List.mem_singleton.1 hx]; rfl
/-- A table of the program that is read; one that is none, too. -/
structure DfV (w : World) (v : Value) (d : Dfa) : Prop where
  few : d.n ≤ 2000
  len : d.rule.length = d.n
  row : ∀ r, r ∈ d.next → r.length = 256
  low : ∀ r, r ∈ d.next → ∀ x, x ∈ r → -1 ≤ x
  alow : ∀ x, x ∈ d.rule → -1 ≤ x
  at_ : (v = .pointer none ∧ d.n = 0) ∨ ∃ B sv, v = .pointer (some ⟨B, 0, none⟩) ∧ w.cell? ⟨B, 0, none⟩ = some sv ∧ RowZ (fun _ => True) w sv d.n (stasD (d.next.zip d.rule))
section
variable {w w' : World} {v : Value} {d : Dfa}
theorem DfV.below (h : DfV w v d) (hb : Below w.heap.size w w') : DfV w' v d := by
  obtain ⟨h1, h2, h3, h4, h5, h6⟩ := h
  have hk := keep_below (fun _ => True) hb
  refine ⟨h1, h2, h3, h4, h5, ?_⟩
  rcases h6 with h6 | ⟨B, sv, hv, c0, hs⟩
  · exact .inl h6
  · exact .inr ⟨B, sv, hv, hk.cell c0 trivial, hs.keep hk fun _ _ h => h⟩
theorem zip_256 (h : ∀ r, r ∈ d.next → r.length = 256) : W256 (d.next.zip d.rule) := fun s hs => h s.1 (List.of_mem_zip hs).1
theorem DfV.to_low (h : DfV w v d) (q : Int) (b : Nat) : -1 ≤ d.to q b := by
  unfold Dfa.to
  split
  · by_cases hq : q.toNat < d.next.length
    · rw [getD_at (List.getElem?_eq_getElem hq)]
      by_cases hb : b < (d.next[q.toNat]).length
      · rw [getD_at (List.getElem?_eq_getElem hb)]
        exact h.low _ (List.getElem_mem hq) _ (List.getElem_mem hb)
      · rw [getD_no (by omega)]; exact Int.le_refl _
    · rw [getD_no (l := d.next) (by omega)]
      exact Int.le_refl _
  · exact Int.le_refl _
theorem DfV.acc_low (h : DfV w v d) (q : Int) : -1 ≤ d.acc q := by
  unfold Dfa.acc
  split
  · by_cases hq : q.toNat < d.rule.length
    · rw [getD_at (List.getElem?_eq_getElem hq)]
      exact h.alow _ (List.getElem_mem hq)
    · rw [getD_no (by omega)]; exact Int.le_refl _
  · exact Int.le_refl _
/-- Outside of it there is nothing. -/
theorem to_out {q : Int} (h : ¬ (0 ≤ q ∧ q < (d.n : Int))) (b : Nat) : d.to q b = -1 := by
  unfold Dfa.to
  split
  · rename_i h0
    rw [getD_no (l := d.next) (by have : ¬ q < (d.next.length : Int) := fun e => h ⟨h0, e⟩; omega)]
    rfl
  · rfl
theorem acc_out (hl : d.rule.length = d.n) {q : Int} (h : ¬ (0 ≤ q ∧ q < (d.n : Int))) : d.acc q = -1 := by
  unfold Dfa.acc
  split
  · rw [getD_no (by omega)]
  · rfl
/-- The cells on the way to a state. -/
theorem DfV.sta (h : DfV w v d) {k : Nat} (hk : k < d.n) : ∃ B g o cap, v = .pointer (some ⟨B, 0, none⟩) ∧ w.cell? ⟨B, 0, none⟩ = some (.slice (some ⟨g, o, none⟩) d.n cap) ∧ d.n ≤ cap ∧
    (∀ b, b < 256 → w.cell? ⟨g, o + (k * 257 + b), none⟩ = some (.int .i64 (d.to k b))) ∧ w.cell? ⟨g, o + (k * 257 + 256), none⟩ = some (.int .i64 (d.acc k)) ∧ ∃ r, r.length = 256 ∧ (∀ b, b < 256 → r[b]? = some (d.to k b)) ∧ w.rangeAt g (o + k * 257) (staD (r, d.acc k)) := by
  have hkn : k < d.next.length := hk
  obtain ⟨h1, h2, h3, h4, h5, h6⟩ := h
  rcases h6 with ⟨_, h6⟩ | ⟨B, sv, hv, c0, ⟨ao, cap, rfl, hn, hc⟩⟩
  · omega
  have hz : (d.next.zip d.rule)[k]? = some (d.next[k], d.rule[k]'(by omega)) := by
    rw [List.getElem?_eq_getElem (by rw [List.length_zip, h2]; unfold Dfa.n at *; omega), List.getElem_zip]
  have h256 := h3 _ (List.getElem_mem hkn)
  have hto : ∀ b, b < 256 → d.next[k][b]? = some (d.to k b) := fun b hb => by
    unfold Dfa.to
    rw [if_pos (by omega), Int.toNat_natCast, getD_at (List.getElem?_eq_getElem hkn), List.getElem?_eq_getElem (by omega), getD_at (List.getElem?_eq_getElem (by omega))]
  have hacc : d.rule[k]'(by omega) = d.acc k := by
    unfold Dfa.acc
    rw [if_pos (by omega), Int.toNat_natCast, getD_at (List.getElem?_eq_getElem (by omega))]
  have hat := fun j hj => stasD_at _ k _ (zip_256 h3) hz j hj
  rw [hacc] at hat
  obtain ⟨g, o, rfl, _⟩ := hc (k * 257 + 256) _ (by rw [hat 256 (by decide)]; exact staD_rule h256)
  have hcell : ∀ j x, j < 257 → (staD (d.next[k], d.acc k))[j]? = some x → w.cell? ⟨g, o + (k * 257 + j), none⟩ = some x := fun j x hj hx => by
    obtain ⟨g', o', e, _, hg⟩ := hc (k * 257 + j) x (by rw [hat j hj]; exact hx)
    cases e
    exact hg
  refine ⟨B, g, o, cap, hv, c0, hn, fun b hb => hcell b _ (by omega) (staD_next (hto b hb)), hcell 256 _ (by decide) (staD_rule h256), d.next[k], h256, hto, fun j x hx => ?_⟩
  rw [Nat.add_assoc]
  exact hcell j x (by have := (List.getElem?_eq_some_iff.1 hx).1; rw [staD_len h256] at this; exact this) hx
end
/-- A table of the program, in memory. -/
def DfW (w : World) (v : Value) (d : Dfa) : Prop := DfV w v d ∧ OkD d ∧ ∀ x, x ∈ d.rule → x ≤ 100000
section
variable {w w' : World} {v : Value} {d : Dfa}
theorem DfW.below (h : DfW w v d) (hb : Below w.heap.size w w') : DfW w' v d := ⟨h.1.below hb, h.2⟩
theorem DfW.ok (h : DfW w v d) : OkD d := h.2.1
theorem DfW.high (h : DfW w v d) (q : Int) : d.acc q ≤ 100000 := by
  unfold Dfa.acc
  split
  · by_cases hq : q.toNat < d.rule.length
    · rw [getD_at (List.getElem?_eq_getElem hq)]
      exact h.2.2 _ (List.getElem_mem hq)
    · rw [getD_no (by omega)]; decide
  · decide
theorem DfW.few (h : DfW w v d) : d.n ≤ 2000 := h.1.few
end
end Go.Proofs.YtjeomlickkpebaaGreatDoor

/-
  dfas, plain: an NFA that is made has states at the beginning. No call is walked here.
-/
namespace Go.Proofs.YtjeomlickkpebaaGreatDoor

/-- Without a byte one comes to a state that is no fork. -/
def EpN (Q : List Sta) (i : Nat) : Prop := ∃ j s, Eps Q i j ∧ Q[j]? = some s ∧ s.kind ≠ 1
theorem EpN.here {Q : List Sta} {i : Nat} {s : Sta} (h : Q[i]? = some s) (hk : s.kind ≠ 1) : EpN Q i := ⟨i, s, Eps.refl i, h, hk⟩
theorem EpN.next {Q : List Sta} {i : Nat} {s : Sta} (h : Q[i]? = some s) (hk : s.kind = 1) (g : EpN Q s.next) : EpN Q i := by
  obtain ⟨j, t, h1, h2⟩ := g
  exact ⟨j, t, Eps.next h hk h1, h2⟩
theorem EpN.also {Q : List Sta} {i : Nat} {s : Sta} (h : Q[i]? = some s) (hk : s.kind = 1) (g : EpN Q s.also) : EpN Q i := by
  obtain ⟨j, t, h1, h2⟩ := g
  exact ⟨j, t, Eps.also h hk h1, h2⟩
def Lead (q : List Sta) (next : Nat) (q' : List Sta) (a : Nat) : Prop := ∀ Q : List Sta, (∀ i, q.length ≤ i → i < q'.length → Q[i]? = q'[i]?) → EpN Q next → EpN Q a
theorem fork_len (q : List Sta) (a b : Nat) : (q ++ [forkS a b]).length = q.length + 1 := by rw [List.length_append]; rfl
/-- A loop's own state. -/
theorem loop_at {L : List Nat → Prop} {q q1 : List Sta} {next a : Nat} (h : Built L (q ++ [forkS next next]) q.length q1 a) : (alsoS q1 q.length a)[q.length]? = some ⟨1, noR, next, a, 0⟩ := by
  have := h.same q.length (by rw [fork_len]; omega)
  rw [snoc_at] at this
  exact also_at q1 q.length a _ this
mutual
theorem build_lead : ∀ (n : Nd), mayR n = true → wfR n → ∀ (q : List Sta) (next : Nat), Lead q next (buildT n q next).1 (buildT n q next).2
  | .mk k s l, h, hw, q, next => by
    obtain ⟨h1, h2⟩ := may_parts h
    obtain ⟨f0, f6, f1, f4, f2, fs⟩ := form_spec h1
    rw [wfR] at hw
    rw [buildT]
    by_cases k1 : k = 1
    · rw [if_pos k1]
      intro Q hQ _
      have := hQ q.length (Nat.le_refl _) (by rw [List.length_append]; show _ < _ + 1; omega)
      rw [snoc_at] at this
      exact EpN.here this (by simp [takeS])
    rw [if_neg k1]
    by_cases k2 : k = 2
    · rw [if_pos k2]
      exact catT_lead l h2 hw.2 q next
    rw [if_neg k2]
    by_cases k3 : k = 3
    · rw [if_pos k3]
      exact altT_lead l (by have := f2 (.inr k3); omega) h2 hw.2 q next
    rw [if_neg k3]
    have hlen : (q ++ [forkS next next]).length = q.length + 1 := fork_len q next next
    by_cases k4 : k = 4
    · rw [if_pos k4]
      have hb := oneT_ok l h2 hw.2 (q ++ [forkS next next]) q.length
      have hl := hb.len
      intro Q hQ hn
      have := hQ q.length (Nat.le_refl _) (by rw [also_len]; omega)
      rw [loop_at hb] at this
      exact EpN.next this rfl hn
    rw [if_neg k4]
    by_cases k5 : k = 5
    · rw [if_pos k5]
      have hb := oneT_ok l h2 hw.2 (q ++ [forkS next next]) q.length
      have hl := hb.len
      intro Q hQ hn
      have := hQ q.length (Nat.le_refl _) (by rw [also_len]; omega)
      rw [loop_at hb] at this
      refine oneT_lead l h2 hw.2 (q ++ [forkS next next]) q.length Q (fun i hi hl2 => ?_) (EpN.next this rfl hn)
      rw [hQ i (by omega) (by rw [also_len]; exact hl2), also_ne _ _ _ _ (by omega)]
    rw [if_neg k5]
    by_cases k6 : k = 6
    · rw [if_pos k6]
      have hb := oneT_ok l h2 hw.2 q next
      have hl := hb.len
      intro Q hQ hn
      have := hQ (oneT l q next).1.length hl (by rw [fork_len]; omega)
      rw [snoc_at] at this
      exact EpN.also this rfl hn
    rw [if_neg k6]
    exact fun _ _ hn => hn
theorem catT_lead : ∀ (l : List Nd), mayL l = true → wfL l → ∀ (q : List Sta) (next : Nat), Lead q next (catT l q next).1 (catT l q next).2
  | [], _, _, _, _ => fun _ _ hn => hn
  | n :: l, h, hw, q, next => by
    rw [mayL, Bool.and_eq_true] at h
    rw [wfL] at hw
    rw [catT]
    have hb := catT_ok l h.2 hw.2 q next
    have hg := build_ok n h.1 hw.1 (catT l q next).1 (catT l q next).2
    have h1 := hb.len
    have h2 := hg.len
    intro Q hQ hn
    refine build_lead n h.1 hw.1 _ _ Q (fun i hi hl => hQ i (by omega) hl) (catT_lead l h.2 hw.2 q next Q (fun i hi hl => ?_) hn)
    rw [hQ i hi (by omega), hg.same i hl]
theorem altT_lead : ∀ (l : List Nd), 0 < l.length → mayL l = true → wfL l → ∀ (q : List Sta) (next : Nat), Lead q next (altT l q next).1 (altT l q next).2
  | [], h0, _, _, _, _ => absurd h0 (Nat.lt_irrefl _)
  | n :: l, _, h, hw, q, next => by
    rw [mayL, Bool.and_eq_true] at h
    rw [wfL] at hw
    rw [altT]
    exact altsT_lead l h.2 hw.2 (LangN n) q _ _ next (build_ok n h.1 hw.1 q next) (build_lead n h.1 hw.1 q next)
theorem altsT_lead : ∀ (l : List Nd), mayL l = true → wfL l → ∀ (L : List Nat → Prop) (q q1 : List Sta) (a next : Nat), Built L q next q1 a → Lead q next q1 a → Lead q next (altsT l q1 a next).1 (altsT l q1 a next).2
  | [], _, _, _, _, _, _, _, _, hl => hl
  | n :: l, h, hw, L, q, q1, a, next, hb, hl => by
    rw [mayL, Bool.and_eq_true] at h
    rw [wfL] at hw
    rw [altsT]
    have hg := build_ok n h.1 hw.1 q1 next
    have h1 := hb.len
    have h2 := hg.len
    refine altsT_lead l h.2 hw.2 _ q _ _ next (hb.alt hg) (fun Q hQ hn => ?_)
    have := hQ (buildT n q1 next).1.length (by omega) (by rw [fork_len]; omega)
    rw [snoc_at] at this
    refine EpN.next this rfl (hl Q (fun i hi hl2 => ?_) hn)
    rw [hQ i hi (by rw [fork_len]; omega), snoc_lt (by omega), hg.same i hl2]
theorem oneT_lead : ∀ (l : List Nd), mayL l = true → wfL l → ∀ (q : List Sta) (next : Nat), Lead q next (oneT l q next).1 (oneT l q next).2
  | [], _, _, _, _ => fun _ _ hn => hn
  | n :: l, h, hw, q, next => by
    rw [mayL, Bool.and_eq_true] at h
    rw [wfL] at hw
    rw [oneT]
    exact build_lead n h.1 hw.1 q next
end
/-- What stands at the beginning of each rule stays so. -/
theorem makeF_lead : ∀ (l : List Nd) (j : Nat) (q : List Sta) (first : List Int), GoodL l → (∃ a, a ∈ first ∧ 0 ≤ a ∧ ∀ Q : List Sta, (∀ i, i < q.length → Q[i]? = q[i]?) → EpN Q a.toNat) → ∃ a, a ∈ (makeF l j q first).2 ∧ 0 ≤ a ∧ EpN (makeF l j q first).1 a.toNat
  | [], j, q, first, _, ⟨a, ha, h0, h⟩ => ⟨a, ha, h0, h q fun _ _ => rfl⟩
  | n :: l, j, q, first, hg, ⟨a, ha, h0, h⟩ => by
    rw [makeF]
    have hb := build_ok n (hg n (by simp)).1 (hg n (by simp)).2 (q ++ [endS j]) q.length
    have h1 := hb.len
    have hlen : (q ++ [endS j]).length = q.length + 1 := by rw [List.length_append]; rfl
    refine makeF_lead l (j + 1) _ _ (fun m hm => hg m (by simp [hm])) ⟨a, by simp [ha], h0, fun Q hQ => h Q fun i hi => ?_⟩
    rw [hQ i (by omega), hb.same i (by omega), snoc_lt hi]
theorem makeQ_lead (l : List Nd) (h0 : l ≠ []) (hg : GoodL l) : ∃ a, a ∈ (makeQ l).2 ∧ 0 ≤ a ∧ EpN (makeQ l).1 a.toNat := by
  cases l with
  | nil => exact absurd rfl h0
  | cons n l =>
    unfold makeQ
    rw [makeF]
    have hb := build_ok n (hg n (by simp)).1 (hg n (by simp)).2 ([] ++ [endS 0]) ([] : List Sta).length
    have hl := build_lead n (hg n (by simp)).1 (hg n (by simp)).2 ([] ++ [endS 0]) ([] : List Sta).length
    refine makeF_lead l 1 _ _ (fun m hm => hg m (by simp [hm])) ⟨((buildT n ([] ++ [endS 0]) ([] : List Sta).length).2 : Int), List.mem_append_right _ (List.mem_singleton.2 rfl), Int.natCast_nonneg _, fun Q hQ => ?_⟩
    rw [Int.toNat_natCast]
    refine hl Q (fun i _ hi => hQ i hi) ?_
    have := hQ 0 (Nat.lt_of_lt_of_le Nat.zero_lt_one (show 1 ≤ _ from hb.len))
    rw [hb.same 0 (show 0 < 1 by decide)] at this
    exact EpN.here this (by simp [endS])
theorem reach_has {q : List Sta} (hq : ∀ (i : Nat) (s : Sta), q[i]? = some s → StOk q.length s) {l : List Int} (hl : InQ q l) {a : Int} (ha : a ∈ l) (he : EpN q a.toNat) : reachP q l ≠ [] := by
  obtain ⟨l1, _, a1, s1, d1⟩ := marks_ok q hq l (noneB q.length) hl (noneB_len _)
  obtain ⟨j, s, h1, h2, h3⟩ := he
  have d1' : ∀ i, (marksP q l (noneB q.length)).getD i false = true → ClosedB q (marksP q l (noneB q.length)) i := fun i h => by
    rcases d1 i h with h | h
    · rw [noneB_get] at h; cases h
    · exact h
  have key : ∀ {i j : Nat}, Eps q i j → (marksP q l (noneB q.length)).getD i false = true → (marksP q l (noneB q.length)).getD j false = true := fun h => by
    induction h with
    | refl a => exact fun h => h
    | next h hk _ ih => exact fun hm => ih (d1' _ hm _ h hk).1
    | also h hk _ ih => exact fun hm => ih (d1' _ hm _ h hk).2
  have hj := key h1 (a1 a ha)
  have hm : (j : Int) ∈ reachP q l := (keep_mem q _ _ _).2 ⟨j, rfl, (List.getElem?_eq_some_iff.1 h2).1, hj, by rw [h2, Option.map_some]; exact fun e => h3 (Option.some.inj e)⟩
  intro e
  rw [e] at hm
  cases hm
/-- An NFA that is made has states at the beginning. -/
theorem start_ne {L : List ByteArray} (h : makeE L = 0) : reachP (quE L) (fiE L) ≠ [] := by
  obtain ⟨hm, _⟩ := make_good h
  have h0 : nodesP L ≠ [] := fun e => by
    unfold makeE at h
    have : L.length = 0 := by rw [show L.length = (nodesP L).length from (List.length_map _).symm, e]; rfl
    rw [if_pos (.inl this)] at h
    cases h
  obtain ⟨a, ha, _, he⟩ := makeQ_lead (nodesP L) h0 (nodes_good L)
  exact reach_has hm.ok hm.in_ ha he
end Go.Proofs.YtjeomlickkpebaaGreatDoor

/-
  dfas.DFA: States, has, Step, Accepts: what they return.
-/
namespace Go.Proofs.YtjeomlickkpebaaGreatDoor
open Go.RowKit

section
variable {w : World} {v : Value} {d : Dfa}
theorem pvstates_any (h : DfV w v d) : Calls Tryz.prog 16 #[v] w fun e w' => e = .returned (.int .i64 (d.n : Int)) ∧ w' = w := by
  have hfew := h.few
  rcases h.at_ with ⟨rfl, h0⟩ | ⟨B, sv, rfl, c0, ⟨ao, cap, rfl, hn, hc⟩⟩
  · rw [h0]
    clear h h0 hfew
    go_enter Tryz.func16, Tryz.ntmps16
    go_wp2_with fail
    go_ret
    exact ⟨rfl, rfl⟩
  · obtain ⟨n, hnn⟩ : ∃ n, d.n = n := ⟨_, rfl⟩
    rw [hnn] at c0 hn ⊢
    clear h hc hnn hfew
    go_enter Tryz.func16, Tryz.ntmps16
    go_wp2_with fail
    go_ret
    exact ⟨rfl, rfl⟩
theorem pvhas_any (h : DfV w v d) (k : Int) : Calls Tryz.prog 37 #[v, .int .i64 k] w fun e w' => e = .returned (.bool (decide (0 ≤ k ∧ k < (d.n : Int)))) ∧ w' = w := by
  have HS := Lib.hid (pvstates_any h)
  clear h
  by_cases h0 : 0 ≤ k
  · by_cases h1 : k < (d.n : Int)
    · rw [decide_eq_true ⟨h0, h1⟩]
      go_enter Tryz.func37, Tryz.ntmps37
      go_wp2_with fail
      go_fit HS.out
      rintro e w2 ⟨rfl, rfl⟩
      go_wp2_with fail
      go_ret
      exact ⟨rfl, rfl⟩
    · rw [decide_eq_false fun e => h1 e.2]
      have hd : decide (k < (d.n : Int)) = false := decide_eq_false h1
      go_enter Tryz.func37, Tryz.ntmps37
      go_wp2_with fail
      go_fit HS.out
      rintro e w2 ⟨rfl, rfl⟩
      go_wp2_with fail
      go_ret
      exact ⟨by first | rfl | (rw [← hd]; rfl), rfl⟩
  · rw [decide_eq_false fun e => h0 e.1]
    go_enter Tryz.func37, Tryz.ntmps37
    go_wp2_with fail
    go_ret
    exact ⟨rfl, rfl⟩
theorem pvstep_any (h : DfV w v d) (k : Int) (b : Nat) (hb : b < 256) : Calls Tryz.prog 17 #[v, .int .i64 k, .int .u8 (b : Int)] w fun e w' => e = .returned (.int .i64 (d.to k b)) ∧ w' = w := by
  have HH := Lib.hid (pvhas_any h k)
  by_cases hk : 0 ≤ k ∧ k < (d.n : Int)
  · rw [decide_eq_true hk] at HH
    obtain ⟨m, rfl⟩ : ∃ m : Nat, k = m := ⟨k.toNat, by omega⟩
    obtain ⟨B, g, o, cap, rfl, c0, hn, c1, _, _⟩ := h.sta (k := m) (by omega)
    have c2 := c1 b hb
    rw [← Nat.add_assoc] at c2
    obtain ⟨n, hnn⟩ : ∃ n, d.n = n := ⟨_, rfl⟩
    rw [hnn] at c0 hn hk
    obtain ⟨x, hx⟩ : ∃ x, d.to m b = x := ⟨_, rfl⟩
    rw [hx] at c2 ⊢
    obtain ⟨k0, k1⟩ := hk
    have hmn : m < n := by omega
    have hb2 : (b : Int) < 256 := by omega
    clear h hnn c1 hx
    go_enter Tryz.func17, Tryz.ntmps17
    go_wp2_with fail
    go_fit HH.out
    rintro e w2 ⟨rfl, rfl⟩
    go_wp2_with fail
    go_ret
    exact ⟨rfl, rfl⟩
  · rw [decide_eq_false hk] at HH
    rw [to_out hk]
    clear h hk
    go_enter Tryz.func17, Tryz.ntmps17
    go_wp2_with fail
    go_fit HH.out
    rintro e w2 ⟨rfl, rfl⟩
    go_wp2_with fail
    go_ret
    exact ⟨rfl, rfl⟩
theorem pvacc_any (h : DfV w v d) (k : Int) : Calls Tryz.prog 18 #[v, .int .i64 k] w fun e w' => e = .returned (.int .i64 (d.acc k)) ∧ w' = w := by
  have HH := Lib.hid (pvhas_any h k)
  by_cases hk : 0 ≤ k ∧ k < (d.n : Int)
  · rw [decide_eq_true hk] at HH
    obtain ⟨m, rfl⟩ : ∃ m : Nat, k = m := ⟨k.toNat, by omega⟩
    obtain ⟨B, g, o, cap, rfl, c0, hn, _, c2, _⟩ := h.sta (k := m) (by omega)
    rw [← Nat.add_assoc] at c2
    obtain ⟨n, hnn⟩ : ∃ n, d.n = n := ⟨_, rfl⟩
    rw [hnn] at c0 hn hk
    obtain ⟨x, hx⟩ : ∃ x, d.acc m = x := ⟨_, rfl⟩
    rw [hx] at c2 ⊢
    obtain ⟨k0, k1⟩ := hk
    have hmn : m < n := by omega
    clear h hnn hx
    go_enter Tryz.func18, Tryz.ntmps18
    go_wp2_with fail
    go_fit HH.out
    rintro e w2 ⟨rfl, rfl⟩
    go_wp2_with fail
    go_ret
    exact ⟨rfl, rfl⟩
  · rw [decide_eq_false hk] at HH
    rw [acc_out h.len hk]
    clear h hk
    go_enter Tryz.func18, Tryz.ntmps18
    go_wp2_with fail
    go_fit HH.out
    rintro e w2 ⟨rfl, rfl⟩
    go_wp2_with fail
    go_ret
    exact ⟨rfl, rfl⟩
theorem pvmatch_in (h : DfV w v d) (s : ByteArray) (hs : s.size ≤ 1000) (a : Nat) (ha : a ≤ s.size) :
    Calls Tryz.prog 20 #[v, .string s, .int .i64 (a : Int)] w fun e w' => e = .returned (.tuple #[.int .i64 (matchD d (restR s a)).1, .int .i64 (matchD d (restR s a)).2.1, .int .i64 (matchD d (restR s a)).2.2]) ∧ Below w.heap.size w w' := by
  have HSP := Lib.hid (fun (W : World) (hb : Below w.heap.size w W) (k : Int) (b : Nat) (hb2 : b < 256) => pvstep_any (h.below hb) k b hb2)
  have HAC := Lib.hid (fun (W : World) (hb : Below w.heap.size w W) (k : Int) => pvacc_any (h.below hb) k)
  have HLO := Lib.hid (And.intro h.to_low h.acc_low)
  have ha1 : ¬ (a : Int) < 0 := by omega
  have ha2 : ¬ (a : Int) > (s.size : Int) := by omega
  have ha3 : (a : Int) ≤ 1000 := by omega
  have hd1 : decide ((a : Int) < 0) = false := decide_eq_false ha1
  have hd2 : decide ((s.size : Int) < (a : Int)) = false := decide_eq_false (by omega)
  have HA0 := Lib.hid (HAC.out w (Below.refl _ _) 0)
  obtain ⟨r0, hr0⟩ : ∃ r0, d.acc 0 = r0 := ⟨_, rfl⟩
  have H0 : Hid (matD d (restR s (a + 0)) 0 0 0 r0 = matchD d (restR s a) ∧ Below w.heap.size w w) := Lib.hid ⟨by rw [← hr0]; rfl, Below.refl _ _⟩
  rw [hr0] at HA0
  clear h hr0
  go_enter Tryz.func20, Tryz.ntmps20
  go_wp2_with fail
  go_fit HA0.out
  rintro e w1 ⟨rfl, rfl⟩
  clear HA0
  go_wp2_with fail
  go_loopw [6, 7, 8, 9] (fun s6 s7 s8 s9 wr => ∃ (j : Nat) (lg ru q : Int), s8 = .int .i64 (j : Int) ∧ a + j ≤ s.size ∧ s6 = .int .i64 lg ∧ s7 = .int .i64 ru ∧ s9 = .int .i64 q ∧ Hid (matD d (restR s (a + j)) q j lg ru = matchD d (restR s a) ∧ Below w1.heap.size w1 wr)) (fun _ _ s8 _ _ => s.size - (intOf s8).toNat)
  case atStart => exact ⟨0, 0, r0, 0, rfl, ha, rfl, rfl, rfl, H0⟩
  case round =>
    obtain ⟨j, lg, ru, q, rfl, hj, rfl, rfl, rfl, HX⟩ := hrel
    clear H0
    have i0 : (0 : Int) ≤ (j : Int) := by omega
    have ib : (a : Int) + (j : Int) ≤ 1000 := by omega
    have a0 : (0 : Int) ≤ (a : Int) := by omega
    by_cases hlt : a + j < s.size
    · have hli : (a : Int) + (j : Int) < (s.size : Int) := by omega
      have hb := getR s (a + j) hlt
      have hb2 := bR_lt s (a + j)
      have h5 := HX.out.1
      rw [rest_cons s (a + j) hlt, matD] at h5
      obtain ⟨c, hc⟩ : ∃ c, bR s (a + j) = c := ⟨_, rfl⟩
      rw [hc] at hb hb2 h5
      have H4 := Lib.hid (HSP.out wr HX.out.2 q c hb2)
      obtain ⟨t, ht⟩ : ∃ t, d.to q c = t := ⟨_, rfl⟩
      have htl := HLO.out.1 q c
      rw [ht] at H4 h5 htl
      have HB := Lib.hid HX.out.2
      have ej : ((a + j : Nat) : Int) = (a : Int) + (j : Int) := by omega
      have hX2 := HX.out.2
      clear HX ht hc
      by_cases ht0 : t < 0
      · have htb : t = -1 := by omega
        subst htb
        rw [if_pos (by decide)] at h5
        have HE : Hid (lg = (matchD d (restR s a)).1 ∧ ru = (matchD d (restR s a)).2.1 ∧ (j : Int) = (matchD d (restR s a)).2.2) := Lib.hid ⟨by rw [← h5], by rw [← h5], by rw [← h5]⟩
        clear h5 HSP HAC hX2
        go_wp2_with fail
        go_fit H4.out
        rintro e w4 ⟨rfl, rfl⟩
        go_wp2_with fail
        go_ret3
        exact ⟨by rw [← HE.out.1, ← HE.out.2.1, ← HE.out.2.2]; rfl, HB.out⟩
      · have htb : (t == -1) = false := beq_eq_false_iff_ne.2 (by omega)
        rw [if_neg ht0] at h5
        have H6 := Lib.hid (HAC.out wr hX2 t)
        obtain ⟨r, hr⟩ : ∃ r, d.acc t = r := ⟨_, rfl⟩
        have hrl := HLO.out.2 t
        rw [hr] at H6 h5 hrl
        clear hX2 hr
        by_cases hr0 : r < 0
        · have hrb : r = -1 := by omega
          subst hrb
          rw [if_pos (by decide)] at h5
          have HG := Lib.hid h5
          clear h5
          go_wp2_with fail
          go_fit H4.out
          rintro e w4 ⟨rfl, rfl⟩
          go_wp2_with fail
          go_fit H6.out
          rintro e w5 ⟨rfl, rfl⟩
          go_wp2_with fail
          go_roundw
          case rel => exact ⟨j + 1, lg, ru, t, by go_num, by omega, rfl, rfl, rfl, Lib.hid ⟨by rw [← HG.out]; rfl, HB.out⟩⟩
          case measure => simp [intOf] <;> omega
        · have hrb : (r == -1) = false := beq_eq_false_iff_ne.2 (by omega)
          have hrb2 : (r != -1) = true := bne_iff_ne.2 (by omega)
          rw [if_neg hr0] at h5
          have HG := Lib.hid h5
          clear h5
          go_wp2_with fail
          go_fit H4.out
          rintro e w4 ⟨rfl, rfl⟩
          go_wp2_with fail
          go_fit H6.out
          rintro e w5 ⟨rfl, rfl⟩
          go_wp2_with fail
          go_roundw
          case rel => exact ⟨j + 1, (j : Int) + 1, r, t, by go_num, by omega, by go_num, rfl, rfl, Lib.hid ⟨by rw [← HG.out]; rfl, HB.out⟩⟩
          case measure => simp [intOf] <;> omega
    · have hli : ¬ (a : Int) + (j : Int) < (s.size : Int) := by omega
      have HE : Hid (lg = (matchD d (restR s a)).1 ∧ ru = (matchD d (restR s a)).2.1 ∧ (j : Int) = (matchD d (restR s a)).2.2 ∧ Below w1.heap.size w1 wr) := by
        have h5 := HX.out.1
        rw [show restR s (a + j) = [] from List.length_eq_zero_iff.1 (by rw [rest_len]; omega), matD] at h5
        exact Lib.hid ⟨by rw [← h5], by rw [← h5], by rw [← h5], HX.out.2⟩
      clear HX HSP HAC
      go_wp2_with fail
      go_ret3
      exact ⟨by rw [← HE.out.1, ← HE.out.2.1, ← HE.out.2.2.1]; rfl, HE.out.2.2.2⟩
theorem pvmatch_out (s : ByteArray) (a : Int) (ha : a < 0 ∨ (s.size : Int) < a) (v : Value) (w : World) :
    Calls Tryz.prog 20 #[v, .string s, .int .i64 a] w fun e w' => e = .returned (.tuple #[.int .i64 0, .int .i64 (-1), .int .i64 0]) ∧ w' = w := by
  by_cases h0 : a < 0
  · have hd1 : decide (a < 0) = true := decide_eq_true h0
    go_enter Tryz.func20, Tryz.ntmps20
    go_wp2_with fail
    go_ret3
    exact ⟨rfl, rfl⟩
  · have hd1 : decide (a < 0) = false := decide_eq_false h0
    have hd2 : decide ((s.size : Int) < a) = true := decide_eq_true (by omega)
    have h1 : (s.size : Int) < a := by omega
    go_enter Tryz.func20, Tryz.ntmps20
    go_wp2_with fail
    go_ret3
    exact ⟨rfl, rfl⟩
theorem pvmatch_any (h : DfV w v d) (s : ByteArray) (hs : s.size ≤ 1000) (a : Int) :
    Calls Tryz.prog 20 #[v, .string s, .int .i64 a] w fun e w' => e = .returned (.tuple #[.int .i64 (matchDA d s a).1, .int .i64 (matchDA d s a).2.1, .int .i64 (matchDA d s a).2.2]) ∧ Below w.heap.size w w' := by
  unfold matchDA
  by_cases ha : a < 0 ∨ (s.size : Int) < a
  · rw [if_pos ha]
    exact (pvmatch_out s a ha v w).mono fun e w' ⟨he, hw⟩ => ⟨he, by rw [hw]; exact Below.refl _ _⟩
  · rw [if_neg ha]
    obtain ⟨m, rfl⟩ : ∃ m : Nat, a = m := ⟨a.toNat, by omega⟩
    rw [Int.toNat_natCast]
    exact pvmatch_in h s hs m (by omega)
end
end Go.Proofs.YtjeomlickkpebaaGreatDoor

/-
  limnerlaw11 and 12, plain: rules as the document has them, of texts. No call is walked here.
-/
namespace Go.Proofs.YtjeomlickkpebaaGreatDoor

def rsE (L : List ByteArray) : List RuN := (nodesP L).map ruleN
end Go.Proofs.YtjeomlickkpebaaGreatDoor
