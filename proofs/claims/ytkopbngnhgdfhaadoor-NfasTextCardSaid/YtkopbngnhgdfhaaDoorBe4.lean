/-
  nfas, plain: the language of a node; states as the program has them, how a node's are added, and that they take its language. No call is walked here.
-/
import Derived.Test.YtkopbngnhgdfhaaDoorBe3
namespace Go.Proofs.YtkopbngnhgdfhaaDoor

/-! ### The language of a node -/
inductive StarP (L : List Nat → Prop) : List Nat → Prop
  | nil : StarP L []
  | cons {u v : List Nat} (hu : L u) (hv : StarP L v) : StarP L (u ++ v)
def PlusP (L : List Nat → Prop) (w : List Nat) : Prop := ∃ u v, w = u ++ v ∧ L u ∧ StarP L v
mutual
def LangN : Nd → List Nat → Prop
  | .mk k s l, w => if k = 1 then ∃ b, w = [b] ∧ hasR s b = true else if k = 2 then LangC l w else if k = 3 then LangA l w else if k = 4 then StarP (LangO l) w else if k = 5 then PlusP (LangO l) w else if k = 6 then w = [] ∨ LangO l w else w = []
def LangC : List Nd → List Nat → Prop
  | [], w => w = []
  | n :: l, w => ∃ u v, w = u ++ v ∧ LangN n u ∧ LangC l v
def LangA : List Nd → List Nat → Prop
  | [], _ => False
  | n :: l, w => LangN n w ∨ LangA l w
def LangO : List Nd → List Nat → Prop
  | [], w => w = []
  | n :: _, w => LangN n w
end

/-! ### States -/
structure Sta where
  kind : Nat
  set : St4
  next : Nat
  also : Nat
  rule : Nat
def takeS (s : St4) (next : Nat) : Sta := ⟨0, s, next, 0, 0⟩
def forkS (next also : Nat) : Sta := ⟨1, noR, next, also, 0⟩
def endS (rule : Nat) : Sta := ⟨2, noR, 0, 0, rule⟩
def alsoS : List Sta → Nat → Nat → List Sta
  | [], _, _ => []
  | s :: q, 0, v => ⟨s.kind, s.set, s.next, v, s.rule⟩ :: q
  | s :: q, i + 1, v => s :: alsoS q i v
mutual
def buildT : Nd → List Sta → Nat → List Sta × Nat
  | .mk k s l, q, next =>
    if k = 1 then (q ++ [takeS s next], q.length)
    else if k = 2 then catT l q next
    else if k = 3 then altT l q next
    else if k = 4 then (alsoS (oneT l (q ++ [forkS next next]) q.length).1 q.length (oneT l (q ++ [forkS next next]) q.length).2, q.length)
    else if k = 5 then (alsoS (oneT l (q ++ [forkS next next]) q.length).1 q.length (oneT l (q ++ [forkS next next]) q.length).2, (oneT l (q ++ [forkS next next]) q.length).2)
    else if k = 6 then ((oneT l q next).1 ++ [forkS (oneT l q next).2 next], (oneT l q next).1.length)
    else (q, next)
def catT : List Nd → List Sta → Nat → List Sta × Nat
  | [], q, next => (q, next)
  | n :: l, q, next => buildT n (catT l q next).1 (catT l q next).2
def altT : List Nd → List Sta → Nat → List Sta × Nat
  | [], q, next => (q, next)
  | n :: l, q, next => altsT l (buildT n q next).1 (buildT n q next).2 next
def altsT : List Nd → List Sta → Nat → Nat → List Sta × Nat
  | [], q, a, _ => (q, a)
  | n :: l, q, a, next => altsT l ((buildT n q next).1 ++ [forkS a (buildT n q next).2]) (buildT n q next).1.length next
def oneT : List Nd → List Sta → Nat → List Sta × Nat
  | [], q, next => (q, next)
  | n :: _, q, next => buildT n q next
end

theorem also_len : ∀ (q : List Sta) (i v : Nat), (alsoS q i v).length = q.length
  | [], _, _ => rfl
  | s :: q, 0, v => rfl
  | s :: q, i + 1, v => by rw [alsoS, List.length_cons, also_len q i v, List.length_cons]
theorem also_ne : ∀ (q : List Sta) (i v j : Nat), j ≠ i → (alsoS q i v)[j]? = q[j]?
  | [], _, _, _, _ => rfl
  | s :: q, 0, v, 0, h => absurd rfl h
  | s :: q, 0, v, j + 1, _ => rfl
  | s :: q, i + 1, v, 0, _ => rfl
  | s :: q, i + 1, v, j + 1, h => by
    show (alsoS q i v)[j]? = q[j]?
    exact also_ne q i v j (by omega)
theorem also_at : ∀ (q : List Sta) (i v : Nat) (s : Sta), q[i]? = some s → (alsoS q i v)[i]? = some ⟨s.kind, s.set, s.next, v, s.rule⟩
  | [], _, _, _, h => by simp at h
  | s :: q, 0, v, _, h => by cases h; rfl
  | s :: q, i + 1, v, t, h => by
    show (alsoS q i v)[i]? = _
    exact also_at q i v t h

/-- From a state, by a text, in so many steps, to the end of a rule. -/
inductive Goes (Q : List Sta) : Nat → List Nat → Nat → Nat → Prop
  | fin {i : Nat} {s : Sta} (h : Q[i]? = some s) (hk : s.kind = 2) : Goes Q i [] s.rule 0
  | take {i : Nat} {s : Sta} {b r k : Nat} {w : List Nat} (h : Q[i]? = some s) (hk : s.kind = 0) (hb : hasR s.set b = true) (g : Goes Q s.next w r k) : Goes Q i (b :: w) r (k + 1)
  | next {i : Nat} {s : Sta} {r k : Nat} {w : List Nat} (h : Q[i]? = some s) (hk : s.kind = 1) (g : Goes Q s.next w r k) : Goes Q i w r (k + 1)
  | also {i : Nat} {s : Sta} {r k : Nat} {w : List Nat} (h : Q[i]? = some s) (hk : s.kind = 1) (g : Goes Q s.also w r k) : Goes Q i w r (k + 1)
theorem goes_fork {Q : List Sta} {i a b : Nat} (h : Q[i]? = some (forkS a b)) {w : List Nat} {r k : Nat} (g : Goes Q i w r k) : ∃ k', k' < k ∧ (Goes Q a w r k' ∨ Goes Q b w r k') := by
  cases g with
  | fin h2 hk => rw [h] at h2; cases h2; exact absurd hk (by simp [forkS])
  | take h2 hk => rw [h] at h2; cases h2; exact absurd hk (by simp [forkS])
  | next h2 hk g => rw [h] at h2; cases h2; exact ⟨_, Nat.lt_succ_self _, .inl g⟩
  | also h2 hk g => rw [h] at h2; cases h2; exact ⟨_, Nat.lt_succ_self _, .inr g⟩
theorem goes_take {Q : List Sta} {i a : Nat} {s : St4} (h : Q[i]? = some (takeS s a)) {w : List Nat} {r k : Nat} (g : Goes Q i w r k) : ∃ b v k', w = b :: v ∧ hasR s b = true ∧ k' < k ∧ Goes Q a v r k' := by
  cases g with
  | fin h2 hk => rw [h] at h2; cases h2; exact absurd hk (by simp [takeS])
  | take h2 hk hb g => rw [h] at h2; cases h2; exact ⟨_, _, _, rfl, hb, Nat.lt_succ_self _, g⟩
  | next h2 hk g => rw [h] at h2; cases h2; exact absurd hk (by simp [takeS])
  | also h2 hk g => rw [h] at h2; cases h2; exact absurd hk (by simp [takeS])
theorem goes_end {Q : List Sta} {i j : Nat} (h : Q[i]? = some (endS j)) {w : List Nat} {r k : Nat} (g : Goes Q i w r k) : w = [] ∧ r = j := by
  cases g with
  | fin h2 hk => rw [h] at h2; cases h2; exact ⟨rfl, rfl⟩
  | take h2 hk => rw [h] at h2; cases h2; exact absurd hk (by simp [endS])
  | next h2 hk g => rw [h] at h2; cases h2; exact absurd hk (by simp [endS])
  | also h2 hk g => rw [h] at h2; cases h2; exact absurd hk (by simp [endS])

/-- States in which each one leads to one that there is. -/
def StOk (m : Nat) (s : Sta) : Prop := s.next < m ∧ s.also < m ∧ s.kind < 3 ∧ OkR s.set
theorem StOk.mono {m n : Nat} {s : Sta} (h : StOk m s) (hm : m ≤ n) : StOk n s := ⟨Nat.lt_of_lt_of_le h.1 hm, Nat.lt_of_lt_of_le h.2.1 hm, h.2.2⟩

/-- What stands behind a node's states were added: those ahead are as they were; the new ones take its language, and lead to next. -/
structure Built (L : List Nat → Prop) (q : List Sta) (next : Nat) (q' : List Sta) (a : Nat) : Prop where
  len : q.length ≤ q'.length
  same : ∀ i, i < q.length → q'[i]? = q[i]?
  at_ : a = next ∨ q.length ≤ a ∧ a < q'.length
  ok : next < q.length → ∀ i s, q.length ≤ i → q'[i]? = some s → StOk q'.length s
  fwd : ∀ Q, (∀ i, q.length ≤ i → i < q'.length → Q[i]? = q'[i]?) → ∀ w r k, Goes Q a w r k → ∃ u v k', w = u ++ v ∧ L u ∧ Goes Q next v r k' ∧ k' ≤ k
  bwd : ∀ Q, (∀ i, q.length ≤ i → i < q'.length → Q[i]? = q'[i]?) → ∀ u v r k, L u → Goes Q next v r k → ∃ k', Goes Q a (u ++ v) r k'
theorem Built.atlt {L : List Nat → Prop} {q q' : List Sta} {next a : Nat} (h : Built L q next q' a) (hn : next < q.length) : a < q'.length := by
  rcases h.at_ with e | e
  · rw [e]; exact Nat.lt_of_lt_of_le hn h.len
  · exact e.2

theorem snoc_at {q : List Sta} {s : Sta} : (q ++ [s])[q.length]? = some s := by
  rw [List.getElem?_append_right (Nat.le_refl _), Nat.sub_self]; rfl
theorem snoc_lt {q : List Sta} {s : Sta} {i : Nat} (h : i < q.length) : (q ++ [s])[i]? = q[i]? := List.getElem?_append_left h

theorem built_none (q : List Sta) (next : Nat) : Built (fun w => w = []) q next q next where
  len := Nat.le_refl _
  same := fun _ _ => rfl
  at_ := .inl rfl
  ok := fun _ i s h hs => absurd (List.getElem?_eq_some_iff.1 hs).1 (by omega)
  fwd := fun Q _ w r k g => ⟨[], w, k, rfl, rfl, g, Nat.le_refl _⟩
  bwd := fun Q _ u v r k hu g => by rw [hu]; exact ⟨k, g⟩
theorem built_take (s : St4) (hs : OkR s) (q : List Sta) (next : Nat) : Built (fun w => ∃ b, w = [b] ∧ hasR s b = true) q next (q ++ [takeS s next]) q.length where
  len := by rw [List.length_append]; omega
  same := fun i h => snoc_lt h
  at_ := .inr ⟨Nat.le_refl _, by rw [List.length_append]; show _ < _ + 1; omega⟩
  ok := fun hn i t h ht => by
    have h1 := (List.getElem?_eq_some_iff.1 ht).1
    rw [List.length_append] at h1
    rw [show i = q.length by simp at h1; omega, snoc_at] at ht
    cases ht
    exact ⟨by rw [List.length_append]; show next < _; omega, by rw [List.length_append]; show 0 < _ + 1; omega, by show 0 < 3; omega, hs⟩
  fwd := fun Q hQ w r k g => by
    have := hQ q.length (Nat.le_refl _) (by rw [List.length_append]; show _ < _ + 1; omega)
    rw [snoc_at] at this
    obtain ⟨b, v, k', e, hb, hk, g'⟩ := goes_take this g
    exact ⟨[b], v, k', e, ⟨b, rfl, hb⟩, g', by omega⟩
  bwd := fun Q hQ u v r k hu g => by
    have := hQ q.length (Nat.le_refl _) (by rw [List.length_append]; show _ < _ + 1; omega)
    rw [snoc_at] at this
    obtain ⟨b, rfl, hb⟩ := hu
    exact ⟨_, Goes.take this rfl hb g⟩
/-- A node ahead of what was added. -/
theorem Built.cat {L M : List Nat → Prop} {q q1 q2 : List Sta} {next a b : Nat} (h : Built L q next q1 a) (g : Built M q1 a q2 b) : Built (fun w => ∃ u v, w = u ++ v ∧ M u ∧ L v) q next q2 b where
  len := Nat.le_trans h.len g.len
  same := fun i hi => (g.same i (Nat.lt_of_lt_of_le hi h.len)).trans (h.same i hi)
  at_ := by
    have := h.len
    have := g.len
    rcases g.at_ with e | e
    · rcases h.at_ with f | f
      · exact .inl (e.trans f)
      · right; rw [e]; omega
    · right; omega
  ok := fun hn i s hi hs => by
    have := g.len
    by_cases hi1 : q1.length ≤ i
    · exact g.ok (h.atlt hn) i s hi1 hs
    · rw [g.same i (by omega)] at hs
      exact (h.ok hn i s hi hs).mono (by omega)
  fwd := fun Q hQ w r k hg => by
    have h1 := h.len
    have h2 := g.len
    obtain ⟨u, v, k1, rfl, hu, g1, hk1⟩ := g.fwd Q (fun i hi hl => hQ i (by omega) hl) w r k hg
    obtain ⟨u2, v2, k2, rfl, hu2, g2, hk2⟩ := h.fwd Q (fun i hi hl => (hQ i hi (by omega)).trans (g.same i hl)) v r k1 g1
    exact ⟨u ++ u2, v2, k2, by rw [List.append_assoc], ⟨u, u2, rfl, hu, hu2⟩, g2, by omega⟩
  bwd := fun Q hQ u v r k hu hg => by
    have h1 := h.len
    have h2 := g.len
    obtain ⟨u1, u2, rfl, hu1, hu2⟩ := hu
    obtain ⟨k1, g1⟩ := h.bwd Q (fun i hi hl => (hQ i hi (by omega)).trans (g.same i hl)) u2 v r k hu2 hg
    rw [List.append_assoc]
    exact g.bwd Q (fun i hi hl => hQ i (by omega) hl) u1 (u2 ++ v) r k1 hu1 g1
/-- Two ways, the one beside the other. -/
theorem Built.alt {L M : List Nat → Prop} {q q1 q2 : List Sta} {next a b : Nat} (h : Built L q next q1 a) (g : Built M q1 next q2 b) : Built (fun w => L w ∨ M w) q next (q2 ++ [forkS a b]) q2.length where
  len := by have := h.len; have := g.len; rw [List.length_append]; omega
  same := fun i hi => by
    have := h.len
    have := g.len
    rw [snoc_lt (by omega), g.same i (by omega), h.same i hi]
  at_ := by have := h.len; have := g.len; rw [List.length_append]; right; exact ⟨by omega, by show _ < _ + 1; omega⟩
  ok := fun hn i s hi hs => by
    have h1 := h.len
    have h2 := g.len
    have ha := h.atlt hn
    have hb := g.atlt (Nat.lt_of_lt_of_le hn h1)
    have hlen : (q2 ++ [forkS a b]).length = q2.length + 1 := by rw [List.length_append]; rfl
    have hl := (List.getElem?_eq_some_iff.1 hs).1
    rw [hlen] at hl ⊢
    by_cases e : i = q2.length
    · rw [e, snoc_at] at hs
      cases hs
      exact ⟨by show a < _; omega, by show b < _; omega, by show 1 < 3; omega, ok_no⟩
    · rw [snoc_lt (by omega)] at hs
      by_cases hi1 : q1.length ≤ i
      · exact (g.ok (by omega) i s hi1 hs).mono (by omega)
      · rw [g.same i (by omega)] at hs
        exact (h.ok hn i s hi hs).mono (by omega)
  fwd := fun Q hQ w r k hg => by
    have h1 := h.len
    have h2 := g.len
    have hlen : (q2 ++ [forkS a b]).length = q2.length + 1 := by rw [List.length_append]; rfl
    have hq := hQ q2.length (by omega) (by omega)
    rw [snoc_at] at hq
    obtain ⟨k', hk', g' | g'⟩ := goes_fork hq hg
    · obtain ⟨u, v, k1, e, hu, g1, hk1⟩ := h.fwd Q (fun i hi hl => by rw [hQ i hi (by omega), snoc_lt (by omega), g.same i hl]) w r k' g'
      exact ⟨u, v, k1, e, .inl hu, g1, by omega⟩
    · obtain ⟨u, v, k1, e, hu, g1, hk1⟩ := g.fwd Q (fun i hi hl => by rw [hQ i (by omega) (by omega), snoc_lt (by omega)]) w r k' g'
      exact ⟨u, v, k1, e, .inr hu, g1, by omega⟩
  bwd := fun Q hQ u v r k hu hg => by
    have h1 := h.len
    have h2 := g.len
    have hlen : (q2 ++ [forkS a b]).length = q2.length + 1 := by rw [List.length_append]; rfl
    have hq := hQ q2.length (by omega) (by omega)
    rw [snoc_at] at hq
    rcases hu with hu | hu
    · obtain ⟨k1, g1⟩ := h.bwd Q (fun i hi hl => by rw [hQ i hi (by omega), snoc_lt (by omega), g.same i hl]) u v r k hu hg
      exact ⟨_, Goes.next hq rfl g1⟩
    · obtain ⟨k1, g1⟩ := g.bwd Q (fun i hi hl => by rw [hQ i (by omega) (by omega), snoc_lt (by omega)]) u v r k hu hg
      exact ⟨_, Goes.also hq rfl g1⟩
/-- It, or nothing. -/
theorem Built.maybe {L : List Nat → Prop} {q q1 : List Sta} {next a : Nat} (h : Built L q next q1 a) : Built (fun w => w = [] ∨ L w) q next (q1 ++ [forkS a next]) q1.length := by
  have := h.alt (built_none q1 next)
  exact ⟨this.len, this.same, this.at_, this.ok, fun Q hQ w r k hg => by
    obtain ⟨u, v, k', e, hu, g, hk⟩ := this.fwd Q hQ w r k hg
    exact ⟨u, v, k', e, hu.symm, g, hk⟩, fun Q hQ u v r k hu hg => this.bwd Q hQ u v r k hu.symm hg⟩
section
variable {L : List Nat → Prop} {q q1 : List Sta} {next a : Nat}
/-- The states of a loop: as the program leaves them. -/
theorem loop_same (h : Built L (q ++ [forkS next next]) q.length q1 a) : q.length < q1.length ∧ (alsoS q1 q.length a)[q.length]? = some (forkS next a) ∧ ∀ i, i < q.length → (alsoS q1 q.length a)[i]? = q[i]? := by
  have hlen : (q ++ [forkS next next]).length = q.length + 1 := by rw [List.length_append]; rfl
  have h1 := h.len
  rw [hlen] at h1
  have h2 := h.same q.length (by omega)
  rw [snoc_at] at h2
  exact ⟨by omega, also_at _ _ _ _ h2, fun i hi => by rw [also_ne _ _ _ _ (by omega), h.same i (by omega), snoc_lt hi]⟩
theorem loop_ok (h : Built L (q ++ [forkS next next]) q.length q1 a) (hn : next < q.length) (i : Nat) (s : Sta) (hi : q.length ≤ i) (hs : (alsoS q1 q.length a)[i]? = some s) : StOk q1.length s := by
  have hlen : (q ++ [forkS next next]).length = q.length + 1 := by rw [List.length_append]; rfl
  obtain ⟨h1, h2, _⟩ := loop_same h
  by_cases e : i = q.length
  · rw [e, h2] at hs
    cases hs
    exact ⟨by show next < _; omega, h.atlt (by omega), by show 1 < 3; omega, ok_no⟩
  · rw [also_ne _ _ _ _ e] at hs
    exact h.ok (by omega) i s (by omega) hs
theorem loop_fwd (h : Built L (q ++ [forkS next next]) q.length q1 a) (Q : List Sta) (hQ : ∀ i, q.length ≤ i → i < q1.length → Q[i]? = (alsoS q1 q.length a)[i]?) :
    ∀ (K k : Nat), k ≤ K → ∀ w r, Goes Q q.length w r k → ∃ u v k', w = u ++ v ∧ StarP L u ∧ Goes Q next v r k' ∧ k' ≤ k := by
  have hlen : (q ++ [forkS next next]).length = q.length + 1 := by rw [List.length_append]; rfl
  obtain ⟨h1, h2, _⟩ := loop_same h
  have hq := hQ q.length (Nat.le_refl _) h1
  rw [h2] at hq
  intro K
  induction K with
  | zero =>
    intro k hk w r hg
    obtain ⟨k', hk', _⟩ := goes_fork hq hg
    omega
  | succ K ih =>
    intro k hk w r hg
    obtain ⟨k', hk', g' | g'⟩ := goes_fork hq hg
    · exact ⟨[], w, k', rfl, .nil, g', by omega⟩
    · obtain ⟨u, v, k1, rfl, hu, g1, hk1⟩ := h.fwd Q (fun i hi hl => by rw [hQ i (by omega) (by omega), also_ne _ _ _ _ (by omega)]) w r k' g'
      obtain ⟨u2, v2, k2, rfl, hu2, g2, hk2⟩ := ih k1 (by omega) v r g1
      exact ⟨u ++ u2, v2, k2, by rw [List.append_assoc], .cons hu hu2, g2, by omega⟩
theorem loop_bwd (h : Built L (q ++ [forkS next next]) q.length q1 a) (Q : List Sta) (hQ : ∀ i, q.length ≤ i → i < q1.length → Q[i]? = (alsoS q1 q.length a)[i]?) (v : List Nat) (r k : Nat) (hg : Goes Q next v r k) (u : List Nat) (hu : StarP L u) : ∃ k', Goes Q q.length (u ++ v) r k' := by
  have hlen : (q ++ [forkS next next]).length = q.length + 1 := by rw [List.length_append]; rfl
  obtain ⟨h1, h2, _⟩ := loop_same h
  have hq := hQ q.length (Nat.le_refl _) h1
  rw [h2] at hq
  induction hu with
  | nil => exact ⟨_, Goes.next hq rfl hg⟩
  | cons hu _ ih =>
    obtain ⟨k1, g1⟩ := ih
    obtain ⟨k2, g2⟩ := h.bwd Q (fun i hi hl => by rw [hQ i (by omega) (by omega), also_ne _ _ _ _ (by omega)]) _ _ _ _ hu g1
    rw [List.append_assoc]
    exact ⟨_, Goes.also hq rfl g2⟩
theorem Built.star (h : Built L (q ++ [forkS next next]) q.length q1 a) : Built (StarP L) q next (alsoS q1 q.length a) q.length where
  len := by rw [also_len]; exact Nat.le_of_lt (loop_same h).1
  same := (loop_same h).2.2
  at_ := .inr ⟨Nat.le_refl _, by rw [also_len]; exact (loop_same h).1⟩
  ok := fun hn i s hi hs => by rw [also_len]; exact loop_ok h hn i s hi hs
  fwd := fun Q hQ w r k hg => by rw [also_len] at hQ; exact loop_fwd h Q hQ k k (Nat.le_refl _) w r hg
  bwd := fun Q hQ u v r k hu hg => by rw [also_len] at hQ; exact loop_bwd h Q hQ v r k hg u hu
theorem Built.plus (h : Built L (q ++ [forkS next next]) q.length q1 a) : Built (PlusP L) q next (alsoS q1 q.length a) a where
  len := by rw [also_len]; exact Nat.le_of_lt (loop_same h).1
  same := (loop_same h).2.2
  at_ := by
    have hlen : (q ++ [forkS next next]).length = q.length + 1 := by rw [List.length_append]; rfl
    have h1 := (loop_same h).1
    right
    rw [also_len]
    rcases h.at_ with e | e
    · rw [e]; omega
    · omega
  ok := fun hn i s hi hs => by rw [also_len]; exact loop_ok h hn i s hi hs
  fwd := fun Q hQ w r k hg => by
    have hlen : (q ++ [forkS next next]).length = q.length + 1 := by rw [List.length_append]; rfl
    rw [also_len] at hQ
    obtain ⟨u, v, k1, rfl, hu, g1, hk1⟩ := h.fwd Q (fun i hi hl => by rw [hQ i (by omega) (by omega), also_ne _ _ _ _ (by omega)]) w r k hg
    obtain ⟨u2, v2, k2, rfl, hu2, g2, hk2⟩ := loop_fwd h Q hQ k1 k1 (Nat.le_refl _) v r g1
    exact ⟨u ++ u2, v2, k2, by rw [List.append_assoc], ⟨u, u2, rfl, hu, hu2⟩, g2, by omega⟩
  bwd := fun Q hQ u v r k hu hg => by
    have hlen : (q ++ [forkS next next]).length = q.length + 1 := by rw [List.length_append]; rfl
    rw [also_len] at hQ
    obtain ⟨u1, u2, rfl, hu1, hu2⟩ := hu
    obtain ⟨k1, g1⟩ := loop_bwd h Q hQ v r k hg u2 hu2
    rw [List.append_assoc]
    exact h.bwd Q (fun i hi hl => by rw [hQ i (by omega) (by omega), also_ne _ _ _ _ (by omega)]) u1 (u2 ++ v) r k1 hu1 g1
end
/-- The same language, said otherwise. -/
theorem Built.conv {L M : List Nat → Prop} {q q1 : List Sta} {next a : Nat} (h : Built L q next q1 a) (hl : ∀ w, L w ↔ M w) : Built M q next q1 a :=
  ⟨h.len, h.same, h.at_, h.ok, fun Q hQ w r k hg => by
    obtain ⟨u, v, k', e, hu, g, hk⟩ := h.fwd Q hQ w r k hg
    exact ⟨u, v, k', e, (hl u).1 hu, g, hk⟩, fun Q hQ u v r k hu hg => h.bwd Q hQ u v r k ((hl u).2 hu) hg⟩

mutual
theorem build_ok : ∀ (n : Nd), mayR n = true → wfR n → ∀ (q : List Sta) (next : Nat), Built (LangN n) q next (buildT n q next).1 (buildT n q next).2
  | .mk k s l, h, hw, q, next => by
    obtain ⟨h1, h2⟩ := may_parts h
    obtain ⟨f0, f6, f1, f4, f2, fs⟩ := form_spec h1
    rw [wfR] at hw
    rw [buildT]
    by_cases k1 : k = 1
    · rw [if_pos k1]
      exact (built_take s hw.1 q next).conv fun w => by rw [LangN, if_pos k1]
    rw [if_neg k1]
    by_cases k2 : k = 2
    · rw [if_pos k2]
      exact (catT_ok l h2 hw.2 q next).conv fun w => by rw [LangN, if_neg k1, if_pos k2]
    rw [if_neg k2]
    by_cases k3 : k = 3
    · rw [if_pos k3]
      exact (altT_ok l (by have := f2 (.inr k3); omega) h2 hw.2 q next).conv fun w => by rw [LangN, if_neg k1, if_neg k2, if_pos k3]
    rw [if_neg k3]
    by_cases k4 : k = 4
    · rw [if_pos k4]
      exact (oneT_ok l h2 hw.2 _ _).star.conv fun w => by rw [LangN, if_neg k1, if_neg k2, if_neg k3, if_pos k4]
    rw [if_neg k4]
    by_cases k5 : k = 5
    · rw [if_pos k5]
      exact (oneT_ok l h2 hw.2 _ _).plus.conv fun w => by rw [LangN, if_neg k1, if_neg k2, if_neg k3, if_neg k4, if_pos k5]
    rw [if_neg k5]
    by_cases k6 : k = 6
    · rw [if_pos k6]
      exact (oneT_ok l h2 hw.2 _ _).maybe.conv fun w => by rw [LangN, if_neg k1, if_neg k2, if_neg k3, if_neg k4, if_neg k5, if_pos k6]
    rw [if_neg k6]
    exact (built_none q next).conv fun w => by rw [LangN, if_neg k1, if_neg k2, if_neg k3, if_neg k4, if_neg k5, if_neg k6]
theorem catT_ok : ∀ (l : List Nd), mayL l = true → wfL l → ∀ (q : List Sta) (next : Nat), Built (LangC l) q next (catT l q next).1 (catT l q next).2
  | [], _, _, q, next => (built_none q next).conv fun w => by rw [LangC]
  | n :: l, h, hw, q, next => by
    rw [mayL, Bool.and_eq_true] at h
    rw [wfL] at hw
    rw [catT]
    exact ((catT_ok l h.2 hw.2 q next).cat (build_ok n h.1 hw.1 _ _)).conv fun w => by rw [LangC]
theorem altT_ok : ∀ (l : List Nd), 0 < l.length → mayL l = true → wfL l → ∀ (q : List Sta) (next : Nat), Built (LangA l) q next (altT l q next).1 (altT l q next).2
  | [], h0, _, _, q, next => absurd h0 (Nat.lt_irrefl _)
  | n :: l, _, h, hw, q, next => by
    rw [mayL, Bool.and_eq_true] at h
    rw [wfL] at hw
    rw [altT]
    exact (altsT_ok l h.2 hw.2 (LangN n) q _ _ next (build_ok n h.1 hw.1 q next)).conv fun w => by rw [LangA]
theorem altsT_ok : ∀ (l : List Nd), mayL l = true → wfL l → ∀ (L : List Nat → Prop) (q q1 : List Sta) (a next : Nat), Built L q next q1 a → Built (fun w => L w ∨ LangA l w) q next (altsT l q1 a next).1 (altsT l q1 a next).2
  | [], _, _, L, q, q1, a, next, hb => hb.conv fun w => by rw [LangA, or_false]
  | n :: l, h, hw, L, q, q1, a, next, hb => by
    rw [mayL, Bool.and_eq_true] at h
    rw [wfL] at hw
    rw [altsT]
    exact (altsT_ok l h.2 hw.2 _ q _ _ next (hb.alt (build_ok n h.1 hw.1 q1 next))).conv fun w => by rw [LangA, or_assoc]
theorem oneT_ok : ∀ (l : List Nd), mayL l = true → wfL l → ∀ (q : List Sta) (next : Nat), Built (LangO l) q next (oneT l q next).1 (oneT l q next).2
  | [], _, _, q, next => (built_none q next).conv fun w => by rw [LangO]
  | n :: l, h, hw, q, next => by
    rw [mayL, Bool.and_eq_true] at h
    rw [wfL] at hw
    rw [oneT]
    exact (build_ok n h.1 hw.1 q next).conv fun w => by rw [LangO]
end

/-! ### How many states there are -/
mutual
theorem build_len : ∀ (n : Nd) (q : List Sta) (next : Nat), (buildT n q next).1.length + 1 ≤ q.length + 2 * wtR n
  | .mk k s l, q, next => by
    rw [buildT, wtR]
    split
    · rw [List.length_append]; show _ + 1 + 1 ≤ _; omega
    split
    · have := catT_len l q next; omega
    split
    · have := altT_len l q next; omega
    split
    · have := oneT_len l (q ++ [forkS next next]) q.length
      rw [List.length_append] at this
      rw [also_len]
      simp only [List.length_cons, List.length_nil] at this
      omega
    split
    · have := oneT_len l (q ++ [forkS next next]) q.length
      rw [List.length_append] at this
      rw [also_len]
      simp only [List.length_cons, List.length_nil] at this
      omega
    split
    · have := oneT_len l q next
      rw [List.length_append]
      simp only [List.length_cons, List.length_nil]
      omega
    · show q.length + 1 ≤ _; omega
theorem catT_len : ∀ (l : List Nd) (q : List Sta) (next : Nat), (catT l q next).1.length ≤ q.length + 2 * wtL l
  | [], q, next => Nat.le_add_right _ _
  | n :: l, q, next => by
    rw [catT, wtL]
    have := build_len n (catT l q next).1 (catT l q next).2
    have := catT_len l q next
    omega
theorem altT_len : ∀ (l : List Nd) (q : List Sta) (next : Nat), (altT l q next).1.length ≤ q.length + 2 * wtL l
  | [], q, next => Nat.le_add_right _ _
  | n :: l, q, next => by
    rw [altT, wtL]
    have := build_len n q next
    have := altsT_len l (buildT n q next).1 (buildT n q next).2 next
    omega
theorem altsT_len : ∀ (l : List Nd) (q : List Sta) (a next : Nat), (altsT l q a next).1.length ≤ q.length + 2 * wtL l
  | [], q, a, next => Nat.le_add_right _ _
  | n :: l, q, a, next => by
    rw [altsT, wtL]
    have := build_len n q next
    have := altsT_len l ((buildT n q next).1 ++ [forkS a (buildT n q next).2]) (buildT n q next).1.length next
    rw [List.length_append] at this
    simp only [List.length_cons, List.length_nil] at this
    omega
theorem oneT_len : ∀ (l : List Nd) (q : List Sta) (next : Nat), (oneT l q next).1.length ≤ q.length + 2 * wtL l
  | [], q, next => Nat.le_add_right _ _
  | n :: l, q, next => by
    rw [oneT, wtL]
    have := build_len n q next
    omega
end
mutual
theorem build_ge : ∀ (n : Nd) (q : List Sta) (next : Nat), q.length ≤ (buildT n q next).1.length
  | .mk k s l, q, next => by
    rw [buildT]
    split
    · rw [List.length_append]; omega
    split
    · exact catT_ge l q next
    split
    · exact altT_ge l q next
    split
    · have := oneT_ge l (q ++ [forkS next next]) q.length
      rw [List.length_append] at this
      rw [also_len]
      omega
    split
    · have := oneT_ge l (q ++ [forkS next next]) q.length
      rw [List.length_append] at this
      rw [also_len]
      omega
    split
    · have := oneT_ge l q next
      rw [List.length_append]
      omega
    · exact Nat.le_refl _
theorem catT_ge : ∀ (l : List Nd) (q : List Sta) (next : Nat), q.length ≤ (catT l q next).1.length
  | [], _, _ => Nat.le_refl _
  | n :: l, q, next => Nat.le_trans (catT_ge l q next) (build_ge n _ _)
theorem altT_ge : ∀ (l : List Nd) (q : List Sta) (next : Nat), q.length ≤ (altT l q next).1.length
  | [], _, _ => Nat.le_refl _
  | n :: l, q, next => Nat.le_trans (build_ge n q next) (altsT_ge l _ _ _)
theorem altsT_ge : ∀ (l : List Nd) (q : List Sta) (a next : Nat), q.length ≤ (altsT l q a next).1.length
  | [], _, _, _ => Nat.le_refl _
  | n :: l, q, a, next => by
    rw [altsT]
    have h1 := build_ge n q next
    have h2 := altsT_ge l ((buildT n q next).1 ++ [forkS a (buildT n q next).2]) (buildT n q next).1.length next
    rw [List.length_append] at h2
    omega
theorem oneT_ge : ∀ (l : List Nd) (q : List Sta) (next : Nat), q.length ≤ (oneT l q next).1.length
  | [], _, _ => Nat.le_refl _
  | n :: _, q, next => build_ge n q next
end
end Go.Proofs.YtkopbngnhgdfhaaDoor
