/-
  nfas, plain: rules made of nodes, on both sides; that both tell what Match is to tell. No call is walked here.
-/
import Derived.Test.YtkopbngnhgdfhaaDoorBe12
namespace Go.Proofs.YtkopbngnhgdfhaaDoor

/-- What texts are of: rule j's. -/
def LangR (l : List Nd) (w : List Nat) (j : Nat) : Prop := ∃ n, l[j]? = some n ∧ LangN n w
def GoodL (l : List Nd) : Prop := ∀ n, n ∈ l → mayR n = true ∧ wfR n

/-! ### The program's -/
/-- Rules' states, one behind the other: the numbers go on from j. -/
def makeF : List Nd → Nat → List Sta → List Int → List Sta × List Int
  | [], _, q, first => (q, first)
  | n :: l, j, q, first => makeF l (j + 1) (buildT n (q ++ [endS j]) q.length).1 (first ++ [((buildT n (q ++ [endS j]) q.length).2 : Int)])
def makeQ (l : List Nd) : List Sta × List Int := makeF l 0 [] []
structure Made (q : List Sta) (first : List Int) (l : List Nd) : Prop where
  ok : ∀ (i : Nat) (s : Sta), q[i]? = some s → StOk q.length s
  in_ : InQ q first
  len : first.length = l.length
  word : ∀ (Q : List Sta), (∀ i, i < q.length → Q[i]? = q[i]?) → ∀ (j : Nat) (n : Nd) (a : Int), l[j]? = some n → first[j]? = some a → ∀ w r, (∃ k, Goes Q a.toNat w r k) ↔ LangN n w ∧ r = j
theorem made_nil : Made [] [] [] := ⟨(fun i s h => by simp at h), (fun a h => by cases h), rfl, fun Q _ j n a h => by simp at h⟩
theorem made_snoc {q : List Sta} {first : List Int} {l : List Nd} (h : Made q first l) (n : Nd) (hm : mayR n = true) (hw : wfR n) :
    Made (buildT n (q ++ [endS l.length]) q.length).1 (first ++ [((buildT n (q ++ [endS l.length]) q.length).2 : Int)]) (l ++ [n]) := by
  have hb := build_ok n hm hw (q ++ [endS l.length]) q.length
  have hlen : (q ++ [endS l.length]).length = q.length + 1 := by rw [List.length_append]; rfl
  generalize (buildT n (q ++ [endS l.length]) q.length).1 = q1 at hb
  generalize (buildT n (q ++ [endS l.length]) q.length).2 = a1 at hb
  have h1 := hb.len
  rw [hlen] at h1
  have hat := hb.atlt (by omega)
  refine ⟨fun i s hs => ?_, fun a ha => ?_, by rw [List.length_append, List.length_append, h.len]; rfl, fun Q hQ j m a hj ha w r => ?_⟩
  · by_cases c1 : i < q.length
    · rw [hb.same i (by omega), snoc_lt c1] at hs
      exact (h.ok i s hs).mono (by omega)
    · by_cases c2 : i = q.length
      · rw [c2, hb.same _ (by omega), snoc_at] at hs
        cases hs
        exact ⟨by show 0 < _; omega, by show 0 < _; omega, by show 2 < 3; omega, ok_no⟩
      · exact hb.ok (by omega) i s (by omega) hs
  · rw [List.mem_append, List.mem_singleton] at ha
    rcases ha with ha | ha
    · have := h.in_ a ha; omega
    · omega
  · by_cases c : j < l.length
    · rw [List.getElem?_append_left c] at hj
      rw [List.getElem?_append_left (by rw [h.len]; exact c)] at ha
      exact h.word Q (fun i hi => by rw [hQ i (by omega), hb.same i (by omega), snoc_lt hi]) j m a hj ha w r
    · have hjl := (List.getElem?_eq_some_iff.1 hj).1
      rw [List.length_append] at hjl
      have e : j = l.length := by simp at hjl; omega
      subst e
      rw [List.getElem?_append_right (Nat.le_refl _), Nat.sub_self] at hj
      rw [List.getElem?_append_right (by rw [h.len]; exact Nat.le_refl _), h.len, Nat.sub_self] at ha
      cases hj
      cases ha
      rw [Int.toNat_natCast]
      have hq : Q[q.length]? = some (endS l.length) := by rw [hQ _ (by omega), hb.same _ (by omega), snoc_at]
      constructor
      · rintro ⟨k, g⟩
        obtain ⟨u, v, k', rfl, hu, g', _⟩ := hb.fwd Q (fun i _ hi => hQ i hi) w r k g
        obtain ⟨rfl, e⟩ := goes_end hq g'
        rw [List.append_nil]
        exact ⟨hu, e⟩
      · rintro ⟨hl, rfl⟩
        obtain ⟨k', g'⟩ := hb.bwd Q (fun i _ hi => hQ i hi) w [] l.length 0 hl (.fin hq rfl)
        rw [List.append_nil] at g'
        exact ⟨k', g'⟩
theorem makeF_ok : ∀ (l done : List Nd) (q : List Sta) (first : List Int), GoodL l → Made q first done → Made (makeF l done.length q first).1 (makeF l done.length q first).2 (done ++ l)
  | [], done, q, first, _, h => by rw [makeF, List.append_nil]; exact h
  | n :: l, done, q, first, hg, h => by
    rw [makeF]
    have h1 := made_snoc h n (hg n (by simp)).1 (hg n (by simp)).2
    have := makeF_ok l (done ++ [n]) _ _ (fun m hm => hg m (by simp [hm])) h1
    rw [List.append_assoc, List.length_append] at this
    exact this
theorem makeQ_ok (l : List Nd) (hg : GoodL l) : Made (makeQ l).1 (makeQ l).2 l := makeF_ok l [] [] [] hg made_nil
theorem makeF_len : ∀ (l : List Nd) (j : Nat) (q : List Sta) (first : List Int), (makeF l j q first).1.length ≤ q.length + 2 * wtL l + l.length
  | [], _, q, _ => by rw [makeF]; simp [wtL]
  | n :: l, j, q, first => by
    rw [makeF, wtL, List.length_cons]
    have := makeF_len l (j + 1) (buildT n (q ++ [endS j]) q.length).1 (first ++ [((buildT n (q ++ [endS j]) q.length).2 : Int)])
    have := build_len n (q ++ [endS j]) q.length
    rw [List.length_append] at this
    simp only [List.length_cons, List.length_nil] at this
    omega
theorem made_acc {q : List Sta} {first : List Int} {l : List Nd} (h : Made q first l) (w : List Nat) (r : Nat) : AccP q first w r ↔ LangR l w r := by
  constructor
  · rintro ⟨a, ha, h0, k, g⟩
    obtain ⟨j, hj⟩ := List.getElem?_of_mem ha
    obtain ⟨n, hn⟩ : ∃ n, l[j]? = some n := ⟨_, List.getElem?_eq_getElem (by rw [← h.len]; exact (List.getElem?_eq_some_iff.1 hj).1)⟩
    obtain ⟨h1, rfl⟩ := (h.word q (fun _ _ => rfl) j n a hn hj w r).1 ⟨k, g⟩
    exact ⟨n, hn, h1⟩
  · rintro ⟨n, hn, hl⟩
    obtain ⟨a, ha⟩ : ∃ a, first[r]? = some a := ⟨_, List.getElem?_eq_getElem (by rw [h.len]; exact (List.getElem?_eq_some_iff.1 hn).1)⟩
    obtain ⟨k, g⟩ := (h.word q (fun _ _ => rfl) r n a hn ha w r).2 ⟨hl, rfl⟩
    have hm := List.mem_of_getElem? ha
    exact ⟨a, hm, (h.in_ a hm).1, k, g⟩
theorem match_ok {q : List Sta} {first : List Int} {l : List Nd} (h : Made q first l) (w : List Nat) : MatchI (LangR l) w (matchP q first w).1 (matchP q first w).2 := by
  obtain ⟨r1, r2, r3⟩ := reach_ok q h.ok first h.in_
  have h0 : ∀ u j, AccP q (reachP q first) u j ↔ LangR l u j := fun u j => (r3 u j).trans (made_acc h u j)
  have hl : LeastI (LangR l []) (accP q (reachP q first) (-1)) := (accepts_ok q _ r2).conv (h0 [])
  unfold matchP
  refine goM_ok q h.ok (LangR l) w w (reachP q first) 0 0 _ rfl (Nat.zero_le _) r2 (fun u j => ?_) ?_
  · rw [List.take_zero, List.nil_append]; exact h0 u j
  · rw [List.take_zero]
    rcases hl.cases with ⟨e, hno⟩ | ⟨hne, _⟩
    · exact .inl ⟨e, rfl, fun i hi j hj => by rw [List.take_nil] at hj; exact hno j hj⟩
    · exact .inr ⟨0, rfl, Nat.le_refl _, hne, by rw [List.take_zero]; exact hl, fun i h1 h2 => by simp at h2; omega⟩
/-- Behind all of a text's bytes. -/
def stepsP (q : List Sta) : List Nat → List Int → List Int
  | [], l => l
  | b :: w, l => stepsP q w (stepP q b l)
theorem steps_snoc (q : List Sta) : ∀ (w : List Nat) (b : Nat) (l : List Int), stepsP q (w ++ [b]) l = stepP q b (stepsP q w l)
  | [], b, l => rfl
  | c :: w, b, l => by rw [List.cons_append, stepsP, stepsP, steps_snoc q w b]
theorem steps_ok {q : List Sta} (hq : ∀ (i : Nat) (s : Sta), q[i]? = some s → StOk q.length s) : ∀ (u : List Nat) (l : List Int), InQ q l → NoFork q l → InQ q (stepsP q u l) ∧ NoFork q (stepsP q u l) ∧ ∀ w r, AccP q (stepsP q u l) w r ↔ AccP q l (u ++ w) r
  | [], l, h1, h2 => ⟨h1, h2, fun _ _ => Iff.rfl⟩
  | b :: u, l, h1, h2 => by
    obtain ⟨s1, s2, s3⟩ := step_ok q hq b l h2
    obtain ⟨t1, t2, t3⟩ := steps_ok hq u _ s1 s2
    exact ⟨t1, t2, fun w r => (t3 w r).trans (s3 (u ++ w) r)⟩
theorem least_ok {q : List Sta} {first : List Int} {l : List Nd} (h : Made q first l) (w : List Nat) : LeastI (LangR l w) (accP q (stepsP q w (reachP q first)) (-1)) := by
  obtain ⟨r1, r2, r3⟩ := reach_ok q h.ok first h.in_
  obtain ⟨s1, s2, s3⟩ := steps_ok h.ok w _ r1 r2
  refine (accepts_ok q _ s2).conv fun j => ?_
  rw [s3 [] j, List.append_nil, r3 w j]
  exact made_acc h w j

/-! ### The document's -/
structure RuN where
  m : Nat
  sets : List St4
  behind : Nat → Nat → Bool
  last : Nat → Bool
def ruleN (n : Nd) : RuN := ⟨(setsN n).length + 1, noR :: setsN n, fun p q => if p = 0 then (glN n 1).first q else (glN n 1).fol p q, fun p => if p = 0 then (glN n 1).null else (glN n 1).last p⟩
def anyF (f : Nat → Bool) : Nat → Bool
  | 0 => false
  | n + 1 => anyF f n || f n
theorem any_iff (f : Nat → Bool) : ∀ n, anyF f n = true ↔ ∃ i, i < n ∧ f i = true
  | 0 => ⟨(fun h => by cases h), (fun ⟨i, h, _⟩ => absurd h (by omega))⟩
  | n + 1 => by
    rw [anyF, Bool.or_eq_true, any_iff f n]
    constructor
    · rintro (⟨i, h, e⟩ | e)
      · exact ⟨i, by omega, e⟩
      · exact ⟨n, by omega, e⟩
    · rintro ⟨i, h, e⟩
      by_cases c : i = n
      · subst c; exact .inr e
      · exact .inl ⟨i, by omega, e⟩
def startG : Nat → Bool := oneF 0
def setAt (l : List St4) (i : Nat) : St4 := l.getD i noR
/-- Some as one: those behind the first k. -/
def orsG (r : RuN) (at_ : Nat → Bool) : Nat → Nat → Bool
  | 0 => noF
  | k + 1 => if at_ k = true then orF (orsG r at_ k) (r.behind k) else orsG r at_ k
theorem ors_iff (r : RuN) (at_ : Nat → Bool) (q : Nat) : ∀ k, orsG r at_ k q = true ↔ ∃ p, p < k ∧ at_ p = true ∧ r.behind p q = true
  | 0 => ⟨(fun h => by cases h), (fun ⟨i, h, _⟩ => absurd h (by omega))⟩
  | k + 1 => by
    rw [orsG]
    split
    · rename_i h
      rw [orF, Bool.or_eq_true, ors_iff r at_ q k]
      constructor
      · rintro (⟨i, h, e⟩ | e)
        · exact ⟨i, by omega, e⟩
        · exact ⟨k, by omega, h, e⟩
      · rintro ⟨i, h2, e⟩
        by_cases c : i = k
        · subst c; exact .inr e.2
        · exact .inl ⟨i, by omega, e⟩
    · rename_i h
      rw [ors_iff r at_ q k]
      constructor
      · rintro ⟨i, h, e⟩; exact ⟨i, by omega, e⟩
      · rintro ⟨i, h2, e⟩
        by_cases c : i = k
        · subst c; exact absurd e.1 h
        · exact ⟨i, by omega, e⟩
def stepG (r : RuN) (at_ : Nat → Bool) (b : Nat) : Nat → Bool := fun q => orsG r at_ r.m q && (decide (0 < q) && hasR (setAt r.sets q) b)
def endsG (r : RuN) (at_ : Nat → Bool) : Bool := anyF (fun p => at_ p && r.last p) r.m
def isAny (r : RuN) (at_ : Nat → Bool) : Bool := anyF at_ r.m
/-- The states stand for a language. -/
def RunG (r : RuN) (at_ : Nat → Bool) (w : List Nat) : Prop := ∃ p, p < r.m ∧ at_ p = true ∧ PathG r.behind (setAt r.sets) r.last w p
structure RuOk (r : RuN) (L : List Nat → Prop) : Prop where
  pos : 0 < r.m
  len : r.sets.length = r.m
  to : ∀ p q, r.behind p q = true → 0 < q ∧ q < r.m
  lt : ∀ p, r.last p = true → p < r.m
  sets : ∀ s, s ∈ r.sets → OkR s
  word : ∀ w, RunG r startG w ↔ L w
mutual
theorem sets_wf : ∀ (n : Nd), wfR n → ∀ s, s ∈ setsN n → OkR s
  | .mk k t l, h, s, hs => by
    rw [wfR] at h
    rw [setsN] at hs
    split at hs
    · rcases List.mem_cons.1 hs with rfl | hs
      · exact h.1
      · exact setsL_wf l h.2 s hs
    · exact setsL_wf l h.2 s hs
theorem setsL_wf : ∀ (l : List Nd), wfL l → ∀ s, s ∈ setsL l → OkR s
  | [], _, s, hs => by cases hs
  | n :: l, h, s, hs => by
    rw [wfL] at h
    rw [setsL, List.mem_append] at hs
    rcases hs with hs | hs
    · exact sets_wf n h.1 s hs
    · exact setsL_wf l h.2 s hs
end
theorem rule_ok (n : Nd) (hm : mayR n = true) (hw : wfR n) : RuOk (ruleN n) (LangN n) := by
  have hset : SetsAt (setAt (noR :: setsN n)) 1 (setsN n) := fun i s h => by
    unfold setAt
    rw [Nat.add_comm, List.getD_cons_succ, List.getD_eq_getElem?_getD, h]; rfl
  obtain ⟨g1, g2⟩ := gl_ok n hm 1 _ hset
  have hpath : ∀ (w : List Nat) (p : Nat), 0 < p → (PathG (ruleN n).behind (setAt (noR :: setsN n)) (ruleN n).last w p ↔ PathG (glN n 1).fol (setAt (noR :: setsN n)) (glN n 1).last w p) := by
    intro w
    induction w with
    | nil =>
      intro p hp
      simp only [PathG, ruleN]
      rw [if_neg (by omega)]
    | cons b w ih =>
      intro p hp
      simp only [PathG]
      refine exists_congr fun q => ?_
      rw [show (ruleN n).behind p q = (glN n 1).fol p q by simp only [ruleN]; rw [if_neg (by omega)]]
      constructor
      · rintro ⟨e, f, g⟩; exact ⟨e, f, (ih q (by have := (g1.fol _ _ e).2; omega)).1 g⟩
      · rintro ⟨e, f, g⟩; exact ⟨e, f, (ih q (by have := (g1.fol _ _ e).2; omega)).2 g⟩
  refine ⟨Nat.succ_pos _, rfl, fun p q e => ?_, fun p e => ?_, fun s hs => ?_, fun w => ?_⟩
  · simp only [ruleN] at e ⊢
    split at e
    · have := g1.first q e; omega
    · have := (g1.fol p q e).2; omega
  · simp only [ruleN] at e ⊢
    split at e
    · omega
    · have := g1.last p e; omega
  · rcases List.mem_cons.1 hs with rfl | hs
    · exact ok_no
    · exact sets_wf n hw s hs
  · rw [← g2 w]
    have hrun : RunG (ruleN n) startG w ↔ PathG (ruleN n).behind (setAt (noR :: setsN n)) (ruleN n).last w 0 := by
      constructor
      · rintro ⟨p, _, e, g⟩
        have : p = 0 := by simpa [startG, oneF] using e
        rw [← this]; exact g
      · intro g; exact ⟨0, Nat.succ_pos _, rfl, g⟩
    rw [hrun]
    match w with
    | [] => simp [PathG, ruleN, WordG]
    | b :: w =>
      simp only [PathG, WordG]
      refine exists_congr fun q => ?_
      rw [show (ruleN n).behind 0 q = (glN n 1).first q from rfl]
      constructor
      · rintro ⟨e, f, g⟩; exact ⟨e, f, (hpath w q (by have := g1.first q e; omega)).1 g⟩
      · rintro ⟨e, f, g⟩; exact ⟨e, f, (hpath w q (by have := g1.first q e; omega)).2 g⟩
section
variable {r : RuN} {L : List Nat → Prop}
theorem run_step (h : RuOk r L) (at_ : Nat → Bool) (b : Nat) (w : List Nat) : RunG r (stepG r at_ b) w ↔ RunG r at_ (b :: w) := by
  constructor
  · rintro ⟨q, hq, e, g⟩
    simp only [stepG, Bool.and_eq_true] at e
    obtain ⟨p, hp, e1, e2⟩ := (ors_iff r at_ q r.m).1 e.1
    exact ⟨p, hp, e1, q, e2, e.2.2, g⟩
  · rintro ⟨p, hp, e1, q, e2, e3, g⟩
    have := h.to p q e2
    refine ⟨q, this.2, ?_, g⟩
    simp only [stepG, Bool.and_eq_true]
    exact ⟨(ors_iff r at_ q r.m).2 ⟨p, hp, e1, e2⟩, by simpa using this.1, e3⟩
theorem run_ends (at_ : Nat → Bool) : endsG r at_ = true ↔ RunG r at_ [] := by
  unfold endsG
  rw [any_iff]
  refine exists_congr fun p => and_congr Iff.rfl ?_
  rw [Bool.and_eq_true]
  exact Iff.rfl
theorem run_any (at_ : Nat → Bool) (h : isAny r at_ = false) (w : List Nat) : ¬ RunG r at_ w := by
  rintro ⟨p, hp, e, _⟩
  have := (any_iff at_ r.m).2 ⟨p, hp, e⟩
  unfold isAny at h
  rw [h] at this
  cases this
end
/-- Behind all of a text's bytes. -/
def stepsG (r : RuN) : List Nat → (Nat → Bool) → Nat → Bool
  | [], x => x
  | b :: w, at_ => stepsG r w (stepG r at_ b)
theorem stepsG_snoc (r : RuN) : ∀ (w : List Nat) (b : Nat) (at_ : Nat → Bool), stepsG r (w ++ [b]) at_ = stepG r (stepsG r w at_) b
  | [], b, l => rfl
  | c :: w, b, l => by rw [List.cons_append, stepsG, stepsG, stepsG_snoc r w b]
theorem run_steps {r : RuN} {L : List Nat → Prop} (h : RuOk r L) : ∀ (u : List Nat) (at_ : Nat → Bool) (w : List Nat), RunG r (stepsG r u at_) w ↔ RunG r at_ (u ++ w)
  | [], _, _ => Iff.rfl
  | b :: u, at_, w => (run_steps h u (stepG r at_ b) w).trans (run_step h at_ b (u ++ w))
theorem ends_lang {r : RuN} {L : List Nat → Prop} (h : RuOk r L) (w : List Nat) : endsG r (stepsG r w startG) = true ↔ L w := by
  rw [run_ends, run_steps h, List.append_nil, h.word]
def leastG : List RuN → List Nat → Nat → Int
  | [], _, _ => -1
  | r :: l, w, j => if endsG r (stepsG r w startG) = true then (j : Int) else leastG l w (j + 1)
theorem leastG_ok (w : List Nat) (all : List Nd) : ∀ (l : List Nd) (j : Nat), GoodL l → all.drop j = l → (∀ i, i < j → ¬ LangR all w i) → LeastI (LangR all w) (leastG (l.map ruleN) w j)
  | [], j, _, hd, hno => by
    refine .inl ⟨rfl, fun i ⟨n, hn, hl⟩ => ?_⟩
    by_cases c : i < j
    · exact hno i c ⟨n, hn, hl⟩
    · have := List.drop_eq_nil_iff.1 hd
      have := (List.getElem?_eq_some_iff.1 hn).1
      omega
  | n :: l, j, hg, hd, hno => by
    have hj : all[j]? = some n := by
      have := congrArg (fun x => x[0]?) hd
      simpa using this
    have hr := rule_ok n (hg n (by simp)).1 (hg n (by simp)).2
    rw [List.map_cons, leastG]
    split
    · rename_i h
      exact .inr ⟨j, rfl, ⟨n, hj, (ends_lang hr w).1 h⟩, fun i hi => hno i hi⟩
    · rename_i h
      refine leastG_ok w all l (j + 1) (fun m hm => hg m (by simp [hm])) (by rw [← List.drop_drop, hd]; rfl) fun i hi hl => ?_
      by_cases c : i = j
      · subst c
        obtain ⟨m, hm, hl⟩ := hl
        rw [hj] at hm
        cases hm
        exact h ((ends_lang hr w).2 hl)
      · exact hno i (by omega) hl
/-- One rule, from where it stands on: so long, that rule, are the best so far. -/
def goG (r : RuN) (j : Nat) : List Nat → (Nat → Bool) → Int → Int → Int → Int × Int
  | [], at_, i, long, rule => if isAny r at_ = true then (if endsG r at_ = true ∧ (rule < 0 ∨ long < i) then (i, (j : Int)) else (long, rule)) else (long, rule)
  | b :: w, at_, i, long, rule => if isAny r at_ = true then
      (if endsG r at_ = true ∧ (rule < 0 ∨ long < i) then goG r j w (stepG r at_ b) (i + 1) i (j : Int) else goG r j w (stepG r at_ b) (i + 1) long rule) else (long, rule)
/-- What is known: of the rules ahead all, of this one the beginnings shorter than i. -/
def Upto (all : List Nd) (r i : Nat) (u : List Nat) (j : Nat) : Prop := LangR all u j ∧ (j < r ∨ j = r ∧ u.length < i)
theorem matchI_hit {all : List Nd} {W : List Nat} {r i : Nat} {long rule : Int} (hi : i ≤ W.length) (hm : MatchI (Upto all r i) W long rule) (hl : LangR all (W.take i) r) (hc : rule < 0 ∨ long < i) : MatchI (Upto all r (i + 1)) W i r := by
  have hlen : ∀ x, x ≤ W.length → (W.take x).length = x := fun x hx => by rw [List.length_take]; omega
  have hno : ∀ j, j < r → ∀ x, i ≤ x → x ≤ W.length → ¬ LangR all (W.take x) j := by
    intro j hj x hx hxl hL
    rcases hm with ⟨e, _, h⟩ | ⟨m, e, hm1, hr, h1, h2⟩
    · exact h x hxl j ⟨hL, .inl hj⟩
    · have hr0 : ¬ rule < 0 := by
        rcases h1.cases with ⟨e, _⟩ | ⟨_, h0, _⟩
        · exact absurd e hr
        · omega
      have hmi : m < i := by omega
      exact h2 x (by omega) hxl j ⟨hL, .inl hj⟩
  refine .inr ⟨i, rfl, hi, by omega, .inr ⟨r, rfl, ⟨hl, .inr ⟨rfl, by rw [hlen i hi]; omega⟩⟩, fun j hj hu => hno j hj i (Nat.le_refl _) hi hu.1⟩, fun x hx hxl j hu => ?_⟩
  rcases hu.2 with hj | ⟨_, hj⟩
  · exact hno j hj x (by omega) hxl hu.1
  · rw [hlen x hxl] at hj; omega
theorem matchI_miss {all : List Nd} {W : List Nat} {r i : Nat} {long rule : Int} (hi : i ≤ W.length) (hm : MatchI (Upto all r i) W long rule) (hc : ¬ (LangR all (W.take i) r ∧ (rule < 0 ∨ long < i))) : MatchI (Upto all r (i + 1)) W long rule := by
  have hlen : ∀ x, x ≤ W.length → (W.take x).length = x := fun x hx => by rw [List.length_take]; omega
  rcases hm with ⟨e, e2, h⟩ | ⟨m, e, hm1, hr, h1, h2⟩
  · refine .inl ⟨e, e2, fun x hx j hu => ?_⟩
    by_cases c : j = r ∧ x = i
    · obtain ⟨rfl, rfl⟩ := c
      exact hc ⟨hu.1, .inl (by omega)⟩
    · refine h x hx j ⟨hu.1, ?_⟩
      rcases hu.2 with hj | ⟨hj, hj2⟩
      · exact .inl hj
      · rw [hlen x hx] at hj2 ⊢; exact .inr ⟨hj, by omega⟩
  · have hr0 : 0 ≤ rule := by
      rcases h1.cases with ⟨e, _⟩ | ⟨_, h0, _⟩
      · exact absurd e hr
      · exact h0
    have key : ∀ x, x ≤ W.length → m ≤ x → ∀ j, Upto all r (i + 1) (W.take x) j → Upto all r i (W.take x) j ∨ (j = r ∧ x = i ∧ m = i) := by
      intro x hx hmx j hu
      rcases hu.2 with hj | ⟨hj, hj2⟩
      · exact .inl ⟨hu.1, .inl hj⟩
      · rw [hlen x hx] at hj2
        by_cases c : x = i
        · by_cases c2 : m = i
          · exact .inr ⟨hj, c, c2⟩
          · exfalso
            rw [hj, c] at hu
            exact hc ⟨hu.1, .inr (by omega)⟩
        · exact .inl ⟨hu.1, .inr ⟨hj, by rw [hlen x hx]; omega⟩⟩
    refine .inr ⟨m, e, hm1, hr, ?_, fun x hx hxl j hu => ?_⟩
    · rcases h1 with ⟨e0, _⟩ | ⟨j, e1, hj, hleast⟩
      · exact absurd e0 hr
      · refine .inr ⟨j, e1, ⟨hj.1, ?_⟩, fun y hy hu => ?_⟩
        · rcases hj.2 with a | ⟨a, b⟩
          · exact .inl a
          · exact .inr ⟨a, by omega⟩
        · rcases key m hm1 (Nat.le_refl _) y hu with hu | ⟨hy2, _, hmi⟩
          · exact hleast y hy hu
          · rcases hj.2 with a | ⟨a, b⟩
            · omega
            · rw [hlen m hm1] at b; omega
    · rcases key x hxl (by omega) j hu with hu | ⟨_, hxi, hmi⟩
      · exact h2 x hx hxl j hu
      · omega
theorem matchI_conv {A B : List Nat → Nat → Prop} {W : List Nat} {long rule : Int} (h : MatchI A W long rule) (e : ∀ x, x ≤ W.length → ∀ j, A (W.take x) j ↔ B (W.take x) j) : MatchI B W long rule := by
  rcases h with ⟨e1, e2, h⟩ | ⟨m, e1, hm, hr, h1, h2⟩
  · exact .inl ⟨e1, e2, fun x hx j hb => h x hx j ((e x hx j).2 hb)⟩
  · exact .inr ⟨m, e1, hm, hr, h1.conv (e m hm), fun x hx hxl j hb => h2 x hx hxl j ((e x hxl j).2 hb)⟩
theorem goG_ok {all : List Nd} {j : Nat} {n : Nd} (hj : all[j]? = some n) (hm : mayR n = true) (hw : wfR n) (W : List Nat) : ∀ (w : List Nat) (at_ : Nat → Bool) (i : Nat) (long rule : Int), W.drop i = w → i ≤ W.length → (∀ u, RunG (ruleN n) at_ u ↔ LangN n (W.take i ++ u)) →
    MatchI (Upto all j i) W long rule → MatchI (Upto all j (W.length + 1)) W (goG (ruleN n) j w at_ i long rule).1 (goG (ruleN n) j w at_ i long rule).2 := by
  have hr := rule_ok n hm hw
  have hL : ∀ u, LangR all u j ↔ LangN n u := fun u => ⟨fun ⟨m, h1, h2⟩ => by rw [hj] at h1; cases h1; exact h2, fun h => ⟨n, hj, h⟩⟩
  have hlen : ∀ x, x ≤ W.length → (W.take x).length = x := fun x hx => by rw [List.length_take]; omega
  -- where it stands nowhere, no longer beginning is of it
  have stop : ∀ (at_ : Nat → Bool) (i : Nat) (long rule : Int), i ≤ W.length → (∀ u, RunG (ruleN n) at_ u ↔ LangN n (W.take i ++ u)) → isAny (ruleN n) at_ = false → MatchI (Upto all j i) W long rule → MatchI (Upto all j (W.length + 1)) W long rule := by
    intro at_ i long rule hi hA hn hM
    refine matchI_conv hM fun x hx y => ⟨fun ⟨a, b⟩ => ⟨a, b.imp id fun ⟨b, _⟩ => ⟨b, by rw [hlen x hx]; omega⟩⟩, fun ⟨a, b⟩ => ⟨a, b.imp id fun ⟨b, _⟩ => ⟨b, ?_⟩⟩⟩
    rw [hlen x hx]
    refine Nat.lt_of_not_le fun hle => ?_
    rw [b, hL] at a
    refine run_any at_ hn ((W.drop i).take (x - i)) ((hA _).2 ?_)
    rw [show W.take i ++ (W.drop i).take (x - i) = W.take x by rw [← List.take_add]; congr 1; omega]
    exact a
  have hends : ∀ (at_ : Nat → Bool) (i : Nat), (∀ u, RunG (ruleN n) at_ u ↔ LangN n (W.take i ++ u)) → (endsG (ruleN n) at_ = true ↔ LangR all (W.take i) j) := fun at_ i hA => by
    rw [run_ends, hA [], List.append_nil, hL]
  intro w
  induction w with
  | nil =>
    intro at_ i long rule hd hi hA hM
    have hW : W.length ≤ i := List.drop_eq_nil_iff.1 hd
    have hWi : W.length + 1 = i + 1 := by omega
    rw [goG]
    split
    · rw [hWi]
      split
      · rename_i hc
        exact matchI_hit hi hM ((hends at_ i hA).1 hc.1) hc.2
      · rename_i hc
        exact matchI_miss hi hM fun h => hc ⟨(hends at_ i hA).2 h.1, h.2⟩
    · rename_i hn
      exact stop at_ i long rule hi hA (by simpa using hn) hM
  | cons b w ih =>
    intro at_ i long rule hd hi hA hM
    have hlt : i < W.length := by
      have := congrArg List.length hd
      rw [List.length_drop, List.length_cons] at this
      omega
    have hb : W[i]? = some b := by
      have := congrArg (fun x => x[0]?) hd
      simpa using this
    have htk : W.take (i + 1) = W.take i ++ [b] := by rw [List.take_add_one, hb]; rfl
    have hdr : W.drop (i + 1) = w := by rw [← List.drop_drop, hd]; rfl
    have hA' : ∀ u, RunG (ruleN n) (stepG (ruleN n) at_ b) u ↔ LangN n (W.take (i + 1) ++ u) := fun u => by
      rw [run_step hr, hA (b :: u), htk, List.append_assoc]; rfl
    rw [goG]
    split
    · split
      · rename_i hc
        exact ih _ (i + 1) i j hdr hlt hA' (matchI_hit hi hM ((hends at_ i hA).1 hc.1) hc.2)
      · rename_i hc
        exact ih _ (i + 1) long rule hdr hlt hA' (matchI_miss hi hM fun h => hc ⟨(hends at_ i hA).2 h.1, h.2⟩)
    · rename_i hn
      exact stop at_ i long rule hi hA (by simpa using hn) hM
def matchG : List RuN → Nat → List Nat → Int → Int → Int × Int
  | [], _, _, long, rule => (long, rule)
  | r :: l, j, w, long, rule => matchG l (j + 1) w (goG r j w startG 0 long rule).1 (goG r j w startG 0 long rule).2
theorem matchG_ok (all : List Nd) (W : List Nat) : ∀ (l : List Nd) (j : Nat) (long rule : Int), GoodL l → all.drop j = l → MatchI (Upto all j 0) W long rule → MatchI (LangR all) W (matchG (l.map ruleN) j W long rule).1 (matchG (l.map ruleN) j W long rule).2
  | [], j, long, rule, _, hd, hM => by
    rw [List.map_nil, matchG]
    refine matchI_conv hM fun x hx y => ⟨fun h => h.1, fun h => ⟨h, .inl ?_⟩⟩
    obtain ⟨m, hm, _⟩ := h
    have := List.drop_eq_nil_iff.1 hd
    have := (List.getElem?_eq_some_iff.1 hm).1
    omega
  | n :: l, j, long, rule, hg, hd, hM => by
    have hj : all[j]? = some n := by
      have := congrArg (fun x => x[0]?) hd
      simpa using this
    have hgn := hg n (by simp)
    rw [List.map_cons, matchG]
    have h1 := goG_ok hj hgn.1 hgn.2 W W startG 0 long rule rfl (Nat.zero_le _) (fun u => by rw [List.take_zero, List.nil_append]; exact (rule_ok n hgn.1 hgn.2).word u) hM
    refine matchG_ok all W l (j + 1) _ _ (fun m hm => hg m (by simp [hm])) (by rw [← List.drop_drop, hd]; rfl) (matchI_conv h1 fun x hx y => ?_)
    have hlen : (W.take x).length = x := by rw [List.length_take]; omega
    unfold Upto
    rw [hlen]
    constructor
    · rintro ⟨a, b | ⟨b, _⟩⟩
      · exact ⟨a, .inl (by omega)⟩
      · exact ⟨a, .inl (by omega)⟩
    · rintro ⟨a, b | ⟨b, c⟩⟩
      · by_cases e : y = j
        · exact ⟨a, .inr ⟨e, by omega⟩⟩
        · exact ⟨a, .inl (by omega)⟩
      · omega
theorem match_ref (all : List Nd) (hg : GoodL all) (W : List Nat) : MatchI (LangR all) W (matchG (all.map ruleN) 0 W 0 (-1)).1 (matchG (all.map ruleN) 0 W 0 (-1)).2 :=
  matchG_ok all W all 0 0 (-1) hg rfl (.inl ⟨rfl, rfl, fun x hx j h => by rcases h.2 with h | ⟨_, h⟩ <;> omega⟩)
theorem least_ref (all : List Nd) (hg : GoodL all) (W : List Nat) : LeastI (LangR all W) (leastG (all.map ruleN) W 0) := leastG_ok W all all 0 hg rfl fun i hi => by omega
/-- Both sides tell the same. -/
theorem match_same (all : List Nd) (hg : GoodL all) (W : List Nat) : matchP (makeQ all).1 (makeQ all).2 W = matchG (all.map ruleN) 0 W 0 (-1) := by
  obtain ⟨a, b⟩ := (match_ok (makeQ_ok all hg) W).unique (match_ref all hg W) fun _ _ => Iff.rfl
  exact Prod.ext a b
theorem least_same (all : List Nd) (hg : GoodL all) (W : List Nat) : accP (makeQ all).1 (stepsP (makeQ all).1 W (reachP (makeQ all).1 (makeQ all).2)) (-1) = leastG (all.map ruleN) W 0 :=
  (least_ok (makeQ_ok all hg) W).unique (least_ref all hg W) fun _ => Iff.rfl
end Go.Proofs.YtkopbngnhgdfhaaDoor
