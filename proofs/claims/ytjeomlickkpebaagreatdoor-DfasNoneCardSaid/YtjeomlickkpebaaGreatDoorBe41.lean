/-
  Texts of this proof, one behind the other; each begins with its own remark.
-/
import Derived.Deep.CutRange
import Derived.Deep.CutBlock
import Derived.Deep.RegionHeld3
import Derived.Deep.Cut
import Derived.Deep.RegionLaw
import Derived.Test.YtjeomlickkpebaaGreatDoorBe40
import Derived.Test.YtjeomlickkpebaaGreatDoorBe34
import Derived.Test.YtjeomlickkpebaaGreatDoorBe14
import Derived.Test.YtjeomlickkpebaaGreatDoorBe15
import Derived.Test.YtjeomlickkpebaaGreatDoorBe36
import Derived.Test.YtjeomlickkpebaaGreatDoorBe29
/-
  limnerref12.Min in memory: the states that there are, the row that is made, the table as it grows. No call is walked here.
-/
namespace Go.Proofs.YtjeomlickkpebaaGreatDoor
open Go.RowKit

def numN (xs : List Nat) : List Value := xs.map fun (k : Nat) => Value.int .i64 (k : Int)
/-- What lies in memory while Min goes on: states 1, the row 2, the table's rows 4, its rules 5, its box 6. -/
structure MinW (w0 : World) (c : Col) (w : World) (D : Nat) (pv dn dr : Value) (xs : List Nat) (rows : List (List Int)) (rl : List Int) : Prop where
  bel : Below w0.heap.size w0 w
  fr : Fresh0 c w
  old : ∀ k, k < w0.heap.size → c k = 0
  dcol : c D = 6
  box : boxD w D dn dr
  pp : RowC c 1 3 w pv (numN xs)
  dd : ∃ us : List Value, us.length = rows.length ∧ RowC c 4 39 w dn us ∧ ∀ (i : Nat) l u, rows[i]? = some l → us[i]? = some u → CelC c w u (numC l)
  rr : RowC c 5 3 w dr (numC rl)
section
variable {S : Nat → Prop} {w0 w w' : World} {c c' : Col} {D : Nat} {pv dn dr u : Value} {xs : List Nat} {rows : List (List Int)} {rl row : List Int} {x : Nat}
theorem MinW.step (h : MinW w0 c w D pv dn dr xs rows rl) (hs : StepC S c c' w w') (hS : ∀ a, S a → a = 2 ∨ a = 3) : MinW w0 c' w' D pv dn dr xs rows rl := by
  have h0 : ¬ S 0 := fun e => by have := hS 0 e; omega
  have hD := h.box.lt
  have p2 := h.pp
  obtain ⟨vs, d1, d2, d3⟩ := h.dd
  exact ⟨hs.under h.bel h.bel.size fun k hk e => h0 (by rw [h.old k hk] at e; exact e), hs.fresh, fun k hk => by rw [hs.same k (Nat.lt_of_lt_of_le hk h.bel.size)]; exact h.old k hk,
    by rw [hs.same D hD]; exact h.dcol, h.box.keep hs.keep (by rw [h.dcol]; exact fun e => by have := hS 6 e; omega),
    p2.step hs fun e => by have := hS 1 e; omega,
    ⟨vs, d1, d2.step hs fun e => by have := hS 4 e; omega, fun i l u hl hu => (d3 i l u hl hu).step hs h0⟩,
    h.rr.step hs fun e => by have := hS 5 e; omega⟩
theorem MinW.under (h : MinW w0 c w D pv dn dr xs rows rl) (hb : Below w.heap.size w w') : MinW w0 c w' D pv dn dr xs rows rl := h.step (S := fun _ => False) (StepC.below h.fr hb) fun _ e => e.elim
theorem MinW.pale {A : Nat} (h : MinW w0 c w D pv dn dr xs rows rl) (hA : A = 2 ∨ A = 3) : MinW w0 (pale c A) w D pv dn dr xs rows rl := by
  have p2 := h.pp
  obtain ⟨vs, d1, d2, d3⟩ := h.dd
  exact ⟨h.bel, h.fr.pale, fun k hk => pale_zero (h.old k hk), pale_other h.dcol (by omega), h.box, p2.pale (by omega), ⟨vs, d1, d2.pale (by omega), fun i l u hl hu => (d3 i l u hl hu).pale⟩, h.rr.pale (by omega)⟩
/-- The first state. -/
theorem MinW.first (h : MinW w0 c w D (.slice none 0 0) dn dr [] rows rl) : MinW w0 (colAt c 1 w.heap.size) (w.alloc (.cells #[.int .i64 0] 3)) D (.slice (some ⟨w.heap.size, 0, none⟩) 1 1) dn dr [0] rows rl := by
  have hs := StepC.colAt (S := fun _ => False) (A := 1) h.fr (.cells #[.int .i64 0] 3)
  obtain ⟨vs, d1, d2, d3⟩ := h.dd
  exact ⟨hs.under h.bel h.bel.size fun _ _ e => e, hs.fresh, fun k hk => by rw [hs.same k (Nat.lt_of_lt_of_le hk h.bel.size)]; exact h.old k hk, by rw [hs.same D h.box.lt]; exact h.dcol, h.box.keep hs.keep (fun e => e),
    (RowC.one : RowC _ 1 3 _ _ [Value.int .i64 0]), ⟨vs, d1, d2.step hs (fun e => e), fun i l v hl hv => (d3 i l v hl hv).step hs (fun e => e)⟩, h.rr.step hs (fun e => e)⟩
end
section
variable {w0 w : World} {c : Col} {D : Nat} {pv dn dr rv : Value} {xs : List Nat} {rows : List (List Int)} {rl row : List Int}
end
/-- Not more states than there were. -/
theorem min_len {d : Dfa} {A : Nat → Nat → Bool} (hA : MatI d A) {k : Nat} {xs : List Nat} {rows : List (List Int)} (hg : GoI (toN d) (deadN d A) (sameN A) (fun i => i < d.n) (sayN d) 0 k xs rows) : xs.length ≤ d.n := by
  refine pig xs.length d.n (fun i => xs.getD i 0) (fun i hi => ?_) fun i j hij hj e => ?_
  · show xs.getD i 0 < d.n
    rw [getD_at (List.getElem?_eq_getElem hi)]
    exact hg.good _ (List.getElem_mem hi)
  · have hi : xs[i]? = some (xs[i]'(by omega)) := List.getElem?_eq_getElem _
    have hj2 : xs[j]? = some xs[j] := List.getElem?_eq_getElem hj
    have e2 : xs[i]'(by omega) = xs[j] := by
      have h1 : xs.getD i 0 = xs[i]'(by omega) := getD_at hi
      have h2 : xs.getD j 0 = xs[j] := getD_at hj2
      rw [← h1, ← h2]; exact e
    have := hg.unlike i j _ _ hij hi hj2
    unfold sameN at this
    rw [e2] at this
    have ht : A xs[j] xs[j] = true := by simpa using this
    have hlt := hg.good _ (List.getElem_mem hj)
    obtain ⟨w, _, hne⟩ := hA.sound _ _ (Nat.le_of_lt hlt) (Nat.le_of_lt hlt) ht
    exact hne rfl
end Go.Proofs.YtjeomlickkpebaaGreatDoor

/-
  limnerref11: lay of any node that may be; Of: what each comes to.
-/
namespace Go.Proofs.YtjeomlickkpebaaGreatDoor
open Go.RowKit

/-! ### Of -/
/-- What lies in memory while the rows are made: i of m. -/
structure OfW (w0 w : World) (R m i : Nat) (sv bv : Value) : Prop where
  b : box3 48 w R sv bv (.slice none 0 0)
  s : w.ownsRow 0 51 4 sv 1 (setsC [noR])
  r : ∃ us : List Value, us.length = i ∧ w.ownsRow 0 46 1 bv i us ∧ ∀ k, k < i → ∃ u, us[k]? = some u ∧ BolO (fun k => OwnR R sv bv k ∨ k < w0.heap.size) w u m noF
  sR : sv.ownBlock ≠ some R
  bR : bv.ownBlock ≠ some R
  sb : ∀ k, sv.ownBlock = some k → bv.ownBlock ≠ some k
  bel : Below w0.heap.size w0 w
  fresh : ∀ k, OwnR R sv bv k → w0.heap.size < k
section
variable {w0 w w' : World} {R m i : Nat} {sv bv : Value}
theorem OfW.under (h : OfW w0 w R m i sv bv) (hb : Below w.heap.size w w') : OfW w0 w' R m i sv bv := by
  obtain ⟨us, h1, h2, h3⟩ := h.r
  refine ⟨h.b.under hb, ownRow_keep h.s (keep_below (fun _ => True) hb) fun _ _ => trivial, ⟨us, h1, ownRow_keep h2 (keep_below (fun _ => True) hb) fun _ _ => trivial, fun k hk => ?_⟩, h.sR, h.bR, h.sb, h.bel.trans (hb.mono h.bel.size), h.fresh⟩
  obtain ⟨u, h4, h5⟩ := h3 k hk
  exact ⟨u, h4, h5.under hb⟩
theorem OfW.ownlt (h : OfW w0 w R m i sv bv) : ∀ k, w.heap.size ≤ k → ¬ OwnR R sv bv k := fun k hk e => by
  obtain ⟨us, _, h2, _⟩ := h.r
  have h3 := h.b.lt
  rcases e with e | e | e
  · omega
  · have := (World.ownsRow.lt h.s k e).2; omega
  · have := (World.ownsRow.lt h2 k e).2; omega
end
end Go.Proofs.YtjeomlickkpebaaGreatDoor

/-
  limnerlaw12.DfasMake, plain: its lists are those that the table was made of, in the same order. No call is walked here.
-/
namespace Go.Proofs.YtjeomlickkpebaaGreatDoor

theorem rowX_at (step : List Int → Nat → List Int) (x : List Int) (xs : List (List Int)) : ∀ (B b : Nat), b < B → (rowX step nilL sameL x xs B).2[b]? = some (numR (rowX step nilL sameL x xs b).1 (step x b))
  | 0, b, h => absurd h (Nat.not_lt_zero _)
  | B + 1, b, h => by
    have hl := (row_few step x xs B).2
    rw [rowX, one_num]
    show ((rowX step nilL sameL x xs B).2 ++ [_])[b]? = _
    by_cases c : b < B
    · rw [List.getElem?_append_left (by omega)]
      exact rowX_at step x xs B b c
    · have : b = B := by omega
      subst this
      rw [List.getElem?_append_right (by omega), hl, Nat.sub_self]
      rfl
section
variable {L : List ByteArray} {K k : Nat}
theorem goX_still {α : Type} {step : α → Nat → α} {dead : α → Bool} {same : α → α → Bool} {first : α} {k : Nat} (h : (goX step dead same first k).1.length ≤ k) : ∀ j, goX step dead same first (k + j) = goX step dead same first k
  | 0 => rfl
  | j + 1 => by
    have ih := goX_still h j
    rw [← Nat.add_assoc, goX, ih, List.getElem?_eq_none (by omega)]
/-- Before the table is done there is a list more. -/
theorem goL_lt (hK : (goL L K).1.length = K) (hk : k < K) : k < (goL L k).1.length := by
  refine Classical.byContradiction fun h => ?_
  have := goX_still (show (goL L k).1.length ≤ k by omega) (K - k)
  rw [show k + (K - k) = K by omega] at this
  have e : (goL L K).1.length = (goL L k).1.length := by rw [show goL L K = goL L k from this]
  omega
theorem goL_le (hK : (goL L K).1.length = K) (hk : k ≤ K) : k ≤ (goL L k).1.length := by
  by_cases c : k = K
  · rw [c, hK]; exact Nat.le_refl _
  · exact Nat.le_of_lt (goL_lt hK (by omega))
/-- The next round. -/
theorem goL_step {x : List Int} (hx : (goL L k).1[k]? = some x) : goL L (k + 1) = ((rowL (quE L) x (goL L k).1 256).1, (goL L k).2 ++ [(rowL (quE L) x (goL L k).1 256).2]) := goX_next hx
theorem goL_pre (hK : (goL L K).1.length = K) : ∀ j, k + j ≤ K → (∃ t, (goL L (k + j)).1 = (goL L k).1 ++ t) ∧ ∃ t, (goL L (k + j)).2 = (goL L k).2 ++ t
  | 0, _ => ⟨⟨[], by rw [List.append_nil]; rfl⟩, ⟨[], by rw [List.append_nil]; rfl⟩⟩
  | j + 1, h => by
    obtain ⟨⟨t, ht⟩, s, hs⟩ := goL_pre hK j (by omega)
    have hlt := goL_lt hK (show k + j < K by omega)
    have hx := List.getElem?_eq_getElem hlt
    have := goL_step hx
    obtain ⟨u, hu⟩ := row_pre (step := fun l b => stepP (quE L) b l) (goL L (k + j)).1[k + j] (goL L (k + j)).1 256
    rw [← Nat.add_assoc, this]
    exact ⟨⟨t ++ u, by
      show (rowX _ _ _ _ _ _).1 = _
      rw [hu, ht, List.append_assoc]⟩, ⟨s ++ [(rowL (quE L) (goL L (k + j)).1[k + j] (goL L (k + j)).1 256).2], by
      show (goL L (k + j)).2 ++ _ = _
      rw [hs, List.append_assoc]⟩⟩
/-- What the table tells of its state number k. -/
theorem tab_row (hK : (goL L K).1.length = K) (hk : k < K) {x : List Int} (hx : (goL L k).1[k]? = some x) :
    (tabL L K).acc (k : Int) = accP (quE L) x (-1) ∧ ∀ b, b < 256 → (tabL L K).to (k : Int) b = numR (rowL (quE L) x (goL L k).1 b).1 (stepP (quE L) b x) := by
  obtain ⟨⟨t, ht⟩, _⟩ := goL_pre (k := k) hK (K - k) (by omega)
  obtain ⟨_, s, hs⟩ := goL_pre (k := k + 1) hK (K - (k + 1)) (by omega)
  rw [show k + (K - k) = K by omega] at ht
  rw [show k + 1 + (K - (k + 1)) = K by omega, goL_step hx] at hs
  have hl := goX_len k (goL_le hK (Nat.le_of_lt hk))
  have hkl := (List.getElem?_eq_some_iff.1 hx).1
  have h1 : (goL L K).1[k]? = some x := by rw [ht, List.getElem?_append_left hkl]; exact hx
  have h2 : (goL L K).2[k]? = some (rowL (quE L) x (goL L k).1 256).2 := by
    rw [hs]
    dsimp only
    rw [List.append_assoc, List.getElem?_append_right (by rw [show (goL L k).2.length = k from hl]; exact Nat.le_refl _), show k - (goL L k).2.length = 0 from by rw [show (goL L k).2.length = k from hl, Nat.sub_self]]
    rfl
  constructor
  · unfold Dfa.acc
    rw [if_pos (by omega), Int.toNat_natCast]
    show ((goL L K).1.map _).getD k (-1) = _
    rw [getD_at (by rw [List.getElem?_map, h1]; rfl)]
  · intro b hb
    unfold Dfa.to
    rw [if_pos (by omega), Int.toNat_natCast]
    show ((goL L K).2.getD k []).getD b (-1) = _
    rw [getD_at h2, getD_at (rowX_at _ x _ 256 b hb)]
/-- No two of the lists that are met are one. -/
theorem row_unlike (hK : (goL L K).1.length = K) (hk : k < K) {x : List Int} (hx : (goL L k).1[k]? = some x) {b : Nat} (hb : b ≤ 256) :
    (∀ (i j : Nat) a c, i < j → (rowL (quE L) x (goL L k).1 b).1[i]? = some a → (rowL (quE L) x (goL L k).1 b).1[j]? = some c → sameL a c = false) ∧ (∀ l, l ∈ (rowL (quE L) x (goL L k).1 b).1 → ListG (quE L) (reachP (quE L) (fiE L)) l) ∧ (rowL (quE L) x (goL L k).1 b).1.length ≤ K := by
  have hg := goL_GoI L (goL_le hK (Nat.le_of_lt hk))
  have hr := (row_ok (lists_hyp _ _) (hg.good x (List.mem_of_getElem? hx)) (go_rowI hg) b hb).1
  refine ⟨hr.unlike, hr.good, ?_⟩
  obtain ⟨⟨t, ht⟩, _⟩ := goL_pre (k := k + 1) hK (K - (k + 1)) (by omega)
  rw [show k + 1 + (K - (k + 1)) = K by omega, goL_step hx] at ht
  have h3 : (rowL (quE L) x (goL L k).1 b).1.length ≤ (rowL (quE L) x (goL L k).1 256).1.length := by
    have key : ∀ m, b + m ≤ 256 → (rowL (quE L) x (goL L k).1 b).1.length ≤ (rowL (quE L) x (goL L k).1 (b + m)).1.length := by
      intro m
      induction m with
      | zero => exact fun _ => Nat.le_refl _
      | succ m ih =>
        intro hm
        refine Nat.le_trans (ih (by omega)) ?_
        show _ ≤ (oneX _ _ _ _ _ _).1.length
        rw [one_num]
        show _ ≤ (numX _ _).length
        unfold numX
        split
        · exact Nat.le_refl _
        · split
          · rw [List.length_append]; exact Nat.le_add_right _ _
          · exact Nat.le_refl _
    have := key (256 - b) (by omega)
    rwa [show b + (256 - b) = 256 by omega] at this
  have h4 : (rowL (quE L) x (goL L k).1 256).1.length ≤ K := by
    rw [← hK, ht]
    show _ ≤ (_ ++ t).length
    rw [List.length_append]
    exact Nat.le_add_right _ _
  exact Nat.le_trans h3 h4
/-- A list's number: the first place where it stands, or the one behind all. -/
theorem numR_found {xs : List (List Int)} {l : List Int} (hl : l ≠ []) :
    (∃ i : Nat, numR xs l = (i : Int) ∧ xs[i]? = some l ∧ numX xs l = xs) ∨ (numR xs l = (xs.length : Int) ∧ l ∉ xs ∧ numX xs l = xs ++ [l]) := by
  have hn : ¬ nilL l = true := fun e => hl (List.isEmpty_iff.1 e)
  unfold numR numX
  rw [if_neg hn, if_neg hn]
  by_cases h : findX sameL xs l 0 < 0
  · rw [if_pos h, if_pos h]
    refine .inr ⟨rfl, fun hm => ?_, rfl⟩
    obtain ⟨i, hi⟩ := List.mem_iff_getElem?.1 hm
    have := findX_no h i l hi
    rw [show sameL l l = true from decide_eq_true rfl] at this
    cases this
  · rw [if_neg h, if_neg h]
    obtain ⟨i, x, h1, h2, h3⟩ := findX_yes (same := sameL) (xs := xs) (y := l) (j := 0) (by omega)
    rw [Nat.zero_add] at h1
    have hxl : x = l := of_decide_eq_true h3
    rw [hxl] at h2
    exact .inl ⟨i, h1, h2, rfl⟩
theorem same_place {xs : List (List Int)} {l : List Int} (hun : ∀ (i j : Nat) a c, i < j → xs[i]? = some a → xs[j]? = some c → sameL a c = false) {i j : Nat} (hi : xs[i]? = some l) (hj : xs[j]? = some l) : i = j := by
  refine Classical.byContradiction fun h => ?_
  rcases Nat.lt_or_gt_of_ne h with h | h
  · have := hun i j l l h hi hj
    rw [show sameL l l = true from decide_eq_true rfl] at this
    cases this
  · have := hun j i l l h hj hi
    rw [show sameL l l = true from decide_eq_true rfl] at this
    cases this
end
theorem rowL_next (q : List Sta) (x : List Int) (xs : List (List Int)) (b : Nat) : (rowL q x xs (b + 1)).1 = numX (rowL q x xs b).1 (stepP q b x) := by
  show (oneX _ _ _ _ _ _).1 = _
  rw [one_num]
theorem list_few {L : List ByteArray} (hE : makeE L = 0) {x : List Int} (h : ListG (quE L) (reachP (quE L) (fiE L)) x) : x.length ≤ 100000 := by
  have h9 := (make_good hE).2.2.1
  obtain ⟨w0, _, e, _⟩ := h
  rw [e]
  cases hw0 : w0.reverse with
  | nil =>
    have : w0 = [] := by simpa using hw0
    subst this
    exact Nat.le_trans (reach_few _ _) h9
  | cons b t =>
    have : w0 = t.reverse ++ [b] := by
      have := congrArg List.reverse hw0
      simpa using this
    subst this
    rw [steps_snoc]
    exact Nat.le_trans (step_few _ _ _) h9
end Go.Proofs.YtjeomlickkpebaaGreatDoor

/-
  limnerlaw12.DfasMake: what lies in memory: the lists that are met, and their states' numbers. No call is walked here.
-/
namespace Go.Proofs.YtjeomlickkpebaaGreatDoor
open Go.RowKit

structure MkL (w0 : World) (c : Col) (w : World) (lv sv : Value) (xs : List (List Int)) (us : List Value) : Prop where
  s0 : StepC (fun a => a ≠ 0) (fun _ => 0) c w0 w
  rl : RowC c 1 39 w lv us
  el : ListsC c w us xs
  rs : RowC c 2 3 w sv (numC (natL (List.range xs.length)))
def MkB (w0 w : World) (lv sv : Value) (xs : List (List Int)) : Prop := ∃ c us, MkL w0 c w lv sv xs us
section
variable {c : Col} {w0 w w' : World} {lv sv v : Value} {xs : List (List Int)} {us : List Value} {l : List Int}
theorem MkL.under (h : MkL w0 c w lv sv xs us) (hb : Below w.heap.size w w') : MkL w0 c w' lv sv xs us := by
  have s : StepC (fun _ => False) c c w w' := StepC.below h.s0.fresh hb
  exact ⟨h.s0.trans (s.mono fun _ e => e.elim), h.rl.step s (fun e => e), h.el.step s (fun e => e), h.rs.step s (fun e => e)⟩
theorem MkB.under (h : MkB w0 w lv sv xs) (hb : Below w.heap.size w w') : MkB w0 w' lv sv xs := by
  obtain ⟨c, us, h1⟩ := h
  exact ⟨c, us, h1.under hb⟩
theorem MkB.below (h : MkB w0 w lv sv xs) : Below w0.heap.size w0 w := by
  obtain ⟨c, us, h1⟩ := h
  exact h1.s0.under0 fun e => e rfl
theorem MkB.forms (h : MkB w0 w lv sv xs) : ∃ lo lc so sc, lv = .slice lo xs.length lc ∧ xs.length ≤ lc ∧ sv = .slice so xs.length sc ∧ xs.length ≤ sc := by
  obtain ⟨c, us, h1⟩ := h
  obtain ⟨lo, lc, e1, e2⟩ := h1.rl.form
  obtain ⟨so, sc, e3, e4⟩ := h1.rs.form
  rw [numC_len, natL_len, List.length_range] at e3 e4
  rw [h1.el.1] at e1 e2
  exact ⟨lo, lc, so, sc, e1, e2, e3, e4⟩
/-- A list, and its number. -/
theorem MkB.at_ (h : MkB w0 w lv sv xs) {i : Nat} (hi : xs[i]? = some l) : ∃ lg lo lc sg so sc u, lv = .slice (some ⟨lg, lo, none⟩) xs.length lc ∧ sv = .slice (some ⟨sg, so, none⟩) xs.length sc ∧ w.cell? ⟨lg, lo + i, none⟩ = some u ∧ IntsW w u l ∧ w.cell? ⟨sg, so + i, none⟩ = some (.int .i64 (i : Int)) := by
  obtain ⟨c, us, h1⟩ := h
  have hil := (List.getElem?_eq_some_iff.1 hi).1
  obtain ⟨u, hu⟩ : ∃ u, us[i]? = some u := ⟨_, List.getElem?_eq_getElem (by rw [h1.el.1]; exact hil)⟩
  obtain ⟨e1, e2⟩ := h1.el.2 i u l hu hi
  obtain ⟨ao, cap, hv, _, hc⟩ := h1.rl.rowZ
  obtain ⟨g, o, rfl, _, hg⟩ := hc i u hu
  obtain ⟨ao2, cap2, hv2, _, hc2⟩ := h1.rs.rowZ
  rw [numC_len, natL_len, List.length_range] at hv2
  obtain ⟨g2, o2, rfl, _, hg2⟩ := hc2 i _ (numC_at (natL_at (List.getElem?_range hil)))
  rw [h1.el.1] at hv
  exact ⟨g, o, cap, g2, o2, cap2, u, hv, hv2, hg, cel_ints e1 e2, hg2⟩
theorem MkL.push (h : MkL w0 c w lv sv xs us) (hv : CelC c w v (numC l)) (hl : l.length ≤ 1000000) (hv1 : v.oneCell' = true) (hx : xs.length ≤ 50000) :
    ∃ ao cap w1, (Builtin.append_ #[38, 38] 38 #[lv, .slice (some ⟨w.heap.size, 0, none⟩) 1 1]).run Tryz.prog (w.alloc (.cells #[v] 39)) = .ok (.slice ao (xs.length + 1) cap) w1 ∧
      ∃ ao2 cap2 w2, (Builtin.append_ #[39, 39] 39 #[sv, .slice (some ⟨w1.heap.size, 0, none⟩) 1 1]).run Tryz.prog (w1.alloc (.cells #[.int .i64 (xs.length : Int)] 3)) = .ok (.slice ao2 (xs.length + 1) cap2) w2 ∧
        MkB w0 w2 (.slice ao (xs.length + 1) cap) (.slice ao2 (xs.length + 1) cap2) (xs ++ [l]) := by
  have hlen : (numC (natL (List.range xs.length))).length = xs.length := by rw [numC_len, natL_len, List.length_range]
  obtain ⟨ao, cap, w1, c1, hr1, h1, s1⟩ := h.rl.pushA (z := .slice none 0 0) (b := 24) (u := v) h.s0.fresh 38 38 Tryz.underlying38 Tryz.infoIntsL rfl (by decide) hv1 (by rw [h.el.1]; omega)
  have hrs := h.rs.step s1 (by decide)
  obtain ⟨ao2, cap2, w2, c2, hr2, h2, s2⟩ := hrs.pushA (z := .int .i64 0) (b := 8) (u := .int .i64 (xs.length : Int)) s1.fresh 39 39 Tryz.underlying39 Tryz.infoIntN rfl (by decide) rfl (by rw [hlen]; omega)
  rw [hlen] at hr2 h2
  rw [h.el.1] at hr1 h1
  refine ⟨ao, cap, w1, hr1, ao2, cap2, w2, hr2, c2, us ++ [v], (h.s0.trans (s1.mono fun a e => by rw [e]; decide)).trans (s2.mono fun a e => by rw [e]; decide), h1.step s2 (by decide), ?_, ?_⟩
  · exact ((h.el.snoc hv hl).step s1 (by decide)).step s2 (by decide)
  · rw [List.length_append, List.length_singleton, List.range_succ, natL_snoc]
    exact h2
/-- One list, whose number is 0. -/
theorem mk_start (hv : IntsN w0.heap.size w v l) (hb : Below w0.heap.size w0 w) {W : World} (hW : W = (w.alloc (.cells #[v] 39)).alloc (.cells #[.int .i64 0] 3)) :
    MkB w0 W (.slice (some ⟨w.heap.size, 0, none⟩) 1 1) (.slice (some ⟨w.heap.size + 1, 0, none⟩) 1 1) [l] := by
  subst hW
  have f0 : Fresh0 (fun _ => 0) w := fun _ _ => rfl
  have s0 : StepC (fun a => a ≠ 0) (fun _ => 0) (fun _ => 0) w0 w := StepC.below (fun _ _ => rfl) hb
  have hcel : CelC (fun _ => 0) w v (numC l) := by
    have := hv.1
    rw [show l.length = (numC l).length from (numC_len l).symm] at this
    exact this.mono fun _ _ _ => rfl
  have s1 : StepC (fun _ => False) (fun _ => 0) (colAt (fun _ => 0) 1 w.heap.size) w (w.alloc (.cells #[v] 39)) := StepC.colAt f0 _
  have z1 := alloc_size w (.cells #[v] 39)
  have r1 : RowC (colAt (fun _ => 0) 1 w.heap.size) 1 39 (w.alloc (.cells #[v] 39)) (.slice (some ⟨w.heap.size, 0, none⟩) 1 1) [v] := RowC.one
  have c1 := hcel.step s1 (fun e => e)
  obtain ⟨W1, hW1⟩ : ∃ W1, w.alloc (.cells #[v] 39) = W1 := ⟨_, rfl⟩
  rw [hW1] at s1 z1 r1 c1 ⊢
  have s2 : StepC (fun _ => False) (colAt (fun _ => 0) 1 w.heap.size) (colAt (colAt (fun _ => 0) 1 w.heap.size) 2 W1.heap.size) W1 (W1.alloc (.cells #[.int .i64 0] 3)) := StepC.colAt s1.fresh _
  have r2 : RowC (colAt (colAt (fun _ => 0) 1 w.heap.size) 2 W1.heap.size) 2 3 (W1.alloc (.cells #[.int .i64 0] 3)) (.slice (some ⟨W1.heap.size, 0, none⟩) 1 1) [.int .i64 0] := RowC.one
  rw [z1] at r2 s2
  refine ⟨_, [v], (s0.trans (s1.mono fun _ e => e.elim)).trans (s2.mono fun _ e => e.elim), r1.step s2 (fun e => e), ⟨rfl, fun i u l' hu hl' => ?_⟩, r2⟩
  have hi := (List.getElem?_eq_some_iff.1 hu).1
  have : i = 0 := by simp at hi; omega
  subst this
  cases hu
  cases hl'
  exact ⟨c1.step s2 (fun e => e), by have := hv.2; omega⟩
end
/-- .. and the list behind a byte. -/
def MkH (w0 w : World) (lv sv : Value) (xs : List (List Int)) (r : Value) (l : List Int) : Prop := ∃ c us, MkL w0 c w lv sv xs us ∧ CelC c w r (numC l) ∧ l.length ≤ 1000000
section
variable {w0 w w' : World} {lv sv r : Value} {xs : List (List Int)} {l : List Int}
theorem MkB.behind (h : MkB w0 w lv sv xs) (hr : IntsN w.heap.size w' r l) (hb : Below w.heap.size w w') : MkH w0 w' lv sv xs r l := by
  obtain ⟨c, us, h1⟩ := h
  refine ⟨c, us, h1.under hb, ?_, hr.2⟩
  have := hr.1
  rw [show l.length = (numC l).length from (numC_len l).symm] at this
  exact this.mono fun k _ hk => h1.s0.fresh k hk
theorem MkH.under (h : MkH w0 w lv sv xs r l) (hb : Below w.heap.size w w') : MkH w0 w' lv sv xs r l := by
  obtain ⟨c, us, h1, h2, h3⟩ := h
  exact ⟨c, us, h1.under hb, h2.step (StepC.below (S := fun _ => False) h1.s0.fresh hb) (fun e => e), h3⟩
theorem MkH.met (h : MkH w0 w lv sv xs r l) : MkB w0 w lv sv xs := by
  obtain ⟨c, us, h1, _⟩ := h
  exact ⟨c, us, h1⟩
theorem MkH.ints (h : MkH w0 w lv sv xs r l) : IntsW w r l := by
  obtain ⟨c, us, _, h2, h3⟩ := h
  exact cel_ints h2 h3
end
end Go.Proofs.YtjeomlickkpebaaGreatDoor
