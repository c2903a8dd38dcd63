/-
  Plain facts on the other reckoning of a sequence: the numbers so far, all bytes of it kept. And one number of a row of the call's own that is written anew.
-/
import Derived.Test.YtbpnnnjbddjboaaDoorPsParams
namespace Go.Proofs.YtbpnnnjbddjboaaDoor
open Go.RowKit

/-- The bytes of a sequence, one by one, as the program keeps them. -/
def sqN : Ps → UInt8 → Ps
  | .seq pre x, u => stepN pre x u.toNat
  | p, _ => p
def partsN (l : List UInt8) : Ps := l.foldl sqN (.seq [] none)
/-- The same with all numbers so far: those ahead, the last one; none where a byte is neither. -/
def qStep (q : Option (List Nat × Nat)) (u : UInt8) : Option (List Nat × Nat) :=
  match q with
  | none => none
  | some (f, l) => if u.toNat = 59 then some (f ++ [l], 0) else if 48 ≤ u.toNat ∧ u.toNat ≤ 57 then some (f, capN l (u.toNat - 48)) else none
def qL (l : List UInt8) : Option (List Nat × Nat) := l.foldl qStep (some ([], 0))
theorem qL_snoc (l : List UInt8) (u : UInt8) : qL (l ++ [u]) = qStep (qL l) u := by unfold qL; rw [List.foldl_append]; rfl
theorem partsN_snoc (l : List UInt8) (u : UInt8) : partsN (l ++ [u]) = sqN (partsN l) u := by unfold partsN; rw [List.foldl_append]; rfl

def RelQ (q : Option (List Nat × Nat)) (p : Ps) : Prop :=
  match q, p with
  | none, .bad => True
  | some (f, l), .seq pre x => f = pre.map (fun y => y.getD 0) ∧ l = x.getD 0 ∧ pre.length ≤ 15
  | some (f, _), .bad => 16 ≤ f.length
  | _, _ => False
theorem relQ_step (q : Option (List Nat × Nat)) (p : Ps) (u : UInt8) (h : RelQ q p) : RelQ (qStep q u) (sqN p u) := by
  rcases q with _ | ⟨f, l⟩
  · cases p <;> first | exact h | exact False.elim h
  · cases p with
    | seq pre x =>
      obtain ⟨rfl, rfl, h3⟩ := h
      unfold qStep sqN stepN
      dsimp only
      by_cases h59 : u.toNat = 59
      · rw [if_pos h59]
        by_cases h15 : pre.length < 15
        · rw [if_pos ⟨h59, h15⟩]
          exact ⟨by rw [List.map_append]; rfl, rfl, by rw [List.length_append]; show _ + 1 ≤ _; omega⟩
        · rw [if_neg (fun k => h15 k.2), if_neg (by omega)]
          show 16 ≤ _
          rw [List.length_append, List.length_map]
          show 16 ≤ _ + 1
          omega
      · rw [if_neg h59, if_neg (show ¬ (u.toNat = 59 ∧ pre.length < 15) from fun k => h59 k.1)]
        by_cases hd : 48 ≤ u.toNat ∧ u.toNat ≤ 57
        · rw [if_pos hd, if_pos hd]
          exact ⟨rfl, rfl, h3⟩
        · rw [if_neg hd, if_neg hd]
          exact trivial
    | bad =>
      have h : 16 ≤ f.length := h
      unfold qStep sqN
      dsimp only
      split
      · show 16 ≤ _
        rw [List.length_append]
        omega
      · split
        · exact h
        · exact trivial
    | zero => exact False.elim h
    | start s => exact False.elim h
    | esc => exact False.elim h
theorem relQ_fold : ∀ (l : List UInt8) (q : Option (List Nat × Nat)) (p : Ps), RelQ q p → RelQ (l.foldl qStep q) (l.foldl sqN p)
  | [], _, _, h => h
  | u :: l, q, p, h => relQ_fold l (qStep q u) (sqN p u) (relQ_step q p u h)
theorem relQ_all (l : List UInt8) : RelQ (qL l) (partsN l) := relQ_fold l _ _ ⟨rfl, rfl, Nat.zero_le _⟩

/-- What a sequence's bytes come to. -/
def refPar (l : List UInt8) : List Nat × Bool :=
  if l = [] then ([], true) else match qL l with
    | none => ([], false)
    | some (f, x) => if 16 < f.length + 1 then ([], false) else (f ++ [x], true)
theorem step_some (pre : List (Option Nat)) (x : Option Nat) (b : Nat) (q : List (Option Nat)) (y : Option Nat) (h : stepN pre x b = .seq q y) : ¬ (q = [] ∧ y = none) := by
  unfold stepN at h
  split at h
  · cases h
    intro k
    exact absurd k.1 (by simp)
  · split at h
    · cases h
      intro k
      cases k.2
    · cases h
theorem parts_some (l : List UInt8) (h : l ≠ []) (q : List (Option Nat)) (y : Option Nat) (he : partsN l = .seq q y) : ¬ (q = [] ∧ y = none) := by
  rcases List.eq_nil_or_concat l with rfl | ⟨r, u, rfl⟩
  · exact absurd rfl h
  · rw [List.concat_eq_append, partsN_snoc] at he
    cases hp : partsN r with
    | seq pre x => rw [hp] at he; exact step_some pre x _ q y he
    | zero => rw [hp] at he; cases he
    | start s => rw [hp] at he; cases he
    | esc => rw [hp] at he; cases he
    | bad => rw [hp] at he; cases he
theorem refPar_seq (l : List UInt8) (pre : List (Option Nat)) (x : Option Nat) (h : partsN l = .seq pre x) : refPar l = (paramsN pre x, true) := by
  by_cases h0 : l = []
  · subst h0
    cases h
    rfl
  · have hr := relQ_all l
    have hs := parts_some l h0 pre x h
    unfold refPar
    rw [if_neg h0]
    rw [h] at hr
    rcases hq : qL l with _ | ⟨f, z⟩
    · rw [hq] at hr; exact False.elim hr
    · rw [hq] at hr
      obtain ⟨rfl, rfl, h3⟩ := hr
      dsimp only
      rw [if_neg (by rw [List.length_map]; omega)]
      unfold paramsN nums
      rw [if_neg hs, List.map_append]
      rfl
theorem refPar_bad (l : List UInt8) (h : partsN l = .bad) : refPar l = ([], false) := by
  have h0 : l ≠ [] := by rintro rfl; cases h
  have hr := relQ_all l
  unfold refPar
  rw [if_neg h0]
  rw [h] at hr
  rcases hq : qL l with _ | ⟨f, z⟩
  · rfl
  · rw [hq] at hr
    have hr : 16 ≤ f.length := hr
    dsimp only
    rw [if_pos (by omega)]

/-- One number of a row of the call's own, written anew. -/
theorem own_set {w : World} {B e g n cap i : Nat} {xs : List Value} (u : Value) (h : w.ownsRow B e 1 (.slice (some ⟨g, 0, none⟩) n cap) n xs) (hi : i < n) : (w.setCell ⟨g, i, none⟩ u).ownsRow B e 1 (.slice (some ⟨g, 0, none⟩) n cap) n (xs.set i u) := by
  obtain ⟨hl, h2⟩ := h
  refine ⟨by rw [List.length_set]; exact hl, .inr ?_⟩
  rcases h2 with ⟨h2, _⟩ | ⟨g', cap', cur, he, hB, hg, hn, hc, hs, ht⟩
  · cases h2
  · cases he
    refine ⟨g, cap, cur.setIfInBounds i u, rfl, hB, ?_, hn, hc, by rw [Array.size_setIfInBounds]; exact hs, ?_⟩
    · show (w.heap.modify g _)[g]? = _
      have hlt := (Array.getElem?_eq_some_iff.1 hg).1
      obtain ⟨_, he⟩ := Array.getElem?_eq_some_iff.1 hg
      rw [Array.getElem?_eq_getElem (by rw [Array.size_modify]; exact hlt), Array.getElem_modify_self, he]
      rfl
    · rw [Nat.mul_one] at ht ⊢
      rw [← ht]
      apply List.ext_getElem?
      intro j
      rw [List.getElem?_take, List.getElem?_set, List.getElem?_take]
      by_cases hj : j < n
      · rw [if_pos hj, if_pos hj, Array.getElem?_toList, Array.getElem?_setIfInBounds]
        by_cases hij : i = j
        · subst hij
          rw [if_pos rfl, if_pos rfl]
          have : i < cur.size := by omega
          rw [List.length_take, Array.length_toList, if_pos this, if_pos (by omega)]
        · rw [if_neg hij, if_neg hij, Array.getElem?_toList]
      · rw [if_neg hj, if_neg hj, if_neg (by omega)]
theorem own_frozen {w : World} {B e size g n cap i : Nat} {xs : List Value} (h : w.ownsRow B e size (.slice (some ⟨g, 0, none⟩) n cap) n xs) : w.frozen? ⟨g, i, none⟩ = false := by
  rcases h.2 with ⟨h2, _⟩ | ⟨g', cap', cur, he, hB, hg, hn, hc, hs, ht⟩
  · cases h2
  · cases he
    unfold World.frozen?
    rw [hg]
    simp
end Go.Proofs.YtbpnnnjbddjboaaDoor
