/-
  Rules, and one more behind: what is made of them; both appends. No call is walked here.
-/
import Derived.Test.YtkopbngnhgdfhaaDoorBe44
import Derived.Test.YtkopbngnhgdfhaaDoorBe45
import Derived.Test.YtkopbngnhgdfhaaDoorBe26
import Derived.Test.YtkopbngnhgdfhaaDoorBe38
namespace Go.Proofs.YtkopbngnhgdfhaaDoor
open Go.RowKit

theorem more_match {L : List ByteArray} {x : ByteArray} (h : makeE L = 0) (g : makeE (L ++ [x]) = 0) (s : ByteArray) (a : Int) :
    (0 ≤ (matchA (quE L) (fiE L) s a).2 → (matchA (quE L) (fiE L) s a).1 ≤ (matchA (quE (L ++ [x])) (fiE (L ++ [x])) s a).1 ∧ ((matchA (quE (L ++ [x])) (fiE (L ++ [x])) s a).1 = (matchA (quE L) (fiE L) s a).1 → (matchA (quE (L ++ [x])) (fiE (L ++ [x])) s a).2 = (matchA (quE L) (fiE L) s a).2)) ∧
    (0 ≤ (matchA (quE (L ++ [x])) (fiE (L ++ [x])) s a).2 → (matchA (quE (L ++ [x])) (fiE (L ++ [x])) s a).2 < L.length → (matchA (quE (L ++ [x])) (fiE (L ++ [x])) s a).2 = (matchA (quE L) (fiE L) s a).2 ∧ (matchA (quE (L ++ [x])) (fiE (L ++ [x])) s a).1 = (matchA (quE L) (fiE L) s a).1) := by
  unfold matchA
  by_cases ha : a < 0 ∨ (s.size : Int) < a
  · rw [if_pos ha, if_pos ha]
    exact ⟨fun h => absurd h (by decide), fun h => absurd h (by decide)⟩
  · rw [if_neg ha, if_neg ha]
    have h1 := match_ok (make_good h).1 (restR s a.toNat)
    have h2 := match_ok (make_good g).1 (restR s a.toNat)
    rw [nodes_app] at h2
    have h3 := match_more (x := (parseP x).1) h1 h2
    rw [show (nodesP L).length = L.length from List.length_map _] at h3
    exact h3
theorem fit_nil {ok : Nat → Prop} (B : Nat) (w : World) : FitW ok B w (.slice none 0 0) [] := ⟨StrsW.nil w, .inl ⟨none, rfl, fun a n c e hn => by cases e⟩⟩
/-- Both appends. -/
theorem run_more {w : World} {u : Value} {L : List ByteArray} (x : ByteArray) (h : StrsW w u L) (hl : L.length ≤ 1000) :
    ∃ v1 w1, (Builtin.append_ #[34, 34] 34 #[.slice none 0 0, u]).run Tryd.prog w = .ok v1 w1 ∧
      ∃ v2 w2, (Builtin.append_ #[34, 34] 34 #[v1, .slice (some ⟨w1.heap.size, 0, none⟩) 1 1]).run Tryd.prog (w1.alloc (.cells #[.string x] 9)) = .ok v2 w2 ∧ StrsW w2 v2 (L ++ [x]) ∧ Below w.heap.size w w2 := by
  obtain ⟨v1, w1, hr1, hf1, hb1⟩ := run_app (ok := fun _ => True) (B := w.heap.size) 34 (fit_nil _ w) (Nat.le_refl _) h (by simp only [List.length_nil]; omega)
  rw [List.nil_append] at hf1
  have hb2 := alloc_under w1 (.cells #[.string x] 9)
  have hs : StrsW (w1.alloc (.cells #[.string x] 9)) (.slice (some ⟨w1.heap.size, 0, none⟩) 1 1) [x] := strsW_of _ _ [x] (fun i y hy => cell_of_al i _ (by
    have h3 : i < 1 := (List.getElem?_eq_some_iff.1 hy).1
    obtain rfl : i = 0 := by omega
    cases hy; rfl))
  have hz := hb1.size
  have hz2 := hb2.size
  obtain ⟨v2, w2, hr2, hf2, hb3⟩ := run_app 34 (hf1.below hb2) (by omega) hs (by simp only [List.length_singleton]; omega)
  exact ⟨v1, w1, hr1, v2, w2, hr2, hf2.1, (hb1.trans (hb2.mono hb1.size)).trans (hb3.mono (Nat.le_refl _))⟩
end Go.Proofs.YtkopbngnhgdfhaaDoor
