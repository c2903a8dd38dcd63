/-
  Plain facts: how many cells a rune's own bytes take, and two texts of which the first is Valid. Nothing of the program is run here.
-/
import Derived.Test.YtafeieggohlaiaaDoorTextN
import Derived.Test.YtafeieggohlaiaaDoorJoin
namespace Go.Proofs.YtafeieggohlaiaaDoor
open Go.RowKit

theorem txN_put (r : Int) (hv : Lib.validRune r = true) : txN (putB r) = ofN (shI r) ∧ (putB r).toList.isEmpty = false ∧ (putB r).size ≤ 4 := by
  have h0 : 0 ≤ r ∧ r < 55296 ∨ 57343 < r ∧ r ≤ 1114111 := of_decide_eq_true hv
  obtain ⟨R, rfl⟩ := Int.eq_ofNat_of_zero_le (a := r) (by omega)
  obtain ⟨d1, d2, d3, _, _⟩ := dec_put R (by omega)
  refine ⟨?_, by rw [put_none, hv]; rfl, d3⟩
  generalize putB (R : Int) = P at *
  unfold txN stA
  obtain ⟨m, hm⟩ : ∃ m, P.size = m + 1 := ⟨P.size - 1, by omega⟩
  have hs : stL P P.size 0 = [0] := by
    rw [hm, stL_step P m 0 (by omega), stL_end P m _ (by rw [d1]; show ¬ 0 + P.size < P.size; omega)]
  rw [hs, txL, d1]
  show ofN (shI (R : Int)) + txL P [] = _
  rw [txL]; rfl

theorem txL_append (s : ByteArray) : ∀ l m, txL s (l ++ m) = txL s l + txL s m
  | [], m => by simp [txL]
  | p :: l, m => by
    show ofN _ + txL s (l ++ m) = ofN _ + txL s l + txL s m
    rw [txL_append s l m, Nat.add_assoc]
theorem txL_congr (s t : ByteArray) (f : Nat → Nat) : ∀ l, (∀ x ∈ l, Utf8.decode s (f x) = Utf8.decode t x) → txL s (l.map f) = txL t l
  | [], _ => rfl
  | p :: l, h => by
    show ofN (shI ((Utf8.decode s (f p)).1 : Int)) + txL s (l.map f) = ofN (shI ((Utf8.decode t p).1 : Int)) + txL t l
    rw [h p (by simp), txL_congr s t f l (fun x hx => h x (by simp [hx]))]

theorem txN_join (a b : ByteArray) (ha : allOk a (stA a) = true) : txN (a ++ b) = txN a + txN b := by
  have hx : ∀ x ∈ stA a, Utf8.decode (a ++ b) x = Utf8.decode a x := fun x hx => dec_appL a b x (stL_lt' a _ _ x hx) (okAt_ne a x (List.all_eq_true.1 ha x hx))
  unfold txN
  rw [stA_join a b hx, txL_append]
  congr 1
  · have := txL_congr (a ++ b) a id (stA a) (fun x h => hx x h)
    rwa [List.map_id] at this
  · exact txL_congr (a ++ b) b _ (stA b) (fun x _ => dec_appR a b x)
end Go.Proofs.YtafeieggohlaiaaDoor
