/-
  Facts ahead of ParserControl's walk: a byte's text out of a block, two actions laid anew.
-/
import Derived.Test.YtbpnnnjbddjboaaDoorPsAsked
import Derived.Test.YtbpnnnjbddjboaaDoorPsPart
import Derived.Test.YtbpnnnjbddjboaaDoorPsCtlN
import Derived.Deep.RegionHeld3
namespace Go.Proofs.YtbpnnnjbddjboaaDoor
open Go.RowKit

/-- A byte's text, out of a block that is known. -/
theorem conv_cell (b k : Nat) (W : World) (h : W.cell? ⟨k, 0, none⟩ = some (.int .u8 (b : Int))) : (convert 46 9 (.slice (some ⟨k, 0, none⟩) 1 1)).run Tryd.prog W = .ok (.string (oneB b)) W :=
  run_convert_bytes_arg (P := Tryd.prog) _ 46 5 Tryd.underlying46 Tryd.underlying5 k 0 1 1 [(b : Int)] rfl
    (fun i hi => by
      obtain rfl : i = 0 := by simpa using hi
      exact h) 9 Tryd.underlying9
theorem conv_drew (b k : Nat) (W : World) (z : Value) (_ : (convert 46 9 z).run Tryd.prog W = .ok (.string (oneB b)) W) (h : W.cell? ⟨k, 0, none⟩ = some (.int .u8 (b : Int))) : (convert 46 9 (.slice (some ⟨k, 0, none⟩) 1 1)).run Tryd.prog W.drew = .ok (.string (oneB b)) W.drew := conv_cell b k W.drew h
theorem acts_drew {W : World} {v : Value} {l : List Ac} (h : ActsW AnyP W v l) : ActsW AnyP W.drew v l := h.below (Below.refl _ _).drew
theorem seq_small (x : Prt) : 3 ≤ (seqB x).size ∧ (seqB x).size ≤ 100 := by
  have h := midL_len (numsP x) (numsP_facts x).2
  have h2 := (numsP_facts x).1
  rw [seq_size]
  omega
/-- Two actions, laid anew. -/
theorem acts_two (b FN : Nat) (NS : List Nat) (v : Value) (V : World) (h : NumsW AnyP V v NS) :
    ActsW AnyP (V.alloc (.cells #[.int .i64 2, .int .i32 (b : Int), .slice none 0 0, .int .u8 0, .int .i64 3, .int .i32 0, v, .int .u8 (FN : Int)] 34)) (.slice (some ⟨V.heap.size, 0, none⟩) 2 2) [(2, b, [], 0), (3, 0, NS, FN)] := by
  have hb : Below V.heap.size V (V.alloc (.cells #[.int .i64 2, .int .i32 (b : Int), .slice none 0 0, .int .u8 0, .int .i64 3, .int .i32 0, v, .int .u8 (FN : Int)] 34)) := (Below.refl _ _).alloc (Nat.le_refl _) _
  refine ⟨[((2, b, [], 0), .slice none 0 0), ((3, 0, NS, FN), v)], rfl, ?_, fun x hx => ?_⟩
  · have := row_new (w := V) (cs := [((2, b, [], 0), .slice none 0 0), ((3, 0, NS, FN), v)].flatMap actC) (zs := []) (n := 2) (cap := 2) (e := 34) (Nat.le_refl _)
    rw [List.append_nil] at this
    exact RowV.any this fun _ _ => trivial
  · simp only [List.mem_cons, List.not_mem_nil, or_false] at hx
    rcases hx with (rfl | rfl)
    · exact NumsW.nil _ _
    · exact h.keep (keep_below _ hb)

end Go.Proofs.YtbpnnnjbddjboaaDoor
