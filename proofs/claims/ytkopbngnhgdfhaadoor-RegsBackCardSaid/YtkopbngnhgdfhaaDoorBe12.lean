/-
  Texts of this proof, one behind the other; each begins with its own remark.
-/
import Derived.Lib.Bytealg
import Derived.WalkLawsBesides
import Derived.Deep.DeepFit
import Derived.Deep.QuietTactic
import Derived.Test.YtkopbngnhgdfhaaDoorBe9
/-
  regs' reader in memory: its box; how it gives a text up. No call is walked here.
-/
namespace Go.Proofs.YtkopbngnhgdfhaaDoor
open Go.RowKit

/-- The reader's box. -/
def RdW (w : World) (R : Nat) (s : ByteArray) (i : Nat) : Prop := w.heap[R]? = some (.cells #[.string s, .int .i64 (i : Int)] 103 (0, 0))
/-- What a text is given up by. -/
def failE : Ending := .panicked [{ v := .iface 60 (.int .i64 10), recovered := false }]
section
variable {w w' : World} {R : Nat} {s : ByteArray} {i : Nat}
theorem RdW.lt (h : RdW w R s i) : R < w.heap.size := (Array.getElem?_eq_some_iff.1 h).1
theorem RdW.cells (h : RdW w R s i) : (w.cell? ⟨R, 0, none⟩ = some (.string s) ∧ w.cell? ⟨R, 1, none⟩ = some (.int .i64 (i : Int))) ∧ w.frozen? ⟨R, 0, none⟩ = false ∧ w.frozen? ⟨R, 1, none⟩ = false := by
  unfold RdW at h
  refine ⟨⟨?_, ?_⟩, ?_, ?_⟩ <;> first | (unfold World.cell?; rw [h]; rfl) | (unfold World.frozen?; rw [h]; simp)
theorem RdW.below (h : RdW w R s i) (hb : Below w.heap.size w w') : RdW w' R s i := (hb.block R h.lt).trans h
theorem RdW.keep {ok : Nat → Prop} (h : RdW w R s i) (hk : KeepW ok w w') (ho : ok R) : RdW w' R s i := (hk.same R h.lt ho).trans h
theorem RdW.set (h : RdW w R s i) (j : Nat) : RdW (w.setCell ⟨R, 1, none⟩ (.int .i64 (j : Int))) R s j := by
  unfold RdW at h ⊢
  unfold World.setCell
  simp only [Array.getElem?_modify, if_true, h, Option.map_some]
  rfl
theorem keep_rd (w : World) (R : Nat) (j : Int) : KeepW (fun k => k ≠ R) w (w.setCell ⟨R, 1, none⟩ (.int .i64 j)) := keep_set R 1 none _ w fun h => h rfl
end
/-- Where a byte stands first in a text; -1: nowhere. -/
def idxR (s : ByteArray) (c : Nat) : Int := Lib.indexByte s.data.toList (c : Int).toNat.toUInt8
theorem idx_spec : ∀ c, c < 256 → decide (0 ≤ idxR ⟨#[40, 41, 91, 93, 124, 42, 43, 63, 46, 92, 45, 94]⟩ c) = specR c := by decide +kernel
theorem idx_sign : ∀ c, c < 256 → idxR ⟨#[42, 43, 63]⟩ c = if 0 < signR c then (signR c : Int) - 4 else -1 := by decide +kernel
theorem idx_stop : ∀ c, c < 256 → decide (0 ≤ idxR ⟨#[124, 41]⟩ c) = decide (c = 124 ∨ c = 41) := by decide +kernel
theorem idx_two : ∀ c, c < 256 → decide (0 ≤ idxR ⟨#[45, 94]⟩ c) = decide (c = 45 ∨ c = 94) := by decide +kernel
/-- Is what comes one of these? -/
def seesR (s : ByteArray) (i : Nat) (t : ByteArray) : Bool := decide (i < s.size) && decide (0 ≤ idxR t (bR s i))
end Go.Proofs.YtkopbngnhgdfhaaDoor

/-
  strings.IndexByte at any text and byte; regs.isSpecial, need: what each call returns, or how it ends.
-/
namespace Go.Proofs.YtkopbngnhgdfhaaDoor
open Go.RowKit

set_option maxRecDepth 4000 in
theorem liteIdx_any (s : ByteArray) (c : Int) (w : World) :
    Calls Tryd.prog 86 #[.string s, .int .u8 c] w fun e w' => e = .returned (.int .i64 (Lib.indexByte s.data.toList c.toNat.toUInt8)) ∧ w' = w := by
  go_enter Tryd.func86, Tryd.ntmps86
  go_wp2
  rw [run_callFunc_extern Tryd.func91 (by kernel_rfl) (by kernel_rfl) (by kernel_rfl) (e := Extern.BytealgIndexByte.indexByte) (by kernel_rfl), Lib.run_indexByteString]
  simp only [Result.andThen]
  rw [Oper.upon_value]
  go_wp2
  go_ret
  exact ⟨rfl, rfl⟩
theorem strIdx_int (s : ByteArray) (c : Int) (w : World) :
    Calls Tryd.prog 81 #[.string s, .int .u8 c] w fun e w' => e = .returned (.int .i64 (Lib.indexByte s.data.toList c.toNat.toUInt8)) ∧ w' = w := by
  have H := Lib.hid (liteIdx_any s c w)
  go_enter Tryd.func81, Tryd.ntmps81
  go_wp2_with fail
  go_fit H.out
  rintro e w' ⟨rfl, rfl⟩
  go_wp2
  go_ret
  exact ⟨rfl, rfl⟩
theorem strIdx_any (s : ByteArray) (c : Nat) (w : World) :
    Calls Tryd.prog 81 #[.string s, .int .u8 (c : Int)] w fun e w' => e = .returned (.int .i64 (idxR s c)) ∧ w' = w := strIdx_int s c w
theorem pspecial_any (c : Nat) (w : World) (hc : c < 256) :
    Calls Tryd.prog 77 #[.int .u8 (c : Int)] w fun e w' => e = .returned (.bool (specR c)) ∧ w' = w := by
  have HS := Lib.hid (idx_spec c hc)
  have H := Lib.hid (strIdx_any ⟨#[40, 41, 91, 93, 124, 42, 43, 63, 46, 92, 45, 94]⟩ c w)
  obtain ⟨k, hk⟩ : ∃ k, idxR ⟨#[40, 41, 91, 93, 124, 42, 43, 63, 46, 92, 45, 94]⟩ c = k := ⟨_, rfl⟩
  rw [hk] at H HS
  clear hk
  go_enter Tryd.func77, Tryd.ntmps77
  go_wp2_with fail
  go_fit H.out
  rintro e w' ⟨rfl, rfl⟩
  go_wp2_with fail
  go_ret
  exact ⟨by rw [← HS.out]; rfl, rfl⟩
theorem pneed_yes (w : World) :
    Calls Tryd.prog 47 #[.bool true] w fun e w' => e = .returned (.tuple #[]) ∧ w' = w := by
  go_enter Tryd.func47, Tryd.ntmps47
  go_wp2
  go_end0
  exact ⟨rfl, rfl⟩
theorem pneed_no (w : World) :
    Calls Tryd.prog 47 #[.bool false] w fun e w' => e = failE ∧ w' = w := by
  go_enter Tryd.func47, Tryd.ntmps47
  go_wp2
  exact ⟨rfl, rfl, rfl⟩
end Go.Proofs.YtkopbngnhgdfhaaDoor
