/-
  Two keys held against each other: what '!=' comes to. No call is walked here.
-/
import Derived.Test.YtdnldfgolbcjiaaDoorKyW
import Derived.Laws.StructEq
namespace Go.Proofs.YtdnldfgolbcjiaaDoor
open Go.RowKit

theorem Tryd.fieldsKey : Tryd.prog.underlying 40 = some (.struct (Tryd.prog.fieldsOf 40)) := by kernel_rfl
theorem Tryd.heldKey : Tryd.prog.stoodInHeld 40 = false := by kernel_rfl
theorem eqF_step (d : Nat) (xs ys : Array Value) (nm : String) (T : TypeId) (o : Nat) (em : Bool) (tg pk : String) (bo : Nat) (fs : List Field) (x y : Value) (r : Bool) (w : World) (hn : nm ≠ "_") (hx : (part T xs o).run Tryd.prog w = .ok x w) (hy : (part T ys o).run Tryd.prog w = .ok y w) (hr : (Op.equalIn d T x y).run Tryd.prog w = .ok r w) :
    (Op.eqFields d xs ys ({ name := nm, type := T, offset := o, embedded := em, tag := tg, pkgPath := pk, byteOffset := bo } :: fs)).run Tryd.prog w = if r = true then (Op.eqFields d xs ys fs).run Tryd.prog w else .ok false w := by
  rw [Op.eqFields, if_pos hn]
  simp only [Sem.run_bind, hx, hy, hr, Result.andThen_ok]
  cases r
  · simp only [Bool.not_false, if_true, Sem.run_pure]; rfl
  · simp only [Bool.not_true, Bool.false_eq_true, if_false, if_true]
theorem part_int (xs : Array Value) (o : Nat) (x : Value) (w : World) (h : xs[o]? = some x) : (part 3 xs o).run Tryd.prog w = .ok x w := by
  unfold part
  simp only [Sem.run_bind, Tryd.isAgg3, Result.andThen_ok]
  simp [h]
theorem part_rune (xs : Array Value) (o : Nat) (x : Value) (w : World) (h : xs[o]? = some x) : (part 21 xs o).run Tryd.prog w = .ok x w := by
  unfold part
  simp only [Sem.run_bind, Tryd.isAgg21, Result.andThen_ok]
  simp [h]
theorem part_str (xs : Array Value) (o : Nat) (x : Value) (w : World) (h : xs[o]? = some x) : (part 9 xs o).run Tryd.prog w = .ok x w := by
  unfold part
  simp only [Sem.run_bind, Tryd.isAgg9, Result.andThen_ok]
  simp [h]
theorem key_fields : (Tryd.prog.fieldsOf 40).toList = [{ name := "Kind", type := 3, offset := 0, embedded := false, tag := "", pkgPath := "", byteOffset := 0 }, { name := "R", type := 21, offset := 1, embedded := false, tag := "", pkgPath := "", byteOffset := 8 }, { name := "Text", type := 9, offset := 2, embedded := false, tag := "", pkgPath := "", byteOffset := 16 }] := by
  unfold Program.fieldsOf
  rw [Tryd.underlying40]
theorem str_beq (s t : ByteArray) : (s.toList == t.toList) = decide (s = t) := by
  by_cases h : s = t
  · subst h; simp
  · have : s.toList ≠ t.toList := fun e => h (by
      rw [Lib.toList_data, Lib.toList_data] at e
      exact ByteArray.ext (Array.toList_inj.1 e))
    rw [decide_eq_false h]
    exact beq_eq_false_iff_ne.2 this
theorem key_eqIn (n : Nat) (a b : Ke) (w : World) : (Op.equalIn (n + 2) 40 (.agg #[.int .i64 (a.1 : Int), .int .i32 (a.2.1 : Int), .string a.2.2]) (.agg #[.int .i64 (b.1 : Int), .int .i32 (b.2.1 : Int), .string b.2.2])).run Tryd.prog w = .ok (decide (a = b)) w := by
  rw [run_equalIn_agg _ _ _ _ _ Tryd.fieldsKey Tryd.heldKey, key_fields]
  rw [eqF_step _ _ _ _ _ _ _ _ _ _ _ _ _ _ _ (by decide) (part_int _ 0 _ w rfl) (part_int _ 0 _ w rfl) (run_equalIn_int w n 3 .i64 .i64 (a.1 : Int) (b.1 : Int) Tryd.underlying3)]
  rw [eqF_step _ _ _ _ _ _ _ _ _ _ _ _ _ _ _ (by decide) (part_rune _ 1 _ w rfl) (part_rune _ 1 _ w rfl) (run_equalIn_int w n 21 .i32 .i32 (a.2.1 : Int) (b.2.1 : Int) Tryd.underlying21)]
  rw [eqF_step _ _ _ _ _ _ _ _ _ _ _ _ _ _ _ (by decide) (part_str _ 2 _ w rfl) (part_str _ 2 _ w rfl) (run_equalIn_string w n 9 a.2.2 b.2.2 Tryd.underlying9)]
  unfold Op.eqFields
  obtain ⟨a1, a2, a3⟩ := a
  obtain ⟨b1, b2, b3⟩ := b
  simp only [str_beq]
  by_cases h1 : a1 = b1 <;> by_cases h2 : a2 = b2 <;> by_cases h3 : a3 = b3 <;> simp [h1, h2, h3, Sem.run_pure] <;> omega
theorem key_eqIn' (d : Nat) (hd : 2 ≤ d) (a b : Ke) (w : World) : (Op.equalIn d 40 (.agg #[.int .i64 (a.1 : Int), .int .i32 (a.2.1 : Int), .string a.2.2]) (.agg #[.int .i64 (b.1 : Int), .int .i32 (b.2.1 : Int), .string b.2.2])).run Tryd.prog w = .ok (decide (a = b)) w := by
  obtain ⟨n, rfl⟩ : ∃ n, d = n + 2 := ⟨d - 2, by omega⟩
  exact key_eqIn n a b w
theorem key_neq (a b : Ke) (w : World) : (binOp .neq 40 (.agg #[.int .i64 (a.1 : Int), .int .i32 (a.2.1 : Int), .string a.2.2]) (.agg #[.int .i64 (b.1 : Int), .int .i32 (b.2.1 : Int), .string b.2.2])).run Tryd.prog w = .ok (.bool (!decide (a = b))) w := by
  rw [run_neq_struct, key_eqIn' 10000 (by decide)]; rfl
end Go.Proofs.YtdnldfgolbcjiaaDoor
