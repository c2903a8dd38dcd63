/-
  Texts of this proof, one behind the other; each begins with its own remark.
-/
import Derived.Shelf.Strings.BuilderF
import Derived.Test.YtdnldfgolbcjiaaDoorProg
import Derived.Shelf.Strings.BuilderK
import Derived.Laws.StructEq
import Derived.Test.YtdnldfgolbcjiaaDoorBe9
import Derived.Test.YtdnldfgolbcjiaaDoorBe21
/-
  strings: WriteString, String: each contract is one application of the library's own theorem at this seat's program.
-/
namespace Go.Proofs
open Go.Shelf
def Tryd.lays169_ren : Go.Shelf.Ren := ⟨fun | 169 => 57 | n => n, fun | 70 => 79 | 9 => 9 | 0 => 0 | 72 => 81 | 37 => 28 | 127 => 94 | 3 => 3 | 5 => 5 | n => n, fun | n => n⟩
theorem Tryd.lays169 : Go.Proofs.Lays.n169 Tryd.prog Tryd.lays169_ren := {
  mixed := by kernel_rfl
  f169 := Tryd.func57.trans (congrArg some (by kernel_rfl))
  t0 := Tryd.underlying0
  a0 := Tryd.isAgg0
  z0 := Tryd.sizeOf0
  v0 := Tryd.zeroValue0
  t3 := Tryd.underlying3
  a3 := Tryd.isAgg3
  z3 := Tryd.sizeOf3
  v3 := Tryd.zeroValue3
  t9 := Tryd.underlying9
  a9 := Tryd.isAgg9
  z9 := Tryd.sizeOf9
  v9 := Tryd.zeroValue9
  t37 := Tryd.underlying28
  a37 := Tryd.isAgg28
  z37 := Tryd.sizeOf28
  v37 := Tryd.zeroValue28
  t70 := Tryd.underlying79
  a70 := Tryd.isAgg79
  z70 := Tryd.sizeOf79
  v70 := Tryd.zeroValue79
  t72 := Tryd.underlying81
  a72 := Tryd.isAgg81
  z72 := Tryd.sizeOf81
  v72 := Tryd.zeroValue81
  t127 := Tryd.underlying94
  a127 := Tryd.isAgg94
  z127 := Tryd.sizeOf94
  v127 := Tryd.zeroValue94 }
theorem Tryd.Builder_Extra_169 : Builder.Extra Tryd.prog Tryd.lays169_ren := {
  sizeBuilder := by kernel_rfl
  liesBuilder := by kernel_rfl
  t5 := Tryd.underlying5
  a5 := Tryd.isAgg5
  z5 := Tryd.sizeOf5
  v5 := Tryd.zeroValue5
  infoByte := by kernel_rfl
  cellsByte := by kernel_rfl
  sizeByte := by kernel_rfl
  neB5 := by decide }
open Go.RowKit in
theorem Tryd.Builder_String_any_f (B b : Nat) (l : List UInt8) (w : World) (h : Lib.IsBuilderF 81 5 B b (Lib.byteCells l) w) (hBw : B ≤ w.heap.size) :
    Calls Tryd.prog 57 #[.pointer (some ⟨b, 0, none⟩)] w fun e w' => e = .returned (.string ⟨l.toArray⟩) ∧ (Lib.IsBuilderF 81 5 B b (Lib.byteCells l) w' ∧ Below B w w') := Any.Builder_String_any_f Tryd.lays169 Tryd.Builder_Extra_169 B b l w h hBw
def Tryd.lays166_ren : Go.Shelf.Ren := ⟨fun | 166 => 56 | 240 => 65 | 276 => 69 | n => n, fun | 0 => 0 | 3 => 3 | 4 => 4 | 5 => 5 | 9 => 9 | 20 => 20 | 37 => 28 | 70 => 79 | 72 => 81 | 75 => 83 | 80 => 87 | 164 => 95 | n => n, fun | n => n⟩
theorem Tryd.lays166 : Go.Proofs.Lays.n166 Tryd.prog Tryd.lays166_ren := {
  mixed := by kernel_rfl
  f166 := Tryd.func56.trans (congrArg some (by kernel_rfl))
  f240 := Tryd.func65.trans (congrArg some (by kernel_rfl))
  f276 := Tryd.func69.trans (congrArg some (by kernel_rfl))
  t0 := Tryd.underlying0
  a0 := Tryd.isAgg0
  z0 := Tryd.sizeOf0
  v0 := Tryd.zeroValue0
  t3 := Tryd.underlying3
  a3 := Tryd.isAgg3
  z3 := Tryd.sizeOf3
  v3 := Tryd.zeroValue3
  t4 := Tryd.underlying4
  a4 := Tryd.isAgg4
  z4 := Tryd.sizeOf4
  v4 := Tryd.zeroValue4
  t9 := Tryd.underlying9
  a9 := Tryd.isAgg9
  z9 := Tryd.sizeOf9
  v9 := Tryd.zeroValue9
  t20 := Tryd.underlying20
  a20 := Tryd.isAgg20
  z20 := Tryd.sizeOf20
  v20 := Tryd.zeroValue20
  t37 := Tryd.underlying28
  a37 := Tryd.isAgg28
  z37 := Tryd.sizeOf28
  v37 := Tryd.zeroValue28
  t70 := Tryd.underlying79
  a70 := Tryd.isAgg79
  z70 := Tryd.sizeOf79
  v70 := Tryd.zeroValue79
  t72 := Tryd.underlying81
  a72 := Tryd.isAgg81
  z72 := Tryd.sizeOf81
  v72 := Tryd.zeroValue81
  t75 := Tryd.underlying83
  a75 := Tryd.isAgg83
  z75 := Tryd.sizeOf83
  v75 := Tryd.zeroValue83
  t164 := Tryd.underlying95
  a164 := Tryd.isAgg95
  z164 := Tryd.sizeOf95
  v164 := Tryd.zeroValue95 }
theorem Tryd.Builder_Extra_166 : Builder.Extra Tryd.prog Tryd.lays166_ren := {
  sizeBuilder := by kernel_rfl
  liesBuilder := by kernel_rfl
  t5 := Tryd.underlying5
  a5 := Tryd.isAgg5
  z5 := Tryd.sizeOf5
  v5 := Tryd.zeroValue5
  infoByte := by kernel_rfl
  cellsByte := by kernel_rfl
  sizeByte := by kernel_rfl
  neB5 := by decide }
open Go.RowKit in
theorem Tryd.Builder_WriteString_f (B b : Nat) (bs : List Value) (s : ByteArray) (w : World) (h : Lib.IsBuilderF 81 5 B b bs w) (hlen : bs.length + s.size ≤ 140737488355328) (hBw : B ≤ w.heap.size) :
    Calls Tryd.prog 56 #[.pointer (some ⟨b, 0, none⟩), .string s] w fun e w' => e = .returned (.tuple #[.int .i64 s.size, .nilIface]) ∧ (Lib.BuilderAtF 81 5 B b (.pointer (some ⟨b, 0, none⟩)) (bs ++ Lib.strCells s) w' ∧ Below B w w') := Any.Builder_WriteString_f Tryd.lays166 Tryd.Builder_Extra_166 B b bs s w h hlen hBw
end Go.Proofs

/-
  strings: WriteByte at any Builder: the contract is one application of the library's own theorem at this seat's program.
-/
namespace Go.Proofs
open Go.Shelf
def Tryd.lays167_ren : Go.Shelf.Ren := ⟨fun | 167 => 54 | 240 => 65 | 276 => 69 | n => n, fun | 0 => 0 | 4 => 4 | 5 => 5 | 9 => 9 | 20 => 20 | 37 => 28 | 70 => 79 | 72 => 81 | 75 => 83 | 80 => 87 | 164 => 95 | n => n, fun | n => n⟩
theorem Tryd.lays167 : Go.Proofs.Lays.n167 Tryd.prog Tryd.lays167_ren := {
  mixed := by kernel_rfl
  f167 := Tryd.func54.trans (congrArg some (by kernel_rfl))
  f240 := Tryd.func65.trans (congrArg some (by kernel_rfl))
  f276 := Tryd.func69.trans (congrArg some (by kernel_rfl))
  t0 := Tryd.underlying0
  a0 := Tryd.isAgg0
  z0 := Tryd.sizeOf0
  v0 := Tryd.zeroValue0
  t4 := Tryd.underlying4
  a4 := Tryd.isAgg4
  z4 := Tryd.sizeOf4
  v4 := Tryd.zeroValue4
  t5 := Tryd.underlying5
  a5 := Tryd.isAgg5
  z5 := Tryd.sizeOf5
  v5 := Tryd.zeroValue5
  t9 := Tryd.underlying9
  a9 := Tryd.isAgg9
  z9 := Tryd.sizeOf9
  v9 := Tryd.zeroValue9
  t20 := Tryd.underlying20
  a20 := Tryd.isAgg20
  z20 := Tryd.sizeOf20
  v20 := Tryd.zeroValue20
  t37 := Tryd.underlying28
  a37 := Tryd.isAgg28
  z37 := Tryd.sizeOf28
  v37 := Tryd.zeroValue28
  t70 := Tryd.underlying79
  a70 := Tryd.isAgg79
  z70 := Tryd.sizeOf79
  v70 := Tryd.zeroValue79
  t72 := Tryd.underlying81
  a72 := Tryd.isAgg81
  z72 := Tryd.sizeOf81
  v72 := Tryd.zeroValue81
  t75 := Tryd.underlying83
  a75 := Tryd.isAgg83
  z75 := Tryd.sizeOf83
  v75 := Tryd.zeroValue83
  t164 := Tryd.underlying95
  a164 := Tryd.isAgg95
  z164 := Tryd.sizeOf95
  v164 := Tryd.zeroValue95 }
theorem Tryd.Builder_Extra_167 : Builder.Extra Tryd.prog Tryd.lays167_ren := {
  sizeBuilder := by kernel_rfl
  liesBuilder := by kernel_rfl
  t5 := Tryd.underlying5
  a5 := Tryd.isAgg5
  z5 := Tryd.sizeOf5
  v5 := Tryd.zeroValue5
  infoByte := by kernel_rfl
  cellsByte := by kernel_rfl
  sizeByte := by kernel_rfl
  neB5 := by decide }
open Go.RowKit in
theorem Tryd.Builder_WriteByte_k (B b : Nat) (bs : List Value) (c : Int) (w : World) (h : Lib.IsBuilderF 81 5 B b bs w) (hlen : bs.length + 1 ≤ 140737488355328) (hBw : B ≤ w.heap.size) :
    Calls Tryd.prog 54 #[.pointer (some ⟨b, 0, none⟩), .int .u8 c] w fun e w' => e = .returned .nilIface ∧ (Lib.BuilderAtF 81 5 B b (.pointer (some ⟨b, 0, none⟩)) (bs ++ [.int .u8 c]) w' ∧ Below B w w' ∧ Lib.OthersKept 5 (some b) w w') := Any.Builder_WriteByte_k Tryd.lays167 Tryd.Builder_Extra_167 B b bs c w h hlen hBw
end Go.Proofs

/-
  Two keys held against each other: what '!=' comes to. No call is walked here.
-/
namespace Go.Proofs.YtdnldfgolbcjiaaDoor
open Go.RowKit

theorem Tryd.fieldsKey : Tryd.prog.underlying 40 = some (.struct (Tryd.prog.fieldsOf 40)) := by kernel_rfl
theorem Tryd.heldKey : Tryd.prog.stoodInHeld 40 = false := by kernel_rfl
theorem eqF_step (d : Nat) (xs ys : Array Value) (nm : String) (T : TypeId) (o : Nat) (em : Bool) (tg pk : String) (bo : Nat) (fs : List Field) (x y : Value) (r : Bool) (w : World) (hn : nm ≠ "_") (hx : (part T xs o).run Tryd.prog w = .ok x w) (hy : (part T ys o).run Tryd.prog w = .ok y w) (hr : (Op.equalIn d T x y).run Tryd.prog w = .ok r w) :
    (Op.eqFields d xs ys ({ name := nm, type := T, offset := o, embedded := em, tag := tg, pkgPath := pk, byteOffset := bo } :: fs)).run Tryd.prog w = if r = true then (Op.eqFields d xs ys fs).run Tryd.prog w else .ok false w := by
  rw [Op.eqFields, if_pos hn]
  simp only [Sem.run_bind, hx, hy, hr, Result.andThen_ok]
  cases r
  · simp only [Bool.not_false, if_true, Sem.run_pure]; rfl
  · simp only [Bool.not_true, Bool.false_eq_true, if_false, if_true]
theorem part_int (xs : Array Value) (o : Nat) (x : Value) (w : World) (h : xs[o]? = some x) : (part 3 xs o).run Tryd.prog w = .ok x w := by
  unfold part
  simp only [Sem.run_bind, Tryd.isAgg3, Result.andThen_ok]
  simp [h]
theorem part_rune (xs : Array Value) (o : Nat) (x : Value) (w : World) (h : xs[o]? = some x) : (part 21 xs o).run Tryd.prog w = .ok x w := by
  unfold part
  simp only [Sem.run_bind, Tryd.isAgg21, Result.andThen_ok]
  simp [h]
theorem part_str (xs : Array Value) (o : Nat) (x : Value) (w : World) (h : xs[o]? = some x) : (part 9 xs o).run Tryd.prog w = .ok x w := by
  unfold part
  simp only [Sem.run_bind, Tryd.isAgg9, Result.andThen_ok]
  simp [h]
theorem key_fields : (Tryd.prog.fieldsOf 40).toList = [{ name := "Kind", type := 3, offset := 0, embedded := false, tag := "", pkgPath := "", byteOffset := 0 }, { name := "R", type := 21, offset := 1, embedded := false, tag := "", pkgPath := "", byteOffset := 8 }, { name := "Text", type := 9, offset := 2, embedded := false, tag := "", pkgPath := "", byteOffset := 16 }] := by
  unfold Program.fieldsOf
  rw [Tryd.underlying40]
theorem str_beq (s t : ByteArray) : (s.toList == t.toList) = decide (s = t) := by
  by_cases h : s = t
  · subst h; simp
  · have : s.toList ≠ t.toList := fun e => h (by
      rw [Lib.toList_data, Lib.toList_data] at e
      exact ByteArray.ext (Array.toList_inj.1 e))
    rw [decide_eq_false h]
    exact beq_eq_false_iff_ne.2 this
theorem key_eqIn (n : Nat) (a b : Ke) (w : World) : (Op.equalIn (n + 2) 40 (.agg #[.int .i64 (a.1 : Int), .int .i32 (a.2.1 : Int), .string a.2.2]) (.agg #[.int .i64 (b.1 : Int), .int .i32 (b.2.1 : Int), .string b.2.2])).run Tryd.prog w = .ok (decide (a = b)) w := by
  rw [run_equalIn_agg _ _ _ _ _ Tryd.fieldsKey Tryd.heldKey, key_fields]
  rw [eqF_step _ _ _ _ _ _ _ _ _ _ _ _ _ _ _ (by decide) (part_int _ 0 _ w rfl) (part_int _ 0 _ w rfl) (run_equalIn_int w n 3 .i64 .i64 (a.1 : Int) (b.1 : Int) Tryd.underlying3)]
  rw [eqF_step _ _ _ _ _ _ _ _ _ _ _ _ _ _ _ (by decide) (part_rune _ 1 _ w rfl) (part_rune _ 1 _ w rfl) (run_equalIn_int w n 21 .i32 .i32 (a.2.1 : Int) (b.2.1 : Int) Tryd.underlying21)]
  rw [eqF_step _ _ _ _ _ _ _ _ _ _ _ _ _ _ _ (by decide) (part_str _ 2 _ w rfl) (part_str _ 2 _ w rfl) (run_equalIn_string w n 9 a.2.2 b.2.2 Tryd.underlying9)]
  unfold Op.eqFields
  obtain ⟨a1, a2, a3⟩ := a
  obtain ⟨b1, b2, b3⟩ := b
  simp only [str_beq]
  by_cases h1 : a1 = b1 <;> by_cases h2 : a2 = b2 <;> by_cases h3 : a3 = b3 <;> simp [h1, h2, h3, Sem.run_pure] <;> omega
theorem key_eqIn' (d : Nat) (hd : 2 ≤ d) (a b : Ke) (w : World) : (Op.equalIn d 40 (.agg #[.int .i64 (a.1 : Int), .int .i32 (a.2.1 : Int), .string a.2.2]) (.agg #[.int .i64 (b.1 : Int), .int .i32 (b.2.1 : Int), .string b.2.2])).run Tryd.prog w = .ok (decide (a = b)) w := by
  obtain ⟨n, rfl⟩ : ∃ n, d = n + 2 := ⟨d - 2, by omega⟩
  exact key_eqIn n a b w
theorem key_neq (a b : Ke) (w : World) : (binOp .neq 40 (.agg #[.int .i64 (a.1 : Int), .int .i32 (a.2.1 : Int), .string a.2.2]) (.agg #[.int .i64 (b.1 : Int), .int .i32 (b.2.1 : Int), .string b.2.2])).run Tryd.prog w = .ok (.bool (!decide (a = b))) w := by
  rw [run_neq_struct, key_eqIn' 10000 (by decide)]; rfl
end Go.Proofs.YtdnldfgolbcjiaaDoor

/-
  Plain facts: what is pasted, byte by byte up to the first end of a paste, is one key. Nothing of the program.
-/
namespace Go.Proofs.YtdnldfgolbcjiaaDoor
open Go.RowKit

/-- The bytes of t in [a, a + 6) are an end of a paste. -/
def endAt (t : ByteArray) (a : Nat) : Prop := t.extract a (a + 6) = endP
theorem ext_list (s : ByteArray) (a b : Nat) : (s.extract a b).data.toList = (s.data.toList.take b).drop a := by
  rw [ByteArray.data_extract, Array.toList_extract, List.extract_eq_take_drop, List.drop_take]
theorem ext_snoc (t : ByteArray) (i : Nat) (h : i < t.size) : t.extract 0 i ++ oneS (bt t i) = t.extract 0 (i + 1) := by
  refine ba_eq.2 ?_
  have hl : i < t.data.toList.length := by rw [← Lib.size_eq]; exact h
  rw [app_data, ext_list, ext_list, List.drop_zero, List.drop_zero, List.take_succ_eq_append_getElem hl, bt_data, List.getD, List.getElem?_eq_getElem hl]
  show List.map UInt8.toNat (t.data.toList.take i ++ [UInt8.ofNat (t.data.toList[i]).toNat]) = _
  rw [UInt8.ofNat_toNat]
theorem ext_tail (t : ByteArray) (i : Nat) : tailB (t.extract 0 i) (i - 6) = t.extract (i - 6) i := by
  refine ba_eq.2 ?_
  rw [tail_list, ext_list, ext_list, List.drop_zero]
theorem ends_at (t : ByteArray) (i : Nat) (h : i ≤ t.size) : endsP (t.extract 0 i) ↔ 6 ≤ i ∧ endAt t (i - 6) := by
  unfold endsP endAt
  rw [head_size t i h]
  refine and_congr_right fun h6 => ?_
  rw [ext_tail t i, show i - 6 + 6 = i from by omega]
theorem ext_ext (t : ByteArray) (a i : Nat) (h : a ≤ i) : (t.extract 0 i).extract 0 a = t.extract 0 a := by
  refine ba_eq.2 ?_
  rw [ext_list, ext_list, ext_list, List.drop_zero, List.drop_zero, List.drop_zero, List.take_take, Nat.min_eq_left h]
/-- Where one stands behind i of t's bytes, and what the next one makes, if its first end begins at a. -/
def pstK (t : ByteArray) (a i : Nat) : Ky := if i < a + 6 then .paste (t.extract 0 i) else .held noB
def pstL (t : ByteArray) (a i : Nat) : List Ke := if i < a + 6 then [] else [(15, 0, cleanB (t.extract 0 a))]
theorem paste_step (t : ByteArray) (a i : Nat) (ha : a + 6 ≤ t.size) (he : endAt t a) (hn : ∀ j, j < a → ¬ endAt t j) (hi : i < a + 6) :
    feedK (pstK t a i) (bt t i) = (pstK t a (i + 1), pstL t a (i + 1)) := by
  have hz : i + 1 ≤ t.size := by omega
  unfold pstK pstL
  rw [if_pos hi]
  show pasteK (t.extract 0 i ++ oneS (bt t i)) = _
  rw [ext_snoc t i (by omega)]
  unfold pasteK
  by_cases h : i + 1 < a + 6
  · rw [if_pos h, if_pos h, if_neg (fun hc => hn (i + 1 - 6) (by have := ((ends_at t (i + 1) hz).1 hc).1; omega) ((ends_at t (i + 1) hz).1 hc).2)]
  · have e : i + 1 = a + 6 := by omega
    rw [if_neg h, if_neg h, e, if_pos ((ends_at t (a + 6) ha).2 ⟨by omega, by rw [show a + 6 - 6 = a from by omega]; exact he⟩), head_size t (a + 6) ha, show a + 6 - 6 = a from by omega, ext_ext t a (a + 6) (by omega)]
theorem paste_tick (t : ByteArray) (a i : Nat) : tickK (pstK t a i) = (pstK t a i, []) := by
  unfold pstK
  split
  · rfl
  · rfl
theorem pst_zero (t : ByteArray) (a : Nat) : pstK t a 0 = .paste noB := by
  unfold pstK
  rw [if_pos (by omega)]
  congr 1
  refine ba_eq.2 ?_
  rw [ext_list]
  rfl
/-- The beginning of a paste, byte by byte. -/
def begL : List Nat := [27, 91, 50, 48, 48, 126]
def begS (i : Nat) : Ky := (runK (.held noB) (begL.take i)).1
theorem beg_step (i : Nat) (h : i < 6) : feedK (begS i) (begL.getD i 0) = (begS (i + 1), []) := by
  match i, h with
  | 0, _ => rfl
  | 1, _ => rfl
  | 2, _ => rfl
  | 3, _ => rfl
  | 4, _ => rfl
  | 5, _ => rfl
theorem beg_end : begS 6 = .paste noB := rfl
theorem beg_zero : begS 0 = .held noB := rfl
/-- The end that is laid behind is one, if none comes before. -/
theorem end_last (s : ByteArray) (a : Nat) (h : a + 6 = (s ++ endP).size) : endAt (s ++ endP) a := by
  unfold endAt
  have e : endP.size = 6 := rfl
  rw [app_size, e] at h
  have ha : a = s.size := by omega
  refine ba_eq.2 ?_
  rw [ext_list, app_data, List.take_of_length_le (by rw [List.length_append, ← Lib.size_eq, ← Lib.size_eq, e]; omega), ha, Lib.size_eq, List.drop_left]
end Go.Proofs.YtdnldfgolbcjiaaDoor
