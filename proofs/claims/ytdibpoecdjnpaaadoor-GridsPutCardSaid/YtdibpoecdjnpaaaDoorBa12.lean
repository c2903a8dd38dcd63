/-
  Texts of this proof, one behind the other; each begins with its own remark.
-/
import Derived.Deep.DeepFit
import Derived.Laws.StructEq
import Derived.Test.YtdibpoecdjnpaaaDoorBa8
import Derived.Test.YtdibpoecdjnpaaaDoorBa11
import Derived.Test.YtdibpoecdjnpaaaDoorBa7
/-
  grids.shown: what it returns: the runes of a row, one behind the other.
-/
namespace Go.Proofs.YtdibpoecdjnpaaaDoor
open Go.RowKit

theorem putB_len (r : Int) : (putB r).size ≤ 4 := by
  have k : ∀ xs : List Int, (strOfNums xs).size = xs.length := fun xs => by
    have h := congrArg List.length (strOfNums_data xs)
    rw [List.length_map] at h
    exact h
  by_cases hv : 0 ≤ r ∧ r < 55296 ∨ 57343 < r ∧ r ≤ 1114111
  · by_cases h1 : r < 128
    · rw [← put1 r (by omega) h1, k]; simp
    by_cases h2 : r < 2048
    · rw [← put2 r (by omega) h2, k]; simp
    by_cases h3 : r < 65536
    · rw [← put3 r (by omega) h3 (by omega), k]; simp
    · rw [← put4 r (by omega) (by omega), k]; simp
  · rw [put_no r hv]; exact Nat.zero_le _
theorem shownL_len : ∀ l : List Cel, (shownL l).length ≤ 4 * l.length
  | [] => Nat.le_refl _
  | c :: l => by
    have ih := shownL_len l
    have h := putB_len c.1
    have e : shownL (c :: l) = (if 0 < c.2.1 then (putB c.1).data.toList else []) ++ shownL l := by unfold shownL; rw [List.flatMap_cons]
    rw [e, List.length_append, List.length_cons]
    have h2 : (putB c.1).data.toList.length = (putB c.1).size := rfl
    split
    · omega
    · simp; omega

set_option maxRecDepth 100000 in
set_option maxHeartbeats 2000000 in
theorem gshown_any {ok : Nat → Prop} {ao : Option Addr} {N cap : Nat} (l : List Cel) (w : World) (h : CelsW ok w (.slice ao N cap) l) (hN : l.length = N) (hn : N ≤ 1000) :
    Calls Tryd.prog 44 #[.slice ao N cap] w fun e w' => e = .returned (.string (shownS l)) ∧ Below w.heap.size w w' := by
  have HH : Hid (∀ i c, l[i]? = some c → ∃ g o, ao = some ⟨g, o, none⟩ ∧ cell6 w g (o + i * 6) c) := fun i c hc => by
    obtain ⟨g, o, cap', he, _, _, hcell⟩ := h.at_ hc
    injection he with e1 e2 e3
    exact ⟨g, o, e1, hcell i c hc⟩
  have HN := Lib.hid hN
  have hbA : Below w.heap.size w (w.alloc (.cells #[.pointer none, .slice none 0 0] 81)) := (Below.refl _ _).alloc (Nat.le_refl _) _
  have hI0 : Lib.IsBuilderF 81 5 w.heap.size w.heap.size (Lib.byteCells []) (w.alloc (.cells #[.pointer none, .slice none 0 0] 81)) := Lib.IsBuilderF.of (Lib.fresh_isBuilder _ _ w)
  have H0 := Lib.hid (And.intro hbA hI0)
  have i1 : (N : Int) ≤ 1000 := by omega
  have HP := Lib.hid (fun r w => putB_any r w)
  clear h hN hbA hI0
  go_enter Tryd.func44, Tryd.ntmps44
  go_wp2
  go_loopw [8] (fun s8 wr => ∃ i : Nat, s8 = .int .i64 (i : Int) ∧ i ≤ N ∧ Hid (Below w.heap.size w wr ∧ Lib.IsBuilderF 81 5 w.heap.size w.heap.size (Lib.byteCells (shownL (l.take i))) wr)) (fun s8 _ => N - (intOf s8).toNat)
  case atStart => exact ⟨0, rfl, Nat.zero_le _, H0⟩
  case round =>
    obtain ⟨i, rfl, hi, HI⟩ := hrel
    clear H0
    by_cases hlt : i < N
    · obtain ⟨c, hc⟩ : ∃ c, l[i]? = some c := ⟨_, List.getElem?_eq_getElem (by rw [HN.out]; exact hlt)⟩
      obtain ⟨g, o, rfl, hcw⟩ := HH.out i c hc
      obtain ⟨c0, c1, c2, c3, c4, c5⟩ := hcw.below HI.out.1 hcw.lt
      have hst := shownL_step l i c hc
      have j1 : (i : Int) < (N : Int) := by omega
      have j2 : (0 : Int) ≤ (i : Int) := by omega
      obtain ⟨x, hx⟩ : ∃ x, i + 1 = x := ⟨_, rfl⟩
      have hx1 : (i : Int) + 1 = (x : Int) := by omega
      have hxN : x ≤ N := by omega
      rw [hx] at hst
      have HXI : Hid (i < x) := by show _ < _; omega
      have hsz : w.heap.size ≤ wr.heap.size := HI.out.1.size
      by_cases hw : 0 < c.2.1
      · rw [if_pos hw] at hst
        obtain ⟨T, hT⟩ : ∃ T, putB c.1 = T := ⟨_, rfl⟩
        have hTl : T.size ≤ 4 := by rw [← hT]; exact putB_len _
        have hPc := fun w => HP.out c.1 w
        rw [hT] at hst hPc
        have HPc := Lib.hid hPc
        obtain ⟨L, hL⟩ : ∃ L, shownL (l.take i) = L := ⟨_, rfl⟩
        rw [hL] at hst HI
        have hLl : L.length ≤ 4000 := by
          have := shownL_len (l.take i)
          rw [hL, List.length_take] at this
          omega
        have H5 : Hid (∀ W, Below wr.heap.size wr W → Lib.IsBuilderF 81 5 w.heap.size w.heap.size (Lib.byteCells L) W → Calls Tryd.prog 52 #[.pointer (some ⟨w.heap.size, 0, none⟩), .string T] W fun e w' => e = .returned (.tuple #[.int .i64 T.size, .nilIface]) ∧ (Lib.BuilderAtF 81 5 w.heap.size w.heap.size (.pointer (some ⟨w.heap.size, 0, none⟩)) (Lib.byteCells L ++ Lib.strCells T) w' ∧ Below w.heap.size W w')) := fun W hb hI =>
          Tryd.Builder_WriteString_f w.heap.size w.heap.size (Lib.byteCells L) T W hI (by rw [Lib.byteCells_length]; omega) (Nat.le_trans hsz hb.size)
        have HST := Lib.hid hst
        have hb7 : Below wr.heap.size wr (wr.alloc (.cells #[.int .i32 c.1, .int .i64 c.2.1, .int .i64 c.2.2.1, .bool c.2.2.2.1, .bool c.2.2.2.2.1, .bool c.2.2.2.2.2] 52)) := (Below.refl _ wr).alloc (Nat.le_refl _) _
        have HI7 := Lib.hid (And.intro hb7 (HI.out.2.alloc (.cells #[.int .i32 c.1, .int .i64 c.2.1, .int .i64 c.2.2.1, .bool c.2.2.2.1, .bool c.2.2.2.2.1, .bool c.2.2.2.2.2] 52)))
        have HBw := Lib.hid (HI.out.1.trans (hb7.mono hsz))
        clear hc hcw hst hT hTl hPc hL hLl hx HP hb7 HI hsz
        go_wp2_with fail
        go_fit (HPc.out _)
        rintro e w5 ⟨rfl, rfl⟩
        go_wp2_with fail
        go_fit (H5.out _ HI7.out.1 HI7.out.2)
        rintro e w6 ⟨rfl, hB6, hb6⟩
        have H6 : Hid (Below w.heap.size w w6 ∧ Lib.IsBuilderF 81 5 w.heap.size w.heap.size (Lib.byteCells (shownL (l.take x))) w6) := by
          refine ⟨HBw.out.trans hb6, ?_⟩
          rw [HST.out, Lib.byteCells_append]
          exact .inr hB6
        clear hB6 hb6 HPc H5 HI7 HBw HST c0 c1 c2 c3 c4 c5
        go_wp2
        go_roundw
        case rel => exact ⟨x, rfl, hxN, H6⟩
        case measure => simp [intOf]; have := HXI.out; omega
      · rw [if_neg hw, List.append_nil] at hst
        have H6 : Hid (Below w.heap.size w (wr.alloc (.cells #[.int .i32 c.1, .int .i64 c.2.1, .int .i64 c.2.2.1, .bool c.2.2.2.1, .bool c.2.2.2.2.1, .bool c.2.2.2.2.2] 52)) ∧ Lib.IsBuilderF 81 5 w.heap.size w.heap.size (Lib.byteCells (shownL (l.take x))) (wr.alloc (.cells #[.int .i32 c.1, .int .i64 c.2.1, .int .i64 c.2.2.1, .bool c.2.2.2.1, .bool c.2.2.2.2.1, .bool c.2.2.2.2.2] 52))) := by
          refine ⟨HI.out.1.alloc hsz _, ?_⟩
          rw [hst]
          exact HI.out.2.alloc _
        clear hc hcw hst hx HP HI hsz
        go_wp2
        go_roundw
        case rel => exact ⟨x, rfl, hxN, H6⟩
        case measure => simp [intOf]; have := HXI.out; omega
    · obtain rfl : N = i := by omega
      have h2 := HI.out.2
      rw [List.take_of_length_le (by rw [HN.out]; exact Nat.le_refl _)] at h2
      have H6 := Lib.hid (Tryd.Builder_String_any_f w.heap.size w.heap.size _ wr h2 HI.out.1.size)
      have HBw := Lib.hid HI.out.1
      clear h2 HI HP HH
      go_wp2_with fail
      go_fit (H6.out)
      rintro e w4 ⟨rfl, _, hb4⟩
      go_wp2
      go_ret
      exact ⟨rfl, HBw.out.trans hb4⟩
end Go.Proofs.YtdibpoecdjnpaaaDoor

/-
  Two styles, two cells held against each other: what '==' and '!=' come to.
-/
namespace Go.Proofs.YtdibpoecdjnpaaaDoor
open Go.RowKit

theorem Tryd.fieldsCell : Tryd.prog.underlying 52 = some (.struct (Tryd.prog.fieldsOf 52)) := by kernel_rfl
theorem Tryd.fieldsStyle : Tryd.prog.underlying 35 = some (.struct (Tryd.prog.fieldsOf 35)) := by kernel_rfl
theorem Tryd.heldCell : Tryd.prog.stoodInHeld 52 = false := by kernel_rfl
theorem Tryd.heldStyle : Tryd.prog.stoodInHeld 35 = false := by kernel_rfl


theorem eqF_step (d : Nat) (xs ys : Array Value) (nm : String) (T : TypeId) (o : Nat) (em : Bool) (tg pk : String) (bo : Nat) (fs : List Field) (x y : Value) (r : Bool) (w : World) (hn : nm ≠ "_") (hx : (part T xs o).run Tryd.prog w = .ok x w) (hy : (part T ys o).run Tryd.prog w = .ok y w) (hr : (Op.equalIn d T x y).run Tryd.prog w = .ok r w) :
    (Op.eqFields d xs ys ({ name := nm, type := T, offset := o, embedded := em, tag := tg, pkgPath := pk, byteOffset := bo } :: fs)).run Tryd.prog w = if r = true then (Op.eqFields d xs ys fs).run Tryd.prog w else .ok false w := by
  rw [Op.eqFields, if_pos hn]
  simp only [Sem.run_bind, hx, hy, hr, Result.andThen_ok]
  cases r
  · simp only [Bool.not_false, if_true, Sem.run_pure]; rfl
  · simp only [Bool.not_true, Bool.false_eq_true, if_false, if_true]
theorem part_int (xs : Array Value) (o : Nat) (x : Value) (w : World) (h : xs[o]? = some x) : (part 3 xs o).run Tryd.prog w = .ok x w := by
  unfold part
  simp only [Sem.run_bind, Tryd.isAgg3, Result.andThen_ok]
  simp [h]
theorem part_bool (xs : Array Value) (o : Nat) (x : Value) (w : World) (h : xs[o]? = some x) : (part 4 xs o).run Tryd.prog w = .ok x w := by
  unfold part
  simp only [Sem.run_bind, Tryd.isAgg4, Result.andThen_ok]
  simp [h]
theorem sty_fields : (Tryd.prog.fieldsOf 35).toList = [{ name := "Fg", type := 3, offset := 0, embedded := false, tag := "", pkgPath := "", byteOffset := 0 }, { name := "Bold", type := 4, offset := 1, embedded := false, tag := "", pkgPath := "", byteOffset := 8 }, { name := "Under", type := 4, offset := 2, embedded := false, tag := "", pkgPath := "", byteOffset := 9 }, { name := "Inverse", type := 4, offset := 3, embedded := false, tag := "", pkgPath := "", byteOffset := 10 }] := by
  unfold Program.fieldsOf
  rw [Tryd.underlying35]
theorem sty_eqIn (n : Nat) (a b : Sty) (w : World) : (Op.equalIn (n + 2) 35 (.agg #[.int .i64 a.1, .bool a.2.1, .bool a.2.2.1, .bool a.2.2.2]) (.agg #[.int .i64 b.1, .bool b.2.1, .bool b.2.2.1, .bool b.2.2.2])).run Tryd.prog w = .ok (decide (a = b)) w := by
  rw [run_equalIn_agg _ _ _ _ _ Tryd.fieldsStyle Tryd.heldStyle, sty_fields]
  obtain ⟨a1, a2, a3, a4⟩ := a
  obtain ⟨b1, b2, b3, b4⟩ := b
  rw [eqF_step _ _ _ _ _ _ _ _ _ _ _ _ _ _ _ (by decide) (part_int _ 0 _ w rfl) (part_int _ 0 _ w rfl) (run_equalIn_int w n 3 .i64 .i64 a1 b1 Tryd.underlying3)]
  rw [eqF_step _ _ _ _ _ _ _ _ _ _ _ _ _ _ _ (by decide) (part_bool _ 1 _ w rfl) (part_bool _ 1 _ w rfl) (run_equalIn_bool' w n 4 a2 b2 Tryd.underlying4)]
  rw [eqF_step _ _ _ _ _ _ _ _ _ _ _ _ _ _ _ (by decide) (part_bool _ 2 _ w rfl) (part_bool _ 2 _ w rfl) (run_equalIn_bool' w n 4 a3 b3 Tryd.underlying4)]
  rw [eqF_step _ _ _ _ _ _ _ _ _ _ _ _ _ _ _ (by decide) (part_bool _ 3 _ w rfl) (part_bool _ 3 _ w rfl) (run_equalIn_bool' w n 4 a4 b4 Tryd.underlying4)]
  unfold Op.eqFields
  by_cases h1 : a1 = b1 <;> by_cases h2 : a2 = b2 <;> by_cases h3 : a3 = b3 <;> by_cases h4 : a4 = b4 <;> simp [h1, h2, h3, h4, Sem.run_pure]
theorem sty_eqIn' (d : Nat) (hd : 2 ≤ d) (a b : Sty) (w : World) : (Op.equalIn d 35 (.agg #[.int .i64 a.1, .bool a.2.1, .bool a.2.2.1, .bool a.2.2.2]) (.agg #[.int .i64 b.1, .bool b.2.1, .bool b.2.2.1, .bool b.2.2.2])).run Tryd.prog w = .ok (decide (a = b)) w := by
  obtain ⟨n, rfl⟩ : ∃ n, d = n + 2 := ⟨d - 2, by omega⟩
  exact sty_eqIn n a b w
theorem sty_eql (a b : Sty) (w : World) : (binOp .eql 35 (.agg #[.int .i64 a.1, .bool a.2.1, .bool a.2.2.1, .bool a.2.2.2]) (.agg #[.int .i64 b.1, .bool b.2.1, .bool b.2.2.1, .bool b.2.2.2])).run Tryd.prog w = .ok (.bool (decide (a = b))) w := by
  rw [run_eql_struct, sty_eqIn' 10000 (by decide)]; rfl
theorem sty_neq (a b : Sty) (w : World) : (binOp .neq 35 (.agg #[.int .i64 a.1, .bool a.2.1, .bool a.2.2.1, .bool a.2.2.2]) (.agg #[.int .i64 b.1, .bool b.2.1, .bool b.2.2.1, .bool b.2.2.2])).run Tryd.prog w = .ok (.bool (!decide (a = b))) w := by
  rw [run_neq_struct, sty_eqIn' 10000 (by decide)]; rfl

theorem cel_fields : (Tryd.prog.fieldsOf 52).toList = [{ name := "R", type := 21, offset := 0, embedded := false, tag := "", pkgPath := "", byteOffset := 0 }, { name := "W", type := 3, offset := 1, embedded := false, tag := "", pkgPath := "", byteOffset := 8 }, { name := "Style", type := 35, offset := 2, embedded := false, tag := "", pkgPath := "", byteOffset := 16 }] := by
  unfold Program.fieldsOf
  rw [Tryd.underlying52]
theorem part_rune (xs : Array Value) (o : Nat) (x : Value) (w : World) (h : xs[o]? = some x) : (part 21 xs o).run Tryd.prog w = .ok x w := by
  unfold part
  simp only [Sem.run_bind, Tryd.isAgg21, Result.andThen_ok]
  simp [h]
theorem part_style (c : Cel) (w : World) : (part 35 #[.int .i32 c.1, .int .i64 c.2.1, .int .i64 c.2.2.1, .bool c.2.2.2.1, .bool c.2.2.2.2.1, .bool c.2.2.2.2.2] 2).run Tryd.prog w = .ok (.agg #[.int .i64 c.2.2.1, .bool c.2.2.2.1, .bool c.2.2.2.2.1, .bool c.2.2.2.2.2]) w := by
  unfold part
  simp only [Sem.run_bind, Tryd.isAgg35, Result.andThen_ok, if_true, Tryd.sizeOf35]
  simp
theorem cel_eqIn (n : Nat) (a b : Cel) (w : World) : (Op.equalIn (n + 3) 52 (.agg #[.int .i32 a.1, .int .i64 a.2.1, .int .i64 a.2.2.1, .bool a.2.2.2.1, .bool a.2.2.2.2.1, .bool a.2.2.2.2.2]) (.agg #[.int .i32 b.1, .int .i64 b.2.1, .int .i64 b.2.2.1, .bool b.2.2.2.1, .bool b.2.2.2.2.1, .bool b.2.2.2.2.2])).run Tryd.prog w = .ok (decide (a = b)) w := by
  rw [run_equalIn_agg _ _ _ _ _ Tryd.fieldsCell Tryd.heldCell, cel_fields]
  rw [eqF_step _ _ _ _ _ _ _ _ _ _ _ _ _ _ _ (by decide) (part_rune _ 0 _ w rfl) (part_rune _ 0 _ w rfl) (run_equalIn_int w (n + 1) 21 .i32 .i32 a.1 b.1 Tryd.underlying21)]
  rw [eqF_step _ _ _ _ _ _ _ _ _ _ _ _ _ _ _ (by decide) (part_int _ 1 _ w rfl) (part_int _ 1 _ w rfl) (run_equalIn_int w (n + 1) 3 .i64 .i64 a.2.1 b.2.1 Tryd.underlying3)]
  rw [eqF_step _ _ _ _ _ _ _ _ _ _ _ _ _ _ _ (by decide) (part_style a w) (part_style b w) (sty_eqIn n a.2.2 b.2.2 w)]
  unfold Op.eqFields
  obtain ⟨a1, a2, a3⟩ := a
  obtain ⟨b1, b2, b3⟩ := b
  by_cases h1 : a1 = b1 <;> by_cases h2 : a2 = b2 <;> by_cases h3 : a3 = b3 <;> simp [h1, h2, h3, Sem.run_pure]
theorem cel_eqIn' (d : Nat) (hd : 3 ≤ d) (a b : Cel) (w : World) : (Op.equalIn d 52 (.agg #[.int .i32 a.1, .int .i64 a.2.1, .int .i64 a.2.2.1, .bool a.2.2.2.1, .bool a.2.2.2.2.1, .bool a.2.2.2.2.2]) (.agg #[.int .i32 b.1, .int .i64 b.2.1, .int .i64 b.2.2.1, .bool b.2.2.2.1, .bool b.2.2.2.2.1, .bool b.2.2.2.2.2])).run Tryd.prog w = .ok (decide (a = b)) w := by
  obtain ⟨n, rfl⟩ : ∃ n, d = n + 3 := ⟨d - 3, by omega⟩
  exact cel_eqIn n a b w
theorem cel_eql (a b : Cel) (w : World) : (binOp .eql 52 (.agg #[.int .i32 a.1, .int .i64 a.2.1, .int .i64 a.2.2.1, .bool a.2.2.2.1, .bool a.2.2.2.2.1, .bool a.2.2.2.2.2]) (.agg #[.int .i32 b.1, .int .i64 b.2.1, .int .i64 b.2.2.1, .bool b.2.2.2.1, .bool b.2.2.2.2.1, .bool b.2.2.2.2.2])).run Tryd.prog w = .ok (.bool (decide (a = b))) w := by
  rw [run_eql_struct, cel_eqIn' 10000 (by decide)]; rfl
theorem cel_neq (a b : Cel) (w : World) : (binOp .neq 52 (.agg #[.int .i32 a.1, .int .i64 a.2.1, .int .i64 a.2.2.1, .bool a.2.2.2.1, .bool a.2.2.2.2.1, .bool a.2.2.2.2.2]) (.agg #[.int .i32 b.1, .int .i64 b.2.1, .int .i64 b.2.2.1, .bool b.2.2.2.1, .bool b.2.2.2.2.1, .bool b.2.2.2.2.2])).run Tryd.prog w = .ok (.bool (!decide (a = b))) w := by
  rw [run_neq_struct, cel_eqIn' 10000 (by decide)]; rfl
end Go.Proofs.YtdibpoecdjnpaaaDoor

/-
  grids.rightOf: what it returns: for every two cells.
-/
namespace Go.Proofs.YtdibpoecdjnpaaaDoor
open Go.RowKit

set_option maxHeartbeats 1000000 in
theorem rightOf_any (l c : Cel) (w : World) :
    Calls Tryd.prog 64 #[.agg #[.int .i32 l.1, .int .i64 l.2.1, .int .i64 l.2.2.1, .bool l.2.2.2.1, .bool l.2.2.2.2.1, .bool l.2.2.2.2.2], .agg #[.int .i32 c.1, .int .i64 c.2.1, .int .i64 c.2.2.1, .bool c.2.2.2.1, .bool c.2.2.2.2.1, .bool c.2.2.2.2.2]] w fun e w' => e = .returned (.bool (decide (c = halfC l.2.2))) ∧ Below w.heap.size w w' := by
  have hs := fun w => sty_eql c.2.2 l.2.2 w
  have hd : decide (c = halfC l.2.2) = (decide (c.1 = 0) && (decide (c.2.1 = 0) && decide (c.2.2 = l.2.2))) := by
    rw [Bool.eq_iff_iff]
    simp only [decide_eq_true_eq, Bool.and_eq_true, halfC, Prod.ext_iff]
  rw [hd]
  clear hd
  generalize decide (c.2.2 = l.2.2) = B at *
  by_cases h1 : c.1 = 0
  · have b1 : (c.1 == 0) = true := by simpa using h1
    rw [decide_eq_true h1, Bool.true_and]
    clear h1
    by_cases h2 : c.2.1 = 0
    · have b2 : (c.2.1 == 0) = true := by simpa using h2
      rw [decide_eq_true h2, Bool.true_and]
      clear h2
      go_enter Tryd.func64, Tryd.ntmps64
      go_wp2
      go_ret
      exact ⟨rfl, ((Below.refl _ w).alloc (Nat.le_refl _) _).alloc (by simp) _⟩
    · have b2 : (c.2.1 == 0) = false := by simpa using h2
      rw [decide_eq_false h2, Bool.false_and]
      clear h2 hs
      go_enter Tryd.func64, Tryd.ntmps64
      go_wp2
      go_ret
      exact ⟨rfl, ((Below.refl _ w).alloc (Nat.le_refl _) _).alloc (by simp) _⟩
  · have b1 : (c.1 == 0) = false := by simpa using h1
    rw [decide_eq_false h1, Bool.false_and]
    clear h1 hs
    go_enter Tryd.func64, Tryd.ntmps64
    go_wp2
    go_ret
    exact ⟨rfl, ((Below.refl _ w).alloc (Nat.le_refl _) _).alloc (by simp) _⟩
end Go.Proofs.YtdibpoecdjnpaaaDoor
