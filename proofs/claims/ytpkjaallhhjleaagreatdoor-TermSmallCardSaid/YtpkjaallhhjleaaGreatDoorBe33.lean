/-
  Texts of this proof, one behind the other; each begins with its own remark.
-/
import Derived.Shelf.Strings.BuilderF
import Derived.Test.YtpkjaallhhjleaaGreatDoorProg
import Derived.Deep.DeepFit
import Derived.Test.YtpkjaallhhjleaaGreatDoorBe14
import Derived.Test.YtpkjaallhhjleaaGreatDoorBe2
/-
  strings: WriteString, String: each contract is one application of the library's own theorem at this seat's program.
-/
namespace Go.Proofs
open Go.Shelf
def Tryz.lays169_ren : Go.Shelf.Ren := ⟨fun | 169 => 81 | n => n, fun | 70 => 121 | 9 => 9 | 0 => 0 | 72 => 123 | 37 => 102 | 127 => 147 | 3 => 3 | 5 => 5 | n => n, fun | n => n⟩
theorem Tryz.lays169 : Go.Proofs.Lays.n169 Tryz.prog Tryz.lays169_ren := {
  mixed := by kernel_rfl
  f169 := Tryz.func81.trans (congrArg some (by kernel_rfl))
  t0 := Tryz.underlying0
  a0 := Tryz.isAgg0
  z0 := Tryz.sizeOf0
  v0 := Tryz.zeroValue0
  t3 := Tryz.underlying3
  a3 := Tryz.isAgg3
  z3 := Tryz.sizeOf3
  v3 := Tryz.zeroValue3
  t9 := Tryz.underlying9
  a9 := Tryz.isAgg9
  z9 := Tryz.sizeOf9
  v9 := Tryz.zeroValue9
  t37 := Tryz.underlying102
  a37 := Tryz.isAgg102
  z37 := Tryz.sizeOf102
  v37 := Tryz.zeroValue102
  t70 := Tryz.underlying121
  a70 := Tryz.isAgg121
  z70 := Tryz.sizeOf121
  v70 := Tryz.zeroValue121
  t72 := Tryz.underlying123
  a72 := Tryz.isAgg123
  z72 := Tryz.sizeOf123
  v72 := Tryz.zeroValue123
  t127 := Tryz.underlying147
  a127 := Tryz.isAgg147
  z127 := Tryz.sizeOf147
  v127 := Tryz.zeroValue147 }
theorem Tryz.Builder_Extra_169 : Builder.Extra Tryz.prog Tryz.lays169_ren := {
  sizeBuilder := by kernel_rfl
  liesBuilder := by kernel_rfl
  t5 := Tryz.underlying5
  a5 := Tryz.isAgg5
  z5 := Tryz.sizeOf5
  v5 := Tryz.zeroValue5
  infoByte := by kernel_rfl
  cellsByte := by kernel_rfl
  sizeByte := by kernel_rfl
  neB5 := by decide }
open Go.RowKit in
theorem Tryz.Builder_String_any_f (B b : Nat) (l : List UInt8) (w : World) (h : Lib.IsBuilderF 123 5 B b (Lib.byteCells l) w) (hBw : B ≤ w.heap.size) :
    Calls Tryz.prog 81 #[.pointer (some ⟨b, 0, none⟩)] w fun e w' => e = .returned (.string ⟨l.toArray⟩) ∧ (Lib.IsBuilderF 123 5 B b (Lib.byteCells l) w' ∧ Below B w w') := Any.Builder_String_any_f Tryz.lays169 Tryz.Builder_Extra_169 B b l w h hBw
def Tryz.lays166_ren : Go.Shelf.Ren := ⟨fun | 166 => 80 | 240 => 107 | 276 => 119 | n => n, fun | 0 => 0 | 3 => 3 | 4 => 4 | 5 => 5 | 9 => 9 | 20 => 20 | 37 => 102 | 70 => 121 | 72 => 123 | 75 => 125 | 80 => 128 | 164 => 160 | n => n, fun | n => n⟩
theorem Tryz.lays166 : Go.Proofs.Lays.n166 Tryz.prog Tryz.lays166_ren := {
  mixed := by kernel_rfl
  f166 := Tryz.func80.trans (congrArg some (by kernel_rfl))
  f240 := Tryz.func107.trans (congrArg some (by kernel_rfl))
  f276 := Tryz.func119.trans (congrArg some (by kernel_rfl))
  t0 := Tryz.underlying0
  a0 := Tryz.isAgg0
  z0 := Tryz.sizeOf0
  v0 := Tryz.zeroValue0
  t3 := Tryz.underlying3
  a3 := Tryz.isAgg3
  z3 := Tryz.sizeOf3
  v3 := Tryz.zeroValue3
  t4 := Tryz.underlying4
  a4 := Tryz.isAgg4
  z4 := Tryz.sizeOf4
  v4 := Tryz.zeroValue4
  t9 := Tryz.underlying9
  a9 := Tryz.isAgg9
  z9 := Tryz.sizeOf9
  v9 := Tryz.zeroValue9
  t20 := Tryz.underlying20
  a20 := Tryz.isAgg20
  z20 := Tryz.sizeOf20
  v20 := Tryz.zeroValue20
  t37 := Tryz.underlying102
  a37 := Tryz.isAgg102
  z37 := Tryz.sizeOf102
  v37 := Tryz.zeroValue102
  t70 := Tryz.underlying121
  a70 := Tryz.isAgg121
  z70 := Tryz.sizeOf121
  v70 := Tryz.zeroValue121
  t72 := Tryz.underlying123
  a72 := Tryz.isAgg123
  z72 := Tryz.sizeOf123
  v72 := Tryz.zeroValue123
  t75 := Tryz.underlying125
  a75 := Tryz.isAgg125
  z75 := Tryz.sizeOf125
  v75 := Tryz.zeroValue125
  t164 := Tryz.underlying160
  a164 := Tryz.isAgg160
  z164 := Tryz.sizeOf160
  v164 := Tryz.zeroValue160 }
theorem Tryz.Builder_Extra_166 : Builder.Extra Tryz.prog Tryz.lays166_ren := {
  sizeBuilder := by kernel_rfl
  liesBuilder := by kernel_rfl
  t5 := Tryz.underlying5
  a5 := Tryz.isAgg5
  z5 := Tryz.sizeOf5
  v5 := Tryz.zeroValue5
  infoByte := by kernel_rfl
  cellsByte := by kernel_rfl
  sizeByte := by kernel_rfl
  neB5 := by decide }
open Go.RowKit in
theorem Tryz.Builder_WriteString_f (B b : Nat) (bs : List Value) (s : ByteArray) (w : World) (h : Lib.IsBuilderF 123 5 B b bs w) (hlen : bs.length + s.size ≤ 140737488355328) (hBw : B ≤ w.heap.size) :
    Calls Tryz.prog 80 #[.pointer (some ⟨b, 0, none⟩), .string s] w fun e w' => e = .returned (.tuple #[.int .i64 s.size, .nilIface]) ∧ (Lib.BuilderAtF 123 5 B b (.pointer (some ⟨b, 0, none⟩)) (bs ++ Lib.strCells s) w' ∧ Below B w w') := Any.Builder_WriteString_f Tryz.lays166 Tryz.Builder_Extra_166 B b bs s w h hlen hBw
end Go.Proofs

/-
  grids.shown: what it returns: the runes of a row, one behind the other.
-/
namespace Go.Proofs.YtpkjaallhhjleaaGreatDoor
open Go.RowKit

theorem putB_len (r : Int) : (putB r).size ≤ 4 := by
  have k : ∀ xs : List Int, (strOfNums xs).size = xs.length := fun xs => by
    have h := congrArg List.length (strOfNums_data xs)
    rw [List.length_map] at h
    exact h
  by_cases hv : 0 ≤ r ∧ r < 55296 ∨ 57343 < r ∧ r ≤ 1114111
  · by_cases h1 : r < 128
    · rw [← put1 r (by omega) h1, k]; simp
    by_cases h2 : r < 2048
    · rw [← put2 r (by omega) h2, k]; simp
    by_cases h3 : r < 65536
    · rw [← put3 r (by omega) h3 (by omega), k]; simp
    · rw [← put4 r (by omega) (by omega), k]; simp
  · rw [put_no r hv]; exact Nat.zero_le _
theorem shownL_len : ∀ l : List Cel, (shownL l).length ≤ 4 * l.length
  | [] => Nat.le_refl _
  | c :: l => by
    have ih := shownL_len l
    have h := putB_len c.1
    have e : shownL (c :: l) = (if 0 < c.2.1 then (putB c.1).data.toList else []) ++ shownL l := by unfold shownL; rw [List.flatMap_cons]
    rw [e, List.length_append, List.length_cons]
    have h2 : (putB c.1).data.toList.length = (putB c.1).size := rfl
    split
    · omega
    · simp; omega

set_option maxRecDepth 100000 in
set_option maxHeartbeats 2000000 in
theorem gshown_any {ok : Nat → Prop} {ao : Option Addr} {N cap : Nat} (l : List Cel) (w : World) (h : CelsW ok w (.slice ao N cap) l) (hN : l.length = N) (hn : N ≤ 1000) :
    Calls Tryz.prog 48 #[.slice ao N cap] w fun e w' => e = .returned (.string (shownS l)) ∧ Below w.heap.size w w' := by
  have HH : Hid (∀ i c, l[i]? = some c → ∃ g o, ao = some ⟨g, o, none⟩ ∧ cell6 w g (o + i * 6) c) := fun i c hc => by
    obtain ⟨g, o, cap', he, _, _, hcell⟩ := h.at_ hc
    injection he with e1 e2 e3
    exact ⟨g, o, e1, hcell i c hc⟩
  have HN := Lib.hid hN
  have hbA : Below w.heap.size w (w.alloc (.cells #[.pointer none, .slice none 0 0] 123)) := (Below.refl _ _).alloc (Nat.le_refl _) _
  have hI0 : Lib.IsBuilderF 123 5 w.heap.size w.heap.size (Lib.byteCells []) (w.alloc (.cells #[.pointer none, .slice none 0 0] 123)) := Lib.IsBuilderF.of (Lib.fresh_isBuilder _ _ w)
  have H0 := Lib.hid (And.intro hbA hI0)
  have i1 : (N : Int) ≤ 1000 := by omega
  have HP := Lib.hid (fun r w => putB_any r w)
  clear h hN hbA hI0
  go_enter Tryz.func48, Tryz.ntmps48
  go_wp2
  go_loopw [8] (fun s8 wr => ∃ i : Nat, s8 = .int .i64 (i : Int) ∧ i ≤ N ∧ Hid (Below w.heap.size w wr ∧ Lib.IsBuilderF 123 5 w.heap.size w.heap.size (Lib.byteCells (shownL (l.take i))) wr)) (fun s8 _ => N - (intOf s8).toNat)
  case atStart => exact ⟨0, rfl, Nat.zero_le _, H0⟩
  case round =>
    obtain ⟨i, rfl, hi, HI⟩ := hrel
    clear H0
    by_cases hlt : i < N
    · obtain ⟨c, hc⟩ : ∃ c, l[i]? = some c := ⟨_, List.getElem?_eq_getElem (by rw [HN.out]; exact hlt)⟩
      obtain ⟨g, o, rfl, hcw⟩ := HH.out i c hc
      obtain ⟨c0, c1, c2, c3, c4, c5⟩ := hcw.below HI.out.1 hcw.lt
      have hst := shownL_step l i c hc
      have j1 : (i : Int) < (N : Int) := by omega
      have j2 : (0 : Int) ≤ (i : Int) := by omega
      obtain ⟨x, hx⟩ : ∃ x, i + 1 = x := ⟨_, rfl⟩
      have hx1 : (i : Int) + 1 = (x : Int) := by omega
      have hxN : x ≤ N := by omega
      rw [hx] at hst
      have HXI : Hid (i < x) := by show _ < _; omega
      have hsz : w.heap.size ≤ wr.heap.size := HI.out.1.size
      by_cases hw : 0 < c.2.1
      · rw [if_pos hw] at hst
        obtain ⟨T, hT⟩ : ∃ T, putB c.1 = T := ⟨_, rfl⟩
        have hTl : T.size ≤ 4 := by rw [← hT]; exact putB_len _
        have hPc := fun w => HP.out c.1 w
        rw [hT] at hst hPc
        have HPc := Lib.hid hPc
        obtain ⟨L, hL⟩ : ∃ L, shownL (l.take i) = L := ⟨_, rfl⟩
        rw [hL] at hst HI
        have hLl : L.length ≤ 4000 := by
          have := shownL_len (l.take i)
          rw [hL, List.length_take] at this
          omega
        have H5 : Hid (∀ W, Below wr.heap.size wr W → Lib.IsBuilderF 123 5 w.heap.size w.heap.size (Lib.byteCells L) W → Calls Tryz.prog 80 #[.pointer (some ⟨w.heap.size, 0, none⟩), .string T] W fun e w' => e = .returned (.tuple #[.int .i64 T.size, .nilIface]) ∧ (Lib.BuilderAtF 123 5 w.heap.size w.heap.size (.pointer (some ⟨w.heap.size, 0, none⟩)) (Lib.byteCells L ++ Lib.strCells T) w' ∧ Below w.heap.size W w')) := fun W hb hI =>
          Tryz.Builder_WriteString_f w.heap.size w.heap.size (Lib.byteCells L) T W hI (by rw [Lib.byteCells_length]; omega) (Nat.le_trans hsz hb.size)
        have HST := Lib.hid hst
        have hb7 : Below wr.heap.size wr (wr.alloc (.cells #[.int .i32 c.1, .int .i64 c.2.1, .int .i64 c.2.2.1, .bool c.2.2.2.1, .bool c.2.2.2.2.1, .bool c.2.2.2.2.2] 82)) := (Below.refl _ wr).alloc (Nat.le_refl _) _
        have HI7 := Lib.hid (And.intro hb7 (HI.out.2.alloc (.cells #[.int .i32 c.1, .int .i64 c.2.1, .int .i64 c.2.2.1, .bool c.2.2.2.1, .bool c.2.2.2.2.1, .bool c.2.2.2.2.2] 82)))
        have HBw := Lib.hid (HI.out.1.trans (hb7.mono hsz))
        clear hc hcw hst hT hTl hPc hL hLl hx HP hb7 HI hsz
        go_wp2_with fail
        go_fit (HPc.out _)
        rintro e w5 ⟨rfl, rfl⟩
        go_wp2_with fail
        go_fit (H5.out _ HI7.out.1 HI7.out.2)
        rintro e w6 ⟨rfl, hB6, hb6⟩
        have H6 : Hid (Below w.heap.size w w6 ∧ Lib.IsBuilderF 123 5 w.heap.size w.heap.size (Lib.byteCells (shownL (l.take x))) w6) := by
          refine ⟨HBw.out.trans hb6, ?_⟩
          rw [HST.out, Lib.byteCells_append]
          exact .inr hB6
        clear hB6 hb6 HPc H5 HI7 HBw HST c0 c1 c2 c3 c4 c5
        go_wp2
        go_roundw
        case rel => exact ⟨x, rfl, hxN, H6⟩
        case measure => simp [intOf]; have := HXI.out; omega
      · rw [if_neg hw, List.append_nil] at hst
        have H6 : Hid (Below w.heap.size w (wr.alloc (.cells #[.int .i32 c.1, .int .i64 c.2.1, .int .i64 c.2.2.1, .bool c.2.2.2.1, .bool c.2.2.2.2.1, .bool c.2.2.2.2.2] 82)) ∧ Lib.IsBuilderF 123 5 w.heap.size w.heap.size (Lib.byteCells (shownL (l.take x))) (wr.alloc (.cells #[.int .i32 c.1, .int .i64 c.2.1, .int .i64 c.2.2.1, .bool c.2.2.2.1, .bool c.2.2.2.2.1, .bool c.2.2.2.2.2] 82))) := by
          refine ⟨HI.out.1.alloc hsz _, ?_⟩
          rw [hst]
          exact HI.out.2.alloc _
        clear hc hcw hst hx HP HI hsz
        go_wp2
        go_roundw
        case rel => exact ⟨x, rfl, hxN, H6⟩
        case measure => simp [intOf]; have := HXI.out; omega
    · obtain rfl : N = i := by omega
      have h2 := HI.out.2
      rw [List.take_of_length_le (by rw [HN.out]; exact Nat.le_refl _)] at h2
      have H6 := Lib.hid (Tryz.Builder_String_any_f w.heap.size w.heap.size _ wr h2 HI.out.1.size)
      have HBw := Lib.hid HI.out.1
      clear h2 HI HP HH
      go_wp2_with fail
      go_fit (H6.out)
      rintro e w4 ⟨rfl, _, hb4⟩
      go_wp2
      go_ret
      exact ⟨rfl, HBw.out.trans hb4⟩
end Go.Proofs.YtpkjaallhhjleaaGreatDoor
