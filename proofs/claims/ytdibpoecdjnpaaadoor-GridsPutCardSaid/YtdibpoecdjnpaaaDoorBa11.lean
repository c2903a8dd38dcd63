/-
  Texts of this proof, one behind the other; each begins with its own remark.
-/
import Derived.Deep.DeepFit
import Derived.Shelf.Strings.BuilderF
import Derived.Test.YtdibpoecdjnpaaaDoorProg
import Derived.Test.YtdibpoecdjnpaaaDoorBa10
import Derived.Test.YtdibpoecdjnpaaaDoorBa2
/-
  Rows of strings in memory; limnerlaw06.Strings: what it returns.
-/
namespace Go.Proofs.YtdibpoecdjnpaaaDoor
open Go.RowKit

theorem Tryd.infoStrG : (Tryd.prog.info? 9).map (fun i => (i.zero, i.size, i.bytes)) = some (some (.string ⟨#[]⟩), 1, 16) := by kernel_rfl
def strC (xs : List ByteArray) : List Value := xs.map Value.string
theorem strC_len (xs : List ByteArray) : (strC xs).length = xs.length := by unfold strC; rw [List.length_map]
theorem strC_at {xs : List ByteArray} {i : Nat} {x : ByteArray} (h : xs[i]? = some x) : (strC xs)[i]? = some (.string x) := by unfold strC; rw [List.getElem?_map, h]; rfl
theorem strC_app (xs ys : List ByteArray) : strC (xs ++ ys) = strC xs ++ strC ys := by unfold strC; rw [List.map_append]
def StrsV (ok : Nat → Prop) (w : World) (v : Value) (xs : List ByteArray) : Prop := RowV ok w v xs.length (strC xs)
theorem StrsV.below {ok : Nat → Prop} {w w' : World} {v : Value} {xs : List ByteArray} (h : StrsV ok w v xs) (hb : Below w.heap.size w w') : StrsV ok w' v xs := RowV.keep h (keep_below ok hb)
/-- A row of the call's own, as it is handed back. -/
theorem own_row {w : World} {B n : Nat} {e : TypeId} {v : Value} {xs : List ByteArray} (h : w.ownsRow B e 1 v n (strC xs)) (hn : n = xs.length) : StrsV AnyB w v xs := by
  subst hn
  rcases h.2 with ⟨rfl, h0⟩ | ⟨g, cap, cur, rfl, hB, hg, hc, _⟩
  · obtain rfl := List.eq_nil_of_length_eq_zero h0
    exact RowV.nil _ _
  · refine ⟨_, cap, rfl, hc, fun _ _ => trivial, fun j u hu => ⟨g, 0, rfl, ?_⟩⟩
    have := h.cells (g := g) rfl j u hu
    rwa [rlit] at this

theorem toList_inj {x y : ByteArray} (h : x.toList = y.toList) : x = y := by
  rw [Lib.toList_data, Lib.toList_data] at h
  exact ByteArray.ext (Array.toList_inj.1 h)
theorem strings_no {ok ok2 : Nat → Prop} {v1 v2 : Value} {xs ys : List ByteArray} (w : World) (h1 : StrsV ok w v1 xs) (h2 : StrsV ok2 w v2 ys) (hl : xs.length ≠ ys.length) :
    Calls Tryd.prog 19 #[v1, v2] w fun e w' => e = .returned (.bool false) ∧ Below w.heap.size w w' := by
  obtain ⟨a1, c1, rfl, _⟩ := h1
  obtain ⟨a2, c2, rfl, _⟩ := h2
  have b1 : ((xs.length : Int) != (ys.length : Int)) = true := by simp; omega
  clear hl
  go_enter Tryd.func19, Tryd.ntmps19
  go_wp2
  go_ret
  exact ⟨rfl, Below.refl _ _⟩
theorem strings_eq {ok ok2 : Nat → Prop} {v1 v2 : Value} {xs ys : List ByteArray} (w : World) (h1 : StrsV ok w v1 xs) (h2 : StrsV ok2 w v2 ys) (hl : xs.length = ys.length) (hn : xs.length ≤ 1000000) :
    Calls Tryd.prog 19 #[v1, v2] w fun e w' => e = .returned (.bool (decide (xs = ys))) ∧ Below w.heap.size w w' := by
  have H1 : Hid (∀ i x, xs[i]? = some x → ∃ g o cap, v1 = .slice (some ⟨g, o, none⟩) xs.length cap ∧ ∀ W, Below w.heap.size w W → W.cell? ⟨g, o + i, none⟩ = some (.string x)) := fun i x hx => by
    obtain ⟨g, o, cap, hv, _, _, hc⟩ := RowV.at_ h1 (strC_at hx)
    refine ⟨g, o, cap, hv, fun W hW => ?_⟩
    have := hc i _ (strC_at hx)
    rw [hW.cell (p := ⟨g, o + i, none⟩) (rlt this)]; exact this
  have H2 : Hid (∀ i y, ys[i]? = some y → ∃ g o cap, v2 = .slice (some ⟨g, o, none⟩) ys.length cap ∧ ∀ W, Below w.heap.size w W → W.cell? ⟨g, o + i, none⟩ = some (.string y)) := fun i x hx => by
    obtain ⟨g, o, cap, hv, _, _, hc⟩ := RowV.at_ h2 (strC_at hx)
    refine ⟨g, o, cap, hv, fun W hW => ?_⟩
    have := hc i _ (strC_at hx)
    rw [hW.cell (p := ⟨g, o + i, none⟩) (rlt this)]; exact this
  obtain ⟨a1, c1, rfl, _⟩ := h1
  obtain ⟨a2, c2, rfl, _⟩ := h2
  rw [← hl] at H2 ⊢
  obtain ⟨n, hnn⟩ : ∃ n, xs.length = n := ⟨_, rfl⟩
  rw [hnn] at H1 H2 hn ⊢
  have hly : ys.length = n := by omega
  have HL := Lib.hid (And.intro hnn hly)
  have b1 : ((n : Int) != (n : Int)) = false := by simp
  have i1 : (n : Int) ≤ 1000000 := by omega
  obtain ⟨r, hr⟩ : ∃ r, decide (xs = ys) = r := ⟨_, rfl⟩
  rw [hr]
  have HR := Lib.hid hr
  clear hl hnn hly hr
  go_enter Tryd.func19, Tryd.ntmps19
  go_wp2
  go_loopw [5] (fun s5 wr => ∃ i : Nat, s5 = .int .i64 (i : Int) ∧ i ≤ n ∧ Hid (Below w.heap.size w wr ∧ xs.take i = ys.take i)) (fun s5 _ => n - (intOf s5).toNat)
  case atStart => exact ⟨0, rfl, Nat.zero_le _, Below.refl _ _, rfl⟩
  case round =>
    obtain ⟨i, rfl, hi, HI⟩ := hrel
    by_cases hlt : i < n
    · obtain ⟨x, hx⟩ : ∃ x, xs[i]? = some x := ⟨_, List.getElem?_eq_getElem (by rw [HL.out.1]; exact hlt)⟩
      obtain ⟨y, hy⟩ : ∃ y, ys[i]? = some y := ⟨_, List.getElem?_eq_getElem (by rw [HL.out.2]; exact hlt)⟩
      obtain ⟨g1, o1, k1, e1, hc1⟩ := H1.out i x hx
      obtain ⟨g2, o2, k2, e2, hc2⟩ := H2.out i y hy
      injection e1 with e11 e12 e13
      injection e2 with e21 e22 e23
      subst e11 e13 e21 e23
      have q1 := hc1 wr HI.out.1
      have q2 := hc2 wr HI.out.1
      have j1 : (i : Int) < (n : Int) := by omega
      have j2 : (0 : Int) ≤ (i : Int) := by omega
      obtain ⟨k, hk⟩ : ∃ k, i + 1 = k := ⟨_, rfl⟩
      have j3 : (i : Int) + 1 = (k : Int) := by omega
      have hkn : k ≤ n := by omega
      have HK := Lib.hid hk
      by_cases hxy : x = y
      · have bx : (x.toList == y.toList) = true := by rw [hxy]; exact beq_self_eq_true _
        have hst : xs.take k = ys.take k := by
          rw [← hk, List.take_succ_eq_append_getElem (List.getElem?_eq_some_iff.1 hx).1, List.take_succ_eq_append_getElem (List.getElem?_eq_some_iff.1 hy).1, (List.getElem?_eq_some_iff.1 hx).2, (List.getElem?_eq_some_iff.1 hy).2, HI.out.2, hxy]
        have HS := Lib.hid hst
        clear hx hy hc1 hc2 e12 e22 hk hst hxy
        go_wp2
        go_quiet (fail)
        go_wp2
        go_roundw
        case rel => exact ⟨k, rfl, hkn, HI.out.1.trans ⟨rfl, rfl, rfl, Nat.le_refl _, fun _ _ => rfl⟩, HS.out⟩
        case measure => simp [intOf]; have := HK.out; omega
      · have bx : (x.toList == y.toList) = false := beq_eq_false_iff_ne.2 fun e => hxy (toList_inj e)
        have hf : Hid (r = false) := by
          show _ = _
          rw [← HR.out, decide_eq_false]
          intro e
          rw [e, hy] at hx
          exact hxy (Option.some.inj hx).symm
        clear hx hy hc1 hc2 e12 e22 hk hxy
        go_wp2
        go_quiet (fail)
        go_wp2
        go_ret
        exact ⟨by rw [hf.out]; rfl, HI.out.1.trans ⟨rfl, rfl, rfl, Nat.le_refl _, fun _ _ => rfl⟩⟩
    · obtain rfl : n = i := by omega
      have hf : Hid (r = true) := by
        show _ = _
        have := HI.out.2
        rw [List.take_of_length_le (by rw [HL.out.1]; exact Nat.le_refl _), List.take_of_length_le (by rw [HL.out.2]; exact Nat.le_refl _)] at this
        rw [← HR.out, decide_eq_true this]
      go_wp2
      go_ret
      exact ⟨by rw [hf.out]; rfl, HI.out.1⟩
theorem strings_any {ok ok2 : Nat → Prop} {v1 v2 : Value} {xs ys : List ByteArray} (w : World) (h1 : StrsV ok w v1 xs) (h2 : StrsV ok2 w v2 ys) (hn : xs.length ≤ 1000000) :
    Calls Tryd.prog 19 #[v1, v2] w fun e w' => e = .returned (.bool (decide (xs = ys))) ∧ Below w.heap.size w w' := by
  by_cases hl : xs.length = ys.length
  · exact strings_eq w h1 h2 hl hn
  · rw [decide_eq_false (fun e => hl (by rw [e]))]
    exact strings_no w h1 h2 hl
end Go.Proofs.YtdibpoecdjnpaaaDoor

/-
  codes.Put and utf8.ValidRune: what each call returns: for every number. No condition.
-/
namespace Go.Proofs.YtdibpoecdjnpaaaDoor
open Go.RowKit

set_option maxHeartbeats 1000000 in
theorem validRune_any (r : Int) (w : World) :
    Calls Tryd.prog 63 #[.int .i32 r] w fun e w' => e = .returned (.bool (Lib.validRune r)) ∧ w' = w := by
  go_enter Tryd.func63, Tryd.ntmps63
  go_wp2
  all_goals (go_ret; refine ⟨?_, rfl⟩; first | (rw [show Lib.validRune r = true from decide_eq_true (by omega)]; rfl) | (rw [show Lib.validRune r = false from decide_eq_false (by omega)]; rfl))

set_option maxHeartbeats 1000000 in
theorem put_any (r : Int) (w : World) :
    Calls Tryd.prog 53 #[.int .i32 r] w fun e w' => e = .returned (.string (if Lib.validRune r then Utf8.encode r else ⟨#[]⟩)) ∧ w' = w := by
  cases hv : Lib.validRune r
  all_goals
    go_enter Tryd.func53, Tryd.ntmps53
    go_wp2_with (go_at_call 63; refine (validRune_any _ _).mono ?_; rintro e w' ⟨rfl, rfl⟩)
    go_ret
    exact ⟨rfl, rfl⟩

set_option maxHeartbeats 1000000 in
theorem putB_any (r : Int) (w : World) :
    Calls Tryd.prog 53 #[.int .i32 r] w fun e w' => e = .returned (.string (putB r)) ∧ w' = w := put_any r w

end Go.Proofs.YtdibpoecdjnpaaaDoor

/-
  strings: WriteString, String: each contract is one application of the library's own theorem at this seat's program.
-/
namespace Go.Proofs
open Go.Shelf
def Tryd.lays169_ren : Go.Shelf.Ren := ⟨fun | 169 => 54 | n => n, fun | 70 => 78 | 9 => 9 | 0 => 0 | 72 => 81 | 37 => 79 | 127 => 101 | 3 => 3 | 5 => 5 | n => n, fun | n => n⟩
theorem Tryd.lays169 : Go.Proofs.Lays.n169 Tryd.prog Tryd.lays169_ren := {
  mixed := by kernel_rfl
  f169 := Tryd.func54.trans (congrArg some (by kernel_rfl))
  t0 := Tryd.underlying0
  a0 := Tryd.isAgg0
  z0 := Tryd.sizeOf0
  v0 := Tryd.zeroValue0
  t3 := Tryd.underlying3
  a3 := Tryd.isAgg3
  z3 := Tryd.sizeOf3
  v3 := Tryd.zeroValue3
  t9 := Tryd.underlying9
  a9 := Tryd.isAgg9
  z9 := Tryd.sizeOf9
  v9 := Tryd.zeroValue9
  t37 := Tryd.underlying79
  a37 := Tryd.isAgg79
  z37 := Tryd.sizeOf79
  v37 := Tryd.zeroValue79
  t70 := Tryd.underlying78
  a70 := Tryd.isAgg78
  z70 := Tryd.sizeOf78
  v70 := Tryd.zeroValue78
  t72 := Tryd.underlying81
  a72 := Tryd.isAgg81
  z72 := Tryd.sizeOf81
  v72 := Tryd.zeroValue81
  t127 := Tryd.underlying101
  a127 := Tryd.isAgg101
  z127 := Tryd.sizeOf101
  v127 := Tryd.zeroValue101 }
theorem Tryd.Builder_Extra_169 : Builder.Extra Tryd.prog Tryd.lays169_ren := {
  sizeBuilder := by kernel_rfl
  liesBuilder := by kernel_rfl
  t5 := Tryd.underlying5
  a5 := Tryd.isAgg5
  z5 := Tryd.sizeOf5
  v5 := Tryd.zeroValue5
  infoByte := by kernel_rfl
  cellsByte := by kernel_rfl
  sizeByte := by kernel_rfl
  neB5 := by decide }
open Go.RowKit in
theorem Tryd.Builder_String_any_f (B b : Nat) (l : List UInt8) (w : World) (h : Lib.IsBuilderF 81 5 B b (Lib.byteCells l) w) (hBw : B ≤ w.heap.size) :
    Calls Tryd.prog 54 #[.pointer (some ⟨b, 0, none⟩)] w fun e w' => e = .returned (.string ⟨l.toArray⟩) ∧ (Lib.IsBuilderF 81 5 B b (Lib.byteCells l) w' ∧ Below B w w') := Any.Builder_String_any_f Tryd.lays169 Tryd.Builder_Extra_169 B b l w h hBw
def Tryd.lays166_ren : Go.Shelf.Ren := ⟨fun | 166 => 52 | 240 => 62 | 276 => 65 | n => n, fun | 0 => 0 | 3 => 3 | 4 => 4 | 5 => 5 | 9 => 9 | 20 => 20 | 37 => 79 | 70 => 78 | 72 => 81 | 75 => 83 | 80 => 86 | 164 => 103 | n => n, fun | n => n⟩
theorem Tryd.lays166 : Go.Proofs.Lays.n166 Tryd.prog Tryd.lays166_ren := {
  mixed := by kernel_rfl
  f166 := Tryd.func52.trans (congrArg some (by kernel_rfl))
  f240 := Tryd.func62.trans (congrArg some (by kernel_rfl))
  f276 := Tryd.func65.trans (congrArg some (by kernel_rfl))
  t0 := Tryd.underlying0
  a0 := Tryd.isAgg0
  z0 := Tryd.sizeOf0
  v0 := Tryd.zeroValue0
  t3 := Tryd.underlying3
  a3 := Tryd.isAgg3
  z3 := Tryd.sizeOf3
  v3 := Tryd.zeroValue3
  t4 := Tryd.underlying4
  a4 := Tryd.isAgg4
  z4 := Tryd.sizeOf4
  v4 := Tryd.zeroValue4
  t9 := Tryd.underlying9
  a9 := Tryd.isAgg9
  z9 := Tryd.sizeOf9
  v9 := Tryd.zeroValue9
  t20 := Tryd.underlying20
  a20 := Tryd.isAgg20
  z20 := Tryd.sizeOf20
  v20 := Tryd.zeroValue20
  t37 := Tryd.underlying79
  a37 := Tryd.isAgg79
  z37 := Tryd.sizeOf79
  v37 := Tryd.zeroValue79
  t70 := Tryd.underlying78
  a70 := Tryd.isAgg78
  z70 := Tryd.sizeOf78
  v70 := Tryd.zeroValue78
  t72 := Tryd.underlying81
  a72 := Tryd.isAgg81
  z72 := Tryd.sizeOf81
  v72 := Tryd.zeroValue81
  t75 := Tryd.underlying83
  a75 := Tryd.isAgg83
  z75 := Tryd.sizeOf83
  v75 := Tryd.zeroValue83
  t164 := Tryd.underlying103
  a164 := Tryd.isAgg103
  z164 := Tryd.sizeOf103
  v164 := Tryd.zeroValue103 }
theorem Tryd.Builder_Extra_166 : Builder.Extra Tryd.prog Tryd.lays166_ren := {
  sizeBuilder := by kernel_rfl
  liesBuilder := by kernel_rfl
  t5 := Tryd.underlying5
  a5 := Tryd.isAgg5
  z5 := Tryd.sizeOf5
  v5 := Tryd.zeroValue5
  infoByte := by kernel_rfl
  cellsByte := by kernel_rfl
  sizeByte := by kernel_rfl
  neB5 := by decide }
open Go.RowKit in
theorem Tryd.Builder_WriteString_f (B b : Nat) (bs : List Value) (s : ByteArray) (w : World) (h : Lib.IsBuilderF 81 5 B b bs w) (hlen : bs.length + s.size ≤ 140737488355328) (hBw : B ≤ w.heap.size) :
    Calls Tryd.prog 52 #[.pointer (some ⟨b, 0, none⟩), .string s] w fun e w' => e = .returned (.tuple #[.int .i64 s.size, .nilIface]) ∧ (Lib.BuilderAtF 81 5 B b (.pointer (some ⟨b, 0, none⟩)) (bs ++ Lib.strCells s) w' ∧ Below B w w') := Any.Builder_WriteString_f Tryd.lays166 Tryd.Builder_Extra_166 B b bs s w h hlen hBw
end Go.Proofs
