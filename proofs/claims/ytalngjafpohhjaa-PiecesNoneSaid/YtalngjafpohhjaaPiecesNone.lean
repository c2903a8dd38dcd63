/-
  Whatever is asked of a nil text, or of one that its package did not make: nothing, 0, or the error 1; so the law returns true. For every act; no condition.
-/
import Derived.Test.YtalngjafpohhjaaPcPut
import Derived.Test.YtalngjafpohhjaaPcLines
import Derived.Test.YtalngjafpohhjaaPcOpen
namespace Go.Proofs.Ytalngjafpohhjaa
open Go.ChangeShapes Go.WideShapes Go.ChangeAt Go.RowKit

set_option maxRecDepth 100000 in
set_option maxHeartbeats 4000000 in
theorem piecesNone_any (k f t : Int) (s : ByteArray) (w : World) :
    Calls Try.prog 4 #[.agg #[.int .u8 k, .int .i64 f, .int .i64 t, .string s]] w fun e w' => e = .returned (.bool true) ∧ Below w.heap.size w w' := by
  have hb0 : Below w.heap.size w (w.alloc (.cells #[.int .u8 k, .int .i64 f, .int .i64 t, .string s] 33)) := (Below.refl _ _).alloc (Nat.le_refl _) _
  have hX : ∀ j v, (#[.int .u8 k, .int .i64 f, .int .i64 t, .string s] : Array Value)[j]? = some v → (w.alloc (.cells #[.int .u8 k, .int .i64 f, .int .i64 t, .string s] 33)).cell? ⟨w.heap.size, j, none⟩ = some v := fun j v h => by
    rw [cell_of_row _ _ _ _ 33 (0, 0) (heap_alloc_new w _)]; exact h
  have c1 := hX 1 _ rfl
  have c2 := hX 2 _ rfl
  have c3 := hX 3 _ rfl
  have H1 := Lib.hid (fun v w (h : NoneW w v) => ins_none f s w h)
  have H2 := Lib.hid (fun v w (h : NoneW w v) => del_none f t w h)
  have H3 := Lib.hid (fun v w (h : NoneW w v) => len_none w h)
  have H4 := Lib.hid (fun v w (h : NoneW w v) => string_none w h)
  have H5 := Lib.hid (fun v w (h : NoneW w v) => slice_none f t w h)
  have H6 := Lib.hid (fun v w (h : NoneW w v) => pieces_none w h)
  have H7 := Lib.hid (fun v w (h : NoneW w v) => lines_none w h)
  clear hX
  go_enter Try.func4, Try.ntmps4
  go_wp2
  go_loopw [3, 4] (fun s3 s4 wr => ∃ i : Nat, s4 = .int .i64 (i : Int) ∧ i ≤ 2 ∧ NoneW wr s3 ∧ Below w.heap.size w wr ∧ wr.cell? ⟨w.heap.size, 1, none⟩ = some (.int .i64 f) ∧ wr.cell? ⟨w.heap.size, 2, none⟩ = some (.int .i64 t) ∧ wr.cell? ⟨w.heap.size, 3, none⟩ = some (.string s)) (fun _ s4 _ => 2 - (intOf s4).toNat)
  case atStart => exact ⟨0, rfl, by omega, .inl rfl, hb0, c1, c2, c3⟩
  case round =>
    clear c1 c2 c3
    obtain ⟨i, rfl, hi, hN, hbw, c1, c2, c3⟩ := hrel
    by_cases hlt : i < 2
    · have K1 := Lib.hid (H1.out _ _ hN)
      have K2 := Lib.hid (H2.out _ _ hN)
      have K3 := Lib.hid (H3.out _ _ hN)
      have K4 := Lib.hid (H4.out _ _ hN)
      have K5 := Lib.hid (H5.out _ _ hN)
      have K6 := Lib.hid (H6.out _ _ hN)
      have K7 := Lib.hid (H7.out _ _ hN)
      clear H1 H2 H3 H4 H5 H6 H7 hN
      go_wp2_with fail
      refine K1.out.mono ?_
      rintro e w1 ⟨rfl, rfl⟩
      go_wp2_with fail
      refine K2.out.mono ?_
      rintro e w1 ⟨rfl, rfl⟩
      go_wp2_with fail
      refine K3.out.mono ?_
      rintro e w1 ⟨rfl, rfl⟩
      go_wp2_with fail
      refine K4.out.mono ?_
      rintro e w1 ⟨rfl, rfl⟩
      go_wp2_with fail
      refine K5.out.mono ?_
      rintro e w1 ⟨rfl, rfl⟩
      go_wp2_with fail
      refine K6.out.mono ?_
      rintro e w1 ⟨rfl, rfl⟩
      go_wp2_with fail
      refine K7.out.mono ?_
      rintro e w1 ⟨rfl, rfl⟩
      go_wp2
      go_roundw
      case rel =>
        have hsz := hbw.size
        have hlt1 : w.heap.size < w1.heap.size := cell_lt (p := ⟨w.heap.size, 1, none⟩) c1
        refine ⟨i + 1, by go_num, by omega, .inr ⟨_, rfl, ?_⟩, hbw.alloc hsz _, ?_, ?_, ?_⟩
        · rw [cell_of_row _ _ _ _ 45 (0, 0) (heap_alloc_new _ _)]; rfl
        all_goals (rw [World.cell?_alloc_lt _ _ _ hlt1]; assumption)
      case measure => simp [intOf]; omega
    · have HP := Lib.hid (put_any wr)
      clear H1 H2 H3 H4 H5 H6 H7 hN
      go_wp2_with fail
      refine HP.out.mono ?_
      rintro e w3 ⟨rfl, b3⟩
      go_wp2
      go_ret
      exact ⟨rfl, hbw.trans (b3.mono hbw.size)⟩

-- FRAME
theorem piecesNone_own : ownKnob Try.prog.godebug = none := by kernel_rfl

set_option maxRecDepth 100000 in
theorem piecesNone_lifted (os : Os) (started : os.Started) (H : Type) (enc : TypeId × Value → H) :
    ReturnsInHanded {} Try.checked os 4 .any (Rows.piecesNoneSpec.pre6 enc Try.prog Try.f4 Rows.piecesNoneRow.domain false) (Rows.piecesNoneSpec.post enc Try.prog Try.f4 false true false false) := by
  refine returnsInHanded_of_change (C := Try.checked) piecesNone_own started (by kernel_rfl) Try.func4
    (ChangeSpec.witness6 (enc := enc) (C := Try.checked) false ⟨#[], #[.agg #[.int .u8 0, .int .i64 0, .int .i64 0, .string ⟨#[]⟩]], []⟩ 8 (by kernel_rfl) (by kernel_rfl) (by kernel_rfl) (by kernel_rfl)) ?_
  intro W base args ds gs before hval0 hW hcnd _
  have hval : ∀ (j : Nat) t v, Try.f4.params[j]? = some t → args[j]? = some v → Value.okWide Try.prog W .any base t v := hval0
  have hW' := hW
  obtain ⟨p, q, hA0, hV, rfl, hfz, hnd⟩ := hW
  have hA : DataW.TrodAll enc Try.prog W 0 (fun _ => true) true Try.f4.params.toList args.toList ds p := hA0
  rw [Try.params4] at hA hval
  obtain ⟨v0, d0, rfl, rfl, h0⟩ := trodAll_one hA
  obtain ⟨rfl, rfl⟩ := trodVars_none hV
  have k0 := h0
  obtain ⟨x0A, x0B, x0C, x0D, rfl⟩ := open_act (hval 0 33 v0 rfl rfl) h0
  clear hA0 hval0
  simp only [List.append_nil] at hW'
  have hlt : ∀ x ∈ p, x.block < W.heap.size := fun x hx => hW'.lt x (by simp [hx])
  refine (piecesNone_any x0A x0B x0C x0D W).mono fun e W' ⟨he, hw⟩ => ?_
  subst he
  exact ⟨_, rfl, _, _, _, [], p, [], hW', trodAll_mk1 (shut_bool Try.underlying4 _), trodAll_mk1 (Below.trod Try.laidOut (by kernel_rfl) (of_decide_eq_true (by kernel_rfl)) k0 hw (fun x hx => hlt x (by simp [hx]))), rfl, hw.frame _, fun h => by cases h⟩

theorem piecesNone_holds : Rows.PiecesNoneSaid :=
  OpenClaim.holds_of_wide 4 Try.f4 rfl rfl rfl rfl rfl rfl rfl ⟨rfl, rfl, rfl, rfl, rfl⟩ rfl rfl rfl rfl rfl (by kernel_rfl) Try.func4 (by kernel_rfl)
    (of_decide_eq_true (by kernel_rfl)) (by unfold Func.isWrapper; first | (rw [if_pos (by decide +kernel)]; kernel_rfl) | (rw [if_neg (by decide +kernel)]; exact ⟨rfl, rfl⟩))
    (fun os started H enc _ => piecesNone_lifted os started H enc)
end Go.Proofs.Ytalngjafpohhjaa
