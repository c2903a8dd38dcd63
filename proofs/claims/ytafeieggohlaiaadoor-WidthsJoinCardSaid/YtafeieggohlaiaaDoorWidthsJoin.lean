/-
  For every two texts of at most 500 bytes: the cells of the first are not fewer than its runes and not more than double; if the first has bytes of runes alone, the cells of both put together are the sum of each one's; and wide() holds. So limnerlaw02.WidthsJoin returns true. A longer text: wide() alone, as the law says. No condition but that the two tables read as the program's text lays them, which the card ties.
-/
import Derived.Test.YtafeieggohlaiaaDoorWide
import Derived.Test.YtafeieggohlaiaaDoorWidMath
import Derived.Test.YtafeieggohlaiaaDoorCount
import Derived.Test.YtafeieggohlaiaaDoorValid
import Derived.Test.YtafeieggohlaiaaDoorLaid
namespace Go.Proofs.YtafeieggohlaiaaDoor
open Go.ChangeShapes Go.WideShapes Go.ChangeAt Go.RowKit
open Go.ChangeMaps (open_string shut_string)

set_option maxRecDepth 100000 in
set_option maxHeartbeats 1000000 in
theorem widthsJoin_far (a b : ByteArray) (w : World) (hT : TabW w) (h : 500 < a.size ∨ 500 < b.size) :
    Calls Tryd.prog 6 #[.string a, .string b] w fun e w' => e = .returned (.bool true) ∧ Below w.heap.size w w' := by
  by_cases h1 : 500 < a.size
  · go_enter Tryd.func6, Tryd.ntmps6
    go_wp2_with fail
    refine (wide_ex _ hT).mono ?_
    rintro e w3 ⟨rfl, hb3⟩
    go_wp2_with fail
    go_ret
    exact ⟨rfl, hb3⟩
  · have h2 : 500 < b.size := by omega
    go_enter Tryd.func6, Tryd.ntmps6
    go_wp2_with fail
    refine (wide_ex _ hT).mono ?_
    rintro e w3 ⟨rfl, hb3⟩
    go_wp2_with fail
    go_ret
    exact ⟨rfl, hb3⟩

set_option maxRecDepth 100000 in
set_option maxHeartbeats 4000000 in
theorem widthsJoin_near (a b : ByteArray) (w : World) (hT : TabW w) (ha : a.size ≤ 500) (hb : b.size ≤ 500) :
    Calls Tryd.prog 6 #[.string a, .string b] w fun e w' => e = .returned (.bool true) ∧ Below w.heap.size w w' := by
  have hle := txL_le a (stA a)
  have hl2 := txL_le b (stA b)
  rw [show txL a (stA a) = txN a from rfl] at hle
  rw [show txL b (stA b) = txN b from rfl] at hl2
  have hlen := stA_length a
  have hlen2 := stA_length b
  have hsz := app_size a b
  have hj := txN_join a b
  have h1 := fun w hT => text_any a w (by omega) hT
  have h2 := fun w => count_any a w (by unfold maxLen; omega)
  have h3 := fun w => valid_any a w (by unfold maxLen; omega)
  have h4 := fun w hT => text_any (a ++ b) w (by omega) hT
  have h5 := fun w hT => text_any b w (by omega) hT
  obtain ⟨n, hn⟩ : ∃ n, txN a = n := ⟨_, rfl⟩
  obtain ⟨x, hx⟩ : ∃ x, txN b = x := ⟨_, rfl⟩
  obtain ⟨m, hm⟩ : ∃ m, (stA a).length = m := ⟨_, rfl⟩
  obtain ⟨v, hv⟩ : ∃ v, allOk a (stA a) = v := ⟨_, rfl⟩
  rw [hn] at h1 hle hj
  rw [hx] at h5 hl2 hj
  rw [hm] at h2 hle hlen
  rw [hv] at h3 hj
  have i1 : (m : Int) ≤ (n : Int) := by omega
  have i2 : (n : Int) ≤ 2 * (m : Int) := by omega
  have i3 : (n : Int) ≤ 1000 := by omega
  have i4 : (x : Int) ≤ 1000 := by omega
  have H1 := Lib.hid h1
  have H2 := Lib.hid h2
  have H3 := Lib.hid h3
  have H5 := Lib.hid h5
  clear h1 h2 h3 h5 hn hx hm hv hle hl2 hsz hlen hlen2
  cases v
  · clear hj h4
    go_enter Tryd.func6, Tryd.ntmps6
    go_wp2_with fail
    refine (H1.out _ hT).mono ?_
    rintro e w1 ⟨rfl, b1⟩
    go_wp2_with fail
    refine (H2.out _).mono ?_
    rintro e w2 ⟨rfl, b2⟩
    have k2 := b1.trans (b2.mono b1.size)
    go_wp2_with fail
    refine (H3.out _).mono ?_
    rintro e w3 ⟨rfl, b3⟩
    have k3 := k2.trans (b3.mono k2.size)
    go_wp2_with fail
    refine (wide_ex _ (hT.below k3)).mono ?_
    rintro e w6 ⟨rfl, b6⟩
    go_wp2_with fail
    go_ret
    exact ⟨rfl, k3.trans (b6.mono k3.size)⟩
  · rw [hj rfl, Int.natCast_add] at h4
    have H4 := Lib.hid h4
    clear hj h4
    go_enter Tryd.func6, Tryd.ntmps6
    go_wp2_with fail
    refine (H1.out _ hT).mono ?_
    rintro e w1 ⟨rfl, b1⟩
    go_wp2_with fail
    refine (H2.out _).mono ?_
    rintro e w2 ⟨rfl, b2⟩
    have k2 := b1.trans (b2.mono b1.size)
    go_wp2_with fail
    refine (H3.out _).mono ?_
    rintro e w3 ⟨rfl, b3⟩
    have k3 := k2.trans (b3.mono k2.size)
    go_wp2_with fail
    refine (H4.out _ (hT.below k3)).mono ?_
    rintro e w4 ⟨rfl, b4⟩
    have k4 := k3.trans (b4.mono k3.size)
    go_wp2_with fail
    refine (H5.out _ (hT.below k4)).mono ?_
    rintro e w5 ⟨rfl, b5⟩
    have k5 := k4.trans (b5.mono k4.size)
    go_wp2_with fail
    refine (wide_ex _ (hT.below k5)).mono ?_
    rintro e w6 ⟨rfl, b6⟩
    go_wp2_with fail
    go_ret
    exact ⟨rfl, k5.trans (b6.mono k5.size)⟩

theorem widthsJoin_any (a b : ByteArray) (w : World) (hT : TabW w) :
    Calls Tryd.prog 6 #[.string a, .string b] w fun e w' => e = .returned (.bool true) ∧ Below w.heap.size w w' := by
  by_cases h : 500 < a.size ∨ 500 < b.size
  · exact widthsJoin_far a b w hT h
  · exact widthsJoin_near a b w hT (by omega) (by omega)

-- FRAME tabW_of_laid hL
theorem widthsJoin_met (os : Os) : laidMet Tryd.prog Rows.widthsJoinRow.laid ((laidWorld os).forCall (fun _ _ => 0) ⟨#[], #[.string ⟨#[]⟩, .string ⟨#[]⟩], []⟩).memory :=
  laidMet_of_run' 8 (by kernel_rfl) (by kernel_rfl)
theorem widthsJoin_reads (os : Os) {H : Type} (enc : TypeId × Value → H) : ∃ places, DataW.whole enc Tryd.prog ((laidWorld os).forCall (fun _ _ => 0) ⟨#[], #[.string ⟨#[]⟩, .string ⟨#[]⟩], []⟩).memory Tryd.f6.params.toList Rows.widthsJoinSpec.vars false (#[.string ⟨#[]⟩, .string ⟨#[]⟩] : Array Value).toList 8 = some ([.lit (.string []), .lit (.string [])], [], places) :=
  ⟨[], by kernel_rfl⟩

set_option maxRecDepth 100000 in
theorem widthsJoin_lifted (os : Os) (started : os.Started) (H : Type) (enc : TypeId × Value → H) (F : Stop.Interp) :
    ReturnsInHanded {} Tryd.checked os 6 .any ((OpenSpec.ofChange Rows.widthsJoinSpec).preRow enc Tryd.prog Tryd.f6 Rows.widthsJoinRow.domain false Rows.widthsJoinRow.laid) (((OpenSpec.ofChange Rows.widthsJoinSpec).at F).post enc Tryd.prog Tryd.f6 false true false false) := by
  obtain ⟨places, hx⟩ := widthsJoin_reads os enc
  refine returnsInHanded_of_row (C := Tryd.checked) (s := OpenSpec.ofChange Rows.widthsJoinSpec) own started (by kernel_rfl) Tryd.func6
    (witness_row_at (enc := enc) (C := Tryd.checked) false (laidWorld os) #[.string ⟨#[]⟩, .string ⟨#[]⟩] rfl (by kernel_rfl) (by kernel_rfl) (by kernel_rfl)
      (OpenSpec.preRow_of_cond 8 hx (by kernel_rfl) (fun k hk => by cases hk) (by kernel_rfl) (widthsJoin_met os))) ?_
  intro W base args ds gs before hval0 hW _ _ _ hL _ _
  have hval : ∀ (j : Nat) t v, Tryd.f6.params[j]? = some t → args[j]? = some v → Value.okWide Tryd.prog W .any base t v := hval0
  have hW' := hW
  obtain ⟨p, q, hA0, hV, rfl, hfz, hnd⟩ := hW
  have hA : DataW.TrodAll enc Tryd.prog W 0 (fun _ => true) true Tryd.f6.params.toList args.toList ds p := hA0
  rw [Tryd.params6] at hA hval
  obtain ⟨v0, v1, d0, d1, p0, p1, rfl, rfl, rfl, h0, h1⟩ := trodAll_two hA
  obtain ⟨rfl, rfl⟩ := trodVars_none hV
  obtain ⟨x0, rfl, rfl, rfl, wr0⟩ := open_string Tryd.underlying9 (hval 0 9 v0 rfl rfl) h0
  obtain ⟨x1, rfl, rfl, rfl, wr1⟩ := open_string Tryd.underlying9 (hval 1 9 v1 rfl rfl) h1
  clear hA0 hval0
  simp only [List.append_nil] at hW'
  refine (widthsJoin_any x0 x1 W (tabW_of_laid hL)).mono fun e W' ⟨he, hw⟩ => ?_
  subst he
  exact ⟨_, rfl, _, _, _, [], [], [], hW', trodAll_mk1 (shut_bool Tryd.underlying4 _), trodAll_mk2 (shut_string Tryd.underlying9 wr0) (shut_string Tryd.underlying9 wr1), rfl, hw.frame _, fun h => by cases h⟩

theorem widthsJoin_said : Rows.WidthsJoinSaid :=
  OpenClaim.holds_of_cond 6 Tryd.f6 rfl rfl rfl rfl rfl rfl rfl ⟨rfl, rfl, rfl, rfl, rfl⟩ rfl rfl rfl rfl rfl (by kernel_rfl) Tryd.func6 (by kernel_rfl)
    (of_decide_eq_true (by kernel_rfl)) (by unfold Func.isWrapper; first | (rw [if_pos (by decide +kernel)]; kernel_rfl) | (rw [if_neg (by decide +kernel)]; exact ⟨rfl, rfl⟩))
    (fun os started H enc _ F => by rw [OpenClaim.pre_eq_preRow]; exact widthsJoin_lifted os started H enc F)

/-- No parameter wants a stand-in; the program's own looks are off: what the card asks. -/
theorem widthsJoin_plain (f : FuncId) (fn : Func) (hf : Tryd.pinned.checked.prog.funcNamed "limner/limnerlaw02.WidthsJoin" = some f) (hfn : Tryd.pinned.checked.prog.funcs[f]? = some fn) :
    false = Tryd.pinned.checked.prog.looks [] ∧ ∀ (j : Nat) t, fn.params[j]? = some t → Tryd.pinned.checked.prog.wantsStandIn t = false := by
  obtain rfl : f = 6 := Option.some.inj ((show Tryd.prog.funcNamed "limner/limnerlaw02.WidthsJoin" = some 6 by kernel_rfl).symm.trans hf) |>.symm
  obtain rfl : fn = Tryd.f6 := (Option.some.inj (Tryd.func6.symm.trans hfn)).symm
  refine ⟨by kernel_rfl, fun j t ht => ?_⟩
  rw [Tryd.params6] at ht
  have hm := Array.mem_of_getElem? ht
  simp only [List.mem_toArray, List.mem_cons, List.not_mem_nil, or_false] at hm
  rcases hm with rfl | rfl
  · exact (show Tryd.prog.wantsStandIn 9 = false by kernel_rfl)
  · exact (show Tryd.prog.wantsStandIn 9 = false by kernel_rfl)

theorem widthsJoin_card : Rows.WidthsJoinCardSaid :=
  Claim7.holds_tied_plain_at .later [] _ _ _ _ widthsJoin_said (fun _ h => by cases h) (by kernel_rfl) (fun _ h => by cases h) widthsJoin_row_tie rfl ⟨rfl, rfl⟩ (by kernel_rfl) rfl widthsJoin_plain (by kernel_rfl)
end Go.Proofs.YtafeieggohlaiaaDoor
