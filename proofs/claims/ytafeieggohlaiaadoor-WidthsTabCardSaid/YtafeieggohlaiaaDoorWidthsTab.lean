/-
  For every column from 0 to 65535: Tab tells 1 to 8, and the column with that added is a multiple of 8; and wide() holds. So limnerlaw02.WidthsTab returns true. No condition but that the two tables read as the program's text lays them, which the card ties.
-/
import Derived.Test.YtafeieggohlaiaaDoorWide
import Derived.Test.YtafeieggohlaiaaDoorLaid
namespace Go.Proofs.YtafeieggohlaiaaDoor
open Go.ChangeShapes Go.WideShapes Go.ChangeAt Go.RowKit
open Go.ChangeMaps (open_string shut_string)

set_option maxRecDepth 100000 in
set_option maxHeartbeats 1000000 in
theorem widthsTab_any (c : Int) (w : World) (hT : TabW w) (h0 : 0 ≤ c) (h1 : c ≤ 65535) :
    Calls Tryd.prog 7 #[.int .u16 c] w fun e w' => e = .returned (.bool true) ∧ Below w.heap.size w w' := by
  have hn : tabN c = 8 - c % 8 := by unfold tabN; rw [if_neg (by omega)]
  have ht := fun w => tab_any c w (by omega)
  obtain ⟨n, hn2⟩ : ∃ n, tabN c = n := ⟨_, rfl⟩
  rw [hn2] at ht hn
  have b1 : 1 ≤ n := by omega
  have b2 : n ≤ 8 := by omega
  have b3 : ((c + n) % 8 == 0) = true := by rw [beq_iff_eq]; omega
  have H := Lib.hid ht
  clear ht hn hn2
  go_enter Tryd.func7, Tryd.ntmps7
  go_wp2_with fail
  refine (H.out _).mono ?_
  rintro e w1 ⟨rfl, rfl⟩
  go_wp2_with fail
  refine (wide_ex _ hT).mono ?_
  rintro e w2 ⟨rfl, hb⟩
  go_wp2_with fail
  go_ret
  exact ⟨rfl, hb⟩

-- FRAME tabW_of_laid hL
theorem widthsTab_met (os : Os) : laidMet Tryd.prog Rows.widthsTabRow.laid ((laidWorld os).forCall (fun _ _ => 0) ⟨#[], #[.int .u16 0], []⟩).memory :=
  laidMet_of_run' 8 (by kernel_rfl) (by kernel_rfl)
theorem widthsTab_reads (os : Os) {H : Type} (enc : TypeId × Value → H) : ∃ places, DataW.whole enc Tryd.prog ((laidWorld os).forCall (fun _ _ => 0) ⟨#[], #[.int .u16 0], []⟩).memory Tryd.f7.params.toList Rows.widthsTabSpec.vars false (#[.int .u16 0] : Array Value).toList 8 = some ([.lit (.int .u16 0)], [], places) :=
  ⟨[], by kernel_rfl⟩

set_option maxRecDepth 100000 in
theorem widthsTab_lifted (os : Os) (started : os.Started) (H : Type) (enc : TypeId × Value → H) (F : Stop.Interp) :
    ReturnsInHanded {} Tryd.checked os 7 .any ((OpenSpec.ofChange Rows.widthsTabSpec).preRow enc Tryd.prog Tryd.f7 Rows.widthsTabRow.domain false Rows.widthsTabRow.laid) (((OpenSpec.ofChange Rows.widthsTabSpec).at F).post enc Tryd.prog Tryd.f7 false true false false) := by
  obtain ⟨places, hx⟩ := widthsTab_reads os enc
  refine returnsInHanded_of_row (C := Tryd.checked) (s := OpenSpec.ofChange Rows.widthsTabSpec) own started (by kernel_rfl) Tryd.func7
    (witness_row_at (enc := enc) (C := Tryd.checked) false (laidWorld os) #[.int .u16 0] rfl (by kernel_rfl) (by kernel_rfl) (by kernel_rfl)
      (OpenSpec.preRow_of_cond 8 hx (by kernel_rfl) (fun k hk => by cases hk) (by kernel_rfl) (widthsTab_met os))) ?_
  intro W base args ds gs before hval0 hW _ _ _ hL _ _
  have hval : ∀ (j : Nat) t v, Tryd.f7.params[j]? = some t → args[j]? = some v → Value.okWide Tryd.prog W .any base t v := hval0
  have hW' := hW
  obtain ⟨p, q, hA0, hV, rfl, hfz, hnd⟩ := hW
  have hA : DataW.TrodAll enc Tryd.prog W 0 (fun _ => true) true Tryd.f7.params.toList args.toList ds p := hA0
  rw [Tryd.params7] at hA hval
  obtain ⟨v0, d0, rfl, rfl, h0⟩ := trodAll_one hA
  obtain ⟨rfl, rfl⟩ := trodVars_none hV
  obtain ⟨x0, rfl, rfl, rfl, wr0⟩ := open_int Tryd.underlying32 (hval 0 32 v0 rfl rfl) h0
  clear hA0 hval0
  simp only [List.append_nil] at hW'
  have rg0 : (0 : Int) ≤ x0 ∧ x0 ≤ 65535 := by
    have h := wr0
    simp only [Lit.wf, Bool.and_eq_true, decide_eq_true_eq] at h
    rwa [show IntKind.u16.min = 0 by decide, show IntKind.u16.max = 65535 by decide] at h
  refine (widthsTab_any x0 W (tabW_of_laid hL) rg0.1 rg0.2).mono fun e W' ⟨he, hw⟩ => ?_
  subst he
  exact ⟨_, rfl, _, _, _, [], [], [], hW', trodAll_mk1 (shut_bool Tryd.underlying4 _), trodAll_mk1 (shut_int Tryd.underlying32 wr0), rfl, hw.frame _, fun h => by cases h⟩

theorem widthsTab_said : Rows.WidthsTabSaid :=
  OpenClaim.holds_of_cond 7 Tryd.f7 rfl rfl rfl rfl rfl rfl rfl ⟨rfl, rfl, rfl, rfl, rfl⟩ rfl rfl rfl rfl rfl (by kernel_rfl) Tryd.func7 (by kernel_rfl)
    (of_decide_eq_true (by kernel_rfl)) (by unfold Func.isWrapper; first | (rw [if_pos (by decide +kernel)]; kernel_rfl) | (rw [if_neg (by decide +kernel)]; exact ⟨rfl, rfl⟩))
    (fun os started H enc _ F => by rw [OpenClaim.pre_eq_preRow]; exact widthsTab_lifted os started H enc F)

/-- No parameter wants a stand-in; the program's own looks are off: what the card asks. -/
theorem widthsTab_plain (f : FuncId) (fn : Func) (hf : Tryd.pinned.checked.prog.funcNamed "limner/limnerlaw02.WidthsTab" = some f) (hfn : Tryd.pinned.checked.prog.funcs[f]? = some fn) :
    false = Tryd.pinned.checked.prog.looks [] ∧ ∀ (j : Nat) t, fn.params[j]? = some t → Tryd.pinned.checked.prog.wantsStandIn t = false := by
  obtain rfl : f = 7 := Option.some.inj ((show Tryd.prog.funcNamed "limner/limnerlaw02.WidthsTab" = some 7 by kernel_rfl).symm.trans hf) |>.symm
  obtain rfl : fn = Tryd.f7 := (Option.some.inj (Tryd.func7.symm.trans hfn)).symm
  refine ⟨by kernel_rfl, fun j t ht => ?_⟩
  rw [Tryd.params7] at ht
  have hm := Array.mem_of_getElem? ht
  simp only [List.mem_toArray, List.mem_cons, List.not_mem_nil, or_false] at hm
  subst hm
  exact (show Tryd.prog.wantsStandIn 32 = false by kernel_rfl)

theorem widthsTab_card : Rows.WidthsTabCardSaid :=
  Claim7.holds_tied_plain_at .later [] _ _ _ _ widthsTab_said (fun _ h => by cases h) (by kernel_rfl) (fun _ h => by cases h) widthsTab_row_tie rfl ⟨rfl, rfl⟩ (by kernel_rfl) rfl widthsTab_plain (by kernel_rfl)
end Go.Proofs.YtafeieggohlaiaaDoor
