/-
  limnerlaw07.ParserControl: THE CARD: for every input the law returns true, and each argument reads as it did. The five package variables (tables of the library) are tied to the program's text as the seat holds it: its pruned copy.
-/
import Derived.Test.YtbpnnnjbddjboaaDoorParserControl
import Derived.Test.YtbpnnnjbddjboaaDoorPsLaid
import Derived.ChangeMaps5
import Derived.Test.YtbpnnnjbddjboaaDoorPsOpen
namespace Go.Proofs.YtbpnnnjbddjboaaDoor
open Go.ChangeShapes Go.WideShapes Go.ChangeAt Go.RowKit
open Go.ChangeMaps (open_string shut_string)

theorem parserControl_any (x : Prt) (pv : Value) (at' c : Int) (w : World) (hP : LaidP w) (h : PrtW w pv x) (a0 : 0 ≤ at') (a1 : at' ≤ 255) (c0 : 0 ≤ c) (c1 : c ≤ 255) :
    Calls Tryd.prog 7 #[.agg #[.int .u8 x.1, .int .i32 x.2.1, .int .u8 x.2.2.1, pv], .int .u8 at', .int .u8 c] w fun e w' => e = .returned (.bool true) ∧ Below w.heap.size w w' := ctl_any x pv at' c w hP h a0 a1 c0 c1

-- FRAME laidP_of_laid hL
theorem parserControl_met (os : Os) : laidMet Tryd.prog Rows.parserControlRow.laid ((laidWorld os).forCall (fun _ _ => 0) ⟨#[], #[.agg #[.int .u8 0, .int .i32 0, .int .u8 0, .slice none 0 0], .int .u8 0, .int .u8 0], []⟩).memory :=
  laidMet_of_run' 8 (by kernel_rfl) (by kernel_rfl)
theorem parserControl_reads (os : Os) {H : Type} (enc : TypeId × Value → H) : ∃ places, DataW.whole enc Tryd.prog ((laidWorld os).forCall (fun _ _ => 0) ⟨#[], #[.agg #[.int .u8 0, .int .i32 0, .int .u8 0, .slice none 0 0], .int .u8 0, .int .u8 0], []⟩).memory Tryd.f7.params.toList Rows.parserControlSpec.vars false (#[.agg #[.int .u8 0, .int .i32 0, .int .u8 0, .slice none 0 0], .int .u8 0, .int .u8 0] : Array Value).toList 8 = some ([.agg [.lit (.int .u8 0), .lit (.int .i32 0), .lit (.int .u8 0), .nil], .lit (.int .u8 0), .lit (.int .u8 0)], [], places) :=
  ⟨[], by kernel_rfl⟩

set_option maxRecDepth 100000 in
theorem parserControl_lifted (os : Os) (started : os.Started) (H : Type) (enc : TypeId × Value → H) (F : Stop.Interp) :
    ReturnsInHanded {} Tryd.checked os 7 .any ((OpenSpec.ofChange Rows.parserControlSpec).preRow enc Tryd.prog Tryd.f7 Rows.parserControlRow.domain false Rows.parserControlRow.laid) (((OpenSpec.ofChange Rows.parserControlSpec).at F).post enc Tryd.prog Tryd.f7 false true false false) := by
  obtain ⟨places, hx⟩ := parserControl_reads os enc
  refine returnsInHanded_of_row (C := Tryd.checked) (s := OpenSpec.ofChange Rows.parserControlSpec) own started (by kernel_rfl) Tryd.func7
    (witness_row_at (enc := enc) (C := Tryd.checked) false (laidWorld os) #[.agg #[.int .u8 0, .int .i32 0, .int .u8 0, .slice none 0 0], .int .u8 0, .int .u8 0] rfl (by kernel_rfl) (by kernel_rfl) (by kernel_rfl)
      (OpenSpec.preRow_of_cond 8 hx (by kernel_rfl) (fun k hk => by cases hk) (by kernel_rfl) (parserControl_met os))) ?_
  intro W base args ds gs before hval0 hW _ _ _ hL _ _
  have hval : ∀ (j : Nat) t v, Tryd.f7.params[j]? = some t → args[j]? = some v → Value.okWide Tryd.prog W .any base t v := hval0
  have hW' := hW
  obtain ⟨p, q, hA0, hV, rfl, hfz, hnd⟩ := hW
  have hA : DataW.TrodAll enc Tryd.prog W 0 (fun _ => true) true Tryd.f7.params.toList args.toList ds p := hA0
  rw [Tryd.params7] at hA hval
  obtain ⟨v0, v1, v2, d0, d1, d2, p0, p1, p2, rfl, rfl, rfl, h0, h1, h2⟩ := trodAll_three hA
  obtain ⟨rfl, rfl⟩ := trodVars_none hV
  have k0 := h0
  obtain ⟨x0, pv0, rfl, hS0⟩ := open_part (hval 0 40 v0 rfl rfl) h0
  obtain ⟨x1, rfl, rfl, rfl, wr1⟩ := open_int Tryd.underlying5 (hval 1 5 v1 rfl rfl) h1
  obtain ⟨x2, rfl, rfl, rfl, wr2⟩ := open_int Tryd.underlying5 (hval 2 5 v2 rfl rfl) h2
  clear hA0 hval0
  simp only [List.append_nil] at hW'
  have hlt : ∀ x ∈ (p0), x.block < W.heap.size := fun x hx => hW'.lt x (by simp [hx])
  have rg1 : (0 : Int) ≤ x1 ∧ x1 ≤ 255 := by
    have h := wr1
    simp only [Lit.wf, Bool.and_eq_true, decide_eq_true_eq] at h
    rwa [show IntKind.u8.min = 0 by decide, show IntKind.u8.max = 255 by decide] at h
  have rg2 : (0 : Int) ≤ x2 ∧ x2 ≤ 255 := by
    have h := wr2
    simp only [Lit.wf, Bool.and_eq_true, decide_eq_true_eq] at h
    rwa [show IntKind.u8.min = 0 by decide, show IntKind.u8.max = 255 by decide] at h
  refine (parserControl_any x0 pv0 x1 x2 W (laidP_of_laid hL) hS0 rg1.1 rg1.2 rg2.1 rg2.2).mono fun e W' ⟨he, hw⟩ => ?_
  subst he
  exact ⟨_, rfl, _, _, _, [], (p0), [], hW', trodAll_mk1 (shut_bool Tryd.underlying4 _), (by have h := trodAll_mk3 (Below.trod Tryd.laidOut (by kernel_rfl) (of_decide_eq_true (by kernel_rfl)) k0 hw (fun x hx => hlt x (by simp [hx]))) (shut_int Tryd.underlying5 wr1) (shut_int Tryd.underlying5 wr2); simp only [List.append_nil] at h; exact h), rfl, hw.frame _, fun h => by cases h⟩

theorem parserControl_said : Rows.ParserControlSaid :=
  OpenClaim.holds_of_cond 7 Tryd.f7 rfl rfl rfl rfl rfl rfl rfl ⟨rfl, rfl, rfl, rfl, rfl⟩ rfl rfl rfl rfl rfl (by kernel_rfl) Tryd.func7 (by kernel_rfl)
    (of_decide_eq_true (by kernel_rfl)) (by unfold Func.isWrapper; first | (rw [if_pos (by decide +kernel)]; kernel_rfl) | (rw [if_neg (by decide +kernel)]; exact ⟨rfl, rfl⟩))
    (fun os started H enc _ F => by rw [OpenClaim.pre_eq_preRow]; exact parserControl_lifted os started H enc F)

/-- No parameter wants a stand-in; the program's own looks are off: what the card asks. -/
theorem parserControl_plain (f : FuncId) (fn : Func) (hf : Tryd.pinned.checked.prog.funcNamed "limner/limnerlaw07.ParserControl" = some f) (hfn : Tryd.pinned.checked.prog.funcs[f]? = some fn) :
    false = Tryd.pinned.checked.prog.looks [] ∧ ∀ (j : Nat) t, fn.params[j]? = some t → Tryd.pinned.checked.prog.wantsStandIn t = false := by
  obtain rfl : f = 7 := Option.some.inj ((show Tryd.prog.funcNamed "limner/limnerlaw07.ParserControl" = some 7 by kernel_rfl).symm.trans hf) |>.symm
  obtain rfl : fn = Tryd.f7 := (Option.some.inj (Tryd.func7.symm.trans hfn)).symm
  refine ⟨by kernel_rfl, fun j t ht => ?_⟩
  rw [Tryd.params7] at ht
  have hm := Array.mem_of_getElem? ht
  simp only [List.mem_toArray, List.mem_cons, List.not_mem_nil, or_false] at hm
  rcases hm with rfl | rfl | rfl
  · exact (show Tryd.prog.wantsStandIn 40 = false by kernel_rfl)
  · exact (show Tryd.prog.wantsStandIn 5 = false by kernel_rfl)
  · exact (show Tryd.prog.wantsStandIn 5 = false by kernel_rfl)

theorem parserControl_card : Rows.ParserControlCardSaid :=
  Claim7.holds_tied_plain_at .later [] _ _ _ _ parserControl_said (fun _ h => by cases h) (by kernel_rfl) (fun _ h => by cases h) parserControl_row_tie rfl ⟨rfl, rfl⟩ (by kernel_rfl) rfl parserControl_plain (by kernel_rfl)
end Go.Proofs.YtbpnnnjbddjboaaDoor
