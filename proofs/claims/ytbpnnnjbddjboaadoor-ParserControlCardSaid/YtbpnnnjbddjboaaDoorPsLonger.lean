/-
  parser.longer: what it returns of what is kept of a sequence, with one more byte. The table of powers of ten that strconv.Itoa reads is laid.
-/
import Derived.Test.YtbpnnnjbddjboaaDoorPsSeqN
import Derived.Test.YtbpnnnjbddjboaaDoorPsNum
import Derived.Deep.RegionHeld3
import Derived.Deep.Cut
namespace Go.Proofs.YtbpnnnjbddjboaaDoor
open Go.RowKit

def AnyD (W : World) : Prop := W.drawn = W.drawn
theorem AnyD.mk (W : World) : AnyD W := rfl

/-- A contract said of a later world, with what lay at the first one. -/
theorem later1 {w V : World} {f : FuncId} {args : Array Value} {z : Ending} (hV : Below w.heap.size w V) (h : Calls Tryd.prog f args V fun e u => e = z ∧ Below V.heap.size V u) : Calls Tryd.prog f args V fun e u => e = z ∧ Below w.heap.size w u :=
  h.mono fun _ _ ⟨h1, h2⟩ => ⟨h1, hV.trans (h2.mono hV.size)⟩
/-- The table of powers of ten. -/
def PowW (w : World) : Prop := 3 < w.heap.size ∧ Lib.TabIs Tryd.prog w "internal/strconv.uint64pow10" .u64 Lib.pow10Tab
theorem Tryd.gPow : Tryd.prog.globalNamed "internal/strconv.uint64pow10" = some 3 := by kernel_rfl
theorem PowW.below {w w' : World} (h : PowW w) (hb : Below w.heap.size w w') : PowW w' := by
  refine ⟨Nat.lt_of_lt_of_le h.1 hb.size, ?_⟩
  have := h.2
  unfold Lib.TabIs at this ⊢
  rw [← this]
  simp only [World.var?, Tryd.gPow, Option.bind_some, hb.block _ h.1]

theorem itoa_any (n : Nat) (w : World) (hn : n ≤ 9999) (hP : PowW w) :
    Calls Tryd.prog 43 #[.int .i64 (n : Int)] w fun e w' => e = .returned (.string ⟨(Lib.itoa (n : Int)).toArray⟩) ∧ Below w.heap.size w w' :=
  (Tryd.strconv_Itoa (n : Int) (by omega) (by omega) w hP.2).mono fun e w' ⟨he, k, os, hw⟩ => ⟨he, by rw [hw]; exact ⟨rfl, rfl, rfl, by simp [Sort.grow], fun i hi => by
    show ((w.drewN k).heap ++ os)[i]? = _
    rw [Array.getElem?_append_left (by show i < w.heap.size; omega)]
    rfl⟩⟩

theorem last_any (pre : List (Option Nat)) (x : Option Nat) (w : World) (h : (rend pre x).size ≤ 100) :
    Calls Tryd.prog 41 #[.string (rend pre x), .int .u8 59] w fun e w' => e = .returned (.int .i64 (((preL' pre).length : Int) - 1)) ∧ w' = w :=
  (Tryd.strings_LastIndexByte (rend pre x) 59 (by omega) w).mono fun e w' ⟨he, hw⟩ => ⟨by rw [he, ← rend_last pre x]; congr 2; omega, hw⟩
theorem count_any (pre : List (Option Nat)) (x : Option Nat) (w : World) :
    Calls Tryd.prog 42 #[.string (rend pre x), .string ⟨#[59]⟩] w fun e w' => e = .returned (.int .i64 (pre.length : Int)) ∧ w' = w :=
  (Tryd.strings_Count_one (rend pre x) 59 w).mono fun e w' ⟨he, hw⟩ => ⟨by rw [he, rend_count], hw⟩

set_option maxHeartbeats 2000000 in
theorem longer_bad (b : Nat) (w : World) :
    Calls Tryd.prog 34 #[.string ⟨#[63]⟩, .int .u8 (b : Int)] w fun e w' => e = .returned (.string ⟨#[63]⟩) ∧ Below w.heap.size w w' := by
  have H := Lib.hid (fun w => Tryd.strings_LastIndexByte ⟨#[63]⟩ 59 (by decide) w)
  go_enter Tryd.func34, Tryd.ntmps34
  go_wp2_with fail
  go_fit (H.out _)
  rintro e w' ⟨rfl, rfl⟩
  go_wp2_with fail
  go_ret
  exact ⟨rfl, Below.refl _ _⟩

set_option maxHeartbeats 4000000 in
theorem longer_any (pre : List (Option Nat)) (x : Option Nat) (b : Nat) (w : World) (hk : OkP (.seq pre x)) (hb : b < 256) (hP : PowW w) :
    Calls Tryd.prog 34 #[.string (rend pre x), .int .u8 (b : Int)] w fun e w' => e = .returned (.string (stB (stepN pre x b))) ∧ Below w.heap.size w w' := by
  have hsz := rend_small pre x hk
  have H1 := Lib.hid (fun w => last_any pre x w hsz)
  have H2 := Lib.hid (fun w => count_any pre x w)
  have hne := rend_ne pre x
  have hmore := Lib.hid (rend_more pre x)
  have hdig := Lib.hid (rend_digit pre x)
  have htail := Lib.hid (rend_tail pre x)
  have hlen := rend_size pre x
  obtain ⟨O, hO⟩ : ∃ O, stB (stepN pre x b) = O := ⟨_, rfl⟩
  rw [hO]
  obtain ⟨S, hS⟩ : ∃ S, rend pre x = S := ⟨_, rfl⟩
  obtain ⟨L, hL⟩ : ∃ L, (preL' pre).length = L := ⟨_, rfl⟩
  rw [hS] at H1 H2 hne hmore hdig htail hlen hsz
  rw [hL] at H1 hdig htail hlen
  rw [hS]
  have hq : (S.toList == [63]) = false := by
    rw [beq_eq_false_iff_ne, Lib.toList_data]
    exact hne
  have hLs : L ≤ S.size := by omega
  have HO := Lib.hid hO
  clear hne hS hL hlen hO
  by_cases h59 : b = 59
  · subst h59
    by_cases h15 : pre.length < 15
    · have h15i : (pre.length : Int) < 15 := by omega
      have HR : Hid (O = S ++ ⟨#[59]⟩) := by
        show _ = _
        rw [← HO.out, hmore.out]
        unfold stepN
        rw [if_pos ⟨rfl, h15⟩]
        rfl
      clear HO hmore hdig htail
      go_enter Tryd.func34, Tryd.ntmps34
      go_wp2_with fail
      go_fit (H1.out _)
      rintro e w' ⟨rfl, rfl⟩
      go_wp2_with fail
      go_fit (H2.out _)
      rintro e w' ⟨rfl, rfl⟩
      go_wp2_with fail
      go_ret
      exact ⟨by rw [HR.out]; rfl, Below.refl _ _⟩
    · have h15i : (15 : Int) ≤ (pre.length : Int) := by omega
      have HR : Hid (O = ⟨#[63]⟩) := by
        show _ = _
        rw [← HO.out]
        unfold stepN
        rw [if_neg (fun h => h15 h.2), if_neg (by omega)]
        rfl
      clear HO hmore hdig htail
      go_enter Tryd.func34, Tryd.ntmps34
      go_wp2_with fail
      go_fit (H1.out _)
      rintro e w' ⟨rfl, rfl⟩
      go_wp2_with fail
      go_fit (H2.out _)
      rintro e w' ⟨rfl, rfl⟩
      go_wp2_with fail
      go_ret
      exact ⟨by rw [HR.out]; rfl, Below.refl _ _⟩
  · have h59i : ((b : Int) == 59) = false := beq_false_of_ne (by omega)
    by_cases hd : 48 ≤ b ∧ b ≤ 57
    · have d1 : (48 : Int) ≤ (b : Int) := by omega
      have d2 : (b : Int) ≤ 57 := by omega
      have HT := Lib.hid (fun w => textOf_any b w)
      have hdd : ∀ u ∈ (S.extract L S.size ++ oneB b).data.toList, digitU u := by
        rw [app_data, htail.out]
        intro u hu
        rcases List.mem_append.1 hu with hu | hu
        · exact part_dig x u hu
        · rw [List.mem_singleton.1 hu]
          show digitU (UInt8.ofNat b)
          unfold digitU
          rw [UInt8.toNat_ofNat']
          omega
      have HNm := Lib.hid (fun w => number_any (S.extract L S.size ++ oneB b) w hdd)
      have hnum : numL (S.extract L S.size ++ oneB b).data.toList = capN (x.getD 0) (b - 48) := by
        rw [app_data, htail.out]
        exact numL_next x hk.2.2 b hd
      rw [hnum] at HNm
      have HI := Lib.hid (fun W (hW : Below w.heap.size w W) => itoa_any (capN (x.getD 0) (b - 48)) W (by unfold capN; omega) (hP.below hW))
      have HR : Hid (O = S.extract 0 L ++ ⟨(Lib.itoa ((capN (x.getD 0) (b - 48) : Nat) : Int)).toArray⟩) := by
        show _ = _
        rw [← HO.out, hdig.out]
        unfold stepN
        rw [if_neg (fun h => h59 h.1), if_pos hd]
        rfl
      obtain ⟨C, hC⟩ : ∃ C, capN (x.getD 0) (b - 48) = C := ⟨_, rfl⟩
      rw [hC] at HNm HI HR
      obtain ⟨D, hD⟩ : ∃ D : ByteArray, ⟨(Lib.itoa (C : Int)).toArray⟩ = D := ⟨_, rfl⟩
      have e3 : D.size ≤ 4 := by
        rw [← hD, Lib.size_eq]
        show (Lib.itoa (C : Int)).length ≤ 4
        rw [Lib.itoa_nonneg]
        exact digit_len C (by rw [← hC]; unfold capN; omega)
      have e1 : (S.extract L S.size).size ≤ 100 := by rw [Lib.tail_size]; omega
      have e2 : (S.extract 0 L).size ≤ 100 := by rw [head_size S L hLs]; omega
      have e4 : (oneB b).size = 1 := rfl
      obtain ⟨OB, hOB⟩ : ∃ OB, oneB b = OB := ⟨_, rfl⟩
      obtain ⟨T1, hT1⟩ : ∃ T1, S.extract L S.size = T1 := ⟨_, rfl⟩
      obtain ⟨T0, hT0⟩ : ∃ T0, S.extract 0 L = T0 := ⟨_, rfl⟩
      rw [hOB] at e4 HNm HT
      rw [hT1] at e1 HNm
      rw [hT0] at e2 HR
      have f1 : T1.size + OB.size ≤ 9223372036854775807 := by omega
      have f2 : T0.size + D.size ≤ 9223372036854775807 := by omega
      have g1 : ∀ W, (Op.stringOp .add T1 OB).run Tryd.prog W = .ok (.string (T1 ++ OB)) W := fun W => run_string_add_sum W _ _ f1
      have g2 : ∀ W, (Op.stringOp .add T0 D).run Tryd.prog W = .ok (.string (T0 ++ D)) W := fun W => run_string_add_sum W _ _ f2
      clear e1 e2 e3 e4 hOB f1 f2
      rw [hD] at HI HR
      clear HO hmore hdig htail hdd hnum hC hD H2 hP
      go_enter Tryd.func34, Tryd.ntmps34
      go_wp2_with fail
      go_fit (H1.out _)
      rintro e w' ⟨rfl, rfl⟩
      go_wp2_with fail
      have kk := Below.refl w'.heap.size w'
      have k0 : Below w'.heap.size w' w'.drew := kk.drew
      have HT2 := Lib.hid (fun (V : World) (hV : Below w'.heap.size w' V) => later1 hV (HT.out V))
      have HN2 := Lib.hid (fun (V : World) (hV : Below w'.heap.size w' V) => later1 hV (HNm.out V))
      have HI2 := Lib.hid (fun (V : World) (hV : Below w'.heap.size w' V) => later1 hV (HI.out V hV))
      have q1 : (0 : Int) ≤ (L : Int) := by omega
      have q2 : (L : Int) ≤ (S.size : Int) := by omega
      clear HT HNm HI H1
      go_region_held3 AnyD (first | exact AnyD.mk _ | go_keep)
        (first
          | (go_at_call 28; go_fit (HT2.out _ ?_); (first | with_reducible exact kk | with_reducible exact k0); rintro e vv ⟨rfl, kk⟩)
          | (go_at_call 44; go_fit (HN2.out _ ?_); (first | with_reducible exact kk | with_reducible exact k0); rintro e vv ⟨rfl, kk⟩)
          | (go_at_call 43; go_fit (HI2.out _ ?_); (first | with_reducible exact kk | with_reducible exact k0); rintro e vv ⟨rfl, kk⟩))
      all_goals go_wp2_with fail
      all_goals go_ret
      all_goals exact ⟨by rw [HR.out]; rfl, kk⟩
    · have HR : Hid (O = ⟨#[63]⟩) := by
        show _ = _
        rw [← HO.out]
        unfold stepN
        rw [if_neg (fun h => h59 h.1), if_neg hd]
        rfl
      clear HO hmore hdig htail
      by_cases e1 : 48 ≤ b
      · have d1 : (48 : Int) ≤ (b : Int) := by omega
        have d2 : (57 : Int) < (b : Int) := by omega
        go_enter Tryd.func34, Tryd.ntmps34
        go_wp2_with fail
        go_fit (H1.out _)
        rintro e w' ⟨rfl, rfl⟩
        go_wp2_with fail
        go_ret
        exact ⟨by rw [HR.out]; rfl, Below.refl _ _⟩
      · have d1 : (b : Int) < 48 := by omega
        go_enter Tryd.func34, Tryd.ntmps34
        go_wp2_with fail
        go_fit (H1.out _)
        rintro e w' ⟨rfl, rfl⟩
        go_wp2_with fail
        go_ret
        exact ⟨by rw [HR.out]; rfl, Below.refl _ _⟩
end Go.Proofs.YtbpnnnjbddjboaaDoor
