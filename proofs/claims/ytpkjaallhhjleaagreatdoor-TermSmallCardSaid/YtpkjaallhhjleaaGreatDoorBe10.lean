/-
  Texts of this proof, one behind the other; each begins with its own remark.
-/
import Derived.Deep.RegionHeld3
import Derived.Deep.Cut
import Derived.BigRegion
import Derived.Test.YtpkjaallhhjleaaGreatDoorBe9
import Derived.Test.YtpkjaallhhjleaaGreatDoorBe8
import Derived.Test.YtpkjaallhhjleaaGreatDoorBe6
import Derived.Test.YtpkjaallhhjleaaGreatDoorBe1
/-
  parser.longer: what it returns of what is kept of a sequence, with one more byte. The table of powers of ten that strconv.Itoa reads is laid.
-/
namespace Go.Proofs.YtpkjaallhhjleaaGreatDoor
open Go.RowKit

def AnyDp (W : World) : Prop := W.drawn = W.drawn
theorem AnyDp.mk (W : World) : AnyDp W := rfl

/-- A contract said of a later world, with what lay at the first one. -/
theorem later1 {w V : World} {f : FuncId} {args : Array Value} {z : Ending} (hV : Below w.heap.size w V) (h : Calls Tryz.prog f args V fun e u => e = z ∧ Below V.heap.size V u) : Calls Tryz.prog f args V fun e u => e = z ∧ Below w.heap.size w u :=
  h.mono fun _ _ ⟨h1, h2⟩ => ⟨h1, hV.trans (h2.mono hV.size)⟩
/-- The table of powers of ten. -/
def PowW (w : World) : Prop := 7 < w.heap.size ∧ Lib.TabIs Tryz.prog w "internal/strconv.uint64pow10" .u64 Lib.pow10Tab
theorem Tryz.gPow : Tryz.prog.globalNamed "internal/strconv.uint64pow10" = some 7 := by kernel_rfl
theorem PowW.below {w w' : World} (h : PowW w) (hb : Below w.heap.size w w') : PowW w' := by
  refine ⟨Nat.lt_of_lt_of_le h.1 hb.size, ?_⟩
  have := h.2
  unfold Lib.TabIs at this ⊢
  rw [← this]
  simp only [World.var?, Tryz.gPow, Option.bind_some, hb.block _ h.1]

theorem itoa_any (n : Nat) (w : World) (hn : n ≤ 9999) (hP : PowW w) :
    Calls Tryz.prog 113 #[.int .i64 (n : Int)] w fun e w' => e = .returned (.string ⟨(Lib.itoa (n : Int)).toArray⟩) ∧ Below w.heap.size w w' :=
  (Tryz.strconv_Itoa (n : Int) (by omega) (by omega) w hP.2).mono fun e w' ⟨he, k, os, hw⟩ => ⟨he, by rw [hw]; exact ⟨rfl, rfl, rfl, by simp [Sort.grow], fun i hi => by
    show ((w.drewN k).heap ++ os)[i]? = _
    rw [Array.getElem?_append_left (by show i < w.heap.size; omega)]
    rfl⟩⟩

theorem last_any (pre : List (Option Nat)) (x : Option Nat) (w : World) (h : (rend pre x).size ≤ 100) :
    Calls Tryz.prog 111 #[.string (rend pre x), .int .u8 59] w fun e w' => e = .returned (.int .i64 (((preL' pre).length : Int) - 1)) ∧ w' = w :=
  (Tryz.strings_LastIndexByte (rend pre x) 59 (by omega) w).mono fun e w' ⟨he, hw⟩ => ⟨by rw [he, ← rend_last pre x]; congr 2; omega, hw⟩
theorem count_any (pre : List (Option Nat)) (x : Option Nat) (w : World) :
    Calls Tryz.prog 112 #[.string (rend pre x), .string ⟨#[59]⟩] w fun e w' => e = .returned (.int .i64 (pre.length : Int)) ∧ w' = w :=
  (Tryz.strings_Count_one (rend pre x) 59 w).mono fun e w' ⟨he, hw⟩ => ⟨by rw [he, rend_count], hw⟩

set_option maxHeartbeats 2000000 in
theorem longer_bad (b : Nat) (w : World) :
    Calls Tryz.prog 89 #[.string ⟨#[63]⟩, .int .u8 (b : Int)] w fun e w' => e = .returned (.string ⟨#[63]⟩) ∧ Below w.heap.size w w' := by
  have H := Lib.hid (fun w => Tryz.strings_LastIndexByte ⟨#[63]⟩ 59 (by decide) w)
  go_enter Tryz.func89, Tryz.ntmps89
  go_wp2_with fail
  go_fit (H.out _)
  rintro e w' ⟨rfl, rfl⟩
  go_wp2_with fail
  go_ret
  exact ⟨rfl, Below.refl _ _⟩

set_option maxHeartbeats 4000000 in
theorem longer_any (pre : List (Option Nat)) (x : Option Nat) (b : Nat) (w : World) (hk : OkP (.seq pre x)) (hb : b < 256) (hP : PowW w) :
    Calls Tryz.prog 89 #[.string (rend pre x), .int .u8 (b : Int)] w fun e w' => e = .returned (.string (stB (stepN pre x b))) ∧ Below w.heap.size w w' := by
  have hsz := rend_small pre x hk
  have H1 := Lib.hid (fun w => last_any pre x w hsz)
  have H2 := Lib.hid (fun w => count_any pre x w)
  have hne := rend_ne pre x
  have hmore := Lib.hid (rend_more pre x)
  have hdig := Lib.hid (rend_digit pre x)
  have htail := Lib.hid (rend_tail pre x)
  have hlen := rend_size pre x
  obtain ⟨O, hO⟩ : ∃ O, stB (stepN pre x b) = O := ⟨_, rfl⟩
  rw [hO]
  obtain ⟨S, hS⟩ : ∃ S, rend pre x = S := ⟨_, rfl⟩
  obtain ⟨L, hL⟩ : ∃ L, (preL' pre).length = L := ⟨_, rfl⟩
  rw [hS] at H1 H2 hne hmore hdig htail hlen hsz
  rw [hL] at H1 hdig htail hlen
  rw [hS]
  have hq : (S.toList == [63]) = false := by
    rw [beq_eq_false_iff_ne, Lib.toList_data]
    exact hne
  have hLs : L ≤ S.size := by omega
  have HO := Lib.hid hO
  clear hne hS hL hlen hO
  by_cases h59 : b = 59
  · subst h59
    by_cases h15 : pre.length < 15
    · have h15i : (pre.length : Int) < 15 := by omega
      have HR : Hid (O = S ++ ⟨#[59]⟩) := by
        show _ = _
        rw [← HO.out, hmore.out]
        unfold stepN
        rw [if_pos ⟨rfl, h15⟩]
        rfl
      clear HO hmore hdig htail
      go_enter Tryz.func89, Tryz.ntmps89
      go_wp2_with fail
      go_fit (H1.out _)
      rintro e w' ⟨rfl, rfl⟩
      go_wp2_with fail
      go_fit (H2.out _)
      rintro e w' ⟨rfl, rfl⟩
      go_wp2_with fail
      go_ret
      exact ⟨by rw [HR.out]; rfl, Below.refl _ _⟩
    · have h15i : (15 : Int) ≤ (pre.length : Int) := by omega
      have HR : Hid (O = ⟨#[63]⟩) := by
        show _ = _
        rw [← HO.out]
        unfold stepN
        rw [if_neg (fun h => h15 h.2), if_neg (by omega)]
        rfl
      clear HO hmore hdig htail
      go_enter Tryz.func89, Tryz.ntmps89
      go_wp2_with fail
      go_fit (H1.out _)
      rintro e w' ⟨rfl, rfl⟩
      go_wp2_with fail
      go_fit (H2.out _)
      rintro e w' ⟨rfl, rfl⟩
      go_wp2_with fail
      go_ret
      exact ⟨by rw [HR.out]; rfl, Below.refl _ _⟩
  · have h59i : ((b : Int) == 59) = false := beq_false_of_ne (by omega)
    by_cases hd : 48 ≤ b ∧ b ≤ 57
    · have d1 : (48 : Int) ≤ (b : Int) := by omega
      have d2 : (b : Int) ≤ 57 := by omega
      have HT := Lib.hid (fun w => textOf_any b w)
      have hdd : ∀ u ∈ (S.extract L S.size ++ oneS b).data.toList, digitU u := by
        rw [app_data, htail.out]
        intro u hu
        rcases List.mem_append.1 hu with hu | hu
        · exact part_dig x u hu
        · rw [List.mem_singleton.1 hu]
          show digitU (UInt8.ofNat b)
          unfold digitU
          rw [UInt8.toNat_ofNat']
          omega
      have HNm := Lib.hid (fun w => number_any (S.extract L S.size ++ oneS b) w hdd)
      have hnum : numL (S.extract L S.size ++ oneS b).data.toList = capN (x.getD 0) (b - 48) := by
        rw [app_data, htail.out]
        exact numL_next x hk.2.2 b hd
      rw [hnum] at HNm
      have HI := Lib.hid (fun W (hW : Below w.heap.size w W) => itoa_any (capN (x.getD 0) (b - 48)) W (by unfold capN; omega) (hP.below hW))
      have HR : Hid (O = S.extract 0 L ++ ⟨(Lib.itoa ((capN (x.getD 0) (b - 48) : Nat) : Int)).toArray⟩) := by
        show _ = _
        rw [← HO.out, hdig.out]
        unfold stepN
        rw [if_neg (fun h => h59 h.1), if_pos hd]
        rfl
      obtain ⟨C, hC⟩ : ∃ C, capN (x.getD 0) (b - 48) = C := ⟨_, rfl⟩
      rw [hC] at HNm HI HR
      obtain ⟨D, hD⟩ : ∃ D : ByteArray, ⟨(Lib.itoa (C : Int)).toArray⟩ = D := ⟨_, rfl⟩
      have e3 : D.size ≤ 4 := by
        rw [← hD, Lib.size_eq]
        show (Lib.itoa (C : Int)).length ≤ 4
        rw [Lib.itoa_nonneg]
        exact digit_len C (by rw [← hC]; unfold capN; omega)
      have e1 : (S.extract L S.size).size ≤ 100 := by rw [Lib.tail_size]; omega
      have e2 : (S.extract 0 L).size ≤ 100 := by rw [head_size S L hLs]; omega
      have e4 : (oneS b).size = 1 := rfl
      obtain ⟨OB, hOB⟩ : ∃ OB, oneS b = OB := ⟨_, rfl⟩
      obtain ⟨T1, hT1⟩ : ∃ T1, S.extract L S.size = T1 := ⟨_, rfl⟩
      obtain ⟨T0, hT0⟩ : ∃ T0, S.extract 0 L = T0 := ⟨_, rfl⟩
      rw [hOB] at e4 HNm HT
      rw [hT1] at e1 HNm
      rw [hT0] at e2 HR
      have f1 : T1.size + OB.size ≤ 9223372036854775807 := by omega
      have f2 : T0.size + D.size ≤ 9223372036854775807 := by omega
      have g1 : ∀ W, (Op.stringOp .add T1 OB).run Tryz.prog W = .ok (.string (T1 ++ OB)) W := fun W => run_string_add_sum W _ _ f1
      have g2 : ∀ W, (Op.stringOp .add T0 D).run Tryz.prog W = .ok (.string (T0 ++ D)) W := fun W => run_string_add_sum W _ _ f2
      clear e1 e2 e3 e4 hOB f1 f2
      rw [hD] at HI HR
      clear HO hmore hdig htail hdd hnum hC hD H2 hP
      go_enter Tryz.func89, Tryz.ntmps89
      go_wp2_with fail
      go_fit (H1.out _)
      rintro e w' ⟨rfl, rfl⟩
      go_wp2_with fail
      have kk := Below.refl w'.heap.size w'
      have k0 : Below w'.heap.size w' w'.drew := kk.drew
      have HT2 := Lib.hid (fun (V : World) (hV : Below w'.heap.size w' V) => later1 hV (HT.out V))
      have HN2 := Lib.hid (fun (V : World) (hV : Below w'.heap.size w' V) => later1 hV (HNm.out V))
      have HI2 := Lib.hid (fun (V : World) (hV : Below w'.heap.size w' V) => later1 hV (HI.out V hV))
      have q1 : (0 : Int) ≤ (L : Int) := by omega
      have q2 : (L : Int) ≤ (S.size : Int) := by omega
      clear HT HNm HI H1
      go_region_held3 AnyDp (first | exact AnyDp.mk _ | go_keep)
        (first
          | (go_at_call 83; go_fit (HT2.out _ ?_); (first | with_reducible exact kk | with_reducible exact k0); rintro e vv ⟨rfl, kk⟩)
          | (go_at_call 114; go_fit (HN2.out _ ?_); (first | with_reducible exact kk | with_reducible exact k0); rintro e vv ⟨rfl, kk⟩)
          | (go_at_call 113; go_fit (HI2.out _ ?_); (first | with_reducible exact kk | with_reducible exact k0); rintro e vv ⟨rfl, kk⟩))
      all_goals go_wp2_with fail
      all_goals go_ret
      all_goals exact ⟨by rw [HR.out]; rfl, kk⟩
    · have HR : Hid (O = ⟨#[63]⟩) := by
        show _ = _
        rw [← HO.out]
        unfold stepN
        rw [if_neg (fun h => h59 h.1), if_neg hd]
        rfl
      clear HO hmore hdig htail
      by_cases e1 : 48 ≤ b
      · have d1 : (48 : Int) ≤ (b : Int) := by omega
        have d2 : (57 : Int) < (b : Int) := by omega
        go_enter Tryz.func89, Tryz.ntmps89
        go_wp2_with fail
        go_fit (H1.out _)
        rintro e w' ⟨rfl, rfl⟩
        go_wp2_with fail
        go_ret
        exact ⟨by rw [HR.out]; rfl, Below.refl _ _⟩
      · have d1 : (b : Int) < 48 := by omega
        go_enter Tryz.func89, Tryz.ntmps89
        go_wp2_with fail
        go_fit (H1.out _)
        rintro e w' ⟨rfl, rfl⟩
        go_wp2_with fail
        go_ret
        exact ⟨by rw [HR.out]; rfl, Below.refl _ _⟩
end Go.Proofs.YtpkjaallhhjleaaGreatDoor

/-
  parser.params: what it returns of what is kept of a sequence: the numbers of its parts, in a row of the call's own.
-/
namespace Go.Proofs.YtpkjaallhhjleaaGreatDoor
open Go.RowKit

theorem pown_row {w : World} {B e size n : Nat} {v : Value} {xs : List Value} (h : w.ownsRow B e size v n xs) : RowV (FromP B) w v n xs := by
  have hl := h.1
  rcases h.2 with ⟨rfl, h0⟩ | ⟨g, cap, cur, rfl, hB, hg, hn, _⟩
  · subst h0
    rw [Nat.zero_mul] at hl
    obtain rfl := List.eq_nil_of_length_eq_zero hl
    exact RowV.nil _ w
  · refine ⟨_, cap, rfl, hn, fun a e => by cases e; exact hB, fun j u hu => ⟨g, 0, rfl, ?_⟩⟩
    have := h.cells (g := g) rfl j u hu
    rw [Nat.zero_add]
    rwa [rlit, Nat.zero_add] at this
theorem own_nums {w : World} {B : Nat} {v : Value} {l : List Nat} (h : w.ownsRow B 3 1 v l.length (ints l)) (hl : l ≠ []) : NumsW (FromP B) w v l := ⟨pown_row h, fun e => absurd e hl⟩

theorem parts_at (pre : List (Option Nat)) (x : Option Nat) (w : World) (k : Nat) (y : Option Nat) (hy : (pre ++ [x])[k]? = some y) :
    (w.alloc (.cells (((pre ++ [x]).map partB).map Value.string).toArray 9)).cell? ⟨w.heap.size, k, none⟩ = some (.string (partB y)) := by
  rw [cell_of_row _ _ _ _ 9 (0, 0) (heap_alloc_new w _), List.getElem?_toArray, List.getElem?_map, List.getElem?_map, hy]
  rfl

set_option maxHeartbeats 1000000 in
theorem split_any (pre : List (Option Nat)) (x : Option Nat) (w : World) (h : (rend pre x).size ≤ 100) :
    Calls Tryz.prog 115 #[.string (rend pre x), .string ⟨#[59]⟩] w fun e w' => e = .returned (.slice (some ⟨w.heap.size, 0, none⟩) (pre.length + 1) (pre.length + 1)) ∧ w' = w.alloc (.cells (((pre ++ [x]).map partB).map Value.string).toArray 9) := by
  have H := Tryz.genSplit_one (rend pre x) 59 w (by omega)
  rw [rend_countB, rend_split] at H
  have e1 : ((pre ++ [x]).map partB).length = pre.length + 1 := by rw [List.length_map, List.length_append]; rfl
  have e2 : Lib.cellsOf ((pre ++ [x]).map partB) (pre.length + 1) = (((pre ++ [x]).map partB).map Value.string).toArray := by rw [← e1]; exact Lib.cellsOf_full _
  rw [e1, e2] at H
  obtain ⟨CS, hCS⟩ : ∃ CS, (((pre ++ [x]).map partB).map Value.string).toArray = CS := ⟨_, rfl⟩
  rw [hCS] at H ⊢
  have HH := Lib.hid H
  clear H e1 e2 hCS
  go_enter Tryz.func115, Tryz.ntmps115
  go_wp2_with fail
  go_fit HH.out
  rintro e w' ⟨rfl, rfl⟩
  go_wp2_with fail
  go_ret
  exact ⟨rfl, rfl⟩

theorem part_data (y : Option Nat) : (partB y).data.toList = prtL y := rfl
theorem number_part (y : Option Nat) (w : World) (hy : ∀ n, y = some n → n ≤ 9999) :
    Calls Tryz.prog 114 #[.string (partB y)] w fun e w' => e = .returned (.int .i64 ((y.getD 0 : Nat) : Int)) ∧ Below w.heap.size w w' := by
  have h := number_any (partB y) w (by rw [part_data]; exact part_dig y)
  rw [part_data, numL_part y hy] at h
  exact h

set_option maxHeartbeats 4000000 in
theorem params_any (pre : List (Option Nat)) (x : Option Nat) (w : World) (hk : OkP (.seq pre x)) :
    Calls Tryz.prog 90 #[.string (rend pre x)] w fun e w' => ∃ v, e = .returned v ∧ NumsW (FromP w.heap.size) w' v (paramsN pre x) ∧ Below w.heap.size w w' := by
  have hsz := rend_small pre x hk
  by_cases hz : pre = [] ∧ x = none
  · obtain ⟨rfl, rfl⟩ := hz
    rw [show rend [] none = ⟨#[]⟩ from rfl]
    go_enter Tryz.func90, Tryz.ntmps90
    go_wp2_with fail
    go_ret
    exact ⟨_, rfl, NumsW.nil _ _, Below.refl _ _⟩
  · have hpos : ((rend pre x).toList == []) = false := by
      rw [beq_eq_false_iff_ne, Lib.toList_data, rend_data]
      intro h
      unfold rendL at h
      obtain ⟨h1, h2⟩ := List.append_eq_nil_iff.1 h
      refine hz ⟨?_, ?_⟩
      · cases pre with
        | nil => rfl
        | cons y pre => have := congrArg List.length h1; unfold preL' at this; simp at this
      · cases x with
        | none => rfl
        | some n => rw [show prtL (some n) = Lib.decDigits n from rfl, Lib.decDigits_eq] at h2; have := congrArg List.length h2; rw [List.length_map, List.length_range] at this; unfold Lib.nDigits at this; split at this <;> simp at this
    have hpos2 : (rend pre x).toList.isEmpty = false := by
      cases h : (rend pre x).toList with
      | nil => rw [h] at hpos; cases hpos
      | cons _ _ => rfl
    have HSP := Lib.hid (fun w => split_any pre x w hsz)
    have HP : Hid (paramsN pre x = nums pre x) := by show _ = _; unfold paramsN; rw [if_neg hz]
    have HNM := Lib.hid (fun (k : Nat) (y : Option Nat) (h : (pre ++ [x])[k]? = some y) w => number_part y w (fun n hn => by
      have hm := List.mem_of_getElem? h
      rcases List.mem_append.1 hm with hm | hm
      · exact hk.2.1 n (hn ▸ hm)
      · exact hk.2.2 n ((List.mem_singleton.1 hm).symm.trans hn)))
    have HAT := Lib.hid (fun w k y hy => parts_at pre x w k y hy)
    have hlen : (pre ++ [x]).length = pre.length + 1 := by rw [List.length_append]; rfl
    have HNU : Hid (nums pre x = (pre ++ [x]).map fun y => y.getD 0) := rfl
    obtain ⟨S, hS⟩ : ∃ S, rend pre x = S := ⟨_, rfl⟩
    obtain ⟨Y, hY⟩ : ∃ Y, pre ++ [x] = Y := ⟨_, rfl⟩
    obtain ⟨N, hN⟩ : ∃ N, pre.length + 1 = N := ⟨_, rfl⟩
    rw [hS] at HSP hpos hpos2 hsz
    rw [hY] at HNM HAT hlen HNU HSP
    rw [hN] at HSP hlen
    have hN16 : N ≤ 16 := by have := hk.1; omega
    have hN1 : 1 ≤ N := by omega
    rw [hS, HP.out]
    obtain ⟨R, hR⟩ : ∃ R, nums pre x = R := ⟨_, rfl⟩
    rw [hR] at HNU ⊢
    have HL := Lib.hid hlen
    clear HP hS hY hN hz hk hR hlen
    obtain ⟨i0, hi, hz0, hz1, hz2⟩ := info_parts Tryz.infoInt
    go_enter Tryz.func90, Tryz.ntmps90
    go_wp2_with fail
    go_fit (HSP.out _)
    rintro e w1 ⟨rfl, hw1⟩
    have hb1 : Below w.heap.size w w1 := by rw [hw1]; exact (Below.refl _ _).alloc (Nat.le_refl _) _
    have hsz1 : w1.heap.size = w.heap.size + 1 := by rw [hw1]; exact Array.size_push _
    have HC : Hid (∀ k y, Y[k]? = some y → w1.cell? ⟨w.heap.size, k, none⟩ = some (.string (partB y))) := fun k y hy => by rw [hw1]; exact HAT.out w k y hy
    clear HAT HSP hw1
    go_wp2_with fail
    go_loopw [3, 11] (fun v i wr => ∃ (k : Nat) (xs : List Nat), i = .int .i64 (k : Int) ∧ k ≤ N ∧ xs.length = k ∧ Hid (xs = (Y.take k).map fun y => y.getD 0) ∧ wr.ownsRow w1.heap.size 3 1 v xs.length (ints xs) ∧ Below w1.heap.size w1 wr) (fun v i _ => N - (intOf i).toNat)
    case atStart => exact ⟨0, [], rfl, Nat.zero_le _, rfl, rfl, World.ownsRow_nil _ _ _ _, Below.refl _ _⟩
    case round =>
      obtain ⟨k, xs, rfl, hk, hxl, HX, hown, hbr⟩ := hrel
      by_cases hlt : k < N
      · obtain ⟨y, hy⟩ : ∃ y, Y[k]? = some y := ⟨_, List.getElem?_eq_getElem (by rw [HL.out]; exact hlt)⟩
        have c1 : wr.cell? ⟨w.heap.size, k, none⟩ = some (.string (partB y)) := by
          rw [hbr.cell (p := ⟨w.heap.size, k, none⟩) (by show w.heap.size < w1.heap.size; omega)]
          exact HC.out k y hy
        have HN1 := Lib.hid (HNM.out k y hy wr)
        have HX2 : Hid (xs ++ [y.getD 0] = (Y.take (k + 1)).map fun y => y.getD 0) := by
          show _ = _
          rw [List.take_add_one, hy, List.map_append, ← HX.out]
          rfl
        obtain ⟨z, hz⟩ : ∃ z, y.getD 0 = z := ⟨_, rfl⟩
        rw [hz] at HN1 HX2
        obtain ⟨P, hP⟩ : ∃ P, partB y = P := ⟨_, rfl⟩
        rw [hP] at c1 HN1
        have hi2 : (k : Int) < (N : Int) := by omega
        clear hz hP hy
        go_wp2_with fail
        go_fit HN1.out
        rintro e w2 ⟨rfl, hb2⟩
        have hown2 := ownsRow_below hown hb2
        have hb2' : Below w1.heap.size w1 w2 := hbr.trans (hb2.mono hbr.size)
        clear hown hb2 HN1 c1
        go_wp2_with (at_builtin; (refine wpList_append_own _ rfl _ _ 58 rfl w1.heap.size 3 i0 (.int .i64 0) 1 8 Tryz.underlying58 hi hz0 hz1 hz2 rfl (by decide) _ _ _ rfl (hown2.alloc _) ⟨w2.heap.size, 0, none⟩ 1 1 [.int .i64 (z : Int)] rfl rfl (cell_one_new _ _ _) (fun x hx => by simp at hx; subst hx; rfl) (by unfold maxLen; omega) (by omega) (by have := hb2'.size; simp; omega) ?_; intro v' w3 hown' hgrow3 hnil3))
        have hbw3 : Below w1.heap.size w1 w3 := Below.grown (hb2'.alloc hb2'.size _) hgrow3 (by have := hb2'.size; simp; omega) (fun j hj => (hown2.lt _ hj).1)
        have hown3 : w3.ownsRow w1.heap.size 3 1 v' (xs ++ [z]).length (ints (xs ++ [z])) := by
          unfold ints; rw [List.length_append, List.map_append]; exact hown'
        go_roundw
        case rel => exact ⟨k + 1, xs ++ [z], by go_num, by omega, by rw [List.length_append, hxl]; rfl, HX2, hown3, hbw3⟩
        case measure => simp [intOf]; omega
      · obtain rfl : k = N := by omega
        have HE : Hid (xs = R) := by
          show _ = _
          rw [HX.out, HNU.out, List.take_of_length_le (by rw [HL.out]; exact Nat.le_refl _)]
        clear HX
        go_wp2_with fail
        go_ret
        refine ⟨_, rfl, ?_, hb1.trans (hbr.mono hb1.size)⟩
        rw [← HE.out]
        exact (own_nums hown (by intro e; rw [e] at hxl; exact absurd hxl (by show 0 ≠ _; omega))).mono fun j _ hj => Nat.le_trans hb1.size hj
end Go.Proofs.YtpkjaallhhjleaaGreatDoor

/-
  Plain facts on the other reckoning of a sequence: the numbers so far, all bytes of it kept. And one number of a row of the call's own that is written anew.
-/
namespace Go.Proofs.YtpkjaallhhjleaaGreatDoor
open Go.RowKit

/-- The bytes of a sequence, one by one, as the program keeps them. -/
def sqN : Ps → UInt8 → Ps
  | .seq pre x, u => stepN pre x u.toNat
  | p, _ => p
def partsN (l : List UInt8) : Ps := l.foldl sqN (.seq [] none)
/-- The same with all numbers so far: those ahead, the last one; none where a byte is neither. -/
def qStep (q : Option (List Nat × Nat)) (u : UInt8) : Option (List Nat × Nat) :=
  match q with
  | none => none
  | some (f, l) => if u.toNat = 59 then some (f ++ [l], 0) else if 48 ≤ u.toNat ∧ u.toNat ≤ 57 then some (f, capN l (u.toNat - 48)) else none
def qL (l : List UInt8) : Option (List Nat × Nat) := l.foldl qStep (some ([], 0))
theorem qL_snoc (l : List UInt8) (u : UInt8) : qL (l ++ [u]) = qStep (qL l) u := by unfold qL; rw [List.foldl_append]; rfl
theorem partsN_snoc (l : List UInt8) (u : UInt8) : partsN (l ++ [u]) = sqN (partsN l) u := by unfold partsN; rw [List.foldl_append]; rfl

def RelQ (q : Option (List Nat × Nat)) (p : Ps) : Prop :=
  match q, p with
  | none, .bad => True
  | some (f, l), .seq pre x => f = pre.map (fun y => y.getD 0) ∧ l = x.getD 0 ∧ pre.length ≤ 15
  | some (f, _), .bad => 16 ≤ f.length
  | _, _ => False
theorem relQ_step (q : Option (List Nat × Nat)) (p : Ps) (u : UInt8) (h : RelQ q p) : RelQ (qStep q u) (sqN p u) := by
  rcases q with _ | ⟨f, l⟩
  · cases p <;> first | exact h | exact False.elim h
  · cases p with
    | seq pre x =>
      obtain ⟨rfl, rfl, h3⟩ := h
      unfold qStep sqN stepN
      dsimp only
      by_cases h59 : u.toNat = 59
      · rw [if_pos h59]
        by_cases h15 : pre.length < 15
        · rw [if_pos ⟨h59, h15⟩]
          exact ⟨by rw [List.map_append]; rfl, rfl, by rw [List.length_append]; show _ + 1 ≤ _; omega⟩
        · rw [if_neg (fun k => h15 k.2), if_neg (by omega)]
          show 16 ≤ _
          rw [List.length_append, List.length_map]
          show 16 ≤ _ + 1
          omega
      · rw [if_neg h59, if_neg (show ¬ (u.toNat = 59 ∧ pre.length < 15) from fun k => h59 k.1)]
        by_cases hd : 48 ≤ u.toNat ∧ u.toNat ≤ 57
        · rw [if_pos hd, if_pos hd]
          exact ⟨rfl, rfl, h3⟩
        · rw [if_neg hd, if_neg hd]
          exact trivial
    | bad =>
      have h : 16 ≤ f.length := h
      unfold qStep sqN
      dsimp only
      split
      · show 16 ≤ _
        rw [List.length_append]
        omega
      · split
        · exact h
        · exact trivial
    | zero => exact False.elim h
    | start s => exact False.elim h
    | esc => exact False.elim h
theorem relQ_fold : ∀ (l : List UInt8) (q : Option (List Nat × Nat)) (p : Ps), RelQ q p → RelQ (l.foldl qStep q) (l.foldl sqN p)
  | [], _, _, h => h
  | u :: l, q, p, h => relQ_fold l (qStep q u) (sqN p u) (relQ_step q p u h)
theorem relQ_all (l : List UInt8) : RelQ (qL l) (partsN l) := relQ_fold l _ _ ⟨rfl, rfl, Nat.zero_le _⟩

/-- What a sequence's bytes come to. -/
def refPar (l : List UInt8) : List Nat × Bool :=
  if l = [] then ([], true) else match qL l with
    | none => ([], false)
    | some (f, x) => if 16 < f.length + 1 then ([], false) else (f ++ [x], true)
theorem step_some (pre : List (Option Nat)) (x : Option Nat) (b : Nat) (q : List (Option Nat)) (y : Option Nat) (h : stepN pre x b = .seq q y) : ¬ (q = [] ∧ y = none) := by
  unfold stepN at h
  split at h
  · cases h
    intro k
    exact absurd k.1 (by simp)
  · split at h
    · cases h
      intro k
      cases k.2
    · cases h
theorem parts_some (l : List UInt8) (h : l ≠ []) (q : List (Option Nat)) (y : Option Nat) (he : partsN l = .seq q y) : ¬ (q = [] ∧ y = none) := by
  rcases List.eq_nil_or_concat l with rfl | ⟨r, u, rfl⟩
  · exact absurd rfl h
  · rw [List.concat_eq_append, partsN_snoc] at he
    cases hp : partsN r with
    | seq pre x => rw [hp] at he; exact step_some pre x _ q y he
    | zero => rw [hp] at he; cases he
    | start s => rw [hp] at he; cases he
    | esc => rw [hp] at he; cases he
    | bad => rw [hp] at he; cases he
theorem refPar_seq (l : List UInt8) (pre : List (Option Nat)) (x : Option Nat) (h : partsN l = .seq pre x) : refPar l = (paramsN pre x, true) := by
  by_cases h0 : l = []
  · subst h0
    cases h
    rfl
  · have hr := relQ_all l
    have hs := parts_some l h0 pre x h
    unfold refPar
    rw [if_neg h0]
    rw [h] at hr
    rcases hq : qL l with _ | ⟨f, z⟩
    · rw [hq] at hr; exact False.elim hr
    · rw [hq] at hr
      obtain ⟨rfl, rfl, h3⟩ := hr
      dsimp only
      rw [if_neg (by rw [List.length_map]; omega)]
      unfold paramsN nums
      rw [if_neg hs, List.map_append]
      rfl
theorem refPar_bad (l : List UInt8) (h : partsN l = .bad) : refPar l = ([], false) := by
  have h0 : l ≠ [] := by rintro rfl; cases h
  have hr := relQ_all l
  unfold refPar
  rw [if_neg h0]
  rw [h] at hr
  rcases hq : qL l with _ | ⟨f, z⟩
  · rfl
  · rw [hq] at hr
    have hr : 16 ≤ f.length := hr
    dsimp only
    rw [if_pos (by omega)]

/-- One number of a row of the call's own, written anew. -/
theorem own_set {w : World} {B e g n cap i : Nat} {xs : List Value} (u : Value) (h : w.ownsRow B e 1 (.slice (some ⟨g, 0, none⟩) n cap) n xs) (hi : i < n) : (w.setCell ⟨g, i, none⟩ u).ownsRow B e 1 (.slice (some ⟨g, 0, none⟩) n cap) n (xs.set i u) := by
  obtain ⟨hl, h2⟩ := h
  refine ⟨by rw [List.length_set]; exact hl, .inr ?_⟩
  rcases h2 with ⟨h2, _⟩ | ⟨g', cap', cur, he, hB, hg, hn, hc, hs, ht⟩
  · cases h2
  · cases he
    refine ⟨g, cap, cur.setIfInBounds i u, rfl, hB, ?_, hn, hc, by rw [Array.size_setIfInBounds]; exact hs, ?_⟩
    · show (w.heap.modify g _)[g]? = _
      have hlt := (Array.getElem?_eq_some_iff.1 hg).1
      obtain ⟨_, he⟩ := Array.getElem?_eq_some_iff.1 hg
      rw [Array.getElem?_eq_getElem (by rw [Array.size_modify]; exact hlt), Array.getElem_modify_self, he]
      rfl
    · rw [Nat.mul_one] at ht ⊢
      rw [← ht]
      apply List.ext_getElem?
      intro j
      rw [List.getElem?_take, List.getElem?_set, List.getElem?_take]
      by_cases hj : j < n
      · rw [if_pos hj, if_pos hj, Array.getElem?_toList, Array.getElem?_setIfInBounds]
        by_cases hij : i = j
        · subst hij
          rw [if_pos rfl, if_pos rfl]
          have : i < cur.size := by omega
          rw [List.length_take, Array.length_toList, if_pos this, if_pos (by omega)]
        · rw [if_neg hij, if_neg hij, Array.getElem?_toList]
      · rw [if_neg hj, if_neg hj, if_neg (by omega)]
theorem own_frozen {w : World} {B e size g n cap i : Nat} {xs : List Value} (h : w.ownsRow B e size (.slice (some ⟨g, 0, none⟩) n cap) n xs) : w.frozen? ⟨g, i, none⟩ = false := by
  rcases h.2 with ⟨h2, _⟩ | ⟨g', cap', cur, he, hB, hg, hn, hc, hs, ht⟩
  · cases h2
  · cases he
    unfold World.frozen?
    rw [hg]
    simp
end Go.Proofs.YtpkjaallhhjleaaGreatDoor

/-
  parser.first: what it returns: for every byte.
-/
namespace Go.Proofs.YtpkjaallhhjleaaGreatDoor
open Go.RowKit

/-- What the package variables hold. -/
structure LaidP (w : World) : Prop where
  tab : TabU w
  pow : PowW w
theorem LaidP.below {w w' : World} (h : LaidP w) (hb : Below w.heap.size w w') : LaidP w' := ⟨h.tab.below hb, h.pow.below hb⟩

set_option maxRecDepth 20000 in
set_option maxHeartbeats 4000000 in
theorem first_any (b : Nat) (w : World) (hb : b < 256) (hT : TabU w) :
    Calls Tryz.prog 53 #[.int .u8 (b : Int)] w (FedW w (firstN b)) := by
  obtain ⟨R, hR⟩ : ∃ R, firstN b = R := ⟨_, rfl⟩
  rw [hR]
  have hR := Lib.hid hR
  have H1 := Lib.hid (fun w => textOf_any b w)
  have HW : Hid (∀ W0, w.alloc (.cells #[.int .i64 0, .string ⟨#[]⟩] 45) = W0 → Below w.heap.size w W0 ∧ W0.heap.size = w.heap.size + 1 ∧ blk2 W0 w.heap.size (.int .i64 0) (.string ⟨#[]⟩)) := fun W0 h => by rw [← h]; exact box_new w _ _
  have HS : Hid (∀ W, Below w.heap.size w W → Calls Tryz.prog 86 #[.string (oneS b)] W fun e w' => e = .returned (.bool (begB (oneS b))) ∧ Below W.heap.size W w') := fun W hW => starts_any (oneS b) W (hT.below hW) (by rw [one_size]; decide) (by rw [one_size]; decide)
  have HN := Lib.hid (fun W => invalid_any W)
  have HC := Lib.hid (fun W => control_any b W hb)
  have HH := Lib.hid (fun W => pshown_any b W)
  clear hT
  by_cases h27 : b = 27
  · subst h27
    replace hR : Hid (R = (.esc, [])) := by
      show _ = _
      rw [← hR.out]
      unfold firstN
      rw [if_pos rfl]
    clear HN HC HH HS
    go_enter Tryz.func53, Tryz.ntmps53
    go_wp2_with fail
    obtain ⟨W0, hW0⟩ : ∃ W0, w.alloc (.cells #[.int .i64 0, .string ⟨#[]⟩] 45) = W0 := ⟨_, rfl⟩
    obtain ⟨hb0, hs0, hB0⟩ := HW.out W0 hW0
    rw [hW0]
    clear HW hW0
    go_fit (H1.out _)
    rintro e w1 ⟨rfl, hb1⟩
    have hB1 := hB0.below hb1
    have hbw1 := hb0.trans (hb1.mono hb0.size)
    have hs1 : w.heap.size + 1 ≤ w1.heap.size := by rw [← hs0]; exact hb1.size
    clear hB0 hb0 hs0 hb1 H1
    obtain ⟨⟨c0, c1⟩, z0, z1⟩ := hB1.cells
    go_wp2_with fail
    obtain ⟨⟨y0, y1⟩, q1, q2⟩ := box_end (w := w) (w1 := w1) (Q := w.heap.size) (.int .i64 2) (.string ⟨#[]⟩) hB1 (Nat.le_refl _) hbw1 (ActsW.nil _ _)
    rw [hR.out]
    exact bodyPost_ret (v := .tuple #[.agg #[.int .i64 2, .string ⟨#[]⟩], .slice none 0 0]) (by simp [results, Tryz.results53, go_sem, y0, y1]) rfl ⟨_, rfl, q2, q1⟩
  · have e27 : ((b : Int) == 27) = false := beq_false_of_ne (by omega)
    by_cases h32 : b < 32
    · have i32 : (b : Int) < 32 := by omega
      replace hR : Hid (R = (.zero, [(2, b, [], 0)])) := by
        show _ = _
        rw [← hR.out]
        unfold firstN
        rw [if_neg h27, if_pos (.inl h32)]
      clear HN HH HS
      go_enter Tryz.func53, Tryz.ntmps53
      go_wp2_with fail
      obtain ⟨W0, hW0⟩ : ∃ W0, w.alloc (.cells #[.int .i64 0, .string ⟨#[]⟩] 45) = W0 := ⟨_, rfl⟩
      obtain ⟨hb0, hs0, hB0⟩ := HW.out W0 hW0
      rw [hW0]
      clear HW hW0
      go_fit (H1.out _)
      rintro e w1 ⟨rfl, hb1⟩
      have hB1 := hB0.below hb1
      have hbw1 := hb0.trans (hb1.mono hb0.size)
      have hs1 : w.heap.size + 1 ≤ w1.heap.size := by rw [← hs0]; exact hb1.size
      clear hB0 hb0 hs0 hb1 H1
      obtain ⟨⟨c0, c1⟩, z0, z1⟩ := hB1.cells
      go_wp2_with fail
      go_fit (HC.out _)
      rintro e w2 ⟨v, rfl, hA, _, hb2⟩
      have hB2 := hB1.below hb2
      have hbw2 := hbw1.trans (hb2.mono hbw1.size)
      clear hB1 hb2 c0 c1 z0 z1
      obtain ⟨⟨c0, c1⟩, z0, z1⟩ := hB2.cells
      go_wp2_with fail
      obtain ⟨⟨y0, y1⟩, q1, q2⟩ := box_end (w := w) (w1 := w2) (Q := w.heap.size) (.int .i64 0) (.string ⟨#[]⟩) hB2 (Nat.le_refl _) hbw2 (acts_from hA hs1)
      rw [hR.out]
      exact bodyPost_ret (v := .tuple #[.agg #[.int .i64 0, .string ⟨#[]⟩], v]) (by simp [results, Tryz.results53, go_sem, y0, y1]) rfl ⟨_, rfl, q2, q1⟩
    · by_cases h127 : b = 127
      · subst h127
        replace hR : Hid (R = (.zero, [(2, 127, [], 0)])) := by
          show _ = _
          rw [← hR.out]
          unfold firstN
          rw [if_neg h27, if_pos (.inr rfl)]
        clear HN HH HS
        go_enter Tryz.func53, Tryz.ntmps53
        go_wp2_with fail
        obtain ⟨W0, hW0⟩ : ∃ W0, w.alloc (.cells #[.int .i64 0, .string ⟨#[]⟩] 45) = W0 := ⟨_, rfl⟩
        obtain ⟨hb0, hs0, hB0⟩ := HW.out W0 hW0
        rw [hW0]
        clear HW hW0
        go_fit (H1.out _)
        rintro e w1 ⟨rfl, hb1⟩
        have hB1 := hB0.below hb1
        have hbw1 := hb0.trans (hb1.mono hb0.size)
        have hs1 : w.heap.size + 1 ≤ w1.heap.size := by rw [← hs0]; exact hb1.size
        clear hB0 hb0 hs0 hb1 H1
        obtain ⟨⟨c0, c1⟩, z0, z1⟩ := hB1.cells
        go_wp2_with fail
        go_fit (HC.out _)
        rintro e w2 ⟨v, rfl, hA, _, hb2⟩
        have hB2 := hB1.below hb2
        have hbw2 := hbw1.trans (hb2.mono hbw1.size)
        clear hB1 hb2 c0 c1 z0 z1
        obtain ⟨⟨c0, c1⟩, z0, z1⟩ := hB2.cells
        go_wp2_with fail
        obtain ⟨⟨y0, y1⟩, q1, q2⟩ := box_end (w := w) (w1 := w2) (Q := w.heap.size) (.int .i64 0) (.string ⟨#[]⟩) hB2 (Nat.le_refl _) hbw2 (acts_from hA hs1)
        rw [hR.out]
        exact bodyPost_ret (v := .tuple #[.agg #[.int .i64 0, .string ⟨#[]⟩], v]) (by simp [results, Tryz.results53, go_sem, y0, y1]) rfl ⟨_, rfl, q2, q1⟩
      · have i32 : (32 : Int) ≤ (b : Int) := by omega
        have e127 : ((b : Int) == 127) = false := beq_false_of_ne (by omega)
        by_cases h128 : b < 128
        · have i128 : (b : Int) < 128 := by omega
          replace hR : Hid (R = (.zero, [(1, b, [], 0)])) := by
            show _ = _
            rw [← hR.out]
            unfold firstN
            rw [if_neg h27, if_neg (by omega), if_pos h128]
          clear HN HC HS
          go_enter Tryz.func53, Tryz.ntmps53
          go_wp2_with fail
          obtain ⟨W0, hW0⟩ : ∃ W0, w.alloc (.cells #[.int .i64 0, .string ⟨#[]⟩] 45) = W0 := ⟨_, rfl⟩
          obtain ⟨hb0, hs0, hB0⟩ := HW.out W0 hW0
          rw [hW0]
          clear HW hW0
          go_fit (H1.out _)
          rintro e w1 ⟨rfl, hb1⟩
          have hB1 := hB0.below hb1
          have hbw1 := hb0.trans (hb1.mono hb0.size)
          have hs1 : w.heap.size + 1 ≤ w1.heap.size := by rw [← hs0]; exact hb1.size
          clear hB0 hb0 hs0 hb1 H1
          obtain ⟨⟨c0, c1⟩, z0, z1⟩ := hB1.cells
          go_wp2_with fail
          go_fit (HH.out _)
          rintro e w2 ⟨v, rfl, hA, _, hb2⟩
          have hB2 := hB1.below hb2
          have hbw2 := hbw1.trans (hb2.mono hbw1.size)
          clear hB1 hb2 c0 c1 z0 z1
          obtain ⟨⟨c0, c1⟩, z0, z1⟩ := hB2.cells
          go_wp2_with fail
          obtain ⟨⟨y0, y1⟩, q1, q2⟩ := box_end (w := w) (w1 := w2) (Q := w.heap.size) (.int .i64 0) (.string ⟨#[]⟩) hB2 (Nat.le_refl _) hbw2 (acts_from hA hs1)
          rw [hR.out]
          exact bodyPost_ret (v := .tuple #[.agg #[.int .i64 0, .string ⟨#[]⟩], v]) (by simp [results, Tryz.results53, go_sem, y0, y1]) rfl ⟨_, rfl, q2, q1⟩
        · have i128 : (128 : Int) ≤ (b : Int) := by omega
          by_cases hst : begB (oneS b) = true
          · replace hR : Hid (R = (.start (oneS b), [])) := by
              show _ = _
              rw [← hR.out]
              unfold firstN
              rw [if_neg h27, if_neg (by omega), if_neg h128, if_pos hst]
            rw [hst] at HS
            clear HN HC HH
            go_enter Tryz.func53, Tryz.ntmps53
            go_wp2_with fail
            obtain ⟨W0, hW0⟩ : ∃ W0, w.alloc (.cells #[.int .i64 0, .string ⟨#[]⟩] 45) = W0 := ⟨_, rfl⟩
            obtain ⟨hb0, hs0, hB0⟩ := HW.out W0 hW0
            rw [hW0]
            clear HW hW0
            go_fit (H1.out _)
            rintro e w1 ⟨rfl, hb1⟩
            have hB1 := hB0.below hb1
            have hbw1 := hb0.trans (hb1.mono hb0.size)
            have hs1 : w.heap.size + 1 ≤ w1.heap.size := by rw [← hs0]; exact hb1.size
            clear hB0 hb0 hs0 hb1 H1
            obtain ⟨⟨c0, c1⟩, z0, z1⟩ := hB1.cells
            go_wp2_with fail
            go_fit (HS.out _ hbw1)
            rintro e w2 ⟨rfl, hb2⟩
            have hB2 := hB1.below hb2
            have hbw2 := hbw1.trans (hb2.mono hbw1.size)
            have hs2 : w.heap.size + 1 ≤ w2.heap.size := Nat.le_trans hs1 hb2.size
            clear hB1 hb2 c0 c1 z0 z1 HS hbw1 hs1
            obtain ⟨⟨c0, c1⟩, z0, z1⟩ := hB2.cells
            go_wp2_with fail
            obtain ⟨⟨y0, y1⟩, q1, q2⟩ := box_end (w := w) (w1 := w2) (Q := w.heap.size) (.int .i64 1) (.string (oneS b)) hB2 (Nat.le_refl _) hbw2 (ActsW.nil _ _)
            rw [hR.out]
            exact bodyPost_ret (v := .tuple #[.agg #[.int .i64 1, .string (oneS b)], .slice none 0 0]) (by simp [results, Tryz.results53, go_sem, y0, y1]) rfl ⟨_, rfl, q2, q1⟩
          · have hsf : begB (oneS b) = false := by cases h : begB (oneS b) <;> simp_all
            replace hR : Hid (R = (.zero, [badA])) := by
              show _ = _
              rw [← hR.out]
              unfold firstN
              rw [if_neg h27, if_neg (by omega), if_neg h128, if_neg hst]
            rw [hsf] at HS
            clear HC HH
            go_enter Tryz.func53, Tryz.ntmps53
            go_wp2_with fail
            obtain ⟨W0, hW0⟩ : ∃ W0, w.alloc (.cells #[.int .i64 0, .string ⟨#[]⟩] 45) = W0 := ⟨_, rfl⟩
            obtain ⟨hb0, hs0, hB0⟩ := HW.out W0 hW0
            rw [hW0]
            clear HW hW0
            go_fit (H1.out _)
            rintro e w1 ⟨rfl, hb1⟩
            have hB1 := hB0.below hb1
            have hbw1 := hb0.trans (hb1.mono hb0.size)
            have hs1 : w.heap.size + 1 ≤ w1.heap.size := by rw [← hs0]; exact hb1.size
            clear hB0 hb0 hs0 hb1 H1
            obtain ⟨⟨c0, c1⟩, z0, z1⟩ := hB1.cells
            go_wp2_with fail
            go_fit (HS.out _ hbw1)
            rintro e w2 ⟨rfl, hb2⟩
            have hB2 := hB1.below hb2
            have hbw2 := hbw1.trans (hb2.mono hbw1.size)
            have hs2 : w.heap.size + 1 ≤ w2.heap.size := Nat.le_trans hs1 hb2.size
            clear hB1 hb2 c0 c1 z0 z1 HS hbw1 hs1
            obtain ⟨⟨c0, c1⟩, z0, z1⟩ := hB2.cells
            go_wp2_with fail
            go_fit (HN.out _)
            rintro e w3 ⟨v, rfl, hA, _, hb3⟩
            have hB3 := hB2.below hb3
            have hbw3 := hbw2.trans (hb3.mono hbw2.size)
            clear hB2 hb3 c0 c1 z0 z1
            obtain ⟨⟨c0, c1⟩, z0, z1⟩ := hB3.cells
            go_wp2_with fail
            obtain ⟨⟨y0, y1⟩, q1, q2⟩ := box_end (w := w) (w1 := w3) (Q := w.heap.size) (.int .i64 0) (.string ⟨#[]⟩) hB3 (Nat.le_refl _) hbw3 (acts_from hA hs2)
            rw [hR.out]
            exact bodyPost_ret (v := .tuple #[.agg #[.int .i64 0, .string ⟨#[]⟩], v]) (by simp [results, Tryz.results53, go_sem, y0, y1]) rfl ⟨_, rfl, q2, q1⟩
end Go.Proofs.YtpkjaallhhjleaaGreatDoor

/-
  limnerref07.Params: what it returns: for every text of at most a hundred thousand bytes.
-/
namespace Go.Proofs.YtpkjaallhhjleaaGreatDoor
open Go.RowKit

theorem bt_u (s : ByteArray) (k : Nat) (h : k < s.size) : bt s k = (s.data.toList[k]'(by rw [← Lib.size_eq]; exact h)).toNat := by
  rw [bt_data, List.getD_eq_getElem?_getD, List.getElem?_eq_getElem]
  rfl
theorem qL_step (s : ByteArray) (k : Nat) (h : k < s.size) (f : List Nat) (l : Nat) (hq : qL (s.data.toList.take k) = some (f, l)) :
    qL (s.data.toList.take (k + 1)) = if bt s k = 59 then some (f ++ [l], 0) else if 48 ≤ bt s k ∧ bt s k ≤ 57 then some (f, capN l (bt s k - 48)) else none := by
  have h1 : k < s.data.toList.length := by rw [← Lib.size_eq]; exact h
  rw [List.take_succ_eq_append_getElem h1, qL_snoc, hq, bt_u s k h]
  rfl
theorem qL_none (l r : List UInt8) (h : qL l = none) : qL (l ++ r) = none := by
  unfold qL at h ⊢
  rw [List.foldl_append, h]
  induction r with
  | nil => rfl
  | cons u r ih => exact ih

set_option maxRecDepth 20000 in
set_option maxHeartbeats 4000000 in
theorem refParams_any (s : ByteArray) (w : World) (hs : s.size ≤ 100000) :
    Calls Tryz.prog 66 #[.string s] w fun e w' => ∃ v, e = .returned (.tuple #[v, .bool (refPar s.data.toList).2]) ∧ NumsW (FromP w.heap.size) w' v (refPar s.data.toList).1 ∧ Below w.heap.size w w' := by
  by_cases h0 : s.size = 0
  · obtain rfl : s = ⟨#[]⟩ := by
      apply ByteArray.ext
      apply Array.toList_inj.1
      exact List.eq_nil_of_length_eq_zero (by rw [← Lib.size_eq]; exact h0)
    go_enter Tryz.func66, Tryz.ntmps66
    go_wp2_with fail
    go_ret2
    exact ⟨_, rfl, NumsW.nil _ _, Below.refl _ _⟩
  · have hne : s.toList.isEmpty = false := by
      cases h : s.toList with
      | nil => rw [Lib.toList_data] at h; have h2 := Lib.size_eq s; rw [h] at h2; exact absurd h2 h0
      | cons _ _ => rfl
    have hne2 : (s.toList == []) = false := by
      cases h : s.toList with
      | nil => rw [h] at hne; cases hne
      | cons _ _ => rfl
    have hdn : s.data.toList ≠ [] := by intro h; have h2 := Lib.size_eq s; rw [h] at h2; exact h0 h2
    have HRP : Hid (refPar s.data.toList = match qL s.data.toList with | none => ([], false) | some (f, x) => if 16 < f.length + 1 then ([], false) else (f ++ [x], true)) := by
      show _ = _
      unfold refPar
      rw [if_neg hdn]
      all_goals (rcases qL s.data.toList with _ | ⟨f, x⟩ <;> rfl)
    have HST := Lib.hid (fun k hk f l hq => qL_step s k hk f l hq)
    have HNO := Lib.hid (fun k (h : qL (s.data.toList.take k) = none) => (show qL s.data.toList = none by have := qL_none _ (s.data.toList.drop k) h; rwa [List.take_append_drop] at this))
    have HEN : Hid (s.data.toList.take s.size = s.data.toList) := List.take_of_length_le (by rw [← Lib.size_eq]; exact Nat.le_refl _)
    have HBT := Lib.hid (fun k (hk : k < s.size) => (show (s[k].toNat : Int) = (bt s k : Int) by unfold bt; rw [show s.get! k = s[k] from get_at s k hk]))
    have HLT := Lib.hid (fun k => bt_lt s k)
    obtain ⟨R, hR⟩ : ∃ R, refPar s.data.toList = R := ⟨_, rfl⟩
    rw [hR] at HRP ⊢
    clear hR hdn
    obtain ⟨i0, hi, hz0, hz1, hz2⟩ := info_parts Tryz.infoInt
    go_enter Tryz.func66, Tryz.ntmps66
    go_wp2_with fail
    have hown0 : (w.alloc (.cells #[.int .i64 0] 3)).ownsRow w.heap.size 3 1 (.slice (some ⟨w.heap.size, 0, none⟩) 1 1) 1 (ints ([] ++ [0])) :=
      ⟨rfl, .inr ⟨w.heap.size, 1, #[.int .i64 0], rfl, Nat.le_refl _, heap_alloc_new w _, Nat.le_refl _, by unfold maxLen; decide, rfl, rfl⟩⟩
    have hbw0 : Below w.heap.size w (w.alloc (.cells #[.int .i64 0] 3)) := (Below.refl _ _).alloc (Nat.le_refl _) _
    go_loopw [4, 5] (fun v i wr => ∃ (k : Nat) (f : List Nat) (l : Nat), i = .int .i64 (k : Int) ∧ k ≤ s.size ∧ f.length ≤ k ∧ l ≤ 9999 ∧ Hid (qL (s.data.toList.take k) = some (f, l)) ∧ wr.ownsRow w.heap.size 3 1 v (f.length + 1) (ints (f ++ [l])) ∧ Below w.heap.size w wr) (fun _ i _ => s.size - (intOf i).toNat)
    case atStart => exact ⟨0, [], 0, rfl, Nat.zero_le _, Nat.le_refl _, Nat.zero_le _, rfl, hown0, hbw0⟩
    case round =>
      clear hown0 hbw0
      obtain ⟨k, f, l, rfl, hk, hf, hl, HQ, hown, hbr⟩ := hrel
      obtain ⟨g, cap, rfl, hgB, hcap, hcm⟩ : ∃ g cap, u4 = .slice (some ⟨g, 0, none⟩) (f.length + 1) cap ∧ w.heap.size ≤ g ∧ f.length + 1 ≤ cap ∧ cap ≤ maxLen := by
        rcases hown.2 with ⟨_, h⟩ | ⟨g, cap, cur, h1, h2, h3, h4, h5, _⟩
        · omega
        · exact ⟨g, cap, h1, h2, h4, h5⟩
      by_cases hlt : k < s.size
      · have hst := HST.out k hlt f l HQ.out
        have hbt := HBT.out k hlt
        have hb256 := HLT.out k
        have hno := HNO.out (k + 1)
        have kit : (k : Int) < (s.size : Int) := by omega
        obtain ⟨b, hb⟩ : ∃ b, bt s k = b := ⟨_, rfl⟩
        rw [hb] at hst hbt hb256
        by_cases h59 : b = 59
        · subst h59
          have HQ2 : Hid (qL (s.data.toList.take (k + 1)) = some (f ++ [l], 0)) := hst
          clear hst hno HQ
          go_wp2_with (at_builtin; (refine wpList_append_own _ rfl _ _ 58 rfl w.heap.size 3 i0 (.int .i64 0) 1 8 Tryz.underlying58 hi hz0 hz1 hz2 rfl (by decide) _ _ _ rfl (hown.alloc _) ⟨wr.heap.size, 0, none⟩ 1 1 [.int .i64 (0 : Int)] rfl rfl (cell_one_new _ _ _) (fun x hx => by simp at hx; subst hx; rfl) (by unfold maxLen; omega) (by omega) (by have := hbr.size; simp; omega) ?_; intro v' w3 hown' hgrow3 hnil3))
          have hbw3 : Below w.heap.size w w3 := Below.grown (hbr.alloc hbr.size _) hgrow3 (by have := hbr.size; simp; omega) (fun j hj => (hown.lt _ hj).1)
          have hown3 : w3.ownsRow w.heap.size 3 1 v' ((f ++ [l]).length + 1) (ints ((f ++ [l]) ++ [0])) := by
            unfold ints; rw [List.length_append, List.map_append]; exact hown'
          go_roundw
          case rel => exact ⟨k + 1, f ++ [l], 0, by go_num, by omega, by rw [List.length_append]; show _ + 1 ≤ _; omega, by omega, HQ2, hown3, hbw3⟩
          case measure => simp [intOf]; omega
        · have e59 : ((b : Int) == 59) = false := beq_false_of_ne (by omega)
          rw [if_neg h59] at hst
          by_cases hd : 48 ≤ b ∧ b ≤ 57
          · rw [if_pos hd] at hst
            have d1 : (48 : Int) ≤ (b : Int) := by omega
            have d2 : (b : Int) ≤ 57 := by omega
            have c1 : wr.cell? ⟨g, f.length, none⟩ = some (.int .i64 (l : Int)) := by
              have := hown.cells (g := g) rfl f.length (.int .i64 (l : Int)) (by unfold ints; simp)
              rwa [rlit, Nat.zero_add] at this
            have z1 : wr.frozen? ⟨g, f.length, none⟩ = false := own_frozen hown
            have hown2 := own_set (.int .i64 ((capN l (b - 48) : Nat) : Int)) hown (Nat.lt_succ_self f.length)
            have hset : (ints (f ++ [l])).set f.length (.int .i64 ((capN l (b - 48) : Nat) : Int)) = ints (f ++ [capN l (b - 48)]) := by
              unfold ints
              rw [List.map_append, List.map_append, List.set_append_right _ _ (by rw [List.length_map]; exact Nat.le_refl _), List.length_map, Nat.sub_self]
              rfl
            rw [hset] at hown2
            have HQ2 : Hid (qL (s.data.toList.take (k + 1)) = some (f, capN l (b - 48))) := hst
            have hC : ((capN l (b - 48) : Nat) : Int) = min ((l : Int) * 10 + ((b : Int) - 48)) 9999 := by unfold capN; omega
            have hC9 : capN l (b - 48) ≤ 9999 := by unfold capN; omega
            obtain ⟨C, hCC⟩ : ∃ C, capN l (b - 48) = C := ⟨_, rfl⟩
            rw [hCC] at hown2 HQ2 hC hC9
            have HCI := Lib.hid hC
            obtain ⟨m, hm⟩ : ∃ m, f.length = m := ⟨_, rfl⟩
            rw [hm] at hown2 hown c1 z1 hf hcap
            have v1 : IntKind.i64.wrap (((m + 1 : Nat) : Int) - 1) = (m : Int) := by rw [IntWalk.i64_in _ (by omega)]; omega
            have v2 : (0 : Int) ≤ (m : Int) := by omega
            have v3 : (m : Int) < ((m + 1 : Nat) : Int) := by omega
            have v4 : IntKind.u8.wrap ((b : Int) - 48) = (b : Int) - 48 := by rw [IntKind.wrap_u8]; omega
            have v5 : IntKind.i64.wrap ((b : Int) - 48) = (b : Int) - 48 := IntWalk.i64_in _ (by omega)
            have v6 : IntKind.i64.wrap ((l : Int) * 10) = (l : Int) * 10 := IntWalk.i64_in _ (by omega)
            have v7 : IntKind.i64.wrap ((l : Int) * 10 + ((b : Int) - 48)) = (l : Int) * 10 + ((b : Int) - 48) := IntWalk.i64_in _ (by omega)
            clear hst hno HQ hCC hset
            go_wp2_with fail
            go_region
            all_goals
              subst hm
              rw [← HCI.out]
              have hb3 : Below w.heap.size w ((wr.setCell ⟨g, f.length, none⟩ (.int .i64 (C : Int))).drew) := by
                have kp : KeepW (fun k => k ≠ g) wr ((wr.setCell ⟨g, f.length, none⟩ (.int .i64 (C : Int))).drew) := (keep_set g f.length none _ wr (fun h => h rfl)).trans (keep_drew _ _)
                exact KeepW.below hbr kp hbr.size (fun k hk => by omega)
              clear c1 z1 hown v1 v2 v3 v4 v5 v6 v7 hC
              go_wp2_with fail
              go_roundw
              case rel => exact ⟨k + 1, f, C, by go_num, by omega, by omega, hC9, HQ2, hown2, hb3⟩
              case measure => simp [intOf]; omega
          · rw [if_neg hd] at hst
            have HR : Hid (R = ([], false)) := by
              have := HRP.out
              rw [hno hst] at this
              exact this
            by_cases g48 : 48 ≤ b
            · have d1 : (48 : Int) ≤ (b : Int) := by omega
              have d2 : (57 : Int) < (b : Int) := by omega
              clear hst hno HQ HRP hown
              go_wp2_with fail
              rw [HR.out]
              go_ret2
              exact ⟨_, rfl, NumsW.nil _ _, hbr⟩
            · have d1 : (b : Int) < 48 := by omega
              clear hst hno HQ HRP hown
              go_wp2_with fail
              rw [HR.out]
              go_ret2
              exact ⟨_, rfl, NumsW.nil _ _, hbr⟩
      · obtain rfl : k = s.size := by omega
        have hq := HQ.out
        rw [HEN.out] at hq
        have hr := HRP.out
        rw [hq] at hr
        dsimp only at hr
        by_cases h16 : 16 < f.length + 1
        · rw [if_pos h16] at hr
          have HR : Hid (R = ([], false)) := hr
          have i16 : (16 : Int) < (f.length : Int) + 1 := by omega
          clear hr hq HQ HRP hown
          go_wp2_with fail
          rw [HR.out]
          go_ret2
          exact ⟨_, rfl, NumsW.nil _ _, hbr⟩
        · rw [if_neg h16] at hr
          have HR : Hid (R = (f ++ [l], true)) := hr
          have i16 : (f.length : Int) + 1 ≤ 16 := by omega
          have hnum : NumsW (FromP w.heap.size) wr (.slice (some ⟨g, 0, none⟩) (f.length + 1) cap) (f ++ [l]) := own_nums (by rw [List.length_append]; exact hown) (by simp)
          clear hr hq HQ HRP hown
          go_wp2_with fail
          rw [HR.out]
          go_ret2
          exact ⟨_, rfl, hnum, hbr⟩
end Go.Proofs.YtpkjaallhhjleaaGreatDoor

/-
  parser.within: what it returns: for every state, every byte.
-/
namespace Go.Proofs.YtpkjaallhhjleaaGreatDoor
open Go.RowKit

set_option maxRecDepth 20000 in
set_option maxHeartbeats 4000000 in
theorem pwithin_any (p : Ps) (b : Nat) (w : World) (hb : b < 256) :
    Calls Tryz.prog 88 #[stV p, .int .u8 (b : Int)] w (FedW w (withinN p b)) := by
  obtain ⟨R, hR⟩ : ∃ R, withinN p b = R := ⟨_, rfl⟩
  rw [hR]
  have hR := Lib.hid hR
  have HPV : Hid (stV p = .agg #[.int .i64 (stN p), .string (stB p)]) := rfl
  rw [HPV.out]
  obtain ⟨N, hN⟩ : ∃ N, stN p = N := ⟨_, rfl⟩
  obtain ⟨B, hB⟩ : ∃ B, stB p = B := ⟨_, rfl⟩
  rw [hN, hB] at HPV ⊢
  clear hN hB
  have HW : Hid (∀ W0, (w.alloc (.cells #[.int .i64 N, .string B] 45)).alloc (.cells #[.int .i64 0, .string ⟨#[]⟩] 45) = W0 → Below w.heap.size w W0 ∧ W0.heap.size = w.heap.size + 2 ∧ blk2 W0 w.heap.size (.int .i64 N) (.string B) ∧ blk2 W0 (w.heap.size + 1) (.int .i64 0) (.string ⟨#[]⟩)) := fun W0 h => by rw [← h]; exact box_new2 w _ _ _ _
  have HN := Lib.hid (fun W => invalid_any W)
  have HC := Lib.hid (fun W => control_any b W hb)
  by_cases h27 : b = 27
  · subst h27
    replace hR : Hid (R = (.esc, [badA])) := by
      show _ = _
      rw [← hR.out]
      unfold withinN
      rw [if_pos rfl]
    clear HC
    go_enter Tryz.func88, Tryz.ntmps88
    go_wp2_with fail
    obtain ⟨W0, hW0⟩ : ∃ W0, (w.alloc (.cells #[.int .i64 N, .string B] 45)).alloc (.cells #[.int .i64 0, .string ⟨#[]⟩] 45) = W0 := ⟨_, rfl⟩
    obtain ⟨hb0, hs0, hBP, hB0⟩ := HW.out W0 hW0
    rw [hW0]
    clear HW hW0
    go_fit (HN.out _)
    rintro e w1 ⟨v, rfl, hA, _, hb1⟩
    have hB1 := hB0.below hb1
    have hbw1 := hb0.trans (hb1.mono hb0.size)
    rw [hs0] at hA
    clear hB0 hBP hb0 hs0 hb1
    obtain ⟨⟨c0, c1⟩, z0, z1⟩ := hB1.cells
    go_wp2_with fail
    obtain ⟨⟨y0, y1⟩, q1, q2⟩ := box_end (w := w) (w1 := w1) (Q := w.heap.size + 1) (.int .i64 2) (.string ⟨#[]⟩) hB1 (Nat.le_succ _) hbw1 hA
    rw [hR.out]
    exact bodyPost_ret (v := .tuple #[.agg #[.int .i64 2, .string ⟨#[]⟩], v]) (by simp [results, Tryz.results88, go_sem, y0, y1]) rfl ⟨_, rfl, q2, q1⟩
  · have e27 : ((b : Int) == 27) = false := beq_false_of_ne (by omega)
    by_cases h24 : b = 24
    · subst h24
      replace hR : Hid (R = (.zero, [badA])) := by
        show _ = _
        rw [← hR.out]
        unfold withinN
        rw [if_neg h27, if_pos (.inl rfl)]
      clear HC
      go_enter Tryz.func88, Tryz.ntmps88
      go_wp2_with fail
      obtain ⟨W0, hW0⟩ : ∃ W0, (w.alloc (.cells #[.int .i64 N, .string B] 45)).alloc (.cells #[.int .i64 0, .string ⟨#[]⟩] 45) = W0 := ⟨_, rfl⟩
      obtain ⟨hb0, hs0, hBP, hB0⟩ := HW.out W0 hW0
      rw [hW0]
      clear HW hW0
      go_fit (HN.out _)
      rintro e w1 ⟨v, rfl, hA, _, hb1⟩
      have hB1 := hB0.below hb1
      have hbw1 := hb0.trans (hb1.mono hb0.size)
      rw [hs0] at hA
      clear hB0 hBP hb0 hs0 hb1
      obtain ⟨⟨c0, c1⟩, z0, z1⟩ := hB1.cells
      go_wp2_with fail
      obtain ⟨⟨y0, y1⟩, q1, q2⟩ := box_end (w := w) (w1 := w1) (Q := w.heap.size + 1) (.int .i64 0) (.string ⟨#[]⟩) hB1 (Nat.le_succ _) hbw1 hA
      rw [hR.out]
      exact bodyPost_ret (v := .tuple #[.agg #[.int .i64 0, .string ⟨#[]⟩], v]) (by simp [results, Tryz.results88, go_sem, y0, y1]) rfl ⟨_, rfl, q2, q1⟩
    · have e24 : ((b : Int) == 24) = false := beq_false_of_ne (by omega)
      by_cases h26 : b = 26
      · subst h26
        replace hR : Hid (R = (.zero, [badA])) := by
          show _ = _
          rw [← hR.out]
          unfold withinN
          rw [if_neg h27, if_pos (.inr rfl)]
        clear HC
        go_enter Tryz.func88, Tryz.ntmps88
        go_wp2_with fail
        obtain ⟨W0, hW0⟩ : ∃ W0, (w.alloc (.cells #[.int .i64 N, .string B] 45)).alloc (.cells #[.int .i64 0, .string ⟨#[]⟩] 45) = W0 := ⟨_, rfl⟩
        obtain ⟨hb0, hs0, hBP, hB0⟩ := HW.out W0 hW0
        rw [hW0]
        clear HW hW0
        go_fit (HN.out _)
        rintro e w1 ⟨v, rfl, hA, _, hb1⟩
        have hB1 := hB0.below hb1
        have hbw1 := hb0.trans (hb1.mono hb0.size)
        rw [hs0] at hA
        clear hB0 hBP hb0 hs0 hb1
        obtain ⟨⟨c0, c1⟩, z0, z1⟩ := hB1.cells
        go_wp2_with fail
        obtain ⟨⟨y0, y1⟩, q1, q2⟩ := box_end (w := w) (w1 := w1) (Q := w.heap.size + 1) (.int .i64 0) (.string ⟨#[]⟩) hB1 (Nat.le_succ _) hbw1 hA
        rw [hR.out]
        exact bodyPost_ret (v := .tuple #[.agg #[.int .i64 0, .string ⟨#[]⟩], v]) (by simp [results, Tryz.results88, go_sem, y0, y1]) rfl ⟨_, rfl, q2, q1⟩
      · have e26 : ((b : Int) == 26) = false := beq_false_of_ne (by omega)
        replace hR : Hid (R = (p, [(2, b, [], 0)])) := by
          show _ = _
          rw [← hR.out]
          unfold withinN
          rw [if_neg h27, if_neg (by omega)]
        clear HN
        go_enter Tryz.func88, Tryz.ntmps88
        go_wp2_with fail
        obtain ⟨W0, hW0⟩ : ∃ W0, (w.alloc (.cells #[.int .i64 N, .string B] 45)).alloc (.cells #[.int .i64 0, .string ⟨#[]⟩] 45) = W0 := ⟨_, rfl⟩
        obtain ⟨hb0, hs0, hBP, hB0⟩ := HW.out W0 hW0
        rw [hW0]
        clear HW hW0
        have HC2 : Hid (∀ V, Below W0.heap.size W0 V → Calls Tryz.prog 84 #[.int .u8 (b : Int)] V fun e u => ∃ v, e = .returned v ∧ ActsW (FromP (w.heap.size + 2)) u v [(2, b, [], 0)] ∧ Below W0.heap.size W0 u ∧ (u.cell? ⟨w.heap.size + 1, 0, none⟩ = some (.int .i64 0) ∧ u.cell? ⟨w.heap.size + 1, 1, none⟩ = some (.string ⟨#[]⟩)) ∧ u.frozen? ⟨w.heap.size + 1, 0, none⟩ = false ∧ u.frozen? ⟨w.heap.size + 1, 1, none⟩ = false) := fun V hV => (control_any b V hb).mono fun e u ⟨v, he, hA, _, hb2⟩ => by
          have hbu := hV.trans (hb2.mono hV.size)
          exact ⟨v, he, acts_from hA (by rw [← hs0]; exact hV.size), hbu, (hB0.below hbu).cells⟩
        have HC : Hid (∀ V, Below W0.heap.size W0 V → V.cell? ⟨w.heap.size, 0, none⟩ = some (.int .i64 N) ∧ V.cell? ⟨w.heap.size, 1, none⟩ = some (.string B)) := fun V hV => (hBP.below hV).cells.1
        have HB := Lib.hid (fun V (hV : Below W0.heap.size W0 V) => hB0.below hV)
        have HCS := Lib.hid (fun V (hV : Below W0.heap.size W0 V) x y => held_set (Q := w.heap.size + 1) x y (HC.out V hV) (by omega))
        have kk := Below.refl W0.heap.size W0
        have k0 : Below W0.heap.size W0 W0.drew := kk.drew
        obtain ⟨p0, p1⟩ := HC.out W0 kk
        go_region_held3 (fun V => V.cell? ⟨w.heap.size, 0, none⟩ = some (.int .i64 N) ∧ V.cell? ⟨w.heap.size, 1, none⟩ = some (.string B))
          (first | with_reducible exact HC.out _ kk | with_reducible exact HC.out _ k0 | with_reducible exact HCS.out _ kk _ _)
          (first
            | (go_at_call 84; go_fit (HC2.out _ ?_); (first | with_reducible exact kk | with_reducible exact k0); rintro e vv ⟨v, rfl, hA, kk, ⟨c0, c1⟩, z0, z1⟩))
        all_goals
          obtain ⟨⟨y0, y1⟩, q1, q2⟩ := box_end (w := w) (w1 := vv) (Q := w.heap.size + 1) (.int .i64 N) (.string B) (HB.out _ kk) (Nat.le_succ _) (hb0.trans (kk.mono hb0.size)) hA
          clear HC HCS HB HC2 c0 c1 z0 z1
          go_wp2_with fail
          rw [hR.out]
          exact bodyPost_ret (v := .tuple #[.agg #[.int .i64 N, .string B], v]) (by simp [results, Tryz.results88, go_sem, y0, y1]) rfl ⟨_, by rw [HPV.out], q2, q1⟩
end Go.Proofs.YtpkjaallhhjleaaGreatDoor

/-
  parser.behindEscape: what it returns: for every byte.
-/
namespace Go.Proofs.YtpkjaallhhjleaaGreatDoor
open Go.RowKit

/-- What one of Feed's parts returns, in letters. -/
theorem fed_letters {w : World} {f : FuncId} {args : Array Value} {r : Ps × List Ac} (h : Calls Tryz.prog f args w (FedW w r)) {n : Int} {s : ByteArray} {l : List Ac} (hn : stN r.1 = n) (hs : stB r.1 = s) (hl : r.2 = l) :
    Calls Tryz.prog f args w fun e u => ∃ v, e = .returned (.tuple #[.agg #[.int .i64 n, .string s], v]) ∧ ActsW (FromP w.heap.size) u v l ∧ Below w.heap.size w u := by
  subst hn hs hl
  exact h

set_option maxRecDepth 20000 in
set_option maxHeartbeats 4000000 in
theorem esc_any (b : Nat) (w : World) (hb : b < 256) :
    Calls Tryz.prog 54 #[.agg #[.int .i64 2, .string ⟨#[]⟩], .int .u8 (b : Int)] w (FedW w (escN b)) := by
  obtain ⟨R, hR⟩ : ∃ R, escN b = R := ⟨_, rfl⟩
  rw [hR]
  have hR := Lib.hid hR
  have HW : Hid (∀ W0, (w.alloc (.cells #[.int .i64 2, .string ⟨#[]⟩] 45)).alloc (.cells #[.int .i64 0, .string ⟨#[]⟩] 45) = W0 → Below w.heap.size w W0 ∧ W0.heap.size = w.heap.size + 2 ∧ blk2 W0 w.heap.size (.int .i64 2) (.string ⟨#[]⟩) ∧ blk2 W0 (w.heap.size + 1) (.int .i64 0) (.string ⟨#[]⟩)) := fun W0 h => by rw [← h]; exact box_new2 w _ _ _ _
  have HN := Lib.hid (fun W => invalid_any W)
  have HI := Lib.hid (fun W => pwithin_any .esc b W hb)
  by_cases h32 : b < 32
  · have i32 : (b : Int) < 32 := by omega
    replace hR : Hid (R = withinN .esc b) := by
      show _ = _
      rw [← hR.out]
      unfold escN
      rw [if_pos h32]
    obtain ⟨T, hT⟩ : ∃ T, withinN .esc b = T := ⟨_, rfl⟩
    rw [hT] at HI hR
    obtain ⟨n, hn⟩ : ∃ n, stN T.1 = n := ⟨_, rfl⟩
    obtain ⟨s, hs⟩ : ∃ s, stB T.1 = s := ⟨_, rfl⟩
    have HI2 : Hid (∀ W, Calls Tryz.prog 88 #[.agg #[.int .i64 2, .string ⟨#[]⟩], .int .u8 (b : Int)] W fun e u => ∃ v, e = .returned (.tuple #[.agg #[.int .i64 n, .string s], v]) ∧ ActsW (FromP W.heap.size) u v T.2 ∧ Below W.heap.size W u) := fun W => fed_letters (HI.out W) hn hs rfl
    have HV : Hid (stV T.1 = .agg #[.int .i64 n, .string s]) := by show _ = _; rw [← hn, ← hs]; rfl
    clear HN HI hn hs hT
    go_enter Tryz.func54, Tryz.ntmps54
    go_wp2_with fail
    obtain ⟨W0, hW0⟩ : ∃ W0, (w.alloc (.cells #[.int .i64 2, .string ⟨#[]⟩] 45)).alloc (.cells #[.int .i64 0, .string ⟨#[]⟩] 45) = W0 := ⟨_, rfl⟩
    obtain ⟨hb0, hs0, hBP, hB0⟩ := HW.out W0 hW0
    rw [hW0]
    clear HW hW0
    obtain ⟨⟨p0, p1⟩, r0, r1⟩ := hBP.cells
    go_wp2_with fail
    go_fit (HI2.out _)
    rintro e w1 ⟨v, rfl, hA, hb1⟩
    have hB1 := hB0.below hb1
    have hbw1 := hb0.trans (hb1.mono hb0.size)
    rw [hs0] at hA
    clear hB0 hBP hb0 hs0 hb1 p0 p1 r0 r1 HI2
    obtain ⟨⟨c0, c1⟩, z0, z1⟩ := hB1.cells
    go_wp2_with fail
    obtain ⟨⟨y0, y1⟩, q1, q2⟩ := box_end (w := w) (w1 := w1) (Q := w.heap.size + 1) (.int .i64 n) (.string s) hB1 (Nat.le_succ _) hbw1 (hA)
    rw [hR.out]
    exact bodyPost_ret (v := .tuple #[.agg #[.int .i64 n, .string s], v]) (by simp [results, Tryz.results54, go_sem, y0, y1]) rfl ⟨_, by rw [HV.out], q2, q1⟩
  · have i32 : (32 : Int) ≤ (b : Int) := by omega
    by_cases h91 : b = 91
    · subst h91
      replace hR : Hid (R = (.seq [] none, [])) := by
        show _ = _
        rw [← hR.out]
        unfold escN
        rw [if_neg h32, if_pos rfl]
      clear HN HI
      obtain ⟨q1, _, _, hQ⟩ := box_new2 w (.int .i64 2) (.int .i64 3) (.string ⟨#[]⟩) (.string ⟨#[]⟩)
      obtain ⟨⟨y0, y1⟩, _⟩ := hQ.cells
      clear HW
      go_enter Tryz.func54, Tryz.ntmps54
      go_wp2_with fail
      rw [hR.out]
      exact bodyPost_ret (v := .tuple #[.agg #[.int .i64 3, .string ⟨#[]⟩], .slice none 0 0]) (by simp [results, Tryz.results54, go_sem, y0, y1]) rfl ⟨_, rfl, ActsW.nil _ _, q1⟩
    · have e91 : ((b : Int) == 91) = false := beq_false_of_ne (by omega)
      by_cases h48 : 48 ≤ b ∧ b < 127
      · have i48 : (48 : Int) ≤ (b : Int) := by omega
        have i127 : (b : Int) < 127 := by omega
        replace hR : Hid (R = (.zero, [(4, 0, [], b)])) := by
          show _ = _
          rw [← hR.out]
          unfold escN
          rw [if_neg h32, if_neg h91, if_pos h48]
        clear HN HI
        go_enter Tryz.func54, Tryz.ntmps54
        go_wp2_with fail
        obtain ⟨W0, hW0⟩ : ∃ W0, (w.alloc (.cells #[.int .i64 2, .string ⟨#[]⟩] 45)).alloc (.cells #[.int .i64 0, .string ⟨#[]⟩] 45) = W0 := ⟨_, rfl⟩
        obtain ⟨hb0, hs0, hBP, hB0⟩ := HW.out W0 hW0
        rw [hW0]
        clear HW hW0
        have hA : ActsW (FromP (w.heap.size + 1 + 1)) (W0.alloc (.cells #[.int .i64 4, .int .i32 0, .slice none 0 0, .int .u8 (b : Int)] 72)) (.slice (some ⟨W0.heap.size, 0, none⟩) 1 1) [(4, 0, [], b)] := acts_one (by omega) (NumsW.nil _ _)
        have hb1 := fun o => (Below.refl W0.heap.size W0).alloc (Nat.le_refl _) o
        have hB1 := hB0.below (hb1 (.cells #[.int .i64 4, .int .i32 0, .slice none 0 0, .int .u8 (b : Int)] 72))
        have hbw1 := hb0.trans ((hb1 (.cells #[.int .i64 4, .int .i32 0, .slice none 0 0, .int .u8 (b : Int)] 72)).mono hb0.size)
        obtain ⟨⟨c0, c1⟩, z0, z1⟩ := hB1.cells
        clear hb1
        go_wp2_with fail
        rw [hR.out]
        exact bodyPost_ret (v := .tuple #[.agg #[.int .i64 0, .string ⟨#[]⟩], .slice (some ⟨W0.heap.size, 0, none⟩) 1 1]) (by simp [results, Tryz.results54, go_sem, c0, c1]) rfl ⟨_, rfl, acts_from hA (by omega), hbw1⟩
      · clear HI
        replace hR : Hid (R = (.zero, [badA])) := by
          show _ = _
          rw [← hR.out]
          unfold escN
          rw [if_neg h32, if_neg h91, if_neg h48]
        by_cases g48 : 48 ≤ b
        · have i48 : (48 : Int) ≤ (b : Int) := by omega
          have i127 : (127 : Int) ≤ (b : Int) := by omega
          go_enter Tryz.func54, Tryz.ntmps54
          go_wp2_with fail
          obtain ⟨W0, hW0⟩ : ∃ W0, (w.alloc (.cells #[.int .i64 2, .string ⟨#[]⟩] 45)).alloc (.cells #[.int .i64 0, .string ⟨#[]⟩] 45) = W0 := ⟨_, rfl⟩
          obtain ⟨hb0, hs0, hBP, hB0⟩ := HW.out W0 hW0
          rw [hW0]
          clear HW hW0
          go_wp2_with fail
          go_fit (HN.out _)
          rintro e w1 ⟨v, rfl, hA, _, hb1⟩
          have hB1 := hB0.below hb1
          have hbw1 := hb0.trans (hb1.mono hb0.size)
          rw [hs0] at hA
          clear hB0 hBP hb0 hs0 hb1 HN
          obtain ⟨⟨c0, c1⟩, z0, z1⟩ := hB1.cells
          go_wp2_with fail
          obtain ⟨⟨y0, y1⟩, q1, q2⟩ := box_end (w := w) (w1 := w1) (Q := w.heap.size + 1) (.int .i64 0) (.string ⟨#[]⟩) hB1 (Nat.le_succ _) hbw1 (hA)
          rw [hR.out]
          exact bodyPost_ret (v := .tuple #[.agg #[.int .i64 0, .string ⟨#[]⟩], v]) (by simp [results, Tryz.results54, go_sem, y0, y1]) rfl ⟨_, rfl, q2, q1⟩
        · have i48 : (b : Int) < 48 := by omega
          go_enter Tryz.func54, Tryz.ntmps54
          go_wp2_with fail
          obtain ⟨W0, hW0⟩ : ∃ W0, (w.alloc (.cells #[.int .i64 2, .string ⟨#[]⟩] 45)).alloc (.cells #[.int .i64 0, .string ⟨#[]⟩] 45) = W0 := ⟨_, rfl⟩
          obtain ⟨hb0, hs0, hBP, hB0⟩ := HW.out W0 hW0
          rw [hW0]
          clear HW hW0
          go_wp2_with fail
          go_fit (HN.out _)
          rintro e w1 ⟨v, rfl, hA, _, hb1⟩
          have hB1 := hB0.below hb1
          have hbw1 := hb0.trans (hb1.mono hb0.size)
          rw [hs0] at hA
          clear hB0 hBP hb0 hs0 hb1 HN
          obtain ⟨⟨c0, c1⟩, z0, z1⟩ := hB1.cells
          go_wp2_with fail
          obtain ⟨⟨y0, y1⟩, q1, q2⟩ := box_end (w := w) (w1 := w1) (Q := w.heap.size + 1) (.int .i64 0) (.string ⟨#[]⟩) hB1 (Nat.le_succ _) hbw1 (hA)
          rw [hR.out]
          exact bodyPost_ret (v := .tuple #[.agg #[.int .i64 0, .string ⟨#[]⟩], v]) (by simp [results, Tryz.results54, go_sem, y0, y1]) rfl ⟨_, rfl, q2, q1⟩
end Go.Proofs.YtpkjaallhhjleaaGreatDoor

/-
  parser.behindSequence: what it returns: for every byte, whatever is kept of a sequence.
-/
namespace Go.Proofs.YtpkjaallhhjleaaGreatDoor
open Go.RowKit

theorem step_stN (pre : List (Option Nat)) (x : Option Nat) (b : Nat) : stN (stepN pre x b) = 3 := by
  unfold stepN
  repeat' split
  all_goals rfl

set_option maxRecDepth 20000 in
set_option maxHeartbeats 4000000 in
theorem seq_any (pre : List (Option Nat)) (x : Option Nat) (b : Nat) (w : World) (hb : b < 256) (hk : OkP (.seq pre x)) (hP : PowW w) :
    Calls Tryz.prog 55 #[.agg #[.int .i64 3, .string (rend pre x)], .int .u8 (b : Int)] w (FedW w (seqN pre x b)) := by
  obtain ⟨R, hR⟩ : ∃ R, seqN pre x b = R := ⟨_, rfl⟩
  rw [hR]
  have hR := Lib.hid hR
  have HN := Lib.hid (fun W => invalid_any W)
  have HI : Hid (∀ W, Calls Tryz.prog 88 #[.agg #[.int .i64 3, .string (rend pre x)], .int .u8 (b : Int)] W (FedW W (withinN (.seq pre x) b))) := fun W => pwithin_any (.seq pre x) b W hb
  have HL := Lib.hid (fun W (hW : Below w.heap.size w W) => longer_any pre x b W hk hb (hP.below hW))
  have HP := Lib.hid (fun W => params_any pre x W hk)
  have hne := rend_ne pre x
  obtain ⟨O, hO⟩ : ∃ O, stB (stepN pre x b) = O := ⟨_, rfl⟩
  have HO : Hid (stV (stepN pre x b) = .agg #[.int .i64 3, .string O]) := by
    show _ = _
    unfold stV
    rw [step_stN, hO]
  rw [hO] at HL
  obtain ⟨S, hS⟩ : ∃ S, rend pre x = S := ⟨_, rfl⟩
  rw [hS] at HL HP hne HI ⊢
  have hq : (S.toList == [63]) = false := by
    rw [beq_eq_false_iff_ne, Lib.toList_data]
    exact hne
  clear hne hP hk hO hS
  have HW : Hid (∀ W0, (w.alloc (.cells #[.int .i64 3, .string S] 45)).alloc (.cells #[.int .i64 0, .string ⟨#[]⟩] 45) = W0 → Below w.heap.size w W0 ∧ W0.heap.size = w.heap.size + 2 ∧ blk2 W0 w.heap.size (.int .i64 3) (.string S) ∧ blk2 W0 (w.heap.size + 1) (.int .i64 0) (.string ⟨#[]⟩)) := fun W0 h => by rw [← h]; exact box_new2 w _ _ _ _
  by_cases h32 : b < 32
  · have i32 : (b : Int) < 32 := by omega
    replace hR : Hid (R = withinN (.seq pre x) b) := by
      show _ = _
      rw [← hR.out]
      unfold seqN
      rw [if_pos h32]
    obtain ⟨T, hT⟩ : ∃ T, withinN (.seq pre x) b = T := ⟨_, rfl⟩
    rw [hT] at HI hR
    obtain ⟨n, hn⟩ : ∃ n, stN T.1 = n := ⟨_, rfl⟩
    obtain ⟨s, hs⟩ : ∃ s, stB T.1 = s := ⟨_, rfl⟩
    have HI2 : Hid (∀ W, Calls Tryz.prog 88 #[.agg #[.int .i64 3, .string S], .int .u8 (b : Int)] W fun e u => ∃ v, e = .returned (.tuple #[.agg #[.int .i64 n, .string s], v]) ∧ ActsW (FromP W.heap.size) u v T.2 ∧ Below W.heap.size W u) := fun W => fed_letters (HI.out W) hn hs rfl
    have HV : Hid (stV T.1 = .agg #[.int .i64 n, .string s]) := by show _ = _; rw [← hn, ← hs]; rfl
    clear HN HI hn hs hT HL HP
    go_enter Tryz.func55, Tryz.ntmps55
    go_wp2_with fail
    obtain ⟨W0, hW0⟩ : ∃ W0, (w.alloc (.cells #[.int .i64 3, .string S] 45)).alloc (.cells #[.int .i64 0, .string ⟨#[]⟩] 45) = W0 := ⟨_, rfl⟩
    obtain ⟨hb0, hs0, hBP, hB0⟩ := HW.out W0 hW0
    rw [hW0]
    clear HW hW0
    obtain ⟨⟨p0, p1⟩, r0, r1⟩ := hBP.cells
    go_wp2_with fail
    go_fit (HI2.out _)
    rintro e w1 ⟨v, rfl, hA, hb1⟩
    have hB1 := hB0.below hb1
    have hbw1 := hb0.trans (hb1.mono hb0.size)
    rw [hs0] at hA
    clear hB0 hBP hb0 hs0 hb1 p0 p1 r0 r1 HI2
    obtain ⟨⟨c0, c1⟩, z0, z1⟩ := hB1.cells
    go_wp2_with fail
    obtain ⟨⟨y0, y1⟩, q1, q2⟩ := box_end (w := w) (w1 := w1) (Q := w.heap.size + 1) (.int .i64 n) (.string s) hB1 (Nat.le_succ _) hbw1 (hA)
    rw [hR.out]
    exact bodyPost_ret (v := .tuple #[.agg #[.int .i64 n, .string s], v]) (by simp [results, Tryz.results55, go_sem, y0, y1]) rfl ⟨_, by rw [HV.out], q2, q1⟩
  · have i32 : (32 : Int) ≤ (b : Int) := by omega
    by_cases h64 : b < 64
    · have i64 : (b : Int) < 64 := by omega
      replace hR : Hid (R = (stepN pre x b, [])) := by
        show _ = _
        rw [← hR.out]
        unfold seqN
        rw [if_neg h32, if_pos h64]
      clear HN HI HP
      go_enter Tryz.func55, Tryz.ntmps55
      go_wp2_with fail
      obtain ⟨W0, hW0⟩ : ∃ W0, (w.alloc (.cells #[.int .i64 3, .string S] 45)).alloc (.cells #[.int .i64 0, .string ⟨#[]⟩] 45) = W0 := ⟨_, rfl⟩
      obtain ⟨hb0, hs0, hBP, hB0⟩ := HW.out W0 hW0
      rw [hW0]
      clear HW hW0
      obtain ⟨⟨p0, p1⟩, r0, r1⟩ := hBP.cells
      go_wp2_with fail
      go_fit (HL.out _ hb0)
      rintro e w1 ⟨rfl, hb1⟩
      have hB1 := hB0.below hb1
      have hbw1 := hb0.trans (hb1.mono hb0.size)
      clear hB0 hBP hb0 hs0 hb1 p0 p1 r0 r1 HL
      obtain ⟨⟨c0, c1⟩, z0, z1⟩ := hB1.cells
      go_wp2_with fail
      obtain ⟨⟨y0, y1⟩, q1, q2⟩ := box_end (w := w) (w1 := w1) (Q := w.heap.size + 1) (.int .i64 3) (.string O) hB1 (Nat.le_succ _) hbw1 (ActsW.nil _ _)
      rw [hR.out]
      exact bodyPost_ret (v := .tuple #[.agg #[.int .i64 3, .string O], .slice none 0 0]) (by simp [results, Tryz.results55, go_sem, y0, y1]) rfl ⟨_, by rw [HO.out], q2, q1⟩
    · have i64 : (64 : Int) ≤ (b : Int) := by omega
      by_cases h127 : b < 127
      · have i127 : (b : Int) < 127 := by omega
        replace hR : Hid (R = (.zero, [(3, 0, paramsN pre x, b)])) := by
          show _ = _
          rw [← hR.out]
          unfold seqN
          rw [if_neg h32, if_neg h64, if_pos h127]
        clear HN HI HL
        go_enter Tryz.func55, Tryz.ntmps55
        go_wp2_with fail
        obtain ⟨W0, hW0⟩ : ∃ W0, (w.alloc (.cells #[.int .i64 3, .string S] 45)).alloc (.cells #[.int .i64 0, .string ⟨#[]⟩] 45) = W0 := ⟨_, rfl⟩
        obtain ⟨hb0, hs0, hBP, hB0⟩ := HW.out W0 hW0
        rw [hW0]
        clear HW hW0
        obtain ⟨⟨p0, p1⟩, r0, r1⟩ := hBP.cells
        go_wp2_with fail
        go_fit (HP.out _)
        rintro e w1 ⟨v, rfl, hA, hb1⟩
        have hB1 := hB0.below hb1
        have hbw1 := hb0.trans (hb1.mono hb0.size)
        have hs1 : w.heap.size + 2 ≤ w1.heap.size := by rw [← hs0]; exact hb1.size
        rw [hs0] at hA
        obtain ⟨va, vn, vc, rfl⟩ : ∃ va vn vc, v = .slice va vn vc := by
          obtain ⟨va, vc, hv, _⟩ := hA.1
          exact ⟨va, _, vc, hv⟩
        have hA2 : ActsW (FromP (w.heap.size + 1 + 1)) (w1.alloc (.cells #[.int .i64 3, .int .i32 0, .slice va vn vc, .int .u8 (b : Int)] 72)) (.slice (some ⟨w1.heap.size, 0, none⟩) 1 1) [(3, 0, paramsN pre x, b)] := acts_one (by omega) hA
        have hb2 := (Below.refl w1.heap.size w1).alloc (Nat.le_refl _) (.cells #[.int .i64 3, .int .i32 0, .slice va vn vc, .int .u8 (b : Int)] 72)
        have hB2 := hB1.below hb2
        have hbw2 := hbw1.trans (hb2.mono hbw1.size)
        clear hB0 hBP hb0 hs0 hb1 p0 p1 r0 r1 HP hb2
        obtain ⟨⟨c0, c1⟩, z0, z1⟩ := hB2.cells
        go_wp2_with fail
        obtain ⟨⟨y0, y1⟩, q1, q2⟩ := box_end (w := w) (w1 := w1.alloc (.cells #[.int .i64 3, .int .i32 0, .slice va vn vc, .int .u8 (b : Int)] 72)) (Q := w.heap.size + 1) (.int .i64 0) (.string ⟨#[]⟩) hB2 (Nat.le_succ _) hbw2 (hA2)
        rw [hR.out]
        exact bodyPost_ret (v := .tuple #[.agg #[.int .i64 0, .string ⟨#[]⟩], .slice (some ⟨w1.heap.size, 0, none⟩) 1 1]) (by simp [results, Tryz.results55, go_sem, y0, y1]) rfl ⟨_, rfl, q2, q1⟩
      · have i127 : (127 : Int) ≤ (b : Int) := by omega
        replace hR : Hid (R = (.zero, [badA])) := by
          show _ = _
          rw [← hR.out]
          unfold seqN
          rw [if_neg h32, if_neg h64, if_neg h127]
        clear HL HI HP
        go_enter Tryz.func55, Tryz.ntmps55
        go_wp2_with fail
        obtain ⟨W0, hW0⟩ : ∃ W0, (w.alloc (.cells #[.int .i64 3, .string S] 45)).alloc (.cells #[.int .i64 0, .string ⟨#[]⟩] 45) = W0 := ⟨_, rfl⟩
        obtain ⟨hb0, hs0, hBP, hB0⟩ := HW.out W0 hW0
        rw [hW0]
        clear HW hW0
        obtain ⟨⟨p0, p1⟩, r0, r1⟩ := hBP.cells
        go_wp2_with fail
        go_fit (HN.out _)
        rintro e w1 ⟨v, rfl, hA, _, hb1⟩
        have hB1 := hB0.below hb1
        have hbw1 := hb0.trans (hb1.mono hb0.size)
        rw [hs0] at hA
        clear hB0 hBP hb0 hs0 hb1 HN p0 p1 r0 r1
        obtain ⟨⟨c0, c1⟩, z0, z1⟩ := hB1.cells
        go_wp2_with fail
        obtain ⟨⟨y0, y1⟩, q1, q2⟩ := box_end (w := w) (w1 := w1) (Q := w.heap.size + 1) (.int .i64 0) (.string ⟨#[]⟩) hB1 (Nat.le_succ _) hbw1 (hA)
        rw [hR.out]
        exact bodyPost_ret (v := .tuple #[.agg #[.int .i64 0, .string ⟨#[]⟩], v]) (by simp [results, Tryz.results55, go_sem, y0, y1]) rfl ⟨_, rfl, q2, q1⟩

set_option maxRecDepth 20000 in
set_option maxHeartbeats 4000000 in
theorem wrong_any (b : Nat) (w : World) (hb : b < 256) :
    Calls Tryz.prog 55 #[.agg #[.int .i64 3, .string ⟨#[63]⟩], .int .u8 (b : Int)] w (FedW w (wrongN b)) := by
  obtain ⟨R, hR⟩ : ∃ R, wrongN b = R := ⟨_, rfl⟩
  rw [hR]
  have hR := Lib.hid hR
  have HN := Lib.hid (fun W => invalid_any W)
  have HI : Hid (∀ W, Calls Tryz.prog 88 #[.agg #[.int .i64 3, .string ⟨#[63]⟩], .int .u8 (b : Int)] W (FedW W (withinN .bad b))) := fun W => pwithin_any .bad b W hb
  have HL := Lib.hid (fun W (_ : Below w.heap.size w W) => longer_bad b W)
  have HW : Hid (∀ W0, (w.alloc (.cells #[.int .i64 3, .string ⟨#[63]⟩] 45)).alloc (.cells #[.int .i64 0, .string ⟨#[]⟩] 45) = W0 → Below w.heap.size w W0 ∧ W0.heap.size = w.heap.size + 2 ∧ blk2 W0 w.heap.size (.int .i64 3) (.string ⟨#[63]⟩) ∧ blk2 W0 (w.heap.size + 1) (.int .i64 0) (.string ⟨#[]⟩)) := fun W0 h => by rw [← h]; exact box_new2 w _ _ _ _
  by_cases h32 : b < 32
  · have i32 : (b : Int) < 32 := by omega
    replace hR : Hid (R = withinN .bad b) := by
      show _ = _
      rw [← hR.out]
      unfold wrongN
      rw [if_pos h32]
    obtain ⟨T, hT⟩ : ∃ T, withinN .bad b = T := ⟨_, rfl⟩
    rw [hT] at HI hR
    obtain ⟨n, hn⟩ : ∃ n, stN T.1 = n := ⟨_, rfl⟩
    obtain ⟨s, hs⟩ : ∃ s, stB T.1 = s := ⟨_, rfl⟩
    have HI2 : Hid (∀ W, Calls Tryz.prog 88 #[.agg #[.int .i64 3, .string ⟨#[63]⟩], .int .u8 (b : Int)] W fun e u => ∃ v, e = .returned (.tuple #[.agg #[.int .i64 n, .string s], v]) ∧ ActsW (FromP W.heap.size) u v T.2 ∧ Below W.heap.size W u) := fun W => fed_letters (HI.out W) hn hs rfl
    have HV : Hid (stV T.1 = .agg #[.int .i64 n, .string s]) := by show _ = _; rw [← hn, ← hs]; rfl
    clear HN HI hn hs hT HL
    go_enter Tryz.func55, Tryz.ntmps55
    go_wp2_with fail
    obtain ⟨W0, hW0⟩ : ∃ W0, (w.alloc (.cells #[.int .i64 3, .string ⟨#[63]⟩] 45)).alloc (.cells #[.int .i64 0, .string ⟨#[]⟩] 45) = W0 := ⟨_, rfl⟩
    obtain ⟨hb0, hs0, hBP, hB0⟩ := HW.out W0 hW0
    rw [hW0]
    clear HW hW0
    obtain ⟨⟨p0, p1⟩, r0, r1⟩ := hBP.cells
    go_wp2_with fail
    go_fit (HI2.out _)
    rintro e w1 ⟨v, rfl, hA, hb1⟩
    have hB1 := hB0.below hb1
    have hbw1 := hb0.trans (hb1.mono hb0.size)
    rw [hs0] at hA
    clear hB0 hBP hb0 hs0 hb1 p0 p1 r0 r1 HI2
    obtain ⟨⟨c0, c1⟩, z0, z1⟩ := hB1.cells
    go_wp2_with fail
    obtain ⟨⟨y0, y1⟩, q1, q2⟩ := box_end (w := w) (w1 := w1) (Q := w.heap.size + 1) (.int .i64 n) (.string s) hB1 (Nat.le_succ _) hbw1 (hA)
    rw [hR.out]
    exact bodyPost_ret (v := .tuple #[.agg #[.int .i64 n, .string s], v]) (by simp [results, Tryz.results55, go_sem, y0, y1]) rfl ⟨_, by rw [HV.out], q2, q1⟩
  · have i32 : (32 : Int) ≤ (b : Int) := by omega
    by_cases h64 : b < 64
    · have i64 : (b : Int) < 64 := by omega
      replace hR : Hid (R = (.bad, [])) := by
        show _ = _
        rw [← hR.out]
        unfold wrongN
        rw [if_neg h32, if_pos h64]
      clear HN HI
      go_enter Tryz.func55, Tryz.ntmps55
      go_wp2_with fail
      obtain ⟨W0, hW0⟩ : ∃ W0, (w.alloc (.cells #[.int .i64 3, .string ⟨#[63]⟩] 45)).alloc (.cells #[.int .i64 0, .string ⟨#[]⟩] 45) = W0 := ⟨_, rfl⟩
      obtain ⟨hb0, hs0, hBP, hB0⟩ := HW.out W0 hW0
      rw [hW0]
      clear HW hW0
      obtain ⟨⟨p0, p1⟩, r0, r1⟩ := hBP.cells
      go_wp2_with fail
      go_fit (HL.out _ hb0)
      rintro e w1 ⟨rfl, hb1⟩
      have hB1 := hB0.below hb1
      have hbw1 := hb0.trans (hb1.mono hb0.size)
      clear hB0 hBP hb0 hs0 hb1 p0 p1 r0 r1 HL
      obtain ⟨⟨c0, c1⟩, z0, z1⟩ := hB1.cells
      go_wp2_with fail
      obtain ⟨⟨y0, y1⟩, q1, q2⟩ := box_end (w := w) (w1 := w1) (Q := w.heap.size + 1) (.int .i64 3) (.string ⟨#[63]⟩) hB1 (Nat.le_succ _) hbw1 (ActsW.nil _ _)
      rw [hR.out]
      exact bodyPost_ret (v := .tuple #[.agg #[.int .i64 3, .string ⟨#[63]⟩], .slice none 0 0]) (by simp [results, Tryz.results55, go_sem, y0, y1]) rfl ⟨_, rfl, q2, q1⟩
    · have i64 : (64 : Int) ≤ (b : Int) := by omega
      by_cases h127 : b < 127
      · have i127 : (b : Int) < 127 := by omega
        replace hR : Hid (R = (.zero, [badA])) := by
          show _ = _
          rw [← hR.out]
          unfold wrongN
          rw [if_neg h32, if_neg h64]
        clear HL HI
        go_enter Tryz.func55, Tryz.ntmps55
        go_wp2_with fail
        obtain ⟨W0, hW0⟩ : ∃ W0, (w.alloc (.cells #[.int .i64 3, .string ⟨#[63]⟩] 45)).alloc (.cells #[.int .i64 0, .string ⟨#[]⟩] 45) = W0 := ⟨_, rfl⟩
        obtain ⟨hb0, hs0, hBP, hB0⟩ := HW.out W0 hW0
        rw [hW0]
        clear HW hW0
        obtain ⟨⟨p0, p1⟩, r0, r1⟩ := hBP.cells
        go_wp2_with fail
        go_fit (HN.out _)
        rintro e w1 ⟨v, rfl, hA, _, hb1⟩
        have hB1 := hB0.below hb1
        have hbw1 := hb0.trans (hb1.mono hb0.size)
        rw [hs0] at hA
        clear hB0 hBP hb0 hs0 hb1 HN p0 p1 r0 r1
        obtain ⟨⟨c0, c1⟩, z0, z1⟩ := hB1.cells
        go_wp2_with fail
        obtain ⟨⟨y0, y1⟩, q1, q2⟩ := box_end (w := w) (w1 := w1) (Q := w.heap.size + 1) (.int .i64 0) (.string ⟨#[]⟩) hB1 (Nat.le_succ _) hbw1 (hA)
        rw [hR.out]
        exact bodyPost_ret (v := .tuple #[.agg #[.int .i64 0, .string ⟨#[]⟩], v]) (by simp [results, Tryz.results55, go_sem, y0, y1]) rfl ⟨_, rfl, q2, q1⟩
      · have i127 : (127 : Int) ≤ (b : Int) := by omega
        replace hR : Hid (R = (.zero, [badA])) := by
          show _ = _
          rw [← hR.out]
          unfold wrongN
          rw [if_neg h32, if_neg h64]
        clear HL HI
        go_enter Tryz.func55, Tryz.ntmps55
        go_wp2_with fail
        obtain ⟨W0, hW0⟩ : ∃ W0, (w.alloc (.cells #[.int .i64 3, .string ⟨#[63]⟩] 45)).alloc (.cells #[.int .i64 0, .string ⟨#[]⟩] 45) = W0 := ⟨_, rfl⟩
        obtain ⟨hb0, hs0, hBP, hB0⟩ := HW.out W0 hW0
        rw [hW0]
        clear HW hW0
        obtain ⟨⟨p0, p1⟩, r0, r1⟩ := hBP.cells
        go_wp2_with fail
        go_fit (HN.out _)
        rintro e w1 ⟨v, rfl, hA, _, hb1⟩
        have hB1 := hB0.below hb1
        have hbw1 := hb0.trans (hb1.mono hb0.size)
        rw [hs0] at hA
        clear hB0 hBP hb0 hs0 hb1 HN p0 p1 r0 r1
        obtain ⟨⟨c0, c1⟩, z0, z1⟩ := hB1.cells
        go_wp2_with fail
        obtain ⟨⟨y0, y1⟩, q1, q2⟩ := box_end (w := w) (w1 := w1) (Q := w.heap.size + 1) (.int .i64 0) (.string ⟨#[]⟩) hB1 (Nat.le_succ _) hbw1 (hA)
        rw [hR.out]
        exact bodyPost_ret (v := .tuple #[.agg #[.int .i64 0, .string ⟨#[]⟩], v]) (by simp [results, Tryz.results55, go_sem, y0, y1]) rfl ⟨_, rfl, q2, q1⟩
end Go.Proofs.YtpkjaallhhjleaaGreatDoor

/-
  append of actions onto a row that is full, or the call's own: what it makes. No call is walked here.
-/
namespace Go.Proofs.YtpkjaallhhjleaaGreatDoor
open Go.RowKit

def zeroAct : Value := .agg #[.int .i64 0, .int .i32 0, .slice none 0 0, .int .u8 0]
theorem Tryz.infoAct : (Tryz.prog.info? 72).map (fun i => (i.zero, i.size, i.bytes)) = some (some zeroAct, 4, 48) := by kernel_rfl
theorem Tryz.infoActR : (Tryz.prog.info? 77).map (fun i => (i.zero, i.size, i.bytes)) = some (some zeroAct, 4, 48) := by kernel_rfl

theorem NumsW.one {ok : Nat → Prop} {w : World} {v : Value} {l : List Nat} (h : NumsW ok w v l) : v.oneCell' = true := by
  obtain ⟨ao, cap, rfl, _⟩ := h.1
  rfl
theorem acts_cells_one {ok : Nat → Prop} {w : World} {xs : List (Ac × Value)} (h : ∀ x ∈ xs, NumsW ok w x.2 x.1.2.2.1) : ∀ u ∈ xs.flatMap actC, u.oneCell' = true := by
  intro u hu
  obtain ⟨x, hx, hux⟩ := List.mem_flatMap.1 hu
  simp only [actC, List.mem_cons, List.not_mem_nil, or_false] at hux
  rcases hux with rfl | rfl | rfl | rfl
  · rfl
  · rfl
  · exact (h x hx).one
  · rfl
/-- What an append of these yields. -/
theorem acts_src {ok : Nat → Prop} {w : World} {t e : TypeId} {u : Value} {l : List Ac} {xs : List (Ac × Value)} (ht : Tryz.prog.underlying t = some (.slice e)) (h1 : xs.map Prod.fst = l) (h2 : RowV ok w u l.length (xs.flatMap actC)) (h3 : ∀ x ∈ xs, NumsW ok w x.2 x.1.2.2.1) : Src Tryz.prog 4 t u l.length (xs.flatMap actC) w := by
  obtain ⟨ao, cap, rfl, hc, ho, hcell⟩ := h2
  have hl : (xs.flatMap actC).length = l.length * 4 := by rw [flat4_len, ← h1, List.length_map]
  cases ao with
  | none =>
    have hx : xs.flatMap actC = [] := by
      cases hq : xs.flatMap actC with
      | nil => rfl
      | cons x r => obtain ⟨_, _, hh, _⟩ := hcell 0 x (by rw [hq]; rfl); cases hh
    have hl0 : l.length = 0 := by rw [hx] at hl; have : 0 = l.length * 4 := hl; omega
    rw [hx, hl0]
    exact Src.ofNil w ht cap
  | some a =>
    refine Src.ofSlice w ht a _ _ _ hl (fun j v hv => ?_) (acts_cells_one h3)
    obtain ⟨g, o, e, hg⟩ := hcell j v hv
    cases e
    rw [rlit]; exact hg

theorem join_cells {ok : Nat → Prop} {w : World} {xs ys : List (Ac × Value)} (h : ∀ x ∈ xs, NumsW ok w x.2 x.1.2.2.1) (k : ∀ x ∈ ys, NumsW ok w x.2 x.1.2.2.1) : ∀ x ∈ xs ++ ys, NumsW ok w x.2 x.1.2.2.1 := fun x hx => by
  rcases List.mem_append.1 hx with hx | hx
  · exact h x hx
  · exact k x hx

/-- append onto a full row. -/
theorem run_acts {n : Nat} {w : World} {ao : Option Addr} {u : Value} {l l2 : List Ac} (t ty e : TypeId) (ht : Tryz.prog.underlying t = some (.slice e)) (hinfo : (Tryz.prog.info? e).map (fun i => (i.zero, i.size, i.bytes)) = some (some zeroAct, 4, 48))
    (hv : ActsW (FromP n) w (.slice ao l.length l.length) l) (hu : ActsW (FromP n) w u l2) (hn : n ≤ w.heap.size) (hs : l.length + l2.length ≤ 1000000) :
    ∃ v' w', (Builtin.append_ #[t, t] ty #[.slice ao l.length l.length, u]).run Tryz.prog w = .ok v' w' ∧ ActsW (FromP n) w' v' (l ++ l2) ∧ Below w.heap.size w w' := by
  obtain ⟨i0, hi, hz0, hz1, hz2⟩ := info_parts hinfo
  obtain ⟨xs, x1, x2, x3⟩ := hv
  obtain ⟨ys, y1, y2, y3⟩ := hu
  by_cases h0 : l2 = []
  · subst h0
    refine ⟨.slice ao l.length l.length, w, ?_, by rw [List.append_nil]; exact ⟨xs, x1, x2, x3⟩, Below.refl _ _⟩
    obtain ⟨ao2, c2, rfl, _, _⟩ := y2
    cases ao <;> cases ao2 <;> simp [Builtin.append_, run_underlying ht, sizeOf, typeInfo, hi, Builtin.lenOf, Builtin.firstCells, loadCells, loadCellsFrom, storeCells]
  · have hpos : 0 < l2.length := List.length_pos_iff.2 h0
    obtain ⟨cap, zs, hr, hc⟩ := run_app_full (m := 4) t ty e i0 zeroAct 48 ht hi hz0 hz1 hz2 x2 (by rw [flat4_len, ← x1, List.length_map]) y2 (by rw [flat4_len, ← y1, List.length_map]) hpos (by decide) (acts_cells_one y3) (by omega) hs
    have hb : Below w.heap.size w (w.drew.alloc (.cells (xs.flatMap actC ++ ys.flatMap actC ++ zs).toArray e)) := ((Below.refl _ w).drew).alloc (Nat.le_refl _) _
    refine ⟨_, _, hr, ⟨xs ++ ys, by rw [List.map_append, x1, y1], ?_, fun x hx => (join_cells x3 y3 x hx).keep (keep_below _ hb)⟩, hb⟩
    rw [List.length_append, List.flatMap_append]
    exact RowV.any (row_new (w := w.drew) (cs := xs.flatMap actC ++ ys.flatMap actC) (zs := zs) (e := e) hc) fun j hj => by rw [hj]; exact hn

/-- A law of append at a step of a region that draws its order. -/
theorem step_run {w w' : World} {v u v' : Value} {ops : Array Oper} {o : Oper} {a : Act} {K : Act → World → Prop} {Q : Exit → Act → World → Prop} {E : Prop} (hgd : o.guard = none) (s x : Operand) (t : TypeId)
    (ho : o.op = .call { callee := .builtin .append, args := #[s, x], argTypes := #[t, t] })
    (hs : a.eval s = v) (hx : a.eval x = u) (hr : (Builtin.append_ #[t, t] o.type #[v, u]).run Tryz.prog w = .ok v' w') (h : K (a.put o.dst v') w') :
    if Region.wanted o (yielded ops a.tmps) = true then Oper.wp Tryz.prog o a w K Q else E := by
  have hw : Region.wanted o (yielded ops a.tmps) = true := by simp [Region.wanted, hgd]
  rw [if_pos hw]
  unfold Oper.wp execOp
  simp only [ho, resolve, invoke, builtin, Sem.run_bind, Sem.run_pure, Result.andThen_ok, List.map_toArray, List.map_cons, List.map_nil, hs, hx, hr]
  exact h
/-- The same in a plain region. -/
theorem wpList_run {w w' : World} {v u v' : Value} {ops : Array Oper} {rest : List Oper} {o : Oper} {a : Act} {Q : Exit → Act → World → Prop} (hgd : o.guard = none) (s x : Operand) (t : TypeId)
    (ho : o.op = .call { callee := .builtin .append, args := #[s, x], argTypes := #[t, t] })
    (hs : a.eval s = v) (hx : a.eval x = u) (hr : (Builtin.append_ #[t, t] o.type #[v, u]).run Tryz.prog w = .ok v' w') (h : wpList Tryz.prog ops Q rest (a.put o.dst v') w') : wpList Tryz.prog ops Q (o :: rest) a w := by
  refine wpList_plain hgd fun K hK => ?_
  unfold Oper.wp execOp
  simp only [ho, resolve, invoke, builtin, Sem.run_bind, Sem.run_pure, Result.andThen_ok, List.map_toArray, List.map_cons, List.map_nil, hs, hx, hr]
  exact hK _ _ h

/-- A row of actions that is the call's own; their numbers lie in other blocks. -/
def OutW (B : Nat) (e : TypeId) (w : World) (v : Value) (l : List Ac) : Prop :=
  ∃ xs : List (Ac × Value), xs.map Prod.fst = l ∧ w.ownsRow B e 4 v l.length (xs.flatMap actC) ∧ ∀ x ∈ xs, NumsW (fun k => B ≤ k ∧ v.ownBlock ≠ some k) w x.2 x.1.2.2.1
theorem OutW.nil (B : Nat) (e : TypeId) (w : World) : OutW B e w (.slice none 0 0) [] := ⟨[], rfl, World.ownsRow_nil _ _ _ _, fun _ h => by cases h⟩
theorem OutW.below {B : Nat} {e : TypeId} {w w' : World} {v : Value} {l : List Ac} (h : OutW B e w v l) (hb : Below w.heap.size w w') : OutW B e w' v l := by
  obtain ⟨xs, h1, h2, h3⟩ := h
  exact ⟨xs, h1, ownsRow_below h2 hb, fun x hx => (h3 x hx).keep (keep_below _ hb)⟩
theorem OutW.acts {B : Nat} {e : TypeId} {w : World} {v : Value} {l : List Ac} (h : OutW B e w v l) : ActsW (FromP B) w v l := by
  obtain ⟨xs, h1, h2, h3⟩ := h
  exact ⟨xs, h1, pown_row h2, fun x hx => (h3 x hx).mono fun _ _ h => h.1⟩
theorem OutW.lt {B : Nat} {e : TypeId} {w : World} {v : Value} {l : List Ac} (h : OutW B e w v l) : ∀ k, v.ownBlock = some k → B ≤ k ∧ k < w.heap.size := by
  obtain ⟨xs, h1, h2, h3⟩ := h
  exact h2.lt

theorem run_out {n B : Nat} {w : World} {v u : Value} {l l2 : List Ac} (t ty e : TypeId) (ht : Tryz.prog.underlying t = some (.slice e)) (hinfo : (Tryz.prog.info? e).map (fun i => (i.zero, i.size, i.bytes)) = some (some zeroAct, 4, 48))
    (hv : OutW B e w v l) (hu : ActsW (FromP n) w u l2) (hB : B ≤ w.heap.size) (hBn : B ≤ n) (hn : ∀ k, v.ownBlock = some k → k < n) (hs : l.length + l2.length ≤ 1000000) :
    ∃ v' w', (Builtin.append_ #[t, t] ty #[v, u]).run Tryz.prog w = .ok v' w' ∧ OutW B e w' v' (l ++ l2) ∧ Below B w w' := by
  obtain ⟨i0, hi, hz0, hz1, hz2⟩ := info_parts hinfo
  obtain ⟨xs, x1, x2, x3⟩ := hv
  obtain ⟨ys, y1, y2, y3⟩ := hu
  by_cases h0 : l2 = []
  · subst h0
    refine ⟨v, w, ?_, by rw [List.append_nil]; exact ⟨xs, x1, x2, x3⟩, Below.refl _ _⟩
    obtain ⟨ao, cap, rfl, hcap, _⟩ := pown_row x2
    obtain ⟨ao2, c2, rfl, _, _⟩ := y2
    cases ao <;> cases ao2 <;> simp [Builtin.append_, run_underlying ht, sizeOf, typeInfo, hi, Builtin.lenOf, Builtin.firstCells, loadCells, loadCellsFrom, storeCells, hcap]
  · have hpos : 0 < l2.length := List.length_pos_iff.2 h0
    have hyl : (ys.flatMap actC).length = l2.length * 4 := by rw [flat4_len, ← y1, List.length_map]
    obtain ⟨g2, o2, c2, rfl, hc2, ho2, hcell2⟩ := y2.at_ (j := 0) (u := (ys.flatMap actC)[0]'(by omega)) (List.getElem?_eq_getElem _)
    obtain ⟨v', w', hr, hown', hgr, _, hat⟩ := run_append_own_at (P := Tryz.prog) w B t ty e i0 zeroAct 4 48 ht hi hz0 hz1 hz2 rfl (by decide) v l.length (xs.flatMap actC) x2 ⟨g2, o2, none⟩ l2.length c2 (ys.flatMap actC) hyl (fun j x hx => by rw [rlit]; exact hcell2 j x hx) (acts_cells_one y3) (by unfold maxLen; omega) (by omega) hB
    refine ⟨v', w', hr, ⟨xs ++ ys, by rw [List.map_append, x1, y1], by rw [List.length_append, List.flatMap_append]; exact hown', fun x hx => ?_⟩, (Below.refl B w).grown hgr hB fun k hk => (x2.lt k hk).1⟩
    have hk : KeepW (fun k => v.ownBlock ≠ some k) w w' := ⟨hgr.os, hgr.tape, hgr.output, hgr.size, fun k hk hne => hgr.block k hk fun e => hne e.symm⟩
    have h1 : NumsW (fun k => (B ≤ k ∧ v.ownBlock ≠ some k) ∧ k < w.heap.size) w x.2 x.1.2.2.1 := by
      rcases List.mem_append.1 hx with hx | hx
      · exact (x3 x hx).mono fun k hl hk => ⟨hk, hl⟩
      · refine (y3 x hx).mono fun k hl hk => ⟨⟨Nat.le_trans hBn hk, fun e => ?_⟩, hl⟩
        have h5 := hn k e
        have h6 : n ≤ k := hk
        omega
    refine (h1.keep (hk.mono fun k _ h => h.1.2)).mono fun k _ h => ⟨h.1.1, ?_⟩
    rcases hat with hat | hat
    · rw [hat]; exact h.1.2
    · rw [hat]; intro e; cases e; exact absurd h.2 (Nat.lt_irrefl _)
/-- It stays while blocks ahead of it turn. -/
theorem OutW.ahead {B : Nat} {e : TypeId} {w w' : World} {v : Value} {l : List Ac} (h : OutW B e w v l) (hk : KeepW (fun k => B ≤ k) w w') : OutW B e w' v l := by
  obtain ⟨xs, h1, ⟨h2, h2'⟩, h3⟩ := h
  refine ⟨xs, h1, ⟨h2, ?_⟩, fun x hx => (h3 x hx).keep (hk.mono fun k _ h => h.1)⟩
  rcases h2' with h0 | ⟨g, cap, cur, hv, hg0, hg, rest⟩
  · exact .inl h0
  · exact .inr ⟨g, cap, cur, hv, hg0, (hk.same g (Array.getElem?_eq_some_iff.1 hg).1 hg0).trans hg, rest⟩
end Go.Proofs.YtpkjaallhhjleaaGreatDoor

/-
  parser.behindStart: what it returns: behind every beginning of a rune, for every byte.
-/
namespace Go.Proofs.YtpkjaallhhjleaaGreatDoor
open Go.RowKit

set_option maxRecDepth 20000 in
set_option maxHeartbeats 8000000 in
theorem start_any (s : ByteArray) (b : Nat) (w : World) (hb : b < 256) (hS : Beg s) (hT : TabU w) :
    Calls Tryz.prog 56 #[.agg #[.int .i64 1, .string s], .int .u8 (b : Int)] w (FedW w (startN s b)) := by
  obtain ⟨R, hR⟩ : ∃ R, startN s b = R := ⟨_, rfl⟩
  rw [hR]
  have hR := Lib.hid hR
  have hs3 : s.size ≤ 3 := by rcases hS with h | h | h <;> omega
  have HTX := Lib.hid (fun W => textOf_any b W)
  have hsz : (s ++ oneS b).size ≤ 4 := by rw [app_size, one_size]; omega
  have hsp : 0 < (s ++ oneS b).size := by rw [app_size, one_size]; omega
  have g1 : ∀ W, (Op.stringOp .add s (oneS b)).run Tryz.prog W = .ok (.string (s ++ oneS b)) W := fun W => run_string_add_sum W _ _ (by rw [one_size]; omega)
  have HNX := Lib.hid (fun W => next_in (s ++ oneS b) 0 W (by decide) (by omega) (by unfold maxLen; omega))
  have HST := Lib.hid (fun W (hW : Below w.heap.size w W) => starts_any (s ++ oneS b) W (hT.below hW) hsp (by unfold maxLen; omega))
  have HFI := Lib.hid (fun W (hW : Below w.heap.size w W) => first_any b W hb (hT.below hW))
  have HN := Lib.hid (fun W => invalid_any W)
  obtain ⟨OB, hOB⟩ : ∃ OB, oneS b = OB := ⟨_, rfl⟩
  have hR2 : Hid (R = if okAt (s ++ OB) 0 = true then (.zero, [(1, (Utf8.decode (s ++ OB) 0).1, [], 0)]) else if begB (s ++ OB) = true then (.start (s ++ OB), []) else ((firstN b).1, badA :: (firstN b).2)) := by
    show _ = _
    rw [← hR.out, ← hOB]
    rfl
  rw [hOB] at HTX hsz hsp g1 HNX HST
  obtain ⟨T, hTT⟩ : ∃ T, s ++ OB = T := ⟨_, rfl⟩
  rw [hTT] at hsz hsp g1 HNX HST hR2
  rw [Int.toNat_zero] at HNX
  obtain ⟨K, hK⟩ : ∃ K, (Utf8.decode T 0).1 = K := ⟨_, rfl⟩
  obtain ⟨K2, hK2⟩ : ∃ K2, (Utf8.decode T 0).2 = K2 := ⟨_, rfl⟩
  rw [hK] at HNX hR2
  rw [hK2] at HNX
  have HSH := Lib.hid (fun W => pshown_any K W)
  clear hR hTT hOB hK hK2 hT hS
  have HW : Hid (∀ W0, (w.alloc (.cells #[.int .i64 1, .string s] 45)).alloc (.cells #[.int .i64 0, .string ⟨#[]⟩] 45) = W0 → Below w.heap.size w W0 ∧ W0.heap.size = w.heap.size + 2 ∧ blk2 W0 w.heap.size (.int .i64 1) (.string s) ∧ blk2 W0 (w.heap.size + 1) (.int .i64 0) (.string ⟨#[]⟩)) := fun W0 h => by rw [← h]; exact box_new2 w _ _ _ _
  by_cases hok : okAt T 0 = true
  · have hR : Hid (R = (.zero, [(1, K, [], 0)])) := by
      show _ = _
      rw [hR2.out, if_pos hok]
    clear hR2 HST HFI HN
    go_enter Tryz.func56, Tryz.ntmps56
    go_wp2_with fail
    obtain ⟨W0, hW0⟩ : ∃ W0, (w.alloc (.cells #[.int .i64 1, .string s] 45)).alloc (.cells #[.int .i64 0, .string ⟨#[]⟩] 45) = W0 := ⟨_, rfl⟩
    obtain ⟨hb0, hs0, hBP, hB0⟩ := HW.out W0 hW0
    rw [hW0]
    clear HW hW0
    obtain ⟨⟨p0, p1⟩, r0, r1⟩ := hBP.cells
    have kk := Below.refl W0.heap.size W0
    have k0 : Below W0.heap.size W0 W0.drew := kk.drew
    have HC : Hid (∀ V, Below W0.heap.size W0 V → V.cell? ⟨w.heap.size, 0, none⟩ = some (.int .i64 1) ∧ V.cell? ⟨w.heap.size, 1, none⟩ = some (.string s)) := fun V hV => (hBP.below hV).cells.1
    have HT2 := Lib.hid (fun (V : World) (hV : Below W0.heap.size W0 V) => later1 hV (HTX.out V))
    clear HTX
    go_region_held3 (fun V => V.cell? ⟨w.heap.size, 0, none⟩ = some (.int .i64 1) ∧ V.cell? ⟨w.heap.size, 1, none⟩ = some (.string s))
      (first | with_reducible exact HC.out _ kk | with_reducible exact HC.out _ k0)
      (first
        | (go_at_call 83; go_fit (HT2.out _ ?_); (first | with_reducible exact kk | with_reducible exact k0); rintro e vv ⟨rfl, kk⟩))
    all_goals
      have hB1 := hB0.below kk
      have hbw1 := hb0.trans (kk.mono hb0.size)
      have hs1 : w.heap.size + 2 ≤ vv.heap.size := by rw [← hs0]; exact kk.size
      clear HC HT2 hBP hB0 hb0 hs0 k0 p0 p1 r0 r1
      go_wp2_with fail
      go_fit (HNX.out _)
      rintro e w2 ⟨rfl, hb2⟩
      have hB2 := hB1.below hb2
      have hbw2 := hbw1.trans (hb2.mono hbw1.size)
      have hs2 : w.heap.size + 2 ≤ w2.heap.size := Nat.le_trans hs1 hb2.size
      clear hB1 hbw1 hs1 hb2 HNX kk
      rw [hok]
      go_wp2_with fail
      go_fit (HSH.out _)
      rintro e w3 ⟨v, rfl, hA, _, hb3⟩
      have hB3 := hB2.below hb3
      have hbw3 := hbw2.trans (hb3.mono hbw2.size)
      obtain ⟨⟨c0, c1⟩, z0, z1⟩ := hB3.cells
      go_wp2_with fail
      obtain ⟨⟨y0, y1⟩, q1, q2⟩ := box_end (w := w) (w1 := w3) (Q := w.heap.size + 1) (.int .i64 0) (.string ⟨#[]⟩) hB3 (Nat.le_succ _) hbw3 (acts_from hA hs2)
      rw [hR.out]
      exact bodyPost_ret (v := .tuple #[.agg #[.int .i64 0, .string ⟨#[]⟩], v]) (by simp [results, Tryz.results56, go_sem, y0, y1]) rfl ⟨_, rfl, q2, q1⟩
  · have hR3 : Hid (R = if begB T = true then (.start T, []) else ((firstN b).1, badA :: (firstN b).2)) := by
      show _ = _
      rw [hR2.out, if_neg hok]
    replace hok : okAt T 0 = false := by cases h : okAt T 0 <;> simp_all
    clear hR2 HSH
    by_cases hbg : begB T = true
    · have hR : Hid (R = (.start T, [])) := by
        show _ = _
        rw [hR3.out, if_pos hbg]
      clear hR3 HFI HN
      go_enter Tryz.func56, Tryz.ntmps56
      go_wp2_with fail
      obtain ⟨W0, hW0⟩ : ∃ W0, (w.alloc (.cells #[.int .i64 1, .string s] 45)).alloc (.cells #[.int .i64 0, .string ⟨#[]⟩] 45) = W0 := ⟨_, rfl⟩
      obtain ⟨hb0, hs0, hBP, hB0⟩ := HW.out W0 hW0
      rw [hW0]
      clear HW hW0
      obtain ⟨⟨p0, p1⟩, r0, r1⟩ := hBP.cells
      have kk := Below.refl W0.heap.size W0
      have k0 : Below W0.heap.size W0 W0.drew := kk.drew
      have HC : Hid (∀ V, Below W0.heap.size W0 V → V.cell? ⟨w.heap.size, 0, none⟩ = some (.int .i64 1) ∧ V.cell? ⟨w.heap.size, 1, none⟩ = some (.string s)) := fun V hV => (hBP.below hV).cells.1
      have HT2 := Lib.hid (fun (V : World) (hV : Below W0.heap.size W0 V) => later1 hV (HTX.out V))
      clear HTX
      go_region_held3 (fun V => V.cell? ⟨w.heap.size, 0, none⟩ = some (.int .i64 1) ∧ V.cell? ⟨w.heap.size, 1, none⟩ = some (.string s))
        (first | with_reducible exact HC.out _ kk | with_reducible exact HC.out _ k0)
        (first
          | (go_at_call 83; go_fit (HT2.out _ ?_); (first | with_reducible exact kk | with_reducible exact k0); rintro e vv ⟨rfl, kk⟩))
      all_goals
        have hB1 := hB0.below kk
        have hbw1 := hb0.trans (kk.mono hb0.size)
        have hs1 : w.heap.size + 2 ≤ vv.heap.size := by rw [← hs0]; exact kk.size
        clear HC HT2 hBP hB0 hb0 hs0 k0 p0 p1 r0 r1
        go_wp2_with fail
        go_fit (HNX.out _)
        rintro e w2 ⟨rfl, hb2⟩
        have hB2 := hB1.below hb2
        have hbw2 := hbw1.trans (hb2.mono hbw1.size)
        have hs2 : w.heap.size + 2 ≤ w2.heap.size := Nat.le_trans hs1 hb2.size
        clear hB1 hbw1 hs1 hb2 HNX kk
        rw [hok]
        go_wp2_with fail
        go_fit (HST.out _ hbw2)
        rintro e w3 ⟨rfl, hb3⟩
        have hB3 := hB2.below hb3
        have hbw3 := hbw2.trans (hb3.mono hbw2.size)
        have hs3' : w.heap.size + 2 ≤ w3.heap.size := Nat.le_trans hs2 hb3.size
        clear hB2 hbw2 hs2 hb3 HST
        rw [hbg]
        obtain ⟨⟨c0, c1⟩, z0, z1⟩ := hB3.cells
        go_wp2_with fail
        obtain ⟨⟨y0, y1⟩, q1, q2⟩ := box_end (w := w) (w1 := w3) (Q := w.heap.size + 1) (.int .i64 1) (.string T) hB3 (Nat.le_succ _) hbw3 (ActsW.nil _ _)
        rw [hR.out]
        exact bodyPost_ret (v := .tuple #[.agg #[.int .i64 1, .string T], .slice none 0 0]) (by simp [results, Tryz.results56, go_sem, y0, y1]) rfl ⟨_, rfl, q2, q1⟩
    · have hR : Hid (R = ((firstN b).1, badA :: (firstN b).2)) := by
        show _ = _
        rw [hR3.out, if_neg hbg]
      replace hbg : begB T = false := by cases h : begB T <;> simp_all
      obtain ⟨G, hG⟩ : ∃ G, firstN b = G := ⟨_, rfl⟩
      rw [hG] at HFI hR
      obtain ⟨n, hn⟩ : ∃ n, stN G.1 = n := ⟨_, rfl⟩
      obtain ⟨z, hz⟩ : ∃ z, stB G.1 = z := ⟨_, rfl⟩
      obtain ⟨L, hL⟩ : ∃ L, G.2 = L := ⟨_, rfl⟩
      have HF2 := Lib.hid (fun W hW => fed_letters (HFI.out W hW) hn hz hL)
      have HLL : Hid ([badA].length + L.length ≤ 1000000) := by
        have h2 := feed_two .zero b
        show 1 + L.length ≤ 1000000
        rw [show feedN .zero b = G from hG, hL] at h2
        omega
      have HV : Hid (stV G.1 = .agg #[.int .i64 n, .string z]) := by show _ = _; rw [← hn, ← hz]; rfl
      rw [hL] at hR
      clear hR3 HFI hG hn hz
      go_enter Tryz.func56, Tryz.ntmps56
      go_wp2_with fail
      obtain ⟨W0, hW0⟩ : ∃ W0, (w.alloc (.cells #[.int .i64 1, .string s] 45)).alloc (.cells #[.int .i64 0, .string ⟨#[]⟩] 45) = W0 := ⟨_, rfl⟩
      obtain ⟨hb0, hs0, hBP, hB0⟩ := HW.out W0 hW0
      rw [hW0]
      clear HW hW0
      obtain ⟨⟨p0, p1⟩, r0, r1⟩ := hBP.cells
      have kk := Below.refl W0.heap.size W0
      have k0 : Below W0.heap.size W0 W0.drew := kk.drew
      have HC : Hid (∀ V, Below W0.heap.size W0 V → V.cell? ⟨w.heap.size, 0, none⟩ = some (.int .i64 1) ∧ V.cell? ⟨w.heap.size, 1, none⟩ = some (.string s)) := fun V hV => (hBP.below hV).cells.1
      have HT2 := Lib.hid (fun (V : World) (hV : Below W0.heap.size W0 V) => later1 hV (HTX.out V))
      clear HTX
      go_region_held3 (fun V => V.cell? ⟨w.heap.size, 0, none⟩ = some (.int .i64 1) ∧ V.cell? ⟨w.heap.size, 1, none⟩ = some (.string s))
        (first | with_reducible exact HC.out _ kk | with_reducible exact HC.out _ k0)
        (first
          | (go_at_call 83; go_fit (HT2.out _ ?_); (first | with_reducible exact kk | with_reducible exact k0); rintro e vv ⟨rfl, kk⟩))
      all_goals
        have hB1 := hB0.below kk
        have hbw1 := hb0.trans (kk.mono hb0.size)
        have hs1 : w.heap.size + 2 ≤ vv.heap.size := by rw [← hs0]; exact kk.size
        clear HC HT2 hBP hB0 hb0 hs0 k0 p0 p1 r0 r1
        go_wp2_with fail
        go_fit (HNX.out _)
        rintro e w2 ⟨rfl, hb2⟩
        have hB2 := hB1.below hb2
        have hbw2 := hbw1.trans (hb2.mono hbw1.size)
        have hs2 : w.heap.size + 2 ≤ w2.heap.size := Nat.le_trans hs1 hb2.size
        clear hB1 hbw1 hs1 hb2 HNX kk
        rw [hok]
        go_wp2_with fail
        go_fit (HST.out _ hbw2)
        rintro e w3 ⟨rfl, hb3⟩
        have hB3 := hB2.below hb3
        have hbw3 := hbw2.trans (hb3.mono hbw2.size)
        have hs3' : w.heap.size + 2 ≤ w3.heap.size := Nat.le_trans hs2 hb3.size
        clear hB2 hbw2 hs2 hb3 HST
        rw [hbg]
        go_wp2_with fail
        go_fit (HF2.out _ hbw3)
        rintro e w4 ⟨v, rfl, hA, hb4⟩
        have hB4 := hB3.below hb4
        have hbw4 := hbw3.trans (hb4.mono hbw3.size)
        have hA4 : ActsW (FromP (w.heap.size + 1 + 1)) w4 v L := acts_from hA hs3'
        have hs4 : w.heap.size + 2 ≤ w4.heap.size := Nat.le_trans hs3' hb4.size
        clear hB3 hbw3 hA hb4 HF2 hs3'
        obtain ⟨⟨c0, c1⟩, z0, z1⟩ := hB4.cells
        go_wp2_with fail
        obtain ⟨hB5, hbw5, hA5⟩ := box_mid (w := w) (w1 := w4) (Q := w.heap.size + 1) (.int .i64 n) (.string z) hB4 (Nat.le_succ _) hbw4 hA4
        have hs5 : w.heap.size + 2 ≤ ((w4.setCell ⟨w.heap.size + 1, 0, none⟩ (.int .i64 n)).setCell ⟨w.heap.size + 1, 1, none⟩ (.string z)).heap.size := hB5.lt
        obtain ⟨W5, hW5⟩ : ∃ W5, (w4.setCell ⟨w.heap.size + 1, 0, none⟩ (.int .i64 n)).setCell ⟨w.heap.size + 1, 1, none⟩ (.string z) = W5 := ⟨_, rfl⟩
        rw [hW5] at hB5 hbw5 hA5 hs5 ⊢
        have HC5 : Hid (∀ V, Below W5.heap.size W5 V → V.cell? ⟨w.heap.size + 1, 0, none⟩ = some (.int .i64 n) ∧ V.cell? ⟨w.heap.size + 1, 1, none⟩ = some (.string z)) := fun V hV => (hB5.below hV).cells.1
        have HN5 : Hid (∀ V, Below W5.heap.size W5 V → Calls Tryz.prog 87 #[] V fun e u => ∃ ai, e = .returned (.slice ai 1 1) ∧ ActsW (FromP (w.heap.size + 1 + 1)) u (.slice ai 1 1) [badA] ∧ Below W5.heap.size W5 u) := fun V hV => (invalid_any V).mono fun e u ⟨vi, he, ha, ⟨ai, hai⟩, hbi⟩ => ⟨some ai, by rw [he, hai], by rw [← hai]; exact acts_from ha (Nat.le_trans hs5 hV.size), hV.trans (hbi.mono hV.size)⟩
        have HAP : Hid (∀ V ai ty, Below W5.heap.size W5 V → ActsW (FromP (w.heap.size + 1 + 1)) V (.slice ai 1 1) [badA] → ∃ v' w', (Builtin.append_ #[68, 68] ty #[.slice ai 1 1, v]).run Tryz.prog V = .ok v' w' ∧ ActsW (FromP (w.heap.size + 1 + 1)) w' v' (badA :: L) ∧ Below W5.heap.size W5 w' ∧ (w'.cell? ⟨w.heap.size + 1, 0, none⟩ = some (.int .i64 n) ∧ w'.cell? ⟨w.heap.size + 1, 1, none⟩ = some (.string z)) ∧ w'.frozen? ⟨w.heap.size + 1, 0, none⟩ = false ∧ w'.frozen? ⟨w.heap.size + 1, 1, none⟩ = false) := fun V ai ty hV hai => by
          obtain ⟨v', w', h1, h2, h3⟩ := run_acts (l := [badA]) (l2 := L) 68 ty 72 Tryz.underlying68 Tryz.infoAct hai (hA5.below hV) (Nat.le_trans hs5 hV.size) HLL.out
          have h4 := hV.trans (h3.mono hV.size)
          exact ⟨v', w', h1, h2, h4, (hB5.below h4).cells⟩
        have HE5 : Hid (∀ V, Below W5.heap.size W5 V → blk2 V (w.heap.size + 1) (.int .i64 n) (.string z) ∧ Below w.heap.size w V) := fun V hV => ⟨hB5.below hV, hbw5.trans (hV.mono hbw5.size)⟩
        have kk := Below.refl W5.heap.size W5
        have k0 : Below W5.heap.size W5 W5.drew := kk.drew
        obtain ⟨m0, m1⟩ := HC5.out W5 kk
        have HCS : Hid (∀ V, Below W5.heap.size W5 V → ((V.setCell ⟨w.heap.size + 1, 0, none⟩ (.int .i64 n)).setCell ⟨w.heap.size + 1, 1, none⟩ (.string z)).cell? ⟨w.heap.size + 1, 0, none⟩ = some (.int .i64 n) ∧ ((V.setCell ⟨w.heap.size + 1, 0, none⟩ (.int .i64 n)).setCell ⟨w.heap.size + 1, 1, none⟩ (.string z)).cell? ⟨w.heap.size + 1, 1, none⟩ = some (.string z)) := fun V hV => (((hB5.below hV).set0 _).set1 _).cells.1
        clear hW5 hB4 hbw4 hA4 hs4 c0 c1 z0 z1 hB5 hbw5 hA5 hs5 HN
        go_region_held3 (fun V => V.cell? ⟨w.heap.size + 1, 0, none⟩ = some (.int .i64 n) ∧ V.cell? ⟨w.heap.size + 1, 1, none⟩ = some (.string z))
          (first | with_reducible exact HC5.out _ kk | with_reducible exact HC5.out _ k0 | with_reducible exact HCS.out _ kk)
          (first
            | (go_at_call 87; go_fit (HN5.out _ ?_); (first | with_reducible exact kk | with_reducible exact k0); rintro e vv ⟨ai, rfl, hAi, kk⟩)
            | (obtain ⟨v5, w5, hr5, hA6, kk, ⟨c0, c1⟩, z0, z1⟩ := HAP.out _ _ _ kk hAi; refine step_run (by rfl) (.tmp 35) (.tmp 36) 68 (by rfl) (by rfl) (by rfl) hr5 ?_))
        all_goals
          obtain ⟨hBx, hbx⟩ := HE5.out _ kk
          obtain ⟨⟨y0, y1⟩, q1, q2⟩ := box_end (w := w) (w1 := w5) (Q := w.heap.size + 1) (.int .i64 n) (.string z) hBx (Nat.le_succ _) hbx hA6
          clear HC5 HN5 HAP HE5 HCS c0 c1 z0 z1 hr5
          go_wp2_with fail
          rw [hR.out]
          exact bodyPost_ret (v := .tuple #[.agg #[.int .i64 n, .string z], v5]) (by simp [results, Tryz.results56, go_sem, y0, y1]) rfl ⟨_, by rw [HV.out], q2, q1⟩
end Go.Proofs.YtpkjaallhhjleaaGreatDoor

/-
  parser.Feed: what it returns: for every state that may be, for every byte.
-/
namespace Go.Proofs.YtpkjaallhhjleaaGreatDoor
open Go.RowKit

set_option maxRecDepth 20000 in
set_option maxHeartbeats 4000000 in
theorem feed_zero (b : Nat) (w : World) (hb : b < 256) (hP : LaidP w) :
    Calls Tryz.prog 29 #[.agg #[.int .i64 0, .string ⟨#[]⟩], .int .u8 (b : Int)] w (FedW w (firstN b)) := by
  obtain ⟨R, hR⟩ : ∃ R, firstN b = R := ⟨_, rfl⟩
  have HF : Hid (∀ W, Below w.heap.size w W → Calls Tryz.prog 53 #[.int .u8 (b : Int)] W (FedW W R)) := fun W hW => by rw [← hR]; exact first_any b W hb (hP.tab.below hW)
  rw [hR]
  obtain ⟨n, hn⟩ : ∃ n, stN R.1 = n := ⟨_, rfl⟩
  obtain ⟨z, hz⟩ : ∃ z, stB R.1 = z := ⟨_, rfl⟩
  have HF2 := Lib.hid (fun W hW => fed_letters (HF.out W hW) hn hz rfl)
  have HV : Hid (stV R.1 = .agg #[.int .i64 n, .string z]) := by show _ = _; rw [← hn, ← hz]; rfl
  have hR : Hid (R = R) := rfl
  clear HF hn hz hP
  have HW : Hid (∀ W0, (w.alloc (.cells #[.int .i64 0, .string ⟨#[]⟩] 45)).alloc (.cells #[.int .i64 0, .string ⟨#[]⟩] 45) = W0 → Below w.heap.size w W0 ∧ W0.heap.size = w.heap.size + 2 ∧ blk2 W0 w.heap.size (.int .i64 0) (.string ⟨#[]⟩) ∧ blk2 W0 (w.heap.size + 1) (.int .i64 0) (.string ⟨#[]⟩)) := fun W0 h => by rw [← h]; exact box_new2 w _ _ _ _
  go_enter Tryz.func29, Tryz.ntmps29
  go_wp2_with fail
  obtain ⟨W0, hW0⟩ : ∃ W0, (w.alloc (.cells #[.int .i64 0, .string ⟨#[]⟩] 45)).alloc (.cells #[.int .i64 0, .string ⟨#[]⟩] 45) = W0 := ⟨_, rfl⟩
  obtain ⟨hb0, hs0, hBP, hB0⟩ := HW.out W0 hW0
  rw [hW0]
  clear HW hW0
  obtain ⟨⟨p0, p1⟩, r0, r1⟩ := hBP.cells
  go_wp2_with fail
  go_fit (HF2.out _ hb0)
  rintro e w1 ⟨v, rfl, hA, hb1⟩
  have hB1 := hB0.below hb1
  have hbw1 := hb0.trans (hb1.mono hb0.size)
  rw [hs0] at hA
  clear hB0 hBP hb0 hs0 hb1 p0 p1 r0 r1 HF2
  obtain ⟨⟨c0, c1⟩, z0, z1⟩ := hB1.cells
  go_wp2_with fail
  obtain ⟨⟨y0, y1⟩, q1, q2⟩ := box_end (w := w) (w1 := w1) (Q := w.heap.size + 1) (.int .i64 n) (.string z) hB1 (Nat.le_succ _) hbw1 (hA)
  exact bodyPost_ret (v := .tuple #[.agg #[.int .i64 n, .string z], v]) (by simp [results, Tryz.results29, go_sem, y0, y1]) rfl ⟨_, by rw [HV.out], q2, q1⟩

set_option maxRecDepth 20000 in
set_option maxHeartbeats 4000000 in
theorem feed_start (s : ByteArray) (b : Nat) (w : World) (hb : b < 256) (hP : LaidP w) (hS : Beg s) :
    Calls Tryz.prog 29 #[.agg #[.int .i64 1, .string s], .int .u8 (b : Int)] w (FedW w (startN s b)) := by
  have hne : (s.toList == []) = false := by
    rw [beq_eq_false_iff_ne, Lib.toList_data]
    intro h
    have := Lib.size_eq s
    rw [h] at this
    rcases hS with k | k | k <;> (rw [k.1] at this; cases this)
  obtain ⟨R, hR⟩ : ∃ R, startN s b = R := ⟨_, rfl⟩
  have HF : Hid (∀ W, Below w.heap.size w W → Calls Tryz.prog 56 #[.agg #[.int .i64 1, .string s], .int .u8 (b : Int)] W (FedW W R)) := fun W hW => by rw [← hR]; exact start_any s b W hb hS (hP.tab.below hW)
  rw [hR]
  obtain ⟨n, hn⟩ : ∃ n, stN R.1 = n := ⟨_, rfl⟩
  obtain ⟨z, hz⟩ : ∃ z, stB R.1 = z := ⟨_, rfl⟩
  have HF2 := Lib.hid (fun W hW => fed_letters (HF.out W hW) hn hz rfl)
  have HV : Hid (stV R.1 = .agg #[.int .i64 n, .string z]) := by show _ = _; rw [← hn, ← hz]; rfl
  have hR : Hid (R = R) := rfl
  clear HF hn hz hP
  have HW : Hid (∀ W0, (w.alloc (.cells #[.int .i64 1, .string s] 45)).alloc (.cells #[.int .i64 0, .string ⟨#[]⟩] 45) = W0 → Below w.heap.size w W0 ∧ W0.heap.size = w.heap.size + 2 ∧ blk2 W0 w.heap.size (.int .i64 1) (.string s) ∧ blk2 W0 (w.heap.size + 1) (.int .i64 0) (.string ⟨#[]⟩)) := fun W0 h => by rw [← h]; exact box_new2 w _ _ _ _
  go_enter Tryz.func29, Tryz.ntmps29
  go_wp2_with fail
  obtain ⟨W0, hW0⟩ : ∃ W0, (w.alloc (.cells #[.int .i64 1, .string s] 45)).alloc (.cells #[.int .i64 0, .string ⟨#[]⟩] 45) = W0 := ⟨_, rfl⟩
  obtain ⟨hb0, hs0, hBP, hB0⟩ := HW.out W0 hW0
  rw [hW0]
  clear HW hW0
  obtain ⟨⟨p0, p1⟩, r0, r1⟩ := hBP.cells
  go_wp2_with fail
  go_fit (HF2.out _ hb0)
  rintro e w1 ⟨v, rfl, hA, hb1⟩
  have hB1 := hB0.below hb1
  have hbw1 := hb0.trans (hb1.mono hb0.size)
  rw [hs0] at hA
  clear hB0 hBP hb0 hs0 hb1 p0 p1 r0 r1 HF2
  obtain ⟨⟨c0, c1⟩, z0, z1⟩ := hB1.cells
  go_wp2_with fail
  obtain ⟨⟨y0, y1⟩, q1, q2⟩ := box_end (w := w) (w1 := w1) (Q := w.heap.size + 1) (.int .i64 n) (.string z) hB1 (Nat.le_succ _) hbw1 (hA)
  exact bodyPost_ret (v := .tuple #[.agg #[.int .i64 n, .string z], v]) (by simp [results, Tryz.results29, go_sem, y0, y1]) rfl ⟨_, by rw [HV.out], q2, q1⟩

set_option maxRecDepth 20000 in
set_option maxHeartbeats 4000000 in
theorem feed_esc (b : Nat) (w : World) (hb : b < 256) (_hP : LaidP w) :
    Calls Tryz.prog 29 #[.agg #[.int .i64 2, .string ⟨#[]⟩], .int .u8 (b : Int)] w (FedW w (escN b)) := by
  obtain ⟨R, hR⟩ : ∃ R, escN b = R := ⟨_, rfl⟩
  have HF : Hid (∀ W, Below w.heap.size w W → Calls Tryz.prog 54 #[.agg #[.int .i64 2, .string ⟨#[]⟩], .int .u8 (b : Int)] W (FedW W R)) := fun W hW => by rw [← hR]; exact esc_any b W hb
  rw [hR]
  obtain ⟨n, hn⟩ : ∃ n, stN R.1 = n := ⟨_, rfl⟩
  obtain ⟨z, hz⟩ : ∃ z, stB R.1 = z := ⟨_, rfl⟩
  have HF2 := Lib.hid (fun W hW => fed_letters (HF.out W hW) hn hz rfl)
  have HV : Hid (stV R.1 = .agg #[.int .i64 n, .string z]) := by show _ = _; rw [← hn, ← hz]; rfl
  have hR : Hid (R = R) := rfl
  clear HF hn hz
  have HW : Hid (∀ W0, (w.alloc (.cells #[.int .i64 2, .string ⟨#[]⟩] 45)).alloc (.cells #[.int .i64 0, .string ⟨#[]⟩] 45) = W0 → Below w.heap.size w W0 ∧ W0.heap.size = w.heap.size + 2 ∧ blk2 W0 w.heap.size (.int .i64 2) (.string ⟨#[]⟩) ∧ blk2 W0 (w.heap.size + 1) (.int .i64 0) (.string ⟨#[]⟩)) := fun W0 h => by rw [← h]; exact box_new2 w _ _ _ _
  go_enter Tryz.func29, Tryz.ntmps29
  go_wp2_with fail
  obtain ⟨W0, hW0⟩ : ∃ W0, (w.alloc (.cells #[.int .i64 2, .string ⟨#[]⟩] 45)).alloc (.cells #[.int .i64 0, .string ⟨#[]⟩] 45) = W0 := ⟨_, rfl⟩
  obtain ⟨hb0, hs0, hBP, hB0⟩ := HW.out W0 hW0
  rw [hW0]
  clear HW hW0
  obtain ⟨⟨p0, p1⟩, r0, r1⟩ := hBP.cells
  go_wp2_with fail
  go_fit (HF2.out _ hb0)
  rintro e w1 ⟨v, rfl, hA, hb1⟩
  have hB1 := hB0.below hb1
  have hbw1 := hb0.trans (hb1.mono hb0.size)
  rw [hs0] at hA
  clear hB0 hBP hb0 hs0 hb1 p0 p1 r0 r1 HF2
  obtain ⟨⟨c0, c1⟩, z0, z1⟩ := hB1.cells
  go_wp2_with fail
  obtain ⟨⟨y0, y1⟩, q1, q2⟩ := box_end (w := w) (w1 := w1) (Q := w.heap.size + 1) (.int .i64 n) (.string z) hB1 (Nat.le_succ _) hbw1 (hA)
  exact bodyPost_ret (v := .tuple #[.agg #[.int .i64 n, .string z], v]) (by simp [results, Tryz.results29, go_sem, y0, y1]) rfl ⟨_, by rw [HV.out], q2, q1⟩

set_option maxRecDepth 20000 in
set_option maxHeartbeats 4000000 in
theorem feed_seq (pre : List (Option Nat)) (x : Option Nat) (b : Nat) (w : World) (hb : b < 256) (hP : LaidP w) (hk : OkP (.seq pre x)) :
    Calls Tryz.prog 29 #[.agg #[.int .i64 3, .string (rend pre x)], .int .u8 (b : Int)] w (FedW w (seqN pre x b)) := by
  obtain ⟨R, hR⟩ : ∃ R, seqN pre x b = R := ⟨_, rfl⟩
  have HF : Hid (∀ W, Below w.heap.size w W → Calls Tryz.prog 55 #[.agg #[.int .i64 3, .string (rend pre x)], .int .u8 (b : Int)] W (FedW W R)) := fun W hW => by rw [← hR]; exact seq_any pre x b W hb hk (hP.pow.below hW)
  rw [hR]
  obtain ⟨n, hn⟩ : ∃ n, stN R.1 = n := ⟨_, rfl⟩
  obtain ⟨z, hz⟩ : ∃ z, stB R.1 = z := ⟨_, rfl⟩
  have HF2 := Lib.hid (fun W hW => fed_letters (HF.out W hW) hn hz rfl)
  have HV : Hid (stV R.1 = .agg #[.int .i64 n, .string z]) := by show _ = _; rw [← hn, ← hz]; rfl
  have hR : Hid (R = R) := rfl
  clear HF hn hz hP
  have HW : Hid (∀ W0, (w.alloc (.cells #[.int .i64 3, .string (rend pre x)] 45)).alloc (.cells #[.int .i64 0, .string ⟨#[]⟩] 45) = W0 → Below w.heap.size w W0 ∧ W0.heap.size = w.heap.size + 2 ∧ blk2 W0 w.heap.size (.int .i64 3) (.string (rend pre x)) ∧ blk2 W0 (w.heap.size + 1) (.int .i64 0) (.string ⟨#[]⟩)) := fun W0 h => by rw [← h]; exact box_new2 w _ _ _ _
  go_enter Tryz.func29, Tryz.ntmps29
  go_wp2_with fail
  obtain ⟨W0, hW0⟩ : ∃ W0, (w.alloc (.cells #[.int .i64 3, .string (rend pre x)] 45)).alloc (.cells #[.int .i64 0, .string ⟨#[]⟩] 45) = W0 := ⟨_, rfl⟩
  obtain ⟨hb0, hs0, hBP, hB0⟩ := HW.out W0 hW0
  rw [hW0]
  clear HW hW0
  obtain ⟨⟨p0, p1⟩, r0, r1⟩ := hBP.cells
  go_wp2_with fail
  go_fit (HF2.out _ hb0)
  rintro e w1 ⟨v, rfl, hA, hb1⟩
  have hB1 := hB0.below hb1
  have hbw1 := hb0.trans (hb1.mono hb0.size)
  rw [hs0] at hA
  clear hB0 hBP hb0 hs0 hb1 p0 p1 r0 r1 HF2
  obtain ⟨⟨c0, c1⟩, z0, z1⟩ := hB1.cells
  go_wp2_with fail
  obtain ⟨⟨y0, y1⟩, q1, q2⟩ := box_end (w := w) (w1 := w1) (Q := w.heap.size + 1) (.int .i64 n) (.string z) hB1 (Nat.le_succ _) hbw1 (hA)
  exact bodyPost_ret (v := .tuple #[.agg #[.int .i64 n, .string z], v]) (by simp [results, Tryz.results29, go_sem, y0, y1]) rfl ⟨_, by rw [HV.out], q2, q1⟩

set_option maxRecDepth 20000 in
set_option maxHeartbeats 4000000 in
theorem feed_bad (b : Nat) (w : World) (hb : b < 256) (_hP : LaidP w) :
    Calls Tryz.prog 29 #[.agg #[.int .i64 3, .string ⟨#[63]⟩], .int .u8 (b : Int)] w (FedW w (wrongN b)) := by
  obtain ⟨R, hR⟩ : ∃ R, wrongN b = R := ⟨_, rfl⟩
  have HF : Hid (∀ W, Below w.heap.size w W → Calls Tryz.prog 55 #[.agg #[.int .i64 3, .string ⟨#[63]⟩], .int .u8 (b : Int)] W (FedW W R)) := fun W hW => by rw [← hR]; exact wrong_any b W hb
  rw [hR]
  obtain ⟨n, hn⟩ : ∃ n, stN R.1 = n := ⟨_, rfl⟩
  obtain ⟨z, hz⟩ : ∃ z, stB R.1 = z := ⟨_, rfl⟩
  have HF2 := Lib.hid (fun W hW => fed_letters (HF.out W hW) hn hz rfl)
  have HV : Hid (stV R.1 = .agg #[.int .i64 n, .string z]) := by show _ = _; rw [← hn, ← hz]; rfl
  have hR : Hid (R = R) := rfl
  clear HF hn hz
  have HW : Hid (∀ W0, (w.alloc (.cells #[.int .i64 3, .string ⟨#[63]⟩] 45)).alloc (.cells #[.int .i64 0, .string ⟨#[]⟩] 45) = W0 → Below w.heap.size w W0 ∧ W0.heap.size = w.heap.size + 2 ∧ blk2 W0 w.heap.size (.int .i64 3) (.string ⟨#[63]⟩) ∧ blk2 W0 (w.heap.size + 1) (.int .i64 0) (.string ⟨#[]⟩)) := fun W0 h => by rw [← h]; exact box_new2 w _ _ _ _
  go_enter Tryz.func29, Tryz.ntmps29
  go_wp2_with fail
  obtain ⟨W0, hW0⟩ : ∃ W0, (w.alloc (.cells #[.int .i64 3, .string ⟨#[63]⟩] 45)).alloc (.cells #[.int .i64 0, .string ⟨#[]⟩] 45) = W0 := ⟨_, rfl⟩
  obtain ⟨hb0, hs0, hBP, hB0⟩ := HW.out W0 hW0
  rw [hW0]
  clear HW hW0
  obtain ⟨⟨p0, p1⟩, r0, r1⟩ := hBP.cells
  go_wp2_with fail
  go_fit (HF2.out _ hb0)
  rintro e w1 ⟨v, rfl, hA, hb1⟩
  have hB1 := hB0.below hb1
  have hbw1 := hb0.trans (hb1.mono hb0.size)
  rw [hs0] at hA
  clear hB0 hBP hb0 hs0 hb1 p0 p1 r0 r1 HF2
  obtain ⟨⟨c0, c1⟩, z0, z1⟩ := hB1.cells
  go_wp2_with fail
  obtain ⟨⟨y0, y1⟩, q1, q2⟩ := box_end (w := w) (w1 := w1) (Q := w.heap.size + 1) (.int .i64 n) (.string z) hB1 (Nat.le_succ _) hbw1 (hA)
  exact bodyPost_ret (v := .tuple #[.agg #[.int .i64 n, .string z], v]) (by simp [results, Tryz.results29, go_sem, y0, y1]) rfl ⟨_, by rw [HV.out], q2, q1⟩

theorem feed_any (p : Ps) (b : Nat) (w : World) (hb : b < 256) (hP : LaidP w) (hk : OkP p) :
    Calls Tryz.prog 29 #[stV p, .int .u8 (b : Int)] w (FedW w (feedN p b)) := by
  cases p with
  | zero => exact feed_zero b w hb hP
  | start s => exact feed_start s b w hb hP hk
  | esc => exact feed_esc b w hb hP
  | seq pre x => exact feed_seq pre x b w hb hP hk
  | bad => exact feed_bad b w hb hP
end Go.Proofs.YtpkjaallhhjleaaGreatDoor
