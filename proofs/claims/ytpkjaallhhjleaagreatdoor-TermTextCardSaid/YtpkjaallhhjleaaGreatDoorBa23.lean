/-
  Texts of this proof, one behind the other; each begins with its own remark.
-/
import Derived.Deep.RegionHeld3
import Derived.Deep.Cut
import Derived.Test.YtpkjaallhhjleaaGreatDoorBa22
import Derived.Test.YtpkjaallhhjleaaGreatDoorBa21
import Derived.Test.YtpkjaallhhjleaaGreatDoorBa6
/-
  parser.longer: what it returns of what is kept of a sequence, with one more byte. The table of powers of ten that strconv.Itoa reads is laid.
-/
namespace Go.Proofs.YtpkjaallhhjleaaGreatDoor
open Go.RowKit

def AnyDp (W : World) : Prop := W.drawn = W.drawn
theorem AnyDp.mk (W : World) : AnyDp W := rfl

/-- A contract said of a later world, with what lay at the first one. -/
theorem later1 {w V : World} {f : FuncId} {args : Array Value} {z : Ending} (hV : Below w.heap.size w V) (h : Calls Tryz.prog f args V fun e u => e = z ∧ Below V.heap.size V u) : Calls Tryz.prog f args V fun e u => e = z ∧ Below w.heap.size w u :=
  h.mono fun _ _ ⟨h1, h2⟩ => ⟨h1, hV.trans (h2.mono hV.size)⟩
/-- The table of powers of ten. -/
def PowW (w : World) : Prop := 7 < w.heap.size ∧ Lib.TabIs Tryz.prog w "internal/strconv.uint64pow10" .u64 Lib.pow10Tab
theorem Tryz.gPow : Tryz.prog.globalNamed "internal/strconv.uint64pow10" = some 7 := by kernel_rfl
theorem PowW.below {w w' : World} (h : PowW w) (hb : Below w.heap.size w w') : PowW w' := by
  refine ⟨Nat.lt_of_lt_of_le h.1 hb.size, ?_⟩
  have := h.2
  unfold Lib.TabIs at this ⊢
  rw [← this]
  simp only [World.var?, Tryz.gPow, Option.bind_some, hb.block _ h.1]

theorem itoa_any (n : Nat) (w : World) (hn : n ≤ 9999) (hP : PowW w) :
    Calls Tryz.prog 113 #[.int .i64 (n : Int)] w fun e w' => e = .returned (.string ⟨(Lib.itoa (n : Int)).toArray⟩) ∧ Below w.heap.size w w' :=
  (Tryz.strconv_Itoa (n : Int) (by omega) (by omega) w hP.2).mono fun e w' ⟨he, k, os, hw⟩ => ⟨he, by rw [hw]; exact ⟨rfl, rfl, rfl, by simp [Sort.grow], fun i hi => by
    show ((w.drewN k).heap ++ os)[i]? = _
    rw [Array.getElem?_append_left (by show i < w.heap.size; omega)]
    rfl⟩⟩

theorem last_any (pre : List (Option Nat)) (x : Option Nat) (w : World) (h : (rend pre x).size ≤ 100) :
    Calls Tryz.prog 111 #[.string (rend pre x), .int .u8 59] w fun e w' => e = .returned (.int .i64 (((preL' pre).length : Int) - 1)) ∧ w' = w :=
  (Tryz.strings_LastIndexByte (rend pre x) 59 (by omega) w).mono fun e w' ⟨he, hw⟩ => ⟨by rw [he, ← rend_last pre x]; congr 2; omega, hw⟩
theorem count_any (pre : List (Option Nat)) (x : Option Nat) (w : World) :
    Calls Tryz.prog 112 #[.string (rend pre x), .string ⟨#[59]⟩] w fun e w' => e = .returned (.int .i64 (pre.length : Int)) ∧ w' = w :=
  (Tryz.strings_Count_one (rend pre x) 59 w).mono fun e w' ⟨he, hw⟩ => ⟨by rw [he, rend_count], hw⟩

set_option maxHeartbeats 2000000 in
theorem longer_bad (b : Nat) (w : World) :
    Calls Tryz.prog 89 #[.string ⟨#[63]⟩, .int .u8 (b : Int)] w fun e w' => e = .returned (.string ⟨#[63]⟩) ∧ Below w.heap.size w w' := by
  have H := Lib.hid (fun w => Tryz.strings_LastIndexByte ⟨#[63]⟩ 59 (by decide) w)
  go_enter Tryz.func89, Tryz.ntmps89
  go_wp2_with fail
  go_fit (H.out _)
  rintro e w' ⟨rfl, rfl⟩
  go_wp2_with fail
  go_ret
  exact ⟨rfl, Below.refl _ _⟩

set_option maxHeartbeats 4000000 in
theorem longer_any (pre : List (Option Nat)) (x : Option Nat) (b : Nat) (w : World) (hk : OkP (.seq pre x)) (hb : b < 256) (hP : PowW w) :
    Calls Tryz.prog 89 #[.string (rend pre x), .int .u8 (b : Int)] w fun e w' => e = .returned (.string (stB (stepN pre x b))) ∧ Below w.heap.size w w' := by
  have hsz := rend_small pre x hk
  have H1 := Lib.hid (fun w => last_any pre x w hsz)
  have H2 := Lib.hid (fun w => count_any pre x w)
  have hne := rend_ne pre x
  have hmore := Lib.hid (rend_more pre x)
  have hdig := Lib.hid (rend_digit pre x)
  have htail := Lib.hid (rend_tail pre x)
  have hlen := rend_size pre x
  obtain ⟨O, hO⟩ : ∃ O, stB (stepN pre x b) = O := ⟨_, rfl⟩
  rw [hO]
  obtain ⟨S, hS⟩ : ∃ S, rend pre x = S := ⟨_, rfl⟩
  obtain ⟨L, hL⟩ : ∃ L, (preL' pre).length = L := ⟨_, rfl⟩
  rw [hS] at H1 H2 hne hmore hdig htail hlen hsz
  rw [hL] at H1 hdig htail hlen
  rw [hS]
  have hq : (S.toList == [63]) = false := by
    rw [beq_eq_false_iff_ne, Lib.toList_data]
    exact hne
  have hLs : L ≤ S.size := by omega
  have HO := Lib.hid hO
  clear hne hS hL hlen hO
  by_cases h59 : b = 59
  · subst h59
    by_cases h15 : pre.length < 15
    · have h15i : (pre.length : Int) < 15 := by omega
      have HR : Hid (O = S ++ ⟨#[59]⟩) := by
        show _ = _
        rw [← HO.out, hmore.out]
        unfold stepN
        rw [if_pos ⟨rfl, h15⟩]
        rfl
      clear HO hmore hdig htail
      go_enter Tryz.func89, Tryz.ntmps89
      go_wp2_with fail
      go_fit (H1.out _)
      rintro e w' ⟨rfl, rfl⟩
      go_wp2_with fail
      go_fit (H2.out _)
      rintro e w' ⟨rfl, rfl⟩
      go_wp2_with fail
      go_ret
      exact ⟨by rw [HR.out]; rfl, Below.refl _ _⟩
    · have h15i : (15 : Int) ≤ (pre.length : Int) := by omega
      have HR : Hid (O = ⟨#[63]⟩) := by
        show _ = _
        rw [← HO.out]
        unfold stepN
        rw [if_neg (fun h => h15 h.2), if_neg (by omega)]
        rfl
      clear HO hmore hdig htail
      go_enter Tryz.func89, Tryz.ntmps89
      go_wp2_with fail
      go_fit (H1.out _)
      rintro e w' ⟨rfl, rfl⟩
      go_wp2_with fail
      go_fit (H2.out _)
      rintro e w' ⟨rfl, rfl⟩
      go_wp2_with fail
      go_ret
      exact ⟨by rw [HR.out]; rfl, Below.refl _ _⟩
  · have h59i : ((b : Int) == 59) = false := beq_false_of_ne (by omega)
    by_cases hd : 48 ≤ b ∧ b ≤ 57
    · have d1 : (48 : Int) ≤ (b : Int) := by omega
      have d2 : (b : Int) ≤ 57 := by omega
      have HT := Lib.hid (fun w => textOf_any b w)
      have hdd : ∀ u ∈ (S.extract L S.size ++ oneS b).data.toList, digitU u := by
        rw [app_data, htail.out]
        intro u hu
        rcases List.mem_append.1 hu with hu | hu
        · exact part_dig x u hu
        · rw [List.mem_singleton.1 hu]
          show digitU (UInt8.ofNat b)
          unfold digitU
          rw [UInt8.toNat_ofNat']
          omega
      have HNm := Lib.hid (fun w => number_any (S.extract L S.size ++ oneS b) w hdd)
      have hnum : numL (S.extract L S.size ++ oneS b).data.toList = capN (x.getD 0) (b - 48) := by
        rw [app_data, htail.out]
        exact numL_next x hk.2.2 b hd
      rw [hnum] at HNm
      have HI := Lib.hid (fun W (hW : Below w.heap.size w W) => itoa_any (capN (x.getD 0) (b - 48)) W (by unfold capN; omega) (hP.below hW))
      have HR : Hid (O = S.extract 0 L ++ ⟨(Lib.itoa ((capN (x.getD 0) (b - 48) : Nat) : Int)).toArray⟩) := by
        show _ = _
        rw [← HO.out, hdig.out]
        unfold stepN
        rw [if_neg (fun h => h59 h.1), if_pos hd]
        rfl
      obtain ⟨C, hC⟩ : ∃ C, capN (x.getD 0) (b - 48) = C := ⟨_, rfl⟩
      rw [hC] at HNm HI HR
      obtain ⟨D, hD⟩ : ∃ D : ByteArray, ⟨(Lib.itoa (C : Int)).toArray⟩ = D := ⟨_, rfl⟩
      have e3 : D.size ≤ 4 := by
        rw [← hD, Lib.size_eq]
        show (Lib.itoa (C : Int)).length ≤ 4
        rw [Lib.itoa_nonneg]
        exact digit_len C (by rw [← hC]; unfold capN; omega)
      have e1 : (S.extract L S.size).size ≤ 100 := by rw [Lib.tail_size]; omega
      have e2 : (S.extract 0 L).size ≤ 100 := by rw [head_size S L hLs]; omega
      have e4 : (oneS b).size = 1 := rfl
      obtain ⟨OB, hOB⟩ : ∃ OB, oneS b = OB := ⟨_, rfl⟩
      obtain ⟨T1, hT1⟩ : ∃ T1, S.extract L S.size = T1 := ⟨_, rfl⟩
      obtain ⟨T0, hT0⟩ : ∃ T0, S.extract 0 L = T0 := ⟨_, rfl⟩
      rw [hOB] at e4 HNm HT
      rw [hT1] at e1 HNm
      rw [hT0] at e2 HR
      have f1 : T1.size + OB.size ≤ 9223372036854775807 := by omega
      have f2 : T0.size + D.size ≤ 9223372036854775807 := by omega
      have g1 : ∀ W, (Op.stringOp .add T1 OB).run Tryz.prog W = .ok (.string (T1 ++ OB)) W := fun W => run_string_add_sum W _ _ f1
      have g2 : ∀ W, (Op.stringOp .add T0 D).run Tryz.prog W = .ok (.string (T0 ++ D)) W := fun W => run_string_add_sum W _ _ f2
      clear e1 e2 e3 e4 hOB f1 f2
      rw [hD] at HI HR
      clear HO hmore hdig htail hdd hnum hC hD H2 hP
      go_enter Tryz.func89, Tryz.ntmps89
      go_wp2_with fail
      go_fit (H1.out _)
      rintro e w' ⟨rfl, rfl⟩
      go_wp2_with fail
      have kk := Below.refl w'.heap.size w'
      have k0 : Below w'.heap.size w' w'.drew := kk.drew
      have HT2 := Lib.hid (fun (V : World) (hV : Below w'.heap.size w' V) => later1 hV (HT.out V))
      have HN2 := Lib.hid (fun (V : World) (hV : Below w'.heap.size w' V) => later1 hV (HNm.out V))
      have HI2 := Lib.hid (fun (V : World) (hV : Below w'.heap.size w' V) => later1 hV (HI.out V hV))
      have q1 : (0 : Int) ≤ (L : Int) := by omega
      have q2 : (L : Int) ≤ (S.size : Int) := by omega
      clear HT HNm HI H1
      go_region_held3 AnyDp (first | exact AnyDp.mk _ | go_keep)
        (first
          | (go_at_call 83; go_fit (HT2.out _ ?_); (first | with_reducible exact kk | with_reducible exact k0); rintro e vv ⟨rfl, kk⟩)
          | (go_at_call 114; go_fit (HN2.out _ ?_); (first | with_reducible exact kk | with_reducible exact k0); rintro e vv ⟨rfl, kk⟩)
          | (go_at_call 113; go_fit (HI2.out _ ?_); (first | with_reducible exact kk | with_reducible exact k0); rintro e vv ⟨rfl, kk⟩))
      all_goals go_wp2_with fail
      all_goals go_ret
      all_goals exact ⟨by rw [HR.out]; rfl, kk⟩
    · have HR : Hid (O = ⟨#[63]⟩) := by
        show _ = _
        rw [← HO.out]
        unfold stepN
        rw [if_neg (fun h => h59 h.1), if_neg hd]
        rfl
      clear HO hmore hdig htail
      by_cases e1 : 48 ≤ b
      · have d1 : (48 : Int) ≤ (b : Int) := by omega
        have d2 : (57 : Int) < (b : Int) := by omega
        go_enter Tryz.func89, Tryz.ntmps89
        go_wp2_with fail
        go_fit (H1.out _)
        rintro e w' ⟨rfl, rfl⟩
        go_wp2_with fail
        go_ret
        exact ⟨by rw [HR.out]; rfl, Below.refl _ _⟩
      · have d1 : (b : Int) < 48 := by omega
        go_enter Tryz.func89, Tryz.ntmps89
        go_wp2_with fail
        go_fit (H1.out _)
        rintro e w' ⟨rfl, rfl⟩
        go_wp2_with fail
        go_ret
        exact ⟨by rw [HR.out]; rfl, Below.refl _ _⟩
end Go.Proofs.YtpkjaallhhjleaaGreatDoor

/-
  parser.params: what it returns of what is kept of a sequence: the numbers of its parts, in a row of the call's own.
-/
namespace Go.Proofs.YtpkjaallhhjleaaGreatDoor
open Go.RowKit

theorem pown_row {w : World} {B e size n : Nat} {v : Value} {xs : List Value} (h : w.ownsRow B e size v n xs) : RowV (FromP B) w v n xs := by
  have hl := h.1
  rcases h.2 with ⟨rfl, h0⟩ | ⟨g, cap, cur, rfl, hB, hg, hn, _⟩
  · subst h0
    rw [Nat.zero_mul] at hl
    obtain rfl := List.eq_nil_of_length_eq_zero hl
    exact RowV.nil _ w
  · refine ⟨_, cap, rfl, hn, fun a e => by cases e; exact hB, fun j u hu => ⟨g, 0, rfl, ?_⟩⟩
    have := h.cells (g := g) rfl j u hu
    rw [Nat.zero_add]
    rwa [rlit, Nat.zero_add] at this
theorem own_nums {w : World} {B : Nat} {v : Value} {l : List Nat} (h : w.ownsRow B 3 1 v l.length (ints l)) (hl : l ≠ []) : NumsW (FromP B) w v l := ⟨pown_row h, fun e => absurd e hl⟩

theorem parts_at (pre : List (Option Nat)) (x : Option Nat) (w : World) (k : Nat) (y : Option Nat) (hy : (pre ++ [x])[k]? = some y) :
    (w.alloc (.cells (((pre ++ [x]).map partB).map Value.string).toArray 9)).cell? ⟨w.heap.size, k, none⟩ = some (.string (partB y)) := by
  rw [cell_of_row _ _ _ _ 9 (0, 0) (heap_alloc_new w _), List.getElem?_toArray, List.getElem?_map, List.getElem?_map, hy]
  rfl

set_option maxHeartbeats 1000000 in
theorem split_any (pre : List (Option Nat)) (x : Option Nat) (w : World) (h : (rend pre x).size ≤ 100) :
    Calls Tryz.prog 115 #[.string (rend pre x), .string ⟨#[59]⟩] w fun e w' => e = .returned (.slice (some ⟨w.heap.size, 0, none⟩) (pre.length + 1) (pre.length + 1)) ∧ w' = w.alloc (.cells (((pre ++ [x]).map partB).map Value.string).toArray 9) := by
  have H := Tryz.genSplit_one (rend pre x) 59 w (by omega)
  rw [rend_countB, rend_split] at H
  have e1 : ((pre ++ [x]).map partB).length = pre.length + 1 := by rw [List.length_map, List.length_append]; rfl
  have e2 : Lib.cellsOf ((pre ++ [x]).map partB) (pre.length + 1) = (((pre ++ [x]).map partB).map Value.string).toArray := by rw [← e1]; exact Lib.cellsOf_full _
  rw [e1, e2] at H
  obtain ⟨CS, hCS⟩ : ∃ CS, (((pre ++ [x]).map partB).map Value.string).toArray = CS := ⟨_, rfl⟩
  rw [hCS] at H ⊢
  have HH := Lib.hid H
  clear H e1 e2 hCS
  go_enter Tryz.func115, Tryz.ntmps115
  go_wp2_with fail
  go_fit HH.out
  rintro e w' ⟨rfl, rfl⟩
  go_wp2_with fail
  go_ret
  exact ⟨rfl, rfl⟩

theorem part_data (y : Option Nat) : (partB y).data.toList = prtL y := rfl
theorem number_part (y : Option Nat) (w : World) (hy : ∀ n, y = some n → n ≤ 9999) :
    Calls Tryz.prog 114 #[.string (partB y)] w fun e w' => e = .returned (.int .i64 ((y.getD 0 : Nat) : Int)) ∧ Below w.heap.size w w' := by
  have h := number_any (partB y) w (by rw [part_data]; exact part_dig y)
  rw [part_data, numL_part y hy] at h
  exact h

set_option maxHeartbeats 4000000 in
theorem params_any (pre : List (Option Nat)) (x : Option Nat) (w : World) (hk : OkP (.seq pre x)) :
    Calls Tryz.prog 90 #[.string (rend pre x)] w fun e w' => ∃ v, e = .returned v ∧ NumsW (FromP w.heap.size) w' v (paramsN pre x) ∧ Below w.heap.size w w' := by
  have hsz := rend_small pre x hk
  by_cases hz : pre = [] ∧ x = none
  · obtain ⟨rfl, rfl⟩ := hz
    rw [show rend [] none = ⟨#[]⟩ from rfl]
    go_enter Tryz.func90, Tryz.ntmps90
    go_wp2_with fail
    go_ret
    exact ⟨_, rfl, NumsW.nil _ _, Below.refl _ _⟩
  · have hpos : ((rend pre x).toList == []) = false := by
      rw [beq_eq_false_iff_ne, Lib.toList_data, rend_data]
      intro h
      unfold rendL at h
      obtain ⟨h1, h2⟩ := List.append_eq_nil_iff.1 h
      refine hz ⟨?_, ?_⟩
      · cases pre with
        | nil => rfl
        | cons y pre => have := congrArg List.length h1; unfold preL' at this; simp at this
      · cases x with
        | none => rfl
        | some n => rw [show prtL (some n) = Lib.decDigits n from rfl, Lib.decDigits_eq] at h2; have := congrArg List.length h2; rw [List.length_map, List.length_range] at this; unfold Lib.nDigits at this; split at this <;> simp at this
    have hpos2 : (rend pre x).toList.isEmpty = false := by
      cases h : (rend pre x).toList with
      | nil => rw [h] at hpos; cases hpos
      | cons _ _ => rfl
    have HSP := Lib.hid (fun w => split_any pre x w hsz)
    have HP : Hid (paramsN pre x = nums pre x) := by show _ = _; unfold paramsN; rw [if_neg hz]
    have HNM := Lib.hid (fun (k : Nat) (y : Option Nat) (h : (pre ++ [x])[k]? = some y) w => number_part y w (fun n hn => by
      have hm := List.mem_of_getElem? h
      rcases List.mem_append.1 hm with hm | hm
      · exact hk.2.1 n (hn ▸ hm)
      · exact hk.2.2 n ((List.mem_singleton.1 hm).symm.trans hn)))
    have HAT := Lib.hid (fun w k y hy => parts_at pre x w k y hy)
    have hlen : (pre ++ [x]).length = pre.length + 1 := by rw [List.length_append]; rfl
    have HNU : Hid (nums pre x = (pre ++ [x]).map fun y => y.getD 0) := rfl
    obtain ⟨S, hS⟩ : ∃ S, rend pre x = S := ⟨_, rfl⟩
    obtain ⟨Y, hY⟩ : ∃ Y, pre ++ [x] = Y := ⟨_, rfl⟩
    obtain ⟨N, hN⟩ : ∃ N, pre.length + 1 = N := ⟨_, rfl⟩
    rw [hS] at HSP hpos hpos2 hsz
    rw [hY] at HNM HAT hlen HNU HSP
    rw [hN] at HSP hlen
    have hN16 : N ≤ 16 := by have := hk.1; omega
    have hN1 : 1 ≤ N := by omega
    rw [hS, HP.out]
    obtain ⟨R, hR⟩ : ∃ R, nums pre x = R := ⟨_, rfl⟩
    rw [hR] at HNU ⊢
    have HL := Lib.hid hlen
    clear HP hS hY hN hz hk hR hlen
    obtain ⟨i0, hi, hz0, hz1, hz2⟩ := info_parts Tryz.infoInt
    go_enter Tryz.func90, Tryz.ntmps90
    go_wp2_with fail
    go_fit (HSP.out _)
    rintro e w1 ⟨rfl, hw1⟩
    have hb1 : Below w.heap.size w w1 := by rw [hw1]; exact (Below.refl _ _).alloc (Nat.le_refl _) _
    have hsz1 : w1.heap.size = w.heap.size + 1 := by rw [hw1]; exact Array.size_push _
    have HC : Hid (∀ k y, Y[k]? = some y → w1.cell? ⟨w.heap.size, k, none⟩ = some (.string (partB y))) := fun k y hy => by rw [hw1]; exact HAT.out w k y hy
    clear HAT HSP hw1
    go_wp2_with fail
    go_loopw [3, 11] (fun v i wr => ∃ (k : Nat) (xs : List Nat), i = .int .i64 (k : Int) ∧ k ≤ N ∧ xs.length = k ∧ Hid (xs = (Y.take k).map fun y => y.getD 0) ∧ wr.ownsRow w1.heap.size 3 1 v xs.length (ints xs) ∧ Below w1.heap.size w1 wr) (fun v i _ => N - (intOf i).toNat)
    case atStart => exact ⟨0, [], rfl, Nat.zero_le _, rfl, rfl, World.ownsRow_nil _ _ _ _, Below.refl _ _⟩
    case round =>
      obtain ⟨k, xs, rfl, hk, hxl, HX, hown, hbr⟩ := hrel
      by_cases hlt : k < N
      · obtain ⟨y, hy⟩ : ∃ y, Y[k]? = some y := ⟨_, List.getElem?_eq_getElem (by rw [HL.out]; exact hlt)⟩
        have c1 : wr.cell? ⟨w.heap.size, k, none⟩ = some (.string (partB y)) := by
          rw [hbr.cell (p := ⟨w.heap.size, k, none⟩) (by show w.heap.size < w1.heap.size; omega)]
          exact HC.out k y hy
        have HN1 := Lib.hid (HNM.out k y hy wr)
        have HX2 : Hid (xs ++ [y.getD 0] = (Y.take (k + 1)).map fun y => y.getD 0) := by
          show _ = _
          rw [List.take_add_one, hy, List.map_append, ← HX.out]
          rfl
        obtain ⟨z, hz⟩ : ∃ z, y.getD 0 = z := ⟨_, rfl⟩
        rw [hz] at HN1 HX2
        obtain ⟨P, hP⟩ : ∃ P, partB y = P := ⟨_, rfl⟩
        rw [hP] at c1 HN1
        have hi2 : (k : Int) < (N : Int) := by omega
        clear hz hP hy
        go_wp2_with fail
        go_fit HN1.out
        rintro e w2 ⟨rfl, hb2⟩
        have hown2 := ownsRow_below hown hb2
        have hb2' : Below w1.heap.size w1 w2 := hbr.trans (hb2.mono hbr.size)
        clear hown hb2 HN1 c1
        go_wp2_with (at_builtin; (refine wpList_append_own _ rfl _ _ 58 rfl w1.heap.size 3 i0 (.int .i64 0) 1 8 Tryz.underlying58 hi hz0 hz1 hz2 rfl (by decide) _ _ _ rfl (hown2.alloc _) ⟨w2.heap.size, 0, none⟩ 1 1 [.int .i64 (z : Int)] rfl rfl (cell_one_new _ _ _) (fun x hx => by simp at hx; subst hx; rfl) (by unfold maxLen; omega) (by omega) (by have := hb2'.size; simp; omega) ?_; intro v' w3 hown' hgrow3 hnil3))
        have hbw3 : Below w1.heap.size w1 w3 := Below.grown (hb2'.alloc hb2'.size _) hgrow3 (by have := hb2'.size; simp; omega) (fun j hj => (hown2.lt _ hj).1)
        have hown3 : w3.ownsRow w1.heap.size 3 1 v' (xs ++ [z]).length (ints (xs ++ [z])) := by
          unfold ints; rw [List.length_append, List.map_append]; exact hown'
        go_roundw
        case rel => exact ⟨k + 1, xs ++ [z], by go_num, by omega, by rw [List.length_append, hxl]; rfl, HX2, hown3, hbw3⟩
        case measure => simp [intOf]; omega
      · obtain rfl : k = N := by omega
        have HE : Hid (xs = R) := by
          show _ = _
          rw [HX.out, HNU.out, List.take_of_length_le (by rw [HL.out]; exact Nat.le_refl _)]
        clear HX
        go_wp2_with fail
        go_ret
        refine ⟨_, rfl, ?_, hb1.trans (hbr.mono hb1.size)⟩
        rw [← HE.out]
        exact (own_nums hown (by intro e; rw [e] at hxl; exact absurd hxl (by show 0 ≠ _; omega))).mono fun j _ hj => Nat.le_trans hb1.size hj
end Go.Proofs.YtpkjaallhhjleaaGreatDoor

/-
  parser.first: what it returns: for every byte.
-/
namespace Go.Proofs.YtpkjaallhhjleaaGreatDoor
open Go.RowKit

/-- What the package variables hold. -/
structure LaidP (w : World) : Prop where
  tab : TabU w
  pow : PowW w
theorem LaidP.below {w w' : World} (h : LaidP w) (hb : Below w.heap.size w w') : LaidP w' := ⟨h.tab.below hb, h.pow.below hb⟩

set_option maxRecDepth 20000 in
set_option maxHeartbeats 4000000 in
theorem first_any (b : Nat) (w : World) (hb : b < 256) (hT : TabU w) :
    Calls Tryz.prog 53 #[.int .u8 (b : Int)] w (FedW w (firstN b)) := by
  obtain ⟨R, hR⟩ : ∃ R, firstN b = R := ⟨_, rfl⟩
  rw [hR]
  have hR := Lib.hid hR
  have H1 := Lib.hid (fun w => textOf_any b w)
  have HW : Hid (∀ W0, w.alloc (.cells #[.int .i64 0, .string ⟨#[]⟩] 45) = W0 → Below w.heap.size w W0 ∧ W0.heap.size = w.heap.size + 1 ∧ blk2 W0 w.heap.size (.int .i64 0) (.string ⟨#[]⟩)) := fun W0 h => by rw [← h]; exact box_new w _ _
  have HS : Hid (∀ W, Below w.heap.size w W → Calls Tryz.prog 86 #[.string (oneS b)] W fun e w' => e = .returned (.bool (begB (oneS b))) ∧ Below W.heap.size W w') := fun W hW => starts_any (oneS b) W (hT.below hW) (by rw [one_size]; decide) (by rw [one_size]; decide)
  have HN := Lib.hid (fun W => invalid_any W)
  have HC := Lib.hid (fun W => control_any b W hb)
  have HH := Lib.hid (fun W => pshown_any b W)
  clear hT
  by_cases h27 : b = 27
  · subst h27
    replace hR : Hid (R = (.esc, [])) := by
      show _ = _
      rw [← hR.out]
      unfold firstN
      rw [if_pos rfl]
    clear HN HC HH HS
    go_enter Tryz.func53, Tryz.ntmps53
    go_wp2_with fail
    obtain ⟨W0, hW0⟩ : ∃ W0, w.alloc (.cells #[.int .i64 0, .string ⟨#[]⟩] 45) = W0 := ⟨_, rfl⟩
    obtain ⟨hb0, hs0, hB0⟩ := HW.out W0 hW0
    rw [hW0]
    clear HW hW0
    go_fit (H1.out _)
    rintro e w1 ⟨rfl, hb1⟩
    have hB1 := hB0.below hb1
    have hbw1 := hb0.trans (hb1.mono hb0.size)
    have hs1 : w.heap.size + 1 ≤ w1.heap.size := by rw [← hs0]; exact hb1.size
    clear hB0 hb0 hs0 hb1 H1
    obtain ⟨⟨c0, c1⟩, z0, z1⟩ := hB1.cells
    go_wp2_with fail
    obtain ⟨⟨y0, y1⟩, q1, q2⟩ := box_end (w := w) (w1 := w1) (Q := w.heap.size) (.int .i64 2) (.string ⟨#[]⟩) hB1 (Nat.le_refl _) hbw1 (ActsW.nil _ _)
    rw [hR.out]
    exact bodyPost_ret (v := .tuple #[.agg #[.int .i64 2, .string ⟨#[]⟩], .slice none 0 0]) (by simp [results, Tryz.results53, go_sem, y0, y1]) rfl ⟨_, rfl, q2, q1⟩
  · have e27 : ((b : Int) == 27) = false := beq_false_of_ne (by omega)
    by_cases h32 : b < 32
    · have i32 : (b : Int) < 32 := by omega
      replace hR : Hid (R = (.zero, [(2, b, [], 0)])) := by
        show _ = _
        rw [← hR.out]
        unfold firstN
        rw [if_neg h27, if_pos (.inl h32)]
      clear HN HH HS
      go_enter Tryz.func53, Tryz.ntmps53
      go_wp2_with fail
      obtain ⟨W0, hW0⟩ : ∃ W0, w.alloc (.cells #[.int .i64 0, .string ⟨#[]⟩] 45) = W0 := ⟨_, rfl⟩
      obtain ⟨hb0, hs0, hB0⟩ := HW.out W0 hW0
      rw [hW0]
      clear HW hW0
      go_fit (H1.out _)
      rintro e w1 ⟨rfl, hb1⟩
      have hB1 := hB0.below hb1
      have hbw1 := hb0.trans (hb1.mono hb0.size)
      have hs1 : w.heap.size + 1 ≤ w1.heap.size := by rw [← hs0]; exact hb1.size
      clear hB0 hb0 hs0 hb1 H1
      obtain ⟨⟨c0, c1⟩, z0, z1⟩ := hB1.cells
      go_wp2_with fail
      go_fit (HC.out _)
      rintro e w2 ⟨v, rfl, hA, _, hb2⟩
      have hB2 := hB1.below hb2
      have hbw2 := hbw1.trans (hb2.mono hbw1.size)
      clear hB1 hb2 c0 c1 z0 z1
      obtain ⟨⟨c0, c1⟩, z0, z1⟩ := hB2.cells
      go_wp2_with fail
      obtain ⟨⟨y0, y1⟩, q1, q2⟩ := box_end (w := w) (w1 := w2) (Q := w.heap.size) (.int .i64 0) (.string ⟨#[]⟩) hB2 (Nat.le_refl _) hbw2 (acts_from hA hs1)
      rw [hR.out]
      exact bodyPost_ret (v := .tuple #[.agg #[.int .i64 0, .string ⟨#[]⟩], v]) (by simp [results, Tryz.results53, go_sem, y0, y1]) rfl ⟨_, rfl, q2, q1⟩
    · by_cases h127 : b = 127
      · subst h127
        replace hR : Hid (R = (.zero, [(2, 127, [], 0)])) := by
          show _ = _
          rw [← hR.out]
          unfold firstN
          rw [if_neg h27, if_pos (.inr rfl)]
        clear HN HH HS
        go_enter Tryz.func53, Tryz.ntmps53
        go_wp2_with fail
        obtain ⟨W0, hW0⟩ : ∃ W0, w.alloc (.cells #[.int .i64 0, .string ⟨#[]⟩] 45) = W0 := ⟨_, rfl⟩
        obtain ⟨hb0, hs0, hB0⟩ := HW.out W0 hW0
        rw [hW0]
        clear HW hW0
        go_fit (H1.out _)
        rintro e w1 ⟨rfl, hb1⟩
        have hB1 := hB0.below hb1
        have hbw1 := hb0.trans (hb1.mono hb0.size)
        have hs1 : w.heap.size + 1 ≤ w1.heap.size := by rw [← hs0]; exact hb1.size
        clear hB0 hb0 hs0 hb1 H1
        obtain ⟨⟨c0, c1⟩, z0, z1⟩ := hB1.cells
        go_wp2_with fail
        go_fit (HC.out _)
        rintro e w2 ⟨v, rfl, hA, _, hb2⟩
        have hB2 := hB1.below hb2
        have hbw2 := hbw1.trans (hb2.mono hbw1.size)
        clear hB1 hb2 c0 c1 z0 z1
        obtain ⟨⟨c0, c1⟩, z0, z1⟩ := hB2.cells
        go_wp2_with fail
        obtain ⟨⟨y0, y1⟩, q1, q2⟩ := box_end (w := w) (w1 := w2) (Q := w.heap.size) (.int .i64 0) (.string ⟨#[]⟩) hB2 (Nat.le_refl _) hbw2 (acts_from hA hs1)
        rw [hR.out]
        exact bodyPost_ret (v := .tuple #[.agg #[.int .i64 0, .string ⟨#[]⟩], v]) (by simp [results, Tryz.results53, go_sem, y0, y1]) rfl ⟨_, rfl, q2, q1⟩
      · have i32 : (32 : Int) ≤ (b : Int) := by omega
        have e127 : ((b : Int) == 127) = false := beq_false_of_ne (by omega)
        by_cases h128 : b < 128
        · have i128 : (b : Int) < 128 := by omega
          replace hR : Hid (R = (.zero, [(1, b, [], 0)])) := by
            show _ = _
            rw [← hR.out]
            unfold firstN
            rw [if_neg h27, if_neg (by omega), if_pos h128]
          clear HN HC HS
          go_enter Tryz.func53, Tryz.ntmps53
          go_wp2_with fail
          obtain ⟨W0, hW0⟩ : ∃ W0, w.alloc (.cells #[.int .i64 0, .string ⟨#[]⟩] 45) = W0 := ⟨_, rfl⟩
          obtain ⟨hb0, hs0, hB0⟩ := HW.out W0 hW0
          rw [hW0]
          clear HW hW0
          go_fit (H1.out _)
          rintro e w1 ⟨rfl, hb1⟩
          have hB1 := hB0.below hb1
          have hbw1 := hb0.trans (hb1.mono hb0.size)
          have hs1 : w.heap.size + 1 ≤ w1.heap.size := by rw [← hs0]; exact hb1.size
          clear hB0 hb0 hs0 hb1 H1
          obtain ⟨⟨c0, c1⟩, z0, z1⟩ := hB1.cells
          go_wp2_with fail
          go_fit (HH.out _)
          rintro e w2 ⟨v, rfl, hA, _, hb2⟩
          have hB2 := hB1.below hb2
          have hbw2 := hbw1.trans (hb2.mono hbw1.size)
          clear hB1 hb2 c0 c1 z0 z1
          obtain ⟨⟨c0, c1⟩, z0, z1⟩ := hB2.cells
          go_wp2_with fail
          obtain ⟨⟨y0, y1⟩, q1, q2⟩ := box_end (w := w) (w1 := w2) (Q := w.heap.size) (.int .i64 0) (.string ⟨#[]⟩) hB2 (Nat.le_refl _) hbw2 (acts_from hA hs1)
          rw [hR.out]
          exact bodyPost_ret (v := .tuple #[.agg #[.int .i64 0, .string ⟨#[]⟩], v]) (by simp [results, Tryz.results53, go_sem, y0, y1]) rfl ⟨_, rfl, q2, q1⟩
        · have i128 : (128 : Int) ≤ (b : Int) := by omega
          by_cases hst : begB (oneS b) = true
          · replace hR : Hid (R = (.start (oneS b), [])) := by
              show _ = _
              rw [← hR.out]
              unfold firstN
              rw [if_neg h27, if_neg (by omega), if_neg h128, if_pos hst]
            rw [hst] at HS
            clear HN HC HH
            go_enter Tryz.func53, Tryz.ntmps53
            go_wp2_with fail
            obtain ⟨W0, hW0⟩ : ∃ W0, w.alloc (.cells #[.int .i64 0, .string ⟨#[]⟩] 45) = W0 := ⟨_, rfl⟩
            obtain ⟨hb0, hs0, hB0⟩ := HW.out W0 hW0
            rw [hW0]
            clear HW hW0
            go_fit (H1.out _)
            rintro e w1 ⟨rfl, hb1⟩
            have hB1 := hB0.below hb1
            have hbw1 := hb0.trans (hb1.mono hb0.size)
            have hs1 : w.heap.size + 1 ≤ w1.heap.size := by rw [← hs0]; exact hb1.size
            clear hB0 hb0 hs0 hb1 H1
            obtain ⟨⟨c0, c1⟩, z0, z1⟩ := hB1.cells
            go_wp2_with fail
            go_fit (HS.out _ hbw1)
            rintro e w2 ⟨rfl, hb2⟩
            have hB2 := hB1.below hb2
            have hbw2 := hbw1.trans (hb2.mono hbw1.size)
            have hs2 : w.heap.size + 1 ≤ w2.heap.size := Nat.le_trans hs1 hb2.size
            clear hB1 hb2 c0 c1 z0 z1 HS hbw1 hs1
            obtain ⟨⟨c0, c1⟩, z0, z1⟩ := hB2.cells
            go_wp2_with fail
            obtain ⟨⟨y0, y1⟩, q1, q2⟩ := box_end (w := w) (w1 := w2) (Q := w.heap.size) (.int .i64 1) (.string (oneS b)) hB2 (Nat.le_refl _) hbw2 (ActsW.nil _ _)
            rw [hR.out]
            exact bodyPost_ret (v := .tuple #[.agg #[.int .i64 1, .string (oneS b)], .slice none 0 0]) (by simp [results, Tryz.results53, go_sem, y0, y1]) rfl ⟨_, rfl, q2, q1⟩
          · have hsf : begB (oneS b) = false := by cases h : begB (oneS b) <;> simp_all
            replace hR : Hid (R = (.zero, [badA])) := by
              show _ = _
              rw [← hR.out]
              unfold firstN
              rw [if_neg h27, if_neg (by omega), if_neg h128, if_neg hst]
            rw [hsf] at HS
            clear HC HH
            go_enter Tryz.func53, Tryz.ntmps53
            go_wp2_with fail
            obtain ⟨W0, hW0⟩ : ∃ W0, w.alloc (.cells #[.int .i64 0, .string ⟨#[]⟩] 45) = W0 := ⟨_, rfl⟩
            obtain ⟨hb0, hs0, hB0⟩ := HW.out W0 hW0
            rw [hW0]
            clear HW hW0
            go_fit (H1.out _)
            rintro e w1 ⟨rfl, hb1⟩
            have hB1 := hB0.below hb1
            have hbw1 := hb0.trans (hb1.mono hb0.size)
            have hs1 : w.heap.size + 1 ≤ w1.heap.size := by rw [← hs0]; exact hb1.size
            clear hB0 hb0 hs0 hb1 H1
            obtain ⟨⟨c0, c1⟩, z0, z1⟩ := hB1.cells
            go_wp2_with fail
            go_fit (HS.out _ hbw1)
            rintro e w2 ⟨rfl, hb2⟩
            have hB2 := hB1.below hb2
            have hbw2 := hbw1.trans (hb2.mono hbw1.size)
            have hs2 : w.heap.size + 1 ≤ w2.heap.size := Nat.le_trans hs1 hb2.size
            clear hB1 hb2 c0 c1 z0 z1 HS hbw1 hs1
            obtain ⟨⟨c0, c1⟩, z0, z1⟩ := hB2.cells
            go_wp2_with fail
            go_fit (HN.out _)
            rintro e w3 ⟨v, rfl, hA, _, hb3⟩
            have hB3 := hB2.below hb3
            have hbw3 := hbw2.trans (hb3.mono hbw2.size)
            clear hB2 hb3 c0 c1 z0 z1
            obtain ⟨⟨c0, c1⟩, z0, z1⟩ := hB3.cells
            go_wp2_with fail
            obtain ⟨⟨y0, y1⟩, q1, q2⟩ := box_end (w := w) (w1 := w3) (Q := w.heap.size) (.int .i64 0) (.string ⟨#[]⟩) hB3 (Nat.le_refl _) hbw3 (acts_from hA hs2)
            rw [hR.out]
            exact bodyPost_ret (v := .tuple #[.agg #[.int .i64 0, .string ⟨#[]⟩], v]) (by simp [results, Tryz.results53, go_sem, y0, y1]) rfl ⟨_, rfl, q2, q1⟩
end Go.Proofs.YtpkjaallhhjleaaGreatDoor
