/-
  parser.params: what it returns of what is kept of a sequence: the numbers of its parts, in a row of the call's own.
-/
import Derived.Test.YtbpnnnjbddjboaaDoorPsLonger
namespace Go.Proofs.YtbpnnnjbddjboaaDoor
open Go.RowKit

theorem own_row {w : World} {B e size n : Nat} {v : Value} {xs : List Value} (h : w.ownsRow B e size v n xs) : RowV (FromP B) w v n xs := by
  have hl := h.1
  rcases h.2 with ⟨rfl, h0⟩ | ⟨g, cap, cur, rfl, hB, hg, hn, _⟩
  · subst h0
    rw [Nat.zero_mul] at hl
    obtain rfl := List.eq_nil_of_length_eq_zero hl
    exact RowV.nil _ w
  · refine ⟨_, cap, rfl, hn, fun a e => by cases e; exact hB, fun j u hu => ⟨g, 0, rfl, ?_⟩⟩
    have := h.cells (g := g) rfl j u hu
    rw [Nat.zero_add]
    rwa [rlit, Nat.zero_add] at this
theorem own_nums {w : World} {B : Nat} {v : Value} {l : List Nat} (h : w.ownsRow B 3 1 v l.length (ints l)) (hl : l ≠ []) : NumsW (FromP B) w v l := ⟨own_row h, fun e => absurd e hl⟩

theorem parts_at (pre : List (Option Nat)) (x : Option Nat) (w : World) (k : Nat) (y : Option Nat) (hy : (pre ++ [x])[k]? = some y) :
    (w.alloc (.cells (((pre ++ [x]).map partB).map Value.string).toArray 9)).cell? ⟨w.heap.size, k, none⟩ = some (.string (partB y)) := by
  rw [cell_of_row _ _ _ _ 9 (0, 0) (heap_alloc_new w _), List.getElem?_toArray, List.getElem?_map, List.getElem?_map, hy]
  rfl

set_option maxHeartbeats 1000000 in
theorem split_any (pre : List (Option Nat)) (x : Option Nat) (w : World) (h : (rend pre x).size ≤ 100) :
    Calls Tryd.prog 45 #[.string (rend pre x), .string ⟨#[59]⟩] w fun e w' => e = .returned (.slice (some ⟨w.heap.size, 0, none⟩) (pre.length + 1) (pre.length + 1)) ∧ w' = w.alloc (.cells (((pre ++ [x]).map partB).map Value.string).toArray 9) := by
  have H := Tryd.genSplit_one (rend pre x) 59 w (by omega)
  rw [rend_countB, rend_split] at H
  have e1 : ((pre ++ [x]).map partB).length = pre.length + 1 := by rw [List.length_map, List.length_append]; rfl
  have e2 : Lib.cellsOf ((pre ++ [x]).map partB) (pre.length + 1) = (((pre ++ [x]).map partB).map Value.string).toArray := by rw [← e1]; exact Lib.cellsOf_full _
  rw [e1, e2] at H
  obtain ⟨CS, hCS⟩ : ∃ CS, (((pre ++ [x]).map partB).map Value.string).toArray = CS := ⟨_, rfl⟩
  rw [hCS] at H ⊢
  have HH := Lib.hid H
  clear H e1 e2 hCS
  go_enter Tryd.func45, Tryd.ntmps45
  go_wp2_with fail
  go_fit HH.out
  rintro e w' ⟨rfl, rfl⟩
  go_wp2_with fail
  go_ret
  exact ⟨rfl, rfl⟩

theorem part_data (y : Option Nat) : (partB y).data.toList = partL y := rfl
theorem number_part (y : Option Nat) (w : World) (hy : ∀ n, y = some n → n ≤ 9999) :
    Calls Tryd.prog 44 #[.string (partB y)] w fun e w' => e = .returned (.int .i64 ((y.getD 0 : Nat) : Int)) ∧ Below w.heap.size w w' := by
  have h := number_any (partB y) w (by rw [part_data]; exact part_dig y)
  rw [part_data, numL_part y hy] at h
  exact h

set_option maxHeartbeats 4000000 in
theorem params_any (pre : List (Option Nat)) (x : Option Nat) (w : World) (hk : OkP (.seq pre x)) :
    Calls Tryd.prog 35 #[.string (rend pre x)] w fun e w' => ∃ v, e = .returned v ∧ NumsW (FromP w.heap.size) w' v (paramsN pre x) ∧ Below w.heap.size w w' := by
  have hsz := rend_small pre x hk
  by_cases hz : pre = [] ∧ x = none
  · obtain ⟨rfl, rfl⟩ := hz
    rw [show rend [] none = ⟨#[]⟩ from rfl]
    go_enter Tryd.func35, Tryd.ntmps35
    go_wp2_with fail
    go_ret
    exact ⟨_, rfl, NumsW.nil _ _, Below.refl _ _⟩
  · have hpos : ((rend pre x).toList == []) = false := by
      rw [beq_eq_false_iff_ne, Lib.toList_data, rend_data]
      intro h
      unfold rendL at h
      obtain ⟨h1, h2⟩ := List.append_eq_nil_iff.1 h
      refine hz ⟨?_, ?_⟩
      · cases pre with
        | nil => rfl
        | cons y pre => have := congrArg List.length h1; unfold preL' at this; simp at this
      · cases x with
        | none => rfl
        | some n => rw [show partL (some n) = Lib.decDigits n from rfl, Lib.decDigits_eq] at h2; have := congrArg List.length h2; rw [List.length_map, List.length_range] at this; unfold Lib.nDigits at this; split at this <;> simp at this
    have hpos2 : (rend pre x).toList.isEmpty = false := by
      cases h : (rend pre x).toList with
      | nil => rw [h] at hpos; cases hpos
      | cons _ _ => rfl
    have HSP := Lib.hid (fun w => split_any pre x w hsz)
    have HP : Hid (paramsN pre x = nums pre x) := by show _ = _; unfold paramsN; rw [if_neg hz]
    have HNM := Lib.hid (fun (k : Nat) (y : Option Nat) (h : (pre ++ [x])[k]? = some y) w => number_part y w (fun n hn => by
      have hm := List.mem_of_getElem? h
      rcases List.mem_append.1 hm with hm | hm
      · exact hk.2.1 n (hn ▸ hm)
      · exact hk.2.2 n ((List.mem_singleton.1 hm).symm.trans hn)))
    have HAT := Lib.hid (fun w k y hy => parts_at pre x w k y hy)
    have hlen : (pre ++ [x]).length = pre.length + 1 := by rw [List.length_append]; rfl
    have HNU : Hid (nums pre x = (pre ++ [x]).map fun y => y.getD 0) := rfl
    obtain ⟨S, hS⟩ : ∃ S, rend pre x = S := ⟨_, rfl⟩
    obtain ⟨Y, hY⟩ : ∃ Y, pre ++ [x] = Y := ⟨_, rfl⟩
    obtain ⟨N, hN⟩ : ∃ N, pre.length + 1 = N := ⟨_, rfl⟩
    rw [hS] at HSP hpos hpos2 hsz
    rw [hY] at HNM HAT hlen HNU HSP
    rw [hN] at HSP hlen
    have hN16 : N ≤ 16 := by have := hk.1; omega
    have hN1 : 1 ≤ N := by omega
    rw [hS, HP.out]
    obtain ⟨R, hR⟩ : ∃ R, nums pre x = R := ⟨_, rfl⟩
    rw [hR] at HNU ⊢
    have HL := Lib.hid hlen
    clear HP hS hY hN hz hk hR hlen
    obtain ⟨i0, hi, hz0, hz1, hz2⟩ := info_parts Tryd.infoInt
    go_enter Tryd.func35, Tryd.ntmps35
    go_wp2_with fail
    go_fit (HSP.out _)
    rintro e w1 ⟨rfl, hw1⟩
    have hb1 : Below w.heap.size w w1 := by rw [hw1]; exact (Below.refl _ _).alloc (Nat.le_refl _) _
    have hsz1 : w1.heap.size = w.heap.size + 1 := by rw [hw1]; exact Array.size_push _
    have HC : Hid (∀ k y, Y[k]? = some y → w1.cell? ⟨w.heap.size, k, none⟩ = some (.string (partB y))) := fun k y hy => by rw [hw1]; exact HAT.out w k y hy
    clear HAT HSP hw1
    go_wp2_with fail
    go_loopw [3, 11] (fun v i wr => ∃ (k : Nat) (xs : List Nat), i = .int .i64 (k : Int) ∧ k ≤ N ∧ xs.length = k ∧ Hid (xs = (Y.take k).map fun y => y.getD 0) ∧ wr.ownsRow w1.heap.size 3 1 v xs.length (ints xs) ∧ Below w1.heap.size w1 wr) (fun v i _ => N - (intOf i).toNat)
    case atStart => exact ⟨0, [], rfl, Nat.zero_le _, rfl, rfl, World.ownsRow_nil _ _ _ _, Below.refl _ _⟩
    case round =>
      obtain ⟨k, xs, rfl, hk, hxl, HX, hown, hbr⟩ := hrel
      by_cases hlt : k < N
      · obtain ⟨y, hy⟩ : ∃ y, Y[k]? = some y := ⟨_, List.getElem?_eq_getElem (by rw [HL.out]; exact hlt)⟩
        have c1 : wr.cell? ⟨w.heap.size, k, none⟩ = some (.string (partB y)) := by
          rw [hbr.cell (p := ⟨w.heap.size, k, none⟩) (by show w.heap.size < w1.heap.size; omega)]
          exact HC.out k y hy
        have HN1 := Lib.hid (HNM.out k y hy wr)
        have HX2 : Hid (xs ++ [y.getD 0] = (Y.take (k + 1)).map fun y => y.getD 0) := by
          show _ = _
          rw [List.take_add_one, hy, List.map_append, ← HX.out]
          rfl
        obtain ⟨z, hz⟩ : ∃ z, y.getD 0 = z := ⟨_, rfl⟩
        rw [hz] at HN1 HX2
        obtain ⟨P, hP⟩ : ∃ P, partB y = P := ⟨_, rfl⟩
        rw [hP] at c1 HN1
        have hi2 : (k : Int) < (N : Int) := by omega
        clear hz hP hy
        go_wp2_with fail
        go_fit HN1.out
        rintro e w2 ⟨rfl, hb2⟩
        have hown2 := ownsRow_below hown hb2
        have hb2' : Below w1.heap.size w1 w2 := hbr.trans (hb2.mono hbr.size)
        clear hown hb2 HN1 c1
        go_wp2_with (at_builtin; (refine wpList_append_own _ rfl _ _ 32 rfl w1.heap.size 3 i0 (.int .i64 0) 1 8 Tryd.underlying32 hi hz0 hz1 hz2 rfl (by decide) _ _ _ rfl (hown2.alloc _) ⟨w2.heap.size, 0, none⟩ 1 1 [.int .i64 (z : Int)] rfl rfl (cell_one_new _ _ _) (fun x hx => by simp at hx; subst hx; rfl) (by unfold maxLen; omega) (by omega) (by have := hb2'.size; simp; omega) ?_; intro v' w3 hown' hgrow3 hnil3))
        have hbw3 : Below w1.heap.size w1 w3 := Below.grown (hb2'.alloc hb2'.size _) hgrow3 (by have := hb2'.size; simp; omega) (fun j hj => (hown2.lt _ hj).1)
        have hown3 : w3.ownsRow w1.heap.size 3 1 v' (xs ++ [z]).length (ints (xs ++ [z])) := by
          unfold ints; rw [List.length_append, List.map_append]; exact hown'
        go_roundw
        case rel => exact ⟨k + 1, xs ++ [z], by go_num, by omega, by rw [List.length_append, hxl]; rfl, HX2, hown3, hbw3⟩
        case measure => simp [intOf]; omega
      · obtain rfl : k = N := by omega
        have HE : Hid (xs = R) := by
          show _ = _
          rw [HX.out, HNU.out, List.take_of_length_le (by rw [HL.out]; exact Nat.le_refl _)]
        clear HX
        go_wp2_with fail
        go_ret
        refine ⟨_, rfl, ?_, hb1.trans (hbr.mono hb1.size)⟩
        rw [← HE.out]
        exact (own_nums hown (by intro e; rw [e] at hxl; exact absurd hxl (by show 0 ≠ _; omega))).mono fun j _ hj => Nat.le_trans hb1.size hj
end Go.Proofs.YtbpnnnjbddjboaaDoor
