/-
  (Part).bytes: a control, an escape, a rune: what the call returns.
-/
import Derived.Test.YtbpnnnjbddjboaaDoorPsDigits
import Derived.Test.YtbpnnnjbddjboaaDoorPsPrtN
import Derived.Test.YtbpnnnjbddjboaaDoorPutC
namespace Go.Proofs.YtbpnnnjbddjboaaDoor
open Go.RowKit

/-- The box of the result, behind the part's box and ahead of one more block. -/
theorem res3 (w : World) (p R : Array Value) (P T : TypeId) (o : Obj) : (∀ i, (((w.alloc (.cells p P)).alloc (.cells R T)).alloc o).cell? ⟨w.heap.size + 1, i, none⟩ = R[i]?) ∧ Below w.heap.size w (((w.alloc (.cells p P)).alloc (.cells R T)).alloc o) := by
  have h1 := heap_alloc_new (w.alloc (.cells p P)) (.cells R T)
  rw [World.size_alloc] at h1
  refine ⟨fun i => ?_, (((Below.refl _ w).alloc (Nat.le_refl _) _).alloc (by rw [World.size_alloc]; omega) _).alloc (by rw [World.size_alloc, World.size_alloc]; omega) _⟩
  rw [World.cell?_alloc_old _ _ _ (by show w.heap.size + 1 ≠ ((w.alloc _).alloc _).heap.size; rw [World.size_alloc, World.size_alloc]; omega), cell_of_row _ _ _ _ _ (0, 0) h1]

set_option maxRecDepth 20000 in
set_option maxHeartbeats 4000000 in
theorem bytes_ctl (k r n : Int) (pa : Option Addr) (pn pc : Nat) (w : World) (k0 : 0 ≤ k) (n0 : 0 ≤ n) (h : k % 4 = 1) (C : Nat) (hC : C = if (n % 32).toNat = 27 then 127 else (n % 32).toNat) :
    Calls Tryd.prog 12 #[.agg #[.int .u8 k, .int .i32 r, .int .u8 n, .slice pa pn pc]] w fun e w' => e = .returned (.tuple #[.string (oneB C), .agg #[.int .i64 2, .int .i32 (C : Int), .slice none 0 0, .int .u8 0]]) ∧ Below w.heap.size w w' := by
  have v1 : Int.tmod k 4 = 1 := by rw [Int.tmod_eq_emod_of_nonneg k0]; exact h
  obtain ⟨D, hD⟩ : ∃ D : Nat, n % 32 = (D : Int) := ⟨(n % 32).toNat, by omega⟩
  have v2 : Int.tmod n 32 = (D : Int) := by rw [Int.tmod_eq_emod_of_nonneg n0]; exact hD
  have hD31 : D ≤ 31 := by omega
  have hDn : (n % 32).toNat = D := by omega
  rw [hDn] at hC
  by_cases h27 : D = 27
  · rw [if_pos h27] at hC
    subst hC h27
    have cv := convP_new [127] ((w.alloc (.cells #[.int .u8 k, .int .i32 r, .int .u8 n, .slice pa pn pc] 40)).alloc (.cells #[.int .i64 0, .int .i32 0, .slice none 0 0, .int .u8 0] 34))
    simp only [List.map_cons, List.map_nil, List.length_cons, List.length_nil, World.size_alloc, Nat.zero_add] at cv
    rw [show strOfNums [127] = oneB 127 from rfl] at cv
    clear hDn
    go_enter Tryd.func12, Tryd.ntmps12
    go_wp2_with fail
    obtain ⟨y, hbw⟩ := res3 w #[.int .u8 k, .int .i32 r, .int .u8 n, .slice pa pn pc] #[.int .i64 2, .int .i32 127, .slice none 0 0, .int .u8 0] 40 34 (.cells #[.int .u8 127] 5)
    have y0 := y 0
    have y1 := y 1
    have y2 := y 2
    have y3 := y 3
    simp only [List.getElem?_toArray, List.getElem?_cons_zero, List.getElem?_cons_succ] at y0 y1 y2 y3
    exact bodyPost_ret (v := .tuple #[.string (oneB 127), .agg #[.int .i64 2, .int .i32 127, .slice none 0 0, .int .u8 0]]) (by simp [results, Tryd.results12, go_sem, y0, y1, y2, y3]) rfl ⟨rfl, hbw⟩
  · rw [if_neg h27] at hC
    subst hC
    have e27 : ((C : Int) == 27) = false := beq_false_of_ne (by omega)
    have cv := convP_new [(C : Int)] ((w.alloc (.cells #[.int .u8 k, .int .i32 r, .int .u8 n, .slice pa pn pc] 40)).alloc (.cells #[.int .i64 0, .int .i32 0, .slice none 0 0, .int .u8 0] 34))
    simp only [List.map_cons, List.map_nil, List.length_cons, List.length_nil, World.size_alloc, Nat.zero_add] at cv
    rw [show strOfNums [(C : Int)] = oneB C from rfl] at cv
    clear hDn
    go_enter Tryd.func12, Tryd.ntmps12
    go_wp2_with fail
    obtain ⟨y, hbw⟩ := res3 w #[.int .u8 k, .int .i32 r, .int .u8 n, .slice pa pn pc] #[.int .i64 2, .int .i32 (C : Int), .slice none 0 0, .int .u8 0] 40 34 (.cells #[.int .u8 (C : Int)] 5)
    have y0 := y 0
    have y1 := y 1
    have y2 := y 2
    have y3 := y 3
    simp only [List.getElem?_toArray, List.getElem?_cons_zero, List.getElem?_cons_succ] at y0 y1 y2 y3
    exact bodyPost_ret (v := .tuple #[.string (oneB C), .agg #[.int .i64 2, .int .i32 (C : Int), .slice none 0 0, .int .u8 0]]) (by simp [results, Tryd.results12, go_sem, y0, y1, y2, y3]) rfl ⟨rfl, hbw⟩

set_option maxRecDepth 20000 in
set_option maxHeartbeats 4000000 in
theorem bytes_esc (k r n : Int) (pa : Option Addr) (pn pc : Nat) (w : World) (k0 : 0 ≤ k) (n0 : 0 ≤ n) (h : k % 4 = 3) (C : Nat) (hC : C = if 48 + (n % 79).toNat = 91 then 99 else 48 + (n % 79).toNat) :
    Calls Tryd.prog 12 #[.agg #[.int .u8 k, .int .i32 r, .int .u8 n, .slice pa pn pc]] w fun e w' => e = .returned (.tuple #[.string ⟨#[27, UInt8.ofNat C]⟩, .agg #[.int .i64 4, .int .i32 0, .slice none 0 0, .int .u8 (C : Int)]]) ∧ Below w.heap.size w w' := by
  have v1 : Int.tmod k 4 = 3 := by rw [Int.tmod_eq_emod_of_nonneg k0]; exact h
  obtain ⟨D, hD⟩ : ∃ D : Nat, n % 79 = (D : Int) := ⟨(n % 79).toNat, by omega⟩
  have v2 : Int.tmod n 79 = (D : Int) := by rw [Int.tmod_eq_emod_of_nonneg n0]; exact hD
  have hD78 : D ≤ 78 := by omega
  have hDn : (n % 79).toNat = D := by omega
  rw [hDn] at hC
  have HJ : ∀ c : Nat, (⟨#[27]⟩ : ByteArray) ++ oneB c = ⟨#[27, UInt8.ofNat c]⟩ := fun c => by
    apply ByteArray.ext
    apply Array.toList_inj.1
    rw [app_data]
    rfl
  by_cases h27 : 48 + D = 91
  · rw [if_pos h27] at hC
    obtain rfl : D = 43 := by omega
    subst hC
    have e4 : (oneB 99).size = 1 := rfl
    have HJ2 := Lib.hid (HJ 99)
    have cv := convP_new [99] ((w.alloc (.cells #[.int .u8 k, .int .i32 r, .int .u8 n, .slice pa pn pc] 40)).alloc (.cells #[.int .i64 0, .int .i32 0, .slice none 0 0, .int .u8 0] 34))
    simp only [List.map_cons, List.map_nil, List.length_cons, List.length_nil, World.size_alloc, Nat.zero_add] at cv
    rw [show strOfNums [99] = oneB 99 from rfl] at cv
    clear hDn HJ h27
    go_enter Tryd.func12, Tryd.ntmps12
    go_wp2_with fail
    rw [show (⟨#[27, UInt8.ofNat 99]⟩ : ByteArray) = ⟨#[27]⟩ ++ oneB 99 from HJ2.out.symm]
    obtain ⟨y, hbw⟩ := res3 w #[.int .u8 k, .int .i32 r, .int .u8 n, .slice pa pn pc] #[.int .i64 4, .int .i32 0, .slice none 0 0, .int .u8 99] 40 34 (.cells #[.int .u8 99] 5)
    have y0 := y 0
    have y1 := y 1
    have y2 := y 2
    have y3 := y 3
    simp only [List.getElem?_toArray, List.getElem?_cons_zero, List.getElem?_cons_succ] at y0 y1 y2 y3
    exact bodyPost_ret (v := .tuple #[.string (⟨#[27]⟩ ++ oneB 99), .agg #[.int .i64 4, .int .i32 0, .slice none 0 0, .int .u8 99]]) (by simp [results, Tryd.results12, go_sem, y0, y1, y2, y3]) rfl ⟨rfl, hbw⟩
  · rw [if_neg h27] at hC
    have e27 : ((48 + (D : Int)) == 91) = false := beq_false_of_ne (by omega)
    have e4 : (oneB (48 + D)).size = 1 := rfl
    have HJ2 := Lib.hid (HJ (48 + D))
    have HCC : Hid ((C : Int) = 48 + (D : Int)) := by show _ = _; omega
    have cv := convP_new [48 + (D : Int)] ((w.alloc (.cells #[.int .u8 k, .int .i32 r, .int .u8 n, .slice pa pn pc] 40)).alloc (.cells #[.int .i64 0, .int .i32 0, .slice none 0 0, .int .u8 0] 34))
    simp only [List.map_cons, List.map_nil, List.length_cons, List.length_nil, World.size_alloc, Nat.zero_add] at cv
    rw [show strOfNums [48 + (D : Int)] = oneB (48 + D) from rfl] at cv
    rw [hC]
    have HCD : Hid (((48 + D : Nat) : Int) = 48 + (D : Int)) := by show _ = _; omega
    rw [HCD.out]
    clear hDn HJ h27 hC HCC
    go_enter Tryd.func12, Tryd.ntmps12
    go_wp2_with fail
    rw [show (⟨#[27, UInt8.ofNat (48 + D)]⟩ : ByteArray) = ⟨#[27]⟩ ++ oneB (48 + D) from HJ2.out.symm]
    obtain ⟨y, hbw⟩ := res3 w #[.int .u8 k, .int .i32 r, .int .u8 n, .slice pa pn pc] #[.int .i64 4, .int .i32 0, .slice none 0 0, .int .u8 (48 + (D : Int))] 40 34 (.cells #[.int .u8 (48 + (D : Int))] 5)
    have y0 := y 0
    have y1 := y 1
    have y2 := y 2
    have y3 := y 3
    simp only [List.getElem?_toArray, List.getElem?_cons_zero, List.getElem?_cons_succ] at y0 y1 y2 y3
    exact bodyPost_ret (v := .tuple #[.string (⟨#[27]⟩ ++ oneB (48 + D)), .agg #[.int .i64 4, .int .i32 0, .slice none 0 0, .int .u8 (48 + (D : Int))]]) (by simp [results, Tryd.results12, go_sem, y0, y1, y2, y3]) rfl ⟨rfl, hbw⟩

theorem res2 (w : World) (p R : Array Value) (P T : TypeId) : (∀ i, ((w.alloc (.cells p P)).alloc (.cells R T)).cell? ⟨w.heap.size + 1, i, none⟩ = R[i]?) ∧ Below w.heap.size w ((w.alloc (.cells p P)).alloc (.cells R T)) := by
  have h1 := heap_alloc_new (w.alloc (.cells p P)) (.cells R T)
  rw [World.size_alloc] at h1
  exact ⟨fun i => by rw [cell_of_row _ _ _ _ _ (0, 0) h1], ((Below.refl _ w).alloc (Nat.le_refl _) _).alloc (by rw [World.size_alloc]; omega) _⟩

set_option maxRecDepth 20000 in
set_option maxHeartbeats 4000000 in
theorem bytes_rune_yes (k r n : Int) (pa : Option Addr) (pn pc : Nat) (w : World) (k0 : 0 ≤ k) (_n0 : 0 ≤ n) (h : k % 4 = 0) (hv : Lib.validRune r = true) (h32 : 32 ≤ r) (h127 : r ≠ 127) :
    Calls Tryd.prog 12 #[.agg #[.int .u8 k, .int .i32 r, .int .u8 n, .slice pa pn pc]] w fun e w' => e = .returned (.tuple #[.string (putB r), .agg #[.int .i64 1, .int .i32 r, .slice none 0 0, .int .u8 0]]) ∧ Below w.heap.size w w' := by
  have v1 : Int.tmod k 4 = 0 := by rw [Int.tmod_eq_emod_of_nonneg k0]; exact h
  have HPU := Lib.hid (fun W => putB_any r W)
  have hsz : 1 ≤ (putB r).size := by
    have h1 : 0 ≤ r ∧ r < 55296 ∨ 57343 < r ∧ r ≤ 1114111 := of_decide_eq_true hv
    obtain ⟨R, rfl⟩ := Int.eq_ofNat_of_zero_le (show 0 ≤ r by omega)
    exact (dec_put R (by omega)).2.1
  obtain ⟨S, hS⟩ : ∃ S, putB r = S := ⟨_, rfl⟩
  rw [hS] at HPU hsz ⊢
  have n1 : S.toList.isEmpty = false := by
    cases h2 : S.toList with
    | nil => rw [Lib.toList_data] at h2; have h3 := Lib.size_eq S; rw [h2] at h3; have h4 : S.size = 0 := h3; omega
    | cons _ _ => rfl
  have n2 : (S.toList == []) = false := by
    cases h2 : S.toList with
    | nil => rw [h2] at n1; cases n1
    | cons _ _ => rfl
  have e127 : (r == 127) = false := beq_false_of_ne h127
  clear hS hv h127
  go_enter Tryd.func12, Tryd.ntmps12
  go_wp2_with fail
  go_fit (HPU.out _)
  rintro e w1 ⟨rfl, rfl⟩
  go_wp2_with fail
  go_fit (HPU.out _)
  rintro e w1 ⟨rfl, rfl⟩
  go_wp2_with fail
  obtain ⟨y, hbw⟩ := res2 w #[.int .u8 k, .int .i32 r, .int .u8 n, .slice pa pn pc] #[.int .i64 1, .int .i32 r, .slice none 0 0, .int .u8 0] 40 34
  have y0 := y 0
  have y1 := y 1
  have y2 := y 2
  have y3 := y 3
  simp only [List.getElem?_toArray, List.getElem?_cons_zero, List.getElem?_cons_succ] at y0 y1 y2 y3
  exact bodyPost_ret (v := .tuple #[.string S, .agg #[.int .i64 1, .int .i32 r, .slice none 0 0, .int .u8 0]]) (by simp [results, Tryd.results12, go_sem, y0, y1, y2, y3]) rfl ⟨rfl, hbw⟩

set_option maxRecDepth 20000 in
set_option maxHeartbeats 4000000 in
theorem bytes_rune_no (k r n : Int) (pa : Option Addr) (pn pc : Nat) (w : World) (k0 : 0 ≤ k) (_n0 : 0 ≤ n) (h : k % 4 = 0) (hv : ¬ (Lib.validRune r = true ∧ 32 ≤ r ∧ r ≠ 127)) :
    Calls Tryd.prog 12 #[.agg #[.int .u8 k, .int .i32 r, .int .u8 n, .slice pa pn pc]] w fun e w' => e = .returned (.tuple #[.string (putB 26085), .agg #[.int .i64 1, .int .i32 26085, .slice none 0 0, .int .u8 0]]) ∧ Below w.heap.size w w' := by
  have v1 : Int.tmod k 4 = 0 := by rw [Int.tmod_eq_emod_of_nonneg k0]; exact h
  have HPU := Lib.hid (fun W => putB_any r W)
  have HP2 := Lib.hid (fun W => putB_any 26085 W)
  cases hvr : Lib.validRune r with
  | false =>
    have he : putB r = ⟨#[]⟩ := by unfold putB; rw [if_neg (by rw [hvr]; decide)]
    rw [he] at HPU
    clear he hv hvr
    go_enter Tryd.func12, Tryd.ntmps12
    go_wp2_with fail
    go_fit (HPU.out _)
    rintro e w1 ⟨rfl, rfl⟩
    go_wp2_with fail
    go_fit (HP2.out _)
    rintro e w1 ⟨rfl, rfl⟩
    go_wp2_with fail
    obtain ⟨y, hbw⟩ := res2 w #[.int .u8 k, .int .i32 r, .int .u8 n, .slice pa pn pc] #[.int .i64 1, .int .i32 26085, .slice none 0 0, .int .u8 0] 40 34
    have y0 := y 0
    have y1 := y 1
    have y2 := y 2
    have y3 := y 3
    simp only [List.getElem?_toArray, List.getElem?_cons_zero, List.getElem?_cons_succ] at y0 y1 y2 y3
    exact bodyPost_ret (v := .tuple #[.string (putB 26085), .agg #[.int .i64 1, .int .i32 26085, .slice none 0 0, .int .u8 0]]) (by simp [results, Tryd.results12, go_sem, y0, y1, y2, y3]) rfl ⟨rfl, hbw⟩
  | true =>
    have hsz : 1 ≤ (putB r).size := by
      have h1 : 0 ≤ r ∧ r < 55296 ∨ 57343 < r ∧ r ≤ 1114111 := of_decide_eq_true hvr
      obtain ⟨R, rfl⟩ := Int.eq_ofNat_of_zero_le (show 0 ≤ r by omega)
      exact (dec_put R (by omega)).2.1
    obtain ⟨S, hS⟩ : ∃ S, putB r = S := ⟨_, rfl⟩
    rw [hS] at HPU hsz
    have n1 : S.toList.isEmpty = false := by
      cases h2 : S.toList with
      | nil => rw [Lib.toList_data] at h2; have h3 := Lib.size_eq S; rw [h2] at h3; have h4 : S.size = 0 := h3; omega
      | cons _ _ => rfl
    have n2 : (S.toList == []) = false := by
      cases h2 : S.toList with
      | nil => rw [h2] at n1; cases n1
      | cons _ _ => rfl
    by_cases h32 : r < 32
    · clear hS hv hvr
      go_enter Tryd.func12, Tryd.ntmps12
      go_wp2_with fail
      go_fit (HPU.out _)
      rintro e w1 ⟨rfl, rfl⟩
      go_wp2_with fail
      go_fit (HP2.out _)
      rintro e w1 ⟨rfl, rfl⟩
      go_wp2_with fail
      obtain ⟨y, hbw⟩ := res2 w #[.int .u8 k, .int .i32 r, .int .u8 n, .slice pa pn pc] #[.int .i64 1, .int .i32 26085, .slice none 0 0, .int .u8 0] 40 34
      have y0 := y 0
      have y1 := y 1
      have y2 := y 2
      have y3 := y 3
      simp only [List.getElem?_toArray, List.getElem?_cons_zero, List.getElem?_cons_succ] at y0 y1 y2 y3
      exact bodyPost_ret (v := .tuple #[.string (putB 26085), .agg #[.int .i64 1, .int .i32 26085, .slice none 0 0, .int .u8 0]]) (by simp [results, Tryd.results12, go_sem, y0, y1, y2, y3]) rfl ⟨rfl, hbw⟩
    · have h127 : r = 127 := Decidable.byContradiction fun h => hv ⟨hvr, by omega, h⟩
      subst h127
      clear hS hv hvr
      go_enter Tryd.func12, Tryd.ntmps12
      go_wp2_with fail
      go_fit (HPU.out _)
      rintro e w1 ⟨rfl, rfl⟩
      go_wp2_with fail
      go_fit (HP2.out _)
      rintro e w1 ⟨rfl, rfl⟩
      go_wp2_with fail
      obtain ⟨y, hbw⟩ := res2 w #[.int .u8 k, .int .i32 127, .int .u8 n, .slice pa pn pc] #[.int .i64 1, .int .i32 26085, .slice none 0 0, .int .u8 0] 40 34
      have y0 := y 0
      have y1 := y 1
      have y2 := y 2
      have y3 := y 3
      simp only [List.getElem?_toArray, List.getElem?_cons_zero, List.getElem?_cons_succ] at y0 y1 y2 y3
      exact bodyPost_ret (v := .tuple #[.string (putB 26085), .agg #[.int .i64 1, .int .i32 26085, .slice none 0 0, .int .u8 0]]) (by simp [results, Tryd.results12, go_sem, y0, y1, y2, y3]) rfl ⟨rfl, hbw⟩
end Go.Proofs.YtbpnnnjbddjboaaDoor
