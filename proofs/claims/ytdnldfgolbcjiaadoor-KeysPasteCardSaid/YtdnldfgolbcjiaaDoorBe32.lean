/-
  limnerlaw09.pressed: the chapter's examples come out as it says.
-/
import Derived.Test.YtdnldfgolbcjiaaDoorBe31
namespace Go.Proofs.YtdnldfgolbcjiaaDoor
open Go.RowKit

theorem lit_keys (V : World) (l : List Ke) : KeysW (fun k => k = V.heap.size) (V.alloc (.cells (kesC l).toArray 40)) (.slice (some ⟨V.heap.size, 0, none⟩) l.length l.length) l := by
  have := row_new (w := V) (cs := kesC l) (zs := []) (n := l.length) (cap := l.length) (e := 40) (Nat.le_refl _)
  rw [List.append_nil] at this
  exact this
theorem ex_any (V : World) (s : ByteArray) (tick : Bool) (l : List Ke) (hT : TabK V.heap.size V) (hs : s.size ≤ 2000) (hl : l.length ≤ 1000) (h : toldK s tick = l) :
    Calls Tryd.prog 21 #[.string s, .bool tick, .slice (some ⟨V.heap.size, 0, none⟩) l.length l.length] (V.alloc (.cells (kesC l).toArray 40)) fun e w' => e = .returned (.bool true) ∧ Below V.heap.size V w' := by
  have hb := alloc_below V (.cells (kesC l).toArray 40)
  refine (kis_any s tick _ l _ ((hT.below hb).up hb.size) hs (lit_keys V l) hl).mono ?_
  rintro e w' ⟨rfl, hb2⟩
  rw [decide_eq_true h]
  exact ⟨rfl, hb.trans (hb2.mono hb.size)⟩
set_option maxRecDepth 10000 in
set_option maxHeartbeats 8000000 in
theorem pressed_any (w : World) (hT : TabK w.heap.size w) :
    Calls Tryd.prog 10 #[] w fun e w' => e = .returned (.bool true) ∧ Below w.heap.size w w' := by
  obtain ⟨W3, hW3⟩ : ∃ W3, ((w.alloc (.cells #[.int .i64 5, .int .i32 0, .string ⟨#[]⟩] 40)).alloc (.cells #[.int .i64 1, .int .i32 97, .string ⟨#[]⟩] 40)).alloc (.cells #[.int .i64 0, .int .i32 0, .string ⟨#[195]⟩] 40) = W3 := ⟨_, rfl⟩
  have hb0 : Below w.heap.size w W3 := by
    rw [← hW3]
    exact (((Below.refl _ w).alloc (Nat.le_refl _) _).alloc (by rw [alloc_size]; omega) _).alloc (by rw [alloc_size, alloc_size]; omega) _
  have h1 : keyB W3 w.heap.size (.int .i64 5) (.int .i32 0) (.string ⟨#[]⟩) := by
    rw [← hW3]
    exact ((alloc_below _ _).block _ (by rw [alloc_size, alloc_size]; omega)).trans (((alloc_below _ _).block _ (by rw [alloc_size]; omega)).trans (heap_alloc_new w _))
  have h2 : keyB W3 (w.heap.size + 1) (.int .i64 1) (.int .i32 97) (.string ⟨#[]⟩) := by
    rw [← hW3]
    refine ((alloc_below _ _).block _ (by rw [alloc_size, alloc_size]; omega)).trans ?_
    have := heap_alloc_new (w.alloc (.cells #[.int .i64 5, .int .i32 0, .string ⟨#[]⟩] 40)) (.cells #[.int .i64 1, .int .i32 97, .string ⟨#[]⟩] 40)
    rw [alloc_size] at this
    exact this
  have h3 : keyB W3 (w.heap.size + 1 + 1) (.int .i64 0) (.int .i32 0) (.string ⟨#[195]⟩) := by
    rw [← hW3]
    have := heap_alloc_new ((w.alloc (.cells #[.int .i64 5, .int .i32 0, .string ⟨#[]⟩] 40)).alloc (.cells #[.int .i64 1, .int .i32 97, .string ⟨#[]⟩] 40)) (.cells #[.int .i64 0, .int .i32 0, .string ⟨#[195]⟩] 40)
    rw [alloc_size, alloc_size] at this
    exact this
  have hz : W3.heap.size = w.heap.size + 1 + 1 + 1 := by rw [← hW3, alloc_size, alloc_size, alloc_size]
  have HBX : Hid (∀ V, Below W3.heap.size W3 V → keyB V w.heap.size (.int .i64 5) (.int .i32 0) (.string ⟨#[]⟩) ∧ keyB V (w.heap.size + 1) (.int .i64 1) (.int .i32 97) (.string ⟨#[]⟩) ∧ keyB V (w.heap.size + 1 + 1) (.int .i64 0) (.int .i32 0) (.string ⟨#[195]⟩)) :=
    fun V hV => ⟨(hV.block _ (by omega)).trans h1, (hV.block _ (by omega)).trans h2, (hV.block _ (by omega)).trans h3⟩
  have hTV : ∀ V, Below W3.heap.size W3 V → TabK V.heap.size V := fun V hV => ((hT.below hb0).below hV).up (Nat.le_trans hb0.size hV.size)
  have HB0 := Lib.hid hb0
  have HC1 : Hid (∀ V, Below W3.heap.size W3 V → Calls Tryd.prog 21 #[.string ⟨#[97, 195, 169, 13, 1, 0]⟩, .bool false, .slice (some ⟨V.heap.size, 0, none⟩) 5 5] (V.alloc (.cells #[.int .i64 1, .int .i32 97, .string ⟨#[]⟩, .int .i64 1, .int .i32 233, .string ⟨#[]⟩, .int .i64 2, .int .i32 0, .string ⟨#[]⟩, .int .i64 6, .int .i32 97, .string ⟨#[]⟩, .int .i64 6, .int .i32 64, .string ⟨#[]⟩] 40)) fun e w' => e = .returned (.bool true) ∧ Below V.heap.size V w') :=
    fun V hV => ex_any V ⟨#[97, 195, 169, 13, 1, 0]⟩ false [(1, 97, ⟨#[]⟩), (1, 233, ⟨#[]⟩), (2, 0, ⟨#[]⟩), (6, 97, ⟨#[]⟩), (6, 64, ⟨#[]⟩)] (hTV V hV) (by decide) (by decide) told1
  have HC2 : Hid (∀ V, Below W3.heap.size W3 V → Calls Tryd.prog 21 #[.string ⟨#[27]⟩, .bool true, .slice (some ⟨V.heap.size, 0, none⟩) 1 1] (V.alloc (.cells #[.int .i64 5, .int .i32 0, .string ⟨#[]⟩] 40)) fun e w' => e = .returned (.bool true) ∧ Below V.heap.size V w') :=
    fun V hV => ex_any V ⟨#[27]⟩ true [(5, 0, ⟨#[]⟩)] (hTV V hV) (by decide) (by decide) told2
  have HC3 : Hid (∀ V, Below W3.heap.size W3 V → Calls Tryd.prog 21 #[.string ⟨#[27, 120]⟩, .bool false, .slice (some ⟨V.heap.size, 0, none⟩) 1 1] (V.alloc (.cells #[.int .i64 7, .int .i32 120, .string ⟨#[]⟩] 40)) fun e w' => e = .returned (.bool true) ∧ Below V.heap.size V w') :=
    fun V hV => ex_any V ⟨#[27, 120]⟩ false [(7, 120, ⟨#[]⟩)] (hTV V hV) (by decide) (by decide) told3
  have HC4 : Hid (∀ V, Below W3.heap.size W3 V → Calls Tryd.prog 21 #[.string ⟨#[27, 27]⟩, .bool true, .slice (some ⟨V.heap.size, 0, none⟩) 2 2] (V.alloc (.cells #[.int .i64 5, .int .i32 0, .string ⟨#[]⟩, .int .i64 5, .int .i32 0, .string ⟨#[]⟩] 40)) fun e w' => e = .returned (.bool true) ∧ Below V.heap.size V w') :=
    fun V hV => ex_any V ⟨#[27, 27]⟩ true [(5, 0, ⟨#[]⟩), (5, 0, ⟨#[]⟩)] (hTV V hV) (by decide) (by decide) told4
  have HC5 : Hid (∀ V, Below W3.heap.size W3 V → Calls Tryd.prog 21 #[.string ⟨#[27, 91, 65]⟩, .bool false, .slice (some ⟨V.heap.size, 0, none⟩) 1 1] (V.alloc (.cells #[.int .i64 8, .int .i32 0, .string ⟨#[]⟩] 40)) fun e w' => e = .returned (.bool true) ∧ Below V.heap.size V w') :=
    fun V hV => ex_any V ⟨#[27, 91, 65]⟩ false [(8, 0, ⟨#[]⟩)] (hTV V hV) (by decide) (by decide) told5
  have HC6 : Hid (∀ V, Below W3.heap.size W3 V → Calls Tryd.prog 21 #[.string ⟨#[27, 79, 72]⟩, .bool false, .slice (some ⟨V.heap.size, 0, none⟩) 1 1] (V.alloc (.cells #[.int .i64 12, .int .i32 0, .string ⟨#[]⟩] 40)) fun e w' => e = .returned (.bool true) ∧ Below V.heap.size V w') :=
    fun V hV => ex_any V ⟨#[27, 79, 72]⟩ false [(12, 0, ⟨#[]⟩)] (hTV V hV) (by decide) (by decide) told6
  have HC7 : Hid (∀ V, Below W3.heap.size W3 V → Calls Tryd.prog 21 #[.string ⟨#[27, 91, 51, 126]⟩, .bool false, .slice (some ⟨V.heap.size, 0, none⟩) 1 1] (V.alloc (.cells #[.int .i64 14, .int .i32 0, .string ⟨#[]⟩] 40)) fun e w' => e = .returned (.bool true) ∧ Below V.heap.size V w') :=
    fun V hV => ex_any V ⟨#[27, 91, 51, 126]⟩ false [(14, 0, ⟨#[]⟩)] (hTV V hV) (by decide) (by decide) told7
  have HC8 : Hid (∀ V, Below W3.heap.size W3 V → Calls Tryd.prog 21 #[.string ⟨#[27, 91, 57, 122]⟩, .bool false, .slice (some ⟨V.heap.size, 0, none⟩) 1 1] (V.alloc (.cells #[.int .i64 0, .int .i32 0, .string ⟨#[27, 91, 57, 122]⟩] 40)) fun e w' => e = .returned (.bool true) ∧ Below V.heap.size V w') :=
    fun V hV => ex_any V ⟨#[27, 91, 57, 122]⟩ false [(0, 0, ⟨#[27, 91, 57, 122]⟩)] (hTV V hV) (by decide) (by decide) told8
  have HC9 : Hid (∀ V, Below W3.heap.size W3 V → Calls Tryd.prog 21 #[.string ⟨#[27, 91, 50, 48, 48, 126, 97, 13, 1, 255, 27, 91, 50, 48, 49, 126]⟩, .bool false, .slice (some ⟨V.heap.size, 0, none⟩) 1 1] (V.alloc (.cells #[.int .i64 15, .int .i32 0, .string ⟨#[97, 10]⟩] 40)) fun e w' => e = .returned (.bool true) ∧ Below V.heap.size V w') :=
    fun V hV => ex_any V ⟨#[27, 91, 50, 48, 48, 126, 97, 13, 1, 255, 27, 91, 50, 48, 49, 126]⟩ false [(15, 0, ⟨#[97, 10]⟩)] (hTV V hV) (by decide) (by decide) told9
  have HC10 : Hid (∀ V, Below W3.heap.size W3 V → Calls Tryd.prog 21 #[.string ⟨#[195, 97]⟩, .bool false, .slice (some ⟨V.heap.size, 0, none⟩) 2 2] (V.alloc (.cells #[.int .i64 0, .int .i32 0, .string ⟨#[195]⟩, .int .i64 1, .int .i32 97, .string ⟨#[]⟩] 40)) fun e w' => e = .returned (.bool true) ∧ Below V.heap.size V w') :=
    fun V hV => ex_any V ⟨#[195, 97]⟩ false [(0, 0, ⟨#[195]⟩), (1, 97, ⟨#[]⟩)] (hTV V hV) (by decide) (by decide) told10
  have HC11 : Hid (∀ V, Below W3.heap.size W3 V → Calls Tryd.prog 21 #[.string ⟨#[195]⟩, .bool true, .slice (some ⟨V.heap.size, 0, none⟩) 1 1] (V.alloc (.cells #[.int .i64 0, .int .i32 0, .string ⟨#[195]⟩] 40)) fun e w' => e = .returned (.bool true) ∧ Below V.heap.size V w') :=
    fun V hV => ex_any V ⟨#[195]⟩ true [(0, 0, ⟨#[195]⟩)] (hTV V hV) (by decide) (by decide) told11
  have R0 := Below.refl W3.heap.size W3
  have hc1 := HC1.out W3 R0
  rw [hz] at hc1
  have HC1' := Lib.hid hc1
  have HZ := Lib.hid hz
  clear h1 h2 h3 hz hTV hb0 hT hc1
  subst hW3
  go_enter Tryd.func10, Tryd.ntmps10
  go_wp2_with fail
  go_fit HC1'.out
  rintro e V1 ⟨rfl, hb1⟩
  rw [← HZ.out] at hb1
  have R1 := Lib.hid hb1
  clear hb1 R0
  obtain ⟨x1, x2, x3⟩ := HBX.out _ R1.out
  obtain ⟨⟨a0, a1, a2⟩, _⟩ := x1.cells
  obtain ⟨⟨b0, b1, b2⟩, _⟩ := x2.cells
  obtain ⟨⟨d0, d1, d2⟩, _⟩ := x3.cells
  clear x1 x2 x3
  go_wp2_with fail
  go_fit (HC2.out _ R1.out)
  rintro e V2 ⟨rfl, hb2⟩
  have R2 := Lib.hid (R1.out.trans (hb2.mono R1.out.size))
  clear hb2 a0 a1 a2 b0 b1 b2 d0 d1 d2
  obtain ⟨x1, x2, x3⟩ := HBX.out _ R2.out
  obtain ⟨⟨a0, a1, a2⟩, _⟩ := x1.cells
  obtain ⟨⟨b0, b1, b2⟩, _⟩ := x2.cells
  obtain ⟨⟨d0, d1, d2⟩, _⟩ := x3.cells
  clear x1 x2 x3
  go_wp2_with fail
  go_fit (HC3.out _ R2.out)
  rintro e V3 ⟨rfl, hb3⟩
  have R3 := Lib.hid (R2.out.trans (hb3.mono R2.out.size))
  clear hb3 a0 a1 a2 b0 b1 b2 d0 d1 d2
  obtain ⟨x1, x2, x3⟩ := HBX.out _ R3.out
  obtain ⟨⟨a0, a1, a2⟩, _⟩ := x1.cells
  obtain ⟨⟨b0, b1, b2⟩, _⟩ := x2.cells
  obtain ⟨⟨d0, d1, d2⟩, _⟩ := x3.cells
  clear x1 x2 x3
  go_wp2_with fail
  go_fit (HC4.out _ R3.out)
  rintro e V4 ⟨rfl, hb4⟩
  have R4 := Lib.hid (R3.out.trans (hb4.mono R3.out.size))
  clear hb4 a0 a1 a2 b0 b1 b2 d0 d1 d2
  obtain ⟨x1, x2, x3⟩ := HBX.out _ R4.out
  obtain ⟨⟨a0, a1, a2⟩, _⟩ := x1.cells
  obtain ⟨⟨b0, b1, b2⟩, _⟩ := x2.cells
  obtain ⟨⟨d0, d1, d2⟩, _⟩ := x3.cells
  clear x1 x2 x3
  go_wp2_with fail
  go_fit (HC5.out _ R4.out)
  rintro e V5 ⟨rfl, hb5⟩
  have R5 := Lib.hid (R4.out.trans (hb5.mono R4.out.size))
  clear hb5 a0 a1 a2 b0 b1 b2 d0 d1 d2
  obtain ⟨x1, x2, x3⟩ := HBX.out _ R5.out
  obtain ⟨⟨a0, a1, a2⟩, _⟩ := x1.cells
  obtain ⟨⟨b0, b1, b2⟩, _⟩ := x2.cells
  obtain ⟨⟨d0, d1, d2⟩, _⟩ := x3.cells
  clear x1 x2 x3
  go_wp2_with fail
  go_fit (HC6.out _ R5.out)
  rintro e V6 ⟨rfl, hb6⟩
  have R6 := Lib.hid (R5.out.trans (hb6.mono R5.out.size))
  clear hb6 a0 a1 a2 b0 b1 b2 d0 d1 d2
  obtain ⟨x1, x2, x3⟩ := HBX.out _ R6.out
  obtain ⟨⟨a0, a1, a2⟩, _⟩ := x1.cells
  obtain ⟨⟨b0, b1, b2⟩, _⟩ := x2.cells
  obtain ⟨⟨d0, d1, d2⟩, _⟩ := x3.cells
  clear x1 x2 x3
  go_wp2_with fail
  go_fit (HC7.out _ R6.out)
  rintro e V7 ⟨rfl, hb7⟩
  have R7 := Lib.hid (R6.out.trans (hb7.mono R6.out.size))
  clear hb7 a0 a1 a2 b0 b1 b2 d0 d1 d2
  obtain ⟨x1, x2, x3⟩ := HBX.out _ R7.out
  obtain ⟨⟨a0, a1, a2⟩, _⟩ := x1.cells
  obtain ⟨⟨b0, b1, b2⟩, _⟩ := x2.cells
  obtain ⟨⟨d0, d1, d2⟩, _⟩ := x3.cells
  clear x1 x2 x3
  go_wp2_with fail
  go_fit (HC8.out _ R7.out)
  rintro e V8 ⟨rfl, hb8⟩
  have R8 := Lib.hid (R7.out.trans (hb8.mono R7.out.size))
  clear hb8 a0 a1 a2 b0 b1 b2 d0 d1 d2
  obtain ⟨x1, x2, x3⟩ := HBX.out _ R8.out
  obtain ⟨⟨a0, a1, a2⟩, _⟩ := x1.cells
  obtain ⟨⟨b0, b1, b2⟩, _⟩ := x2.cells
  obtain ⟨⟨d0, d1, d2⟩, _⟩ := x3.cells
  clear x1 x2 x3
  go_wp2_with fail
  go_fit (HC9.out _ R8.out)
  rintro e V9 ⟨rfl, hb9⟩
  have R9 := Lib.hid (R8.out.trans (hb9.mono R8.out.size))
  clear hb9 a0 a1 a2 b0 b1 b2 d0 d1 d2
  obtain ⟨x1, x2, x3⟩ := HBX.out _ R9.out
  obtain ⟨⟨a0, a1, a2⟩, _⟩ := x1.cells
  obtain ⟨⟨b0, b1, b2⟩, _⟩ := x2.cells
  obtain ⟨⟨d0, d1, d2⟩, _⟩ := x3.cells
  clear x1 x2 x3
  go_wp2_with fail
  go_fit (HC10.out _ R9.out)
  rintro e V10 ⟨rfl, hb10⟩
  have R10 := Lib.hid (R9.out.trans (hb10.mono R9.out.size))
  clear hb10 a0 a1 a2 b0 b1 b2 d0 d1 d2
  obtain ⟨x1, x2, x3⟩ := HBX.out _ R10.out
  obtain ⟨⟨a0, a1, a2⟩, _⟩ := x1.cells
  obtain ⟨⟨b0, b1, b2⟩, _⟩ := x2.cells
  obtain ⟨⟨d0, d1, d2⟩, _⟩ := x3.cells
  clear x1 x2 x3
  go_wp2_with fail
  go_fit (HC11.out _ R10.out)
  rintro e V11 ⟨rfl, hb11⟩
  have R11 := Lib.hid (R10.out.trans (hb11.mono R10.out.size))
  clear hb11 a0 a1 a2 b0 b1 b2 d0 d1 d2
  go_wp2_with fail
  go_ret
  exact ⟨rfl, HB0.out.trans (R11.out.mono HB0.out.size)⟩
end Go.Proofs.YtdnldfgolbcjiaaDoor
