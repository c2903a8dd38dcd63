/-
  limnerlaw07.asked: the chapter's examples: it returns true.
-/
import Derived.Test.YtbpnnnjbddjboaaDoorPsIs
namespace Go.Proofs.YtbpnnnjbddjboaaDoor
open Go.RowKit

theorem pex_1 : (runN .zero (bytesN ⟨#[97, 7, 195, 169]⟩)).2 = [(1, 97, [], 0), (2, 7, [], 0), (1, 233, [], 0)] := by decide +kernel
theorem pex_2 : (runN .zero (bytesN ⟨#[27, 91, 49, 59, 59, 50, 72]⟩)).2 = [(3, 0, [1, 0, 2], 72)] := by decide +kernel
theorem pex_3 : (runN .zero (bytesN ⟨#[27, 91, 109]⟩)).2 = [(3, 0, [], 109)] := by decide +kernel
theorem pex_4 : (runN .zero (bytesN ⟨#[27, 91, 63, 49, 104]⟩)).2 = [badA] := by decide +kernel
theorem pex_5 : (runN .zero (bytesN ⟨#[27, 99]⟩)).2 = [(4, 0, [], 99)] := by decide +kernel
theorem pex_6 : (runN .zero (bytesN ⟨#[226, 130, 97]⟩)).2 = [badA, (1, 97, [], 0)] := by decide +kernel
theorem pex_7 : (runN .zero (bytesN ⟨#[255]⟩)).2 = [badA] := by decide +kernel
theorem pex_8 : (runN .zero (bytesN ⟨#[27, 27]⟩)).2 = [badA] := by decide +kernel

/-- One of the calls: the bytes, the row that is laid just ahead of it. -/
theorem is_lit {W0 V : World} (s : ByteArray) (xs : List (Ac × Value)) (n : Nat) (cs : Array Value) (T : TypeId) (hP : LaidP W0) (hV : Below W0.heap.size W0 V) (hs : s.size ≤ 100000) (hn : xs.length = n) (hc : (xs.flatMap actC).toArray = cs) (hx : ∀ x ∈ xs, NumsW AnyP V x.2 x.1.2.2.1) (hr : (runN .zero (bytesN s)).2 = xs.map Prod.fst) :
    Calls Tryd.prog 13 #[.string s, .slice (some ⟨V.heap.size, 0, none⟩) n n] (V.alloc (.cells cs T)) fun e w' => e = .returned (.bool true) ∧ Below W0.heap.size W0 w' := by
  subst hn hc
  have hb : Below V.heap.size V (V.alloc (.cells (xs.flatMap actC).toArray T)) := (Below.refl _ _).alloc (Nat.le_refl _) _
  have hb0 := hV.trans (hb.mono hV.size)
  have hA : ActsW AnyP (V.alloc (.cells (xs.flatMap actC).toArray T)) (.slice (some ⟨V.heap.size, 0, none⟩) xs.length xs.length) (xs.map Prod.fst) := by
    refine ⟨xs, rfl, ?_, fun x hx' => (hx x hx').keep (keep_below _ hb)⟩
    rw [List.length_map]
    have := row_new (w := V) (cs := xs.flatMap actC) (zs := []) (n := xs.length) (cap := xs.length) (e := T) (Nat.le_refl _)
    rw [List.append_nil] at this
    exact RowV.any this fun _ _ => trivial
  refine (is_any s _ _ _ (hP.below hb0) hs hA).mono fun e u ⟨h1, h2⟩ => ⟨?_, hb0.trans (h2.mono hb0.size)⟩
  rw [h1, hr]
  congr 2
  exact decide_eq_true rfl
theorem nums_three (V : World) (T : TypeId) : NumsW AnyP (V.alloc (.cells #[.int .i64 1, .int .i64 0, .int .i64 2] T)) (.slice (some ⟨V.heap.size, 0, none⟩) 3 3) [1, 0, 2] := by
  refine ⟨?_, fun h => by cases h⟩
  have := row_new (w := V) (cs := ints [1, 0, 2]) (zs := []) (n := 3) (cap := 3) (e := T) (Nat.le_refl _)
  rw [List.append_nil] at this
  exact RowV.any this fun _ _ => trivial

theorem ask_1 {W0 V : World} (hP : LaidP W0) (hV : Below W0.heap.size W0 V) : Calls Tryd.prog 13 #[.string ⟨#[97, 7, 195, 169]⟩, .slice (some ⟨V.heap.size, 0, none⟩) 3 3] (V.alloc (.cells #[.int .i64 1, .int .i32 97, .slice none 0 0, .int .u8 0, .int .i64 2, .int .i32 7, .slice none 0 0, .int .u8 0, .int .i64 1, .int .i32 233, .slice none 0 0, .int .u8 0] 34)) fun e w' => e = .returned (.bool true) ∧ Below W0.heap.size W0 w' := is_lit ⟨#[97, 7, 195, 169]⟩ [((1, 97, [], 0), .slice none 0 0), ((2, 7, [], 0), .slice none 0 0), ((1, 233, [], 0), .slice none 0 0)] 3 _ _ hP hV (by decide) rfl rfl (fun x hx => by simp only [List.mem_cons, List.not_mem_nil, or_false] at hx; rcases hx with (rfl | rfl | rfl) <;> exact NumsW.nil _ _) pex_1
theorem ask_2 {W0 V : World} (hP : LaidP W0) (hV : Below W0.heap.size W0 V) : Calls Tryd.prog 13 #[.string ⟨#[27, 91, 49, 59, 59, 50, 72]⟩, .slice (some ⟨V.heap.size + 1, 0, none⟩) 1 1] ((V.alloc (.cells #[.int .i64 1, .int .i64 0, .int .i64 2] 3)).alloc (.cells #[.int .i64 3, .int .i32 0, .slice (some ⟨V.heap.size, 0, none⟩) 3 3, .int .u8 72] 34)) fun e w' => e = .returned (.bool true) ∧ Below W0.heap.size W0 w' := by
  have h := is_lit (V := V.alloc (.cells #[.int .i64 1, .int .i64 0, .int .i64 2] 3)) ⟨#[27, 91, 49, 59, 59, 50, 72]⟩ [((3, 0, [1, 0, 2], 72), .slice (some ⟨V.heap.size, 0, none⟩) 3 3)] 1 _ 34 hP (hV.alloc hV.size _) (by decide) rfl rfl (fun x hx => by simp only [List.mem_cons, List.not_mem_nil, or_false] at hx; subst hx; exact nums_three V _) pex_2
  rw [World.size_alloc] at h
  exact h
theorem ask_3 {W0 V : World} (hP : LaidP W0) (hV : Below W0.heap.size W0 V) : Calls Tryd.prog 13 #[.string ⟨#[27, 91, 109]⟩, .slice (some ⟨V.heap.size, 0, none⟩) 1 1] (V.alloc (.cells #[.int .i64 3, .int .i32 0, .slice none 0 0, .int .u8 109] 34)) fun e w' => e = .returned (.bool true) ∧ Below W0.heap.size W0 w' := is_lit ⟨#[27, 91, 109]⟩ [((3, 0, [], 109), .slice none 0 0)] 1 _ _ hP hV (by decide) rfl rfl (fun x hx => by simp only [List.mem_cons, List.not_mem_nil, or_false] at hx; subst hx; exact NumsW.nil _ _) pex_3
theorem ask_4 {W0 V : World} (hP : LaidP W0) (hV : Below W0.heap.size W0 V) : Calls Tryd.prog 13 #[.string ⟨#[27, 91, 63, 49, 104]⟩, .slice (some ⟨V.heap.size, 0, none⟩) 1 1] (V.alloc (.cells #[.int .i64 5, .int .i32 0, .slice none 0 0, .int .u8 0] 34)) fun e w' => e = .returned (.bool true) ∧ Below W0.heap.size W0 w' := is_lit ⟨#[27, 91, 63, 49, 104]⟩ [(badA, .slice none 0 0)] 1 _ _ hP hV (by decide) rfl rfl (fun x hx => by simp only [List.mem_cons, List.not_mem_nil, or_false] at hx; subst hx; exact NumsW.nil _ _) pex_4
theorem ask_5 {W0 V : World} (hP : LaidP W0) (hV : Below W0.heap.size W0 V) : Calls Tryd.prog 13 #[.string ⟨#[27, 99]⟩, .slice (some ⟨V.heap.size, 0, none⟩) 1 1] (V.alloc (.cells #[.int .i64 4, .int .i32 0, .slice none 0 0, .int .u8 99] 34)) fun e w' => e = .returned (.bool true) ∧ Below W0.heap.size W0 w' := is_lit ⟨#[27, 99]⟩ [((4, 0, [], 99), .slice none 0 0)] 1 _ _ hP hV (by decide) rfl rfl (fun x hx => by simp only [List.mem_cons, List.not_mem_nil, or_false] at hx; subst hx; exact NumsW.nil _ _) pex_5
theorem ask_6 {W0 V : World} (hP : LaidP W0) (hV : Below W0.heap.size W0 V) : Calls Tryd.prog 13 #[.string ⟨#[226, 130, 97]⟩, .slice (some ⟨V.heap.size, 0, none⟩) 2 2] (V.alloc (.cells #[.int .i64 5, .int .i32 0, .slice none 0 0, .int .u8 0, .int .i64 1, .int .i32 97, .slice none 0 0, .int .u8 0] 34)) fun e w' => e = .returned (.bool true) ∧ Below W0.heap.size W0 w' := is_lit ⟨#[226, 130, 97]⟩ [(badA, .slice none 0 0), ((1, 97, [], 0), .slice none 0 0)] 2 _ _ hP hV (by decide) rfl rfl (fun x hx => by simp only [List.mem_cons, List.not_mem_nil, or_false] at hx; rcases hx with (rfl | rfl) <;> exact NumsW.nil _ _) pex_6
theorem ask_7 {W0 V : World} (hP : LaidP W0) (hV : Below W0.heap.size W0 V) : Calls Tryd.prog 13 #[.string ⟨#[255]⟩, .slice (some ⟨V.heap.size, 0, none⟩) 1 1] (V.alloc (.cells #[.int .i64 5, .int .i32 0, .slice none 0 0, .int .u8 0] 34)) fun e w' => e = .returned (.bool true) ∧ Below W0.heap.size W0 w' := is_lit ⟨#[255]⟩ [(badA, .slice none 0 0)] 1 _ _ hP hV (by decide) rfl rfl (fun x hx => by simp only [List.mem_cons, List.not_mem_nil, or_false] at hx; subst hx; exact NumsW.nil _ _) pex_7
theorem ask_8 {W0 V : World} (hP : LaidP W0) (hV : Below W0.heap.size W0 V) : Calls Tryd.prog 13 #[.string ⟨#[27, 27]⟩, .slice (some ⟨V.heap.size, 0, none⟩) 1 1] (V.alloc (.cells #[.int .i64 5, .int .i32 0, .slice none 0 0, .int .u8 0] 34)) fun e w' => e = .returned (.bool true) ∧ Below W0.heap.size W0 w' := is_lit ⟨#[27, 27]⟩ [(badA, .slice none 0 0)] 1 _ _ hP hV (by decide) rfl rfl (fun x hx => by simp only [List.mem_cons, List.not_mem_nil, or_false] at hx; subst hx; exact NumsW.nil _ _) pex_8

set_option maxRecDepth 100000 in
set_option maxHeartbeats 8000000 in
theorem asked_any (w : World) (hP : LaidP w) :
    Calls Tryd.prog 8 #[] w fun e w' => e = .returned (.bool true) ∧ Below w.heap.size w w' := by
  have HP := Lib.hid hP
  have HB : Hid (∀ W0, (w.alloc (.cells #[.int .i64 5, .int .i32 0, .slice none 0 0, .int .u8 0] 34)).alloc (.cells #[.int .i64 1, .int .i32 97, .slice none 0 0, .int .u8 0] 34) = W0 → W0.heap.size = w.heap.size + 1 + 1 ∧ Below w.heap.size w W0 ∧ (∀ V, Below W0.heap.size W0 V → (V.cell? ⟨w.heap.size, 0, none⟩ = some (.int .i64 5) ∧ V.cell? ⟨w.heap.size, 1, none⟩ = some (.int .i32 0) ∧ V.cell? ⟨w.heap.size, 2, none⟩ = some (.slice none 0 0) ∧ V.cell? ⟨w.heap.size, 3, none⟩ = some (.int .u8 0)) ∧ (V.cell? ⟨w.heap.size + 1, 0, none⟩ = some (.int .i64 1) ∧ V.cell? ⟨w.heap.size + 1, 1, none⟩ = some (.int .i32 97) ∧ V.cell? ⟨w.heap.size + 1, 2, none⟩ = some (.slice none 0 0) ∧ V.cell? ⟨w.heap.size + 1, 3, none⟩ = some (.int .u8 0)))) := fun W0 h0 => by
    have hs : W0.heap.size = w.heap.size + 1 + 1 := by rw [← h0, World.size_alloc, World.size_alloc]
    refine ⟨hs, by rw [← h0]; exact ((Below.refl _ _).alloc (Nat.le_refl _) _).alloc (by rw [World.size_alloc]; omega) _, fun V hV => ?_⟩
    have k1 : ∀ i, V.cell? ⟨w.heap.size, i, none⟩ = (#[.int .i64 5, .int .i32 0, .slice none 0 0, .int .u8 0] : Array Value)[i]? := fun i => by
      rw [hV.cell (p := ⟨w.heap.size, i, none⟩) (by show w.heap.size < W0.heap.size; omega), ← h0, World.cell?_alloc_old _ _ _ (by show w.heap.size ≠ (w.alloc _).heap.size; rw [World.size_alloc]; omega), cell_of_row _ _ _ _ _ (0, 0) (heap_alloc_new w _)]
    have k2 : ∀ i, V.cell? ⟨w.heap.size + 1, i, none⟩ = (#[.int .i64 1, .int .i32 97, .slice none 0 0, .int .u8 0] : Array Value)[i]? := fun i => by
      have := heap_alloc_new (w.alloc (.cells #[.int .i64 5, .int .i32 0, .slice none 0 0, .int .u8 0] 34)) (.cells #[.int .i64 1, .int .i32 97, .slice none 0 0, .int .u8 0] 34)
      rw [World.size_alloc] at this
      rw [hV.cell (p := ⟨w.heap.size + 1, i, none⟩) (by show w.heap.size + 1 < W0.heap.size; omega), ← h0, cell_of_row _ _ _ _ _ (0, 0) this]
    exact ⟨⟨k1 0, k1 1, k1 2, k1 3⟩, ⟨k2 0, k2 1, k2 2, k2 3⟩⟩
  clear hP
  go_enter Tryd.func8, Tryd.ntmps8
  go_wp2_with fail
  obtain ⟨W0, hW0⟩ : ∃ W0, (w.alloc (.cells #[.int .i64 5, .int .i32 0, .slice none 0 0, .int .u8 0] 34)).alloc (.cells #[.int .i64 1, .int .i32 97, .slice none 0 0, .int .u8 0] 34) = W0 := ⟨_, rfl⟩
  obtain ⟨hs0, hb0, HC⟩ := HB.out W0 hW0
  have hP0 := HP.out.below hb0
  rw [hW0, ← hs0]
  clear HB hW0 HP
  go_fit (ask_1 hP0 (Below.refl _ W0))
  rintro e w1 ⟨rfl, h1⟩
  go_wp2_with fail
  go_fit (ask_2 hP0 h1)
  rintro e w2 ⟨rfl, h2⟩
  go_wp2_with fail
  go_fit (ask_3 hP0 h2)
  rintro e w3 ⟨rfl, h3⟩
  obtain ⟨⟨a0, a1, a2, a3⟩, c0, c1, c2, c3⟩ := HC _ h3
  go_wp2_with fail
  go_fit (ask_4 hP0 h3)
  rintro e w4 ⟨rfl, h4⟩
  clear a0 a1 a2 a3 c0 c1 c2 c3
  go_wp2_with fail
  go_fit (ask_5 hP0 h4)
  rintro e w5 ⟨rfl, h5⟩
  obtain ⟨⟨a0, a1, a2, a3⟩, c0, c1, c2, c3⟩ := HC _ h5
  go_wp2_with fail
  go_fit (ask_6 hP0 h5)
  rintro e w6 ⟨rfl, h6⟩
  clear a0 a1 a2 a3 c0 c1 c2 c3
  obtain ⟨⟨a0, a1, a2, a3⟩, c0, c1, c2, c3⟩ := HC _ h6
  go_wp2_with fail
  go_fit (ask_7 hP0 h6)
  rintro e w7 ⟨rfl, h7⟩
  clear a0 a1 a2 a3 c0 c1 c2 c3
  obtain ⟨⟨a0, a1, a2, a3⟩, c0, c1, c2, c3⟩ := HC _ h7
  go_wp2_with fail
  go_fit (ask_8 hP0 h7)
  rintro e w8 ⟨rfl, h8⟩
  clear a0 a1 a2 a3 c0 c1 c2 c3
  go_wp2_with fail
  go_ret
  exact ⟨rfl, hb0.trans (h8.mono hb0.size)⟩
end Go.Proofs.YtbpnnnjbddjboaaDoor
