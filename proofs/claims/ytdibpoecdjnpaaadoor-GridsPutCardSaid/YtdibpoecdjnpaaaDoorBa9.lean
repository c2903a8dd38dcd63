/-
  slices.Clone of cells, limnerref06.Copy: what each call returns, and lays.
-/
import Derived.Test.YtdibpoecdjnpaaaDoorBa8
namespace Go.Proofs.YtdibpoecdjnpaaaDoor
open Go.RowKit

/-- A block of one's own that holds these cells. -/
def NewL (w w' : World) (g : Nat) (l : List Cel) : Prop := ∃ zs, w.heap.size ≤ g ∧ blkL w' g l zs
set_option maxRecDepth 100000 in
set_option maxHeartbeats 1000000 in
theorem clone_any {ok : Nat → Prop} {l : List Cel} (g o cap n : Nat) (w : World) (hS : CelsW ok w (.slice (some ⟨g, o, none⟩) n cap) l) (hn : l.length = n) (h0 : 0 < n) (hl : n ≤ 100000) :
    Calls Tryd.prog 35 #[.slice (some ⟨g, o, none⟩) n cap] w fun e w' => ∃ g' c', e = .returned (.slice (some ⟨g', 0, none⟩) n c') ∧ n ≤ c' ∧ NewL w w' g' l ∧ Below w.heap.size w w' := by
  obtain ⟨i0, hi, hz0, hz1, hz2⟩ := info_parts Tryd.infoCell
  have he : ∀ w : World, (binOp .eql 26 (.slice (some ⟨g, o, none⟩) n cap) (.slice none 0 0)).run Tryd.prog w = .ok (.bool false) w := fun _ => rfl
  have HR : Hid (∀ W, Below w.heap.size w W → RowV ok W (.slice (some ⟨g, o, none⟩) n cap) n (celC l)) := fun W hW => by
    have := RowV.keep hS (keep_below ok hW)
    rwa [hn] at this
  have HL : Hid ((celC l).length = n * 6) := by show _ = _; rw [celC_len, hn]
  have HI := Lib.hid hi
  have H0 := Lib.hid hz0
  have H1 := Lib.hid hz1
  have H2 := Lib.hid hz2
  have hb1 : Below w.heap.size w (w.alloc (.cells #[] 52)) := (Below.refl _ _).alloc (Nat.le_refl _) _
  have HE : Hid (RowV (fun _ => True) (w.alloc (.cells #[] 52)) (.slice (some ⟨w.heap.size, 0, none⟩) 0 0) 0 []) := ⟨_, 0, rfl, Nat.le_refl _, fun _ _ => trivial, fun j u hu => by simp at hu⟩
  clear hS hi hz0 hz1 hz2 hn
  go_enter Tryd.func35, Tryd.ntmps35
  go_wp2_with (at_builtin; refine wpList_full 26 52 i0 _ 32 Tryd.underlying26 HI.out H0.out H1.out H2.out rfl _ _ rfl (by rfl) (by rfl) HE.out (by simp) (HR.out _ hb1) HL.out h0 (by omega) (celC_cell l) (by omega) (by omega) ?_; intro cp zs hcp)
  go_ret
  have hb2 : Below w.heap.size w ((w.alloc (.cells #[] 52)).drew.alloc (.cells (celC l ++ zs).toArray 52)) := hb1.drew.alloc (by simp) _
  refine ⟨w.heap.size + 1, cp, rfl, by omega, ⟨zs, by omega, ?_⟩, hb2⟩
  have := heap_alloc_new (w.alloc (.cells #[] 52)).drew (.cells (celC l ++ zs).toArray 52)
  rw [show (w.alloc (.cells #[] 52)).drew.heap.size = w.heap.size + 1 by show (w.alloc _).heap.size = _; rw [World.size_alloc]] at this
  exact this
set_option maxHeartbeats 1000000 in
theorem copy_any {ok : Nat → Prop} {l : List Cel} (g o cap n : Nat) (r c a b : Int) (w : World) (hS : CelsW ok w (.slice (some ⟨g, o, none⟩) n cap) l) (hn : l.length = n) (h0 : 0 < n) (hl : n ≤ 100000) :
    Calls Tryd.prog 16 #[.agg #[.int .i64 r, .int .i64 c, .slice (some ⟨g, o, none⟩) n cap, .int .i64 a, .int .i64 b]] w fun e w' => ∃ g' c', e = .returned (.agg #[.int .i64 r, .int .i64 c, .slice (some ⟨g', 0, none⟩) n c', .int .i64 a, .int .i64 b]) ∧ n ≤ c' ∧ NewL w w' g' l ∧ Below w.heap.size w w' := by
  obtain ⟨i0, hi, hz0, hz1, hz2⟩ := info_parts Tryd.infoCell
  have HR : Hid (∀ W, Below w.heap.size w W → RowV ok W (.slice (some ⟨g, o, none⟩) n cap) n (celC l)) := fun W hW => by
    have := RowV.keep hS (keep_below ok hW)
    rwa [hn] at this
  have HL : Hid ((celC l).length = n * 6) := by show _ = _; rw [celC_len, hn]
  have HI := Lib.hid hi
  have H0 := Lib.hid hz0
  have H1 := Lib.hid hz1
  have H2 := Lib.hid hz2
  have HE : Hid (∀ W, RowV (fun _ => True) W (.slice none 0 0) 0 []) := fun W => RowV.nil _ W
  have hb1 : Below w.heap.size w ((w.alloc (.cells #[.int .i64 r, .int .i64 c, .slice (some ⟨g, o, none⟩) n cap, .int .i64 a, .int .i64 b] 28)).alloc (.cells #[.int .i64 0, .int .i64 0, .slice none 0 0, .int .i64 0, .int .i64 0] 28)) := ((Below.refl _ _).alloc (Nat.le_refl _) _).alloc (by simp) _
  clear hS hi hz0 hz1 hz2 hn
  go_enter Tryd.func16, Tryd.ntmps16
  go_wp2_with (at_builtin; refine wpList_full 26 52 i0 _ 32 Tryd.underlying26 HI.out H0.out H1.out H2.out rfl _ _ rfl (by rfl) (by rfl) (HE.out _) (by simp) (HR.out _ hb1) HL.out h0 (by omega) (celC_cell l) (by omega) (by omega) ?_; intro cp zs hcp)
  obtain ⟨W, hW⟩ : ∃ W, (((w.alloc (.cells #[.int .i64 r, .int .i64 c, .slice (some ⟨w.heap.size + 1 + 1, 0, none⟩) n cp, .int .i64 a, .int .i64 b] 28)).alloc (.cells #[.int .i64 r, .int .i64 c, .slice (some ⟨w.heap.size + 1 + 1, 0, none⟩) n cp, .int .i64 a, .int .i64 b] 28)).alloc (.cells (celC l ++ zs).toArray 52)).drew = W := ⟨_, rfl⟩
  have p1 : W.heap[w.heap.size + 1]? = some (.cells #[.int .i64 r, .int .i64 c, .slice (some ⟨w.heap.size + 1 + 1, 0, none⟩) n cp, .int .i64 a, .int .i64 b] 28 (0, 0)) := by
    rw [← hW]
    have e := heap_alloc_new (w.alloc (.cells #[.int .i64 r, .int .i64 c, .slice (some ⟨w.heap.size + 1 + 1, 0, none⟩) n cp, .int .i64 a, .int .i64 b] 28)) (.cells #[.int .i64 r, .int .i64 c, .slice (some ⟨w.heap.size + 1 + 1, 0, none⟩) n cp, .int .i64 a, .int .i64 b] 28)
    rw [World.size_alloc] at e
    exact (Below.heap_alloc _ _ _ (by rw [World.size_alloc, World.size_alloc]; omega)).trans e
  have p2 : W.heap[w.heap.size + 1 + 1]? = some (.cells (celC l ++ zs).toArray 52 (0, 0)) := by
    rw [← hW]
    have e := heap_alloc_new ((w.alloc (.cells #[.int .i64 r, .int .i64 c, .slice (some ⟨w.heap.size + 1 + 1, 0, none⟩) n cp, .int .i64 a, .int .i64 b] 28)).alloc (.cells #[.int .i64 r, .int .i64 c, .slice (some ⟨w.heap.size + 1 + 1, 0, none⟩) n cp, .int .i64 a, .int .i64 b] 28)) (.cells (celC l ++ zs).toArray 52)
    rw [World.size_alloc, World.size_alloc] at e
    exact e
  have q : Below w.heap.size w W := by
    rw [← hW]
    exact ((((Below.refl _ w).alloc (Nat.le_refl _) _).alloc (by simp) _).alloc (by simp; omega) _).drew
  rw [hW]
  clear hW
  have c0 : W.cell? ⟨w.heap.size + 1, 0, none⟩ = some (.int .i64 r) := by rw [cell_of_row _ _ _ _ _ _ p1]; rfl
  have c1 : W.cell? ⟨w.heap.size + 1, 1, none⟩ = some (.int .i64 c) := by rw [cell_of_row _ _ _ _ _ _ p1]; rfl
  have c2 : W.cell? ⟨w.heap.size + 1, 2, none⟩ = some (.slice (some ⟨w.heap.size + 1 + 1, 0, none⟩) n cp) := by rw [cell_of_row _ _ _ _ _ _ p1]; rfl
  have c3 : W.cell? ⟨w.heap.size + 1, 3, none⟩ = some (.int .i64 a) := by rw [cell_of_row _ _ _ _ _ _ p1]; rfl
  have c4 : W.cell? ⟨w.heap.size + 1, 4, none⟩ = some (.int .i64 b) := by rw [cell_of_row _ _ _ _ _ _ p1]; rfl
  exact bodyPost_ret (v := .agg #[.int .i64 r, .int .i64 c, .slice (some ⟨w.heap.size + 1 + 1, 0, none⟩) n cp, .int .i64 a, .int .i64 b]) (by simp [results, Tryd.results16, go_sem, c0, c1, c2, c3, c4]) rfl ⟨_, cp, rfl, by omega, ⟨zs, by omega, p2⟩, q⟩
end Go.Proofs.YtdibpoecdjnpaaaDoor
