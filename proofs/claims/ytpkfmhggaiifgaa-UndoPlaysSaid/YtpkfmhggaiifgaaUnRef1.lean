/-
  limnerref05: New, Now, Go: what each call returns, and leaves.
-/
import Derived.Test.YtpkfmhggaiifgaaUnRefW
import Derived.BigRegion
namespace Go.Proofs.Ytpkfmhggaiifgaa
open Go.RowKit

section
variable {ok : Nat → Prop} {R t : Nat} {L : List (ByteArray × Int)} {op : Int} {sl : Value}

theorem below_drewNr (w : World) (n : Nat) : Below w.heap.size w (w.drewN n) := ⟨rfl, rfl, rfl, Nat.le_refl _, fun _ _ => rfl⟩
theorem rnew_any (s : ByteArray) (c : Int) (w : World) (hok : ok w.heap.size) (hR : ¬ ok (w.heap.size + 1)) :
    Calls Try.prog 10 #[.string s, .int .i64 c] w fun e w' => e = .returned (.pointer (some ⟨w.heap.size + 1, 0, none⟩)) ∧ Below w.heap.size w w' ∧ w'.heap.size = w.heap.size + 2 ∧
      ∃ sl, RefW ok w' (w.heap.size + 1) [(s, c)] 0 0 sl := by
  go_enter Try.func10, Try.ntmps10
  go_wp2
  go_ret
  have hb1 : Below w.heap.size w (w.alloc (.cells #[.string s, .int .i64 c] 35)) := (Below.refl _ w).alloc (Nat.le_refl _) _
  refine ⟨rfl, hb1.alloc (by simp) _, by simp, .slice (some ⟨w.heap.size, 0, none⟩) 1 1, ?_, hR, ?_, by simp, by simp⟩
  · have := heap_alloc_new (w.alloc (.cells #[.string s, .int .i64 c] 35)) (.cells #[.slice (some ⟨w.heap.size, 0, none⟩) 1 1, .int .i64 0, .int .i64 0] 49)
    rw [World.size_alloc] at this
    exact this
  · refine ⟨_, 1, rfl, Nat.le_refl _, fun a e => by cases e; exact hok, fun j u hu => ⟨_, 0, rfl, ?_⟩⟩
    have e := (Below.refl (w.heap.size + 1) (w.alloc (.cells #[.string s, .int .i64 c] 35))).alloc (by simp) (.cells #[.slice (some ⟨w.heap.size, 0, none⟩) 1 1, .int .i64 0, .int .i64 0] 49)
    rw [e.cell (p := ⟨w.heap.size, 0 + j, none⟩) (Nat.lt_succ_self _), cell_of_row _ _ _ _ _ (0, 0) (heap_alloc_new w _), Nat.zero_add, ← Array.getElem?_toList]
    exact hu

/-- A box of a state. -/
def blk2 (w : World) (B : Nat) (x0 x1 : Value) : Prop := w.heap[B]? = some (.cells #[x0, x1] 35 (0, 0))
theorem blk2.set {w : World} {B : Nat} {x0 x1 : Value} (h : blk2 w B x0 x1) (i : Nat) (v : Value) : (w.setCell ⟨B, i, none⟩ v).heap[B]? = some (.cells (#[x0, x1].modify i fun _ => v) 35 (0, 0)) := by
  unfold blk2 at h
  show (w.heap.modify B _)[B]? = _
  have hlt := (Array.getElem?_eq_some_iff.1 h).1
  obtain ⟨_, he⟩ := Array.getElem?_eq_some_iff.1 h
  rw [Array.getElem?_eq_getElem (by rw [Array.size_modify]; exact hlt), Array.getElem_modify_self, he]
  rfl
theorem blk2.set0 {w : World} {B : Nat} {x0 x1 : Value} (h : blk2 w B x0 x1) (v : Value) : blk2 (w.setCell ⟨B, 0, none⟩ v) B v x1 := h.set 0 v
theorem blk2.set1 {w : World} {B : Nat} {x0 x1 : Value} (h : blk2 w B x0 x1) (v : Value) : blk2 (w.setCell ⟨B, 1, none⟩ v) B x0 v := h.set 1 v
theorem blk2.cells {w : World} {B : Nat} {x0 x1 : Value} (h : blk2 w B x0 x1) : (w.cell? ⟨B, 0, none⟩ = some x0 ∧ w.cell? ⟨B, 1, none⟩ = some x1) ∧ w.frozen? ⟨B, 0, none⟩ = false ∧ w.frozen? ⟨B, 1, none⟩ = false := by
  unfold blk2 at h
  refine ⟨⟨?_, ?_⟩, ?_, ?_⟩ <;> first | (unfold World.cell?; rw [h]; rfl) | (unfold World.frozen?; rw [h]; simp)

set_option maxHeartbeats 1000000 in
theorem rnow_any {s : ByteArray} {c : Int} (w : World) (h : RefW ok w R L t op sl) (hp : L[t]? = some (s, c)) :
    Calls Try.prog 21 #[.pointer (some ⟨R, 0, none⟩)] w fun e w' => e = .returned (.agg #[.string s, .int .i64 c]) ∧ Below w.heap.size w w' := by
  obtain ⟨⟨c0, c1, _⟩, _⟩ := h.blk.cells
  have hat := rfC_at L t (s, c) hp
  obtain ⟨g, o, cap, rfl, hcap, _, hcell⟩ := h.row.at_ hat.1
  have e0 := hcell _ _ hat.1
  have e1 := hcell _ _ hat.2
  rw [← Nat.add_assoc] at e1
  have hnow := h.now
  obtain ⟨n, hn⟩ : ∃ n, L.length = n := ⟨_, rfl⟩
  rw [hn] at hnow c0
  have t0 : (0 : Int) ≤ (t : Int) := by omega
  have t1 : (t : Int) < (n : Int) := by omega
  have HW : Hid (∀ W, w.alloc (.cells #[.string ⟨#[]⟩, .int .i64 0] 35) = W → Below w.heap.size w W ∧ blk2 W w.heap.size (.string ⟨#[]⟩) (.int .i64 0) ∧
      W.cell? ⟨R, 0, none⟩ = some (.slice (some ⟨g, o, none⟩) n cap) ∧ W.cell? ⟨R, 1, none⟩ = some (.int .i64 (t : Int)) ∧ W.cell? ⟨g, o + t * 2, none⟩ = some (.string s) ∧ W.cell? ⟨g, o + t * 2 + 1, none⟩ = some (.int .i64 c)) := fun W hW => by
    have hb : Below w.heap.size w W := by rw [← hW]; exact (Below.refl _ w).alloc (Nat.le_refl _) _
    refine ⟨hb, by rw [← hW]; exact heap_alloc_new w _, ?_, ?_, ?_, ?_⟩
    · rw [hb.cell (p := ⟨R, 0, none⟩) (rlt c0)]; exact c0
    · rw [hb.cell (p := ⟨R, 1, none⟩) (rlt c1)]; exact c1
    · rw [hb.cell (p := ⟨g, o + t * 2, none⟩) (rlt e0)]; exact e0
    · rw [hb.cell (p := ⟨g, o + t * 2 + 1, none⟩) (rlt e1)]; exact e1
  clear h hcell hat hp hn c0 c1 e0 e1
  go_enter Try.func21, Try.ntmps21
  go_wp2
  obtain ⟨W, hW⟩ : ∃ W, w.alloc (.cells #[.string ⟨#[]⟩, .int .i64 0] 35) = W := ⟨_, rfl⟩
  obtain ⟨hb, hB, c0, c1, e0, e1⟩ := HW.out W hW
  obtain ⟨⟨b0, b1⟩, f0, f1⟩ := hB.cells
  rw [hW]
  clear hW HW
  obtain ⟨B, hBe⟩ : ∃ B, w.heap.size = B := ⟨_, rfl⟩
  rw [hBe] at hB b0 b1 f0 f1 ⊢
  have HE := Lib.hid hBe
  have HK := Lib.hid hb
  have HBk := Lib.hid hB
  clear hBe hb hB
  go_region
  all_goals go_wp2
  have x1 := (HBk.out.set0 (.string s)).set1 (.int .i64 c)
  have kb : Below w.heap.size w ((W.setCell ⟨B, 0, none⟩ (.string s)).setCell ⟨B, 1, none⟩ (.int .i64 c)).drew := ((HK.out.setCell (p := ⟨B, 0, none⟩) (by rw [HE.out]; exact Nat.le_refl _) _).setCell (p := ⟨B, 1, none⟩) (by rw [HE.out]; exact Nat.le_refl _) _).drew
  obtain ⟨⟨y0, y1⟩, _⟩ := blk2.cells (w := ((W.setCell ⟨B, 0, none⟩ (.string s)).setCell ⟨B, 1, none⟩ (.int .i64 c)).drew) x1
  obtain ⟨X, hX⟩ : ∃ X, ((W.setCell ⟨B, 0, none⟩ (.string s)).setCell ⟨B, 1, none⟩ (.int .i64 c)).drew = X := ⟨_, rfl⟩
  rw [hX] at kb y0 y1 ⊢
  exact bodyPost_ret (v := .agg #[.string s, .int .i64 c]) (by simp [results, Try.results21, go_sem, y0, y1]) rfl ⟨rfl, kb⟩
end
end Go.Proofs.Ytpkfmhggaiifgaa
