/-
  undo: none, open, New, Now, Move, Steps: what each call returns, and leaves.
-/
import Derived.Test.YtpkfmhggaiifgaaUnW
namespace Go.Proofs.Ytpkfmhggaiifgaa
open Go.RowKit

/-- No undo: nil, or one that New did not make. -/
def NoneU (w : World) (v : Value) : Prop := v = .pointer none ∨ ∃ b, v = .pointer (some ⟨b, 0, none⟩) ∧ w.cell? ⟨b, 0, none⟩ = some (.pointer none)
theorem NoneU.below {w w' : World} {v : Value} (h : NoneU w v) (hb : Below w.heap.size w w') : NoneU w' v := by
  rcases h with h | ⟨b, hv, c0⟩
  · exact .inl h
  · exact .inr ⟨b, hv, by rw [hb.cell (p := ⟨b, 0, none⟩) (rlt (p := ⟨b, 0, none⟩) c0)]; exact c0⟩

section
variable {ok : Nat → Prop} {U : Nat} {u : US} {a d : Value}

theorem unone_some (w : World) (h : UndoW ok w U u a d) :
    Calls Try.prog 24 #[.pointer (some ⟨U, 0, none⟩)] w fun e w' => e = .returned (.bool false) ∧ w' = w := by
  obtain ⟨⟨c0, _⟩, _⟩ := h.blk.cells
  clear h
  go_enter Try.func24, Try.ntmps24
  go_wp2
  go_ret
  exact ⟨rfl, rfl⟩
theorem unone_none {v : Value} (w : World) (h : NoneU w v) :
    Calls Try.prog 24 #[v] w fun e w' => e = .returned (.bool true) ∧ w' = w := by
  rcases h with rfl | ⟨b, rfl, c0⟩
  · go_enter Try.func24, Try.ntmps24
    go_wp2
    go_ret
    exact ⟨rfl, rfl⟩
  · go_enter Try.func24, Try.ntmps24
    go_wp2
    go_ret
    exact ⟨rfl, rfl⟩

def openB (u : US) (g : Int) : Bool := decide (0 < g ∧ g = u.group)
theorem uopen_any (g : Int) (w : World) (h : UndoW ok w U u a d) :
    Calls Try.prog 27 #[.pointer (some ⟨U, 0, none⟩), .int .i64 g] w fun e w' => e = .returned (.bool (openB u g)) ∧ w' = w := by
  obtain ⟨⟨_, _, _, _, c4⟩, _⟩ := h.blk.cells
  unfold openB
  generalize u.group = z at *
  clear h
  by_cases h0 : 0 < g
  · by_cases h1 : g = z
    · subst h1
      rw [decide_eq_true (show 0 < g ∧ g = g from ⟨h0, rfl⟩)]
      go_enter Try.func27, Try.ntmps27
      go_wp2
      go_ret
      simp
    · rw [decide_eq_false (fun k : 0 < g ∧ g = z => h1 k.2)]
      go_enter Try.func27, Try.ntmps27
      go_wp2
      go_ret
      simp [h1]
  · rw [decide_eq_false (fun k : 0 < g ∧ g = z => h0 k.1)]
    go_enter Try.func27, Try.ntmps27
    go_wp2
    go_ret
    simp

theorem unew_nil (c : Int) (w : World) :
    Calls Try.prog 8 #[.pointer none, .int .i64 c] w fun e w' => e = .returned (.pointer none) ∧ w' = w := by
  go_enter Try.func8, Try.ntmps8
  go_wp2
  go_ret
  exact ⟨rfl, rfl⟩
theorem unew_any {b : Nat} {s : ByteArray} (c : Int) (w : World) (h : TextP (fun _ => True) w b s) :
    Calls Try.prog 8 #[.pointer (some ⟨b, 0, none⟩), .int .i64 c] w fun e w' => e = .returned (.pointer (some ⟨w.heap.size, 0, none⟩)) ∧ Below w.heap.size w w' ∧ w'.heap.size = w.heap.size + 1 ∧ 
      UndoW (fun k => k ≠ w.heap.size) w' w.heap.size ⟨(b, s, c), [], [], 0⟩ (.slice none 0 0) (.slice none 0 0) := by
  go_enter Try.func8, Try.ntmps8
  go_wp2
  go_ret
  refine ⟨rfl, (Below.refl _ w).alloc (Nat.le_refl _) _, by simp, heap_alloc_new w _, fun k => k rfl, ?_, StatesW.nil _ _, StatesW.nil _ _, by simp⟩
  exact ((h.mono (ok' := fun k => k ≠ w.heap.size) fun k hk _ => by omega).keepW (keep_below _ ((Below.refl _ w).alloc (Nat.le_refl _) _)))

theorem unow_none {v : Value} (w : World) (h : NoneU w v) :
    Calls Try.prog 20 #[v] w fun e w' => e = .returned (.tuple #[.pointer none, .int .i64 0]) ∧ w' = w := by
  have H := unone_none w h
  go_enter Try.func20, Try.ntmps20
  go_wp2_with fail
  refine H.mono ?_
  rintro e w' ⟨rfl, rfl⟩
  go_wp2
  go_ret2
  exact ⟨rfl, rfl⟩
theorem unow_any (w : World) (h : UndoW ok w U u a d) :
    Calls Try.prog 20 #[.pointer (some ⟨U, 0, none⟩)] w fun e w' => e = .returned (.tuple #[.pointer (some ⟨u.now.1, 0, none⟩), .int .i64 u.now.2.2]) ∧ Below w.heap.size w w' := by
  have H := unone_some w h
  obtain ⟨⟨c0, c1, _⟩, _⟩ := h.blk.cells
  generalize u.now.1 = b at *
  generalize u.now.2.2 = c at *
  clear h
  go_enter Try.func20, Try.ntmps20
  go_wp2_with fail
  refine H.mono ?_
  rintro e w' ⟨rfl, rfl⟩
  go_wp2_with fail
  go_quiet (fail)
  go_wp2
  go_ret2
  exact ⟨rfl, below_drewN _ _⟩

theorem usteps_none {v : Value} (w : World) (h : NoneU w v) :
    Calls Try.prog 29 #[v] w fun e w' => e = .returned (.tuple #[.int .i64 0, .int .i64 0]) ∧ w' = w := by
  have H := unone_none w h
  go_enter Try.func29, Try.ntmps29
  go_wp2_with fail
  refine H.mono ?_
  rintro e w' ⟨rfl, rfl⟩
  go_wp2
  go_ret2
  exact ⟨rfl, rfl⟩
theorem usteps_any (w : World) (h : UndoW ok w U u a d) :
    Calls Try.prog 29 #[.pointer (some ⟨U, 0, none⟩)] w fun e w' => e = .returned (.tuple #[.int .i64 (u.was.length : Int), .int .i64 (u.undone.length : Int)]) ∧ Below w.heap.size w w' := by
  have H := unone_some w h
  obtain ⟨⟨_, _, c2, c3, _⟩, _⟩ := h.blk.cells
  obtain ⟨ao, cap, rfl, _⟩ := h.was.1
  obtain ⟨ao2, cap2, rfl, _⟩ := h.und.1
  generalize u.was.length = n1 at *
  generalize u.undone.length = n2 at *
  clear h
  go_enter Try.func29, Try.ntmps29
  go_wp2_with fail
  refine H.mono ?_
  rintro e w' ⟨rfl, rfl⟩
  go_wp2_with fail
  go_quiet (fail)
  go_wp2
  go_ret2
  exact ⟨rfl, below_drewN _ _⟩

theorem umove_none {v : Value} (c : Int) (w : World) (h : NoneU w v) :
    Calls Try.prog 15 #[v, .int .i64 c] w fun e w' => e = .returned (.tuple #[]) ∧ w' = w := by
  have H := unone_none w h
  go_enter Try.func15, Try.ntmps15
  go_wp2_with fail
  refine H.mono ?_
  rintro e w' ⟨rfl, rfl⟩
  go_wp2
  refine bodyPost_ret (results_none rfl _ _ _) rfl ?_
  exact ⟨rfl, rfl⟩
theorem undoB.move {w : World} {n : St} {g c : Int} (h : undoB w U n a d g) : undoB (w.setCell ⟨U, 1, none⟩ (.int .i64 c)) U (n.1, n.2.1, c) a d g := by
  unfold undoB at h ⊢
  show (w.heap.modify U _)[U]? = _
  have hlt := (Array.getElem?_eq_some_iff.1 h).1
  obtain ⟨_, he⟩ := Array.getElem?_eq_some_iff.1 h
  rw [Array.getElem?_eq_getElem (by rw [Array.size_modify]; exact hlt), Array.getElem_modify_self, he]
  rfl
theorem umove_any (c : Int) (w : World) (h : UndoW ok w U u a d) :
    Calls Try.prog 15 #[.pointer (some ⟨U, 0, none⟩), .int .i64 c] w fun e w' => e = .returned (.tuple #[]) ∧ UndoW ok w' U (moveU u c) a d ∧ KeepW (fun k => k ≠ U) w w' := by
  have H := unone_some w h
  have K : UndoW ok (w.setCell ⟨U, 1, none⟩ (.int .i64 c)) U (moveU u c) a d := 
    ⟨h.blk.move, h.out, h.text.keepW (keep_set _ _ _ _ _ h.out), h.was.keepW (keep_set _ _ _ _ _ h.out), h.und.keepW (keep_set _ _ _ _ _ h.out), h.few⟩
  obtain ⟨⟨_, c1, _⟩, f1⟩ := h.blk.cells
  have f11 := f1 1
  have hlt := h.lt
  clear h f1
  go_enter Try.func15, Try.ntmps15
  go_wp2_with fail
  refine H.mono ?_
  rintro e w' ⟨rfl, rfl⟩
  go_wp2
  go_end0
  exact ⟨rfl, K, keep_set _ _ _ _ _ fun h => h rfl⟩
end
end Go.Proofs.Ytpkfmhggaiifgaa
