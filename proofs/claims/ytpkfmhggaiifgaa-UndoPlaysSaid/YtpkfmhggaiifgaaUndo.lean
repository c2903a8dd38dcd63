/-
  undo: Undo, Redo: what each call returns, and leaves.
-/
import Derived.Test.YtpkfmhggaiifgaaUnStep
namespace Go.Proofs.Ytpkfmhggaiifgaa
open Go.RowKit

def AnyW (_ : World) : Prop := True

section
variable {ok : Nat → Prop} {U : Nat} {u : US} {a d : Value}
theorem uundo_none {v : Value} (w : World) (h : NoneU w v) :
    Calls Try.prog 12 #[v] w fun e w' => e = .returned (.tuple #[.pointer none, .int .i64 0, .bool false]) ∧ w' = w := by
  have H := unone_none w h
  go_enter Try.func12, Try.ntmps12
  go_wp2_with fail
  refine H.mono ?_
  rintro e w' ⟨rfl, rfl⟩
  go_wp2
  go_ret3
  exact ⟨rfl, rfl⟩
theorem uundo_empty (w : World) (h : UndoW ok w U u a d) (h0 : u.was = []) :
    Calls Try.prog 12 #[.pointer (some ⟨U, 0, none⟩)] w fun e w' => e = .returned (.tuple #[.pointer none, .int .i64 0, .bool false]) ∧ Below w.heap.size w w' := by
  have H := unone_some w h
  have H2 : Hid (∀ W, Below w.heap.size w W → Calls Try.prog 25 #[.pointer (some ⟨U, 0, none⟩), .pointer (some ⟨U, 2, none⟩), .pointer (some ⟨U, 3, none⟩)] W fun e w' => e = .returned (.tuple #[.pointer none, .int .i64 0, .bool false]) ∧ Below w.heap.size w w') := fun W hW =>
    (ustep_back_none W (h.below hW) h0).mono fun e w' ⟨h1, h2⟩ => ⟨h1, by rw [h2]; exact hW⟩
  clear h h0
  go_enter Try.func12, Try.ntmps12
  go_wp2_with fail
  refine H.mono ?_
  rintro e w' ⟨rfl, rfl⟩
  go_wp2_with fail
  go_region_held3 AnyW (exact trivial) ((go_at_call 25; go_must (go_fit (H2.out _ ?_)); exact below_drewN _ 1; rintro e w2 ⟨rfl, hb⟩))
  all_goals go_wp2
  all_goals go_ret3
  all_goals exact ⟨rfl, hb⟩
theorem uundo_some {ps : List St} {p : St} (w : World) (h : UndoW ok w U u a d) (h0 : u.was = ps ++ [p]) (hok : ∀ k, w.heap.size ≤ k → ok k) :
    Calls Try.prog 12 #[.pointer (some ⟨U, 0, none⟩)] w fun e w' => e = .returned (.tuple #[.pointer (some ⟨p.1, 0, none⟩), .int .i64 p.2.2, .bool true]) ∧ (∃ a' d', UndoW ok w' U (undoU u p) a' d') ∧ KeepW (fun k => k ≠ U) w w' := by
  have H := unone_some w h
  have H2 : Hid (∀ W, Below w.heap.size w W → Calls Try.prog 25 #[.pointer (some ⟨U, 0, none⟩), .pointer (some ⟨U, 2, none⟩), .pointer (some ⟨U, 3, none⟩)] W fun e w' => e = .returned (.tuple #[.pointer (some ⟨p.1, 0, none⟩), .int .i64 p.2.2, .bool true]) ∧ Hid ((∃ a' d', UndoW ok w' U (undoU u p) a' d') ∧ KeepW (fun k => k ≠ U) w w')) := fun W hW =>
    (ustep_back_some W (h.below hW) h0 (fun k hk => hok k (Nat.le_trans hW.size hk))).mono fun e w' ⟨h1, h2, h3⟩ => ⟨h1, h2, (keep_below _ hW).trans h3⟩
  obtain ⟨pb, hpb⟩ : ∃ pb, p.1 = pb := ⟨_, rfl⟩
  obtain ⟨pc, hpc⟩ : ∃ pc, p.2.2 = pc := ⟨_, rfl⟩
  rw [hpb, hpc] at H2 ⊢
  clear h h0 hpb hpc hok
  go_enter Try.func12, Try.ntmps12
  go_wp2_with fail
  refine H.mono ?_
  rintro e w' ⟨rfl, rfl⟩
  go_wp2_with fail
  go_region_held3 AnyW (exact trivial) ((go_at_call 25; go_must (go_fit (H2.out _ ?_)); exact below_drewN _ 1; rintro e w2 ⟨rfl, hb⟩))
  all_goals go_wp2
  all_goals go_ret3
  all_goals exact ⟨rfl, hb.out⟩

theorem uredo_none {v : Value} (w : World) (h : NoneU w v) :
    Calls Try.prog 11 #[v] w fun e w' => e = .returned (.tuple #[.pointer none, .int .i64 0, .bool false]) ∧ w' = w := by
  have H := unone_none w h
  go_enter Try.func11, Try.ntmps11
  go_wp2_with fail
  refine H.mono ?_
  rintro e w' ⟨rfl, rfl⟩
  go_wp2
  go_ret3
  exact ⟨rfl, rfl⟩
theorem uredo_empty (w : World) (h : UndoW ok w U u a d) (h0 : u.undone = []) :
    Calls Try.prog 11 #[.pointer (some ⟨U, 0, none⟩)] w fun e w' => e = .returned (.tuple #[.pointer none, .int .i64 0, .bool false]) ∧ Below w.heap.size w w' := by
  have H := unone_some w h
  have H2 : Hid (∀ W, Below w.heap.size w W → Calls Try.prog 25 #[.pointer (some ⟨U, 0, none⟩), .pointer (some ⟨U, 3, none⟩), .pointer (some ⟨U, 2, none⟩)] W fun e w' => e = .returned (.tuple #[.pointer none, .int .i64 0, .bool false]) ∧ Below w.heap.size w w') := fun W hW =>
    (ustep_forth_none W (h.below hW) h0).mono fun e w' ⟨h1, h2⟩ => ⟨h1, by rw [h2]; exact hW⟩
  clear h h0
  go_enter Try.func11, Try.ntmps11
  go_wp2_with fail
  refine H.mono ?_
  rintro e w' ⟨rfl, rfl⟩
  go_wp2_with fail
  go_region_held3 AnyW (exact trivial) ((go_at_call 25; go_must (go_fit (H2.out _ ?_)); exact below_drewN _ 1; rintro e w2 ⟨rfl, hb⟩))
  all_goals go_wp2
  all_goals go_ret3
  all_goals exact ⟨rfl, hb⟩
theorem uredo_some {ps : List St} {p : St} (w : World) (h : UndoW ok w U u a d) (h0 : u.undone = ps ++ [p]) (hok : ∀ k, w.heap.size ≤ k → ok k) :
    Calls Try.prog 11 #[.pointer (some ⟨U, 0, none⟩)] w fun e w' => e = .returned (.tuple #[.pointer (some ⟨p.1, 0, none⟩), .int .i64 p.2.2, .bool true]) ∧ (∃ a' d', UndoW ok w' U (redoU u p) a' d') ∧ KeepW (fun k => k ≠ U) w w' := by
  have H := unone_some w h
  have H2 : Hid (∀ W, Below w.heap.size w W → Calls Try.prog 25 #[.pointer (some ⟨U, 0, none⟩), .pointer (some ⟨U, 3, none⟩), .pointer (some ⟨U, 2, none⟩)] W fun e w' => e = .returned (.tuple #[.pointer (some ⟨p.1, 0, none⟩), .int .i64 p.2.2, .bool true]) ∧ Hid ((∃ a' d', UndoW ok w' U (redoU u p) a' d') ∧ KeepW (fun k => k ≠ U) w w')) := fun W hW =>
    (ustep_forth_some W (h.below hW) h0 (fun k hk => hok k (Nat.le_trans hW.size hk))).mono fun e w' ⟨h1, h2, h3⟩ => ⟨h1, h2, (keep_below _ hW).trans h3⟩
  obtain ⟨pb, hpb⟩ : ∃ pb, p.1 = pb := ⟨_, rfl⟩
  obtain ⟨pc, hpc⟩ : ∃ pc, p.2.2 = pc := ⟨_, rfl⟩
  rw [hpb, hpc] at H2 ⊢
  clear h h0 hpb hpc hok
  go_enter Try.func11, Try.ntmps11
  go_wp2_with fail
  refine H.mono ?_
  rintro e w' ⟨rfl, rfl⟩
  go_wp2_with fail
  go_region_held3 AnyW (exact trivial) ((go_at_call 25; go_must (go_fit (H2.out _ ?_)); exact below_drewN _ 1; rintro e w2 ⟨rfl, hb⟩))
  all_goals go_wp2
  all_goals go_ret3
  all_goals exact ⟨rfl, hb.out⟩

end
end Go.Proofs.Ytpkfmhggaiifgaa
