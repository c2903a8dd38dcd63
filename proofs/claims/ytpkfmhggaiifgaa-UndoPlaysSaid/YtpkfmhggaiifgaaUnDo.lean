/-
  undo: Do: what it returns, and what it leaves.
-/
import Derived.Test.YtpkfmhggaiifgaaUnWith
import Derived.Test.YtpkfmhggaiifgaaUnSmall
import Derived.StillTailTactics
namespace Go.Proofs.Ytpkfmhggaiifgaa
open Go.RowKit

/-- The five cells of an undo's block, whatever they are. -/
def blk5 (w : World) (U : Nat) (x0 x1 x2 x3 x4 : Value) : Prop := w.heap[U]? = some (.cells #[x0, x1, x2, x3, x4] 55 (0, 0))
section
variable {w : World} {U : Nat} {x0 x1 x2 x3 x4 : Value}
theorem blk5.lt (h : blk5 w U x0 x1 x2 x3 x4) : U < w.heap.size := (Array.getElem?_eq_some_iff.1 h).1
theorem blk5.set (h : blk5 w U x0 x1 x2 x3 x4) (i : Nat) (v : Value) : (w.setCell ⟨U, i, none⟩ v).heap[U]? = some (.cells (#[x0, x1, x2, x3, x4].modify i fun _ => v) 55 (0, 0)) := by
  unfold blk5 at h
  show (w.heap.modify U _)[U]? = _
  have hlt := (Array.getElem?_eq_some_iff.1 h).1
  obtain ⟨_, he⟩ := Array.getElem?_eq_some_iff.1 h
  rw [Array.getElem?_eq_getElem (by rw [Array.size_modify]; exact hlt), Array.getElem_modify_self, he]
  rfl
theorem blk5.set0 (h : blk5 w U x0 x1 x2 x3 x4) (v : Value) : blk5 (w.setCell ⟨U, 0, none⟩ v) U v x1 x2 x3 x4 := h.set 0 v
theorem blk5.set1 (h : blk5 w U x0 x1 x2 x3 x4) (v : Value) : blk5 (w.setCell ⟨U, 1, none⟩ v) U x0 v x2 x3 x4 := h.set 1 v
theorem blk5.set2 (h : blk5 w U x0 x1 x2 x3 x4) (v : Value) : blk5 (w.setCell ⟨U, 2, none⟩ v) U x0 x1 v x3 x4 := h.set 2 v
theorem blk5.set3 (h : blk5 w U x0 x1 x2 x3 x4) (v : Value) : blk5 (w.setCell ⟨U, 3, none⟩ v) U x0 x1 x2 v x4 := h.set 3 v
theorem blk5.set4 (h : blk5 w U x0 x1 x2 x3 x4) (v : Value) : blk5 (w.setCell ⟨U, 4, none⟩ v) U x0 x1 x2 x3 v := h.set 4 v
theorem blk5.cells (h : blk5 w U x0 x1 x2 x3 x4) : (w.cell? ⟨U, 0, none⟩ = some x0 ∧ w.cell? ⟨U, 1, none⟩ = some x1 ∧ w.cell? ⟨U, 2, none⟩ = some x2 ∧ w.cell? ⟨U, 3, none⟩ = some x3 ∧ w.cell? ⟨U, 4, none⟩ = some x4) ∧ ∀ o, w.frozen? ⟨U, o, none⟩ = false := by
  unfold blk5 at h
  refine ⟨⟨?_, ?_, ?_, ?_, ?_⟩, fun o => ?_⟩ <;> first | (unfold World.cell?; rw [h]; rfl) | (unfold World.frozen?; rw [h]; simp)
end

section
variable {ok : Nat → Prop} {U : Nat} {u : US} {a d : Value}
theorem udo_none {v : Value} (t : Value) (c g : Int) (w : World) (h : NoneU w v) :
    Calls Try.prog 17 #[v, t, .int .i64 c, .int .i64 g] w fun e w' => e = .returned (.bool false) ∧ w' = w := by
  have H := unone_none w h
  go_enter Try.func17, Try.ntmps17
  go_wp2_with fail
  refine H.mono ?_
  rintro e w' ⟨rfl, rfl⟩
  go_wp2
  go_ret
  exact ⟨rfl, rfl⟩
theorem udo_nil (c g : Int) (w : World) (h : UndoW ok w U u a d) :
    Calls Try.prog 17 #[.pointer (some ⟨U, 0, none⟩), .pointer none, .int .i64 c, .int .i64 g] w fun e w' => e = .returned (.bool false) ∧ w' = w := by
  have H := unone_some w h
  go_enter Try.func17, Try.ntmps17
  go_wp2_with fail
  refine H.mono ?_
  rintro e w' ⟨rfl, rfl⟩
  go_wp2
  go_ret
  exact ⟨rfl, rfl⟩

/-- It is open for the group: what is now becomes that state. -/
theorem udo_open (b : Nat) (s : ByteArray) (c g : Int) (w : World) (h : UndoW ok w U u a d) (hT : TextP ok w b s) (ho : openB u g = true) :
    Calls Try.prog 17 #[.pointer (some ⟨U, 0, none⟩), .pointer (some ⟨b, 0, none⟩), .int .i64 c, .int .i64 g] w fun e w' => e = .returned (.bool true) ∧ UndoW ok w' U (doU u (b, s, c) g) a (.slice none 0 0) ∧ KeepW (fun k => k ≠ U) w w' := by
  have H := unone_some w h
  have H2 := uopen_any g w h
  rw [ho] at H2
  have hop : 0 < g ∧ g = u.group := of_decide_eq_true ho
  have hk : blk5 w U (.pointer (some ⟨u.now.1, 0, none⟩)) (.int .i64 u.now.2.2) a d (.int .i64 u.group) := h.blk
  have hlt := hk.lt
  obtain ⟨⟨c0, c1, c2, c3, c4⟩, f⟩ := hk.cells
  have f0 := f 0
  have f1 := f 1
  have f3 := f 3
  have f4 := f 4
  have Y : Hid (UndoW ok ((((w.setCell ⟨U, 0, none⟩ (.pointer (some ⟨b, 0, none⟩))).setCell ⟨U, 1, none⟩ (.int .i64 c)).setCell ⟨U, 3, none⟩ (.slice none 0 0)).setCell ⟨U, 4, none⟩ (.int .i64 g)) U (doU u (b, s, c) g) a (.slice none 0 0) ∧ KeepW (fun k => k ≠ U) w ((((w.setCell ⟨U, 0, none⟩ (.pointer (some ⟨b, 0, none⟩))).setCell ⟨U, 1, none⟩ (.int .i64 c)).setCell ⟨U, 3, none⟩ (.slice none 0 0)).setCell ⟨U, 4, none⟩ (.int .i64 g))) := by
    have hK : ∀ ok : Nat → Prop, ¬ ok U → KeepW ok w ((((w.setCell ⟨U, 0, none⟩ (.pointer (some ⟨b, 0, none⟩))).setCell ⟨U, 1, none⟩ (.int .i64 c)).setCell ⟨U, 3, none⟩ (.slice none 0 0)).setCell ⟨U, 4, none⟩ (.int .i64 g)) := fun ok ho =>
      (((keep_set _ _ _ _ _ ho).trans (keep_set _ _ _ _ _ ho)).trans (keep_set _ _ _ _ _ ho)).trans (keep_set _ _ _ _ _ ho)
    refine ⟨?_, hK _ fun k => k rfl⟩
    unfold doU
    rw [if_pos hop]
    exact ⟨(((hk.set0 _).set1 _).set3 _).set4 _, h.out, hT.keepW (hK _ h.out), h.was.keepW (hK _ h.out), StatesW.nil _ _, by have := h.few; simp; omega⟩
  clear h hT hk f hop ho
  go_enter Try.func17, Try.ntmps17
  go_wp2_with fail
  refine H.mono ?_
  rintro e w' ⟨rfl, rfl⟩
  go_wp2_with fail
  refine H2.mono ?_
  rintro e w' ⟨rfl, rfl⟩
  go_wp2
  go_ret
  exact ⟨rfl, Y.out⟩

set_option maxHeartbeats 1000000 in
/-- It is not: what is now is one that was. -/
theorem udo_push (b : Nat) (s : ByteArray) (c g : Int) (w : World) (h : UndoW ok w U u a d) (hT : TextP ok w b s) (ho : openB u g = false) (hok : ∀ k, w.heap.size ≤ k → ok k) :
    Calls Try.prog 17 #[.pointer (some ⟨U, 0, none⟩), .pointer (some ⟨b, 0, none⟩), .int .i64 c, .int .i64 g] w fun e w' => e = .returned (.bool true) ∧ (∃ a', UndoW ok w' U (doU u (b, s, c) g) a' (.slice none 0 0)) ∧ KeepW (fun k => k ≠ U) w w' := by
  have H := unone_some w h
  have H2 := uopen_any g w h
  rw [ho] at H2
  have hop : ¬ (0 < g ∧ g = u.group) := of_decide_eq_false ho
  have hk : blk5 w U (.pointer (some ⟨u.now.1, 0, none⟩)) (.int .i64 u.now.2.2) a d (.int .i64 u.group) := h.blk
  have hlt := hk.lt
  obtain ⟨⟨c0, c1, c2, c3, c4⟩, f⟩ := hk.cells
  have H3 : Hid (∀ W, Below w.heap.size w W → Calls Try.prog 28 #[a, .agg #[.pointer (some ⟨u.now.1, 0, none⟩), .int .i64 u.now.2.2]] W fun e w' => ∃ v', e = .returned v' ∧ StatesW ok w' v' (pushU u.was u.now) ∧ Below w.heap.size w w') := fun W hW =>
    (uwith_any u.now.1 u.now.2.1 u.now.2.2 W (h.was.keepW (keep_below ok hW)) (h.text.keepW (keep_below ok hW)) (by have := h.few; omega) (fun k hk => hok k (Nat.le_trans hW.size hk))).mono fun e w' ⟨v', h1, h2, h3⟩ => ⟨v', h1, h2, hW.trans (h3.mono hW.size)⟩
  have Y : Hid (∀ W v', Below w.heap.size w W → StatesW ok W v' (pushU u.was u.now) → 
      ((W.cell? ⟨U, 0, none⟩ = some (.pointer (some ⟨u.now.1, 0, none⟩)) ∧ W.cell? ⟨U, 1, none⟩ = some (.int .i64 u.now.2.2) ∧ W.cell? ⟨U, 2, none⟩ = some a ∧ W.cell? ⟨U, 3, none⟩ = some d ∧ W.cell? ⟨U, 4, none⟩ = some (.int .i64 u.group)) ∧
       (W.frozen? ⟨U, 0, none⟩ = false ∧ W.frozen? ⟨U, 1, none⟩ = false ∧ W.frozen? ⟨U, 2, none⟩ = false ∧ W.frozen? ⟨U, 3, none⟩ = false ∧ W.frozen? ⟨U, 4, none⟩ = false)) ∧
      (∃ a', UndoW ok (((((W.setCell ⟨U, 2, none⟩ v').setCell ⟨U, 0, none⟩ (.pointer (some ⟨b, 0, none⟩))).setCell ⟨U, 1, none⟩ (.int .i64 c)).setCell ⟨U, 3, none⟩ (.slice none 0 0)).setCell ⟨U, 4, none⟩ (.int .i64 g)) U (doU u (b, s, c) g) a' (.slice none 0 0)) ∧
      KeepW (fun k => k ≠ U) w (((((W.setCell ⟨U, 2, none⟩ v').setCell ⟨U, 0, none⟩ (.pointer (some ⟨b, 0, none⟩))).setCell ⟨U, 1, none⟩ (.int .i64 c)).setCell ⟨U, 3, none⟩ (.slice none 0 0)).setCell ⟨U, 4, none⟩ (.int .i64 g))) := fun W v' hb hv => by
    have hkW : blk5 W U (.pointer (some ⟨u.now.1, 0, none⟩)) (.int .i64 u.now.2.2) a d (.int .i64 u.group) := (hb.block U hlt).trans hk
    obtain ⟨cW, fW⟩ := hkW.cells
    have hK : ∀ ok : Nat → Prop, ¬ ok U → KeepW ok W (((((W.setCell ⟨U, 2, none⟩ v').setCell ⟨U, 0, none⟩ (.pointer (some ⟨b, 0, none⟩))).setCell ⟨U, 1, none⟩ (.int .i64 c)).setCell ⟨U, 3, none⟩ (.slice none 0 0)).setCell ⟨U, 4, none⟩ (.int .i64 g)) := fun ok ho =>
      ((((keep_set _ _ _ _ _ ho).trans (keep_set _ _ _ _ _ ho)).trans (keep_set _ _ _ _ _ ho)).trans (keep_set _ _ _ _ _ ho)).trans (keep_set _ _ _ _ _ ho)
    refine ⟨⟨cW, fW 0, fW 1, fW 2, fW 3, fW 4⟩, ⟨v', ?_⟩, (keep_below _ hb).trans (hK _ fun k => k rfl)⟩
    unfold doU
    rw [if_neg hop]
    exact ⟨((((hkW.set2 _).set0 _).set1 _).set3 _).set4 _, h.out, hT.keepW ((keep_below _ hb).trans (hK _ h.out)), hv.keepW (hK _ h.out), StatesW.nil _ _, by have := pushU_len u.was u.now (by have := h.few; omega); simp; omega⟩
  obtain ⟨nb, hnb⟩ : ∃ nb, u.now.1 = nb := ⟨_, rfl⟩
  obtain ⟨nc, hnc⟩ : ∃ nc, u.now.2.2 = nc := ⟨_, rfl⟩
  obtain ⟨ug, hug⟩ : ∃ ug, u.group = ug := ⟨_, rfl⟩
  rw [hnb] at c0 H3 Y
  rw [hnc] at c1 H3 Y
  rw [hug] at c4 Y
  clear h hT hk f hop ho hnb hnc hug
  go_enter Try.func17, Try.ntmps17
  go_wp2_with fail
  refine H.mono ?_
  rintro e w' ⟨rfl, rfl⟩
  go_wp2_with fail
  refine H2.mono ?_
  rintro e w' ⟨rfl, rfl⟩
  go_wp2
  go_region_with
    ((go_at_call 28; go_must (go_fit (H3.out _ ?_)); exact ⟨rfl, rfl, rfl, Nat.le_refl _, fun _ _ => rfl⟩; rintro e w2 ⟨v2, rfl, hv2, hb2⟩; obtain ⟨⟨⟨q0, q1, q2, q3, q4⟩, r0, r1, r2, r3, r4⟩, Z⟩ := Y.out w2 v2 hb2 hv2; have HZ := Lib.hid Z; clear Z; obtain ⟨ao2, cp2, rfl, hq⟩ := hv2.1; clear hq hv2 hb2))
  all_goals clear H H2 H3 Y
  all_goals go_wp2
  all_goals go_ret
  all_goals exact ⟨rfl, HZ.out⟩
theorem udo_any (b : Nat) (s : ByteArray) (c g : Int) (w : World) (h : UndoW ok w U u a d) (hT : TextP ok w b s) (hok : ∀ k, w.heap.size ≤ k → ok k) :
    Calls Try.prog 17 #[.pointer (some ⟨U, 0, none⟩), .pointer (some ⟨b, 0, none⟩), .int .i64 c, .int .i64 g] w fun e w' => e = .returned (.bool true) ∧ (∃ a' d', UndoW ok w' U (doU u (b, s, c) g) a' d') ∧ KeepW (fun k => k ≠ U) w w' := by
  cases ho : openB u g
  · exact (udo_push b s c g w h hT ho hok).mono fun e w' ⟨h1, ⟨a', h2⟩, h3⟩ => ⟨h1, ⟨a', _, h2⟩, h3⟩
  · exact (udo_open b s c g w h hT ho).mono fun e w' ⟨h1, h2, h3⟩ => ⟨h1, ⟨_, _, h2⟩, h3⟩
end
end Go.Proofs.Ytpkfmhggaiifgaa
