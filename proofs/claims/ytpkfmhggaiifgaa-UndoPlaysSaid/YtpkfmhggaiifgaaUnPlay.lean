/-
  The program's undo and the document's, side by side: that each act leaves them alike. No new call is walked here.
-/
import Derived.Test.YtpkfmhggaiifgaaUnDone
import Derived.Test.YtpkfmhggaiifgaaUnList
import Derived.Test.YtpkfmhggaiifgaaUnRefDo
namespace Go.Proofs.Ytpkfmhggaiifgaa
open Go.RowKit

/-- The blocks of neither. -/
abbrev okUR (U R : Nat) : Nat → Prop := fun k => k ≠ U ∧ k ≠ R
/-- Both, alike. -/
structure PlayI (w wr : World) (U R : Nat) (u : US) (L : List (ByteArray × Int)) (t : Nat) (op : Int) : Prop where
  e : UndoE (okUR U R) wr U u
  r : ∃ sl, RefW (okUR U R) wr R L t op sl
  list : LU u = L
  at_ : u.was.length = t
  grp : op = if 0 < u.group then u.group else 0
  below : Below w.heap.size w wr
  hU : w.heap.size ≤ U
  hR : w.heap.size ≤ R
  ne : U ≠ R
  lU : U < wr.heap.size
  lR : R < wr.heap.size
section
variable {w wr : World} {U R t : Nat} {u : US} {L : List (ByteArray × Int)} {op : Int}

theorem PlayI.mono (h : PlayI w wr U R u L t op) {W : World} (hb : Below wr.heap.size wr W) : PlayI w W U R u L t op := by
  obtain ⟨a, d, hu⟩ := h.e
  obtain ⟨sl, hr⟩ := h.r
  have hs := hb.size
  have h1 := h.lU
  have h2 := h.lR
  have h3 := h.below.size
  exact ⟨⟨a, d, hu.below hb⟩, ⟨sl, hr.below hb⟩, h.list, h.at_, h.grp, h.below.trans (hb.mono h3), h.hU, h.hR, h.ne, by omega, by omega⟩
theorem PlayI.ok (h : PlayI w wr U R u L t op) : ∀ k, wr.heap.size ≤ k → okUR U R k := fun k hk => by
  have h1 := h.lU
  have h2 := h.lR
  exact ⟨by omega, by omega⟩
/-- The one turns, the other stays. -/
theorem ref_stays {W w' : World} {sl : Value} (hne : U ≠ R) (h : RefW (okUR U R) W R L t op sl) (hk : KeepW (fun k => k ≠ U) W w') : RefW (okUR U R) w' R L t op sl :=
  h.keepW (hk.mono fun _ _ h => h.1) (hk.same R h.blk.lt (Ne.symm hne))
theorem undo_stays {W w' : World} {a d : Value} (hne : U ≠ R) (h : UndoW (okUR U R) W U u a d) (hk : KeepW (fun k => k ≠ R) W w') : UndoW (okUR U R) w' U u a d :=
  h.keepW (hk.mono fun _ _ h => h.2) (hk.same U h.lt hne)
theorem keep_ok1 {a b : World} (h : KeepW (fun k => k ≠ U) a b) : KeepW (okUR U R) a b := h.mono fun _ _ h => h.1
theorem keep_ok2 {a b : World} (h : KeepW (fun k => k ≠ R) a b) : KeepW (okUR U R) a b := h.mono fun _ _ h => h.2

theorem play_now (h : PlayI w wr U R u L t op) : L[t]? = some (u.now.2.1, u.now.2.2) := by rw [← h.list, ← h.at_]; exact LU_now u
theorem play_len (h : PlayI w wr U R u L t op) : (u.undone.length : Int) = (L.length : Int) - 1 - (t : Int) := by
  have := LU_len u
  rw [h.list, h.at_] at this; omega

/-- Back, where there is a state that was. -/
theorem play_back (h : PlayI w wr U R u L t op) (ht : 0 < t) : ∃ b s c, Calls Try.prog 12 #[.pointer (some ⟨U, 0, none⟩)] wr fun e w1 => e = .returned (.tuple #[.pointer (some ⟨b, 0, none⟩), .int .i64 c, .bool true]) ∧
    Hid (Calls Try.prog 13 #[.pointer (some ⟨R, 0, none⟩), .int .i64 (-1)] w1 fun e w2 => e = .returned (.tuple #[.agg #[.string s, .int .i64 c], .bool true]) ∧
      Hid ((∃ u' L' t' op', PlayI w w2 U R u' L' t' op') ∧ TextP (okUR U R) w2 b s)) := by
  obtain ⟨a, d, hu⟩ := h.e
  obtain ⟨sl, hr⟩ := h.r
  have h1 := h.lU
  have h2 := h.lR
  have h3 := h.hU
  have h4 := h.hR
  have hbs := h.below.size
  have hat := h.at_
  rcases List.eq_nil_or_concat u.was with h0 | ⟨ps, p, h0⟩
  · rw [h0] at hat; simp at hat; omega
  · rw [List.concat_eq_append] at h0
    obtain ⟨q1, q2⟩ := LU_undo h0 hu.few
    have hp : L[t - 1]? = some (p.2.1, p.2.2) := by
      have e := LU_now (undoU u p)
      rw [q1, h.list, show (undoU u p).was.length = t - 1 by omega] at e
      exact e
    refine ⟨p.1, p.2.1, p.2.2, (uundo_some wr hu h0 h.ok).mono fun e w1 ⟨r1, r2, r3⟩ => ⟨r1, ?_⟩⟩
    have s1 := r3.size
    refine Lib.hid ((rgo_yes (t - 1) (-1) w1 (ref_stays h.ne hr r3) (by omega) (by omega) hp).mono fun e w2 ⟨r4, r5, r6⟩ => ⟨r4, ?_⟩)
    have s2 := r6.size
    obtain ⟨a', d', r2⟩ := r2
    have hu2 := undo_stays h.ne r2 r6
    exact Lib.hid ⟨⟨_, L, t - 1, 0, ⟨a', d', hu2⟩, ⟨sl, r5⟩, by rw [q1, h.list], by omega, rfl, below_keep (below_keep h.below r3 h3 hbs) r6 h4 (by omega), h3, h4, h.ne, by omega, by omega⟩, hu2.text⟩
theorem play_back_no (h : PlayI w wr U R u L t op) (ht : t = 0) : Calls Try.prog 12 #[.pointer (some ⟨U, 0, none⟩)] wr fun e w1 => e = .returned (.tuple #[.pointer none, .int .i64 0, .bool false]) ∧
    Hid (Calls Try.prog 13 #[.pointer (some ⟨R, 0, none⟩), .int .i64 (-1)] w1 fun e w2 => e = .returned (.tuple #[.agg #[.string ⟨#[]⟩, .int .i64 0], .bool false]) ∧
      Hid (∃ u' L' t' op', PlayI w w2 U R u' L' t' op')) := by
  obtain ⟨a, d, hu⟩ := h.e
  refine (uundo_empty wr hu (List.eq_nil_of_length_eq_zero (by rw [h.at_, ht]))).mono fun e w1 ⟨r1, r2⟩ => ⟨r1, ?_⟩
  have h1 := h.mono r2
  obtain ⟨sl, hr⟩ := h1.r
  exact Lib.hid ((rgo_no (-1) (-1) w1 hr (by omega) (by omega) (by omega)).mono fun e w2 ⟨r4, r5⟩ => ⟨r4, _, _, _, _, h1.mono r5⟩)
theorem play_forth (h : PlayI w wr U R u L t op) (ht : t + 1 < L.length) : ∃ b s c, Calls Try.prog 11 #[.pointer (some ⟨U, 0, none⟩)] wr fun e w1 => e = .returned (.tuple #[.pointer (some ⟨b, 0, none⟩), .int .i64 c, .bool true]) ∧
    Hid (Calls Try.prog 13 #[.pointer (some ⟨R, 0, none⟩), .int .i64 1] w1 fun e w2 => e = .returned (.tuple #[.agg #[.string s, .int .i64 c], .bool true]) ∧
      Hid ((∃ u' L' t' op', PlayI w w2 U R u' L' t' op') ∧ TextP (okUR U R) w2 b s)) := by
  obtain ⟨a, d, hu⟩ := h.e
  obtain ⟨sl, hr⟩ := h.r
  have h1 := h.lU
  have h2 := h.lR
  have h3 := h.hU
  have h4 := h.hR
  have hbs := h.below.size
  have hat := h.at_
  have hlen := play_len h
  rcases List.eq_nil_or_concat u.undone with h0 | ⟨ps, p, h0⟩
  · rw [h0] at hlen; simp at hlen; omega
  · rw [List.concat_eq_append] at h0
    obtain ⟨q1, q2⟩ := LU_redo h0 hu.few
    have hp : L[t + 1]? = some (p.2.1, p.2.2) := by
      have e := LU_now (redoU u p)
      rw [q1, h.list, q2, hat] at e
      exact e
    refine ⟨p.1, p.2.1, p.2.2, (uredo_some wr hu h0 h.ok).mono fun e w1 ⟨r1, r2, r3⟩ => ⟨r1, ?_⟩⟩
    have s1 := r3.size
    refine Lib.hid ((rgo_yes (t + 1) 1 w1 (ref_stays h.ne hr r3) (by omega) (by omega) hp).mono fun e w2 ⟨r4, r5, r6⟩ => ⟨r4, ?_⟩)
    have s2 := r6.size
    obtain ⟨a', d', r2⟩ := r2
    have hu2 := undo_stays h.ne r2 r6
    exact Lib.hid ⟨⟨_, L, t + 1, 0, ⟨a', d', hu2⟩, ⟨sl, r5⟩, by rw [q1, h.list], by omega, rfl, below_keep (below_keep h.below r3 h3 hbs) r6 h4 (by omega), h3, h4, h.ne, by omega, by omega⟩, hu2.text⟩
theorem play_forth_no (h : PlayI w wr U R u L t op) (ht : ¬ t + 1 < L.length) : Calls Try.prog 11 #[.pointer (some ⟨U, 0, none⟩)] wr fun e w1 => e = .returned (.tuple #[.pointer none, .int .i64 0, .bool false]) ∧
    Hid (Calls Try.prog 13 #[.pointer (some ⟨R, 0, none⟩), .int .i64 1] w1 fun e w2 => e = .returned (.tuple #[.agg #[.string ⟨#[]⟩, .int .i64 0], .bool false]) ∧
      Hid (∃ u' L' t' op', PlayI w w2 U R u' L' t' op')) := by
  obtain ⟨a, d, hu⟩ := h.e
  have hlen := play_len h
  have hnow := (List.getElem?_eq_some_iff.1 (play_now h)).1
  refine (uredo_empty wr hu (List.eq_nil_of_length_eq_zero (by omega))).mono fun e w1 ⟨r1, r2⟩ => ⟨r1, ?_⟩
  have h1 := h.mono r2
  obtain ⟨sl, hr⟩ := h1.r
  exact Lib.hid ((rgo_no 1 ((t : Int) + 1) w1 hr rfl (by omega) (.inr (by omega))).mono fun e w2 ⟨r4, r5⟩ => ⟨r4, _, _, _, _, h1.mono r5⟩)
theorem play_move (c : Int) (h : PlayI w wr U R u L t op) : Calls Try.prog 15 #[.pointer (some ⟨U, 0, none⟩), .int .i64 c] wr fun e w1 => e = .returned (.tuple #[]) ∧ KeepW (okUR U R) wr w1 ∧
    Hid (Calls Try.prog 16 #[.pointer (some ⟨R, 0, none⟩), .int .i64 c] w1 fun e w2 => e = .returned (.tuple #[]) ∧ Hid (∃ u' L' t' op', PlayI w w2 U R u' L' t' op')) := by
  obtain ⟨a, d, hu⟩ := h.e
  obtain ⟨sl, hr⟩ := h.r
  have h1 := h.lU
  have h2 := h.lR
  have h3 := h.hU
  have h4 := h.hR
  have hbs := h.below.size
  have hnow := play_now h
  refine (umove_any c wr hu).mono fun e w1 ⟨r1, r2, r3⟩ => ⟨r1, keep_ok1 r3, ?_⟩
  have s1 := r3.size
  refine Lib.hid ((rmove_any c w1 (ref_stays h.ne hr r3) hnow (fun k hk => h.ok k (by omega))).mono fun e w2 ⟨r4, ⟨sl', r5⟩, r6⟩ => ⟨r4, ?_⟩)
  have s2 := r6.size
  exact Lib.hid ⟨moveU u c, _, t, op, ⟨a, d, undo_stays h.ne r2 r6⟩, ⟨sl', r5⟩, by rw [LU_move, h.list, h.at_], h.at_, h.grp, below_keep (below_keep h.below r3 h3 hbs) r6 h4 (by omega), h3, h4, h.ne, by omega, by omega⟩
theorem play_do {s : ByteArray} (c g : Int) (h : PlayI w wr U R u L t op) : ∀ W, Below wr.heap.size wr W → ∀ b, TextP (okUR U R) W b s →
    Calls Try.prog 17 #[.pointer (some ⟨U, 0, none⟩), .pointer (some ⟨b, 0, none⟩), .int .i64 c, .int .i64 g] W fun e w1 => e = .returned (.bool true) ∧ KeepW (okUR U R) wr w1 ∧
      Hid (∀ W2, Below w1.heap.size w1 W2 → Calls Try.prog 19 #[.pointer (some ⟨R, 0, none⟩), .string s, .int .i64 c, .int .i64 g] W2 fun e w2 => e = .returned (.tuple #[]) ∧ KeepW (okUR U R) wr w2 ∧ Hid (∃ u' L' t' op', PlayI w w2 U R u' L' t' op')) := by
  intro W hW b hT
  have hI := h.mono hW
  obtain ⟨a, d, hu⟩ := hI.e
  obtain ⟨sl, hr⟩ := hI.r
  have h1 := hI.lU
  have h2 := hI.lR
  have h3 := hI.hU
  have h4 := hI.hR
  have hbs := hI.below.size
  refine (udo_any b s c g W hu hT hI.ok).mono fun e w1 ⟨r1, ⟨a', d', r2⟩, r3⟩ => ⟨r1, (keep_below _ hW).trans (keep_ok1 r3), ?_⟩
  have s1 := r3.size
  refine Lib.hid fun W2 hW2 => ?_
  have s2 := hW2.size
  refine (rdo_any s c g W2 ((ref_stays hI.ne hr r3).below hW2) (fun k hk => hI.ok k (by omega))).mono fun e w2 ⟨r4, ⟨sl', r5⟩, r6⟩ => ⟨r4, (((keep_below _ hW).trans (keep_ok1 r3)).trans (keep_below _ hW2)).trans (keep_ok2 r6), ?_⟩
  have s3 := r6.size
  have hu2 := undo_stays hI.ne (r2.below hW2) r6
  have hb1 := below_keep hI.below r3 h3 hbs
  have hb2 : Below w.heap.size w W2 := hb1.trans (hW2.mono (by omega))
  have hb3 := below_keep hb2 r6 h4 (by omega)
  have hgr := h.grp
  by_cases ho : 0 < g ∧ g = u.group
  · obtain ⟨q1, q2, q3⟩ := LU_open (u := u) (p := (b, s, c)) ho
    have ho' : 0 < g ∧ op = g := ⟨ho.1, by rw [hgr, ← ho.2, if_pos ho.1]⟩
    rw [if_pos ho', if_pos ho'] at r5
    exact Lib.hid ⟨_, _, t, _, ⟨a', d', hu2⟩, ⟨sl', r5⟩, by rw [q1, h.list, h.at_], by rw [q2, h.at_], by unfold doU; rw [if_pos ho], hb3, h3, h4, h.ne, by omega, by omega⟩
  · have hf := hu.few
    obtain ⟨q1, q2, q3⟩ := LU_push (u := u) (p := (b, s, c)) ho (by omega)
    have ho' : ¬ (0 < g ∧ op = g) := fun k => by
      rw [hgr] at k
      by_cases hug : 0 < u.group
      · rw [if_pos hug] at k; exact ho ⟨k.1, k.2.symm⟩
      · rw [if_neg hug] at k; omega
    rw [if_neg ho', if_neg ho'] at r5
    exact Lib.hid ⟨_, _, _, _, ⟨a', d', hu2⟩, ⟨sl', r5⟩, by rw [q1, h.list, h.at_], by rw [q2, h.at_], by unfold doU; rw [if_neg ho], hb3, h3, h4, h.ne, by omega, by omega⟩
end
end Go.Proofs.Ytpkfmhggaiifgaa
