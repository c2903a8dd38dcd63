/-
  For every row of at most 120 bytes: each of the changes to these texts is undone, in turn, and done again, as far as they are kept; so the law returns true. A longer row: the examples alone, as the law says. No condition.
-/
import Derived.Test.YtpkfmhggaiifgaaUnDone
import Derived.Test.YtpkfmhggaiifgaaUnOpen
import Derived.Test.YtpkfmhggaiifgaaUnList
namespace Go.Proofs.Ytpkfmhggaiifgaa
open Go.ChangeShapes Go.WideShapes Go.ChangeAt Go.RowKit

/-- A run of states. -/
def segH (h : Nat → ByteArray × Int) (lo m : Nat) : List (ByteArray × Int) := (List.range' lo m).map h
theorem seg_len (h : Nat → ByteArray × Int) (lo m : Nat) : (segH h lo m).length = m := by unfold segH; simp
theorem seg_get (h : Nat → ByteArray × Int) (lo m j : Nat) (hj : j < m) : (segH h lo m)[j]? = some (h (lo + j)) := by
  unfold segH
  rw [List.getElem?_map, List.getElem?_range' (by omega)]
  simp
theorem seg_none (h : Nat → ByteArray × Int) (lo m j : Nat) (hj : m ≤ j) : (segH h lo m)[j]? = none := List.getElem?_eq_none (by rw [seg_len]; exact hj)
theorem seg_next (h : Nat → ByteArray × Int) (lo m : Nat) : segH h lo m ++ [h (lo + m)] = segH h lo (m + 1) := by
  unfold segH
  rw [List.range'_concat, List.map_append]
  simp
theorem seg_drop (h : Nat → ByteArray × Int) (lo m d : Nat) : (segH h lo m).drop d = segH h (lo + d) (m - d) := by
  apply List.ext_getElem?
  intro j
  rw [List.getElem?_drop]
  by_cases hj : d + j < m
  · rw [seg_get _ _ _ _ hj, seg_get _ _ _ _ (by omega), Nat.add_assoc]
  · rw [seg_none _ _ _ _ (by omega), seg_none _ _ _ _ (by omega)]

/-- The state that k changes lead to. -/
def hstL (l : List Int) (k : Nat) : ByteArray × Int := (if k = 0 then ⟨#[]⟩ else letterB (l[k - 1]?.getD 0), (k : Int))
theorem hstL_zero (l : List Int) : hstL l 0 = (⟨#[]⟩, 0) := rfl
theorem hstL_next (l : List Int) (i : Nat) (x : Int) (h : l[i]? = some x) : hstL l (i + 1) = (letterB x, (i : Int) + 1) := by
  unfold hstL
  rw [if_neg (by omega), Nat.add_sub_cancel, h]
  rfl

/-- Of the states from lo to n the one with the number c is now. -/
def BkI (w wr : World) (U : Nat) (h : Nat → ByteArray × Int) (lo n c : Nat) : Prop :=
  ∃ u, UndoE (fun k => k ≠ U) wr U u ∧ LU u = segH h lo (n + 1 - lo) ∧ u.was.length = c - lo ∧ Below w.heap.size w wr ∧ w.heap.size ≤ U ∧ U < wr.heap.size ∧ lo ≤ c ∧ c ≤ n

theorem bk_push {w wr W : World} {U i b : Nat} {h : Nat → ByteArray × Int} {s : ByteArray} {c g : Int} (hI : BkI w wr U h (i - 100) i i) (hW : Below wr.heap.size wr W) (hT : TextP (fun k => k ≠ U) W b s) (hc : h (i + 1) = (s, c)) (hg : g ≤ 0) :
    Calls Try.prog 17 #[.pointer (some ⟨U, 0, none⟩), .pointer (some ⟨b, 0, none⟩), .int .i64 c, .int .i64 g] W fun e w' => e = .returned (.bool true) ∧ Hid (BkI w w' U h (i + 1 - 100) (i + 1) (i + 1)) := by
  obtain ⟨u, ⟨a, d, hu⟩, hL, hn, hb, h1, h2, _, _⟩ := hI
  have hs := hW.size
  refine (udo_any b s c g W (hu.below hW) hT (fun k hk => by omega)).mono fun e w' ⟨q1, q2, q3⟩ => ⟨q1, ?_⟩
  have hs3 := q3.size
  have hf := hu.few
  obtain ⟨p1, p2, p3⟩ := LU_push (u := u) (p := (b, s, c)) (g := g) (fun k => by omega) (by omega)
  refine ⟨_, q2, ?_, ?_, below_keep (hb.trans (hW.mono (by omega))) q3 h1 (by omega), h1, by omega, by omega, Nat.le_refl _⟩
  · rw [p1, hL, List.take_of_length_le (by rw [seg_len]; omega)]
    show (segH h (i - 100) (i + 1 - (i - 100)) ++ [(s, c)]).drop _ = _
    obtain ⟨m, hm⟩ : ∃ m, i + 1 - (i - 100) = m := ⟨_, rfl⟩
    have e : h (i + 1) = h ((i - 100) + m) := by congr 1; omega
    rw [← hc, hm, e, seg_next, seg_drop]
    congr 1 <;> omega
  · rw [p2, hn]; omega
theorem bk_undo {w wr : World} {U lo n c : Nat} {h : Nat → ByteArray × Int} {s : ByteArray} {x : Int} (hI : BkI w wr U h lo n (c + 1)) (hlo : lo ≤ c) (hc : h c = (s, x)) :
    ∃ b, Calls Try.prog 12 #[.pointer (some ⟨U, 0, none⟩)] wr fun e w' => e = .returned (.tuple #[.pointer (some ⟨b, 0, none⟩), .int .i64 x, .bool true]) ∧ Hid (BkI w w' U h lo n c ∧ TextP (fun k => k ≠ U) w' b s) := by
  obtain ⟨u, ⟨a, d, hu⟩, hL, hn, hb, h1, h2, h3, h4⟩ := hI
  rcases List.eq_nil_or_concat u.was with h0 | ⟨ps, p, h0⟩
  · rw [h0] at hn; simp at hn; omega
  · rw [List.concat_eq_append] at h0
    obtain ⟨q1, q2⟩ := LU_undo h0 hu.few
    have hp : p.2 = (s, x) := by
      have e := LU_now (undoU u p)
      rw [q1, hL, seg_get _ _ _ _ (by omega), show lo + (undoU u p).was.length = c by omega, hc] at e
      exact (Option.some.inj e).symm
    have hp1 : p.2.1 = s := by rw [hp]
    have hp2 : p.2.2 = x := by rw [hp]
    refine ⟨p.1, (uundo_some wr hu h0 (fun k hk => by omega)).mono fun e w' ⟨r1, r2, r3⟩ => ⟨by rw [r1, hp2], ⟨_, r2, by rw [q1, hL], by omega, below_keep hb r3 h1 (by omega), h1, by have := r3.size; omega, hlo, by omega⟩, ?_⟩⟩
    obtain ⟨a', d', r2⟩ := r2
    have := r2.text
    rw [← hp1]; exact this
theorem bk_redo {w wr : World} {U lo n c : Nat} {h : Nat → ByteArray × Int} {s : ByteArray} {x : Int} (hI : BkI w wr U h lo n c) (hlo : c < n) (hc : h (c + 1) = (s, x)) :
    ∃ b, Calls Try.prog 11 #[.pointer (some ⟨U, 0, none⟩)] wr fun e w' => e = .returned (.tuple #[.pointer (some ⟨b, 0, none⟩), .int .i64 x, .bool true]) ∧ Hid (BkI w w' U h lo n (c + 1) ∧ TextP (fun k => k ≠ U) w' b s) := by
  obtain ⟨u, ⟨a, d, hu⟩, hL, hn, hb, h1, h2, h3, h4⟩ := hI
  have hl := LU_len u
  rw [hL, seg_len] at hl
  rcases List.eq_nil_or_concat u.undone with h0 | ⟨ps, p, h0⟩
  · rw [h0] at hl; simp at hl; omega
  · rw [List.concat_eq_append] at h0
    obtain ⟨q1, q2⟩ := LU_redo h0 hu.few
    have hp : p.2 = (s, x) := by
      have e := LU_now (redoU u p)
      rw [q1, hL, seg_get _ _ _ _ (by omega), show lo + (redoU u p).was.length = c + 1 by omega, hc] at e
      exact (Option.some.inj e).symm
    have hp1 : p.2.1 = s := by rw [hp]
    have hp2 : p.2.2 = x := by rw [hp]
    refine ⟨p.1, (uredo_some wr hu h0 (fun k hk => by omega)).mono fun e w' ⟨r1, r2, r3⟩ => ⟨by rw [r1, hp2], ⟨_, r2, by rw [q1, hL], by omega, below_keep hb r3 h1 (by omega), h1, by have := r3.size; omega, by omega, by omega⟩, ?_⟩⟩
    obtain ⟨a', d', r2⟩ := r2
    have := r2.text
    rw [← hp1]; exact this
theorem BkI.below' {w wr W : World} {U lo n c : Nat} {h : Nat → ByteArray × Int} (hI : BkI w wr U h lo n c) (hW : Below wr.heap.size wr W) : BkI w W U h lo n c := by
  obtain ⟨u, ⟨a, d, hu⟩, hL, hn, hb, h1, h2, h3, h4⟩ := hI
  have hs := hW.size
  exact ⟨u, ⟨a, d, hu.below hW⟩, hL, hn, hb.trans (hW.mono (by omega)), h1, by omega, h3, h4⟩
theorem bk_front {w wr : World} {U lo n : Nat} {h : Nat → ByteArray × Int} (hI : BkI w wr U h lo n lo) :
    Calls Try.prog 12 #[.pointer (some ⟨U, 0, none⟩)] wr fun e w' => e = .returned (.tuple #[.pointer none, .int .i64 0, .bool false]) ∧ Hid (BkI w w' U h lo n lo) := by
  have hI' := hI
  obtain ⟨u, ⟨a, d, hu⟩, hL, hn, hb, h1, h2, h3, h4⟩ := hI
  exact (uundo_empty wr hu (List.eq_nil_of_length_eq_zero (by omega))).mono fun e w' ⟨r1, r2⟩ => ⟨r1, hI'.below' r2⟩
theorem bk_end {w wr : World} {U lo n : Nat} {h : Nat → ByteArray × Int} (hI : BkI w wr U h lo n n) :
    Calls Try.prog 11 #[.pointer (some ⟨U, 0, none⟩)] wr fun e w' => e = .returned (.tuple #[.pointer none, .int .i64 0, .bool false]) ∧ Hid (BkI w w' U h lo n n) := by
  have hI' := hI
  obtain ⟨u, ⟨a, d, hu⟩, hL, hn, hb, h1, h2, h3, h4⟩ := hI
  have hl := LU_len u
  rw [hL, seg_len] at hl
  exact (uredo_empty wr hu (List.eq_nil_of_length_eq_zero (by omega))).mono fun e w' ⟨r1, r2⟩ => ⟨r1, hI'.below' r2⟩
theorem bk_steps {w wr : World} {U lo n c : Nat} {h : Nat → ByteArray × Int} {x y : Int} (hI : BkI w wr U h lo n c) (hx : ((c - lo : Nat) : Int) = x) (hy : ((n - c : Nat) : Int) = y) :
    Calls Try.prog 22 #[.pointer (some ⟨U, 0, none⟩), .int .i64 x, .int .i64 y] wr fun e w' => e = .returned (.bool true) ∧ Hid (BkI w w' U h lo n c) := by
  have hI' := hI
  obtain ⟨u, ⟨a, d, hu⟩, hL, hn, hb, h1, h2, h3, h4⟩ := hI
  have hl := LU_len u
  rw [hL, seg_len] at hl
  exact (usay_at wr hu (by rw [hn]; exact hx) (by rw [← hy]; omega)).mono fun e w' ⟨r1, r2⟩ => ⟨r1, hI'.below' r2⟩

set_option maxRecDepth 100000 in
set_option maxHeartbeats 1000000 in
theorem undoBack_far (v : Value) (l : List Int) (w : World) (hA : U8sW w v l) (h : 120 < l.length) :
    Calls Try.prog 5 #[v] w fun e w' => e = .returned (.bool true) ∧ Below w.heap.size w w' := by
  obtain ⟨ao, cap, rfl, _⟩ := hA
  have H := Lib.hid (undone_any w)
  have h2 : 120 < (l.length : Int) := by omega
  go_enter Try.func5, Try.ntmps5
  go_wp2_with fail
  go_fit H.out
  rintro e w3 ⟨rfl, b3⟩
  go_wp2
  go_ret
  exact ⟨rfl, b3⟩

set_option maxRecDepth 100000 in
set_option maxHeartbeats 8000000 in
theorem undoBack_near (v : Value) (l : List Int) (w : World) (hA : U8sW w v l) (h : l.length ≤ 120) :
    Calls Try.prog 5 #[v] w fun e w' => e = .returned (.bool true) ∧ Below w.heap.size w w' := by
  have HA0 : ∃ ao cap, v = .slice ao l.length cap ∧ Hid (∀ W, Below w.heap.size w W → ∀ (i : Nat) x, l[i]? = some x → 0 ≤ x ∧ x ≤ 255 ∧ ∃ g o, ao = some ⟨g, o, none⟩ ∧ W.cell? ⟨g, o + i, none⟩ = some (.int .u8 x)) := by
    obtain ⟨ao, cap, hv, _⟩ := id hA
    refine ⟨ao, cap, hv, fun W hW => ?_⟩
    obtain ⟨ao', cap', hv', hc⟩ := hA.below hW
    rw [hv] at hv'
    cases hv'
    exact hc
  obtain ⟨ao, cap, rfl, HA⟩ := HA0
  have HG : Hid (∀ i, i < l.length → ∃ x, l[i]? = some x) := fun i hi => ⟨_, List.getElem?_eq_getElem hi⟩
  clear hA
  obtain ⟨n, hn⟩ : ∃ n, l.length = n := ⟨_, rfl⟩
  rw [hn] at HG h ⊢
  clear hn
  have h2 : (n : Int) ≤ 120 := by omega
  have H1 := Lib.hid (utext_any (ok := fun _ => True) ⟨#[]⟩ w (fun _ _ => trivial) (by decide))
  go_enter Try.func5, Try.ntmps5
  go_wp2_with fail
  go_fit H1.out
  rintro e w1 ⟨⟨b1, rfl, T1⟩, k1⟩
  have H2 := Lib.hid (unew_any 0 w1 T1)
  clear T1 H1
  go_wp2_with fail
  go_fit H2.out
  rintro e w2 ⟨rfl, k2, s2, Z2⟩
  obtain ⟨U, hU⟩ : ∃ U, w1.heap.size = U := ⟨_, rfl⟩
  rw [hU] at k2 s2 Z2 ⊢
  have u1 : w.heap.size ≤ U := by rw [← hU]; exact k1.size
  have hI : BkI w w2 U (hstL l) (0 - 100) 0 0 := ⟨_, ⟨_, _, Z2⟩, rfl, rfl, k1.trans (k2.mono u1), u1, by omega, Nat.le_refl _, Nat.le_refl _⟩
  have HI := Lib.hid hI
  clear hU s2 Z2 k1 k2 H2 hI u1
  go_wp2
  go_loopw [4] (fun s4 wr => ∃ i : Nat, s4 = .int .i64 (i : Int) ∧ i ≤ n ∧ BkI w wr U (hstL l) (i - 100) i i) (fun s4 _ => n - (intOf s4).toNat)
  case atStart => exact ⟨0, rfl, Nat.zero_le _, HI.out⟩
  case round =>
    clear HI
    obtain ⟨i, rfl, hil, hI⟩ := hrel
    by_cases hlt : i < n
    · obtain ⟨x, hx⟩ := HG.out i hlt
      obtain ⟨x0, x1, g, o, hao, c0⟩ := HA.out wr (by obtain ⟨_, _, _, _, hb, _⟩ := hI; exact hb) i _ hx
      subst hao
      have H3 := Lib.hid (ubytes_any x wr x0 x1)
      have H4 : Hid (∀ W, Below wr.heap.size wr W → Calls Try.prog 9 #[.string (letterB x)] W fun e w' => (∃ b, e = .returned (.pointer (some ⟨b, 0, none⟩)) ∧ TextP (fun k => k ≠ U) w' b (letterB x)) ∧ Below W.heap.size W w') := fun W hW =>
        utext_any (ok := fun k => k ≠ U) (letterB x) W (fun k hk => by obtain ⟨_, _, _, _, _, _, hUU, _⟩ := hI; have := hW.size; omega) (by rw [letterB_size]; decide)
      have H5 : Hid (∀ W b, Below wr.heap.size wr W → TextP (fun k => k ≠ U) W b (letterB x) → Calls Try.prog 17 #[.pointer (some ⟨U, 0, none⟩), .pointer (some ⟨b, 0, none⟩), .int .i64 ((i : Int) + 1), .int .i64 (-(i : Int))] W fun e w' => e = .returned (.bool true) ∧ Hid (BkI w w' U (hstL l) (i + 1 - 100) (i + 1) (i + 1))) := fun W b hW hT =>
        bk_push hI hW hT (hstL_next l i x hx) (by omega)
      obtain ⟨s, hs⟩ : ∃ s, letterB x = s := ⟨_, rfl⟩
      rw [hs] at H3 H4 H5
      have i1 : (i : Int) < (n : Int) := by omega
      clear hI hx hs
      go_wp2_with fail
      go_fit H3.out
      rintro e w3 ⟨rfl, k3⟩
      have H6 := Lib.hid (H4.out w3 k3)
      clear H3 H4
      go_wp2_with fail
      go_fit H6.out
      rintro e w4 ⟨⟨b, rfl, T⟩, k4⟩
      have H7 := Lib.hid (H5.out w4 b (k3.trans (k4.mono k3.size)) T)
      clear H5 H6 T k3 k4
      go_wp2_with fail
      go_fit H7.out
      rintro e w5 ⟨rfl, I5⟩
      go_wp2
      go_roundw
      case rel => exact ⟨i + 1, by go_num, by omega, I5.out⟩
      case measure => simp [intOf]; omega
    · obtain rfl : i = n := by omega
      obtain ⟨K, hKe⟩ : ∃ K : Nat, min (i : Int) 100 = (K : Int) := ⟨min i 100, by omega⟩
      have HB : Hid (BkI w wr U (hstL l) (i - K) i i) := by
        have := hI
        rw [show i - 100 = (i - K) by omega] at this
        exact this
      have f1 : (K : Int) ≤ (i : Int) := by omega
      have f2 : (0 : Int) ≤ (K : Int) := by omega
      have f3 : K ≤ i := by omega
      clear hI
      go_wp2
      clear hKe
      go_loopw [6] (fun s6 wr => ∃ c : Nat, s6 = .int .i64 ((c : Int) - 1) ∧ (i - K) ≤ c ∧ c ≤ i ∧ BkI w wr U (hstL l) (i - K) i c) (fun s6 _ => (intOf s6 + 1).toNat)
      case atStart => exact ⟨i, rfl, by omega, Nat.le_refl _, HB.out⟩
      case round =>
        clear HB
        obtain ⟨c, rfl, hc1, hc2, hK⟩ := hrel
        by_cases hlt : (i - K) < c
        · obtain ⟨j, rfl⟩ : ∃ j, c = j + 1 := ⟨c - 1, by omega⟩
          have e1 : ((j + 1 : Nat) : Int) - 1 = (j : Int) := by omega
          rw [e1]
          clear e1
          have j0 : (0 : Int) ≤ (j : Int) := by omega
          have j1 : (j : Int) < (i : Int) := by omega
          have t1 : (i : Int) - (K : Int) ≤ (j : Int) := by omega
          by_cases hj : j = 0
          · subst hj
            obtain ⟨b, H⟩ := bk_undo hK (by omega) (hstL_zero l)
            have HH := Lib.hid H
            clear hK H
            go_wp2_with fail
            go_fit HH.out
            rintro e w3 ⟨rfl, I3⟩
            have H4 := Lib.hid (uis_any 0 w3 I3.out.2)
            have I3' := Lib.hid I3.out.1
            clear HH I3
            go_wp2_with fail
            go_fit H4.out
            rintro e w4 ⟨rfl, k4⟩
            have I4 := Lib.hid (I3'.out.below' k4)
            clear I3' k4 H4
            go_wp2
            go_roundw
            case rel => exact ⟨0, by go_num, by omega, by omega, I4.out⟩
            case measure => simp [intOf]
          · obtain ⟨q, rfl⟩ : ∃ q, j = q + 1 := ⟨j - 1, by omega⟩
            obtain ⟨x, hx⟩ := HG.out q (by omega)
            have hb : Below w.heap.size w wr := by obtain ⟨_, _, _, _, hb, _⟩ := hK; exact hb
            obtain ⟨x0, x1, g, o, hao, c0⟩ := HA.out wr hb q _ hx
            subst hao
            obtain ⟨b, H⟩ := bk_undo hK (by omega) (hstL_next l q x hx)
            have HH := Lib.hid H
            have HC : Hid (∀ W, Below w.heap.size w W → W.cell? ⟨g, o + q, none⟩ = some (.int .u8 x)) := fun W hW => by
              obtain ⟨_, _, g', o', e', c'⟩ := HA.out W hW q _ hx
              cases e'
              exact c'
            have H3 := Lib.hid (fun W => ubytes_any x W x0 x1)
            obtain ⟨s, hs⟩ : ∃ s, letterB x = s := ⟨_, rfl⟩
            rw [hs] at HH H3
            have e2 : ((q + 1 : Nat) : Int) = (q : Int) + 1 := by omega
            rw [e2] at j0 j1 t1 ⊢
            clear hK H hx hs c0 hb e2
            go_wp2_with fail
            go_fit HH.out
            rintro e w3 ⟨rfl, I3⟩
            have c0 := HC.out w3 (by obtain ⟨⟨_, _, _, _, hb, _⟩, _⟩ := I3.out; exact hb)
            clear HH HC
            go_wp2_with fail
            go_fit (H3.out _)
            rintro e w4 ⟨rfl, k4⟩
            have I4 := Lib.hid (I3.out.1.below' k4)
            have H4 := Lib.hid (uis_any ((q : Int) + 1) w4 (I3.out.2.keepW (keep_below _ k4)))
            clear I3 k4 H3 c0
            go_wp2_with fail
            go_fit H4.out
            rintro e w5 ⟨rfl, k5⟩
            have I5 := Lib.hid (I4.out.below' k5)
            clear I4 k5 H4
            go_wp2
            go_roundw
            case rel => exact ⟨q + 1, by go_num, by omega, by omega, I5.out⟩
            case measure => simp [intOf]; omega
        · obtain rfl : c = (i - K) := by omega
          have H3 := Lib.hid (bk_front hK)
          have t2 : (((i - K : Nat) : Int)) = (i : Int) - (K : Int) := by omega
          rw [t2]
          clear t2
          clear hK
          go_wp2_with fail
          go_fit H3.out
          rintro e w3 ⟨rfl, I3⟩
          have H4 := Lib.hid (bk_steps (x := 0) (y := (K : Int)) I3.out (by omega) (by omega))
          clear H3 I3
          go_wp2_with fail
          go_fit H4.out
          rintro e w4 ⟨rfl, I4⟩
          clear H4
          go_wp2
          go_loopw [14] (fun s14 wr => ∃ c : Nat, s14 = .int .i64 (c : Int) ∧ (i - K) ≤ c ∧ c ≤ i ∧ BkI w wr U (hstL l) (i - K) i c) (fun s14 _ => i - (intOf s14).toNat)
          case atStart => exact ⟨(i - K), by congr 1; omega, Nat.le_refl _, by omega, I4.out⟩
          case round =>
            clear I4
            obtain ⟨c, rfl, hc1, hc2, hK⟩ := hrel
            by_cases hlt : c < i
            · obtain ⟨x, hx⟩ := HG.out c hlt
              have hb : Below w.heap.size w wr := by obtain ⟨_, _, _, _, hb, _⟩ := hK; exact hb
              obtain ⟨x0, x1, g, o, hao, c0⟩ := HA.out wr hb c _ hx
              subst hao
              obtain ⟨b, H⟩ := bk_redo hK hlt (hstL_next l c x hx)
              have HH := Lib.hid H
              have HC : Hid (∀ W, Below w.heap.size w W → W.cell? ⟨g, o + c, none⟩ = some (.int .u8 x)) := fun W hW => by
                obtain ⟨_, _, g', o', e', c'⟩ := HA.out W hW c _ hx
                cases e'
                exact c'
              have H3 := Lib.hid (fun W => ubytes_any x W x0 x1)
              obtain ⟨s, hs⟩ : ∃ s, letterB x = s := ⟨_, rfl⟩
              rw [hs] at HH H3
              have j1 : (c : Int) < (i : Int) := by omega
              clear hK H hx hs c0 hb
              go_wp2_with fail
              go_fit HH.out
              rintro e w3 ⟨rfl, I3⟩
              have c0 := HC.out w3 (by obtain ⟨⟨_, _, _, _, hb, _⟩, _⟩ := I3.out; exact hb)
              clear HH HC
              go_wp2_with fail
              go_fit (H3.out _)
              rintro e w4 ⟨rfl, k4⟩
              have I4 := Lib.hid (I3.out.1.below' k4)
              have H4 := Lib.hid (uis_any ((c : Int) + 1) w4 (I3.out.2.keepW (keep_below _ k4)))
              clear I3 k4 H3 c0
              go_wp2_with fail
              go_fit H4.out
              rintro e w5 ⟨rfl, k5⟩
              have I5 := Lib.hid (I4.out.below' k5)
              clear I4 k5 H4
              go_wp2
              go_roundw
              case rel => exact ⟨c + 1, by go_num, by omega, by omega, I5.out⟩
              case measure => simp [intOf]; omega
            · obtain rfl : c = i := by omega
              have H3 := Lib.hid (bk_end hK)
              clear hK
              go_wp2_with fail
              go_fit H3.out
              rintro e w3 ⟨rfl, I3⟩
              have H4 := Lib.hid (bk_steps (x := (K : Int)) (y := 0) I3.out (by omega) (by omega))
              clear H3 I3
              go_wp2_with fail
              go_fit H4.out
              rintro e w4 ⟨rfl, I4⟩
              have l4 : Below w.heap.size w w4 := by obtain ⟨_, _, _, _, hb, _⟩ := I4.out; exact hb
              have H5 := Lib.hid (undone_any w4)
              clear H4 I4
              go_wp2_with fail
              go_fit H5.out
              rintro e w5 ⟨rfl, k5⟩
              have l5 := l4.trans (k5.mono l4.size)
              go_wp2
              go_ret
              exact ⟨rfl, l5⟩

theorem undoBack_any (v : Value) (l : List Int) (w : World) (hA : U8sW w v l) :
    Calls Try.prog 5 #[v] w fun e w' => e = .returned (.bool true) ∧ Below w.heap.size w w' := by
  by_cases h : 120 < l.length
  · exact undoBack_far v l w hA h
  · exact undoBack_near v l w hA (by omega)

-- FRAME
theorem undoBack_own : ownKnob Try.prog.godebug = none := by kernel_rfl

set_option maxRecDepth 100000 in
theorem undoBack_lifted (os : Os) (started : os.Started) (H : Type) (enc : TypeId × Value → H) :
    ReturnsInHanded {} Try.checked os 5 .any (Rows.undoBackSpec.pre6 enc Try.prog Try.f5 Rows.undoBackRow.domain false) (Rows.undoBackSpec.post enc Try.prog Try.f5 false true false false) := by
  refine returnsInHanded_of_change (C := Try.checked) undoBack_own started (by kernel_rfl) Try.func5
    (ChangeSpec.witness6 (enc := enc) (C := Try.checked) false ⟨#[], #[.slice none 0 0], []⟩ 8 (by kernel_rfl) (by kernel_rfl) (by kernel_rfl) (by kernel_rfl)) ?_
  intro W base args ds gs before hval0 hW hcnd _
  have hval : ∀ (j : Nat) t v, Try.f5.params[j]? = some t → args[j]? = some v → Value.okWide Try.prog W .any base t v := hval0
  have hW' := hW
  obtain ⟨p, q, hA0, hV, rfl, hfz, hnd⟩ := hW
  have hA : DataW.TrodAll enc Try.prog W 0 (fun _ => true) true Try.f5.params.toList args.toList ds p := hA0
  rw [Try.params5] at hA hval
  obtain ⟨v0, d0, rfl, rfl, h0⟩ := trodAll_one hA
  obtain ⟨rfl, rfl⟩ := trodVars_none hV
  have k0 := h0
  obtain ⟨x0, hS0⟩ := open_u8s (hval 0 57 v0 rfl rfl) h0
  clear hA0 hval0
  simp only [List.append_nil] at hW'
  have hlt : ∀ x ∈ p, x.block < W.heap.size := fun x hx => hW'.lt x (by simp [hx])
  refine (undoBack_any v0 x0 W hS0).mono fun e W' ⟨he, hw⟩ => ?_
  subst he
  exact ⟨_, rfl, _, _, _, [], p, [], hW', trodAll_mk1 (shut_bool Try.underlying4 _), trodAll_mk1 (Below.trod Try.laidOut (by kernel_rfl) (of_decide_eq_true (by kernel_rfl)) k0 hw (fun x hx => hlt x (by simp [hx]))), rfl, hw.frame _, fun h => by cases h⟩

theorem undoBack_holds : Rows.UndoBackSaid :=
  OpenClaim.holds_of_wide 5 Try.f5 rfl rfl rfl rfl rfl rfl rfl ⟨rfl, rfl, rfl, rfl, rfl⟩ rfl rfl rfl rfl rfl (by kernel_rfl) Try.func5 (by kernel_rfl)
    (of_decide_eq_true (by kernel_rfl)) (by unfold Func.isWrapper; first | (rw [if_pos (by decide +kernel)]; kernel_rfl) | (rw [if_neg (by decide +kernel)]; exact ⟨rfl, rfl⟩))
    (fun os started H enc _ => undoBack_lifted os started H enc)
end Go.Proofs.Ytpkfmhggaiifgaa
