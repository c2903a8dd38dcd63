/-
  For every row of at most 60 groups, of 0 to 3: changes of one group that follow each other are undone at once; so the law returns true. A longer row: the examples alone, as the law says. No condition.
-/
import Derived.Test.YtpkfmhggaiifgaaUnDone
import Derived.Test.YtpkfmhggaiifgaaUnOpen
namespace Go.Proofs.Ytpkfmhggaiifgaa
open Go.ChangeShapes Go.WideShapes Go.ChangeAt Go.RowKit

/-- The oldest state. -/
def oldest (u : US) : Option (ByteArray × Int) := ((u.was ++ [u.now]).head?).map (·.2)

/-- Behind some changes. -/
structure GroupI (w wr : World) (U : Nat) (many : Nat) (last : Int) (u : US) : Prop where
  e : UndoE (fun k => k ≠ U) wr U u
  n : u.was.length = many
  un : u.undone = []
  grp : u.group = last
  old : oldest u = some (⟨#[122]⟩, 0)
  lo : 0 ≤ last
  some_ : 0 < last → 1 ≤ many
  below : Below w.heap.size w wr
  hU : w.heap.size ≤ U ∧ U < wr.heap.size
theorem group_next {u : US} {many : Nat} {last G : Int} {b : Nat} (hn : u.was.length = many) (hg : u.group = last) (ho : oldest u = some (⟨#[122]⟩, 0)) (hs : 0 < last → 1 ≤ many) (hG : 0 ≤ G) (hm : many ≤ 60) (p : St) (_ : b = b) :
    (doU u p G).was.length = (if G = 0 ∨ G ≠ last then many + 1 else many) ∧ (doU u p G).undone = [] ∧ (doU u p G).group = G ∧ oldest (doU u p G) = some (⟨#[122]⟩, 0) := by
  unfold doU
  by_cases h : 0 < G ∧ G = u.group
  · rw [if_pos h, if_neg (by omega)]
    refine ⟨hn, rfl, rfl, ?_⟩
    have h1 := hs (by omega)
    unfold oldest at ho ⊢
    cases hw : u.was with
    | nil => rw [hw] at hn; simp at hn; omega
    | cons x r => rw [hw] at ho; exact ho
  · rw [if_neg h, if_pos (by omega)]
    have e : pushU u.was u.now = u.was ++ [u.now] := by unfold pushU; rw [show u.was.length + 1 - 100 = 0 by omega]; rfl
    refine ⟨by show (pushU u.was u.now).length = _; rw [e, List.length_append, hn]; rfl, rfl, rfl, ?_⟩
    show ((pushU u.was u.now ++ [p]).head?).map (·.2) = _
    rw [e]
    unfold oldest at ho
    cases hw : u.was with
    | nil => rw [hw] at ho; exact ho
    | cons x r => rw [hw] at ho; exact ho

/-- So many may be undone. -/
def BackI (w wr : World) (U k : Nat) : Prop := ∃ u, UndoE (fun k => k ≠ U) wr U u ∧ u.was.length = k ∧ oldest u = some (⟨#[122]⟩, 0) ∧ Below w.heap.size w wr ∧ w.heap.size ≤ U ∧ U < wr.heap.size
theorem back_some {w wr : World} {U k : Nat} (h : BackI w wr U (k + 1)) : ∃ b c, Calls Try.prog 12 #[.pointer (some ⟨U, 0, none⟩)] wr fun e w' => e = .returned (.tuple #[.pointer (some ⟨b, 0, none⟩), .int .i64 c, .bool true]) ∧ Hid (BackI w w' U k) := by
  obtain ⟨u, ⟨a, d, hu⟩, hn, ho, hb, h1, h2⟩ := h
  rcases List.eq_nil_or_concat u.was with h0 | ⟨ps, p, h0⟩
  · rw [h0] at hn; simp at hn
  · rw [List.concat_eq_append] at h0
    refine ⟨p.1, p.2.2, (uundo_some wr hu h0 (fun k hk => by omega)).mono fun e w' ⟨q1, q2, q3⟩ => ⟨q1, undoU u p, q2, ?_, ?_, below_keep hb q3 h1 (by omega), h1, by have := q3.size; omega⟩⟩
    · show (u.was.dropLast).length = k
      rw [List.length_dropLast]; omega
    · unfold oldest at ho ⊢
      show ((u.was.dropLast ++ [p]).head?).map (·.2) = _
      rw [h0, List.dropLast_concat]
      rw [h0] at ho
      cases ps with
      | nil => exact ho
      | cons x r => exact ho
theorem back_none {w wr : World} {U : Nat} (h : BackI w wr U 0) : ∃ b, Calls Try.prog 20 #[.pointer (some ⟨U, 0, none⟩)] wr (fun e w2 => e = .returned (.tuple #[.pointer (some ⟨b, 0, none⟩), .int .i64 0]) ∧
    Hid (Calls Try.prog 12 #[.pointer (some ⟨U, 0, none⟩)] w2 (fun e w3 => e = .returned (.tuple #[.pointer none, .int .i64 0, .bool false]) ∧
      Hid (Calls Try.prog 14 #[.pointer (some ⟨b, 0, none⟩), .int .i64 0, .string ⟨#[122]⟩, .int .i64 0] w3 fun e w4 => e = .returned (.bool true) ∧ Below w.heap.size w w4) ∧ Hid (Below w.heap.size w w3)))) := by
  obtain ⟨u, ⟨a, d, hu⟩, hn, ho, hb, h1, h2⟩ := h
  have h0 := List.eq_nil_of_length_eq_zero hn
  have hz : u.now.2 = (⟨#[122]⟩, 0) := by
    unfold oldest at ho
    rw [h0] at ho
    exact Option.some.inj ho
  have hz2 : u.now.2.2 = 0 := by rw [hz]
  have hz1 : u.now.2.1 = ⟨#[122]⟩ := by rw [hz]
  refine ⟨u.now.1, (unow_any wr hu).mono fun e w2 ⟨q1, q2⟩ => ⟨by rw [q1, hz2], ?_⟩⟩
  have hs2 := q2.size
  refine Lib.hid ((uundo_empty w2 (hu.below q2) h0).mono fun e w3 ⟨q3, q4⟩ => ⟨q3, ?_, ?_⟩)
  · have hs4 := q4.size
    have ht : TextP (fun k => k ≠ U) w3 u.now.1 ⟨#[122]⟩ := by
      have := ((hu.below q2).below q4).text
      rwa [hz1] at this
    exact Lib.hid ((uis_any 0 w3 ht).mono fun e w4 ⟨q5, q6⟩ => ⟨q5, (hb.trans (q2.mono (by omega))).trans ((q4.mono (by omega)).trans (q6.mono (by omega)))⟩)
  · exact Lib.hid ((hb.trans (q2.mono (by omega))).trans (q4.mono (by omega)))

set_option maxRecDepth 100000 in
set_option maxHeartbeats 1000000 in
theorem undoGroups_far (v : Value) (l : List Int) (w : World) (hA : U8sW w v l) (h : 60 < l.length) :
    Calls Try.prog 6 #[v] w fun e w' => e = .returned (.bool true) ∧ Below w.heap.size w w' := by
  obtain ⟨ao, cap, rfl, _⟩ := hA
  have H := Lib.hid (undone_any w)
  have h2 : 60 < (l.length : Int) := by omega
  go_enter Try.func6, Try.ntmps6
  go_wp2_with fail
  go_fit H.out
  rintro e w3 ⟨rfl, b3⟩
  go_wp2
  go_ret
  exact ⟨rfl, b3⟩

set_option maxRecDepth 100000 in
set_option maxHeartbeats 4000000 in
theorem undoGroups_near (v : Value) (l : List Int) (w : World) (hA : U8sW w v l) (h : l.length ≤ 60) :
    Calls Try.prog 6 #[v] w fun e w' => e = .returned (.bool true) ∧ Below w.heap.size w w' := by
  have HA := Lib.hid (fun W (hW : Below w.heap.size w W) => hA.below hW)
  obtain ⟨ao, cap, rfl, _⟩ := hA
  have h2 : (l.length : Int) ≤ 60 := by omega
  have H1 := Lib.hid (utext_any (ok := fun _ => True) ⟨#[122]⟩ w (fun _ _ => trivial) (by decide))
  go_enter Try.func6, Try.ntmps6
  go_wp2_with fail
  go_fit H1.out
  rintro e w1 ⟨⟨b1, rfl, T1⟩, k1⟩
  have H2 := Lib.hid (unew_any 0 w1 T1)
  clear T1 H1
  go_wp2_with fail
  go_fit H2.out
  rintro e w2 ⟨rfl, k2, s2, Z2⟩
  obtain ⟨U, hU⟩ : ∃ U, w1.heap.size = U := ⟨_, rfl⟩
  rw [hU] at k2 s2 Z2 ⊢
  have u1 : w.heap.size ≤ U := by rw [← hU]; exact k1.size
  have hI : GroupI w w2 U 0 0 ⟨(b1, ⟨#[122]⟩, 0), [], [], 0⟩ := ⟨⟨_, _, Z2⟩, rfl, rfl, rfl, rfl, by decide, fun h => by omega, k1.trans (k2.mono u1), u1, by omega⟩
  have HI := Lib.hid hI
  clear hU s2 Z2 k1 k2 H2 hI
  go_wp2
  go_loopw [4, 5, 6] (fun s4 s5 s6 wr => ∃ (i many : Nat) (last : Int) (u : US), s4 = .int .i64 (many : Int) ∧ s5 = .int .i64 last ∧ s6 = .int .i64 (i : Int) ∧ i ≤ l.length ∧ many ≤ i ∧ GroupI w wr U many last u) (fun _ _ s6 _ => l.length - (intOf s6).toNat)
  case atStart => exact ⟨0, 0, 0, _, rfl, rfl, rfl, Nat.zero_le _, Nat.le_refl _, HI.out⟩
  case round =>
    clear HI
    obtain ⟨i, many, last, u, rfl, rfl, rfl, hil, hmi, hI⟩ := hrel
    by_cases hlt : i < l.length
    · obtain ⟨x, hx⟩ : ∃ x, l[i]? = some x := ⟨_, List.getElem?_eq_getElem hlt⟩
      obtain ⟨ao', cap', he, hcell⟩ := HA.out wr hI.below
      obtain ⟨x0, x1, g, o, hao, c0⟩ := hcell i _ hx
      cases he
      subst hao
      obtain ⟨G, hG⟩ : ∃ G, x % 4 = G := ⟨_, rfl⟩
      have G0 : 0 ≤ G := by omega
      have G3 : G ≤ 3 := by omega
      have hm60 : many ≤ 60 := by omega
      have m0 : (0 : Int) ≤ (many : Int) := by omega
      have m60 : (many : Int) ≤ 60 := by omega
      have l0 := hI.lo
      have HII := Lib.hid hI
      have H3 := Lib.hid (utext_any (ok := fun k => k ≠ U) ⟨#[121]⟩ wr (fun k hk => by have := hI.hU; omega) (by decide))
      have HX : Hid (∀ (W : World) b, Below wr.heap.size wr W → TextP (fun k => k ≠ U) W b ⟨#[121]⟩ → Calls Try.prog 17 #[.pointer (some ⟨U, 0, none⟩), .pointer (some ⟨b, 0, none⟩), .int .i64 1, .int .i64 G] W fun e w' => e = .returned (.bool true) ∧
          Hid (∃ u', GroupI w w' U (if G = 0 ∨ G ≠ last then many + 1 else many) G u')) := fun W b hW hT => by
        obtain ⟨a, d, hu⟩ := hI.e
        have hsz := hW.size
        have hUU := hI.hU
        refine (udo_any b ⟨#[121]⟩ 1 G W (hu.below hW) hT (fun k hk => by omega)).mono fun e w' ⟨h1, h3, h4⟩ => ⟨h1, ?_⟩
        obtain ⟨q1, q2, q3, q4⟩ := group_next (b := b) hI.n hI.grp hI.old hI.some_ G0 hm60 (b, ⟨#[121]⟩, 1) rfl
        have hb := hI.below.trans (hW.mono hI.below.size)
        have hs4 := h4.size
        exact ⟨_, h3, q1, q2, q3, q4, G0, fun h => by have := hI.some_; split <;> omega, below_keep hb h4 hUU.1 (by omega), hUU.1, by omega⟩
      clear hI hx hcell
      have fin : ∀ (M : Nat) (M' : Int) (W : World), (M : Int) = M' → (∃ u', GroupI w W U M G u') → Calls Try.prog 22 #[.pointer (some ⟨U, 0, none⟩), .int .i64 M', .int .i64 0] W fun e w' => e = .returned (.bool true) ∧ Hid (∃ u'', GroupI w w' U M G u'') := fun M M' W hM ⟨u', h⟩ => by
        obtain ⟨a, d, hu⟩ := h.e
        refine (usay_at (x := M') (y := 0) W hu (by rw [h.n, hM]) (by rw [h.un]; rfl)).mono fun e w' ⟨h1, h3⟩ => ⟨h1, u', ?_⟩
        have hUU := h.hU
        have hs := h3.size
        have hbs := h.below.size
        exact ⟨⟨a, d, hu.below h3⟩, h.n, h.un, h.grp, h.old, h.lo, h.some_, h.below.trans (h3.mono (by omega)), hUU.1, by omega⟩
      have FIN := Lib.hid fin
      clear fin
      have Hm := Lib.hid hmi
      clear hmi
      by_cases g0 : G = 0
      · subst g0
        rw [if_pos (.inl rfl)] at HX
        go_wp2_with fail
        go_fit H3.out
        rintro e w3 ⟨⟨b3, rfl, T3⟩, k3⟩
        have HX3 := Lib.hid (HX.out w3 b3 k3 T3)
        clear T3 k3 H3 HX HII
        go_wp2_with fail
        go_fit HX3.out
        rintro e w4 ⟨rfl, I4⟩
        have F5 := Lib.hid (FIN.out (many + 1) ((many : Int) + 1) w4 (by omega) I4.out)
        clear FIN I4 HX3
        go_wp2_with fail
        go_fit F5.out
        rintro e w5 ⟨rfl, I5⟩
        clear F5
        go_wp2
        go_roundw
        case rel =>
          obtain ⟨u'', h⟩ := I5.out
          exact ⟨i + 1, many + 1, 0, u'', by go_num, rfl, by go_num, by omega, by have := Hm.out; omega, h⟩
        case measure => simp [intOf]; omega
      · have d0 : (G == 0) = false := by simpa using g0
        by_cases g1 : G ≠ last
        · have d1 : (G != last) = true := by simpa using g1
          rw [if_pos (.inr g1)] at HX
          go_wp2_with fail
          go_fit H3.out
          rintro e w3 ⟨⟨b3, rfl, T3⟩, k3⟩
          have HX3 := Lib.hid (HX.out w3 b3 k3 T3)
          clear T3 k3 H3 HX HII
          go_wp2_with fail
          go_fit HX3.out
          rintro e w4 ⟨rfl, I4⟩
          have F5 := Lib.hid (FIN.out (many + 1) ((many : Int) + 1) w4 (by omega) I4.out)
          clear FIN I4 HX3
          go_wp2_with fail
          go_fit F5.out
          rintro e w5 ⟨rfl, I5⟩
          clear F5
          go_wp2
          go_roundw
          case rel =>
            obtain ⟨u'', h⟩ := I5.out
            exact ⟨i + 1, many + 1, G, u'', by go_num, rfl, by go_num, by omega, by have := Hm.out; omega, h⟩
          case measure => simp [intOf]; omega

        · have g1' : G = last := by omega
          subst g1'
          clear g1
          rw [if_neg (by omega)] at HX
          go_wp2_with fail
          go_fit H3.out
          rintro e w3 ⟨⟨b3, rfl, T3⟩, k3⟩
          have HX3 := Lib.hid (HX.out w3 b3 k3 T3)
          clear T3 k3 H3 HX HII
          go_wp2_with fail
          go_fit HX3.out
          rintro e w4 ⟨rfl, I4⟩
          have F5 := Lib.hid (FIN.out many (many : Int) w4 rfl I4.out)
          clear FIN I4 HX3
          go_wp2_with fail
          go_fit F5.out
          rintro e w5 ⟨rfl, I5⟩
          clear F5
          go_wp2
          go_roundw
          case rel =>
            obtain ⟨u'', h⟩ := I5.out
            exact ⟨i + 1, many, G, u'', rfl, rfl, by go_num, by omega, by have := Hm.out; omega, h⟩
          case measure => simp [intOf]; omega

    · have hB : BackI w wr U many := ⟨u, hI.e, hI.n, hI.old, hI.below, hI.hU.1, hI.hU.2⟩
      have HB := Lib.hid hB
      have i3 : (l.length : Int) ≤ (i : Int) := by omega
      have m6 : many ≤ 60 := by omega
      have m0 : (0 : Int) ≤ (many : Int) := by omega
      have m60 : (many : Int) ≤ 60 := by omega
      clear hI hB HA
      go_wp2
      go_loopw [8] (fun s8 wr => ∃ j : Nat, s8 = .int .i64 (j : Int) ∧ j ≤ many ∧ BackI w wr U (many - j)) (fun s8 _ => many - (intOf s8).toNat)
      case atStart => exact ⟨0, rfl, Nat.zero_le _, HB.out⟩
      case round =>
        rename_i wq _
        clear HB
        obtain ⟨j, rfl, hj, hK⟩ := hrel
        by_cases hlt : j < many
        · rw [show many - j = (many - (j + 1)) + 1 by omega] at hK
          obtain ⟨b, c, H⟩ := back_some hK
          have HH := Lib.hid H
          have j1 : (j : Int) < (many : Int) := by omega
          clear hK H
          go_wp2_with fail
          go_fit HH.out
          rintro e w3 ⟨rfl, I3⟩
          go_wp2
          go_roundw
          case rel => exact ⟨j + 1, by go_num, by omega, I3.out⟩
          case measure => simp [intOf]; omega
        · obtain rfl : j = many := by omega
          rw [Nat.sub_self] at hK
          obtain ⟨b, H⟩ := back_none hK
          have HH := Lib.hid H
          clear hK H
          go_wp2_with fail
          go_fit HH.out
          rintro e w3 ⟨rfl, H3⟩
          go_wp2_with fail
          go_fit H3.out
          rintro e w4 ⟨rfl, H4, L4⟩
          clear HH H3
          obtain ⟨L, hL⟩ : ∃ L, l.length = L := ⟨_, rfl⟩
          rw [hL]
          clear hL
          by_cases hL0 : L = 0
          · subst hL0
            have H5 := Lib.hid (undone_any w4)
            go_wp2_with fail
            go_fit H5.out
            rintro e w5 ⟨rfl, k5⟩
            have l5 := L4.out.trans (k5.mono L4.out.size)
            go_wp2
            go_ret
            exact ⟨rfl, l5⟩
          · have d0 : ((L : Int) == 0) = false := by simpa using hL0
            go_wp2_with fail
            go_fit H4.out
            rintro e w5 ⟨rfl, k5⟩
            have H5 := Lib.hid (undone_any w5)
            go_wp2_with fail
            go_fit H5.out
            rintro e w6 ⟨rfl, k6⟩
            have l6 := k5.trans (k6.mono k5.size)
            go_wp2
            go_ret
            exact ⟨rfl, l6⟩

theorem undoGroups_any (v : Value) (l : List Int) (w : World) (hA : U8sW w v l) :
    Calls Try.prog 6 #[v] w fun e w' => e = .returned (.bool true) ∧ Below w.heap.size w w' := by
  by_cases h : 60 < l.length
  · exact undoGroups_far v l w hA h
  · exact undoGroups_near v l w hA (by omega)

-- FRAME
theorem undoGroups_own : ownKnob Try.prog.godebug = none := by kernel_rfl

set_option maxRecDepth 100000 in
theorem undoGroups_lifted (os : Os) (started : os.Started) (H : Type) (enc : TypeId × Value → H) :
    ReturnsInHanded {} Try.checked os 6 .any (Rows.undoGroupsSpec.pre6 enc Try.prog Try.f6 Rows.undoGroupsRow.domain false) (Rows.undoGroupsSpec.post enc Try.prog Try.f6 false true false false) := by
  refine returnsInHanded_of_change (C := Try.checked) undoGroups_own started (by kernel_rfl) Try.func6
    (ChangeSpec.witness6 (enc := enc) (C := Try.checked) false ⟨#[], #[.slice none 0 0], []⟩ 8 (by kernel_rfl) (by kernel_rfl) (by kernel_rfl) (by kernel_rfl)) ?_
  intro W base args ds gs before hval0 hW hcnd _
  have hval : ∀ (j : Nat) t v, Try.f6.params[j]? = some t → args[j]? = some v → Value.okWide Try.prog W .any base t v := hval0
  have hW' := hW
  obtain ⟨p, q, hA0, hV, rfl, hfz, hnd⟩ := hW
  have hA : DataW.TrodAll enc Try.prog W 0 (fun _ => true) true Try.f6.params.toList args.toList ds p := hA0
  rw [Try.params6] at hA hval
  obtain ⟨v0, d0, rfl, rfl, h0⟩ := trodAll_one hA
  obtain ⟨rfl, rfl⟩ := trodVars_none hV
  have k0 := h0
  obtain ⟨x0, hS0⟩ := open_u8s (hval 0 57 v0 rfl rfl) h0
  clear hA0 hval0
  simp only [List.append_nil] at hW'
  have hlt : ∀ x ∈ p, x.block < W.heap.size := fun x hx => hW'.lt x (by simp [hx])
  refine (undoGroups_any v0 x0 W hS0).mono fun e W' ⟨he, hw⟩ => ?_
  subst he
  exact ⟨_, rfl, _, _, _, [], p, [], hW', trodAll_mk1 (shut_bool Try.underlying4 _), trodAll_mk1 (Below.trod Try.laidOut (by kernel_rfl) (of_decide_eq_true (by kernel_rfl)) k0 hw (fun x hx => hlt x (by simp [hx]))), rfl, hw.frame _, fun h => by cases h⟩

theorem undoGroups_holds : Rows.UndoGroupsSaid :=
  OpenClaim.holds_of_wide 6 Try.f6 rfl rfl rfl rfl rfl rfl rfl ⟨rfl, rfl, rfl, rfl, rfl⟩ rfl rfl rfl rfl rfl (by kernel_rfl) Try.func6 (by kernel_rfl)
    (of_decide_eq_true (by kernel_rfl)) (by unfold Func.isWrapper; first | (rw [if_pos (by decide +kernel)]; kernel_rfl) | (rw [if_neg (by decide +kernel)]; exact ⟨rfl, rfl⟩))
    (fun os started H enc _ => undoGroups_lifted os started H enc)
end Go.Proofs.Ytpkfmhggaiifgaa
