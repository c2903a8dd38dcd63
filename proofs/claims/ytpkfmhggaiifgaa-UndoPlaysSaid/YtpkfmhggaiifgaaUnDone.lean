/-
  limnerlaw05.undone: the chapter's examples: it returns true.
-/
import Derived.Test.YtpkfmhggaiifgaaUnSay
namespace Go.Proofs.Ytpkfmhggaiifgaa
open Go.RowKit

abbrev UndoE (ok : Nat → Prop) (w : World) (U : Nat) (u : US) : Prop := ∃ a d, UndoW ok w U u a d
/-- What a change leaves: what was below n is as it was. -/
theorem below_keep {n U : Nat} {a b c : World} (h : Below n a b) (g : KeepW (fun k => k ≠ U) b c) (hn : n ≤ U) (hs : n ≤ b.heap.size) : Below n a c :=
  KeepW.below h g hs fun k hk => by omega

set_option maxRecDepth 100000 in
set_option maxHeartbeats 2000000 in
theorem undone_any (w : World) : Calls Try.prog 7 #[] w fun e w' => e = .returned (.bool true) ∧ Below w.heap.size w w' := by
  have H1 := Lib.hid (utext_any (ok := fun _ => True) ⟨#[97]⟩ w (fun _ _ => trivial) (by decide))
  go_enter Try.func7, Try.ntmps7
  go_wp2_with fail
  go_fit H1.out
  rintro e w1 ⟨⟨b1, rfl, T1⟩, k1⟩
  have H2 := Lib.hid (unew_any 0 w1 T1)
  clear T1 H1
  go_wp2_with fail
  go_fit H2.out
  rintro e w2 ⟨rfl, k2, s2, Z2⟩
  obtain ⟨U1, hU1⟩ : ∃ U1, w1.heap.size = U1 := ⟨_, rfl⟩
  rw [hU1] at k2 s2 Z2 ⊢
  have u1 : w.heap.size ≤ U1 := by rw [← hU1]; exact k1.size
  have l2 : Below w.heap.size w w2 := k1.trans (k2.mono u1)
  have HZ2 := Lib.hid Z2
  have v2 : U1 < w2.heap.size := by omega
  have H3 := Lib.hid (utext_any (ok := fun k => k ≠ U1) ⟨#[98]⟩ w2 (fun k hk => by omega) (by decide))
  clear hU1 s2 Z2 k1 k2 H2
  go_wp2_with fail
  go_fit H3.out
  rintro e w3 ⟨⟨b2, rfl, T3⟩, k3⟩
  have v3 : U1 < w3.heap.size := Nat.lt_of_lt_of_le v2 k3.size
  have H4 := Lib.hid (udo_any b2 ⟨#[98]⟩ 1 0 w3 (HZ2.out.below k3) T3 (fun k hk => by omega))
  have l3 : Below w.heap.size w w3 := l2.trans (k3.mono (Nat.le_trans u1 (Nat.le_of_lt v2)))
  clear k3 l2 v2 H3 HZ2 T3
  go_wp2_with fail
  go_fit H4.out
  rintro e w4 ⟨rfl, ⟨a4, d4, Z4⟩, k4⟩
  have l4 : Below w.heap.size w w4 := below_keep l3 k4 u1 (Nat.le_trans u1 (Nat.le_of_lt v3))
  have v4 : U1 < w4.heap.size := Nat.lt_of_lt_of_le v3 k4.size
  have H5 := Lib.hid (uundo_some (ps := []) (p := (b1, ⟨#[97]⟩, 0)) w4 Z4 rfl (fun k hk => by omega))
  clear l3 v3 H4 Z4 k4
  go_wp2_with fail
  go_fit H5.out
  rintro e w5 ⟨rfl, ⟨a5, d5, Z5⟩, k5⟩
  have l5 : Below w.heap.size w w5 := below_keep l4 k5 u1 (Nat.le_trans u1 (Nat.le_of_lt v4))
  have v5 : U1 < w5.heap.size := Nat.lt_of_lt_of_le v4 k5.size
  have A5 : TextP (fun k => k ≠ U1) w5 b1 ⟨#[97]⟩ := Z5.text
  have H6 := Lib.hid (uredo_some (ps := []) (p := (b2, ⟨#[98]⟩, 1)) w5 Z5 rfl (fun k hk => by omega))
  have HA5 := Lib.hid A5
  clear l4 v4 H5 Z5 k5 A5
  go_wp2_with fail
  go_fit H6.out
  rintro e w6 ⟨rfl, ⟨a6, d6, Z6⟩, k6⟩
  have l6 : Below w.heap.size w w6 := below_keep l5 k6 u1 (Nat.le_trans u1 (Nat.le_of_lt v5))
  have v6 : U1 < w6.heap.size := Nat.lt_of_lt_of_le v5 k6.size
  have HA6 := Lib.hid (HA5.out.keepW k6)
  have HB6 : Hid (TextP (fun k => k ≠ U1) w6 b2 ⟨#[98]⟩) := Z6.text
  have H7 := Lib.hid (uredo_empty w6 Z6 rfl)
  clear l5 v5 H6 Z6 k6 HA5
  go_wp2_with fail
  go_fit H7.out
  rintro e w7 ⟨rfl, k7⟩
  have l7 : Below w.heap.size w w7 := l6.trans (k7.mono (Nat.le_trans u1 (Nat.le_of_lt v6)))
  have v7 : U1 < w7.heap.size := Nat.lt_of_lt_of_le v6 k7.size
  have HA7 := Lib.hid (HA6.out.keepW (keep_below _ k7))
  have HB7 := Lib.hid (HB6.out.keepW (keep_below _ k7))
  have H8 := Lib.hid (utext_any (ok := fun _ => True) ⟨#[97]⟩ w7 (fun _ _ => trivial) (by decide))
  clear l6 v6 H7 k7 HA6 HB6
  go_wp2_with fail
  go_fit H8.out
  rintro e w8 ⟨⟨b3, rfl, T8⟩, k8⟩
  have l8 : Below w.heap.size w w8 := l7.trans (k8.mono (Nat.le_trans u1 (Nat.le_of_lt v7)))
  have H9 := Lib.hid (unew_any 0 w8 T8)
  have HA8 := Lib.hid (HA7.out.keepW (keep_below _ k8))
  have HB8 := Lib.hid (HB7.out.keepW (keep_below _ k8))
  have v8 : U1 < w8.heap.size := Nat.lt_of_lt_of_le v7 k8.size
  clear T8 H8 l7 v7 k8 HA7 HB7
  go_wp2_with fail
  go_fit H9.out
  rintro e w9 ⟨rfl, k9, s9, Z9⟩
  obtain ⟨U2, hU2⟩ : ∃ U2, w8.heap.size = U2 := ⟨_, rfl⟩
  have HA9 : Hid (TextP (fun k => k ≠ U2) w9 b1 ⟨#[97]⟩) := (HA8.out.mono (ok' := fun k => k ≠ U2) fun k hk _ => by omega).keepW (keep_below _ k9)
  have HB9 : Hid (TextP (fun k => k ≠ U2) w9 b2 ⟨#[98]⟩) := (HB8.out.mono (ok' := fun k => k ≠ U2) fun k hk _ => by omega).keepW (keep_below _ k9)
  rw [hU2] at k9 s9 Z9 v8 ⊢
  have u2 : w.heap.size ≤ U2 := by omega
  have l9 : Below w.heap.size w w9 := l8.trans (k9.mono u2)
  have v9 : U2 < w9.heap.size := by omega
  have HZ9 := Lib.hid Z9
  have H10 := Lib.hid (utext_any (ok := fun k => k ≠ U2) ⟨#[98]⟩ w9 (fun k hk => by omega) (by decide))
  clear hU2 s9 Z9 l8 k9 H9 HA8 HB8 u1 v8
  go_wp2_with fail
  go_fit H10.out
  rintro e w10 ⟨⟨b4, rfl, T10⟩, k10⟩
  have v10 : U2 < w10.heap.size := Nat.lt_of_lt_of_le v9 k10.size
  have H11 := Lib.hid (udo_any b4 ⟨#[98]⟩ 1 5 w10 (HZ9.out.below k10) T10 (fun k hk => by omega))
  have l10 : Below w.heap.size w w10 := l9.trans (k10.mono (Nat.le_trans u2 (Nat.le_of_lt v9)))
  have HA10 := Lib.hid (HA9.out.keepW (keep_below _ k10))
  have HB10 := Lib.hid (HB9.out.keepW (keep_below _ k10))
  clear k10 l9 v9 H10 HZ9 T10 HA9 HB9
  go_wp2_with fail
  go_fit H11.out
  rintro e w11 ⟨rfl, ⟨a11, d11, Z11⟩, k11⟩
  have l11 : Below w.heap.size w w11 := below_keep l10 k11 u2 (Nat.le_trans u2 (Nat.le_of_lt v10))
  have v11 : U2 < w11.heap.size := Nat.lt_of_lt_of_le v10 k11.size
  have H12 := Lib.hid (utext_any (ok := fun k => k ≠ U2) ⟨#[99]⟩ w11 (fun k hk => by omega) (by decide))
  have HA11 := Lib.hid (HA10.out.keepW k11)
  have HB11 := Lib.hid (HB10.out.keepW k11)
  have HZ11 := Lib.hid Z11
  clear l10 v10 H11 Z11 k11 HA10 HB10
  go_wp2_with fail
  go_fit H12.out
  rintro e w12 ⟨⟨b5, rfl, T12⟩, k12⟩
  have v12 : U2 < w12.heap.size := Nat.lt_of_lt_of_le v11 k12.size
  have H13 := Lib.hid (udo_any b5 ⟨#[99]⟩ 2 5 w12 (HZ11.out.below k12) T12 (fun k hk => by omega))
  have l12 : Below w.heap.size w w12 := l11.trans (k12.mono (Nat.le_trans u2 (Nat.le_of_lt v11)))
  have HA12 := Lib.hid (HA11.out.keepW (keep_below _ k12))
  have HB12 := Lib.hid (HB11.out.keepW (keep_below _ k12))
  clear k12 l11 v11 H12 HZ11 T12 HA11 HB11
  go_wp2_with fail
  go_fit H13.out
  rintro e w13 ⟨rfl, ⟨a13, d13, Z13⟩, k13⟩
  have l13 : Below w.heap.size w w13 := below_keep l12 k13 u2 (Nat.le_trans u2 (Nat.le_of_lt v12))
  have v13 : U2 < w13.heap.size := Nat.lt_of_lt_of_le v12 k13.size
  have HA13 := Lib.hid (HA12.out.keepW k13)
  have HB13 := Lib.hid (HB12.out.keepW k13)
  have Z13' : UndoW (fun k => k ≠ U2) w13 U2 ⟨(b5, ⟨#[99]⟩, 2), [(b3, ⟨#[97]⟩, 0)], [], 5⟩ a13 d13 := Z13
  have H14 := Lib.hid (usay_at (x := 1) (y := 0) w13 Z13' rfl rfl)
  have HZ13 := Lib.hid Z13'
  clear l12 v12 H13 Z13 Z13' k13 HA12 HB12
  go_wp2_with fail
  go_fit H14.out
  rintro e w14 ⟨rfl, k14⟩
  have v14 : U2 < w14.heap.size := Nat.lt_of_lt_of_le v13 k14.size
  have l14 : Below w.heap.size w w14 := l13.trans (k14.mono (Nat.le_trans u2 (Nat.le_of_lt v13)))
  have HA14 := Lib.hid (HA13.out.keepW (keep_below _ k14))
  have HB14 := Lib.hid (HB13.out.keepW (keep_below _ k14))
  have H15 := Lib.hid (uundo_some (ps := []) (p := (b3, ⟨#[97]⟩, 0)) w14 (HZ13.out.below k14) rfl (fun k hk => by omega))
  clear l13 v13 H14 HZ13 k14 HA13 HB13
  go_wp2_with fail
  go_fit H15.out
  rintro e w15 ⟨rfl, ⟨a15, d15, Z15⟩, k15⟩
  have l15 : Below w.heap.size w w15 := below_keep l14 k15 u2 (Nat.le_trans u2 (Nat.le_of_lt v14))
  have v15 : U2 < w15.heap.size := Nat.lt_of_lt_of_le v14 k15.size
  have HB15 := Lib.hid (HB14.out.keepW k15)
  have H16 := Lib.hid (uis_any 0 w15 (HA14.out.keepW k15))
  have HZ15 := Lib.hid Z15
  clear l14 v14 H15 Z15 k15 HA14 HB14
  go_wp2_with fail
  go_fit H16.out
  rintro e w16 ⟨rfl, k16⟩
  have v16 : U2 < w16.heap.size := Nat.lt_of_lt_of_le v15 k16.size
  have l16 : Below w.heap.size w w16 := l15.trans (k16.mono (Nat.le_trans u2 (Nat.le_of_lt v15)))
  have H17 := Lib.hid (uis_any 1 w16 (HB15.out.keepW (keep_below _ k16)))
  have HZ16 := Lib.hid (HZ15.out.below k16)
  clear l15 v15 k16 H16 HB15 HZ15
  go_wp2_with fail
  go_fit H17.out
  rintro e w17 ⟨rfl, k17⟩
  have v17 : U2 < w17.heap.size := Nat.lt_of_lt_of_le v16 k17.size
  have l17 : Below w.heap.size w w17 := l16.trans (k17.mono (Nat.le_trans u2 (Nat.le_of_lt v16)))
  have HZ17 := Lib.hid (HZ16.out.below k17)
  have T17 : TextP (fun k => k ≠ U2) w17 b3 ⟨#[97]⟩ := HZ17.out.text
  have H18 := Lib.hid (uis_any 0 w17 T17)
  clear l16 v16 k17 H17 HZ16
  go_wp2_with fail
  go_fit H18.out
  rintro e w18 ⟨rfl, k18⟩
  have v18 : U2 < w18.heap.size := Nat.lt_of_lt_of_le v17 k18.size
  have l18 : Below w.heap.size w w18 := l17.trans (k18.mono (Nat.le_trans u2 (Nat.le_of_lt v17)))
  have HZ18 := Lib.hid (HZ17.out.below k18)
  have H19 := Lib.hid (utext_any (ok := fun k => k ≠ U2) ⟨#[100]⟩ w18 (fun k hk => by omega) (by decide))
  clear l17 v17 k18 H18 HZ17 T17
  go_wp2_with fail
  go_fit H19.out
  rintro e w19 ⟨⟨b6, rfl, T19⟩, k19⟩
  have v19 : U2 < w19.heap.size := Nat.lt_of_lt_of_le v18 k19.size
  have l19 : Below w.heap.size w w19 := l18.trans (k19.mono (Nat.le_trans u2 (Nat.le_of_lt v18)))
  have H20 := Lib.hid (udo_any b6 ⟨#[100]⟩ 3 5 w19 (HZ18.out.below k19) T19 (fun k hk => by omega))
  clear l18 v18 k19 H19 HZ18 T19
  go_wp2_with fail
  go_fit H20.out
  rintro e w20 ⟨rfl, ⟨a20, d20, Z20⟩, k20⟩
  have l20 : Below w.heap.size w w20 := below_keep l19 k20 u2 (Nat.le_trans u2 (Nat.le_of_lt v19))
  have v20 : U2 < w20.heap.size := Nat.lt_of_lt_of_le v19 k20.size
  have H21 := Lib.hid (usay_at (x := 1) (y := 0) w20 Z20 rfl rfl)
  clear l19 v19 H20 Z20 k20
  go_wp2_with fail
  go_fit H21.out
  rintro e w21 ⟨rfl, k21⟩
  have l21 : Below w.heap.size w w21 := l20.trans (k21.mono (Nat.le_trans u2 (Nat.le_of_lt v20)))
  clear H21 k21 l20 v20
  go_wp2
  go_ret
  exact ⟨rfl, l21⟩
end Go.Proofs.Ytpkfmhggaiifgaa
