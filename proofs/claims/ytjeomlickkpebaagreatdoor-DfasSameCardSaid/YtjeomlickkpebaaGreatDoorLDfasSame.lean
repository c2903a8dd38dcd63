/-
  limnerlaw12.DfasSame: it returns true, for any rule.
-/
import Derived.Test.YtjeomlickkpebaaGreatDoorBe45
import Derived.Test.YtjeomlickkpebaaGreatDoorBe46
import Derived.Test.YtjeomlickkpebaaGreatDoorBe44
namespace Go.Proofs.YtjeomlickkpebaaGreatDoor
open Go.RowKit

/-- What made returns, in numbers. -/
def MadN (L : List ByteArray) (w' : World) (dp : Option Addr) (er : Int) : Prop :=
  (er = 0 → makeE L = 0 ∧ ∃ k, DfW w' (.pointer dp) (tabL L k) ∧ (goL L k).1.length = k) ∧ (er ≠ 0 → makeE L = 0 → er = 70)
theorem MadN.below {L : List ByteArray} {w w' : World} {dp : Option Addr} {er : Int} (h : MadN L w dp er) (hb : Below w.heap.size w w') : MadN L w' dp er :=
  ⟨fun e => by
    obtain ⟨h1, k, h2, h3⟩ := h.1 e
    exact ⟨h1, k, h2.below hb, h3⟩, h.2⟩
theorem made_num {w : World} {v : Value} {L : List ByteArray} (h : StrsW w v L) (he : EnvW w) : Calls Tryz.prog 13 #[v] w fun e w' => ∃ np dp er, e = .returned (.tuple #[.pointer np, .pointer dp, .int .i64 er]) ∧ MadN L w' dp er ∧ Below w.heap.size w w' :=
  (dmade_any h he).mono fun e w' ⟨ho, hb⟩ => by
    rcases ho with ⟨hne, rfl⟩ | ⟨h0, np, hnp, ⟨dp, k, rfl, hD, hk⟩ | ⟨rfl, ls, h4, h5, h6⟩⟩
    · exact ⟨_, _, _, rfl, ⟨fun e => absurd e hne, fun _ e => absurd e hne⟩, hb⟩
    · exact ⟨_, _, _, rfl, ⟨fun _ => ⟨h0, k, hD, hk⟩, fun e => absurd rfl e⟩, hb⟩
    · exact ⟨_, _, _, rfl, ⟨fun e => (by cases e), fun _ _ => rfl⟩, hb⟩
theorem one_str (w : World) (s : ByteArray) : StrsW (w.alloc (.cells #[.string s] 9)) (.slice (some ⟨w.heap.size, 0, none⟩) 1 1) [s] :=
  strsW_of _ _ [s] (fun i x hx => cell_of_al i _ (by
    have h3 : i < 1 := (List.getElem?_eq_some_iff.1 hx).1
    rcases i with _ | i
    · cases hx; rfl
    · omega))
set_option maxRecDepth 4000 in
set_option maxHeartbeats 16000000 in
theorem dfasSame_any (s : ByteArray) (w : World) (he : EnvW w) :
    Calls Tryz.prog 8 #[.string s] w fun e w' => e = .returned (.bool true) ∧ Below w.heap.size w w' := by
  have HTB := Lib.hid (fun (W : World) (hb : Below w.heap.size w W) => (tabled_any (he.below hb)).mono fun e w' h2 => (⟨h2.1, hb.trans (h2.2.mono hb.size)⟩ : e = .returned (.bool true) ∧ Below w.heap.size w w'))
  have HMD : Hid (∀ (W : World) (t : ByteArray), Below w.heap.size w W → Calls Tryz.prog 13 #[.slice (some ⟨W.heap.size, 0, none⟩) 1 1] (W.alloc (.cells #[.string t] 9)) fun e w' => ∃ np dp er, e = .returned (.tuple #[.pointer np, .pointer dp, .int .i64 er]) ∧ MadN [t] w' dp er ∧ Below W.heap.size W w' ∧ Below w.heap.size w w') := Lib.hid fun W t hb =>
    (made_num (one_str W t) (he.below (hb.trans ((alloc_under W _).mono hb.size)))).mono fun e w' ⟨np, dp, er, h1, h2, h3⟩ => by
      have h4 := (alloc_under W (.cells #[.string t] 9)).trans (h3.mono (alloc_under W _).size)
      exact ⟨np, dp, er, h1, h2, h4, hb.trans (h4.mono hb.size)⟩
  have HMN := Lib.hid (fun (W : World) (u : Value) (d : Dfa) (h : DfW W u d) => pmin_any h)
  clear he
  by_cases hs9 : 20 < s.size
  · have hsi : (s.size : Int) > 20 := by omega
    have HX := Lib.hid (HTB.out _ (Below.refl _ _))
    clear HTB hs9 HMD HMN
    go_enter Tryz.func8, Tryz.ntmps8
    go_wp2_with fail
    go_fit HX.out
    rintro e w9 ⟨rfl, hb⟩
    have HB := Lib.hid hb
    clear hb
    go_wp2_with fail
    go_ret
    exact ⟨rfl, HB.out⟩
  have hsi : ¬ (s.size : Int) > 20 := by omega
  obtain ⟨xb, hxb⟩ : ∃ x, (⟨#[40]⟩ : ByteArray) ++ s ++ (⟨#[41]⟩ : ByteArray) = x := ⟨_, rfl⟩
  have hxz : xb.size = s.size + 2 := by rw [← hxb]; exact parB_size s
  have HXB : Hid (parB s = xb) := Lib.hid hxb
  have hs20 : s.size ≤ 20 := by omega
  have hx22 : xb.size ≤ 22 := by omega
  have HS20 := Lib.hid hs20
  go_enter Tryz.func8, Tryz.ntmps8
  go_wp2_with fail
  (try rw [hxb])
  clear hxz hs9 hxb
  go_fit (HMD.out _ s (Below.refl _ _))
  rintro e w1 ⟨np1, dp1, er1, rfl, hm1, _, hb1⟩
  have H1 := Lib.hid (And.intro hm1 hb1)
  clear hm1 hb1
  go_wp2_with fail
  go_fit (HMD.out _ (xb ++ ⟨#[124]⟩ ++ xb) H1.out.2)
  rintro e w2 ⟨np2, dp2, er2, rfl, hm2, hc2, hb2⟩
  have H2 := Lib.hid (And.intro (H1.out.1.below hc2) (And.intro hm2 hb2))
  clear hm2 hb2 hc2 H1
  go_wp2_with fail
  go_fit (HMD.out _ (xb ++ ⟨#[42]⟩) H2.out.2.2)
  rintro e w3 ⟨np3, dp3, er3, rfl, hm3, hc3, hb3⟩
  have H3 := Lib.hid (And.intro (H2.out.1.below hc3) (And.intro (H2.out.2.1.below hc3) (And.intro hm3 hb3)))
  clear hm3 hb3 hc3 H2
  go_wp2_with fail
  go_fit (HMD.out _ (⟨#[40]⟩ ++ xb ++ ⟨#[43, 41, 63]⟩) H3.out.2.2.2)
  rintro e w4 ⟨np4, dp4, er4, rfl, hm4, hc4, hb4⟩
  have H4 := Lib.hid (And.intro (H3.out.1.below hc4) (And.intro (H3.out.2.1.below hc4) (And.intro (H3.out.2.2.1.below hc4) (And.intro hm4 hb4))))
  clear hm4 hb4 hc4 H3
  have hx5 := HTB.out _ H4.out.2.2.2.2
  by_cases k1 : er1 = 0
  · subst k1
    have HA := Lib.hid (H4.out.1.1 rfl)
    have HT := Lib.hid (two_rule HA.out.1 HS20.out)
    have HU := Lib.hid (star_rule HA.out.1 HS20.out)
    have HE2 : Hid (er2 ≠ 0 → er2 = 70) := Lib.hid (fun e => H4.out.2.1.2 e (by rw [← HXB.out]; exact HT.out.1))
    have HE3 : Hid (er3 ≠ 0 → er3 = 70) := Lib.hid (fun e => H4.out.2.2.1.2 e (by rw [← HXB.out]; exact HU.out.1))
    have HE4 : Hid (er4 ≠ 0 → er4 = 70) := Lib.hid (fun e => H4.out.2.2.2.1.2 e (by rw [← HXB.out]; exact HU.out.2.1))
    have HB4 := Lib.hid H4.out.2.2.2.2
    clear hx5
    by_cases k2 : er2 = 0
    · subst k2
      by_cases k3 : er3 = 0
      · subst k3
        by_cases k4 : er4 = 0
        · subst k4
          clear HE2 HE3 HE4
          obtain ⟨_, kA, dA, lA⟩ := HA.out
          obtain ⟨_, kB, dB, lB⟩ := H4.out.2.1.1 rfl
          obtain ⟨_, kC, dC, lC⟩ := H4.out.2.2.1.1 rfl
          obtain ⟨_, kD, dD, lD⟩ := H4.out.2.2.2.1.1 rfl
          have HK : Hid (∀ (W : World) (L : List ByteArray) (k : Nat) (dp : Option Addr), DfW W (.pointer dp) (tabL L k) → (goL L k).1.length = k → Calls Tryz.prog 15 #[.pointer dp] W fun e w' => ∃ p M, e = .returned (.pointer p) ∧ DfW w' (.pointer p) M ∧ IsMin (sayR (nodesP L)) M ∧ Below W.heap.size W w') := Lib.hid fun W L k dp h hl =>
            (HMN.out W _ _ h).mono fun e w' ⟨p, M, h1, h2, h3, h4⟩ => ⟨p, M, h1, h2, h3.conv (tabL_says hl).2, h4⟩
          have HDD := Lib.hid (And.intro (And.intro dA lA) (And.intro (And.intro dB lB) (And.intro (And.intro dC lC) (And.intro dD lD))))
          have HS1 : Hid (sayR (nodesP [xb ++ ⟨#[124]⟩ ++ xb]) = sayR (nodesP [s])) := Lib.hid (by rw [← HXB.out]; exact HT.out.2)
          have HS2 : Hid (sayR (nodesP [⟨#[40]⟩ ++ xb ++ ⟨#[43, 41, 63]⟩]) = sayR (nodesP [xb ++ ⟨#[42]⟩])) := Lib.hid (by rw [← HXB.out]; exact HU.out.2.2)
          clear dA lA dB lB dC lC dD lD HMN HA HT HU
          go_wp2_with fail
          go_fit (HK.out _ _ _ _ HDD.out.1.1 HDD.out.1.2)
          rintro e w5 ⟨p5, M5, rfl, m5, i5, hb5⟩
          have H5 := Lib.hid (And.intro m5 (And.intro i5 hb5))
          clear m5 i5 hb5
          go_wp2_with fail
          go_fit (HK.out _ _ _ _ (HDD.out.2.1.1.below H5.out.2.2) HDD.out.2.1.2)
          rintro e w6 ⟨p6, M6, rfl, m6, i6, hb6⟩
          have e6 : M6 = M5 := min_unique (by rw [HS1.out] at i6; exact i6) H5.out.2.1
          subst e6
          have h46 := H5.out.2.2.trans (hb6.mono H5.out.2.2.size)
          have H6 := Lib.hid (And.intro (dalike_any (H5.out.1.below hb6) m6) h46)
          clear m6 i6 hb6 h46 H5
          go_wp2_with fail
          go_fit H6.out.1
          rintro e w7 ⟨rfl, rfl⟩
          have H7 := Lib.hid H6.out.2
          clear H6
          go_wp2_with fail
          go_fit (HK.out _ _ _ _ (HDD.out.2.2.1.1.below H7.out) HDD.out.2.2.1.2)
          rintro e w8 ⟨p8, M8, rfl, m8, i8, hb8⟩
          have h48 := H7.out.trans (hb8.mono H7.out.size)
          have H8 := Lib.hid (And.intro m8 (And.intro i8 h48))
          clear m8 i8 hb8 h48 H7
          go_wp2_with fail
          go_fit (HK.out _ _ _ _ (HDD.out.2.2.2.1.below H8.out.2.2) HDD.out.2.2.2.2)
          rintro e w9 ⟨p9, M9, rfl, m9, i9, hb9⟩
          have e9 : M9 = M8 := min_unique (by rw [HS2.out] at i9; exact i9) H8.out.2.1
          subst e9
          have h49 := H8.out.2.2.trans (hb9.mono H8.out.2.2.size)
          have H9 := Lib.hid (And.intro (dalike_any (H8.out.1.below hb9) m9) h49)
          clear m9 i9 hb9 h49 H8
          go_wp2_with fail
          go_fit H9.out.1
          rintro e wA ⟨rfl, rfl⟩
          have HX := Lib.hid (HTB.out _ (HB4.out.trans (H9.out.2.mono HB4.out.size)))
          clear H9 HTB
          go_wp2_with fail
          go_fit HX.out
          rintro e wB ⟨rfl, hb⟩
          have HB := Lib.hid hb
          clear hb
          go_wp2_with fail
          go_ret
          exact ⟨rfl, HB.out⟩
        · obtain rfl : er4 = 70 := HE4.out k4
          clear k4
          go_wp2_with fail
          go_ret
          exact ⟨rfl, HB4.out⟩
      · obtain rfl : er3 = 70 := HE3.out k3
        have k4b : (er4 == 70) = decide (er4 = 70) := rfl
        clear k3 k4b
        go_wp2_with fail
        go_ret
        exact ⟨rfl, HB4.out⟩
    · obtain rfl : er2 = 70 := HE2.out k2
      clear k2
      go_wp2_with fail
      go_ret
      exact ⟨rfl, HB4.out⟩
  · have k1b : (er1 == 0) = false := beq_eq_false_iff_ne.2 k1
    have k1c : (er1 != 0) = true := by simpa using k1
    have HX := Lib.hid hx5
    clear hx5 k1
    go_wp2_with fail
    go_fit HX.out
    rintro e w9 ⟨rfl, hb⟩
    have HB := Lib.hid hb
    clear hb
    go_wp2_with fail
    go_ret
    exact ⟨rfl, HB.out⟩
end Go.Proofs.YtjeomlickkpebaaGreatDoor
