/-
  keys.behindEsc, behindO: what each returns, which bytes wait then: for every byte.
-/
import Derived.Test.YtdnldfgolbcjiaaDoorBe20
namespace Go.Proofs.YtdnldfgolbcjiaaDoor
open Go.RowKit

/-- A turn behind some memory of the call's own. -/
theorem fed_below {N D : Nat} {ok : Nat → Prop} {w w1 w' : World} {r : Ky × List Ke} {e : Ending} (hb : Below w.heap.size w w1) (hf : FedK N D ok w1 r e w') : FedK N D ok w r e w' := by
  obtain ⟨u, v', he, hu, hd, hk, ho⟩ := hf
  exact ⟨u, v', he, hu.any fun j (hj : w1.heap.size ≤ j) => Nat.le_trans hb.size hj, hd, (keep_below _ hb).trans hk, fun j e hj => ho j e (Nat.lt_of_lt_of_le hj hb.size)⟩
set_option maxRecDepth 4000 in
set_option maxHeartbeats 4000000 in
theorem kesc_any (N : Nat) (w : World) (D b : Nat) (x v : Value) (s : ByteArray) (hB : boxK w D x) (hR : OwnB N w v s) (hne : v.ownBlock ≠ some D) (hN : N ≤ w.heap.size) (hD : N ≤ D) (hT : TabK N w) (hb : b < 256) (hs : s.size ≤ 50000) :
    Calls Tryd.prog 45 #[.pointer (some ⟨D, 0, none⟩), v, .int .u8 (b : Int)] w (FedK N D (okK D v) w (escK s b)) := by
  have hDl := hB.lt
  have YB := Lib.hid (fun W (h : Below w.heap.size w W) => (⟨hB.below h, hT.below h, Nat.le_trans hN h.size, hR.below h, hR.bytes.below h⟩ : boxK W D x ∧ TabK N W ∧ N ≤ W.heap.size ∧ OwnB N W v s ∧ BytesW W v s))
  have HDN := Lib.hid (fun W k (h : boxK W D x) (hN : N ≤ W.heap.size) => kdone_any N W D x k h hN hD)
  have HAN := Lib.hid (fun W k (h : boxK W D x) (hN : N ≤ W.heap.size) (hT : TabK N W) => kanew_any N W D b x k h hN hD hT hb)
  have HWT := Lib.hid (fun W v (h : boxK W D x) => kwait_any W D x v h)
  have HIN := Lib.hid (fun W (h : BytesW W v s) => kinv_any W v s h)
  have HAP := Lib.hid (fun W (hB : boxK W D x) (hR : OwnB N W v s) (hN : N ≤ W.heap.size) (hT : TabK N W) => app_prep N D W x v s b 52 52 Tryd.underlying52 hB hR hne hN hD hT hb (by omega))
  have HPB := Lib.hid (fun W w2 w3 v1 (hp : PrepW N D W x v s b v1 w2) (hb : Below w2.heap.size w2 w3) => hp.below hb)
  have HD := Lib.hid hD
  have HS1 := Lib.hid (fun W (h : N ≤ W.heap.size) => row_byte N W b hb h)
  have HST := Lib.hid (fun W (h : TabK N W) sl (hv : BytesW W sl (oneS b)) => kstarts_any (oneS b) sl W h.u (by rw [one_size]; decide) (by rw [one_size]; decide) hv)
  clear hB hR hT hD hne hDl
  by_cases e91 : b = 91
  · have HE : Hid (escK s b = (.held (s ++ oneS b), [])) := by show escK s b = _; unfold escK; rw [if_pos]; exact .inl e91
    obtain ⟨y1, y2, y3, y4, _⟩ := YB.out w (Below.refl _ _)
    obtain ⟨v1, w1, hr, HP⟩ := HAP.out w y1 y4 y3 y2
    subst e91
    have HP := Lib.hid HP
    have HBX := Lib.hid HP.out.box
    go_enter Tryd.func45, Tryd.ntmps45
    go_wp2_with (at_builtin; refine wpList_run (by rfl) _ _ 52 (by rfl) (by rfl) (by rfl) hr ?_)
    go_fit (HWT.out _ _ HBX.out)
    rintro e w' ⟨rfl, hB, hk⟩
    go_wp2_with fail
    go_ret
    rw [HE.out]
    exact HP.out.wait (.held (s ++ oneS 91)) hB rfl hk HD.out
  have i91 : ((b : Int) == 91) = false := u8_no e91
  by_cases e79 : b = 79
  · have HE : Hid (escK s b = (.held (s ++ oneS b), [])) := by show escK s b = _; unfold escK; rw [if_pos]; exact .inr (.inl e79)
    obtain ⟨y1, y2, y3, y4, _⟩ := YB.out w (Below.refl _ _)
    obtain ⟨v1, w1, hr, HP⟩ := HAP.out w y1 y4 y3 y2
    subst e79
    have HP := Lib.hid HP
    have HBX := Lib.hid HP.out.box
    go_enter Tryd.func45, Tryd.ntmps45
    go_wp2_with (at_builtin; refine wpList_run (by rfl) _ _ 52 (by rfl) (by rfl) (by rfl) hr ?_)
    go_fit (HWT.out _ _ HBX.out)
    rintro e w' ⟨rfl, hB, hk⟩
    go_wp2_with fail
    go_ret
    rw [HE.out]
    exact HP.out.wait (.held (s ++ oneS 79)) hB rfl hk HD.out
  have i79 : ((b : Int) == 79) = false := u8_no e79
  by_cases hg : begB (oneS b) = true
  · have HE : Hid (escK s b = (.held (s ++ oneS b), [])) := by show escK s b = _; unfold escK; rw [if_pos (.inr (.inr hg))]
    rw [hg] at HST
    clear hg
    go_enter Tryd.func45, Tryd.ntmps45
    go_wp2_with fail
    go_fit (HST.out _ (YB.out _ (alloc_below w _)).2.1 _ (HS1.out w hN).bytes)
    rintro e w1 ⟨rfl, hb1⟩
    have hbw : Below w.heap.size w w1 := (alloc_below w _).trans (hb1.mono (alloc_below w _).size)
    clear hb1
    obtain ⟨y1, y2, y3, y4, _⟩ := YB.out w1 hbw
    obtain ⟨v1, w2, hr, HP⟩ := HAP.out w1 y1 y4 y3 y2
    have HP := Lib.hid HP
    have HBX := Lib.hid HP.out.box
    clear y1 y2 y3 y4
    go_wp2_with (at_builtin; refine wpList_run (by rfl) _ _ 52 (by rfl) (by rfl) (by rfl) hr ?_)
    go_fit (HWT.out _ _ HBX.out)
    rintro e w' ⟨rfl, hB, hk⟩
    go_wp2_with fail
    go_ret
    rw [HE.out]
    exact fed_below hbw (HP.out.wait (.held (s ++ oneS b)) hB rfl hk HD.out)
  have hg0 : begB (oneS b) = false := by cases h : begB (oneS b); rfl; exact absurd h hg
  rw [hg0] at HST
  have HE0 : Hid (escK s b = if 32 ≤ b ∧ b < 127 then (.held noB, [(7, b, noB)]) else anewK (5, 0, noB) b) := by
    show escK s b = _
    unfold escK
    rw [if_neg]
    rintro (h | h | h)
    · exact e91 h
    · exact e79 h
    · exact hg h
  clear hg hg0
  by_cases hc : 32 ≤ b ∧ b < 127
  · have j1 : (32 : Int) ≤ (b : Int) := by omega
    have j2 : (b : Int) < 127 := by omega
    have HE : Hid (escK s b = (.held noB, [(7, b, noB)])) := by show escK s b = _; rw [HE0.out, if_pos hc]
    have HDK := Lib.hid (fun W (h : boxK W D x) (hN : N ≤ W.heap.size) => HDN.out W (7, b, noB) h hN)
    clear hc HE0
    go_enter Tryd.func45, Tryd.ntmps45
    go_wp2_with fail
    go_fit (HST.out _ (YB.out _ (alloc_below w _)).2.1 _ (HS1.out w hN).bytes)
    rintro e w1 ⟨rfl, hb1⟩
    have hbw : Below w.heap.size w w1 := (alloc_below w _).trans (hb1.mono (alloc_below w _).size)
    clear hb1
    obtain ⟨y1, y2, y3, y4, _⟩ := YB.out w1 hbw
    clear y2 y4
    go_wp2_with fail
    go_fit (HDK.out _ y1 y3)
    rintro e w' ⟨⟨u, rfl, hu, _⟩, ⟨v9, hd, hv⟩, hk⟩
    go_wp2_with fail
    go_ret
    rw [HE.out]
    exact fed_lift hbw (fed_done (Below.refl _ _) hu hd hv hk)
  have HE : Hid (escK s b = anewK (5, 0, noB) b) := by show escK s b = _; rw [HE0.out, if_neg hc]
  clear HE0
  by_cases c1 : b < 32
  · have j1 : (b : Int) < 32 := by omega
    clear hc
    go_enter Tryd.func45, Tryd.ntmps45
    go_wp2_with fail
    go_fit (HST.out _ (YB.out _ (alloc_below w _)).2.1 _ (HS1.out w hN).bytes)
    rintro e w1 ⟨rfl, hb1⟩
    have hbw : Below w.heap.size w w1 := (alloc_below w _).trans (hb1.mono (alloc_below w _).size)
    clear hb1
    obtain ⟨y1, y2, y3, y4, _⟩ := YB.out w1 hbw
    clear y4
    have HAK := Lib.hid (HAN.out w1 (5, 0, noB) y1 y3 y2)
    clear y1 y2 y3
    go_wp2_with fail
    go_fit (HAK.out)
    rintro e w' hf
    have HFf := Lib.hid (fed_lift (v := v) hbw hf)
    obtain ⟨u, v9, rfl, _⟩ := hf
    go_wp2_with fail
    go_ret
    rw [HE.out]
    exact HFf.out
  · have j1 : (32 : Int) ≤ (b : Int) := by omega
    have j2 : (127 : Int) ≤ (b : Int) := by omega
    clear hc
    go_enter Tryd.func45, Tryd.ntmps45
    go_wp2_with fail
    go_fit (HST.out _ (YB.out _ (alloc_below w _)).2.1 _ (HS1.out w hN).bytes)
    rintro e w1 ⟨rfl, hb1⟩
    have hbw : Below w.heap.size w w1 := (alloc_below w _).trans (hb1.mono (alloc_below w _).size)
    clear hb1
    obtain ⟨y1, y2, y3, y4, _⟩ := YB.out w1 hbw
    clear y4
    have HAK := Lib.hid (HAN.out w1 (5, 0, noB) y1 y3 y2)
    clear y1 y2 y3
    go_wp2_with fail
    go_fit (HAK.out)
    rintro e w' hf
    have HFf := Lib.hid (fed_lift (v := v) hbw hf)
    obtain ⟨u, v9, rfl, _⟩ := hf
    go_wp2_with fail
    go_ret
    rw [HE.out]
    exact HFf.out
set_option maxRecDepth 4000 in
set_option maxHeartbeats 4000000 in
theorem kss3_any (N : Nat) (w : World) (D b : Nat) (x v : Value) (s : ByteArray) (hB : boxK w D x) (hR : OwnB N w v s) (hne : v.ownBlock ≠ some D) (hN : N ≤ w.heap.size) (hD : N ≤ D) (hT : TabK N w) (hb : b < 256) (hs : s.size ≤ 50000) (h2 : 2 ≤ s.size) :
    Calls Tryd.prog 46 #[.pointer (some ⟨D, 0, none⟩), v, .int .u8 (b : Int)] w (FedK N D (okK D v) w (ss3K s b)) := by
  have hDl := hB.lt
  have YB := Lib.hid (fun W (h : Below w.heap.size w W) => (⟨hB.below h, hT.below h, Nat.le_trans hN h.size, hR.below h, hR.bytes.below h⟩ : boxK W D x ∧ TabK N W ∧ N ≤ W.heap.size ∧ OwnB N W v s ∧ BytesW W v s))
  have HDN := Lib.hid (fun W k (h : boxK W D x) (hN : N ≤ W.heap.size) => kdone_any N W D x k h hN hD)
  have HAN := Lib.hid (fun W k (h : boxK W D x) (hN : N ≤ W.heap.size) (hT : TabK N W) => kanew_any N W D b x k h hN hD hT hb)
  have HWT := Lib.hid (fun W v (h : boxK W D x) => kwait_any W D x v h)
  have HIN := Lib.hid (fun W (h : BytesW W v s) => kinv_any W v s h)
  have HAP := Lib.hid (fun W (hB : boxK W D x) (hR : OwnB N W v s) (hN : N ≤ W.heap.size) (hT : TabK N W) => app_prep N D W x v s b 52 52 Tryd.underlying52 hB hR hne hN hD hT hb (by omega))
  have HPB := Lib.hid (fun W w2 w3 v1 (hp : PrepW N D W x v s b v1 w2) (hb : Below w2.heap.size w2 w3) => hp.below hb)
  have HD := Lib.hid hD
  have HS1 := Lib.hid (fun W (h : N ≤ W.heap.size) => row_byte N W b hb h)
  have HKN := Lib.hid (fun W v1 (h : BytesW W v1 (s ++ oneS b)) => kknown_any (s ++ oneS b) v1 W h (by rw [snoc_size]; omega) (by rw [snoc_size]; omega))
  clear hB hR hT hD hne hDl
  by_cases c1 : b < 32
  · have j1 : (b : Int) < 32 := by omega
    have HE : Hid (ss3K s b = anewK (badK s) b) := by show ss3K s b = _; unfold ss3K; rw [if_pos (.inl c1)]
    obtain ⟨y1, y2, y3, y4, y5⟩ := YB.out w (Below.refl _ _)
    go_enter Tryd.func46, Tryd.ntmps46
    go_wp2_with fail
    go_fit (HIN.out _ y5)
    rintro e w1 ⟨rfl, hb1⟩
    obtain ⟨z1, z2, z3, _, _⟩ := YB.out _ hb1
    have HAK := Lib.hid (HAN.out w1 (badK s) z1 z3 z2)
    clear z1 z2 z3 y1 y2 y3 y4 y5
    go_wp2_with fail
    go_fit (HAK.out)
    rintro e w' hf
    have HFf := Lib.hid (fed_lift (v := v) hb1 hf)
    obtain ⟨u, v9, rfl, _⟩ := hf
    go_wp2_with fail
    go_ret
    rw [HE.out]
    exact HFf.out
  have j1 : (32 : Int) ≤ (b : Int) := by omega
  by_cases c2 : 127 ≤ b
  · have j2 : (127 : Int) ≤ (b : Int) := by omega
    have HE : Hid (ss3K s b = anewK (badK s) b) := by show ss3K s b = _; unfold ss3K; rw [if_pos (.inr c2)]
    obtain ⟨y1, y2, y3, y4, y5⟩ := YB.out w (Below.refl _ _)
    go_enter Tryd.func46, Tryd.ntmps46
    go_wp2_with fail
    go_fit (HIN.out _ y5)
    rintro e w1 ⟨rfl, hb1⟩
    obtain ⟨z1, z2, z3, _, _⟩ := YB.out _ hb1
    have HAK := Lib.hid (HAN.out w1 (badK s) z1 z3 z2)
    clear z1 z2 z3 y1 y2 y3 y4 y5
    go_wp2_with fail
    go_fit (HAK.out)
    rintro e w' hf
    have HFf := Lib.hid (fed_lift (v := v) hb1 hf)
    obtain ⟨u, v9, rfl, _⟩ := hf
    go_wp2_with fail
    go_ret
    rw [HE.out]
    exact HFf.out
  · have j2 : (b : Int) < 127 := by omega
    have HE : Hid (ss3K s b = (.held noB, [knownK (s ++ oneS b)])) := by show ss3K s b = _; unfold ss3K; rw [if_neg (by omega)]
    obtain ⟨y1, y2, y3, y4, _⟩ := YB.out w (Below.refl _ _)
    obtain ⟨v1, w1, hr, HP⟩ := HAP.out w y1 y4 y3 y2
    have HP := Lib.hid HP
    clear y1 y2 y3 y4
    go_enter Tryd.func46, Tryd.ntmps46
    go_wp2_with (at_builtin; refine wpList_run (by rfl) _ _ 52 (by rfl) (by rfl) (by rfl) hr ?_)
    go_fit (HKN.out _ _ HP.out.row.bytes)
    rintro e w2 ⟨rfl, hb2⟩
    have HP2 := Lib.hid (HPB.out _ _ _ _ HP.out hb2)
    clear hb2
    go_wp2_with fail
    go_fit (HDN.out _ _ HP2.out.box HP2.out.n)
    rintro e w' ⟨⟨u, rfl, hu, _⟩, ⟨v9, hd, hv⟩, hk⟩
    go_wp2_with fail
    go_ret
    rw [HE.out]
    exact HP2.out.fed (fed_done (Below.refl _ _) hu hd hv hk)
end Go.Proofs.YtdnldfgolbcjiaaDoor
