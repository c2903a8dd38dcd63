/-
  keys: feedKey, Feed, Tick, Waiting: what each returns, and where a decoder that New made stands then: for every state, for every byte.
-/
import Derived.Test.YtdnldfgolbcjiaaDoorBe26
import Derived.Test.YtdnldfgolbcjiaaDoorBe27
import Derived.Test.YtdnldfgolbcjiaaDoorBe29
namespace Go.Proofs.YtdnldfgolbcjiaaDoor
open Go.RowKit

set_option maxRecDepth 4000 in
set_option maxHeartbeats 4000000 in
theorem kkey_any (N : Nat) (w : World) (D b : Nat) (v : Value) (s : ByteArray) (h : DecW N w D v (.held s)) (hN : N ≤ w.heap.size) (hT : TabK N w) (hb : b < 256) (hs : s.size ≤ 50000) :
    Calls Tryd.prog 25 #[.pointer (some ⟨D, 0, none⟩), v, .int .u8 (b : Int)] w (FedK N D (okK D v) w (heldK s b)) := by
  have hB := h.box
  have hR : OwnB N w v s := h.row
  have hne := h.ne
  have hD := h.ge
  have HV := Lib.hid (hR.bytes)
  by_cases h0 : s.size = 0
  · have H := Lib.hid (kfirst_any N w D b _ hB hN hD hT hb)
    have HE : Hid (heldK s b = firstK b) := by show heldK s b = _; unfold heldK; rw [if_pos h0]
    obtain ⟨ao, c, rfl, _⟩ := hR.bytes.form
    rw [h0] at HV ⊢
    clear h hB hR hne hD hT h0
    go_enter Tryd.func25, Tryd.ntmps25
    go_wp2_with fail
    go_fit H.out
    rintro e w' hf
    have HFf := Lib.hid (fed_lift (v := .slice ao 0 c) (Below.refl _ _) hf)
    obtain ⟨u, v9, rfl, _⟩ := hf
    go_wp2_with fail
    go_ret
    rw [HE.out]
    exact HFf.out
  obtain ⟨g, cap, hvf, hcap⟩ := hR.form0 (by omega)
  have hcs : ∀ i, i < s.size → w.cell? ⟨g, 0 + i, none⟩ = some (.int .u8 (bt s i : Int)) := by
    obtain ⟨g', o', cap', he, _, hc⟩ := HV.out.cells (by omega)
    rw [hvf] at he
    cases he
    exact hc
  have c0 := hcs 0 (by omega)
  rw [Nat.zero_add] at c0
  have hi0 : 0 < s.size := by omega
  by_cases e27 : bt s 0 = 27
  · have i0 : (bt s 0 : Int) = 27 := by omega
    rw [i0] at c0
    by_cases h1 : s.size = 1
    · have H := Lib.hid (kesc_any N w D b _ v s hB hR hne hN hD hT hb hs)
      have HE : Hid (heldK s b = escK s b) := by show heldK s b = _; unfold heldK; rw [if_neg h0, if_neg (fun h => h e27), if_pos h1]
      rw [h1] at hvf hcap
      clear h hB hR hne hD hT HV hcs e27 i0 h0 hi0
      subst hvf
      go_enter Tryd.func25, Tryd.ntmps25
      go_wp2_with fail
      go_fit H.out
      rintro e w' hf
      have HFf := Lib.hid hf
      obtain ⟨u, v9, rfl, _⟩ := hf
      go_wp2_with fail
      go_ret
      rw [HE.out]
      exact HFf.out
    have h2 : 2 ≤ s.size := by omega
    have c1 := hcs 1 (by omega)
    rw [Nat.zero_add] at c1
    obtain ⟨n, hn⟩ : ∃ n, s.size = n + 2 := ⟨s.size - 2, by omega⟩
    by_cases e79 : bt s 1 = 79
    · have H := Lib.hid (kss3_any N w D b _ v s hB hR hne hN hD hT hb hs h2)
      have HE : Hid (heldK s b = ss3K s b) := by show heldK s b = _; unfold heldK; rw [if_neg h0, if_neg (fun h => h e27), if_neg h1, if_pos e79]
      have i1 : (bt s 1 : Int) = 79 := by omega
      rw [i1] at c1
      rw [hn] at hvf hcap
      clear h hB hR hne hD hT HV hcs e27 i0 h0 hi0 i1 e79 hn h1 h2
      subst hvf
      go_enter Tryd.func25, Tryd.ntmps25
      go_wp2_with fail
      go_fit H.out
      rintro e w' hf
      have HFf := Lib.hid hf
      obtain ⟨u, v9, rfl, _⟩ := hf
      go_wp2_with fail
      go_ret
      rw [HE.out]
      exact HFf.out
    by_cases e91 : bt s 1 = 91
    · have H := Lib.hid (kcsi_any N w D b _ v s hB hR hne hN hD hT hb hs h2)
      have HE : Hid (heldK s b = csiK s b) := by show heldK s b = _; unfold heldK; rw [if_neg h0, if_neg (fun h => h e27), if_neg h1, if_neg e79, if_pos e91]
      have i1 : (bt s 1 : Int) = 91 := by omega
      rw [i1] at c1
      rw [hn] at hvf hcap
      clear h hB hR hne hD hT HV hcs e27 i0 h0 hi0 i1 e79 hn h1 h2
      subst hvf
      go_enter Tryd.func25, Tryd.ntmps25
      go_wp2_with fail
      go_fit H.out
      rintro e w' hf
      have HFf := Lib.hid hf
      obtain ⟨u, v9, rfl, _⟩ := hf
      go_wp2_with fail
      go_ret
      rw [HE.out]
      exact HFf.out
    · have H := Lib.hid (krune_esc N w D b _ v s hB hR hne hN hD hT hb hs e27 h2)
      have HE : Hid (heldK s b = runeK s 7 (tailB (s ++ oneS b) 1) b) := by show heldK s b = _; unfold heldK; rw [if_neg h0, if_neg (fun h => h e27), if_neg h1, if_neg e79, if_neg e91]
      obtain ⟨B1, hB1⟩ : ∃ B1, bt s 1 = B1 := ⟨_, rfl⟩
      rw [hB1] at c1 e79 e91
      have i1 : ((B1 : Int) == 79) = false := u8_no e79
      have i2 : ((B1 : Int) == 91) = false := u8_no e91
      rw [hn] at hvf hcap
      clear h hB hR hne hD hT HV hcs e27 i0 h0 hi0 e79 e91 hn h1 h2 hB1
      subst hvf
      go_enter Tryd.func25, Tryd.ntmps25
      go_wp2_with fail
      go_fit H.out
      rintro e w' hf
      have HFf := Lib.hid hf
      obtain ⟨u, v9, rfl, _⟩ := hf
      go_wp2_with fail
      go_ret
      rw [HE.out]
      exact HFf.out
  · have H := Lib.hid (krune_any N w D b _ v s hB hR hne hN hD hT hb hs e27 (by omega))
    have HE : Hid (heldK s b = runeK s 1 (s ++ oneS b) b) := by show heldK s b = _; unfold heldK; rw [if_neg h0, if_pos e27]
    obtain ⟨B0, hB0⟩ : ∃ B0, bt s 0 = B0 := ⟨_, rfl⟩
    rw [hB0] at c0 e27
    have i1 : ((B0 : Int) == 27) = false := u8_no e27
    obtain ⟨n, hn⟩ : ∃ n, s.size = n + 1 := ⟨s.size - 1, by omega⟩
    rw [hn] at hvf hcap
    clear h hB hR hne hD hT HV hcs e27 h0 hi0 hn hB0
    subst hvf
    go_enter Tryd.func25, Tryd.ntmps25
    go_wp2_with fail
    go_fit H.out
    rintro e w' hf
    have HFf := Lib.hid hf
    obtain ⟨u, v9, rfl, _⟩ := hf
    go_wp2_with fail
    go_ret
    rw [HE.out]
    exact HFf.out

theorem kyI_form (p : Ky) (v : Value) : ∃ T u, kyI p v = .iface T u := by cases p <;> exact ⟨_, _, rfl⟩
set_option maxRecDepth 4000 in
set_option maxHeartbeats 4000000 in
theorem kfeed_any (N : Nat) (w : World) (D b : Nat) (v : Value) (p : Ky) (h : DecW N w D v p) (hN : N ≤ w.heap.size) (hT : TabK N w) (hb : b < 256) (hs : sizeK p ≤ 50000) :
    Calls Tryd.prog 13 #[.pointer (some ⟨D, 0, none⟩), .int .u8 (b : Int)] w (FedK N D (okK D v) w (feedK p b)) := by
  have HNN := Lib.hid (knone_yes w D _ h.box (kyI_form p v))
  cases p with
  | held s =>
    have HPP := Lib.hid (kpast_held w D s v h.box)
    have HHH := Lib.hid (kheld_any w D s v h.box)
    have HK := Lib.hid (kkey_any N w D b v s h hN hT hb hs)
    clear h hT hs
    go_enter Tryd.func13, Tryd.ntmps13
    go_wp2_with fail
    go_fit HNN.out
    rintro e w1 ⟨rfl, rfl⟩
    go_wp2_with fail
    go_fit HPP.out
    rintro e w2 ⟨rfl, rfl⟩
    go_wp2_with fail
    go_fit HHH.out
    rintro e w3 ⟨rfl, rfl⟩
    go_wp2_with fail
    go_fit HK.out
    rintro e w' hf
    have HFf := Lib.hid hf
    obtain ⟨u, v9, rfl, _⟩ := hf
    go_wp2_with fail
    go_ret
    exact HFf.out
  | paste s =>
    have HPP := Lib.hid (kpast_paste w D s v h.box)
    obtain ⟨v1, w1, hr, hP⟩ := app_prep N D w _ v s b 53 53 Tryd.underlying53 h.box h.row h.ne hN h.ge hT hb (by have : s.size ≤ 50000 := hs; omega)
    have HK := Lib.hid (kpaste_any N D w w1 _ v v1 s b hP h.ge hs)
    clear h hT hs hP
    go_enter Tryd.func13, Tryd.ntmps13
    go_wp2_with fail
    go_fit HNN.out
    rintro e w2 ⟨rfl, rfl⟩
    go_wp2_with fail
    go_fit HPP.out
    rintro e w3 ⟨rfl, rfl⟩
    go_wp2_with (at_builtin; refine wpList_run (by rfl) _ _ 53 (by rfl) (by rfl) (by rfl) hr ?_)
    go_fit HK.out
    rintro e w' hf
    have HFf := Lib.hid hf
    obtain ⟨u, v9, rfl, _⟩ := hf
    go_wp2_with fail
    go_ret
    exact HFf.out

set_option maxHeartbeats 2000000 in
theorem kwaiting_any (N : Nat) (w : World) (D : Nat) (v : Value) (p : Ky) (h : DecW N w D v p) :
    Calls Tryd.prog 15 #[.pointer (some ⟨D, 0, none⟩)] w fun e w' => e = .returned (.bool (waitsK p)) ∧ w' = w := by
  have HNN := Lib.hid (knone_yes w D _ h.box (kyI_form p v))
  cases p with
  | held s =>
    have HPP := Lib.hid (kpast_held w D s v h.box)
    have HHH := Lib.hid (kheld_any w D s v h.box)
    obtain ⟨ao, c, rfl, _⟩ : ∃ ao c, v = .slice ao s.size c ∧ s.size ≤ c := (OwnB.bytes h.row).form
    have HE : Hid (waitsK (.held s) = decide (0 < s.size)) := rfl
    rw [HE.out]
    clear h HE
    obtain ⟨n, hn⟩ : ∃ n, s.size = n := ⟨_, rfl⟩
    rw [hn] at HHH ⊢
    clear hn
    go_enter Tryd.func15, Tryd.ntmps15
    go_wp2_with fail
    go_fit HNN.out
    rintro e w1 ⟨rfl, rfl⟩
    go_wp2_with fail
    go_fit HPP.out
    rintro e w2 ⟨rfl, rfl⟩
    go_wp2_with fail
    go_fit HHH.out
    rintro e w3 ⟨rfl, rfl⟩
    go_wp2_with fail
    go_ret
    exact ⟨by simp, rfl⟩
  | paste s =>
    have HPP := Lib.hid (kpast_paste w D s v h.box)
    clear h
    go_enter Tryd.func15, Tryd.ntmps15
    go_wp2_with fail
    go_fit HNN.out
    rintro e w1 ⟨rfl, rfl⟩
    go_wp2_with fail
    go_fit HPP.out
    rintro e w2 ⟨rfl, rfl⟩
    go_wp2_with fail
    go_ret
    exact ⟨rfl, rfl⟩

set_option maxRecDepth 4000 in
set_option maxHeartbeats 2000000 in
theorem ktick_any (N : Nat) (w : World) (D : Nat) (v : Value) (p : Ky) (h : DecW N w D v p) (hN : N ≤ w.heap.size) :
    Calls Tryd.prog 16 #[.pointer (some ⟨D, 0, none⟩)] w (FedK N D (okK D v) w (tickK p)) := by
  have HWW := Lib.hid (kwaiting_any N w D v p h)
  have hself : FedK N D (okK D v) w (p, []) (.returned (.slice none 0 0)) w := ⟨_, v, rfl, KeysW.nil _ _, h, KeepW.refl _ _, fun j e _ hn => hn.2 e⟩
  have HSelf := Lib.hid hself
  clear hself
  cases p with
  | held s =>
    have hW : waitsK (.held s) = decide (0 < s.size) := rfl
    by_cases h0 : s.size = 0
    · have HE : Hid (tickK (.held s) = (.held s, [])) := by show (if s.size = 0 then (Ky.held s, []) else (Ky.held noB, [if s = oneS 27 then ((5, 0, noB) : Ke) else badK s])) = _; rw [if_pos h0]
      rw [hW, h0] at HWW
      clear h hW h0
      go_enter Tryd.func16, Tryd.ntmps16
      go_wp2_with fail
      go_fit HWW.out
      rintro e w1 ⟨rfl, rfl⟩
      go_wp2_with fail
      go_ret
      rw [HE.out]
      exact HSelf.out
    rw [hW, decide_eq_true (by omega : 0 < s.size)] at HWW
    have HPP := Lib.hid (kpast_held w D s v h.box)
    have HHH := Lib.hid (kheld_any w D s v h.box)
    have HDN := Lib.hid (fun k W (hb : Below w.heap.size w W) => kdone_any N W D _ k (h.box.below hb) (Nat.le_trans hN hb.size) h.ge)
    have hR : OwnB N w v s := h.row
    have HIN := Lib.hid (kinv_any w v s hR.bytes)
    obtain ⟨g, cap, hvf, hcap⟩ := hR.form0 (by omega)
    have hcs : ∀ i, i < s.size → w.cell? ⟨g, 0 + i, none⟩ = some (.int .u8 (bt s i : Int)) := by
      obtain ⟨g', o', cap', he, _, hc⟩ := hR.bytes.cells (by omega)
      rw [hvf] at he
      cases he
      exact hc
    have c0 := hcs 0 (by omega)
    rw [Nat.zero_add] at c0
    have hone : s = oneS 27 ↔ s.size = 1 ∧ bt s 0 = 27 := by
      constructor
      · rintro rfl; exact ⟨rfl, rfl⟩
      · rintro ⟨h1, h2⟩
        refine ba_eq.2 ?_
        have hl : s.data.toList.length = 1 := by rw [← Lib.size_eq]; exact h1
        obtain ⟨u, hu⟩ := List.length_eq_one_iff.1 hl
        rw [bt_data, hu] at h2
        rw [hu]
        show [u.toNat] = [27]
        rw [← h2]; rfl
    by_cases e1 : s = oneS 27
    · have HE : Hid (tickK (.held s) = (.held noB, [(5, 0, noB)])) := by show (if s.size = 0 then (Ky.held s, []) else (Ky.held noB, [if s = oneS 27 then ((5, 0, noB) : Ke) else badK s])) = _; rw [if_neg h0, if_pos e1]
      have HDK := Lib.hid (HDN.out (5, 0, noB) w (Below.refl _ _))
      have hs1 := (hone.1 e1).1
      have i0 : (bt s 0 : Int) = 27 := by have := (hone.1 e1).2; omega
      rw [i0] at c0
      rw [hs1] at hvf hcap
      clear h hW h0 hR hcs hone e1 HDN hs1 i0
      subst hvf
      go_enter Tryd.func16, Tryd.ntmps16
      go_wp2_with fail
      go_fit HWW.out
      rintro e w1 ⟨rfl, rfl⟩
      go_wp2_with fail
      go_fit HPP.out
      rintro e w2 ⟨rfl, rfl⟩
      go_wp2_with fail
      go_fit HHH.out
      rintro e w3 ⟨rfl, rfl⟩
      go_wp2_with fail
      go_fit HDK.out
      rintro e w' ⟨⟨u, rfl, hu, _⟩, ⟨v9, hd, hv⟩, hk⟩
      go_wp2_with fail
      go_ret
      rw [HE.out]
      exact fed_lift (Below.refl _ _) (fed_done (Below.refl _ _) hu hd hv hk)
    · have HE : Hid (tickK (.held s) = (.held noB, [badK s])) := by show (if s.size = 0 then (Ky.held s, []) else (Ky.held noB, [if s = oneS 27 then ((5, 0, noB) : Ke) else badK s])) = _; rw [if_neg h0, if_neg e1]
      by_cases hs1 : s.size = 1
      · obtain ⟨B0, hB0⟩ : ∃ B0, bt s 0 = B0 := ⟨_, rfl⟩
        rw [hB0] at c0
        have i1 : ((B0 : Int) == 27) = false := u8_no (fun h => e1 (hone.2 ⟨hs1, hB0.trans h⟩))
        rw [hs1] at hvf hcap
        clear h hW h0 hR hcs hone e1 hs1 hB0
        subst hvf
        go_enter Tryd.func16, Tryd.ntmps16
        go_wp2_with fail
        go_fit HWW.out
        rintro e w1 ⟨rfl, rfl⟩
        go_wp2_with fail
        go_fit HPP.out
        rintro e w2 ⟨rfl, rfl⟩
        go_wp2_with fail
        go_fit HHH.out
        rintro e w3 ⟨rfl, rfl⟩
        go_wp2_with fail
        go_fit HIN.out
        rintro e w4 ⟨rfl, hb4⟩
        have HDK := Lib.hid (HDN.out (badK s) w4 hb4)
        go_wp2_with fail
        go_fit HDK.out
        rintro e w' ⟨⟨u, rfl, hu, _⟩, ⟨v9, hd, hv⟩, hk⟩
        go_wp2_with fail
        go_ret
        rw [HE.out]
        exact fed_lift hb4 (fed_done (Below.refl _ _) hu hd hv hk)
      · obtain ⟨n, hn⟩ : ∃ n, s.size = n + 2 := ⟨s.size - 2, by omega⟩
        have i1 : (((n + 2 : Nat) : Int) == 1) = false := beq_eq_false_iff_ne.2 (by omega)
        rw [hn] at hvf hcap
        have i2 : (n : Int) + 2 ≠ 1 := by omega
        clear h hW h0 hR hcs hone e1 hs1 hn
        subst hvf
        go_enter Tryd.func16, Tryd.ntmps16
        go_wp2_with fail
        go_fit HWW.out
        rintro e w1 ⟨rfl, rfl⟩
        go_wp2_with fail
        go_fit HPP.out
        rintro e w2 ⟨rfl, rfl⟩
        go_wp2_with fail
        go_fit HHH.out
        rintro e w3 ⟨rfl, rfl⟩
        go_wp2_with fail
        go_fit HIN.out
        rintro e w4 ⟨rfl, hb4⟩
        have HDK := Lib.hid (HDN.out (badK s) w4 hb4)
        go_wp2_with fail
        go_fit HDK.out
        rintro e w' ⟨⟨u, rfl, hu, _⟩, ⟨v9, hd, hv⟩, hk⟩
        go_wp2_with fail
        go_ret
        rw [HE.out]
        exact fed_lift hb4 (fed_done (Below.refl _ _) hu hd hv hk)
  | paste s =>
    have hW : waitsK (.paste s) = true := rfl
    rw [hW] at HWW
    have HPP := Lib.hid (kpast_paste w D s v h.box)
    clear h hW
    go_enter Tryd.func16, Tryd.ntmps16
    go_wp2_with fail
    go_fit HWW.out
    rintro e w1 ⟨rfl, rfl⟩
    go_wp2_with fail
    go_fit HPP.out
    rintro e w2 ⟨rfl, rfl⟩
    go_wp2_with fail
    go_ret
    exact HSelf.out
end Go.Proofs.YtdnldfgolbcjiaaDoor
