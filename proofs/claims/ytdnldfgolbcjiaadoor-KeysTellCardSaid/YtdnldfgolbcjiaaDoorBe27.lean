/-
  keys.inRune: what it returns, which bytes wait then: behind a beginning of a rune, and behind an escape and one.
-/
import Derived.Test.YtdnldfgolbcjiaaDoorBe20
import Derived.Test.YtdnldfgolbcjiaaDoorBe1
namespace Go.Proofs.YtdnldfgolbcjiaaDoor
open Go.RowKit

set_option maxRecDepth 4000 in
set_option maxHeartbeats 4000000 in
theorem krune_any (N : Nat) (w : World) (D b : Nat) (x v : Value) (s : ByteArray) (hB : boxK w D x) (hR : OwnB N w v s) (hne : v.ownBlock ≠ some D) (hN : N ≤ w.heap.size) (hD : N ≤ D) (hT : TabK N w) (hb : b < 256) (hs : s.size ≤ 50000) (h0 : bt s 0 ≠ 27) (h1 : 0 < s.size) :
    Calls Tryd.prog 44 #[.pointer (some ⟨D, 0, none⟩), v, .int .u8 (b : Int)] w (FedK N D (okK D v) w (runeK s 1 (s ++ oneS b) b)) := by
  obtain ⟨v1, w1, hr, HP⟩ := app_prep N D w x v s b 52 52 Tryd.underlying52 hB hR hne hN hD hT hb (by omega)
  obtain ⟨g, cap, hvf, hcap⟩ := hR.form0 (by omega)
  obtain ⟨g1, cap1, hv1, hcap1⟩ := HP.row.form0 (by rw [snoc_size]; omega)
  have c0 : w1.cell? ⟨g, 0, none⟩ = some (.int .u8 (bt s 0 : Int)) := by
    obtain ⟨g', o', cap', he, _, hc⟩ := HP.old.cells (by omega)
    rw [hvf] at he
    cases he
    exact hc 0 (by omega)
  have hL := Lib.hid hvf
  have hL1 := Lib.hid hv1
  have hsz : (s ++ oneS b).size = s.size + 1 := snoc_size s b
  rw [hsz] at hcap1 hv1
  obtain ⟨T, hTe⟩ : ∃ T, (s ++ oneS b) = T := ⟨_, rfl⟩
  have hTs : T.size = s.size + 1 := by rw [← hTe]; exact hsz
  have hSub : ∀ w2, PrepW N D w x v s b v1 w2 → BytesW w2 v1 T := fun w2 hp => by
    have h3 := hp.row.bytes
    rw [hTe] at h3
    exact h3
  rw [hTe]
  have HTS := Lib.hid hTs
  have hT1 : 0 < T.size := by omega
  have hT2 : T.size ≤ maxLen := by unfold maxLen; omega
  have HSub := Lib.hid hSub
  have HCV := Lib.hid (fun w2 (hp : PrepW N D w x v s b v1 w2) => bytes_conv 52 Tryd.underlying52 (hSub w2 hp))
  have HNX := Lib.hid (fun W => next_in T 0 W (by omega) (by omega) hT2)
  have HST := Lib.hid (fun w2 (hp : PrepW N D w x v s b v1 w2) sl (hv : BytesW w2 sl T) => kstarts_any T sl w2 hp.tab.u hT1 hT2 hv)
  have HDN := Lib.hid (fun w2 k (hp : PrepW N D w x v s b v1 w2) => kdone_any N w2 D x k hp.box hp.n hD)
  have HWT := Lib.hid (fun w2 (hp : PrepW N D w x v s b v1 w2) => kwait_any w2 D x v1 hp.box)
  have HIN := Lib.hid (fun w2 (hp : PrepW N D w x v s b v1 w2) => kinv_any w2 v s hp.old)
  have HAN := Lib.hid (fun w2 k (hp : PrepW N D w x v s b v1 w2) => kanew_any N w2 D b x k hp.box hp.n hD hp.tab hb)
  have HD := Lib.hid hD
  have HPB := Lib.hid (fun w2 w3 (hp : PrepW N D w x v s b v1 w2) (hb : Below w2.heap.size w2 w3) => hp.below hb)
  have HRK : Hid (runeK s 1 T b = if okAt T 0 = true then (.held noB, [(1, (Utf8.decode T 0).1, noB)]) else if begB T = true then (.held (s ++ oneS b), []) else anewK (badK s) b) := rfl
  obtain ⟨R, hRd⟩ : ∃ R, (Utf8.decode T 0).1 = R := ⟨_, rfl⟩
  obtain ⟨K, hKd⟩ : ∃ K, (Utf8.decode T 0).2 = K := ⟨_, rfl⟩
  simp only [Int.toNat_zero, hRd, hKd] at HNX
  rw [hRd] at HRK
  clear hRd hKd hTe hSub hB hR hT hD hTs hT1 hT2
  have HPP := Lib.hid HP
  have HNE := Lib.hid hne
  clear HP hne
  obtain ⟨B0, hB0⟩ : ∃ B0, bt s 0 = B0 := ⟨_, rfl⟩
  rw [hB0] at c0 h0
  have i0 : ((B0 : Int) == 27) = false := u8_no h0
  clear hB0 h0
  subst hvf
  subst hv1
  cases hok : okAt T 0 with
  | true =>
    rw [hok] at HNX HRK
    rw [HRK.out, if_pos rfl]
    have HDK := Lib.hid (fun w2 (hp : PrepW N D w x _ s b _ w2) => HDN.out w2 (1, R, noB) hp)
    clear hok
    have HQ := HPP
    have cv := HCV.out _ HQ.out
    go_enter Tryd.func44, Tryd.ntmps44
    go_wp2_with (at_builtin; refine wpList_run (by rfl) _ _ 52 (by rfl) (by rfl) (by rfl) hr ?_)
    go_fit (HNX.out _)
    rintro e w3 ⟨rfl, hb3⟩
    have HQ3 := Lib.hid (HPB.out _ _ HQ.out hb3)
    clear hb3 cv
    go_wp2_with fail
    go_fit (HDK.out _ HQ3.out)
    rintro e w' ⟨⟨u, rfl, hu, _⟩, ⟨v9, hd, hv⟩, hk⟩
    go_wp2_with fail
    go_ret
    exact HQ3.out.fed (fed_done (Below.refl _ _) hu hd hv hk)
  | false =>
    rw [hok] at HNX HRK
    rw [HRK.out, if_neg (by decide)]
    clear hok
    cases hbg : begB T with
    | true =>
      rw [hbg] at HST
      rw [if_pos rfl]
      clear hbg
      have HQ := HPP
      have cv := HCV.out _ HQ.out
      go_enter Tryd.func44, Tryd.ntmps44
      go_wp2_with (at_builtin; refine wpList_run (by rfl) _ _ 52 (by rfl) (by rfl) (by rfl) hr ?_)
      go_fit (HNX.out _)
      rintro e w3 ⟨rfl, hb3⟩
      have HQ3 := Lib.hid (HPB.out _ _ HQ.out hb3)
      clear hb3 cv
      go_wp2_with fail
      go_fit (HST.out _ HQ3.out _ (HSub.out _ HQ3.out))
      rintro e w4 ⟨rfl, hb4⟩
      have HQ4 := Lib.hid (HPB.out _ _ HQ3.out hb4)
      clear hb4
      go_wp2_with fail
      go_fit (HWT.out _ HQ4.out)
      rintro e w' ⟨rfl, hB, hk⟩
      go_wp2_with fail
      go_ret
      exact HQ4.out.wait (.held (s ++ oneS b)) hB rfl hk HD.out
    | false =>
      rw [hbg] at HST
      rw [if_neg (by decide)]
      clear hbg
      have HQ := HPP
      have cv := HCV.out _ HQ.out
      go_enter Tryd.func44, Tryd.ntmps44
      go_wp2_with (at_builtin; refine wpList_run (by rfl) _ _ 52 (by rfl) (by rfl) (by rfl) hr ?_)
      go_fit (HNX.out _)
      rintro e w3 ⟨rfl, hb3⟩
      have HQ3 := Lib.hid (HPB.out _ _ HQ.out hb3)
      clear hb3 cv
      go_wp2_with fail
      go_fit (HST.out _ HQ3.out _ (HSub.out _ HQ3.out))
      rintro e w4 ⟨rfl, hb4⟩
      have HQ4 := Lib.hid (HPB.out _ _ HQ3.out hb4)
      clear hb4
      go_wp2_with fail
      go_fit (HIN.out _ HQ4.out)
      rintro e w5 ⟨rfl, hb5⟩
      have HQ5 := Lib.hid (HPB.out _ _ HQ4.out hb5)
      clear hb5
      go_wp2_with fail
      go_fit (HAN.out _ _ HQ5.out)
      rintro e w' hf
      have HFf := Lib.hid (HQ5.out.fed hf)
      obtain ⟨u, v9, rfl, _⟩ := hf
      go_wp2_with fail
      go_ret
      exact HFf.out
set_option maxRecDepth 4000 in
set_option maxHeartbeats 4000000 in
theorem krune_esc (N : Nat) (w : World) (D b : Nat) (x v : Value) (s : ByteArray) (hB : boxK w D x) (hR : OwnB N w v s) (hne : v.ownBlock ≠ some D) (hN : N ≤ w.heap.size) (hD : N ≤ D) (hT : TabK N w) (hb : b < 256) (hs : s.size ≤ 50000) (h0 : bt s 0 = 27) (h1 : 2 ≤ s.size) :
    Calls Tryd.prog 44 #[.pointer (some ⟨D, 0, none⟩), v, .int .u8 (b : Int)] w (FedK N D (okK D v) w (runeK s 7 (tailB (s ++ oneS b) 1) b)) := by
  obtain ⟨v1, w1, hr, HP⟩ := app_prep N D w x v s b 52 52 Tryd.underlying52 hB hR hne hN hD hT hb (by omega)
  obtain ⟨g, cap, hvf, hcap⟩ := hR.form0 (by omega)
  obtain ⟨g1, cap1, hv1, hcap1⟩ := HP.row.form0 (by rw [snoc_size]; omega)
  have c0 : w1.cell? ⟨g, 0, none⟩ = some (.int .u8 (bt s 0 : Int)) := by
    obtain ⟨g', o', cap', he, _, hc⟩ := HP.old.cells (by omega)
    rw [hvf] at he
    cases he
    exact hc 0 (by omega)
  have hL := Lib.hid hvf
  have hL1 := Lib.hid hv1
  have hsz : (s ++ oneS b).size = s.size + 1 := snoc_size s b
  rw [hsz] at hcap1 hv1
  obtain ⟨T, hTe⟩ : ∃ T, (tailB (s ++ oneS b) 1) = T := ⟨_, rfl⟩
  have hTs : T.size = s.size := by rw [← hTe]; rw [tailB_size, hsz]; omega
  have hSub : ∀ w2, PrepW N D w x v s b v1 w2 → BytesW w2 (.slice (some ⟨g1, 1, none⟩) s.size (cap1 - 1)) T := fun w2 hp => by
    have h3 := hp.row.bytes
    rw [hv1] at h3
    have h4 := tail_bytes h3 1 (cap1 - 1) (by rw [hsz]; omega)
    rw [hTe, Nat.zero_add, show s.size + 1 - 1 = s.size by omega] at h4
    exact h4
  rw [hTe]
  have HTS := Lib.hid hTs
  have hT1 : 0 < T.size := by omega
  have hT2 : T.size ≤ maxLen := by unfold maxLen; omega
  have HSub := Lib.hid hSub
  have HCV := Lib.hid (fun w2 (hp : PrepW N D w x v s b v1 w2) => bytes_conv 52 Tryd.underlying52 (hSub w2 hp))
  have HNX := Lib.hid (fun W => next_in T 0 W (by omega) (by omega) hT2)
  have HST := Lib.hid (fun w2 (hp : PrepW N D w x v s b v1 w2) sl (hv : BytesW w2 sl T) => kstarts_any T sl w2 hp.tab.u hT1 hT2 hv)
  have HDN := Lib.hid (fun w2 k (hp : PrepW N D w x v s b v1 w2) => kdone_any N w2 D x k hp.box hp.n hD)
  have HWT := Lib.hid (fun w2 (hp : PrepW N D w x v s b v1 w2) => kwait_any w2 D x v1 hp.box)
  have HIN := Lib.hid (fun w2 (hp : PrepW N D w x v s b v1 w2) => kinv_any w2 v s hp.old)
  have HAN := Lib.hid (fun w2 k (hp : PrepW N D w x v s b v1 w2) => kanew_any N w2 D b x k hp.box hp.n hD hp.tab hb)
  have HD := Lib.hid hD
  have HPB := Lib.hid (fun w2 w3 (hp : PrepW N D w x v s b v1 w2) (hb : Below w2.heap.size w2 w3) => hp.below hb)
  have HRK : Hid (runeK s 7 T b = if okAt T 0 = true then (.held noB, [(7, (Utf8.decode T 0).1, noB)]) else if begB T = true then (.held (s ++ oneS b), []) else anewK (badK s) b) := rfl
  obtain ⟨R, hRd⟩ : ∃ R, (Utf8.decode T 0).1 = R := ⟨_, rfl⟩
  obtain ⟨K, hKd⟩ : ∃ K, (Utf8.decode T 0).2 = K := ⟨_, rfl⟩
  simp only [Int.toNat_zero, hRd, hKd] at HNX
  rw [hRd] at HRK
  clear hRd hKd hTe hSub hB hR hT hD hTs hT1 hT2
  have HPP := Lib.hid HP
  have HNE := Lib.hid hne
  clear HP hne
  have i0 : (bt s 0 : Int) = 27 := by omega
  rw [i0] at c0
  subst hvf
  subst hv1
  cases hok : okAt T 0 with
  | true =>
    rw [hok] at HNX HRK
    rw [HRK.out, if_pos rfl]
    have HDK := Lib.hid (fun w2 (hp : PrepW N D w x _ s b _ w2) => HDN.out w2 (7, R, noB) hp)
    clear hok
    go_enter Tryd.func44, Tryd.ntmps44
    go_wp2_with (at_builtin; refine wpList_run (by rfl) _ _ 52 (by rfl) (by rfl) (by rfl) hr ?_)
    go_quiet (fail)
    have HQ := Lib.hid (HPB.out _ (w1.drewN nq) HPP.out (below_drewN (Below.refl _ w1) nq))
    obtain ⟨W2, hW2⟩ : ∃ W2, w1.drewN nq = W2 := ⟨_, rfl⟩
    rw [hW2] at HQ ⊢
    clear hW2
    have cv := HCV.out _ HQ.out
    go_wp2_with fail
    go_fit (HNX.out _)
    rintro e w3 ⟨rfl, hb3⟩
    have HQ3 := Lib.hid (HPB.out _ _ HQ.out hb3)
    clear hb3 cv
    go_wp2_with fail
    go_fit (HDK.out _ HQ3.out)
    rintro e w' ⟨⟨u, rfl, hu, _⟩, ⟨v9, hd, hv⟩, hk⟩
    go_wp2_with fail
    go_ret
    exact HQ3.out.fed (fed_done (Below.refl _ _) hu hd hv hk)
  | false =>
    rw [hok] at HNX HRK
    rw [HRK.out, if_neg (by decide)]
    clear hok
    cases hbg : begB T with
    | true =>
      rw [hbg] at HST
      rw [if_pos rfl]
      clear hbg
      go_enter Tryd.func44, Tryd.ntmps44
      go_wp2_with (at_builtin; refine wpList_run (by rfl) _ _ 52 (by rfl) (by rfl) (by rfl) hr ?_)
      go_quiet (fail)
      have HQ := Lib.hid (HPB.out _ (w1.drewN nq) HPP.out (below_drewN (Below.refl _ w1) nq))
      obtain ⟨W2, hW2⟩ : ∃ W2, w1.drewN nq = W2 := ⟨_, rfl⟩
      rw [hW2] at HQ ⊢
      clear hW2
      have cv := HCV.out _ HQ.out
      go_wp2_with fail
      go_fit (HNX.out _)
      rintro e w3 ⟨rfl, hb3⟩
      have HQ3 := Lib.hid (HPB.out _ _ HQ.out hb3)
      clear hb3 cv
      go_wp2_with fail
      go_fit (HST.out _ HQ3.out _ (HSub.out _ HQ3.out))
      rintro e w4 ⟨rfl, hb4⟩
      have HQ4 := Lib.hid (HPB.out _ _ HQ3.out hb4)
      clear hb4
      go_wp2_with fail
      go_fit (HWT.out _ HQ4.out)
      rintro e w' ⟨rfl, hB, hk⟩
      go_wp2_with fail
      go_ret
      exact HQ4.out.wait (.held (s ++ oneS b)) hB rfl hk HD.out
    | false =>
      rw [hbg] at HST
      rw [if_neg (by decide)]
      clear hbg
      go_enter Tryd.func44, Tryd.ntmps44
      go_wp2_with (at_builtin; refine wpList_run (by rfl) _ _ 52 (by rfl) (by rfl) (by rfl) hr ?_)
      go_quiet (fail)
      have HQ := Lib.hid (HPB.out _ (w1.drewN nq) HPP.out (below_drewN (Below.refl _ w1) nq))
      obtain ⟨W2, hW2⟩ : ∃ W2, w1.drewN nq = W2 := ⟨_, rfl⟩
      rw [hW2] at HQ ⊢
      clear hW2
      have cv := HCV.out _ HQ.out
      go_wp2_with fail
      go_fit (HNX.out _)
      rintro e w3 ⟨rfl, hb3⟩
      have HQ3 := Lib.hid (HPB.out _ _ HQ.out hb3)
      clear hb3 cv
      go_wp2_with fail
      go_fit (HST.out _ HQ3.out _ (HSub.out _ HQ3.out))
      rintro e w4 ⟨rfl, hb4⟩
      have HQ4 := Lib.hid (HPB.out _ _ HQ3.out hb4)
      clear hb4
      go_wp2_with fail
      go_fit (HIN.out _ HQ4.out)
      rintro e w5 ⟨rfl, hb5⟩
      have HQ5 := Lib.hid (HPB.out _ _ HQ4.out hb5)
      clear hb5
      go_wp2_with fail
      go_fit (HAN.out _ _ HQ5.out)
      rintro e w' hf
      have HFf := Lib.hid (HQ5.out.fed hf)
      obtain ⟨u, v9, rfl, _⟩ := hf
      go_wp2_with fail
      go_ret
      exact HFf.out
end Go.Proofs.YtdnldfgolbcjiaaDoor
