/-
  keys.behindBracket: what it returns, which bytes wait then: for every byte.
-/
import Derived.Test.YtdnldfgolbcjiaaDoorBe28
namespace Go.Proofs.YtdnldfgolbcjiaaDoor
open Go.RowKit

/-- A paste begins. -/
theorem PrepW.enter {N D : Nat} {w w1 : World} {x v v1 : Value} {s : ByteArray} {b : Nat} (h : PrepW N D w x v s b v1 w1) (hD : N ≤ D) :
    FedK N D (okK D v) w (.paste noB, []) (.returned (.slice none 0 0)) ((w1.setCell ⟨D, 0, none⟩ (.iface 53 (.slice (some ⟨w1.heap.size, 0, none⟩) 0 0))).alloc (.cells #[] 5)) := by
  have hk : KeepW (fun k => k ≠ D) w1 (w1.setCell ⟨D, 0, none⟩ (.iface 53 (.slice (some ⟨w1.heap.size, 0, none⟩) 0 0))) := keep_set _ _ _ _ _ fun h => h rfl
  have hB := h.box.set (.iface 53 (.slice (some ⟨w1.heap.size, 0, none⟩) 0 0))
  obtain ⟨w2, hw2⟩ : ∃ w2, w1.setCell ⟨D, 0, none⟩ (.iface 53 (.slice (some ⟨w1.heap.size, 0, none⟩) 0 0)) = w2 := ⟨_, rfl⟩
  have hz : w2.heap.size = w1.heap.size := by rw [← hw2]; exact Array.size_modify ..
  rw [hw2] at hk hB ⊢
  have hr := row_empty N w2 5 rfl (by have := h.n; omega)
  rw [hz] at hr
  have hl := h.box.lt
  have hs := h.keep.size
  have hne : (Value.slice (some ⟨w1.heap.size, 0, none⟩) 0 0).ownBlock ≠ some D := fun e => by
    have e2 : w1.heap.size = D := by simpa [Value.ownBlock] using e
    omega
  refine ⟨_, .slice (some ⟨w1.heap.size, 0, none⟩) 0 0, rfl, KeysW.nil _ _, ⟨hB.below (alloc_below w2 _), hr, hne, hD⟩, (h.keep.trans (hk.mono fun k _ hk => hk.1)).trans (keep_below _ (alloc_below w2 _)), fun j e hj => ?_⟩
  have e2 : w1.heap.size = j := by simpa [Value.ownBlock] using e
  omega

set_option maxRecDepth 4000 in
set_option maxHeartbeats 4000000 in
theorem kcsi_any (N : Nat) (w : World) (D b : Nat) (x v : Value) (s : ByteArray) (hB : boxK w D x) (hR : OwnB N w v s) (hne : v.ownBlock ≠ some D) (hN : N ≤ w.heap.size) (hD : N ≤ D) (hT : TabK N w) (hb : b < 256) (hs : s.size ≤ 50000) (h2 : 2 ≤ s.size) :
    Calls Tryd.prog 47 #[.pointer (some ⟨D, 0, none⟩), v, .int .u8 (b : Int)] w (FedK N D (okK D v) w (csiK s b)) := by
  have hDl := hB.lt
  have YB := Lib.hid (fun W (h : Below w.heap.size w W) => (⟨hB.below h, hT.below h, Nat.le_trans hN h.size, hR.below h, hR.bytes.below h⟩ : boxK W D x ∧ TabK N W ∧ N ≤ W.heap.size ∧ OwnB N W v s ∧ BytesW W v s))
  have HDN := Lib.hid (fun W k (h : boxK W D x) (hN : N ≤ W.heap.size) => kdone_any N W D x k h hN hD)
  have HAN := Lib.hid (fun W k (h : boxK W D x) (hN : N ≤ W.heap.size) (hT : TabK N W) => kanew_any N W D b x k h hN hD hT hb)
  have HWT := Lib.hid (fun W v (h : boxK W D x) => kwait_any W D x v h)
  have HIN := Lib.hid (fun W (h : BytesW W v s) => kinv_any W v s h)
  have HAP := Lib.hid (fun W (hB : boxK W D x) (hR : OwnB N W v s) (hN : N ≤ W.heap.size) (hT : TabK N W) => app_prep N D W x v s b 52 52 Tryd.underlying52 hB hR hne hN hD hT hb (by omega))
  have HPB := Lib.hid (fun W w2 w3 v1 (hp : PrepW N D W x v s b v1 w2) (hb : Below w2.heap.size w2 w3) => hp.below hb)
  have HD := Lib.hid hD
  have HS1 := Lib.hid (fun W (h : N ≤ W.heap.size) => row_byte N W b hb h)
  have HKN := Lib.hid (fun W v1 (h : BytesW W v1 (s ++ oneS b)) => kknown_any (s ++ oneS b) v1 W h (by rw [snoc_size]; omega) (by rw [snoc_size]; omega))
  obtain ⟨v1, w1, hr, HP⟩ := app_prep N D w x v s b 52 52 Tryd.underlying52 hB hR hne hN hD hT hb (by omega)
  obtain ⟨g1, cap1, hv1, hcap1⟩ := HP.row.form0 (by rw [snoc_size]; omega)
  have hsz : (s ++ oneS b).size = s.size + 1 := snoc_size s b
  rw [hsz] at hcap1 hv1
  have hcv : ∀ w2, PrepW N D w x v s b v1 w2 → (convert 52 9 (.slice (some ⟨g1, 2, none⟩) (s.size + 1 - 2) (cap1 - 2))).run Tryd.prog w2 = .ok (.string (tailB (s ++ oneS b) 2)) w2 := fun w2 hp => by
    have h3 := hp.row.bytes
    rw [hv1] at h3
    have h4 := tail_bytes h3 2 (cap1 - 2) (by rw [hsz]; omega)
    rw [Nat.zero_add] at h4
    exact bytes_conv 52 Tryd.underlying52 h4
  obtain ⟨T, hTe⟩ : ∃ T, tailB (s ++ oneS b) 2 = T := ⟨_, rfl⟩
  obtain ⟨n, hn⟩ : ∃ n, s.size = n + 2 := ⟨s.size - 2, by omega⟩
  have HC : Hid (csiK s b = if b < 32 ∨ 127 ≤ b then anewK (badK s) b else if b < 64 then (.held (s ++ oneS b), []) else if T = begP then (.paste noB, []) else (.held noB, [knownK (s ++ oneS b)])) := by
    show csiK s b = _
    unfold csiK
    rw [hTe]
  rw [hTe, hn, show n + 2 + 1 - 2 = n + 1 by omega] at hcv
  rw [hn, show n + 2 + 1 = n + 3 by omega] at hv1 hcap1
  rw [HC.out]
  have HCV := Lib.hid hcv
  have HP := Lib.hid HP
  have hn9 : n ≤ 50000 := by omega
  clear HC hcv hTe hn hsz hB hR hT hD hne hDl h2
  subst hv1
  by_cases c1 : b < 32
  · have j1 : (b : Int) < 32 := by omega
    rw [if_pos (.inl c1)]
    go_enter Tryd.func47, Tryd.ntmps47
    go_wp2_with (at_builtin; refine wpList_run (by rfl) _ _ 52 (by rfl) (by rfl) (by rfl) hr ?_)
    go_fit (HIN.out _ HP.out.old)
    rintro e w2 ⟨rfl, hb2⟩
    have HP2 := Lib.hid (HPB.out _ _ _ _ HP.out hb2)
    clear hb2
    have HAK := Lib.hid (HAN.out w2 (badK s) HP2.out.box HP2.out.n HP2.out.tab)
    go_wp2_with fail
    go_fit (HAK.out)
    rintro e w' hf
    have HFf := Lib.hid (HP2.out.fed hf)
    obtain ⟨u, v9, rfl, _⟩ := hf
    go_wp2_with fail
    go_ret
    exact HFf.out
  have j1 : (32 : Int) ≤ (b : Int) := by omega
  by_cases c2 : 127 ≤ b
  · have j2 : (127 : Int) ≤ (b : Int) := by omega
    rw [if_pos (.inr c2)]
    go_enter Tryd.func47, Tryd.ntmps47
    go_wp2_with (at_builtin; refine wpList_run (by rfl) _ _ 52 (by rfl) (by rfl) (by rfl) hr ?_)
    go_fit (HIN.out _ HP.out.old)
    rintro e w2 ⟨rfl, hb2⟩
    have HP2 := Lib.hid (HPB.out _ _ _ _ HP.out hb2)
    clear hb2
    have HAK := Lib.hid (HAN.out w2 (badK s) HP2.out.box HP2.out.n HP2.out.tab)
    go_wp2_with fail
    go_fit (HAK.out)
    rintro e w' hf
    have HFf := Lib.hid (HP2.out.fed hf)
    obtain ⟨u, v9, rfl, _⟩ := hf
    go_wp2_with fail
    go_ret
    exact HFf.out
  have j2 : (b : Int) < 127 := by omega
  rw [if_neg (by omega)]
  by_cases c3 : b < 64
  · have j3 : (b : Int) < 64 := by omega
    rw [if_pos c3]
    go_enter Tryd.func47, Tryd.ntmps47
    go_wp2_with (at_builtin; refine wpList_run (by rfl) _ _ 52 (by rfl) (by rfl) (by rfl) hr ?_)
    go_fit (HWT.out _ _ HP.out.box)
    rintro e w' ⟨rfl, hB, hk⟩
    go_wp2_with fail
    go_ret
    exact HP.out.wait (.held (s ++ oneS b)) hB rfl hk HD.out
  have j3 : (64 : Int) ≤ (b : Int) := by omega
  rw [if_neg c3]
  have cv := HCV.out w1 HP.out
  by_cases hT : T = begP
  · rw [if_pos hT]
    have q : (T.toList == [50, 48, 48, 126]) = true := by rw [ba_lit]; exact decide_eq_true hT
    obtain ⟨d0, f0⟩ := HP.out.box.cells
    have hl1 := HP.out.box.lt
    clear hT
    go_enter Tryd.func47, Tryd.ntmps47
    go_wp2_with (at_builtin; refine wpList_run (by rfl) _ _ 52 (by rfl) (by rfl) (by rfl) hr ?_)
    go_ret
    exact HP.out.enter HD.out
  · rw [if_neg hT]
    have q : (T.toList == [50, 48, 48, 126]) = false := by rw [ba_lit]; exact decide_eq_false hT
    clear hT
    go_enter Tryd.func47, Tryd.ntmps47
    go_wp2_with (at_builtin; refine wpList_run (by rfl) _ _ 52 (by rfl) (by rfl) (by rfl) hr ?_)
    go_fit (HKN.out _ _ HP.out.row.bytes)
    rintro e w2 ⟨rfl, hb2⟩
    have HP2 := Lib.hid (HPB.out _ _ _ _ HP.out hb2)
    clear hb2
    go_wp2_with fail
    go_fit (HDN.out _ _ HP2.out.box HP2.out.n)
    rintro e w' ⟨⟨u, rfl, hu, _⟩, ⟨v9, hd, hv⟩, hk⟩
    go_wp2_with fail
    go_ret
    exact HP2.out.fed (fed_done (Below.refl _ _) hu hd hv hk)
end Go.Proofs.YtdnldfgolbcjiaaDoor
