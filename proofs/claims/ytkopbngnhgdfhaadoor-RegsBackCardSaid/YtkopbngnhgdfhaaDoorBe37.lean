/-
  regs' reader: rule: what it returns, or how it ends, where row does as it should; and all of them, one within the other.
-/
import Derived.Test.YtkopbngnhgdfhaaDoorBe35
namespace Go.Proofs.YtkopbngnhgdfhaaDoor
open Go.RowKit

theorem OutF.one {N : Nat} {w : World} {n : Nd} {u : Value} (hN : N ≤ w.heap.size) (hs : OkR n.set) (hu : KidsF (fun k => N ≤ k) w n.kids u) : OutF 26 N (w.alloc (.cells #[.int .i64 n.kind, .int .u64 (n.set.1 : Int), .int .u64 (n.set.2.1 : Int), .int .u64 (n.set.2.2.1 : Int), .int .u64 (n.set.2.2.2 : Int), u] 26)) (.slice (some ⟨w.heap.size, 0, none⟩) 1 1) [n] := by
  have e : nodesC [n] [u] = nodeC n u := by show nodeC n u ++ [] = _; rw [List.append_nil]
  refine ⟨[u], rfl, ⟨by rw [e]; rfl, .inr ⟨w.heap.size, 1, _, rfl, hN, heap_alloc_new _ _, Nat.le_refl _, by decide, rfl, by rw [e]; rfl⟩⟩, fun i m x hm hx => ?_⟩
  have e0 : i = 0 := by
    have := (List.getElem?_eq_some_iff.1 hm).1
    simpa using this
  subst e0
  cases hm
  cases hx
  exact ⟨hs, KidsW.mono ((hu.mono (ok' := fun k => N ≤ k ∧ k ≠ w.heap.size) fun k hk h => ⟨h, by omega⟩).under (alloc_under w (.cells #[.int .i64 n.kind, .int .u64 (n.set.1 : Int), .int .u64 (n.set.2.1 : Int), .int .u64 (n.set.2.2.1 : Int), .int .u64 (n.set.2.2.2 : Int), u] 26))) fun k _ hp => ⟨⟨hp.1.1, hp.2⟩, fun e => hp.1.2 (Option.some.inj e).symm⟩⟩
set_option maxHeartbeats 16000000 in
theorem prule_of (s : ByteArray) (R i : Nat) (hi : i ≤ s.size) (hs : s.size ≤ 1000) (HP : ∀ k, i ≤ k → k ≤ s.size → pRowC s R k) : pRuleC s R i := by
  intro w h
  have H0 := Lib.hid (AtW.new h)
  have HPC := Lib.hid HP
  unfold pRowC at HPC
  have HP0 := Lib.hid (HPC.out i (Nat.le_refl _) hi)
  clear h HP
  go_enter Tryd.func46, Tryd.ntmps46
  go_wp2_with fail
  obtain ⟨W0, hW0⟩ : ∃ W0, w.alloc (.cells #[.int .i64 0, .int .u64 0, .int .u64 0, .int .u64 0, .int .u64 0, .slice none 0 0] 26) = W0 := ⟨_, rfl⟩
  (try rw [hW0])
  rw [hW0] at H0
  clear hW0
  obtain ⟨B, hB⟩ : ∃ B, w.heap.size = B := ⟨_, rfl⟩
  (try rw [hB])
  rw [hB] at H0
  clear hB
  go_fit (HP0.out _ H0.out.rx)
  rintro e w4 ⟨hk4, ⟨ps, j, x, rfl, ⟨hns, u, rfl, hu⟩, hr4, hij, hj, hst, hG⟩ | ⟨rfl, hN⟩⟩
  case inr =>
    exact ⟨rfl, ndp_none (hN []) (H0.out.kp.trans hk4)⟩
  obtain ⟨uo, uc, rfl, _⟩ := hu.form
  have H4 := Lib.hid (H0.out.move hk4 hr4)
  have HO := Lib.hid (OutF.one (N := B + 1) (n := joinR 2 ps) (u := .slice uo (joinR 2 ps).kids.length uc) H4.out.b.lt hns (hu.mono fun k _ hk => by have := H0.out.b.lt; omega))
  have H5 := Lib.hid (H4.out.below (alloc_under w4 (.cells #[.int .i64 (joinR 2 ps).kind, .int .u64 ((joinR 2 ps).set.1 : Int), .int .u64 ((joinR 2 ps).set.2.1 : Int), .int .u64 ((joinR 2 ps).set.2.2.1 : Int), .int .u64 ((joinR 2 ps).set.2.2.2 : Int), .slice uo (joinR 2 ps).kids.length uc] 26)))
  have HG := Lib.hid (And.intro hst (hG []))
  clear hk4 hr4 hns hu hst hG H0 H4 HP0
  unfold nodeV
  go_wp2_with fail
  obtain ⟨W6, hW6⟩ : ∃ W6, w4.alloc (.cells #[.int .i64 (joinR 2 ps).kind, .int .u64 ((joinR 2 ps).set.1 : Int), .int .u64 ((joinR 2 ps).set.2.1 : Int), .int .u64 ((joinR 2 ps).set.2.2.1 : Int), .int .u64 ((joinR 2 ps).set.2.2.2 : Int), .slice uo (joinR 2 ps).kids.length uc] 26) = W6 := ⟨_, rfl⟩
  (try rw [hW6])
  rw [hW6] at HO H5
  clear hW6
  have HST : Hid (∃ k all ps v, v = Value.slice (some ⟨w4.heap.size, 0, none⟩) 1 1 ∧ i ≤ k ∧ k ≤ s.size ∧ all.length ≤ k ∧ RoW w W6 R s k B v (all ++ [joinR 2 ps]) ∧ StopR (restR s k) ∧ rwR (restR s i) [] [] = rwR (restR s k) all ps) := ⟨j, [], ps, _, rfl, hij, hj, Nat.zero_le _, ⟨H5.out, HO.out⟩, HG.out.1, HG.out.2⟩
  clear HO H5 HG
  go_loopw [3] (fun s3 wr => Hid (∃ k all ps v, v = s3 ∧ i ≤ k ∧ k ≤ s.size ∧ all.length ≤ k ∧ RoW w wr R s k B v (all ++ [joinR 2 ps]) ∧ StopR (restR s k) ∧ rwR (restR s i) [] [] = rwR (restR s k) all ps)) (fun _ wr => s.size + 1 - posW wr R)
  case atStart => exact HST
  case round =>
    clear HST
    obtain ⟨k, all, qs, v, hv, hik, hk, hlen, hQ, hst, hG⟩ := hrel.out
    subst hv
    have HQ := Lib.hid hQ
    have HPOS := Lib.hid hQ.at_.rx.rd.pos
    clear hQ hrel
    by_cases h124 : (restR s k).head? = some 124
    · have hks : k < s.size := Classical.byContradiction fun hn => by rw [rest_nil s k (by omega)] at h124; cases h124
      have HT := Lib.hid (ptakes_yes HQ.out.at_.rx.rd hs 124 h124)
      have HG2 := Lib.hid (show rwR (restR s i) [] [] = rwR (restR s (k + 1)) (all ++ [joinR 2 qs]) [] by
        rw [hG, rw_eq, if_neg (fun e => by rcases e with e | e; (rw [e] at h124; cases h124); (rw [e] at h124; exact absurd (Option.some.inj h124) (by decide))), if_pos h124, rest_tail])
      have HPK := Lib.hid (HPC.out (k + 1) (by omega) (by omega))
      clear h124 hst hG
      go_wp2_with fail
      go_fit HT.out
      rintro e w2 ⟨rfl, hr2, hk2⟩
      have H3 := Lib.hid (HQ.out.move hk2 hr2)
      clear hr2 hk2
      go_wp2_with fail
      go_fit (HPK.out _ H3.out.at_.rx)
      rintro e w4 ⟨hk4, ⟨ps, j, x, rfl, ⟨hns, u, rfl, hu⟩, hr4, hij, hj, hst, hG⟩ | ⟨rfl, hN⟩⟩
      case inr =>
        exact ⟨rfl, ndp_none (HG2.out.trans (hN _)) (H3.out.at_.kp.trans hk4)⟩
      obtain ⟨uo, uc, rfl, _⟩ := hu.form
      have H4 := Lib.hid (H3.out.move hk4 hr4)
      have HNS := Lib.hid hns
      have HU := Lib.hid hu
      have HG3 := Lib.hid (And.intro hst (HG2.out.trans (hG _)))
      have HOW : Hid (∀ k, w2.heap.size ≤ k → B + 1 ≤ k ∧ v.ownBlock ≠ some k) := fun k hk => ⟨by have := H3.out.at_.b.lt; omega, fun e => by have := (H3.out.out.lt k e).2; omega⟩
      have HLL : (all ++ [joinR 2 qs]).length ≤ k + 1 := by rw [List.length_append, List.length_singleton]; omega
      clear hk4 hr4 hns hu hst hG HG2
      obtain ⟨n, hn⟩ : ∃ n, joinR 2 ps = n := ⟨_, rfl⟩
      rw [hn] at HNS HU
      simp only [hn]
      have HNN := Lib.hid hn
      clear hn
      have hcr := boxN_node (n := n) (boxN.new 26 w4 n.kind n.set (.slice uo n.kids.length uc))
      have hb5 := alloc_under w4 (.cells #[.int .i64 n.kind, .int .u64 (n.set.1 : Int), .int .u64 (n.set.2.1 : Int), .int .u64 (n.set.2.2.1 : Int), .int .u64 (n.set.2.2.2 : Int), .slice uo n.kids.length uc] 26)
      obtain ⟨v7, w8, hr, hW8⟩ := (H4.out.under hb5).push 24 24 Tryd.underlying24 hcr HNS.out (HU.out.under hb5) (fun k _ hk => HOW.out k hk) (by omega)
      have HW8 := Lib.hid hW8
      clear hcr hb5 hW8
      unfold nodeV
      go_wp2_with (at_builtin; refine wpList_runR (by rfl) _ _ 24 (by rfl) (by rfl) (by rfl) hr ?_)
      clear hr
      go_roundw
      case rel => exact ⟨j, all ++ [joinR 2 qs], ps, _, rfl, by omega, hj, by omega, by rw [HNN.out]; exact HW8.out, HG3.out.1, HG3.out.2⟩
      case measure => (rw [HPOS.out, HW8.out.at_.rx.rd.pos]; omega)
    · have HT := Lib.hid (ptakes_no HQ.out.at_.rx.rd hk 124 h124)
      have HE := Lib.hid (show rwR (restR s i) [] [] = some (joinR 3 (all ++ [joinR 2 qs]), restR s k) by
        rw [hG, rw_eq, if_pos (by rcases hst with e | e | e; exact .inl e; exact .inr e; exact absurd e h124)])
      have HSZ := Lib.hid (rest_size s k hk)
      have HLL : (all ++ [joinR 2 qs]).length ≤ k + 1 := by rw [List.length_append, List.length_singleton]; omega
      clear h124 hst hG
      obtain ⟨L, hL⟩ : ∃ L, all ++ [joinR 2 qs] = L := ⟨_, rfl⟩
      rw [hL] at HQ HE HLL
      clear hL
      go_wp2_with fail
      go_fit HT.out
      rintro e w4 ⟨rfl, _, hb⟩
      have H4 := Lib.hid (HQ.out.under hb)
      clear hb
      have HJ := Lib.hid (pjoin_f (ok := fun k => B < k) 3 (L) v _ (H4.out.out.kids (by omega) |>.mono (fun k _ hk => hk)) (by omega))
      go_wp2_with fail
      go_fit HJ.out
      rintro e w8 ⟨x, rfl, ⟨hns, u, rfl, hu⟩, hb⟩
      obtain ⟨uo, uc, rfl, _⟩ := hu.form
      have HA := Lib.hid ((H4.out.at_).below hb)
      have HNS := Lib.hid hns
      have HKI := Lib.hid hu
      obtain ⟨J, hJ⟩ : ∃ J, joinR 3 (L) = J := ⟨_, rfl⟩
      rw [hJ] at HNS HKI
      simp only [hJ] at hu ⊢
      have HJJ := Lib.hid hJ
      clear hu hns hb hJ
      unfold nodeV
      obtain ⟨⟨b0, b1, b2, b3, b4, b5⟩, g0, g1, g2, g3, g4, g5⟩ := HA.out.b.cells
      have hBlt := HA.out.b.lt
      have hF := HA.out.fin J (.slice uo J.kids.length uc) HNS.out HKI.out
      have HKP := Lib.hid (And.intro hF.1 (And.intro hF.2.1 hF.2.2.2))
      obtain ⟨⟨y0, y1, y2, y3, y4, y5⟩, _⟩ := hF.2.2.1.cells
      unfold set6N set4N at y0 y1 y2 y3 y4 y5 HKP
      have Y0 := Lib.hid y0
      have Y1 := Lib.hid y1
      have Y2 := Lib.hid y2
      have Y3 := Lib.hid y3
      have Y4 := Lib.hid y4
      have Y5 := Lib.hid y5
      clear hF y0 y1 y2 y3 y4 y5
      go_wp2_with fail
      have y0 := Y0.out
      have y1 := Y1.out
      have y2 := Y2.out
      have y3 := Y3.out
      have y4 := Y4.out
      have y5 := Y5.out
      exact bodyPost_ret (v := nodeV J (.slice uo J.kids.length uc)) (by simp [results, Tryd.results46, go_sem, nodeV, y0, y1, y2, y3, y4, y5]) rfl (ndp_some (by rw [HE.out, HJJ.out]) HSZ.out HKP.out.1 HKP.out.2.1 HKP.out.2.2)
theorem pall (s : ByteArray) (R : Nat) (hs : s.size ≤ 1000) : ∀ (N i : Nat), i ≤ s.size → s.size - i ≤ N → (∀ j, i ≤ j → j ≤ s.size → pAtomC s R j) ∧ pRuleC s R i
  | 0, i, hi, hN => by
    have hA : ∀ j, i ≤ j → j ≤ s.size → pAtomC s R j := fun j hij hj => patom_of s R j hj hs fun h => by omega
    have hP : ∀ j, i ≤ j → j < s.size → pPieceC s R j := fun j hij hj => ppiece_of s R j (by omega) hs (hA j hij (by omega))
    exact ⟨hA, prule_of s R i hi hs fun k hk hks => prow_of s R k hks hs fun j hj hjs => hP j (by omega) hjs⟩
  | N + 1, i, hi, hN => by
    have hA : ∀ j, i ≤ j → j ≤ s.size → pAtomC s R j := fun j hij hj => patom_of s R j hj hs fun h => (pall s R hs N (j + 1) (by omega) (by omega)).2
    have hP : ∀ j, i ≤ j → j < s.size → pPieceC s R j := fun j hij hj => ppiece_of s R j (by omega) hs (hA j hij (by omega))
    exact ⟨hA, prule_of s R i hi hs fun k hk hks => prow_of s R k hks hs fun j hj hjs => hP j (by omega) hjs⟩
theorem prule_any (s : ByteArray) (R : Nat) (hs : s.size ≤ 1000) : pRuleC s R 0 := (pall s R hs _ 0 (Nat.zero_le _) (Nat.le_refl _)).2
end Go.Proofs.YtkopbngnhgdfhaaDoor
