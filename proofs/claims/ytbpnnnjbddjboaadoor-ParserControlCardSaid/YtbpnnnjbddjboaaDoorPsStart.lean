/-
  parser.behindStart: what it returns: behind every beginning of a rune, for every byte.
-/
import Derived.Test.YtbpnnnjbddjboaaDoorPsSeq
import Derived.Test.YtbpnnnjbddjboaaDoorPsApp
import Derived.Test.YtbpnnnjbddjboaaDoorNext
namespace Go.Proofs.YtbpnnnjbddjboaaDoor
open Go.RowKit

set_option maxRecDepth 20000 in
set_option maxHeartbeats 8000000 in
theorem start_any (s : ByteArray) (b : Nat) (w : World) (hb : b < 256) (hS : Beg s) (hT : TabU w) :
    Calls Tryd.prog 18 #[.agg #[.int .i64 1, .string s], .int .u8 (b : Int)] w (FedW w (startN s b)) := by
  obtain ⟨R, hR⟩ : ∃ R, startN s b = R := ⟨_, rfl⟩
  rw [hR]
  have hR := Lib.hid hR
  have hs3 : s.size ≤ 3 := by rcases hS with h | h | h <;> omega
  have HTX := Lib.hid (fun W => textOf_any b W)
  have hsz : (s ++ oneB b).size ≤ 4 := by rw [app_size, one_size]; omega
  have hsp : 0 < (s ++ oneB b).size := by rw [app_size, one_size]; omega
  have g1 : ∀ W, (Op.stringOp .add s (oneB b)).run Tryd.prog W = .ok (.string (s ++ oneB b)) W := fun W => run_string_add_sum W _ _ (by rw [one_size]; omega)
  have HNX := Lib.hid (fun W => next_in (s ++ oneB b) 0 W (by decide) (by omega) (by unfold maxLen; omega))
  have HST := Lib.hid (fun W (hW : Below w.heap.size w W) => starts_any (s ++ oneB b) W (hT.below hW) hsp (by unfold maxLen; omega))
  have HFI := Lib.hid (fun W (hW : Below w.heap.size w W) => first_any b W hb (hT.below hW))
  have HN := Lib.hid (fun W => invalid_any W)
  obtain ⟨OB, hOB⟩ : ∃ OB, oneB b = OB := ⟨_, rfl⟩
  have hR2 : Hid (R = if okAt (s ++ OB) 0 = true then (.zero, [(1, (Utf8.decode (s ++ OB) 0).1, [], 0)]) else if begB (s ++ OB) = true then (.start (s ++ OB), []) else ((firstN b).1, badA :: (firstN b).2)) := by
    show _ = _
    rw [← hR.out, ← hOB]
    rfl
  rw [hOB] at HTX hsz hsp g1 HNX HST
  obtain ⟨T, hTT⟩ : ∃ T, s ++ OB = T := ⟨_, rfl⟩
  rw [hTT] at hsz hsp g1 HNX HST hR2
  rw [Int.toNat_zero] at HNX
  obtain ⟨K, hK⟩ : ∃ K, (Utf8.decode T 0).1 = K := ⟨_, rfl⟩
  obtain ⟨K2, hK2⟩ : ∃ K2, (Utf8.decode T 0).2 = K2 := ⟨_, rfl⟩
  rw [hK] at HNX hR2
  rw [hK2] at HNX
  have HSH := Lib.hid (fun W => shown_any K W)
  clear hR hTT hOB hK hK2 hT hS
  have HW : Hid (∀ W0, (w.alloc (.cells #[.int .i64 1, .string s] 24)).alloc (.cells #[.int .i64 0, .string ⟨#[]⟩] 24) = W0 → Below w.heap.size w W0 ∧ W0.heap.size = w.heap.size + 2 ∧ blk2 W0 w.heap.size (.int .i64 1) (.string s) ∧ blk2 W0 (w.heap.size + 1) (.int .i64 0) (.string ⟨#[]⟩)) := fun W0 h => by rw [← h]; exact box_new2 w _ _ _ _
  by_cases hok : okAt T 0 = true
  · have hR : Hid (R = (.zero, [(1, K, [], 0)])) := by
      show _ = _
      rw [hR2.out, if_pos hok]
    clear hR2 HST HFI HN
    go_enter Tryd.func18, Tryd.ntmps18
    go_wp2_with fail
    obtain ⟨W0, hW0⟩ : ∃ W0, (w.alloc (.cells #[.int .i64 1, .string s] 24)).alloc (.cells #[.int .i64 0, .string ⟨#[]⟩] 24) = W0 := ⟨_, rfl⟩
    obtain ⟨hb0, hs0, hBP, hB0⟩ := HW.out W0 hW0
    rw [hW0]
    clear HW hW0
    obtain ⟨⟨p0, p1⟩, r0, r1⟩ := hBP.cells
    have kk := Below.refl W0.heap.size W0
    have k0 : Below W0.heap.size W0 W0.drew := kk.drew
    have HC : Hid (∀ V, Below W0.heap.size W0 V → V.cell? ⟨w.heap.size, 0, none⟩ = some (.int .i64 1) ∧ V.cell? ⟨w.heap.size, 1, none⟩ = some (.string s)) := fun V hV => (hBP.below hV).cells.1
    have HT2 := Lib.hid (fun (V : World) (hV : Below W0.heap.size W0 V) => later1 hV (HTX.out V))
    clear HTX
    go_region_held3 (fun V => V.cell? ⟨w.heap.size, 0, none⟩ = some (.int .i64 1) ∧ V.cell? ⟨w.heap.size, 1, none⟩ = some (.string s))
      (first | with_reducible exact HC.out _ kk | with_reducible exact HC.out _ k0)
      (first
        | (go_at_call 28; go_fit (HT2.out _ ?_); (first | with_reducible exact kk | with_reducible exact k0); rintro e vv ⟨rfl, kk⟩))
    all_goals
      have hB1 := hB0.below kk
      have hbw1 := hb0.trans (kk.mono hb0.size)
      have hs1 : w.heap.size + 2 ≤ vv.heap.size := by rw [← hs0]; exact kk.size
      clear HC HT2 hBP hB0 hb0 hs0 k0 p0 p1 r0 r1
      go_wp2_with fail
      go_fit (HNX.out _)
      rintro e w2 ⟨rfl, hb2⟩
      have hB2 := hB1.below hb2
      have hbw2 := hbw1.trans (hb2.mono hbw1.size)
      have hs2 : w.heap.size + 2 ≤ w2.heap.size := Nat.le_trans hs1 hb2.size
      clear hB1 hbw1 hs1 hb2 HNX kk
      rw [hok]
      go_wp2_with fail
      go_fit (HSH.out _)
      rintro e w3 ⟨v, rfl, hA, _, hb3⟩
      have hB3 := hB2.below hb3
      have hbw3 := hbw2.trans (hb3.mono hbw2.size)
      obtain ⟨⟨c0, c1⟩, z0, z1⟩ := hB3.cells
      go_wp2_with fail
      obtain ⟨⟨y0, y1⟩, q1, q2⟩ := box_end (w := w) (w1 := w3) (Q := w.heap.size + 1) (.int .i64 0) (.string ⟨#[]⟩) hB3 (Nat.le_succ _) hbw3 (acts_from hA hs2)
      rw [hR.out]
      exact bodyPost_ret (v := .tuple #[.agg #[.int .i64 0, .string ⟨#[]⟩], v]) (by simp [results, Tryd.results18, go_sem, y0, y1]) rfl ⟨_, rfl, q2, q1⟩
  · have hR3 : Hid (R = if begB T = true then (.start T, []) else ((firstN b).1, badA :: (firstN b).2)) := by
      show _ = _
      rw [hR2.out, if_neg hok]
    replace hok : okAt T 0 = false := by cases h : okAt T 0 <;> simp_all
    clear hR2 HSH
    by_cases hbg : begB T = true
    · have hR : Hid (R = (.start T, [])) := by
        show _ = _
        rw [hR3.out, if_pos hbg]
      clear hR3 HFI HN
      go_enter Tryd.func18, Tryd.ntmps18
      go_wp2_with fail
      obtain ⟨W0, hW0⟩ : ∃ W0, (w.alloc (.cells #[.int .i64 1, .string s] 24)).alloc (.cells #[.int .i64 0, .string ⟨#[]⟩] 24) = W0 := ⟨_, rfl⟩
      obtain ⟨hb0, hs0, hBP, hB0⟩ := HW.out W0 hW0
      rw [hW0]
      clear HW hW0
      obtain ⟨⟨p0, p1⟩, r0, r1⟩ := hBP.cells
      have kk := Below.refl W0.heap.size W0
      have k0 : Below W0.heap.size W0 W0.drew := kk.drew
      have HC : Hid (∀ V, Below W0.heap.size W0 V → V.cell? ⟨w.heap.size, 0, none⟩ = some (.int .i64 1) ∧ V.cell? ⟨w.heap.size, 1, none⟩ = some (.string s)) := fun V hV => (hBP.below hV).cells.1
      have HT2 := Lib.hid (fun (V : World) (hV : Below W0.heap.size W0 V) => later1 hV (HTX.out V))
      clear HTX
      go_region_held3 (fun V => V.cell? ⟨w.heap.size, 0, none⟩ = some (.int .i64 1) ∧ V.cell? ⟨w.heap.size, 1, none⟩ = some (.string s))
        (first | with_reducible exact HC.out _ kk | with_reducible exact HC.out _ k0)
        (first
          | (go_at_call 28; go_fit (HT2.out _ ?_); (first | with_reducible exact kk | with_reducible exact k0); rintro e vv ⟨rfl, kk⟩))
      all_goals
        have hB1 := hB0.below kk
        have hbw1 := hb0.trans (kk.mono hb0.size)
        have hs1 : w.heap.size + 2 ≤ vv.heap.size := by rw [← hs0]; exact kk.size
        clear HC HT2 hBP hB0 hb0 hs0 k0 p0 p1 r0 r1
        go_wp2_with fail
        go_fit (HNX.out _)
        rintro e w2 ⟨rfl, hb2⟩
        have hB2 := hB1.below hb2
        have hbw2 := hbw1.trans (hb2.mono hbw1.size)
        have hs2 : w.heap.size + 2 ≤ w2.heap.size := Nat.le_trans hs1 hb2.size
        clear hB1 hbw1 hs1 hb2 HNX kk
        rw [hok]
        go_wp2_with fail
        go_fit (HST.out _ hbw2)
        rintro e w3 ⟨rfl, hb3⟩
        have hB3 := hB2.below hb3
        have hbw3 := hbw2.trans (hb3.mono hbw2.size)
        have hs3' : w.heap.size + 2 ≤ w3.heap.size := Nat.le_trans hs2 hb3.size
        clear hB2 hbw2 hs2 hb3 HST
        rw [hbg]
        obtain ⟨⟨c0, c1⟩, z0, z1⟩ := hB3.cells
        go_wp2_with fail
        obtain ⟨⟨y0, y1⟩, q1, q2⟩ := box_end (w := w) (w1 := w3) (Q := w.heap.size + 1) (.int .i64 1) (.string T) hB3 (Nat.le_succ _) hbw3 (ActsW.nil _ _)
        rw [hR.out]
        exact bodyPost_ret (v := .tuple #[.agg #[.int .i64 1, .string T], .slice none 0 0]) (by simp [results, Tryd.results18, go_sem, y0, y1]) rfl ⟨_, rfl, q2, q1⟩
    · have hR : Hid (R = ((firstN b).1, badA :: (firstN b).2)) := by
        show _ = _
        rw [hR3.out, if_neg hbg]
      replace hbg : begB T = false := by cases h : begB T <;> simp_all
      obtain ⟨G, hG⟩ : ∃ G, firstN b = G := ⟨_, rfl⟩
      rw [hG] at HFI hR
      obtain ⟨n, hn⟩ : ∃ n, stN G.1 = n := ⟨_, rfl⟩
      obtain ⟨z, hz⟩ : ∃ z, stB G.1 = z := ⟨_, rfl⟩
      obtain ⟨L, hL⟩ : ∃ L, G.2 = L := ⟨_, rfl⟩
      have HF2 := Lib.hid (fun W hW => fed_letters (HFI.out W hW) hn hz hL)
      have HLL : Hid ([badA].length + L.length ≤ 1000000) := by
        have h2 := feed_two .zero b
        show 1 + L.length ≤ 1000000
        rw [show feedN .zero b = G from hG, hL] at h2
        omega
      have HV : Hid (stV G.1 = .agg #[.int .i64 n, .string z]) := by show _ = _; rw [← hn, ← hz]; rfl
      rw [hL] at hR
      clear hR3 HFI hG hn hz
      go_enter Tryd.func18, Tryd.ntmps18
      go_wp2_with fail
      obtain ⟨W0, hW0⟩ : ∃ W0, (w.alloc (.cells #[.int .i64 1, .string s] 24)).alloc (.cells #[.int .i64 0, .string ⟨#[]⟩] 24) = W0 := ⟨_, rfl⟩
      obtain ⟨hb0, hs0, hBP, hB0⟩ := HW.out W0 hW0
      rw [hW0]
      clear HW hW0
      obtain ⟨⟨p0, p1⟩, r0, r1⟩ := hBP.cells
      have kk := Below.refl W0.heap.size W0
      have k0 : Below W0.heap.size W0 W0.drew := kk.drew
      have HC : Hid (∀ V, Below W0.heap.size W0 V → V.cell? ⟨w.heap.size, 0, none⟩ = some (.int .i64 1) ∧ V.cell? ⟨w.heap.size, 1, none⟩ = some (.string s)) := fun V hV => (hBP.below hV).cells.1
      have HT2 := Lib.hid (fun (V : World) (hV : Below W0.heap.size W0 V) => later1 hV (HTX.out V))
      clear HTX
      go_region_held3 (fun V => V.cell? ⟨w.heap.size, 0, none⟩ = some (.int .i64 1) ∧ V.cell? ⟨w.heap.size, 1, none⟩ = some (.string s))
        (first | with_reducible exact HC.out _ kk | with_reducible exact HC.out _ k0)
        (first
          | (go_at_call 28; go_fit (HT2.out _ ?_); (first | with_reducible exact kk | with_reducible exact k0); rintro e vv ⟨rfl, kk⟩))
      all_goals
        have hB1 := hB0.below kk
        have hbw1 := hb0.trans (kk.mono hb0.size)
        have hs1 : w.heap.size + 2 ≤ vv.heap.size := by rw [← hs0]; exact kk.size
        clear HC HT2 hBP hB0 hb0 hs0 k0 p0 p1 r0 r1
        go_wp2_with fail
        go_fit (HNX.out _)
        rintro e w2 ⟨rfl, hb2⟩
        have hB2 := hB1.below hb2
        have hbw2 := hbw1.trans (hb2.mono hbw1.size)
        have hs2 : w.heap.size + 2 ≤ w2.heap.size := Nat.le_trans hs1 hb2.size
        clear hB1 hbw1 hs1 hb2 HNX kk
        rw [hok]
        go_wp2_with fail
        go_fit (HST.out _ hbw2)
        rintro e w3 ⟨rfl, hb3⟩
        have hB3 := hB2.below hb3
        have hbw3 := hbw2.trans (hb3.mono hbw2.size)
        have hs3' : w.heap.size + 2 ≤ w3.heap.size := Nat.le_trans hs2 hb3.size
        clear hB2 hbw2 hs2 hb3 HST
        rw [hbg]
        go_wp2_with fail
        go_fit (HF2.out _ hbw3)
        rintro e w4 ⟨v, rfl, hA, hb4⟩
        have hB4 := hB3.below hb4
        have hbw4 := hbw3.trans (hb4.mono hbw3.size)
        have hA4 : ActsW (FromP (w.heap.size + 1 + 1)) w4 v L := acts_from hA hs3'
        have hs4 : w.heap.size + 2 ≤ w4.heap.size := Nat.le_trans hs3' hb4.size
        clear hB3 hbw3 hA hb4 HF2 hs3'
        obtain ⟨⟨c0, c1⟩, z0, z1⟩ := hB4.cells
        go_wp2_with fail
        obtain ⟨hB5, hbw5, hA5⟩ := box_mid (w := w) (w1 := w4) (Q := w.heap.size + 1) (.int .i64 n) (.string z) hB4 (Nat.le_succ _) hbw4 hA4
        have hs5 : w.heap.size + 2 ≤ ((w4.setCell ⟨w.heap.size + 1, 0, none⟩ (.int .i64 n)).setCell ⟨w.heap.size + 1, 1, none⟩ (.string z)).heap.size := hB5.lt
        obtain ⟨W5, hW5⟩ : ∃ W5, (w4.setCell ⟨w.heap.size + 1, 0, none⟩ (.int .i64 n)).setCell ⟨w.heap.size + 1, 1, none⟩ (.string z) = W5 := ⟨_, rfl⟩
        rw [hW5] at hB5 hbw5 hA5 hs5 ⊢
        have HC5 : Hid (∀ V, Below W5.heap.size W5 V → V.cell? ⟨w.heap.size + 1, 0, none⟩ = some (.int .i64 n) ∧ V.cell? ⟨w.heap.size + 1, 1, none⟩ = some (.string z)) := fun V hV => (hB5.below hV).cells.1
        have HN5 : Hid (∀ V, Below W5.heap.size W5 V → Calls Tryd.prog 32 #[] V fun e u => ∃ ai, e = .returned (.slice ai 1 1) ∧ ActsW (FromP (w.heap.size + 1 + 1)) u (.slice ai 1 1) [badA] ∧ Below W5.heap.size W5 u) := fun V hV => (invalid_any V).mono fun e u ⟨vi, he, ha, ⟨ai, hai⟩, hbi⟩ => ⟨some ai, by rw [he, hai], by rw [← hai]; exact acts_from ha (Nat.le_trans hs5 hV.size), hV.trans (hbi.mono hV.size)⟩
        have HAP : Hid (∀ V ai ty, Below W5.heap.size W5 V → ActsW (FromP (w.heap.size + 1 + 1)) V (.slice ai 1 1) [badA] → ∃ v' w', (Builtin.append_ #[25, 25] ty #[.slice ai 1 1, v]).run Tryd.prog V = .ok v' w' ∧ ActsW (FromP (w.heap.size + 1 + 1)) w' v' (badA :: L) ∧ Below W5.heap.size W5 w' ∧ (w'.cell? ⟨w.heap.size + 1, 0, none⟩ = some (.int .i64 n) ∧ w'.cell? ⟨w.heap.size + 1, 1, none⟩ = some (.string z)) ∧ w'.frozen? ⟨w.heap.size + 1, 0, none⟩ = false ∧ w'.frozen? ⟨w.heap.size + 1, 1, none⟩ = false) := fun V ai ty hV hai => by
          obtain ⟨v', w', h1, h2, h3⟩ := run_acts (l := [badA]) (l2 := L) 25 ty 34 Tryd.underlying25 Tryd.infoAct hai (hA5.below hV) (Nat.le_trans hs5 hV.size) HLL.out
          have h4 := hV.trans (h3.mono hV.size)
          exact ⟨v', w', h1, h2, h4, (hB5.below h4).cells⟩
        have HE5 : Hid (∀ V, Below W5.heap.size W5 V → blk2 V (w.heap.size + 1) (.int .i64 n) (.string z) ∧ Below w.heap.size w V) := fun V hV => ⟨hB5.below hV, hbw5.trans (hV.mono hbw5.size)⟩
        have kk := Below.refl W5.heap.size W5
        have k0 : Below W5.heap.size W5 W5.drew := kk.drew
        obtain ⟨m0, m1⟩ := HC5.out W5 kk
        have HCS : Hid (∀ V, Below W5.heap.size W5 V → ((V.setCell ⟨w.heap.size + 1, 0, none⟩ (.int .i64 n)).setCell ⟨w.heap.size + 1, 1, none⟩ (.string z)).cell? ⟨w.heap.size + 1, 0, none⟩ = some (.int .i64 n) ∧ ((V.setCell ⟨w.heap.size + 1, 0, none⟩ (.int .i64 n)).setCell ⟨w.heap.size + 1, 1, none⟩ (.string z)).cell? ⟨w.heap.size + 1, 1, none⟩ = some (.string z)) := fun V hV => (((hB5.below hV).set0 _).set1 _).cells.1
        clear hW5 hB4 hbw4 hA4 hs4 c0 c1 z0 z1 hB5 hbw5 hA5 hs5 HN
        go_region_held3 (fun V => V.cell? ⟨w.heap.size + 1, 0, none⟩ = some (.int .i64 n) ∧ V.cell? ⟨w.heap.size + 1, 1, none⟩ = some (.string z))
          (first | with_reducible exact HC5.out _ kk | with_reducible exact HC5.out _ k0 | with_reducible exact HCS.out _ kk)
          (first
            | (go_at_call 32; go_fit (HN5.out _ ?_); (first | with_reducible exact kk | with_reducible exact k0); rintro e vv ⟨ai, rfl, hAi, kk⟩)
            | (obtain ⟨v5, w5, hr5, hA6, kk, ⟨c0, c1⟩, z0, z1⟩ := HAP.out _ _ _ kk hAi; refine step_run (by rfl) (.tmp 35) (.tmp 36) 25 (by rfl) (by rfl) (by rfl) hr5 ?_))
        all_goals
          obtain ⟨hBx, hbx⟩ := HE5.out _ kk
          obtain ⟨⟨y0, y1⟩, q1, q2⟩ := box_end (w := w) (w1 := w5) (Q := w.heap.size + 1) (.int .i64 n) (.string z) hBx (Nat.le_succ _) hbx hA6
          clear HC5 HN5 HAP HE5 HCS c0 c1 z0 z1 hr5
          go_wp2_with fail
          rw [hR.out]
          exact bodyPost_ret (v := .tuple #[.agg #[.int .i64 n, .string z], v5]) (by simp [results, Tryd.results18, go_sem, y0, y1]) rfl ⟨_, by rw [HV.out], q2, q1⟩
end Go.Proofs.YtbpnnnjbddjboaaDoor
