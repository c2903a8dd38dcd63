/-
  ParserFew: each byte asks for at most two things; what leads to the beginning leaves nothing behind: the law's walk: it returns true.
-/
import Derived.Test.YtbpnnnjbddjboaaDoorPsAsked
import Derived.Test.YtbpnnnjbddjboaaDoorPsFewN
namespace Go.Proofs.YtbpnnnjbddjboaaDoor
open Go.RowKit

set_option maxHeartbeats 2000000 in
theorem parserFew_far (s t : ByteArray) (w : World) (hP : LaidP w) (h : 300 < s.size ∨ 300 < t.size) :
    Calls Tryd.prog 6 #[.string s, .string t] w fun e w' => e = .returned (.bool true) ∧ Below w.heap.size w w' := by
  have H := Lib.hid (asked_any w hP)
  clear hP
  by_cases h1 : 300 < s.size
  · have hi : (300 : Int) < (s.size : Int) := by omega
    go_enter Tryd.func6, Tryd.ntmps6
    go_wp2_with fail
    go_fit H.out
    rintro e w1 ⟨rfl, hb⟩
    go_wp2_with fail
    go_ret
    exact ⟨rfl, hb⟩
  · have hi : (s.size : Int) ≤ 300 := by omega
    have hj : (300 : Int) < (t.size : Int) := by omega
    go_enter Tryd.func6, Tryd.ntmps6
    go_wp2_with fail
    go_fit H.out
    rintro e w1 ⟨rfl, hb⟩
    go_wp2_with fail
    go_ret
    exact ⟨rfl, hb⟩

set_option maxRecDepth 20000 in
set_option maxHeartbeats 16000000 in
theorem parserFew_near (s t : ByteArray) (w : World) (hP : LaidP w) (hs : s.size ≤ 300) (ht : t.size ≤ 300) :
    Calls Tryd.prog 6 #[.string s, .string t] w fun e w' => e = .returned (.bool true) ∧ Below w.heap.size w w' := by
  have hsi : (s.size : Int) ≤ 300 := by omega
  have hti : (t.size : Int) ≤ 300 := by omega
  have HASK := Lib.hid (fun W (hW : Below w.heap.size w W) => asked_any W (hP.below hW))
  have HTO := Lib.hid (fun W (hW : Below w.heap.size w W) => told_any t W (hP.below hW) (by omega))
  have HBT := Lib.hid (fun k (hk : k < s.size) => (show (s[k].toNat : Int) = (bt s k : Int) by unfold bt; rw [show s.get! k = s[k] from get_at s k hk]))
  have HBU := Lib.hid (fun k (hk : k < t.size) => (show (t[k].toNat : Int) = (bt t k : Int) by unfold bt; rw [show t.get! k = t[k] from get_at t k hk]))
  have HFD := Lib.hid (fun p b W (hb : b < 256) (hk : OkP p) (hW : Below w.heap.size w W) => fed_letters (feed_any p b W hb (hP.below hW) hk) rfl rfl rfl)
  have HW0 : Hid (Below w.heap.size w (w.alloc (.cells #[.int .i64 0, .string ⟨#[]⟩] 24)) ∧ (w.alloc (.cells #[.int .i64 0, .string ⟨#[]⟩] 24)).heap.size = w.heap.size + 1 ∧ blk2 (w.alloc (.cells #[.int .i64 0, .string ⟨#[]⟩] 24)) w.heap.size (.int .i64 0) (.string ⟨#[]⟩)) := box_new w _ _
  clear hP
  go_enter Tryd.func6, Tryd.ntmps6
  go_wp2_with fail
  obtain ⟨a1, a2, a3⟩ := HW0.out
  go_loopw [6] (fun i wr => ∃ (k : Nat) (p : Ps), i = .int .i64 (k : Int) ∧ k ≤ s.size ∧ OkP p ∧ blk2 wr w.heap.size (.int .i64 (stN p)) (.string (stB p)) ∧ Below w.heap.size w wr) (fun i _ => s.size - (intOf i).toNat)
  case atStart => exact ⟨0, .zero, rfl, Nat.zero_le _, trivial, a3, a1⟩
  case round =>
    clear a1 a2 a3 HW0
    obtain ⟨k, p, rfl, hk, hok, hB, hbr⟩ := hrel
    by_cases hlt : k < s.size
    · have hbt := HBT.out k hlt
      have hb256 := bt_lt s k
      obtain ⟨b, hb⟩ : ∃ b, bt s k = b := ⟨_, rfl⟩
      rw [hb] at hbt hb256
      have hok2 := ok_feed p b hok
      have hl2 := feed_two p b
      have hsmall := feed_small p b hok
      have HF := Lib.hid (fun W hW => HFD.out p b W hb256 hok hW)
      obtain ⟨G, hG⟩ : ∃ G, feedN p b = G := ⟨_, rfl⟩
      rw [hG] at HF hok2 hl2 hsmall
      obtain ⟨n1, hn1⟩ : ∃ n, stN p = n := ⟨_, rfl⟩
      obtain ⟨z1, hz1⟩ : ∃ z, stB p = z := ⟨_, rfl⟩
      have HF1 : Hid (∀ W, Below w.heap.size w W → Calls Tryd.prog 9 #[.agg #[.int .i64 n1, .string z1], .int .u8 (b : Int)] W fun e u => ∃ v, e = .returned (.tuple #[.agg #[.int .i64 (stN G.1), .string (stB G.1)], v]) ∧ ActsW (FromP W.heap.size) u v G.2 ∧ Below W.heap.size W u) := by rw [← hn1, ← hz1]; exact HF.out
      rw [hn1, hz1] at hB
      obtain ⟨n2, hn2⟩ : ∃ n, stN G.1 = n := ⟨_, rfl⟩
      obtain ⟨z2, hz2⟩ : ∃ z, stB G.1 = z := ⟨_, rfl⟩
      rw [hn2, hz2] at HF1
      have hki : (k : Int) < (s.size : Int) := by omega
      have hk0 : (0 : Int) ≤ (k : Int) := by omega
      have HC : Hid (∀ V, Below wr.heap.size wr V → V.cell? ⟨w.heap.size, 0, none⟩ = some (.int .i64 n1) ∧ V.cell? ⟨w.heap.size, 1, none⟩ = some (.string z1)) := fun V hV => (hB.below hV).cells.1
      have hlt0 := hB.lt
      have HCS := Lib.hid (fun V (hV : Below wr.heap.size wr V) x y => held_set (Q := wr.heap.size) x y (HC.out V hV) (by omega))
      have kk := Below.refl wr.heap.size wr
      have k0 : Below wr.heap.size wr wr.drew := kk.drew
      obtain ⟨p0, p1⟩ := HC.out wr kk
      have HF2 : Hid (∀ V, Below wr.heap.size wr V → Calls Tryd.prog 9 #[.agg #[.int .i64 n1, .string z1], .int .u8 (b : Int)] V fun e u => ∃ v, e = .returned (.tuple #[.agg #[.int .i64 n2, .string z2], v]) ∧ ActsW (FromP wr.heap.size) u v G.2 ∧ Below wr.heap.size wr u) := fun V hV => (HF1.out V (hbr.trans (hV.mono hbr.size))).mono fun e u ⟨v, h1, h2, h3⟩ => ⟨v, h1, acts_from h2 hV.size, hV.trans (h3.mono hV.size)⟩
      have HFa : Hid (∀ V, blk2 V wr.heap.size (.int .i64 0) (.string ⟨#[]⟩) → Below wr.heap.size wr V → Calls Tryd.prog 9 #[.agg #[.int .i64 n1, .string z1], .int .u8 (b : Int)] V fun e u => ∃ v, e = .returned (.tuple #[.agg #[.int .i64 n2, .string z2], v]) ∧ ActsW (FromP (wr.heap.size + 1)) u v G.2 ∧ Below wr.heap.size wr u ∧ (u.cell? ⟨wr.heap.size, 0, none⟩ = some (.int .i64 0) ∧ u.cell? ⟨wr.heap.size, 1, none⟩ = some (.string ⟨#[]⟩)) ∧ u.frozen? ⟨wr.heap.size, 0, none⟩ = false ∧ u.frozen? ⟨wr.heap.size, 1, none⟩ = false ∧ Hid (blk2 u wr.heap.size (.int .i64 0) (.string ⟨#[]⟩))) := fun V hq hV => (HF1.out V (hbr.trans (hV.mono hbr.size))).mono fun e u ⟨v, h1, h2, h3⟩ => ⟨v, h1, acts_from h2 hq.lt, hV.trans (h3.mono hV.size), (hq.below h3).cells.1, (hq.below h3).cells.2.1, (hq.below h3).cells.2.2, hq.below h3⟩
      clear HF HF1 HFD hb hG hn1 hz1 hsmall HTO HASK
      go_wp2_with fail
      go_region_held3 (fun V => V.cell? ⟨w.heap.size, 0, none⟩ = some (.int .i64 n1) ∧ V.cell? ⟨w.heap.size, 1, none⟩ = some (.string z1))
        (first | with_reducible exact HC.out _ kk | with_reducible exact HC.out _ k0 | with_reducible exact HC.out _ (below_alloc kk) | with_reducible exact HC.out _ (below_drew2 _ _) | with_reducible exact HCS.out _ kk _ _)
        (first
          | (go_at_call 9; go_fit (HFa.out _ ?_ ?_); (first | with_reducible exact blk2.new _ _ _ | with_reducible exact blk2_drew _ _ _); (first | with_reducible exact kk | with_reducible exact below_alloc kk | with_reducible exact k0 | with_reducible exact below_drew2 _ _); rintro e vv ⟨v, rfl, hA, kk, ⟨c0, c1⟩, z0, z1, HQ2⟩)
          | (go_at_call 9; go_fit (HF2.out _ ?_); (first | with_reducible exact kk | with_reducible exact k0); rintro e vv ⟨v, rfl, hA, kk⟩))
      · have F1 : blk2 (vv.alloc (.cells #[.int .i64 n2, .string z2] 24)) vv.heap.size (.int .i64 n2) (.string z2) := blk2.new vv _ _
        have F3 : Below wr.heap.size wr (vv.alloc (.cells #[.int .i64 n2, .string z2] 24)) := below_alloc kk
        have F4 : ActsW (FromP wr.heap.size) (vv.alloc (.cells #[.int .i64 n2, .string z2] 24)) v G.2 := hA.below ((Below.refl _ _).alloc (Nat.le_refl _) _)
        have hQw : wr.heap.size ≤ vv.heap.size := kk.size
        have F2 := hB.below F3
        have hbw5 : Below w.heap.size w (vv.alloc (.cells #[.int .i64 n2, .string z2] 24)) := hbr.trans (F3.mono hbr.size)
        have hs5 : wr.heap.size ≤ ((vv.alloc (.cells #[.int .i64 n2, .string z2] 24))).heap.size := F3.size
        obtain ⟨W5, hW5⟩ : ∃ W5, (vv.alloc (.cells #[.int .i64 n2, .string z2] 24)) = W5 := ⟨_, rfl⟩
        rw [hW5] at F1 F2 F3 F4 hbw5 hs5 ⊢
        obtain ⟨Q, hQ⟩ : ∃ Q, vv.heap.size = Q := ⟨_, rfl⟩
        rw [hQ] at F1 hQw ⊢
        clear hW5 kk k0 p0 p1 HC HCS HFa HF2 hA
        obtain ⟨l1, lc1, rfl, _⟩ := F4.form
        obtain ⟨n, hn⟩ : ∃ n, G.2.length = n := ⟨_, rfl⟩
        rw [hn] at hl2 ⊢
        have hni : (n : Int) ≤ 2 := by omega
        obtain ⟨⟨c0, c1⟩, _⟩ := F1.cells
        obtain ⟨⟨x0, x1⟩, z0, z1⟩ := F2.cells
        have kp : KeepW (fun k => k ≠ w.heap.size) W5 ((W5.setCell ⟨w.heap.size, 0, none⟩ (.int .i64 n2)).setCell ⟨w.heap.size, 1, none⟩ (.string z2)) := (keep_set (w.heap.size) 0 none _ W5 (fun h => h rfl)).trans (keep_set (w.heap.size) 1 none _ _ (fun h => h rfl))
        have hb8 : Below w.heap.size w _ := KeepW.below hbw5 kp hbw5.size (fun k hk => by omega)
        have F6 := ((F2.set0 (.int .i64 n2)).set1 (.string z2))
        clear F1 F2 F3 F4 hbw5 kp hs5 hn hQw hB
        go_wp2_with fail
        go_roundw
        case rel => exact ⟨k + 1, G.1, by go_num, by omega, hok2, by rw [hn2, hz2]; exact F6, hb8⟩
        case measure => simp [intOf]; omega
      · obtain ⟨F1, F3, F4'⟩ := box_mid (w := wr) (w1 := vv) (Q := wr.heap.size) (.int .i64 n2) (.string z2) HQ2.out (Nat.le_refl _) kk hA
        have F4 := acts_from F4' (Nat.le_succ wr.heap.size)
        have hQw : wr.heap.size ≤ wr.heap.size := Nat.le_refl _
        clear F4' c0 c1 z0 z1 HQ2
        have F2 := hB.below F3
        have hbw5 : Below w.heap.size w ((vv.setCell ⟨wr.heap.size, 0, none⟩ (.int .i64 n2)).setCell ⟨wr.heap.size, 1, none⟩ (.string z2)) := hbr.trans (F3.mono hbr.size)
        have hs5 : wr.heap.size ≤ (((vv.setCell ⟨wr.heap.size, 0, none⟩ (.int .i64 n2)).setCell ⟨wr.heap.size, 1, none⟩ (.string z2))).heap.size := F3.size
        obtain ⟨W5, hW5⟩ : ∃ W5, ((vv.setCell ⟨wr.heap.size, 0, none⟩ (.int .i64 n2)).setCell ⟨wr.heap.size, 1, none⟩ (.string z2)) = W5 := ⟨_, rfl⟩
        rw [hW5] at F1 F2 F3 F4 hbw5 hs5 ⊢
        obtain ⟨Q, hQ⟩ : ∃ Q, wr.heap.size = Q := ⟨_, rfl⟩
        rw [hQ] at F1 ⊢
        have hQw : wr.heap.size ≤ Q := Nat.le_of_eq hQ
        clear hW5 kk k0 p0 p1 HC HCS HFa HF2 hA
        obtain ⟨l1, lc1, rfl, _⟩ := F4.form
        obtain ⟨n, hn⟩ : ∃ n, G.2.length = n := ⟨_, rfl⟩
        rw [hn] at hl2 ⊢
        have hni : (n : Int) ≤ 2 := by omega
        obtain ⟨⟨c0, c1⟩, _⟩ := F1.cells
        obtain ⟨⟨x0, x1⟩, z0, z1⟩ := F2.cells
        have kp : KeepW (fun k => k ≠ w.heap.size) W5 ((W5.setCell ⟨w.heap.size, 0, none⟩ (.int .i64 n2)).setCell ⟨w.heap.size, 1, none⟩ (.string z2)) := (keep_set (w.heap.size) 0 none _ W5 (fun h => h rfl)).trans (keep_set (w.heap.size) 1 none _ _ (fun h => h rfl))
        have hb8 : Below w.heap.size w _ := KeepW.below hbw5 kp hbw5.size (fun k hk => by omega)
        have F6 := ((F2.set0 (.int .i64 n2)).set1 (.string z2))
        clear F1 F2 F3 F4 hbw5 kp hs5 hn hQw hB
        go_wp2_with fail
        go_roundw
        case rel => exact ⟨k + 1, G.1, by go_num, by omega, hok2, by rw [hn2, hz2]; exact F6, hb8⟩
        case measure => simp [intOf]; omega
      · obtain ⟨F1, F3, F4'⟩ := box_mid (w := wr) (w1 := vv) (Q := wr.heap.size) (.int .i64 n2) (.string z2) HQ2.out (Nat.le_refl _) kk hA
        have F4 := acts_from F4' (Nat.le_succ wr.heap.size)
        have hQw : wr.heap.size ≤ wr.heap.size := Nat.le_refl _
        clear F4' c0 c1 z0 z1 HQ2
        have F2 := hB.below F3
        have hbw5 : Below w.heap.size w ((vv.setCell ⟨wr.heap.size, 0, none⟩ (.int .i64 n2)).setCell ⟨wr.heap.size, 1, none⟩ (.string z2)) := hbr.trans (F3.mono hbr.size)
        have hs5 : wr.heap.size ≤ (((vv.setCell ⟨wr.heap.size, 0, none⟩ (.int .i64 n2)).setCell ⟨wr.heap.size, 1, none⟩ (.string z2))).heap.size := F3.size
        obtain ⟨W5, hW5⟩ : ∃ W5, ((vv.setCell ⟨wr.heap.size, 0, none⟩ (.int .i64 n2)).setCell ⟨wr.heap.size, 1, none⟩ (.string z2)) = W5 := ⟨_, rfl⟩
        rw [hW5] at F1 F2 F3 F4 hbw5 hs5 ⊢
        obtain ⟨Q, hQ⟩ : ∃ Q, wr.heap.size = Q := ⟨_, rfl⟩
        rw [hQ] at F1 ⊢
        have hQw : wr.heap.size ≤ Q := Nat.le_of_eq hQ
        clear hW5 kk k0 p0 p1 HC HCS HFa HF2 hA
        obtain ⟨l1, lc1, rfl, _⟩ := F4.form
        obtain ⟨n, hn⟩ : ∃ n, G.2.length = n := ⟨_, rfl⟩
        rw [hn] at hl2 ⊢
        have hni : (n : Int) ≤ 2 := by omega
        obtain ⟨⟨c0, c1⟩, _⟩ := F1.cells
        obtain ⟨⟨x0, x1⟩, z0, z1⟩ := F2.cells
        have kp : KeepW (fun k => k ≠ w.heap.size) W5 ((W5.setCell ⟨w.heap.size, 0, none⟩ (.int .i64 n2)).setCell ⟨w.heap.size, 1, none⟩ (.string z2)) := (keep_set (w.heap.size) 0 none _ W5 (fun h => h rfl)).trans (keep_set (w.heap.size) 1 none _ _ (fun h => h rfl))
        have hb8 : Below w.heap.size w _ := KeepW.below hbw5 kp hbw5.size (fun k hk => by omega)
        have F6 := ((F2.set0 (.int .i64 n2)).set1 (.string z2))
        clear F1 F2 F3 F4 hbw5 kp hs5 hn hQw hB
        go_wp2_with fail
        go_roundw
        case rel => exact ⟨k + 1, G.1, by go_num, by omega, hok2, by rw [hn2, hz2]; exact F6, hb8⟩
        case measure => simp [intOf]; omega
    · obtain rfl : k = s.size := by omega
      have hz := feed24 p hok
      have HF24 : Hid (Calls Tryd.prog 9 #[.agg #[.int .i64 (stN p), .string (stB p)], .int .u8 24] wr fun e u => ∃ v, e = .returned (.tuple #[.agg #[.int .i64 0, .string ⟨#[]⟩], v]) ∧ Below wr.heap.size wr u) := (HFD.out p 24 wr (by decide) hok hbr).mono fun e u ⟨v, h1, _, h3⟩ => ⟨v, by rw [h1, hz]; rfl, h3⟩
      obtain ⟨⟨p0, p1⟩, _⟩ := hB.cells
      obtain ⟨n1, hn1⟩ : ∃ n, stN p = n := ⟨_, rfl⟩
      obtain ⟨z1, hz1⟩ : ∃ z, stB p = z := ⟨_, rfl⟩
      rw [hn1] at HF24 p0
      rw [hz1] at HF24 p1
      clear hn1 hz1 hz hok hB
      go_wp2_with fail
      go_fit HF24.out
      rintro e V ⟨v, rfl, hbv⟩
      have hbw := hbr.trans (hbv.mono hbr.size)
      clear HF24 p0 p1 hbv hbr
      go_wp2_with fail
      have hbW : Below w.heap.size w (V.alloc (.cells #[.int .i64 0, .string ⟨#[]⟩] 24)) := hbw.alloc hbw.size _
      have hBR : blk2 (V.alloc (.cells #[.int .i64 0, .string ⟨#[]⟩] 24)) V.heap.size (.int .i64 0) (.string ⟨#[]⟩) := blk2.new V _ _
      have hRw : w.heap.size ≤ V.heap.size := hbw.size
      obtain ⟨W1, hW1⟩ : ∃ W1, V.alloc (.cells #[.int .i64 0, .string ⟨#[]⟩] 24) = W1 := ⟨_, rfl⟩
      obtain ⟨R, hR⟩ : ∃ R, V.heap.size = R := ⟨_, rfl⟩
      rw [hW1] at hbW hBR ⊢
      rw [hR] at hBR hRw ⊢
      clear hW1 hR hbw
      go_fit (HTO.out W1 hbW)
      rintro e W2 ⟨vt, rfl, hWT, hb2⟩
      have hBR2 := hBR.below hb2
      have hbW2 := hbW.trans (hb2.mono hbW.size)
      have hRlt := hBR.lt
      replace hWT : ActsW (FromP (R + 1)) W2 vt (runN .zero (bytesN t)).2 := acts_from hWT hRlt
      have HSP := Lib.hid (fun k => run_split .zero (bytesN t) k)
      have HRT := Lib.hid (fun k hk => run_take .zero t k hk)
      have HSM := Lib.hid (run_small (bytesN t) .zero trivial)
      have HEN : Hid ((bytesN t).take t.size = bytesN t) := List.take_of_length_le (by rw [bytesN_len]; exact Nat.le_refl _)
      obtain ⟨L, hL⟩ : ∃ L, (runN .zero (bytesN t)).2 = L := ⟨_, rfl⟩
      rw [hL] at hWT HSP HSM
      have HLL := Lib.hid hL
      clear hL hBR hb2 hbW hRlt
      go_wp2_with fail
      go_loopw [11, 12] (fun v i wr => ∃ (k : Nat) (p : Ps) (acc : List Ac), i = .int .i64 (k : Int) ∧ k ≤ t.size ∧ Hid (runN .zero ((bytesN t).take k) = (p, acc)) ∧ OkP p ∧ blk2 wr R (.int .i64 (stN p)) (.string (stB p)) ∧ ActsW (FromP (R + 1)) wr v (L.drop acc.length) ∧ Below w.heap.size w wr) (fun _ i _ => t.size - (intOf i).toNat)
      case atStart => exact ⟨0, .zero, [], rfl, Nat.zero_le _, rfl, trivial, hBR2, hWT, hbW2⟩
      case round =>
        clear hBR2 hWT hbW2
        obtain ⟨k, p, acc, rfl, hk, HQ, hok, hB, hWT, hbr⟩ := hrel
        by_cases hlt : k < t.size
        · have hbt := HBU.out k hlt
          have hb256 := bt_lt t k
          have hrt := HRT.out k hlt
          obtain ⟨rr, hrr⟩ := HSP.out (k + 1)
          rw [HQ.out] at hrt
          rw [hrt] at hrr
          obtain ⟨b, hb⟩ : ∃ b, bt t k = b := ⟨_, rfl⟩
          rw [hb] at hbt hb256 hrt hrr
          have hok2 := ok_feed p b hok
          have hl2 := feed_two p b
          have hsmall := feed_small p b hok
          have HF := Lib.hid (fun W hW => HFD.out p b W hb256 hok hW)
          obtain ⟨G, hG⟩ : ∃ G, feedN p b = G := ⟨_, rfl⟩
          rw [hG] at HF hok2 hl2 hsmall hrt hrr
          obtain ⟨n1, hn1⟩ : ∃ n, stN p = n := ⟨_, rfl⟩
          obtain ⟨z1, hz1⟩ : ∃ z, stB p = z := ⟨_, rfl⟩
          have HF1 : Hid (∀ W, Below w.heap.size w W → Calls Tryd.prog 9 #[.agg #[.int .i64 n1, .string z1], .int .u8 (b : Int)] W fun e u => ∃ v, e = .returned (.tuple #[.agg #[.int .i64 (stN G.1), .string (stB G.1)], v]) ∧ ActsW (FromP W.heap.size) u v G.2 ∧ Below W.heap.size W u) := by rw [← hn1, ← hz1]; exact HF.out
          rw [hn1, hz1] at hB
          obtain ⟨n2, hn2⟩ : ∃ n, stN G.1 = n := ⟨_, rfl⟩
          obtain ⟨z2, hz2⟩ : ∃ z, stB G.1 = z := ⟨_, rfl⟩
          rw [hn2, hz2] at HF1
          have hki : (k : Int) < (t.size : Int) := by omega
          have hk0 : (0 : Int) ≤ (k : Int) := by omega
          have hLD : Hid (L = acc ++ (G.2 ++ rr)) := by show _ = _; rw [hrr]; exact List.append_assoc _ _ _
          clear hrr
          have HC : Hid (∀ V, Below wr.heap.size wr V → V.cell? ⟨R, 0, none⟩ = some (.int .i64 n1) ∧ V.cell? ⟨R, 1, none⟩ = some (.string z1)) := fun V hV => (hB.below hV).cells.1
          have hlt0 := hB.lt
          have HCS := Lib.hid (fun V (hV : Below wr.heap.size wr V) x y => held_set (Q := wr.heap.size) x y (HC.out V hV) (by omega))
          have kk := Below.refl wr.heap.size wr
          have k0 : Below wr.heap.size wr wr.drew := kk.drew
          obtain ⟨p0, p1⟩ := HC.out wr kk
          have HF2 : Hid (∀ V, Below wr.heap.size wr V → Calls Tryd.prog 9 #[.agg #[.int .i64 n1, .string z1], .int .u8 (b : Int)] V fun e u => ∃ v, e = .returned (.tuple #[.agg #[.int .i64 n2, .string z2], v]) ∧ ActsW (FromP wr.heap.size) u v G.2 ∧ Below wr.heap.size wr u) := fun V hV => (HF1.out V (hbr.trans (hV.mono hbr.size))).mono fun e u ⟨v, h1, h2, h3⟩ => ⟨v, h1, acts_from h2 hV.size, hV.trans (h3.mono hV.size)⟩
          have HFa : Hid (∀ V, blk2 V wr.heap.size (.int .i64 0) (.string ⟨#[]⟩) → Below wr.heap.size wr V → Calls Tryd.prog 9 #[.agg #[.int .i64 n1, .string z1], .int .u8 (b : Int)] V fun e u => ∃ v, e = .returned (.tuple #[.agg #[.int .i64 n2, .string z2], v]) ∧ ActsW (FromP (wr.heap.size + 1)) u v G.2 ∧ Below wr.heap.size wr u ∧ (u.cell? ⟨wr.heap.size, 0, none⟩ = some (.int .i64 0) ∧ u.cell? ⟨wr.heap.size, 1, none⟩ = some (.string ⟨#[]⟩)) ∧ u.frozen? ⟨wr.heap.size, 0, none⟩ = false ∧ u.frozen? ⟨wr.heap.size, 1, none⟩ = false ∧ Hid (blk2 u wr.heap.size (.int .i64 0) (.string ⟨#[]⟩))) := fun V hq hV => (HF1.out V (hbr.trans (hV.mono hbr.size))).mono fun e u ⟨v, h1, h2, h3⟩ => ⟨v, h1, acts_from h2 hq.lt, hV.trans (h3.mono hV.size), (hq.below h3).cells.1, (hq.below h3).cells.2.1, (hq.below h3).cells.2.2, hq.below h3⟩
          clear HF HF1 HFD hb hG hn1 hz1 HTO HASK
          go_wp2_with fail
          go_region_held3 (fun V => V.cell? ⟨R, 0, none⟩ = some (.int .i64 n1) ∧ V.cell? ⟨R, 1, none⟩ = some (.string z1))
            (first | with_reducible exact HC.out _ kk | with_reducible exact HC.out _ k0 | with_reducible exact HC.out _ (below_alloc kk) | with_reducible exact HC.out _ (below_drew2 _ _) | with_reducible exact HCS.out _ kk _ _)
            (first
              | (go_at_call 9; go_fit (HFa.out _ ?_ ?_); (first | with_reducible exact blk2.new _ _ _ | with_reducible exact blk2_drew _ _ _); (first | with_reducible exact kk | with_reducible exact below_alloc kk | with_reducible exact k0 | with_reducible exact below_drew2 _ _); rintro e vv ⟨v, rfl, hA, kk, ⟨c0, c1⟩, z0, z1, HQ2⟩)
              | (go_at_call 9; go_fit (HF2.out _ ?_); (first | with_reducible exact kk | with_reducible exact k0); rintro e vv ⟨v, rfl, hA, kk⟩))
          · have F1 : blk2 (vv.alloc (.cells #[.int .i64 n2, .string z2] 24)) vv.heap.size (.int .i64 n2) (.string z2) := blk2.new vv _ _
            have F3 : Below wr.heap.size wr (vv.alloc (.cells #[.int .i64 n2, .string z2] 24)) := below_alloc kk
            have F4 : ActsW (FromP wr.heap.size) (vv.alloc (.cells #[.int .i64 n2, .string z2] 24)) v G.2 := hA.below ((Below.refl _ _).alloc (Nat.le_refl _) _)
            have hQw : wr.heap.size ≤ vv.heap.size := kk.size
            have F2 := hB.below F3
            have hbw5 : Below w.heap.size w (vv.alloc (.cells #[.int .i64 n2, .string z2] 24)) := hbr.trans (F3.mono hbr.size)
            have hs5 : wr.heap.size ≤ ((vv.alloc (.cells #[.int .i64 n2, .string z2] 24))).heap.size := F3.size
            obtain ⟨W5, hW5⟩ : ∃ W5, (vv.alloc (.cells #[.int .i64 n2, .string z2] 24)) = W5 := ⟨_, rfl⟩
            rw [hW5] at F1 F2 F3 F4 hbw5 hs5 ⊢
            obtain ⟨Q, hQ⟩ : ∃ Q, vv.heap.size = Q := ⟨_, rfl⟩
            rw [hQ] at F1 hQw ⊢
            clear hW5 kk k0 p0 p1 HC HCS HFa HF2 hA
            obtain ⟨⟨c0, c1⟩, _⟩ := F1.cells
            obtain ⟨⟨x0, x1⟩, z0, z1⟩ := F2.cells
            have kp : KeepW (fun k => k ≠ R) W5 ((W5.setCell ⟨R, 0, none⟩ (.int .i64 n2)).setCell ⟨R, 1, none⟩ (.string z2)) := (keep_set (R) 0 none _ W5 (fun h => h rfl)).trans (keep_set (R) 1 none _ _ (fun h => h rfl))
            have hb8 : Below w.heap.size w _ := KeepW.below hbw5 kp hbw5.size (fun k hk => by omega)
            have F6 := ((F2.set0 (.int .i64 n2)).set1 (.string z2))
            have kp2 : KeepW (FromP (R + 1)) W5 ((W5.setCell ⟨R, 0, none⟩ (.int .i64 n2)).setCell ⟨R, 1, none⟩ (.string z2)) := kp.mono fun k _ hk => by
              have h : R + 1 ≤ k := hk
              show k ≠ R
              omega
            have hWT8 := (hWT.below F3).keep kp2
            have hA8 := (acts_from F4 hlt0).keep kp2
            obtain ⟨W8, hW8⟩ : ∃ W8, (W5.setCell ⟨R, 0, none⟩ (.int .i64 n2)).setCell ⟨R, 1, none⟩ (.string z2) = W8 := ⟨_, rfl⟩
            rw [hW8] at hb8 F6 hWT8 hA8
            have HW8 := Lib.hid hW8
            clear F1 F2 F3 F4 hbw5 kp kp2 hs5 hQw hB hW8 hWT
            go_wp2_with fail
            rw [HW8.out]
            obtain ⟨l1, lc1, rfl, _⟩ := hA8.form
            have HL1 := Lib.hid hA8
            obtain ⟨n, hn⟩ : ∃ n, G.2.length = n := ⟨_, rfl⟩
            rw [hn] at HL1 hl2 ⊢
            have HNN := Lib.hid hn
            have HSG := Lib.hid hsmall
            clear hA8 hn hsmall HW8
            go_loopw [11, 15] (fun v j wi => ∃ m : Nat, j = .int .i64 (m : Int) ∧ m ≤ n ∧ ActsW (FromP (R + 1)) wi v (L.drop (acc.length + m)) ∧ Below W8.heap.size W8 wi) (fun _ j _ => n - (intOf j).toNat)
            case atStart => exact ⟨0, rfl, Nat.zero_le _, hWT8, Below.refl _ _⟩
            case round =>
              clear hWT8
              obtain ⟨m, rfl, hm, hWI, hbi⟩ := hrel
              by_cases hmn : m < n
              · obtain ⟨a, ha⟩ : ∃ a, G.2[m]? = some a := ⟨_, List.getElem?_eq_getElem (by rw [HNN.out]; exact hmn)⟩
                have hLa : L[acc.length + m]? = some a := by rw [hLD.out, drop_at acc G.2 rr m (by rw [HNN.out]; exact hmn)]; exact ha
                have hdh := drop_head L _ a hLa
                rw [hdh] at hWI
                obtain ⟨rest, hrest⟩ : ∃ rest, L.drop (acc.length + m + 1) = rest := ⟨_, rfl⟩
                rw [hrest] at hWI
                obtain ⟨g, o, _, pv, e1, _, a0, a1, a2, a3, hNa⟩ := HL1.out.at4 ha
                obtain ⟨g', o', wc, pv', e2, hwc, c0, c1, c2, c3, hNc⟩ := hWI.at4 (i := 0) rfl
                simp only [Nat.zero_mul, Nat.add_zero] at c0 c1 c2 c3
                rw [HNN.out] at e1
                cases e1
                subst e2
                have hsm := HSG.out a (List.mem_of_getElem? ha)
                replace a0 := a0
                have A0 := hbi.cell (p := ⟨g, o + m * 4, none⟩) (rlt a0)
                have A1 := hbi.cell (p := ⟨g, o + m * 4 + 1, none⟩) (rlt a1)
                have A2 := hbi.cell (p := ⟨g, o + m * 4 + 2, none⟩) (rlt a2)
                have A3 := hbi.cell (p := ⟨g, o + m * 4 + 3, none⟩) (rlt a3)
                rw [a0] at A0
                rw [a1] at A1
                rw [a2] at A2
                rw [a3] at A3
                obtain ⟨WJ, hWJ⟩ : ∃ W, wr = W := ⟨_, rfl⟩
                rw [hWJ] at hWI hbi c0 c1 c2 c3 hNc A0 A1 A2 A3 ⊢
                have hNa' := hNa.keep (keep_below _ hbi)
                have HLK : Hid (∀ V, Below WJ.heap.size WJ V → Calls Tryd.prog 11 #[.agg #[.int .i64 (a.1 : Int), .int .i32 (a.2.1 : Int), pv, .int .u8 (a.2.2.2 : Int)], .agg #[.int .i64 (a.1 : Int), .int .i32 (a.2.1 : Int), pv', .int .u8 (a.2.2.2 : Int)]] V fun e w' => e = .returned (.bool true) ∧ Below WJ.heap.size WJ w') := fun V hV => (like_any a a pv pv' V (hNa'.keep (keep_below _ hV)) (hNc.keep (keep_below _ hV)) (by omega)).mono fun e u ⟨h1, h2⟩ => ⟨by rw [h1, decide_eq_true rfl], hV.trans (h2.mono hV.size)⟩
                have HC : Hid (∀ V, Below WJ.heap.size WJ V → (V.cell? ⟨g, o + m * 4, none⟩ = some (.int .i64 (a.1 : Int)) ∧ V.cell? ⟨g, o + m * 4 + 1, none⟩ = some (.int .i32 (a.2.1 : Int)) ∧ V.cell? ⟨g, o + m * 4 + 2, none⟩ = some pv ∧ V.cell? ⟨g, o + m * 4 + 3, none⟩ = some (.int .u8 (a.2.2.2 : Int))) ∧ (V.cell? ⟨g', o', none⟩ = some (.int .i64 (a.1 : Int)) ∧ V.cell? ⟨g', o' + 1, none⟩ = some (.int .i32 (a.2.1 : Int)) ∧ V.cell? ⟨g', o' + 2, none⟩ = some pv' ∧ V.cell? ⟨g', o' + 3, none⟩ = some (.int .u8 (a.2.2.2 : Int)))) := fun V hV =>
                  ⟨⟨by rw [hV.cell (p := ⟨g, o + m * 4, none⟩) (rlt A0)]; exact A0, by rw [hV.cell (p := ⟨g, o + m * 4 + 1, none⟩) (rlt A1)]; exact A1, by rw [hV.cell (p := ⟨g, o + m * 4 + 2, none⟩) (rlt A2)]; exact A2, by rw [hV.cell (p := ⟨g, o + m * 4 + 3, none⟩) (rlt A3)]; exact A3⟩,
                    ⟨by rw [hV.cell (p := ⟨g', o', none⟩) (rlt c0)]; exact c0, by rw [hV.cell (p := ⟨g', o' + 1, none⟩) (rlt c1)]; exact c1, by rw [hV.cell (p := ⟨g', o' + 2, none⟩) (rlt c2)]; exact c2, by rw [hV.cell (p := ⟨g', o' + 3, none⟩) (rlt c3)]; exact c3⟩⟩
                obtain ⟨na, va, ca, rfl⟩ : ∃ x y z, pv = .slice x y z := by obtain ⟨x, z, e, _⟩ := hNa.1; exact ⟨x, _, z, e⟩
                obtain ⟨nc, vc, cc, rfl⟩ : ∃ x y z, pv' = .slice x y z := by obtain ⟨x, z, e, _⟩ := hNc.1; exact ⟨x, _, z, e⟩
                obtain ⟨x1, hx1⟩ : ∃ x, a.1 = x := ⟨_, rfl⟩
                obtain ⟨x2, hx2⟩ : ∃ x, a.2.1 = x := ⟨_, rfl⟩
                obtain ⟨x3, hx3⟩ : ∃ x, a.2.2.2 = x := ⟨_, rfl⟩
                rw [hx1, hx2, hx3] at HC HLK
                rw [List.length_cons] at hwc ⊢
                have HWI := Lib.hid hWI
                have hmi : (m : Int) < (n : Int) := by omega
                have hm0 : (0 : Int) ≤ (m : Int) := by omega
                obtain ⟨q, hq⟩ : ∃ q, rest.length = q := ⟨_, rfl⟩
                rw [hq] at hwc ⊢
                have HQL := Lib.hid hq
                have hq1 : (0 : Int) < ((q + 1 : Nat) : Int) := by omega
                have hq0 : (((q + 1 : Nat) : Int) == 0) = false := beq_false_of_ne (by omega)
                have hq2 : (1 : Int) ≤ ((q + 1 : Nat) : Int) := by omega
                have kk := Below.refl WJ.heap.size WJ
                have k0 : Below WJ.heap.size WJ WJ.drew := kk.drew
                obtain ⟨⟨p0, p1, p2, p3⟩, q0, q1', q2', q3⟩ := HC.out WJ kk
                clear hx1 hx2 hx3 ha a0 a1 a2 a3 c0 c1 c2 c3 A0 A1 A2 A3 hNa hNa' hNc hsm hLa hWI hq hWJ
                go_wp2_with fail
                go_region_held3 (fun V => (V.cell? ⟨g, o + m * 4, none⟩ = some (.int .i64 (x1 : Int)) ∧ V.cell? ⟨g, o + m * 4 + 1, none⟩ = some (.int .i32 (x2 : Int)) ∧ V.cell? ⟨g, o + m * 4 + 2, none⟩ = some (.slice na va ca) ∧ V.cell? ⟨g, o + m * 4 + 3, none⟩ = some (.int .u8 (x3 : Int))) ∧ (V.cell? ⟨g', o', none⟩ = some (.int .i64 (x1 : Int)) ∧ V.cell? ⟨g', o' + 1, none⟩ = some (.int .i32 (x2 : Int)) ∧ V.cell? ⟨g', o' + 2, none⟩ = some (.slice nc vc cc) ∧ V.cell? ⟨g', o' + 3, none⟩ = some (.int .u8 (x3 : Int))))
                  (first | with_reducible exact HC.out _ kk | with_reducible exact HC.out _ k0)
                  (first
                    | (go_at_call 11; go_fit (HLK.out _ ?_); (first | with_reducible exact kk | with_reducible exact k0); rintro e vv ⟨rfl, kk⟩))
                all_goals
                  clear HC HLK p0 p1 p2 p3 q0 q1' q2' q3
                  go_wp2_with fail
                  go_roundw
                  case rel =>
                    refine ⟨m + 1, by go_num, by omega, ?_, hbi.trans (kk.mono hbi.size)⟩
                    rw [show L.drop (acc.length + (m + 1)) = rest from by rw [← Nat.add_assoc]; exact hrest]
                    have h := ActsW.rest (A := if wc = 1 then some ⟨g', o', none⟩ else some ⟨g', o' + 4, none⟩) (c2 := wc - 1) (HWI.out.below kk) (by rw [HQL.out]; omega) (fun g2 o2 e => by
                      cases e
                      refine ⟨fun b hb => ?_, fun h0 => ?_⟩
                      · split at hb <;> (cases hb; rfl)
                      · rw [if_neg (by rw [HQL.out] at h0; omega)])
                    rw [HQL.out] at h
                    exact h
                  case measure => simp [intOf]; omega
              · obtain rfl : m = n := by omega
                have hB9 := F6.below hbi
                have hbw9 := hb8.trans (hbi.mono hb8.size)
                have hlen : (acc ++ G.2).length = acc.length + m := by rw [List.length_append, HNN.out]
                clear HL1 hbi F6 hb8
                go_wp2_with fail
                go_roundw
                case rel => exact ⟨k + 1, G.1, acc ++ G.2, by go_num, by omega, hrt, hok2, by rw [hn2, hz2]; exact hB9, by rw [hlen]; exact hWI, hbw9⟩
                case measure => simp [intOf]; omega
          · obtain ⟨F1, F3, F4'⟩ := box_mid (w := wr) (w1 := vv) (Q := wr.heap.size) (.int .i64 n2) (.string z2) HQ2.out (Nat.le_refl _) kk hA
            have F4 := acts_from F4' (Nat.le_succ wr.heap.size)
            have hQw : wr.heap.size ≤ wr.heap.size := Nat.le_refl _
            clear F4' c0 c1 z0 z1 HQ2
            have F2 := hB.below F3
            have hbw5 : Below w.heap.size w ((vv.setCell ⟨wr.heap.size, 0, none⟩ (.int .i64 n2)).setCell ⟨wr.heap.size, 1, none⟩ (.string z2)) := hbr.trans (F3.mono hbr.size)
            have hs5 : wr.heap.size ≤ (((vv.setCell ⟨wr.heap.size, 0, none⟩ (.int .i64 n2)).setCell ⟨wr.heap.size, 1, none⟩ (.string z2))).heap.size := F3.size
            obtain ⟨W5, hW5⟩ : ∃ W5, ((vv.setCell ⟨wr.heap.size, 0, none⟩ (.int .i64 n2)).setCell ⟨wr.heap.size, 1, none⟩ (.string z2)) = W5 := ⟨_, rfl⟩
            rw [hW5] at F1 F2 F3 F4 hbw5 hs5 ⊢
            obtain ⟨Q, hQ⟩ : ∃ Q, wr.heap.size = Q := ⟨_, rfl⟩
            rw [hQ] at F1 ⊢
            have hQw : wr.heap.size ≤ Q := Nat.le_of_eq hQ
            clear hW5 kk k0 p0 p1 HC HCS HFa HF2 hA
            obtain ⟨⟨c0, c1⟩, _⟩ := F1.cells
            obtain ⟨⟨x0, x1⟩, z0, z1⟩ := F2.cells
            have kp : KeepW (fun k => k ≠ R) W5 ((W5.setCell ⟨R, 0, none⟩ (.int .i64 n2)).setCell ⟨R, 1, none⟩ (.string z2)) := (keep_set (R) 0 none _ W5 (fun h => h rfl)).trans (keep_set (R) 1 none _ _ (fun h => h rfl))
            have hb8 : Below w.heap.size w _ := KeepW.below hbw5 kp hbw5.size (fun k hk => by omega)
            have F6 := ((F2.set0 (.int .i64 n2)).set1 (.string z2))
            have kp2 : KeepW (FromP (R + 1)) W5 ((W5.setCell ⟨R, 0, none⟩ (.int .i64 n2)).setCell ⟨R, 1, none⟩ (.string z2)) := kp.mono fun k _ hk => by
              have h : R + 1 ≤ k := hk
              show k ≠ R
              omega
            have hWT8 := (hWT.below F3).keep kp2
            have hA8 := (acts_from F4 hlt0).keep kp2
            obtain ⟨W8, hW8⟩ : ∃ W8, (W5.setCell ⟨R, 0, none⟩ (.int .i64 n2)).setCell ⟨R, 1, none⟩ (.string z2) = W8 := ⟨_, rfl⟩
            rw [hW8] at hb8 F6 hWT8 hA8
            have HW8 := Lib.hid hW8
            clear F1 F2 F3 F4 hbw5 kp kp2 hs5 hQw hB hW8 hWT
            go_wp2_with fail
            rw [HW8.out]
            obtain ⟨l1, lc1, rfl, _⟩ := hA8.form
            have HL1 := Lib.hid hA8
            obtain ⟨n, hn⟩ : ∃ n, G.2.length = n := ⟨_, rfl⟩
            rw [hn] at HL1 hl2 ⊢
            have HNN := Lib.hid hn
            have HSG := Lib.hid hsmall
            clear hA8 hn hsmall HW8
            go_loopw [11, 15] (fun v j wi => ∃ m : Nat, j = .int .i64 (m : Int) ∧ m ≤ n ∧ ActsW (FromP (R + 1)) wi v (L.drop (acc.length + m)) ∧ Below W8.heap.size W8 wi) (fun _ j _ => n - (intOf j).toNat)
            case atStart => exact ⟨0, rfl, Nat.zero_le _, hWT8, Below.refl _ _⟩
            case round =>
              clear hWT8
              obtain ⟨m, rfl, hm, hWI, hbi⟩ := hrel
              by_cases hmn : m < n
              · obtain ⟨a, ha⟩ : ∃ a, G.2[m]? = some a := ⟨_, List.getElem?_eq_getElem (by rw [HNN.out]; exact hmn)⟩
                have hLa : L[acc.length + m]? = some a := by rw [hLD.out, drop_at acc G.2 rr m (by rw [HNN.out]; exact hmn)]; exact ha
                have hdh := drop_head L _ a hLa
                rw [hdh] at hWI
                obtain ⟨rest, hrest⟩ : ∃ rest, L.drop (acc.length + m + 1) = rest := ⟨_, rfl⟩
                rw [hrest] at hWI
                obtain ⟨g, o, _, pv, e1, _, a0, a1, a2, a3, hNa⟩ := HL1.out.at4 ha
                obtain ⟨g', o', wc, pv', e2, hwc, c0, c1, c2, c3, hNc⟩ := hWI.at4 (i := 0) rfl
                simp only [Nat.zero_mul, Nat.add_zero] at c0 c1 c2 c3
                rw [HNN.out] at e1
                cases e1
                subst e2
                have hsm := HSG.out a (List.mem_of_getElem? ha)
                replace a0 := a0
                have A0 := hbi.cell (p := ⟨g, o + m * 4, none⟩) (rlt a0)
                have A1 := hbi.cell (p := ⟨g, o + m * 4 + 1, none⟩) (rlt a1)
                have A2 := hbi.cell (p := ⟨g, o + m * 4 + 2, none⟩) (rlt a2)
                have A3 := hbi.cell (p := ⟨g, o + m * 4 + 3, none⟩) (rlt a3)
                rw [a0] at A0
                rw [a1] at A1
                rw [a2] at A2
                rw [a3] at A3
                obtain ⟨WJ, hWJ⟩ : ∃ W, wr = W := ⟨_, rfl⟩
                rw [hWJ] at hWI hbi c0 c1 c2 c3 hNc A0 A1 A2 A3 ⊢
                have hNa' := hNa.keep (keep_below _ hbi)
                have HLK : Hid (∀ V, Below WJ.heap.size WJ V → Calls Tryd.prog 11 #[.agg #[.int .i64 (a.1 : Int), .int .i32 (a.2.1 : Int), pv, .int .u8 (a.2.2.2 : Int)], .agg #[.int .i64 (a.1 : Int), .int .i32 (a.2.1 : Int), pv', .int .u8 (a.2.2.2 : Int)]] V fun e w' => e = .returned (.bool true) ∧ Below WJ.heap.size WJ w') := fun V hV => (like_any a a pv pv' V (hNa'.keep (keep_below _ hV)) (hNc.keep (keep_below _ hV)) (by omega)).mono fun e u ⟨h1, h2⟩ => ⟨by rw [h1, decide_eq_true rfl], hV.trans (h2.mono hV.size)⟩
                have HC : Hid (∀ V, Below WJ.heap.size WJ V → (V.cell? ⟨g, o + m * 4, none⟩ = some (.int .i64 (a.1 : Int)) ∧ V.cell? ⟨g, o + m * 4 + 1, none⟩ = some (.int .i32 (a.2.1 : Int)) ∧ V.cell? ⟨g, o + m * 4 + 2, none⟩ = some pv ∧ V.cell? ⟨g, o + m * 4 + 3, none⟩ = some (.int .u8 (a.2.2.2 : Int))) ∧ (V.cell? ⟨g', o', none⟩ = some (.int .i64 (a.1 : Int)) ∧ V.cell? ⟨g', o' + 1, none⟩ = some (.int .i32 (a.2.1 : Int)) ∧ V.cell? ⟨g', o' + 2, none⟩ = some pv' ∧ V.cell? ⟨g', o' + 3, none⟩ = some (.int .u8 (a.2.2.2 : Int)))) := fun V hV =>
                  ⟨⟨by rw [hV.cell (p := ⟨g, o + m * 4, none⟩) (rlt A0)]; exact A0, by rw [hV.cell (p := ⟨g, o + m * 4 + 1, none⟩) (rlt A1)]; exact A1, by rw [hV.cell (p := ⟨g, o + m * 4 + 2, none⟩) (rlt A2)]; exact A2, by rw [hV.cell (p := ⟨g, o + m * 4 + 3, none⟩) (rlt A3)]; exact A3⟩,
                    ⟨by rw [hV.cell (p := ⟨g', o', none⟩) (rlt c0)]; exact c0, by rw [hV.cell (p := ⟨g', o' + 1, none⟩) (rlt c1)]; exact c1, by rw [hV.cell (p := ⟨g', o' + 2, none⟩) (rlt c2)]; exact c2, by rw [hV.cell (p := ⟨g', o' + 3, none⟩) (rlt c3)]; exact c3⟩⟩
                obtain ⟨na, va, ca, rfl⟩ : ∃ x y z, pv = .slice x y z := by obtain ⟨x, z, e, _⟩ := hNa.1; exact ⟨x, _, z, e⟩
                obtain ⟨nc, vc, cc, rfl⟩ : ∃ x y z, pv' = .slice x y z := by obtain ⟨x, z, e, _⟩ := hNc.1; exact ⟨x, _, z, e⟩
                obtain ⟨x1, hx1⟩ : ∃ x, a.1 = x := ⟨_, rfl⟩
                obtain ⟨x2, hx2⟩ : ∃ x, a.2.1 = x := ⟨_, rfl⟩
                obtain ⟨x3, hx3⟩ : ∃ x, a.2.2.2 = x := ⟨_, rfl⟩
                rw [hx1, hx2, hx3] at HC HLK
                rw [List.length_cons] at hwc ⊢
                have HWI := Lib.hid hWI
                have hmi : (m : Int) < (n : Int) := by omega
                have hm0 : (0 : Int) ≤ (m : Int) := by omega
                obtain ⟨q, hq⟩ : ∃ q, rest.length = q := ⟨_, rfl⟩
                rw [hq] at hwc ⊢
                have HQL := Lib.hid hq
                have hq1 : (0 : Int) < ((q + 1 : Nat) : Int) := by omega
                have hq0 : (((q + 1 : Nat) : Int) == 0) = false := beq_false_of_ne (by omega)
                have hq2 : (1 : Int) ≤ ((q + 1 : Nat) : Int) := by omega
                have kk := Below.refl WJ.heap.size WJ
                have k0 : Below WJ.heap.size WJ WJ.drew := kk.drew
                obtain ⟨⟨p0, p1, p2, p3⟩, q0, q1', q2', q3⟩ := HC.out WJ kk
                clear hx1 hx2 hx3 ha a0 a1 a2 a3 c0 c1 c2 c3 A0 A1 A2 A3 hNa hNa' hNc hsm hLa hWI hq hWJ
                go_wp2_with fail
                go_region_held3 (fun V => (V.cell? ⟨g, o + m * 4, none⟩ = some (.int .i64 (x1 : Int)) ∧ V.cell? ⟨g, o + m * 4 + 1, none⟩ = some (.int .i32 (x2 : Int)) ∧ V.cell? ⟨g, o + m * 4 + 2, none⟩ = some (.slice na va ca) ∧ V.cell? ⟨g, o + m * 4 + 3, none⟩ = some (.int .u8 (x3 : Int))) ∧ (V.cell? ⟨g', o', none⟩ = some (.int .i64 (x1 : Int)) ∧ V.cell? ⟨g', o' + 1, none⟩ = some (.int .i32 (x2 : Int)) ∧ V.cell? ⟨g', o' + 2, none⟩ = some (.slice nc vc cc) ∧ V.cell? ⟨g', o' + 3, none⟩ = some (.int .u8 (x3 : Int))))
                  (first | with_reducible exact HC.out _ kk | with_reducible exact HC.out _ k0)
                  (first
                    | (go_at_call 11; go_fit (HLK.out _ ?_); (first | with_reducible exact kk | with_reducible exact k0); rintro e vv ⟨rfl, kk⟩))
                all_goals
                  clear HC HLK p0 p1 p2 p3 q0 q1' q2' q3
                  go_wp2_with fail
                  go_roundw
                  case rel =>
                    refine ⟨m + 1, by go_num, by omega, ?_, hbi.trans (kk.mono hbi.size)⟩
                    rw [show L.drop (acc.length + (m + 1)) = rest from by rw [← Nat.add_assoc]; exact hrest]
                    have h := ActsW.rest (A := if wc = 1 then some ⟨g', o', none⟩ else some ⟨g', o' + 4, none⟩) (c2 := wc - 1) (HWI.out.below kk) (by rw [HQL.out]; omega) (fun g2 o2 e => by
                      cases e
                      refine ⟨fun b hb => ?_, fun h0 => ?_⟩
                      · split at hb <;> (cases hb; rfl)
                      · rw [if_neg (by rw [HQL.out] at h0; omega)])
                    rw [HQL.out] at h
                    exact h
                  case measure => simp [intOf]; omega
              · obtain rfl : m = n := by omega
                have hB9 := F6.below hbi
                have hbw9 := hb8.trans (hbi.mono hb8.size)
                have hlen : (acc ++ G.2).length = acc.length + m := by rw [List.length_append, HNN.out]
                clear HL1 hbi F6 hb8
                go_wp2_with fail
                go_roundw
                case rel => exact ⟨k + 1, G.1, acc ++ G.2, by go_num, by omega, hrt, hok2, by rw [hn2, hz2]; exact hB9, by rw [hlen]; exact hWI, hbw9⟩
                case measure => simp [intOf]; omega
          · obtain ⟨F1, F3, F4'⟩ := box_mid (w := wr) (w1 := vv) (Q := wr.heap.size) (.int .i64 n2) (.string z2) HQ2.out (Nat.le_refl _) kk hA
            have F4 := acts_from F4' (Nat.le_succ wr.heap.size)
            have hQw : wr.heap.size ≤ wr.heap.size := Nat.le_refl _
            clear F4' c0 c1 z0 z1 HQ2
            have F2 := hB.below F3
            have hbw5 : Below w.heap.size w ((vv.setCell ⟨wr.heap.size, 0, none⟩ (.int .i64 n2)).setCell ⟨wr.heap.size, 1, none⟩ (.string z2)) := hbr.trans (F3.mono hbr.size)
            have hs5 : wr.heap.size ≤ (((vv.setCell ⟨wr.heap.size, 0, none⟩ (.int .i64 n2)).setCell ⟨wr.heap.size, 1, none⟩ (.string z2))).heap.size := F3.size
            obtain ⟨W5, hW5⟩ : ∃ W5, ((vv.setCell ⟨wr.heap.size, 0, none⟩ (.int .i64 n2)).setCell ⟨wr.heap.size, 1, none⟩ (.string z2)) = W5 := ⟨_, rfl⟩
            rw [hW5] at F1 F2 F3 F4 hbw5 hs5 ⊢
            obtain ⟨Q, hQ⟩ : ∃ Q, wr.heap.size = Q := ⟨_, rfl⟩
            rw [hQ] at F1 ⊢
            have hQw : wr.heap.size ≤ Q := Nat.le_of_eq hQ
            clear hW5 kk k0 p0 p1 HC HCS HFa HF2 hA
            obtain ⟨⟨c0, c1⟩, _⟩ := F1.cells
            obtain ⟨⟨x0, x1⟩, z0, z1⟩ := F2.cells
            have kp : KeepW (fun k => k ≠ R) W5 ((W5.setCell ⟨R, 0, none⟩ (.int .i64 n2)).setCell ⟨R, 1, none⟩ (.string z2)) := (keep_set (R) 0 none _ W5 (fun h => h rfl)).trans (keep_set (R) 1 none _ _ (fun h => h rfl))
            have hb8 : Below w.heap.size w _ := KeepW.below hbw5 kp hbw5.size (fun k hk => by omega)
            have F6 := ((F2.set0 (.int .i64 n2)).set1 (.string z2))
            have kp2 : KeepW (FromP (R + 1)) W5 ((W5.setCell ⟨R, 0, none⟩ (.int .i64 n2)).setCell ⟨R, 1, none⟩ (.string z2)) := kp.mono fun k _ hk => by
              have h : R + 1 ≤ k := hk
              show k ≠ R
              omega
            have hWT8 := (hWT.below F3).keep kp2
            have hA8 := (acts_from F4 hlt0).keep kp2
            obtain ⟨W8, hW8⟩ : ∃ W8, (W5.setCell ⟨R, 0, none⟩ (.int .i64 n2)).setCell ⟨R, 1, none⟩ (.string z2) = W8 := ⟨_, rfl⟩
            rw [hW8] at hb8 F6 hWT8 hA8
            have HW8 := Lib.hid hW8
            clear F1 F2 F3 F4 hbw5 kp kp2 hs5 hQw hB hW8 hWT
            go_wp2_with fail
            rw [HW8.out]
            obtain ⟨l1, lc1, rfl, _⟩ := hA8.form
            have HL1 := Lib.hid hA8
            obtain ⟨n, hn⟩ : ∃ n, G.2.length = n := ⟨_, rfl⟩
            rw [hn] at HL1 hl2 ⊢
            have HNN := Lib.hid hn
            have HSG := Lib.hid hsmall
            clear hA8 hn hsmall HW8
            go_loopw [11, 15] (fun v j wi => ∃ m : Nat, j = .int .i64 (m : Int) ∧ m ≤ n ∧ ActsW (FromP (R + 1)) wi v (L.drop (acc.length + m)) ∧ Below W8.heap.size W8 wi) (fun _ j _ => n - (intOf j).toNat)
            case atStart => exact ⟨0, rfl, Nat.zero_le _, hWT8, Below.refl _ _⟩
            case round =>
              clear hWT8
              obtain ⟨m, rfl, hm, hWI, hbi⟩ := hrel
              by_cases hmn : m < n
              · obtain ⟨a, ha⟩ : ∃ a, G.2[m]? = some a := ⟨_, List.getElem?_eq_getElem (by rw [HNN.out]; exact hmn)⟩
                have hLa : L[acc.length + m]? = some a := by rw [hLD.out, drop_at acc G.2 rr m (by rw [HNN.out]; exact hmn)]; exact ha
                have hdh := drop_head L _ a hLa
                rw [hdh] at hWI
                obtain ⟨rest, hrest⟩ : ∃ rest, L.drop (acc.length + m + 1) = rest := ⟨_, rfl⟩
                rw [hrest] at hWI
                obtain ⟨g, o, _, pv, e1, _, a0, a1, a2, a3, hNa⟩ := HL1.out.at4 ha
                obtain ⟨g', o', wc, pv', e2, hwc, c0, c1, c2, c3, hNc⟩ := hWI.at4 (i := 0) rfl
                simp only [Nat.zero_mul, Nat.add_zero] at c0 c1 c2 c3
                rw [HNN.out] at e1
                cases e1
                subst e2
                have hsm := HSG.out a (List.mem_of_getElem? ha)
                replace a0 := a0
                have A0 := hbi.cell (p := ⟨g, o + m * 4, none⟩) (rlt a0)
                have A1 := hbi.cell (p := ⟨g, o + m * 4 + 1, none⟩) (rlt a1)
                have A2 := hbi.cell (p := ⟨g, o + m * 4 + 2, none⟩) (rlt a2)
                have A3 := hbi.cell (p := ⟨g, o + m * 4 + 3, none⟩) (rlt a3)
                rw [a0] at A0
                rw [a1] at A1
                rw [a2] at A2
                rw [a3] at A3
                obtain ⟨WJ, hWJ⟩ : ∃ W, wr = W := ⟨_, rfl⟩
                rw [hWJ] at hWI hbi c0 c1 c2 c3 hNc A0 A1 A2 A3 ⊢
                have hNa' := hNa.keep (keep_below _ hbi)
                have HLK : Hid (∀ V, Below WJ.heap.size WJ V → Calls Tryd.prog 11 #[.agg #[.int .i64 (a.1 : Int), .int .i32 (a.2.1 : Int), pv, .int .u8 (a.2.2.2 : Int)], .agg #[.int .i64 (a.1 : Int), .int .i32 (a.2.1 : Int), pv', .int .u8 (a.2.2.2 : Int)]] V fun e w' => e = .returned (.bool true) ∧ Below WJ.heap.size WJ w') := fun V hV => (like_any a a pv pv' V (hNa'.keep (keep_below _ hV)) (hNc.keep (keep_below _ hV)) (by omega)).mono fun e u ⟨h1, h2⟩ => ⟨by rw [h1, decide_eq_true rfl], hV.trans (h2.mono hV.size)⟩
                have HC : Hid (∀ V, Below WJ.heap.size WJ V → (V.cell? ⟨g, o + m * 4, none⟩ = some (.int .i64 (a.1 : Int)) ∧ V.cell? ⟨g, o + m * 4 + 1, none⟩ = some (.int .i32 (a.2.1 : Int)) ∧ V.cell? ⟨g, o + m * 4 + 2, none⟩ = some pv ∧ V.cell? ⟨g, o + m * 4 + 3, none⟩ = some (.int .u8 (a.2.2.2 : Int))) ∧ (V.cell? ⟨g', o', none⟩ = some (.int .i64 (a.1 : Int)) ∧ V.cell? ⟨g', o' + 1, none⟩ = some (.int .i32 (a.2.1 : Int)) ∧ V.cell? ⟨g', o' + 2, none⟩ = some pv' ∧ V.cell? ⟨g', o' + 3, none⟩ = some (.int .u8 (a.2.2.2 : Int)))) := fun V hV =>
                  ⟨⟨by rw [hV.cell (p := ⟨g, o + m * 4, none⟩) (rlt A0)]; exact A0, by rw [hV.cell (p := ⟨g, o + m * 4 + 1, none⟩) (rlt A1)]; exact A1, by rw [hV.cell (p := ⟨g, o + m * 4 + 2, none⟩) (rlt A2)]; exact A2, by rw [hV.cell (p := ⟨g, o + m * 4 + 3, none⟩) (rlt A3)]; exact A3⟩,
                    ⟨by rw [hV.cell (p := ⟨g', o', none⟩) (rlt c0)]; exact c0, by rw [hV.cell (p := ⟨g', o' + 1, none⟩) (rlt c1)]; exact c1, by rw [hV.cell (p := ⟨g', o' + 2, none⟩) (rlt c2)]; exact c2, by rw [hV.cell (p := ⟨g', o' + 3, none⟩) (rlt c3)]; exact c3⟩⟩
                obtain ⟨na, va, ca, rfl⟩ : ∃ x y z, pv = .slice x y z := by obtain ⟨x, z, e, _⟩ := hNa.1; exact ⟨x, _, z, e⟩
                obtain ⟨nc, vc, cc, rfl⟩ : ∃ x y z, pv' = .slice x y z := by obtain ⟨x, z, e, _⟩ := hNc.1; exact ⟨x, _, z, e⟩
                obtain ⟨x1, hx1⟩ : ∃ x, a.1 = x := ⟨_, rfl⟩
                obtain ⟨x2, hx2⟩ : ∃ x, a.2.1 = x := ⟨_, rfl⟩
                obtain ⟨x3, hx3⟩ : ∃ x, a.2.2.2 = x := ⟨_, rfl⟩
                rw [hx1, hx2, hx3] at HC HLK
                rw [List.length_cons] at hwc ⊢
                have HWI := Lib.hid hWI
                have hmi : (m : Int) < (n : Int) := by omega
                have hm0 : (0 : Int) ≤ (m : Int) := by omega
                obtain ⟨q, hq⟩ : ∃ q, rest.length = q := ⟨_, rfl⟩
                rw [hq] at hwc ⊢
                have HQL := Lib.hid hq
                have hq1 : (0 : Int) < ((q + 1 : Nat) : Int) := by omega
                have hq0 : (((q + 1 : Nat) : Int) == 0) = false := beq_false_of_ne (by omega)
                have hq2 : (1 : Int) ≤ ((q + 1 : Nat) : Int) := by omega
                have kk := Below.refl WJ.heap.size WJ
                have k0 : Below WJ.heap.size WJ WJ.drew := kk.drew
                obtain ⟨⟨p0, p1, p2, p3⟩, q0, q1', q2', q3⟩ := HC.out WJ kk
                clear hx1 hx2 hx3 ha a0 a1 a2 a3 c0 c1 c2 c3 A0 A1 A2 A3 hNa hNa' hNc hsm hLa hWI hq hWJ
                go_wp2_with fail
                go_region_held3 (fun V => (V.cell? ⟨g, o + m * 4, none⟩ = some (.int .i64 (x1 : Int)) ∧ V.cell? ⟨g, o + m * 4 + 1, none⟩ = some (.int .i32 (x2 : Int)) ∧ V.cell? ⟨g, o + m * 4 + 2, none⟩ = some (.slice na va ca) ∧ V.cell? ⟨g, o + m * 4 + 3, none⟩ = some (.int .u8 (x3 : Int))) ∧ (V.cell? ⟨g', o', none⟩ = some (.int .i64 (x1 : Int)) ∧ V.cell? ⟨g', o' + 1, none⟩ = some (.int .i32 (x2 : Int)) ∧ V.cell? ⟨g', o' + 2, none⟩ = some (.slice nc vc cc) ∧ V.cell? ⟨g', o' + 3, none⟩ = some (.int .u8 (x3 : Int))))
                  (first | with_reducible exact HC.out _ kk | with_reducible exact HC.out _ k0)
                  (first
                    | (go_at_call 11; go_fit (HLK.out _ ?_); (first | with_reducible exact kk | with_reducible exact k0); rintro e vv ⟨rfl, kk⟩))
                all_goals
                  clear HC HLK p0 p1 p2 p3 q0 q1' q2' q3
                  go_wp2_with fail
                  go_roundw
                  case rel =>
                    refine ⟨m + 1, by go_num, by omega, ?_, hbi.trans (kk.mono hbi.size)⟩
                    rw [show L.drop (acc.length + (m + 1)) = rest from by rw [← Nat.add_assoc]; exact hrest]
                    have h := ActsW.rest (A := if wc = 1 then some ⟨g', o', none⟩ else some ⟨g', o' + 4, none⟩) (c2 := wc - 1) (HWI.out.below kk) (by rw [HQL.out]; omega) (fun g2 o2 e => by
                      cases e
                      refine ⟨fun b hb => ?_, fun h0 => ?_⟩
                      · split at hb <;> (cases hb; rfl)
                      · rw [if_neg (by rw [HQL.out] at h0; omega)])
                    rw [HQL.out] at h
                    exact h
                  case measure => simp [intOf]; omega
              · obtain rfl : m = n := by omega
                have hB9 := F6.below hbi
                have hbw9 := hb8.trans (hbi.mono hb8.size)
                have hlen : (acc ++ G.2).length = acc.length + m := by rw [List.length_append, HNN.out]
                clear HL1 hbi F6 hb8
                go_wp2_with fail
                go_roundw
                case rel => exact ⟨k + 1, G.1, acc ++ G.2, by go_num, by omega, hrt, hok2, by rw [hn2, hz2]; exact hB9, by rw [hlen]; exact hWI, hbw9⟩
                case measure => simp [intOf]; omega
        · obtain rfl : k = t.size := by omega
          have hq := HQ.out
          rw [HEN.out] at hq
          have hl := HLL.out
          rw [hq] at hl
          have hd : L.drop acc.length = [] := by rw [← hl]; exact List.drop_length
          rw [hd] at hWT
          obtain ⟨wo, wc, e2, _⟩ := hWT.form
          subst e2
          have HA := Lib.hid (HASK.out wr hbr)
          clear HFD hB HTO HQ hq hl hd hWT
          go_wp2_with fail
          go_fit HA.out
          rintro e w9 ⟨rfl, hb9⟩
          go_wp2_with fail
          go_ret
          exact ⟨rfl, hbr.trans (hb9.mono hbr.size)⟩

theorem few_any (s t : ByteArray) (w : World) (hP : LaidP w) :
    Calls Tryd.prog 6 #[.string s, .string t] w fun e w' => e = .returned (.bool true) ∧ Below w.heap.size w w' := by
  by_cases h : 300 < s.size ∨ 300 < t.size
  · exact parserFew_far s t w hP h
  · exact parserFew_near s t w hP (by omega) (by omega)
end Go.Proofs.YtbpnnnjbddjboaaDoor
