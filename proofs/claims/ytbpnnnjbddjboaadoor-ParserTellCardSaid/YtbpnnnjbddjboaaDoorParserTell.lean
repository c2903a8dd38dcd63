/-
  ParserTell: what any bytes ask for, one by one, is the document's: the law's walk: it returns true.
-/
import Derived.Test.YtbpnnnjbddjboaaDoorPsAsked
import Derived.Test.YtbpnnnjbddjboaaDoorPsRefT
namespace Go.Proofs.YtbpnnnjbddjboaaDoor
open Go.RowKit

set_option maxHeartbeats 2000000 in
theorem parserTell_far (s : ByteArray) (w : World) (hP : LaidP w) (h : 2000 < s.size) :
    Calls Tryd.prog 3 #[.string s] w fun e w' => e = .returned (.bool true) ∧ Below w.heap.size w w' := by
  have H := Lib.hid (asked_any w hP)
  have hi : (2000 : Int) < (s.size : Int) := by omega
  clear hP
  go_enter Tryd.func3, Tryd.ntmps3
  go_wp2_with fail
  go_fit H.out
  rintro e w1 ⟨rfl, hb⟩
  go_wp2_with fail
  go_ret
  exact ⟨rfl, hb⟩

set_option maxRecDepth 20000 in
set_option maxHeartbeats 16000000 in
theorem parserTell_near (s : ByteArray) (w : World) (hP : LaidP w) (hs : s.size ≤ 2000) :
    Calls Tryd.prog 3 #[.string s] w fun e w' => e = .returned (.bool true) ∧ Below w.heap.size w w' := by
  have hsi : (s.size : Int) ≤ 2000 := by omega
  have HASK := Lib.hid (fun W (hW : Below w.heap.size w W) => asked_any W (hP.below hW))
  have HBT := Lib.hid (fun k (hk : k < s.size) => (show (s[k].toNat : Int) = (bt s k : Int) by unfold bt; rw [show s.get! k = s[k] from get_at s k hk]))
  have HRF := Lib.hid (fun p T b W (hb : b < 256) (hk : OkP p) (hT : RelT p T) (hs : T.size ≤ 10000) => rfeed_any p T b W hb hk hT hs)
  have HFD := Lib.hid (fun p b W (hb : b < 256) (hk : OkP p) (hW : Below w.heap.size w W) => fed_letters (feed_any p b W hb (hP.below hW) hk) rfl rfl rfl)
  have HW0 : Hid (Below w.heap.size w (w.alloc (.cells #[.int .i64 0, .string ⟨#[]⟩] 24)) ∧ (w.alloc (.cells #[.int .i64 0, .string ⟨#[]⟩] 24)).heap.size = w.heap.size + 1 ∧ blk2 (w.alloc (.cells #[.int .i64 0, .string ⟨#[]⟩] 24)) w.heap.size (.int .i64 0) (.string ⟨#[]⟩)) := box_new w _ _
  clear hP
  go_enter Tryd.func3, Tryd.ntmps3
  go_wp2_with fail
  obtain ⟨a1, a2, a3⟩ := HW0.out
  go_loopw [4, 5] (fun t i wr => ∃ (k : Nat) (p : Ps) (T : ByteArray), i = .int .i64 (k : Int) ∧ t = .string T ∧ k ≤ s.size ∧ T.size ≤ k ∧ RelT p T ∧ OkP p ∧ blk2 wr w.heap.size (.int .i64 (stN p)) (.string (stB p)) ∧ Below w.heap.size w wr) (fun _ i _ => s.size - (intOf i).toNat)
  case atStart => exact ⟨0, .zero, ⟨#[]⟩, rfl, rfl, Nat.zero_le _, Nat.le_refl _, rfl, trivial, a3, a1⟩
  case round =>
    clear a1 a2 a3 HW0
    obtain ⟨k, p, T, rfl, rfl, hk, hTk, hT, hok, hB, hbr⟩ := hrel
    by_cases hlt : k < s.size
    · have hbt := HBT.out k hlt
      have hb256 := bt_lt s k
      obtain ⟨b, hb⟩ : ∃ b, bt s k = b := ⟨_, rfl⟩
      rw [hb] at hbt hb256
      have HR1 := Lib.hid (fun W => HRF.out p T b W hb256 hok hT (by omega))
      have hok2 := ok_feed p b hok
      have hl2 := feed_two p b
      have hsmall := feed_small p b hok
      have HF := Lib.hid (fun W hW => HFD.out p b W hb256 hok hW)
      obtain ⟨G, hG⟩ : ∃ G, feedN p b = G := ⟨_, rfl⟩
      rw [hG] at HF HR1 hok2 hl2 hsmall
      obtain ⟨n1, hn1⟩ : ∃ n, stN p = n := ⟨_, rfl⟩
      obtain ⟨z1, hz1⟩ : ∃ z, stB p = z := ⟨_, rfl⟩
      have HF1 : Hid (∀ W, Below w.heap.size w W → Calls Tryd.prog 9 #[.agg #[.int .i64 n1, .string z1], .int .u8 (b : Int)] W fun e u => ∃ v, e = .returned (.tuple #[.agg #[.int .i64 (stN G.1), .string (stB G.1)], v]) ∧ ActsW (FromP W.heap.size) u v G.2 ∧ Below W.heap.size W u) := by rw [← hn1, ← hz1]; exact HF.out
      rw [hn1, hz1] at hB
      obtain ⟨n2, hn2⟩ : ∃ n, stN G.1 = n := ⟨_, rfl⟩
      obtain ⟨z2, hz2⟩ : ∃ z, stB G.1 = z := ⟨_, rfl⟩
      rw [hn2, hz2] at HF1
      have hki : (k : Int) < (s.size : Int) := by omega
      have hk0 : (0 : Int) ≤ (k : Int) := by omega
      have HC : Hid (∀ V, Below wr.heap.size wr V → V.cell? ⟨w.heap.size, 0, none⟩ = some (.int .i64 n1) ∧ V.cell? ⟨w.heap.size, 1, none⟩ = some (.string z1)) := fun V hV => (hB.below hV).cells.1
      have hlt0 := hB.lt
      have HCS := Lib.hid (fun V (hV : Below wr.heap.size wr V) x y => held_set (Q := wr.heap.size) x y (HC.out V hV) (by omega))
      have kk := Below.refl wr.heap.size wr
      have k0 : Below wr.heap.size wr wr.drew := kk.drew
      obtain ⟨p0, p1⟩ := HC.out wr kk
      have HF2 : Hid (∀ V, Below wr.heap.size wr V → Calls Tryd.prog 9 #[.agg #[.int .i64 n1, .string z1], .int .u8 (b : Int)] V fun e u => ∃ v, e = .returned (.tuple #[.agg #[.int .i64 n2, .string z2], v]) ∧ ActsW (FromP wr.heap.size) u v G.2 ∧ Below wr.heap.size wr u) := fun V hV => (HF1.out V (hbr.trans (hV.mono hbr.size))).mono fun e u ⟨v, h1, h2, h3⟩ => ⟨v, h1, acts_from h2 hV.size, hV.trans (h3.mono hV.size)⟩
      have HFa : Hid (∀ V, blk2 V wr.heap.size (.int .i64 0) (.string ⟨#[]⟩) → Below wr.heap.size wr V → Calls Tryd.prog 9 #[.agg #[.int .i64 n1, .string z1], .int .u8 (b : Int)] V fun e u => ∃ v, e = .returned (.tuple #[.agg #[.int .i64 n2, .string z2], v]) ∧ ActsW (FromP (wr.heap.size + 1)) u v G.2 ∧ Below wr.heap.size wr u ∧ (u.cell? ⟨wr.heap.size, 0, none⟩ = some (.int .i64 0) ∧ u.cell? ⟨wr.heap.size, 1, none⟩ = some (.string ⟨#[]⟩)) ∧ u.frozen? ⟨wr.heap.size, 0, none⟩ = false ∧ u.frozen? ⟨wr.heap.size, 1, none⟩ = false ∧ Hid (blk2 u wr.heap.size (.int .i64 0) (.string ⟨#[]⟩))) := fun V hq hV => (HF1.out V (hbr.trans (hV.mono hbr.size))).mono fun e u ⟨v, h1, h2, h3⟩ => ⟨v, h1, acts_from h2 hq.lt, hV.trans (h3.mono hV.size), (hq.below h3).cells.1, (hq.below h3).cells.2.1, (hq.below h3).cells.2.2, hq.below h3⟩
      clear HF HF1 HFD HRF hb hG hn1 hz1
      go_wp2_with fail
      go_region_held3 (fun V => V.cell? ⟨w.heap.size, 0, none⟩ = some (.int .i64 n1) ∧ V.cell? ⟨w.heap.size, 1, none⟩ = some (.string z1))
        (first | with_reducible exact HC.out _ kk | with_reducible exact HC.out _ k0 | with_reducible exact HC.out _ (below_alloc kk) | with_reducible exact HC.out _ (below_drew2 _ _) | with_reducible exact HCS.out _ kk _ _)
        (first
          | (go_at_call 9; go_fit (HFa.out _ ?_ ?_); (first | with_reducible exact blk2.new _ _ _ | with_reducible exact blk2_drew _ _ _); (first | with_reducible exact kk | with_reducible exact below_alloc kk | with_reducible exact k0 | with_reducible exact below_drew2 _ _); rintro e vv ⟨v, rfl, hA, kk, ⟨c0, c1⟩, z0, z1, HQ2⟩)
          | (go_at_call 9; go_fit (HF2.out _ ?_); (first | with_reducible exact kk | with_reducible exact k0); rintro e vv ⟨v, rfl, hA, kk⟩))
      · have F1 : blk2 (vv.alloc (.cells #[.int .i64 n2, .string z2] 24)) vv.heap.size (.int .i64 n2) (.string z2) := blk2.new vv _ _
        have F3 : Below wr.heap.size wr (vv.alloc (.cells #[.int .i64 n2, .string z2] 24)) := below_alloc kk
        have F4 : ActsW (FromP wr.heap.size) (vv.alloc (.cells #[.int .i64 n2, .string z2] 24)) v G.2 := hA.below ((Below.refl _ _).alloc (Nat.le_refl _) _)
        have hQw : wr.heap.size ≤ vv.heap.size := kk.size
        have F2 := hB.below F3
        have hbw5 : Below w.heap.size w (vv.alloc (.cells #[.int .i64 n2, .string z2] 24)) := hbr.trans (F3.mono hbr.size)
        have hs5 : wr.heap.size ≤ ((vv.alloc (.cells #[.int .i64 n2, .string z2] 24))).heap.size := F3.size
        obtain ⟨W5, hW5⟩ : ∃ W5, (vv.alloc (.cells #[.int .i64 n2, .string z2] 24)) = W5 := ⟨_, rfl⟩
        rw [hW5] at F1 F2 F3 F4 hbw5 hs5 ⊢
        obtain ⟨Q, hQ⟩ : ∃ Q, vv.heap.size = Q := ⟨_, rfl⟩
        rw [hQ] at F1 hQw ⊢
        clear hW5 kk k0 p0 p1 HC HCS HFa HF2 hA
        go_wp2_with fail
        go_fit (HR1.out W5)
        rintro e W6 ⟨T2, v2, rfl, hT2, hT2s, hA2, hb6⟩
        have F1' := F1.below hb6
        have F2' := F2.below hb6
        have F4' := F4.below hb6
        have hbw6 := hbw5.trans (hb6.mono hbw5.size)
        obtain ⟨l1, lc1, rfl, _⟩ := F4'.form
        obtain ⟨l2, lc2, rfl, _⟩ := hA2.form
        have HL1 := Lib.hid F4'
        have HL2 := Lib.hid hA2
        obtain ⟨n, hn⟩ : ∃ n, G.2.length = n := ⟨_, rfl⟩
        rw [hn] at HL1 HL2 hl2 ⊢
        have HNN := Lib.hid hn
        have HSM := Lib.hid hsmall
        clear F1 F2 F3 F4 F4' hA2 hb6 hbw5 hs5 hn hsmall HR1
        go_wp2_with fail
        go_loopw [10] (fun j wr => ∃ m : Nat, j = .int .i64 (m : Int) ∧ m ≤ n ∧ Below W6.heap.size W6 wr) (fun j _ => n - (intOf j).toNat)
        case atStart => exact ⟨0, rfl, Nat.zero_le _, Below.refl _ _⟩
        case round =>
          obtain ⟨m, rfl, hm, hbi⟩ := hrel
          by_cases hmn : m < n
          · obtain ⟨a, ha⟩ : ∃ a, G.2[m]? = some a := ⟨_, List.getElem?_eq_getElem (by rw [HNN.out]; exact hmn)⟩
            obtain ⟨g, o, _, pv, e1, _, a0, a1, a2, a3, hNa⟩ := HL1.out.at4 ha
            obtain ⟨g', o', _, pv', e2, _, c0, c1, c2, c3, hNc⟩ := HL2.out.at4 ha
            rw [HNN.out] at e1 e2
            cases e1
            cases e2
            have hsm := HSM.out a (List.mem_of_getElem? ha)
            have HLK : Hid (∀ V, Below W6.heap.size W6 V → Calls Tryd.prog 11 #[.agg #[.int .i64 (a.1 : Int), .int .i32 (a.2.1 : Int), pv, .int .u8 (a.2.2.2 : Int)], .agg #[.int .i64 (a.1 : Int), .int .i32 (a.2.1 : Int), pv', .int .u8 (a.2.2.2 : Int)]] V fun e w' => e = .returned (.bool true) ∧ Below W6.heap.size W6 w') := fun V hV => (like_any a a pv pv' V (hNa.keep (keep_below _ hV)) (hNc.keep (keep_below _ hV)) (by omega)).mono fun e u ⟨h1, h2⟩ => ⟨by rw [h1, decide_eq_true rfl], hV.trans (h2.mono hV.size)⟩
            have HC : Hid (∀ V, Below W6.heap.size W6 V → (V.cell? ⟨g, o + m * 4, none⟩ = some (.int .i64 (a.1 : Int)) ∧ V.cell? ⟨g, o + m * 4 + 1, none⟩ = some (.int .i32 (a.2.1 : Int)) ∧ V.cell? ⟨g, o + m * 4 + 2, none⟩ = some pv ∧ V.cell? ⟨g, o + m * 4 + 3, none⟩ = some (.int .u8 (a.2.2.2 : Int))) ∧ (V.cell? ⟨g', o' + m * 4, none⟩ = some (.int .i64 (a.1 : Int)) ∧ V.cell? ⟨g', o' + m * 4 + 1, none⟩ = some (.int .i32 (a.2.1 : Int)) ∧ V.cell? ⟨g', o' + m * 4 + 2, none⟩ = some pv' ∧ V.cell? ⟨g', o' + m * 4 + 3, none⟩ = some (.int .u8 (a.2.2.2 : Int)))) := fun V hV =>
              ⟨⟨by rw [hV.cell (p := ⟨g, o + m * 4, none⟩) (rlt a0)]; exact a0, by rw [hV.cell (p := ⟨g, o + m * 4 + 1, none⟩) (rlt a1)]; exact a1, by rw [hV.cell (p := ⟨g, o + m * 4 + 2, none⟩) (rlt a2)]; exact a2, by rw [hV.cell (p := ⟨g, o + m * 4 + 3, none⟩) (rlt a3)]; exact a3⟩,
                ⟨by rw [hV.cell (p := ⟨g', o' + m * 4, none⟩) (rlt c0)]; exact c0, by rw [hV.cell (p := ⟨g', o' + m * 4 + 1, none⟩) (rlt c1)]; exact c1, by rw [hV.cell (p := ⟨g', o' + m * 4 + 2, none⟩) (rlt c2)]; exact c2, by rw [hV.cell (p := ⟨g', o' + m * 4 + 3, none⟩) (rlt c3)]; exact c3⟩⟩
            obtain ⟨na, va, ca, rfl⟩ : ∃ x y z, pv = .slice x y z := by obtain ⟨x, z, e, _⟩ := hNa.1; exact ⟨x, _, z, e⟩
            obtain ⟨nc, vc, cc, rfl⟩ : ∃ x y z, pv' = .slice x y z := by obtain ⟨x, z, e, _⟩ := hNc.1; exact ⟨x, _, z, e⟩
            obtain ⟨x1, hx1⟩ : ∃ x, a.1 = x := ⟨_, rfl⟩
            obtain ⟨x2, hx2⟩ : ∃ x, a.2.1 = x := ⟨_, rfl⟩
            obtain ⟨x3, hx3⟩ : ∃ x, a.2.2.2 = x := ⟨_, rfl⟩
            rw [hx1, hx2, hx3] at HC HLK
            have hmi : (m : Int) < (n : Int) := by omega
            have hm0 : (0 : Int) ≤ (m : Int) := by omega
            have kk := hbi
            have k0 : Below W6.heap.size W6 wr.drew := hbi.drew
            obtain ⟨⟨p0, p1, p2, p3⟩, q0, q1, q2, q3⟩ := HC.out wr kk
            clear hx1 hx2 hx3 ha a0 a1 a2 a3 c0 c1 c2 c3 hNa hNc hsm
            go_wp2_with fail
            go_region_held3 (fun V => (V.cell? ⟨g, o + m * 4, none⟩ = some (.int .i64 (x1 : Int)) ∧ V.cell? ⟨g, o + m * 4 + 1, none⟩ = some (.int .i32 (x2 : Int)) ∧ V.cell? ⟨g, o + m * 4 + 2, none⟩ = some (.slice na va ca) ∧ V.cell? ⟨g, o + m * 4 + 3, none⟩ = some (.int .u8 (x3 : Int))) ∧ (V.cell? ⟨g', o' + m * 4, none⟩ = some (.int .i64 (x1 : Int)) ∧ V.cell? ⟨g', o' + m * 4 + 1, none⟩ = some (.int .i32 (x2 : Int)) ∧ V.cell? ⟨g', o' + m * 4 + 2, none⟩ = some (.slice nc vc cc) ∧ V.cell? ⟨g', o' + m * 4 + 3, none⟩ = some (.int .u8 (x3 : Int))))
              (first | with_reducible exact HC.out _ kk | with_reducible exact HC.out _ k0)
              (first
                | (go_at_call 11; go_fit (HLK.out _ ?_); (first | with_reducible exact kk | with_reducible exact k0); rintro e vv ⟨rfl, kk⟩))
            all_goals
              clear HC HLK p0 p1 p2 p3 q0 q1 q2 q3
              go_wp2_with fail
              go_roundw
              case rel => exact ⟨m + 1, by go_num, by omega, kk⟩
              case measure => simp [intOf]; omega
          · obtain rfl : m = n := by omega
            have E1 := F1'.below hbi
            have E2 := F2'.below hbi
            have hbw7 := hbw6.trans (hbi.mono hbw6.size)
            obtain ⟨⟨c0, c1⟩, _⟩ := E1.cells
            obtain ⟨⟨x0, x1⟩, z0, z1⟩ := E2.cells
            have kp : KeepW (fun k => k ≠ w.heap.size) wr ((wr.setCell ⟨w.heap.size, 0, none⟩ (.int .i64 n2)).setCell ⟨w.heap.size, 1, none⟩ (.string z2)) := (keep_set w.heap.size 0 none _ wr (fun h => h rfl)).trans (keep_set w.heap.size 1 none _ _ (fun h => h rfl))
            have hb8 : Below w.heap.size w _ := KeepW.below hbw7 kp hbw7.size (fun k hk => by omega)
            have F6 := ((E2.set0 (.int .i64 n2)).set1 (.string z2))
            clear E1 E2 F1' F2' hbi HL1 HL2
            go_wp2_with fail
            go_roundw
            case rel => exact ⟨k + 1, G.1, T2, by go_num, rfl, by omega, by omega, hT2, hok2, by rw [hn2, hz2]; exact F6, hb8⟩
            case measure => simp [intOf]; omega
      · obtain ⟨F1, F3, F4'⟩ := box_mid (w := wr) (w1 := vv) (Q := wr.heap.size) (.int .i64 n2) (.string z2) HQ2.out (Nat.le_refl _) kk hA
        have F4 := acts_from F4' (Nat.le_succ wr.heap.size)
        have hQw : wr.heap.size ≤ wr.heap.size := Nat.le_refl _
        clear F4' c0 c1 z0 z1 HQ2
        have F2 := hB.below F3
        have hbw5 : Below w.heap.size w ((vv.setCell ⟨wr.heap.size, 0, none⟩ (.int .i64 n2)).setCell ⟨wr.heap.size, 1, none⟩ (.string z2)) := hbr.trans (F3.mono hbr.size)
        have hs5 : wr.heap.size ≤ (((vv.setCell ⟨wr.heap.size, 0, none⟩ (.int .i64 n2)).setCell ⟨wr.heap.size, 1, none⟩ (.string z2))).heap.size := F3.size
        obtain ⟨W5, hW5⟩ : ∃ W5, ((vv.setCell ⟨wr.heap.size, 0, none⟩ (.int .i64 n2)).setCell ⟨wr.heap.size, 1, none⟩ (.string z2)) = W5 := ⟨_, rfl⟩
        rw [hW5] at F1 F2 F3 F4 hbw5 hs5 ⊢
        obtain ⟨Q, hQ⟩ : ∃ Q, wr.heap.size = Q := ⟨_, rfl⟩
        rw [hQ] at F1 ⊢
        have hQw : wr.heap.size ≤ Q := Nat.le_of_eq hQ
        clear hW5 kk k0 p0 p1 HC HCS HFa HF2 hA
        go_wp2_with fail
        go_fit (HR1.out W5)
        rintro e W6 ⟨T2, v2, rfl, hT2, hT2s, hA2, hb6⟩
        have F1' := F1.below hb6
        have F2' := F2.below hb6
        have F4' := F4.below hb6
        have hbw6 := hbw5.trans (hb6.mono hbw5.size)
        obtain ⟨l1, lc1, rfl, _⟩ := F4'.form
        obtain ⟨l2, lc2, rfl, _⟩ := hA2.form
        have HL1 := Lib.hid F4'
        have HL2 := Lib.hid hA2
        obtain ⟨n, hn⟩ : ∃ n, G.2.length = n := ⟨_, rfl⟩
        rw [hn] at HL1 HL2 hl2 ⊢
        have HNN := Lib.hid hn
        have HSM := Lib.hid hsmall
        clear F1 F2 F3 F4 F4' hA2 hb6 hbw5 hs5 hn hsmall HR1
        go_wp2_with fail
        go_loopw [10] (fun j wr => ∃ m : Nat, j = .int .i64 (m : Int) ∧ m ≤ n ∧ Below W6.heap.size W6 wr) (fun j _ => n - (intOf j).toNat)
        case atStart => exact ⟨0, rfl, Nat.zero_le _, Below.refl _ _⟩
        case round =>
          obtain ⟨m, rfl, hm, hbi⟩ := hrel
          by_cases hmn : m < n
          · obtain ⟨a, ha⟩ : ∃ a, G.2[m]? = some a := ⟨_, List.getElem?_eq_getElem (by rw [HNN.out]; exact hmn)⟩
            obtain ⟨g, o, _, pv, e1, _, a0, a1, a2, a3, hNa⟩ := HL1.out.at4 ha
            obtain ⟨g', o', _, pv', e2, _, c0, c1, c2, c3, hNc⟩ := HL2.out.at4 ha
            rw [HNN.out] at e1 e2
            cases e1
            cases e2
            have hsm := HSM.out a (List.mem_of_getElem? ha)
            have HLK : Hid (∀ V, Below W6.heap.size W6 V → Calls Tryd.prog 11 #[.agg #[.int .i64 (a.1 : Int), .int .i32 (a.2.1 : Int), pv, .int .u8 (a.2.2.2 : Int)], .agg #[.int .i64 (a.1 : Int), .int .i32 (a.2.1 : Int), pv', .int .u8 (a.2.2.2 : Int)]] V fun e w' => e = .returned (.bool true) ∧ Below W6.heap.size W6 w') := fun V hV => (like_any a a pv pv' V (hNa.keep (keep_below _ hV)) (hNc.keep (keep_below _ hV)) (by omega)).mono fun e u ⟨h1, h2⟩ => ⟨by rw [h1, decide_eq_true rfl], hV.trans (h2.mono hV.size)⟩
            have HC : Hid (∀ V, Below W6.heap.size W6 V → (V.cell? ⟨g, o + m * 4, none⟩ = some (.int .i64 (a.1 : Int)) ∧ V.cell? ⟨g, o + m * 4 + 1, none⟩ = some (.int .i32 (a.2.1 : Int)) ∧ V.cell? ⟨g, o + m * 4 + 2, none⟩ = some pv ∧ V.cell? ⟨g, o + m * 4 + 3, none⟩ = some (.int .u8 (a.2.2.2 : Int))) ∧ (V.cell? ⟨g', o' + m * 4, none⟩ = some (.int .i64 (a.1 : Int)) ∧ V.cell? ⟨g', o' + m * 4 + 1, none⟩ = some (.int .i32 (a.2.1 : Int)) ∧ V.cell? ⟨g', o' + m * 4 + 2, none⟩ = some pv' ∧ V.cell? ⟨g', o' + m * 4 + 3, none⟩ = some (.int .u8 (a.2.2.2 : Int)))) := fun V hV =>
              ⟨⟨by rw [hV.cell (p := ⟨g, o + m * 4, none⟩) (rlt a0)]; exact a0, by rw [hV.cell (p := ⟨g, o + m * 4 + 1, none⟩) (rlt a1)]; exact a1, by rw [hV.cell (p := ⟨g, o + m * 4 + 2, none⟩) (rlt a2)]; exact a2, by rw [hV.cell (p := ⟨g, o + m * 4 + 3, none⟩) (rlt a3)]; exact a3⟩,
                ⟨by rw [hV.cell (p := ⟨g', o' + m * 4, none⟩) (rlt c0)]; exact c0, by rw [hV.cell (p := ⟨g', o' + m * 4 + 1, none⟩) (rlt c1)]; exact c1, by rw [hV.cell (p := ⟨g', o' + m * 4 + 2, none⟩) (rlt c2)]; exact c2, by rw [hV.cell (p := ⟨g', o' + m * 4 + 3, none⟩) (rlt c3)]; exact c3⟩⟩
            obtain ⟨na, va, ca, rfl⟩ : ∃ x y z, pv = .slice x y z := by obtain ⟨x, z, e, _⟩ := hNa.1; exact ⟨x, _, z, e⟩
            obtain ⟨nc, vc, cc, rfl⟩ : ∃ x y z, pv' = .slice x y z := by obtain ⟨x, z, e, _⟩ := hNc.1; exact ⟨x, _, z, e⟩
            obtain ⟨x1, hx1⟩ : ∃ x, a.1 = x := ⟨_, rfl⟩
            obtain ⟨x2, hx2⟩ : ∃ x, a.2.1 = x := ⟨_, rfl⟩
            obtain ⟨x3, hx3⟩ : ∃ x, a.2.2.2 = x := ⟨_, rfl⟩
            rw [hx1, hx2, hx3] at HC HLK
            have hmi : (m : Int) < (n : Int) := by omega
            have hm0 : (0 : Int) ≤ (m : Int) := by omega
            have kk := hbi
            have k0 : Below W6.heap.size W6 wr.drew := hbi.drew
            obtain ⟨⟨p0, p1, p2, p3⟩, q0, q1, q2, q3⟩ := HC.out wr kk
            clear hx1 hx2 hx3 ha a0 a1 a2 a3 c0 c1 c2 c3 hNa hNc hsm
            go_wp2_with fail
            go_region_held3 (fun V => (V.cell? ⟨g, o + m * 4, none⟩ = some (.int .i64 (x1 : Int)) ∧ V.cell? ⟨g, o + m * 4 + 1, none⟩ = some (.int .i32 (x2 : Int)) ∧ V.cell? ⟨g, o + m * 4 + 2, none⟩ = some (.slice na va ca) ∧ V.cell? ⟨g, o + m * 4 + 3, none⟩ = some (.int .u8 (x3 : Int))) ∧ (V.cell? ⟨g', o' + m * 4, none⟩ = some (.int .i64 (x1 : Int)) ∧ V.cell? ⟨g', o' + m * 4 + 1, none⟩ = some (.int .i32 (x2 : Int)) ∧ V.cell? ⟨g', o' + m * 4 + 2, none⟩ = some (.slice nc vc cc) ∧ V.cell? ⟨g', o' + m * 4 + 3, none⟩ = some (.int .u8 (x3 : Int))))
              (first | with_reducible exact HC.out _ kk | with_reducible exact HC.out _ k0)
              (first
                | (go_at_call 11; go_fit (HLK.out _ ?_); (first | with_reducible exact kk | with_reducible exact k0); rintro e vv ⟨rfl, kk⟩))
            all_goals
              clear HC HLK p0 p1 p2 p3 q0 q1 q2 q3
              go_wp2_with fail
              go_roundw
              case rel => exact ⟨m + 1, by go_num, by omega, kk⟩
              case measure => simp [intOf]; omega
          · obtain rfl : m = n := by omega
            have E1 := F1'.below hbi
            have E2 := F2'.below hbi
            have hbw7 := hbw6.trans (hbi.mono hbw6.size)
            obtain ⟨⟨c0, c1⟩, _⟩ := E1.cells
            obtain ⟨⟨x0, x1⟩, z0, z1⟩ := E2.cells
            have kp : KeepW (fun k => k ≠ w.heap.size) wr ((wr.setCell ⟨w.heap.size, 0, none⟩ (.int .i64 n2)).setCell ⟨w.heap.size, 1, none⟩ (.string z2)) := (keep_set w.heap.size 0 none _ wr (fun h => h rfl)).trans (keep_set w.heap.size 1 none _ _ (fun h => h rfl))
            have hb8 : Below w.heap.size w _ := KeepW.below hbw7 kp hbw7.size (fun k hk => by omega)
            have F6 := ((E2.set0 (.int .i64 n2)).set1 (.string z2))
            clear E1 E2 F1' F2' hbi HL1 HL2
            go_wp2_with fail
            go_roundw
            case rel => exact ⟨k + 1, G.1, T2, by go_num, rfl, by omega, by omega, hT2, hok2, by rw [hn2, hz2]; exact F6, hb8⟩
            case measure => simp [intOf]; omega
      · obtain ⟨F1, F3, F4'⟩ := box_mid (w := wr) (w1 := vv) (Q := wr.heap.size) (.int .i64 n2) (.string z2) HQ2.out (Nat.le_refl _) kk hA
        have F4 := acts_from F4' (Nat.le_succ wr.heap.size)
        have hQw : wr.heap.size ≤ wr.heap.size := Nat.le_refl _
        clear F4' c0 c1 z0 z1 HQ2
        have F2 := hB.below F3
        have hbw5 : Below w.heap.size w ((vv.setCell ⟨wr.heap.size, 0, none⟩ (.int .i64 n2)).setCell ⟨wr.heap.size, 1, none⟩ (.string z2)) := hbr.trans (F3.mono hbr.size)
        have hs5 : wr.heap.size ≤ (((vv.setCell ⟨wr.heap.size, 0, none⟩ (.int .i64 n2)).setCell ⟨wr.heap.size, 1, none⟩ (.string z2))).heap.size := F3.size
        obtain ⟨W5, hW5⟩ : ∃ W5, ((vv.setCell ⟨wr.heap.size, 0, none⟩ (.int .i64 n2)).setCell ⟨wr.heap.size, 1, none⟩ (.string z2)) = W5 := ⟨_, rfl⟩
        rw [hW5] at F1 F2 F3 F4 hbw5 hs5 ⊢
        obtain ⟨Q, hQ⟩ : ∃ Q, wr.heap.size = Q := ⟨_, rfl⟩
        rw [hQ] at F1 ⊢
        have hQw : wr.heap.size ≤ Q := Nat.le_of_eq hQ
        clear hW5 kk k0 p0 p1 HC HCS HFa HF2 hA
        go_wp2_with fail
        go_fit (HR1.out W5)
        rintro e W6 ⟨T2, v2, rfl, hT2, hT2s, hA2, hb6⟩
        have F1' := F1.below hb6
        have F2' := F2.below hb6
        have F4' := F4.below hb6
        have hbw6 := hbw5.trans (hb6.mono hbw5.size)
        obtain ⟨l1, lc1, rfl, _⟩ := F4'.form
        obtain ⟨l2, lc2, rfl, _⟩ := hA2.form
        have HL1 := Lib.hid F4'
        have HL2 := Lib.hid hA2
        obtain ⟨n, hn⟩ : ∃ n, G.2.length = n := ⟨_, rfl⟩
        rw [hn] at HL1 HL2 hl2 ⊢
        have HNN := Lib.hid hn
        have HSM := Lib.hid hsmall
        clear F1 F2 F3 F4 F4' hA2 hb6 hbw5 hs5 hn hsmall HR1
        go_wp2_with fail
        go_loopw [10] (fun j wr => ∃ m : Nat, j = .int .i64 (m : Int) ∧ m ≤ n ∧ Below W6.heap.size W6 wr) (fun j _ => n - (intOf j).toNat)
        case atStart => exact ⟨0, rfl, Nat.zero_le _, Below.refl _ _⟩
        case round =>
          obtain ⟨m, rfl, hm, hbi⟩ := hrel
          by_cases hmn : m < n
          · obtain ⟨a, ha⟩ : ∃ a, G.2[m]? = some a := ⟨_, List.getElem?_eq_getElem (by rw [HNN.out]; exact hmn)⟩
            obtain ⟨g, o, _, pv, e1, _, a0, a1, a2, a3, hNa⟩ := HL1.out.at4 ha
            obtain ⟨g', o', _, pv', e2, _, c0, c1, c2, c3, hNc⟩ := HL2.out.at4 ha
            rw [HNN.out] at e1 e2
            cases e1
            cases e2
            have hsm := HSM.out a (List.mem_of_getElem? ha)
            have HLK : Hid (∀ V, Below W6.heap.size W6 V → Calls Tryd.prog 11 #[.agg #[.int .i64 (a.1 : Int), .int .i32 (a.2.1 : Int), pv, .int .u8 (a.2.2.2 : Int)], .agg #[.int .i64 (a.1 : Int), .int .i32 (a.2.1 : Int), pv', .int .u8 (a.2.2.2 : Int)]] V fun e w' => e = .returned (.bool true) ∧ Below W6.heap.size W6 w') := fun V hV => (like_any a a pv pv' V (hNa.keep (keep_below _ hV)) (hNc.keep (keep_below _ hV)) (by omega)).mono fun e u ⟨h1, h2⟩ => ⟨by rw [h1, decide_eq_true rfl], hV.trans (h2.mono hV.size)⟩
            have HC : Hid (∀ V, Below W6.heap.size W6 V → (V.cell? ⟨g, o + m * 4, none⟩ = some (.int .i64 (a.1 : Int)) ∧ V.cell? ⟨g, o + m * 4 + 1, none⟩ = some (.int .i32 (a.2.1 : Int)) ∧ V.cell? ⟨g, o + m * 4 + 2, none⟩ = some pv ∧ V.cell? ⟨g, o + m * 4 + 3, none⟩ = some (.int .u8 (a.2.2.2 : Int))) ∧ (V.cell? ⟨g', o' + m * 4, none⟩ = some (.int .i64 (a.1 : Int)) ∧ V.cell? ⟨g', o' + m * 4 + 1, none⟩ = some (.int .i32 (a.2.1 : Int)) ∧ V.cell? ⟨g', o' + m * 4 + 2, none⟩ = some pv' ∧ V.cell? ⟨g', o' + m * 4 + 3, none⟩ = some (.int .u8 (a.2.2.2 : Int)))) := fun V hV =>
              ⟨⟨by rw [hV.cell (p := ⟨g, o + m * 4, none⟩) (rlt a0)]; exact a0, by rw [hV.cell (p := ⟨g, o + m * 4 + 1, none⟩) (rlt a1)]; exact a1, by rw [hV.cell (p := ⟨g, o + m * 4 + 2, none⟩) (rlt a2)]; exact a2, by rw [hV.cell (p := ⟨g, o + m * 4 + 3, none⟩) (rlt a3)]; exact a3⟩,
                ⟨by rw [hV.cell (p := ⟨g', o' + m * 4, none⟩) (rlt c0)]; exact c0, by rw [hV.cell (p := ⟨g', o' + m * 4 + 1, none⟩) (rlt c1)]; exact c1, by rw [hV.cell (p := ⟨g', o' + m * 4 + 2, none⟩) (rlt c2)]; exact c2, by rw [hV.cell (p := ⟨g', o' + m * 4 + 3, none⟩) (rlt c3)]; exact c3⟩⟩
            obtain ⟨na, va, ca, rfl⟩ : ∃ x y z, pv = .slice x y z := by obtain ⟨x, z, e, _⟩ := hNa.1; exact ⟨x, _, z, e⟩
            obtain ⟨nc, vc, cc, rfl⟩ : ∃ x y z, pv' = .slice x y z := by obtain ⟨x, z, e, _⟩ := hNc.1; exact ⟨x, _, z, e⟩
            obtain ⟨x1, hx1⟩ : ∃ x, a.1 = x := ⟨_, rfl⟩
            obtain ⟨x2, hx2⟩ : ∃ x, a.2.1 = x := ⟨_, rfl⟩
            obtain ⟨x3, hx3⟩ : ∃ x, a.2.2.2 = x := ⟨_, rfl⟩
            rw [hx1, hx2, hx3] at HC HLK
            have hmi : (m : Int) < (n : Int) := by omega
            have hm0 : (0 : Int) ≤ (m : Int) := by omega
            have kk := hbi
            have k0 : Below W6.heap.size W6 wr.drew := hbi.drew
            obtain ⟨⟨p0, p1, p2, p3⟩, q0, q1, q2, q3⟩ := HC.out wr kk
            clear hx1 hx2 hx3 ha a0 a1 a2 a3 c0 c1 c2 c3 hNa hNc hsm
            go_wp2_with fail
            go_region_held3 (fun V => (V.cell? ⟨g, o + m * 4, none⟩ = some (.int .i64 (x1 : Int)) ∧ V.cell? ⟨g, o + m * 4 + 1, none⟩ = some (.int .i32 (x2 : Int)) ∧ V.cell? ⟨g, o + m * 4 + 2, none⟩ = some (.slice na va ca) ∧ V.cell? ⟨g, o + m * 4 + 3, none⟩ = some (.int .u8 (x3 : Int))) ∧ (V.cell? ⟨g', o' + m * 4, none⟩ = some (.int .i64 (x1 : Int)) ∧ V.cell? ⟨g', o' + m * 4 + 1, none⟩ = some (.int .i32 (x2 : Int)) ∧ V.cell? ⟨g', o' + m * 4 + 2, none⟩ = some (.slice nc vc cc) ∧ V.cell? ⟨g', o' + m * 4 + 3, none⟩ = some (.int .u8 (x3 : Int))))
              (first | with_reducible exact HC.out _ kk | with_reducible exact HC.out _ k0)
              (first
                | (go_at_call 11; go_fit (HLK.out _ ?_); (first | with_reducible exact kk | with_reducible exact k0); rintro e vv ⟨rfl, kk⟩))
            all_goals
              clear HC HLK p0 p1 p2 p3 q0 q1 q2 q3
              go_wp2_with fail
              go_roundw
              case rel => exact ⟨m + 1, by go_num, by omega, kk⟩
              case measure => simp [intOf]; omega
          · obtain rfl : m = n := by omega
            have E1 := F1'.below hbi
            have E2 := F2'.below hbi
            have hbw7 := hbw6.trans (hbi.mono hbw6.size)
            obtain ⟨⟨c0, c1⟩, _⟩ := E1.cells
            obtain ⟨⟨x0, x1⟩, z0, z1⟩ := E2.cells
            have kp : KeepW (fun k => k ≠ w.heap.size) wr ((wr.setCell ⟨w.heap.size, 0, none⟩ (.int .i64 n2)).setCell ⟨w.heap.size, 1, none⟩ (.string z2)) := (keep_set w.heap.size 0 none _ wr (fun h => h rfl)).trans (keep_set w.heap.size 1 none _ _ (fun h => h rfl))
            have hb8 : Below w.heap.size w _ := KeepW.below hbw7 kp hbw7.size (fun k hk => by omega)
            have F6 := ((E2.set0 (.int .i64 n2)).set1 (.string z2))
            clear E1 E2 F1' F2' hbi HL1 HL2
            go_wp2_with fail
            go_roundw
            case rel => exact ⟨k + 1, G.1, T2, by go_num, rfl, by omega, by omega, hT2, hok2, by rw [hn2, hz2]; exact F6, hb8⟩
            case measure => simp [intOf]; omega
    · obtain rfl : k = s.size := by omega
      have HA := Lib.hid (HASK.out wr hbr)
      clear HRF HFD hB hT
      go_wp2_with fail
      go_fit HA.out
      rintro e w9 ⟨rfl, hb9⟩
      go_wp2_with fail
      go_ret
      exact ⟨rfl, hbr.trans (hb9.mono hbr.size)⟩

theorem tell_any (s : ByteArray) (w : World) (hP : LaidP w) :
    Calls Tryd.prog 3 #[.string s] w fun e w' => e = .returned (.bool true) ∧ Below w.heap.size w w' := by
  by_cases h : 2000 < s.size
  · exact parserTell_far s w hP h
  · exact parserTell_near s w hP (by omega)
end Go.Proofs.YtbpnnnjbddjboaaDoor
