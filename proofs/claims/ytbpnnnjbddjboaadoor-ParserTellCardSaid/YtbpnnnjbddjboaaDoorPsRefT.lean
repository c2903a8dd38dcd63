/-
  limnerref07.Feed behind a beginning of a rune: what it returns: for every byte. And for every state that may be.
-/
import Derived.Test.YtbpnnnjbddjboaaDoorPsRefS
namespace Go.Proofs.YtbpnnnjbddjboaaDoor
open Go.RowKit

theorem whole_ok (s : ByteArray) (b : Nat) (h : Beg s) : wholeB (s ++ oneB b) = okAt (s ++ oneB b) 0 := by
  unfold wholeB
  cases ho : okAt (s ++ oneB b) 0 with
  | false => rfl
  | true => rw [beg_whole s b h ho]; simp

set_option maxRecDepth 20000 in
set_option maxHeartbeats 8000000 in
theorem rfeed_start (T : ByteArray) (b : Nat) (w : World) (hb : b < 256) (hT : Beg T) :
    Calls Tryd.prog 10 #[.string T, .int .u8 (b : Int)] w (RefW w (startN T b) (T.size + 1)) := by
  obtain ⟨R, hR⟩ : ∃ R, startN T b = R := ⟨_, rfl⟩
  rw [hR]
  have h3 : T.size ≤ 3 := by rcases hT with h | h | h <;> omega
  have h0 : 0 < T.size := (beg_first T hT).1
  have hbt : 194 ≤ bt T 0 := (beg_first T hT).2.1
  have e0 : (T[0].toNat : Int) = (bt T 0 : Int) := by unfold bt; rw [show T.get! 0 = T[0] from get_at T 0 h0]
  obtain ⟨q, hq⟩ : ∃ q, bt T 0 = q := ⟨_, rfl⟩
  rw [hq] at hbt e0
  have q27 : ((q : Int) == 27) = false := beq_false_of_ne (by omega)
  have q27b : ((q : Int) != 27) = true := by rw [bne_iff_ne]; omega
  obtain ⟨n1, n2⟩ := nonempty_facts T h0
  have cv := convP_new [(b : Int)] w
  rw [str_one] at cv
  simp only [List.map_cons, List.map_nil, List.length_cons, List.length_nil] at cv
  have hb1 : Below w.heap.size w (w.alloc (.cells #[.int .u8 (b : Int)] 5)) := (Below.refl _ _).alloc (Nat.le_refl _) _
  have HB1 := Lib.hid hb1
  have HS1 : Hid (w.heap.size ≤ (w.alloc (.cells #[.int .u8 (b : Int)] 5)).heap.size) := hb1.size
  have e4 : (oneB b).size = 1 := rfl
  have hsz : (T ++ oneB b).size = T.size + 1 := app_size _ _
  have HWH := Lib.hid (fun W => whole_any (T ++ oneB b) W (by omega) (by unfold maxLen; omega))
  rw [whole_ok T b hT] at HWH
  have HNX := Lib.hid (fun W => refNext_in (T ++ oneB b) 0 W (by omega) (by unfold maxLen; omega))
  have HBE := Lib.hid (fun W => begins_any (T ++ oneB b) W (by omega) (by omega))
  have HGR := Lib.hid (fun W => ground_any b W hb)
  have HO5 : Hid (∀ W, Calls Tryd.prog 22 #[.int .i64 5, .int .i32 0] W fun e w' => ∃ v, e = .returned v ∧ ActsW (FromP W.heap.size) w' v [badA] ∧ (∃ a, v = .slice (some a) 1 1) ∧ Below W.heap.size W w') := fun W => rone_any 5 0 W
  have hR2 : Hid (R = if okAt (T ++ oneB b) 0 = true then (.zero, [(1, (Utf8.decode (T ++ oneB b) 0).1, [], 0)]) else if begB (T ++ oneB b) = true then (.start (T ++ oneB b), []) else ((firstN b).1, badA :: (firstN b).2)) := by
    show _ = _
    rw [← hR]
    rfl
  obtain ⟨S, hS⟩ : ∃ S, T ++ oneB b = S := ⟨_, rfl⟩
  rw [hS] at HWH HNX HBE hR2 hsz
  obtain ⟨K, hK⟩ : ∃ K, (Utf8.decode S 0).1 = K := ⟨_, rfl⟩
  obtain ⟨K2, hK2⟩ : ∃ K2, (Utf8.decode S 0).2 = K2 := ⟨_, rfl⟩
  rw [hK] at HNX hR2
  rw [hK2] at HNX
  have HO1 : Hid (∀ W, Calls Tryd.prog 22 #[.int .i64 1, .int .i32 (K : Int)] W fun e w' => ∃ v, e = .returned v ∧ ActsW (FromP W.heap.size) w' v [(1, K, [], 0)] ∧ (∃ a, v = .slice (some a) 1 1) ∧ Below W.heap.size W w') := fun W => rone_any 1 K W
  have HSS := Lib.hid hS
  clear hR hb1 hq hT hK hK2 hS
  by_cases hok : okAt S 0 = true
  · have hR : Hid (R = (.zero, [(1, K, [], 0)])) := by
      show _ = _
      rw [hR2.out, if_pos hok]
    rw [hok] at HWH HNX
    clear hR2 HBE HGR HO5
    go_enter Tryd.func10, Tryd.ntmps10
    go_wp2_with fail
    rw [HSS.out]
    go_fit (HWH.out _)
    rintro e w2 ⟨rfl, hb2⟩
    go_wp2_with fail
    go_fit (HNX.out _)
    rintro e w3 ⟨rfl, hb3⟩
    go_wp2_with fail
    go_fit (HO1.out _)
    rintro e w4 ⟨v, rfl, hA, _, hb4⟩
    go_wp2_with fail
    rw [hR.out]
    go_ret2
    have s2 := Nat.le_trans HS1.out hb2.size
    have s3 := Nat.le_trans s2 hb3.size
    exact ⟨⟨#[]⟩, v, rfl, rfl, Nat.zero_le _, acts_from hA s3, ((HB1.out.trans (hb2.mono HS1.out)).trans (hb3.mono s2)).trans (hb4.mono s3)⟩
  · have hR3 : Hid (R = if begB S = true then (.start S, []) else ((firstN b).1, badA :: (firstN b).2)) := by
      show _ = _
      rw [hR2.out, if_neg hok]
    replace hok : okAt S 0 = false := by cases h : okAt S 0 <;> simp_all
    rw [hok] at HWH
    clear hR2 HO1 HNX
    by_cases hbg : begB S = true
    · have hR : Hid (R = (.start S, [])) := by
        show _ = _
        rw [hR3.out, if_pos hbg]
      rw [hbg] at HBE
      clear hR3 HGR HO5
      go_enter Tryd.func10, Tryd.ntmps10
      go_wp2_with fail
      rw [HSS.out]
      go_fit (HWH.out _)
      rintro e w2 ⟨rfl, hb2⟩
      go_wp2_with fail
      go_fit (HBE.out _)
      rintro e w3 ⟨rfl, hb3⟩
      go_wp2_with fail
      rw [hR.out]
      go_ret2
      have s2 := Nat.le_trans HS1.out hb2.size
      exact ⟨S, _, rfl, rfl, by omega, ActsW.nil _ _, (HB1.out.trans (hb2.mono HS1.out)).trans (hb3.mono s2)⟩
    · have hR : Hid (R = ((firstN b).1, badA :: (firstN b).2)) := by
        show _ = _
        rw [hR3.out, if_neg hbg]
      replace hbg : begB S = false := by cases h : begB S <;> simp_all
      rw [hbg] at HBE
      have HLL : Hid ([badA].length + (firstN b).2.length ≤ 1000000) := by
        have h2 := feed_two .zero b
        show 1 + (firstN b).2.length ≤ 1000000
        rw [show feedN .zero b = firstN b from rfl] at h2
        omega
      clear hR3
      go_enter Tryd.func10, Tryd.ntmps10
      go_wp2_with fail
      rw [HSS.out]
      go_fit (HWH.out _)
      rintro e w2 ⟨rfl, hb2⟩
      go_wp2_with fail
      go_fit (HBE.out _)
      rintro e w3 ⟨rfl, hb3⟩
      go_wp2_with fail
      go_fit (HGR.out _)
      rintro e w4 ⟨t, v, rfl, ht1, ht2, hA, hb4⟩
      have s2 := Nat.le_trans HS1.out hb2.size
      have s3 := Nat.le_trans s2 hb3.size
      have s4 := Nat.le_trans s3 hb4.size
      have hbw4 := ((HB1.out.trans (hb2.mono HS1.out)).trans (hb3.mono s2)).trans (hb4.mono s3)
      go_wp2_with fail
      go_fit (HO5.out _)
      rintro e w5 ⟨v5, rfl, hA5, ⟨ai, rfl⟩, hb5⟩
      have hbw5 := hbw4.trans (hb5.mono s4)
      have s5 := Nat.le_trans s4 hb5.size
      obtain ⟨v6, w6, hr6, hA6, hb6⟩ := run_acts (l := [badA]) (l2 := (firstN b).2) 28 28 35 Tryd.underlying28 Tryd.infoActR (acts_from hA5 s4) ((acts_from hA s3).below hb5) s5 HLL.out
      go_wp2_with (at_builtin; refine wpList_run (by rfl) _ _ 28 (by rfl) (by rfl) (by rfl) hr6 ?_)
      rw [hR.out]
      go_ret2
      exact ⟨t, v6, rfl, ht1, by omega, hA6, hbw5.trans (hb6.mono s5)⟩

theorem rfeed_any (p : Ps) (T : ByteArray) (b : Nat) (w : World) (hb : b < 256) (hk : OkP p) (hT : RelT p T) (hTs : T.size ≤ 10000) :
    Calls Tryd.prog 10 #[.string T, .int .u8 (b : Int)] w (RefW w (feedN p b) (T.size + 1)) := by
  cases p with
  | zero => obtain rfl : T = ⟨#[]⟩ := hT; exact rfeed_zero b w hb
  | start s => obtain rfl : T = s := hT; exact rfeed_start T b w hb hk
  | esc => exact rfeed_esc T b w hb hT
  | seq pre x => exact rfeed_seq pre x T b w hb hT hTs
  | bad => exact rfeed_bad T b w hb hT hTs
end Go.Proofs.YtbpnnnjbddjboaaDoor
