/-
  KeysBytes: where no paste begins, the bytes of keys that are of none, and those that such other keys are of, are as many as were fed: the law's walk: it returns true.
-/
import Derived.Test.YtdnldfgolbcjiaaDoorKyPress
import Derived.Test.YtdnldfgolbcjiaaDoorKyBytN
namespace Go.Proofs.YtdnldfgolbcjiaaDoor
open Go.RowKit

/-- The bytes but one, of so many. -/
def noT (s : ByteArray) : Nat → ByteArray
  | 0 => noB
  | k + 1 => if bt s k = 126 then noT s k else noT s k ++ oneS (bt s k)
theorem noT_size (s : ByteArray) : ∀ k, (noT s k).size ≤ k
  | 0 => Nat.zero_le _
  | k + 1 => by
    have h := noT_size s k
    unfold noT
    split
    · omega
    · rw [snoc_size]; omega
theorem noT_no (s : ByteArray) : ∀ k i, i < (noT s k).size → bt (noT s k) i ≠ 126
  | 0, i, h => absurd h (Nat.not_lt_zero _)
  | k + 1, i, h => by
    revert h
    show i < (if bt s k = 126 then noT s k else noT s k ++ oneS (bt s k)).size → bt (if bt s k = 126 then noT s k else noT s k ++ oneS (bt s k)) i ≠ 126
    split
    · exact noT_no s k i
    · rename_i hk
      intro h
      rw [snoc_size] at h
      by_cases hi : i < (noT s k).size
      · rw [bt_l _ _ i hi]; exact noT_no s k i hi
      · rw [bt_r _ _ i (by omega) (bt_lt s k)]; exact hk
theorem ext_one (s : ByteArray) (k : Nat) (h : k < s.size) : s.extract k (k + 1) = oneS (bt s k) := by
  refine ba_eq.2 ?_
  rw [part_nums s k 1 (by omega), nums_one _ (bt_lt s k)]
  rfl

set_option maxRecDepth 4000 in
set_option maxHeartbeats 4000000 in
theorem keysBytes_far (s : ByteArray) (w : World) (hL : TabK w.heap.size w) (h : 300 < s.size) :
    Calls Tryd.prog 8 #[.string s] w fun e w' => e = .returned (.bool true) ∧ Below w.heap.size w w' := by
  have HP := Lib.hid (pressed_any w hL)
  have j1 : (300 : Int) < (s.size : Int) := by omega
  clear hL
  go_enter Tryd.func8, Tryd.ntmps8
  go_wp2_with fail
  go_fit HP.out
  rintro e w3 ⟨rfl, hb3⟩
  go_wp2_with fail
  go_ret
  exact ⟨rfl, hb3⟩

set_option maxRecDepth 4000 in
set_option maxHeartbeats 8000000 in
theorem keysBytes_near (s : ByteArray) (w : World) (hL : TabK w.heap.size w) (hs : s.size ≤ 300) :
    Calls Tryd.prog 8 #[.string s] w fun e w' => e = .returned (.bool true) ∧ Below w.heap.size w w' := by
  have HBT := Lib.hid (fun k (hk : k < s.size) => (show (s[k].toNat : Int) = (bt s k : Int) by unfold bt; rw [show s.get! k = s[k] from get_at s k hk]))
  have HP := Lib.hid (fun W (h : Below w.heap.size w W) => pressed_any W ((hL.below h).up h.size))
  have HTL := Lib.hid (fun t (ht : t.size ≤ 300) => ktold_any t true w hL (by omega))
  have HPB := Lib.hid (fun r W => putB_any r W)
  have HEX := Lib.hid (fun k (hk : k < s.size) => ext_one s k hk)
  have j1 : (s.size : Int) ≤ 300 := by omega
  clear hL
  go_enter Tryd.func8, Tryd.ntmps8
  go_wp2
  go_loopw [3, 4] (fun s3 s4 wr => ∃ k : Nat, s4 = .int .i64 (k : Int) ∧ k ≤ s.size ∧ s3 = .string (noT s k) ∧ wr = w) (fun _ s4 _ => s.size - (intOf s4).toNat)
  case atStart => exact ⟨0, rfl, Nat.zero_le _, rfl, rfl⟩
  case round =>
    obtain ⟨k, rfl, hk, rfl, rfl⟩ := hrel
    by_cases hlt : k < s.size
    · have hbt := HBT.out k hlt
      have hex := HEX.out k hlt
      have hns : noT s (k + 1) = if bt s k = 126 then noT s k else noT s k ++ oneS (bt s k) := rfl
      obtain ⟨b, hb⟩ : ∃ b, bt s k = b := ⟨_, rfl⟩
      rw [hb] at hbt hex hns
      have k1 : (k : Int) < (s.size : Int) := by omega
      have k0 : (0 : Int) ≤ (k : Int) := by omega
      have k2 : ((k : Int) + 1) ≤ (s.size : Int) := by omega
      obtain ⟨T, hT⟩ : ∃ T, noT s k = T := ⟨_, rfl⟩
      have hts : T.size ≤ 300 := by have := noT_size s k; rw [hT] at this; omega
      rw [hT] at hns ⊢
      clear hb hT
      by_cases e : b = 126
      · rw [if_pos e] at hns
        subst e
        go_wp2_with fail
        go_roundw
        case rel => exact ⟨k + 1, by go_num, by omega, by rw [hns], trivial⟩
        case measure => simp [intOf]; omega
      · rw [if_neg e] at hns
        have i1 : ((b : Int) == 126) = false := u8_no e
        have z1 : (oneS b).size = 1 := rfl
        go_wp2_with fail
        go_roundw
        case rel => exact ⟨k + 1, by go_num, by omega, by rw [hns], trivial⟩
        case measure => simp [intOf]; omega
    · have k1 : (s.size : Int) ≤ (k : Int) := by omega
      have hke : k = s.size := by omega
      subst hke
      have hts := noT_size s s.size
      have hsum := len_told (noT s s.size) (noT_no s s.size)
      obtain ⟨T, hT⟩ : ∃ T, noT s s.size = T := ⟨_, rfl⟩
      rw [hT] at hts hsum ⊢
      have HTD := Lib.hid (HTL.out T (by omega))
      clear hT
      go_wp2_with fail
      go_fit HTD.out
      rintro e w1 ⟨u, rfl, hu, hb1⟩
      obtain ⟨l, hl⟩ : ∃ l, toldK T true = l := ⟨_, rfl⟩
      rw [hl] at hu hsum
      have HA := Lib.hid (fun i a (ha : l[i]? = some a) W (hb : Below w1.heap.size w1 W) => KeysW.at_ (hu.below hb) ha)
      obtain ⟨ao, cap, rfl, _⟩ := hu.form
      obtain ⟨n, hn⟩ : ∃ n, l.length = n := ⟨_, rfl⟩
      have hn2 : n ≤ 100000 := by
        have h1 := run_keys (bytesN T) (.held noB)
        have h2 := tick_keys (runK (.held noB) (bytesN T)).1
        rw [bytesN_len] at h1
        have h3 : toldK T true = (runK (.held noB) (bytesN T)).2 ++ (tickK (runK (.held noB) (bytesN T)).1).2 := by unfold toldK; rw [if_pos rfl]
        rw [← hn, ← hl, h3, List.length_append]
        omega
      rw [hn] at HA ⊢
      have HN := Lib.hid hn
      have HB1 := Lib.hid hb1
      have HSUM := Lib.hid hsum
      have HB00 : Hid (Below w1.heap.size w1 w1) := Below.refl _ _
      clear hu hl hn hb1 hsum HTD
      go_wp2
      go_loopw [6, 7] (fun s6 s7 wr => ∃ i : Nat, s7 = .int .i64 (i : Int) ∧ i ≤ n ∧ s6 = .int .i64 ((lensK (l.take i) : Nat) : Int) ∧ Hid (Below w1.heap.size w1 wr)) (fun _ s7 _ => n - (intOf s7).toNat)
      case atStart => exact ⟨0, rfl, Nat.zero_le _, rfl, HB00⟩
      case round =>
        obtain ⟨i, rfl, hi, rfl, HBW⟩ := hrel
        by_cases hlt : i < n
        · obtain ⟨a, ha⟩ : ∃ a, l[i]? = some a := ⟨_, List.getElem?_eq_getElem (by rw [HN.out]; exact hlt)⟩
          obtain ⟨g, o, c, hf, hcc, c0, c1, c2⟩ := HA.out i a ha wr HBW.out
          have e1 : ao = some ⟨g, o, none⟩ := (Value.slice.inj hf).1
          subst e1
          rw [Nat.mul_comm 3 i] at c0 c1 c2
          have hle := len_le l i a ha
          have hlt2 := lens_take l (i + 1)
          rw [HSUM.out] at hlt2
          have k1 : (i : Int) < (n : Int) := by omega
          have k0 : (0 : Int) ≤ (i : Int) := by omega
          obtain ⟨kk, r, tx⟩ := a
          have c0' : wr.cell? ⟨g, o + i * 3, none⟩ = some (.int .i64 (kk : Int)) := c0
          have c1' : wr.cell? ⟨g, o + i * 3 + 1, none⟩ = some (.int .i32 (r : Int)) := c1
          have c2' : wr.cell? ⟨g, o + i * 3 + 2, none⟩ = some (.string tx) := c2
          have HPR := Lib.hid (HPB.out (r : Int) wr)
          have HLK : Hid (lenK (kk, r, tx) = if kk = 0 then tx.size else if kk = 1 then (putB (r : Int)).size else if kk = 7 then 1 + (putB (r : Int)).size else if 8 ≤ kk ∧ kk ≤ 13 then 3 else 1) := rfl
          rw [HLK.out] at hle
          obtain ⟨S, hS⟩ : ∃ S, lensK (l.take i) = S := ⟨_, rfl⟩
          rw [hS] at hle ⊢
          obtain ⟨PB, hPB⟩ : ∃ PB, putB (r : Int) = PB := ⟨_, rfl⟩
          rw [hPB] at HPR hle
          clear hf ha c0 c1 c2 HLK hS hPB HA
          by_cases e0 : kk = 0
          · subst e0
            rw [if_pos rfl] at hle
            have HLE := Lib.hid hle
            go_wp2_with fail
            go_roundw
            case rel => exact ⟨i + 1, by go_num, by omega, by rw [HLE.out]; congr 1, HBW⟩
            case measure => simp [intOf]; omega
          have i0 : ((kk : Int) == 0) = false := u8_no e0
          by_cases e1 : kk = 1
          · subst e1
            rw [if_neg (by decide), if_pos rfl] at hle
            have HLE := Lib.hid hle
            go_wp2_with fail
            go_fit HPR.out
            rintro e w5 ⟨rfl, rfl⟩
            go_wp2_with fail
            go_roundw
            case rel => exact ⟨i + 1, by go_num, by omega, by rw [HLE.out]; congr 1, HBW⟩
            case measure => simp [intOf]; omega
          have i1 : ((kk : Int) == 1) = false := u8_no e1
          by_cases e7 : kk = 7
          · subst e7
            rw [if_neg (by decide), if_neg (by decide), if_pos rfl] at hle
            have HLE := Lib.hid hle
            go_wp2_with fail
            go_fit HPR.out
            rintro e w5 ⟨rfl, rfl⟩
            go_wp2_with fail
            go_roundw
            case rel => exact ⟨i + 1, by go_num, by omega, by rw [HLE.out]; congr 1, HBW⟩
            case measure => simp [intOf]; omega
          have i7 : ((kk : Int) == 7) = false := u8_no e7
          by_cases e8 : kk = 8
          · subst e8
            rw [if_neg (by decide), if_neg (by decide), if_neg (by decide), if_pos (by decide)] at hle
            have HLE := Lib.hid hle
            go_wp2_with fail
            go_roundw
            case rel => exact ⟨i + 1, by go_num, by omega, by rw [HLE.out]; congr 1, HBW⟩
            case measure => simp [intOf]; omega
          have i8 : ((kk : Int) == 8) = false := u8_no e8
          by_cases e9 : kk = 9
          · subst e9
            rw [if_neg (by decide), if_neg (by decide), if_neg (by decide), if_pos (by decide)] at hle
            have HLE := Lib.hid hle
            go_wp2_with fail
            go_roundw
            case rel => exact ⟨i + 1, by go_num, by omega, by rw [HLE.out]; congr 1, HBW⟩
            case measure => simp [intOf]; omega
          have i9 : ((kk : Int) == 9) = false := u8_no e9
          by_cases e10 : kk = 10
          · subst e10
            rw [if_neg (by decide), if_neg (by decide), if_neg (by decide), if_pos (by decide)] at hle
            have HLE := Lib.hid hle
            go_wp2_with fail
            go_roundw
            case rel => exact ⟨i + 1, by go_num, by omega, by rw [HLE.out]; congr 1, HBW⟩
            case measure => simp [intOf]; omega
          have i10 : ((kk : Int) == 10) = false := u8_no e10
          by_cases e11 : kk = 11
          · subst e11
            rw [if_neg (by decide), if_neg (by decide), if_neg (by decide), if_pos (by decide)] at hle
            have HLE := Lib.hid hle
            go_wp2_with fail
            go_roundw
            case rel => exact ⟨i + 1, by go_num, by omega, by rw [HLE.out]; congr 1, HBW⟩
            case measure => simp [intOf]; omega
          have i11 : ((kk : Int) == 11) = false := u8_no e11
          by_cases e12 : kk = 12
          · subst e12
            rw [if_neg (by decide), if_neg (by decide), if_neg (by decide), if_pos (by decide)] at hle
            have HLE := Lib.hid hle
            go_wp2_with fail
            go_roundw
            case rel => exact ⟨i + 1, by go_num, by omega, by rw [HLE.out]; congr 1, HBW⟩
            case measure => simp [intOf]; omega
          have i12 : ((kk : Int) == 12) = false := u8_no e12
          by_cases e13 : kk = 13
          · subst e13
            rw [if_neg (by decide), if_neg (by decide), if_neg (by decide), if_pos (by decide)] at hle
            have HLE := Lib.hid hle
            go_wp2_with fail
            go_roundw
            case rel => exact ⟨i + 1, by go_num, by omega, by rw [HLE.out]; congr 1, HBW⟩
            case measure => simp [intOf]; omega
          have i13 : ((kk : Int) == 13) = false := u8_no e13
          rw [if_neg e0, if_neg e1, if_neg e7, if_neg (by omega)] at hle
          have HLE := Lib.hid hle
          go_wp2_with fail
          go_roundw
          case rel => exact ⟨i + 1, by go_num, by omega, by rw [HLE.out]; congr 1, HBW⟩
          case measure => simp [intOf]; omega
        · have hke : i = n := by omega
          have k1 : (n : Int) ≤ (i : Int) := by omega
          have hS : lensK (l.take i) = T.size := by rw [List.take_of_length_le (by rw [HN.out]; omega)]; exact HSUM.out
          rw [hS]
          have HBB := Lib.hid (HB1.out.trans (HBW.out.mono HB1.out.size))
          clear hS HA HPB
          go_wp2_with fail
          go_fit (HP.out _ HBB.out)
          rintro e w8 ⟨rfl, hb8⟩
          go_wp2_with fail
          go_ret
          exact ⟨rfl, HBB.out.trans (hb8.mono HBB.out.size)⟩

theorem keysBytes_any (s : ByteArray) (w : World) (hL : TabK w.heap.size w) :
    Calls Tryd.prog 8 #[.string s] w fun e w' => e = .returned (.bool true) ∧ Below w.heap.size w w' := by
  by_cases h : 300 < s.size
  · exact keysBytes_far s w hL h
  · exact keysBytes_near s w hL (by omega)
end Go.Proofs.YtdnldfgolbcjiaaDoor
