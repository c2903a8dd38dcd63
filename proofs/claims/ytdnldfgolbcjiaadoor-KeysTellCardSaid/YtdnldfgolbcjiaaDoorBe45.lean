/-
  limnerref09.code: what it returns, where the document's decoder stands then: behind a beginning of a rune, and behind an escape and one.
-/
import Derived.Test.YtdnldfgolbcjiaaDoorBe40
namespace Go.Proofs.YtdnldfgolbcjiaaDoor
open Go.RowKit

theorem str_snoc_bound (s : ByteArray) (b : Nat) (h : s.size ≤ 100000) : (s.size : Int) + ((oneS b).size : Int) ≤ 9223372036854775807 := by rw [one_size]; omega
set_option maxRecDepth 4000 in
set_option maxHeartbeats 8000000 in
theorem rcode_any (R b : Nat) (v : Value) (wt s : ByteArray) (w : World) (hB : boxR w R (.string wt) (.bool false) v) (hb : b < 256) (hs : s.size ≤ 50000) (hw : wt.size ≤ 50000) (hg : Beg s) :
    Calls Tryd.prog 29 #[.pointer (some ⟨R, 0, none⟩), .string s, .bool false, .int .u8 (b : Int)] w (FedH R v w (runeK wt 1 (s ++ oneS b) b)) := by
  have hl := hB.lt
  obtain ⟨⟨c0, _, _⟩, f0, _, _⟩ := hB.cells
  have cv := bytes_conv 28 Tryd.underlying28 ((row_byte 0 w b hb (Nat.zero_le _)).bytes)
  have hb1 := alloc_below w (.cells #[.int .u8 (b : Int)] 5)
  have HB1 := Lib.hid (hB.below hb1)
  have HK1 := Lib.hid (keep_below (fun k => k ≠ R) hb1)
  have hsz := snoc_size s b
  have h1 := one_size b
  have HNX := Lib.hid (fun W => refNext_in (s ++ oneS b) 0 W (by omega) (by unfold maxLen; omega))
  have HBG := Lib.hid (fun W => begins_any (s ++ oneS b) W (by omega) (by omega))
  have HWH : Hid (okAt (s ++ oneS b) 0 = true → (Utf8.decode (s ++ oneS b) 0).2 = s.size + 1) := fun h => by rw [beg_whole s b hg h, hsz]
  have HAN := Lib.hid (fun W x (h : boxR W R x (.bool false) v) => ranew_any R b x v wt W h hb)
  have HKY : Hid (∀ W r, Calls Tryd.prog 31 #[.int .i64 1, .int .i32 ((r : Nat) : Int), .string ⟨#[]⟩] W fun e w' => ∃ u, e = .returned u ∧ OutK W.heap.size w' u [(1, r, noB)] ∧ Below W.heap.size W w') := fun W r => rkey_any 1 r noB W
  have HRK : Hid (runeK wt 1 (s ++ oneS b) b = if okAt (s ++ oneS b) 0 = true then (.held noB, [(1, (Utf8.decode (s ++ oneS b) 0).1, noB)]) else if begB (s ++ oneS b) = true then (.held (wt ++ oneS b), []) else anewK (badK wt) b) := rfl
  obtain ⟨T, hT⟩ : ∃ T, s ++ oneS b = T := ⟨_, rfl⟩
  rw [hT] at HNX HBG HWH HRK hsz ⊢
  obtain ⟨C, hC⟩ : ∃ C, Utf8.decode T 0 = C := ⟨_, rfl⟩
  rw [hC] at HNX HWH HRK
  have HT := Lib.hid hT
  rw [HRK.out]
  clear hg hb1 hC HRK hB
  cases hok : okAt T 0 with
  | true =>
    rw [hok] at HNX
    have hC2 := HWH.out hok
    rw [hC2] at HNX
    rw [if_pos rfl]
    clear hok hC2 HWH
    go_enter Tryd.func29, Tryd.ntmps29
    go_wp2_with fail
    go_fit (HNX.out _)
    rintro e w2 ⟨rfl, hb2⟩
    have HB2 := Lib.hid (HB1.out.below hb2)
    have HK2 := Lib.hid (HK1.out.trans (keep_below _ hb2))
    have hl2 := HB2.out.lt
    obtain ⟨⟨d0, _, _⟩, g0, _, _⟩ := HB2.out.cells
    clear hb2
    go_wp2_with fail
    have HB3 := Lib.hid (HB2.out.set0 (.string ⟨#[]⟩))
    have HK3 := Lib.hid (HK2.out.trans (keep_R w2 R 0 (.string ⟨#[]⟩)))
    go_fit (HKY.out _ C.1)
    rintro e w3 ⟨u, rfl, hu, hb3⟩
    have HF := Lib.hid (fedh_key (R := R) (v := v) (p := .held noB) HK3.out hu hb3 HB3.out rfl)
    clear hu hb3
    go_wp2_with fail
    go_ret
    exact HF.out
  | false =>
    rw [hok] at HNX
    rw [if_neg (by decide)]
    clear hok HWH
    cases hbg : begB T with
    | true =>
      rw [hbg] at HBG
      rw [if_pos rfl]
      clear hbg
      go_enter Tryd.func29, Tryd.ntmps29
      go_wp2_with fail
      go_fit (HNX.out _)
      rintro e w2 ⟨rfl, hb2⟩
      have HB2 := Lib.hid (HB1.out.below hb2)
      have HK2 := Lib.hid (HK1.out.trans (keep_below _ hb2))
      have hl2 := HB2.out.lt
      obtain ⟨⟨d0, _, _⟩, g0, _, _⟩ := HB2.out.cells
      clear hb2
      go_wp2_with fail
      go_fit (HBG.out _)
      rintro e w3 ⟨rfl, hb3⟩
      have HB3 := Lib.hid (HB2.out.below hb3)
      have HK3 := Lib.hid (HK2.out.trans (keep_below _ hb3))
      have hl3 := HB3.out.lt
      obtain ⟨⟨m0, _, _⟩, n0, _, _⟩ := HB3.out.cells
      have cv3 := bytes_conv 28 Tryd.underlying28 ((row_byte 0 w3 b hb (Nat.zero_le _)).bytes)
      have hb4 := Lib.hid (alloc_below w3 (.cells #[.int .u8 (b : Int)] 5))
      clear hb3
      go_wp2_with fail
      go_ret
      exact fedh_none (p := .held (wt ++ oneS b)) ((HK3.out.trans (keep_R _ _ _ _)).trans (keep_below _ (alloc_below _ _))) ((HB3.out.set0 _).below (alloc_below _ _)) rfl
    | false =>
      rw [hbg] at HBG
      rw [if_neg (by decide)]
      clear hbg
      go_enter Tryd.func29, Tryd.ntmps29
      go_wp2_with fail
      go_fit (HNX.out _)
      rintro e w2 ⟨rfl, hb2⟩
      have HB2 := Lib.hid (HB1.out.below hb2)
      have HK2 := Lib.hid (HK1.out.trans (keep_below _ hb2))
      have hl2 := HB2.out.lt
      obtain ⟨⟨d0, _, _⟩, g0, _, _⟩ := HB2.out.cells
      clear hb2
      go_wp2_with fail
      go_fit (HBG.out _)
      rintro e w3 ⟨rfl, hb3⟩
      have HB3 := Lib.hid (HB2.out.below hb3)
      have HK3 := Lib.hid (HK2.out.trans (keep_below _ hb3))
      have HAA := Lib.hid (HAN.out w3 _ HB3.out)
      clear hb3
      go_wp2_with fail
      go_fit HAA.out
      rintro e w4 hf
      have HFf := Lib.hid (fedh_below HK3.out hf)
      obtain ⟨u, rfl, _⟩ := hf
      go_wp2_with fail
      go_ret
      exact HFf.out
set_option maxRecDepth 4000 in
set_option maxHeartbeats 8000000 in
theorem rcode_alt (R b : Nat) (v : Value) (wt s : ByteArray) (w : World) (hB : boxR w R (.string wt) (.bool false) v) (hb : b < 256) (hs : s.size ≤ 50000) (hw : wt.size ≤ 50000) (hg : Beg s) :
    Calls Tryd.prog 29 #[.pointer (some ⟨R, 0, none⟩), .string s, .bool true, .int .u8 (b : Int)] w (FedH R v w (runeK wt 7 (s ++ oneS b) b)) := by
  have hl := hB.lt
  obtain ⟨⟨c0, _, _⟩, f0, _, _⟩ := hB.cells
  have cv := bytes_conv 28 Tryd.underlying28 ((row_byte 0 w b hb (Nat.zero_le _)).bytes)
  have hb1 := alloc_below w (.cells #[.int .u8 (b : Int)] 5)
  have HB1 := Lib.hid (hB.below hb1)
  have HK1 := Lib.hid (keep_below (fun k => k ≠ R) hb1)
  have hsz := snoc_size s b
  have h1 := one_size b
  have HNX := Lib.hid (fun W => refNext_in (s ++ oneS b) 0 W (by omega) (by unfold maxLen; omega))
  have HBG := Lib.hid (fun W => begins_any (s ++ oneS b) W (by omega) (by omega))
  have HWH : Hid (okAt (s ++ oneS b) 0 = true → (Utf8.decode (s ++ oneS b) 0).2 = s.size + 1) := fun h => by rw [beg_whole s b hg h, hsz]
  have HAN := Lib.hid (fun W x (h : boxR W R x (.bool false) v) => ranew_any R b x v wt W h hb)
  have HKY : Hid (∀ W r, Calls Tryd.prog 31 #[.int .i64 7, .int .i32 ((r : Nat) : Int), .string ⟨#[]⟩] W fun e w' => ∃ u, e = .returned u ∧ OutK W.heap.size w' u [(7, r, noB)] ∧ Below W.heap.size W w') := fun W r => rkey_any 7 r noB W
  have HRK : Hid (runeK wt 7 (s ++ oneS b) b = if okAt (s ++ oneS b) 0 = true then (.held noB, [(7, (Utf8.decode (s ++ oneS b) 0).1, noB)]) else if begB (s ++ oneS b) = true then (.held (wt ++ oneS b), []) else anewK (badK wt) b) := rfl
  obtain ⟨T, hT⟩ : ∃ T, s ++ oneS b = T := ⟨_, rfl⟩
  rw [hT] at HNX HBG HWH HRK hsz ⊢
  obtain ⟨C, hC⟩ : ∃ C, Utf8.decode T 0 = C := ⟨_, rfl⟩
  rw [hC] at HNX HWH HRK
  have HT := Lib.hid hT
  rw [HRK.out]
  clear hg hb1 hC HRK hB
  cases hok : okAt T 0 with
  | true =>
    rw [hok] at HNX
    have hC2 := HWH.out hok
    rw [hC2] at HNX
    rw [if_pos rfl]
    clear hok hC2 HWH
    go_enter Tryd.func29, Tryd.ntmps29
    go_wp2_with fail
    go_fit (HNX.out _)
    rintro e w2 ⟨rfl, hb2⟩
    have HB2 := Lib.hid (HB1.out.below hb2)
    have HK2 := Lib.hid (HK1.out.trans (keep_below _ hb2))
    have hl2 := HB2.out.lt
    obtain ⟨⟨d0, _, _⟩, g0, _, _⟩ := HB2.out.cells
    clear hb2
    go_wp2_with fail
    have HB3 := Lib.hid (HB2.out.set0 (.string ⟨#[]⟩))
    have HK3 := Lib.hid (HK2.out.trans (keep_R w2 R 0 (.string ⟨#[]⟩)))
    go_fit (HKY.out _ C.1)
    rintro e w3 ⟨u, rfl, hu, hb3⟩
    have HF := Lib.hid (fedh_key (R := R) (v := v) (p := .held noB) HK3.out hu hb3 HB3.out rfl)
    clear hu hb3
    go_wp2_with fail
    go_ret
    exact HF.out
  | false =>
    rw [hok] at HNX
    rw [if_neg (by decide)]
    clear hok HWH
    cases hbg : begB T with
    | true =>
      rw [hbg] at HBG
      rw [if_pos rfl]
      clear hbg
      go_enter Tryd.func29, Tryd.ntmps29
      go_wp2_with fail
      go_fit (HNX.out _)
      rintro e w2 ⟨rfl, hb2⟩
      have HB2 := Lib.hid (HB1.out.below hb2)
      have HK2 := Lib.hid (HK1.out.trans (keep_below _ hb2))
      have hl2 := HB2.out.lt
      obtain ⟨⟨d0, _, _⟩, g0, _, _⟩ := HB2.out.cells
      clear hb2
      go_wp2_with fail
      go_fit (HBG.out _)
      rintro e w3 ⟨rfl, hb3⟩
      have HB3 := Lib.hid (HB2.out.below hb3)
      have HK3 := Lib.hid (HK2.out.trans (keep_below _ hb3))
      have hl3 := HB3.out.lt
      obtain ⟨⟨m0, _, _⟩, n0, _, _⟩ := HB3.out.cells
      have cv3 := bytes_conv 28 Tryd.underlying28 ((row_byte 0 w3 b hb (Nat.zero_le _)).bytes)
      have hb4 := Lib.hid (alloc_below w3 (.cells #[.int .u8 (b : Int)] 5))
      clear hb3
      go_wp2_with fail
      go_ret
      exact fedh_none (p := .held (wt ++ oneS b)) ((HK3.out.trans (keep_R _ _ _ _)).trans (keep_below _ (alloc_below _ _))) ((HB3.out.set0 _).below (alloc_below _ _)) rfl
    | false =>
      rw [hbg] at HBG
      rw [if_neg (by decide)]
      clear hbg
      go_enter Tryd.func29, Tryd.ntmps29
      go_wp2_with fail
      go_fit (HNX.out _)
      rintro e w2 ⟨rfl, hb2⟩
      have HB2 := Lib.hid (HB1.out.below hb2)
      have HK2 := Lib.hid (HK1.out.trans (keep_below _ hb2))
      have hl2 := HB2.out.lt
      obtain ⟨⟨d0, _, _⟩, g0, _, _⟩ := HB2.out.cells
      clear hb2
      go_wp2_with fail
      go_fit (HBG.out _)
      rintro e w3 ⟨rfl, hb3⟩
      have HB3 := Lib.hid (HB2.out.below hb3)
      have HK3 := Lib.hid (HK2.out.trans (keep_below _ hb3))
      have HAA := Lib.hid (HAN.out w3 _ HB3.out)
      clear hb3
      go_wp2_with fail
      go_fit HAA.out
      rintro e w4 hf
      have HFf := Lib.hid (fedh_below HK3.out hf)
      obtain ⟨u, rfl, _⟩ := hf
      go_wp2_with fail
      go_ret
      exact HFf.out
end Go.Proofs.YtdnldfgolbcjiaaDoor
