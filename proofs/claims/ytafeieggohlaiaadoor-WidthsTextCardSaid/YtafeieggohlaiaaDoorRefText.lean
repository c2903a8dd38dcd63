/-
  limnerref02.Text: what it returns: for every text of at most a million bytes.
-/
import Derived.Test.YtafeieggohlaiaaDoorRefOf
import Derived.Test.YtafeieggohlaiaaDoorRefStarts
import Derived.Test.YtafeieggohlaiaaDoorTextN
namespace Go.Proofs.YtafeieggohlaiaaDoor
open Go.RowKit

set_option maxHeartbeats 2000000 in
theorem refText_any (s : ByteArray) (w : World) (hs : s.size ≤ 1000000) :
    Calls Tryd.prog 16 #[.string s] w fun e w' => e = .returned (.int .i64 (txN s : Int)) ∧ Below w.heap.size w w' := by
  have hmx : s.size ≤ maxLen := by unfold maxLen; omega
  have hS := Lib.hid (fun w => refStarts_any s w hs)
  have hlen := stA_length s
  have hlt := Lib.hid (stA_getD_lt s)
  have HD := Lib.hid (txL_drop s (stA s))
  have HA : Hid (0 + txL s ((stA s).drop 0) = txN s) := by show _ = _; rw [Nat.zero_add]; rfl
  obtain ⟨l, hl⟩ : ∃ l, stA s = l := ⟨_, rfl⟩
  rw [hl] at hS hlen hlt HD HA
  clear hl
  obtain ⟨B, hB⟩ : ∃ B, txN s = B := ⟨_, rfl⟩
  rw [hB] at HA
  rw [hB]
  clear hB
  go_enter Tryd.func16, Tryd.ntmps16
  go_wp2_with fail
  refine (hS.out _).mono ?_
  rintro e w1 ⟨v, rfl, hown, hb1⟩
  obtain ⟨A, ca, rfl, hv⟩ := slice_of hown
  clear hS hown
  obtain ⟨n, hn⟩ : ∃ n, l.length = n := ⟨_, rfl⟩
  rw [hn] at hv hlen hlt
  have HN := Lib.hid hn
  have HV := Lib.hid hv
  have hsz := hb1.size
  rw [hn]
  clear hn hv
  go_wp2_with fail
  go_loopw [4, 5] (fun c i wr => ∃ j a : Nat, i = .int .i64 (j : Int) ∧ c = .int .i64 (a : Int) ∧ j ≤ n ∧ a ≤ 2 * j ∧ Below w1.heap.size w1 wr ∧ Hid (a + txL s (l.drop j) = B)) (fun _ i _ => n - (intOf i).toNat)
  case atStart => exact ⟨0, 0, rfl, rfl, by omega, by omega, Below.refl _ _, HA⟩
  case round =>
    obtain ⟨j, a, rfl, rfl, hj, ha, hbw, HS⟩ := hrel
    by_cases hp : j < n
    · rcases HV.out with h | ⟨g, rfl, hg, hca, hcm, hcell⟩
      · omega
      have hc : wr.cell? ⟨g, j, none⟩ = some (.int .i64 ((l.getD j 0 : Nat) : Int)) := by rw [hbw.cell (p := ⟨g, j, none⟩) hg]; exact hcell j hp
      have hx := hlt.out j hp
      have hd := HD.out j (by rw [HN.out]; exact hp)
      have hd2 := HS.out
      rw [hd] at hd2
      obtain ⟨x, hxe⟩ : ∃ x, l.getD j 0 = x := ⟨_, rfl⟩
      rw [hxe] at hc hx hd2
      have hnx := fun w => refNext_in s x w hx hmx
      obtain ⟨R, hR⟩ : ∃ R, (Utf8.decode s x).1 = R := ⟨_, rfl⟩
      rw [hR] at hnx hd2
      have HNX := Lib.hid hnx
      have hos := of_sh (R : Int)
      have h1 := fun w => refShown_any (R : Int) w
      have h2 := fun w => refOf_any (shI (R : Int)) w
      obtain ⟨sh, hsh⟩ : ∃ sh, shI (R : Int) = sh := ⟨_, rfl⟩
      obtain ⟨y, hy⟩ : ∃ y, ofN sh = y := ⟨_, rfl⟩
      rw [hsh] at h1 h2 hd2 hos
      rw [hy] at h2 hd2 hos
      have H1 := Lib.hid h1
      have H2 := Lib.hid h2
      have HE : Hid (a + y + txL s (l.drop (j + 1)) = B) := by show _ = _; rw [← hd2]; omega
      clear hxe hcell HS HV hd hd2 hnx hR h1 h2 hsh hy
      go_wp2_with fail
      refine (HNX.out _).mono ?_
      rintro e w2 ⟨rfl, hb2⟩
      have hbw2 := hbw.trans (hb2.mono hbw.size)
      clear hb2 hc hbw
      go_wp2_with fail
      refine (H1.out _).mono ?_
      rintro e w3 ⟨rfl, hb3⟩
      have hbw3 := hbw2.trans (hb3.mono hbw2.size)
      clear hb3 hbw2
      go_wp2_with fail
      refine (H2.out _).mono ?_
      rintro e w4 ⟨rfl, hb4⟩
      have hbw4 := hbw3.trans (hb4.mono hbw3.size)
      clear hb4 hbw3
      go_wp2_with fail
      go_roundw
      case rel => exact ⟨j + 1, a + y, by go_num, by go_num, by omega, by omega, hbw4, HE⟩
      case measure => simp [intOf]; omega
    · have HE : Hid (a = B) := by
        have := HS.out
        rw [List.drop_of_length_le (by rw [HN.out]; omega)] at this
        exact this
      clear HS HV
      go_wp2
      go_ret
      exact ⟨by rw [← HE.out]; rfl, hb1.trans (hbw.mono hsz)⟩
end Go.Proofs.YtafeieggohlaiaaDoor
