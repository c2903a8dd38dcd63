/-
  limnerref09.Clean: what it returns: for every text.
-/
import Derived.Test.YtdnldfgolbcjiaaDoorBe25
import Derived.Test.YtdnldfgolbcjiaaDoorBe41
import Derived.Test.YtdnldfgolbcjiaaDoorBe42
namespace Go.Proofs.YtdnldfgolbcjiaaDoor
open Go.RowKit

theorem app_no (s : ByteArray) : s ++ noB = s := ba_eq.2 (by rw [app_data]; show (s.data.toList ++ []).map _ = _; rw [List.append_nil])
theorem posN_small (s : ByteArray) (i : Nat) (h : i < (stA s).length) : posN s i < s.size := (posN_lt s i).1 h
set_option maxRecDepth 10000 in
set_option maxHeartbeats 8000000 in
theorem rclean_any (s : ByteArray) (w : World) (hs : s.size ≤ 100000) :
    Calls Tryd.prog 18 #[.string s] w fun e w' => e = .returned (.string (cleanB s)) ∧ Below w.heap.size w w' := by
  have HST := Lib.hid (refStarts_any s w (by omega))
  have HNX := Lib.hid (fun (p : Nat) W (h : p < s.size) => refNext_in s p W h (by unfold maxLen; omega))
  have HOF := Lib.hid (fun (r : Nat) W => refOf_any (r : Int) W)
  go_enter Tryd.func18, Tryd.ntmps18
  go_wp2_with fail
  go_fit HST.out
  rintro e w1 ⟨v, rfl, hO, hb1⟩
  obtain ⟨ao, ca, rfl, hcs⟩ := slice_of hO
  have hsl := stA_length s
  have HCS : Hid (∀ i, i < (stA s).length → ∃ g, ao = some ⟨g, 0, none⟩ ∧ (stA s).length ≤ ca ∧ ∀ W, Below w1.heap.size w1 W → W.cell? ⟨g, i, none⟩ = some (.int .i64 ((posN s i : Nat) : Int))) := fun i hi => by
    rcases hcs with h0 | ⟨g, rfl, hg, hca, _, hc⟩
    · omega
    · refine ⟨g, rfl, hca, fun W hW => ?_⟩
      rw [hW.cell (p := ⟨g, i, none⟩) hg, hc i hi, stA_getD s i hi]
  have HB1 := Lib.hid hb1
  have H0 : Hid (Below w1.heap.size w1 w1) := Below.refl _ _
  have HCB : Hid (cleanB s = cleanL s ((stA s).take (stA s).length)) := by show cleanB s = _; rw [List.take_length]; rfl
  have HSTP := Lib.hid (fun i (h : i < (stA s).length) => cleanL_step s i h)
  have HSIZ := Lib.hid (fun i (h : i ≤ (stA s).length) => cleanL_size s i h)
  have HPS := Lib.hid (fun i (h : i < (stA s).length) => posN_small s i h)
  have HPL := Lib.hid (fun i => posN_le s i)
  obtain ⟨n, hn⟩ : ∃ n, (stA s).length = n := ⟨_, rfl⟩
  rw [hn] at HCS HCB HSTP HSIZ HPS hsl ⊢
  clear hcs hO hb1 HST hn
  go_wp2
  go_loopw [4, 5] (fun s4 s5 wr => ∃ i : Nat, s5 = .int .i64 (i : Int) ∧ i ≤ n ∧ s4 = .string (cleanL s ((stA s).take i)) ∧ Hid (Below w1.heap.size w1 wr)) (fun _ s5 _ => n - (intOf s5).toNat)
  case atStart => exact ⟨0, rfl, Nat.zero_le _, rfl, H0⟩
  case round =>
    obtain ⟨i, rfl, hi, rfl, HBW⟩ := hrel
    clear H0
    by_cases hlt : i < n
    · obtain ⟨g, rfl, hca, hcc⟩ := HCS.out i hlt
      have hp := HPS.out i hlt
      have HCC := Lib.hid (fun W (h : Below wr.heap.size wr W) => hcc W (HBW.out.trans (h.mono HBW.out.size)))
      have c0 := HCC.out wr (Below.refl _ _)
      have hst := HSTP.out i hlt
      have hLs := Nat.le_trans (HSIZ.out i hi) (HPL.out i)
      have hN := HNX.out (posN s i) wr hp
      have hCL : clean1 s (posN s i) = if (Utf8.decode s (posN s i)).1 = 13 then oneS 10 else if okAt s (posN s i) = true ∧ ((Utf8.decode s (posN s i)).1 = 10 ∨ (Utf8.decode s (posN s i)).1 = 9 ∨ 0 < ofN ((Utf8.decode s (posN s i)).1 : Int)) then s.extract (posN s i) (posN s i + (Utf8.decode s (posN s i)).2) else noB := rfl
      obtain ⟨hw1, hw2⟩ := decW s (posN s i) hp
      have hok0 : okAt s (posN s i) = false → (Utf8.decode s (posN s i)).1 = 65533 := fun h => by
        unfold okAt at h
        have h2 : ((Utf8.decode s (posN s i)).1 = 65533 ∧ (Utf8.decode s (posN s i)).2 = 1) := by simpa using h
        exact h2.1
      obtain ⟨p, hpp⟩ : ∃ p, posN s i = p := ⟨_, rfl⟩
      rw [hpp] at hp hN hCL hw1 hw2 c0 hst hok0
      obtain ⟨R, hR⟩ : ∃ R, (Utf8.decode s p).1 = R := ⟨_, rfl⟩
      obtain ⟨K, hK⟩ : ∃ K, (Utf8.decode s p).2 = K := ⟨_, rfl⟩
      obtain ⟨OK, hOK⟩ : ∃ OK, okAt s p = OK := ⟨_, rfl⟩
      rw [hR, hK, hOK] at hN hCL
      rw [hK] at hw1 hw2
      rw [hR, hOK] at hok0
      obtain ⟨T, hT⟩ : ∃ T, cleanL s ((stA s).take i) = T := ⟨_, rfl⟩
      rw [hT] at hst hLs ⊢
      obtain ⟨C, hC⟩ : ∃ C, clean1 s p = C := ⟨_, rfl⟩
      rw [hC] at hst hCL
      obtain ⟨x, hx⟩ : ∃ x, p + K = x := ⟨_, rfl⟩
      have hx1 : (p : Int) + (K : Int) = (x : Int) := by omega
      have hxs : (x : Int) ≤ (s.size : Int) := by omega
      have hpx : (p : Int) ≤ (x : Int) := by omega
      have hp0 : (0 : Int) ≤ (p : Int) := by omega
      rw [hx] at hCL
      have hex : (s.extract p x).size ≤ 100000 := by rw [ByteArray.size_extract]; omega
      have hT5 : T.size ≤ 100000 := by omega
      have k1 : (i : Int) < (n : Int) := by omega
      have k0 : (0 : Int) ≤ (i : Int) := by omega
      have HN := Lib.hid hN
      have HSt := Lib.hid hst
      have HCL := Lib.hid hCL
      have HCP : Hid (∀ W, Below wr.heap.size wr W → W.cell? ⟨g, i, none⟩ = some (.int .i64 (p : Int))) := fun W hW => by rw [← hpp]; exact HCC.out W hW
      clear hN hst hCL hR hK hOK hT hC hx hcc HCC hpp hw1 hw2 HNX
      by_cases e13 : R = 13
      · have HC : Hid (C = oneS 10) := by show C = _; rw [HCL.out, if_pos e13]
        have hOKt : OK = true := by cases OK; have := hok0 rfl; omega; rfl
        subst e13
        subst hOKt
        have z : (oneS 10).size = 1 := rfl
        have e10 : (⟨#[10]⟩ : ByteArray) = oneS 10 := rfl
        go_wp2_with fail
        go_fit HN.out
        rintro e w3 ⟨rfl, hb3⟩
        have HB3 := Lib.hid hb3
        clear hb3
        go_wp2_with fail
        go_roundw
        case rel => exact ⟨i + 1, by go_num, by omega, by rw [HSt.out, HC.out], HBW.out.trans ((HB3.out).mono HBW.out.size)⟩
        case measure => simp [intOf]; omega
      have i13 : ((R : Int) == 13) = false := u8_no e13
      rw [if_neg e13] at HCL
      cases OK with
      | false =>
        have HC : Hid (C = noB) := by show C = _; rw [HCL.out]; rfl
        go_wp2_with fail
        go_fit HN.out
        rintro e w3 ⟨rfl, hb3⟩
        have HB3 := Lib.hid hb3
        clear hb3
        go_wp2_with fail
        go_roundw
        case rel => exact ⟨i + 1, by go_num, by omega, by rw [HSt.out, HC.out, app_no], HBW.out.trans ((HB3.out).mono HBW.out.size)⟩
        case measure => simp [intOf]; omega
      | true =>
        by_cases e10 : R = 10
        · have HC : Hid (C = s.extract p x) := by show C = _; rw [HCL.out, if_pos ⟨rfl, .inl e10⟩]
          subst e10
          go_wp2_with fail
          go_fit HN.out
          rintro e w3 ⟨rfl, hb3⟩
          have HB3 := Lib.hid hb3
          clear hb3
          have c3 := HCP.out w3 HB3.out
          go_wp2_with fail
          go_quiet (fail)
          go_wp2_with fail
          go_roundw
          case rel => exact ⟨i + 1, by go_num, by omega, by rw [HSt.out, HC.out], HBW.out.trans ((below_drewN HB3.out _).mono HBW.out.size)⟩
          case measure => simp [intOf]; omega
        have i10 : ((R : Int) == 10) = false := u8_no e10
        by_cases e9 : R = 9
        · have HC : Hid (C = s.extract p x) := by show C = _; rw [HCL.out, if_pos ⟨rfl, .inr (.inl e9)⟩]
          subst e9
          go_wp2_with fail
          go_fit HN.out
          rintro e w3 ⟨rfl, hb3⟩
          have HB3 := Lib.hid hb3
          clear hb3
          have c3 := HCP.out w3 HB3.out
          go_wp2_with fail
          go_quiet (fail)
          go_wp2_with fail
          go_roundw
          case rel => exact ⟨i + 1, by go_num, by omega, by rw [HSt.out, HC.out], HBW.out.trans ((below_drewN HB3.out _).mono HBW.out.size)⟩
          case measure => simp [intOf]; omega
        have i9 : ((R : Int) == 9) = false := u8_no e9
        have HOR := Lib.hid (HOF.out R)
        by_cases eo : 0 < ofN (R : Int)
        · have HC : Hid (C = s.extract p x) := by show C = _; rw [HCL.out, if_pos ⟨rfl, .inr (.inr eo)⟩]
          obtain ⟨o, ho⟩ : ∃ o, ofN (R : Int) = o := ⟨_, rfl⟩
          rw [ho] at HOR eo
          have io : (0 : Int) < (o : Int) := by omega
          clear ho HCL HOF
          go_wp2_with fail
          go_fit HN.out
          rintro e w3 ⟨rfl, hb3⟩
          have HB3 := Lib.hid hb3
          clear hb3
          go_wp2_with fail
          go_fit (HOR.out _)
          rintro e w4 ⟨rfl, hb4⟩
          have HB4 := Lib.hid (HB3.out.trans (hb4.mono HB3.out.size))
          have c4 := HCP.out w4 HB4.out
          clear hb4
          go_wp2_with fail
          go_quiet (fail)
          go_wp2_with fail
          go_roundw
          case rel => exact ⟨i + 1, by go_num, by omega, by rw [HSt.out, HC.out], HBW.out.trans ((below_drewN HB4.out _).mono HBW.out.size)⟩
          case measure => simp [intOf]; omega
        · have HC : Hid (C = noB) := by show C = _; rw [HCL.out, if_neg (fun h => by rcases h.2 with h | h | h; exact e10 h; exact e9 h; exact eo h)]
          obtain ⟨o, ho⟩ : ∃ o, ofN (R : Int) = o := ⟨_, rfl⟩
          rw [ho] at HOR eo
          have io : (o : Int) = 0 := by omega
          rw [io] at HOR
          clear ho HCL HOF
          go_wp2_with fail
          go_fit HN.out
          rintro e w3 ⟨rfl, hb3⟩
          have HB3 := Lib.hid hb3
          clear hb3
          go_wp2_with fail
          go_fit (HOR.out _)
          rintro e w4 ⟨rfl, hb4⟩
          have HB4 := Lib.hid (HB3.out.trans (hb4.mono HB3.out.size))
          clear hb4
          go_wp2_with fail
          go_roundw
          case rel => exact ⟨i + 1, by go_num, by omega, by rw [HSt.out, HC.out, app_no], HBW.out.trans ((HB4.out).mono HBW.out.size)⟩
          case measure => simp [intOf]; omega
    · have k1 : (n : Int) ≤ (i : Int) := by omega
      have hin : i = n := by omega
      rw [hin, ← HCB.out]
      have HBB := Lib.hid (HB1.out.trans (HBW.out.mono HB1.out.size))
      go_wp2_with fail
      go_ret
      exact ⟨rfl, HBB.out⟩
end Go.Proofs.YtdnldfgolbcjiaaDoor
