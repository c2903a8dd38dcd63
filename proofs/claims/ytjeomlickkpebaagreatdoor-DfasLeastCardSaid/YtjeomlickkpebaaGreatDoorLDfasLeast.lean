/-
  limnerlaw12.DfasLeast: it returns true, for any rules and text.
-/
import Derived.Test.YtjeomlickkpebaaGreatDoorBe45
import Derived.Test.YtjeomlickkpebaaGreatDoorBe44
import Derived.Test.YtjeomlickkpebaaGreatDoorBe46
namespace Go.Proofs.YtjeomlickkpebaaGreatDoor
open Go.RowKit

set_option maxRecDepth 4000 in
set_option maxHeartbeats 16000000 in
theorem dfasLeast_any (v : Value) (L : List ByteArray) (s : ByteArray) (w : World) (he : EnvW w) (h : StrsW w v L) :
    Calls Tryz.prog 7 #[v, .string s] w fun e w' => e = .returned (.bool true) ∧ Below w.heap.size w w' := by
  have HTB := Lib.hid (fun (W : World) (hb : Below w.heap.size w W) => (tabled_any (he.below hb)).mono fun e w' h2 => (⟨h2.1, hb.trans (h2.2.mono hb.size)⟩ : e = .returned (.bool true) ∧ Below w.heap.size w w'))
  have HG := Lib.hid (greatd_any h)
  have HMD := Lib.hid (dmade_any h he)
  obtain ⟨vo, vc, rfl, hvc⟩ := h.form
  obtain ⟨m, hm⟩ : ∃ m, L.length = m := ⟨_, rfl⟩
  rw [hm] at hvc HG HMD ⊢
  obtain ⟨gb, hgb⟩ : ∃ gb, greatD L = gb := ⟨_, rfl⟩
  rw [hgb] at HG
  clear h hm hgb
  cases gb with
  | true =>
    go_enter Tryz.func7, Tryz.ntmps7
    go_wp2_with fail
    go_fit HG.out
    rintro e w1 ⟨rfl, rfl⟩
    have HX := Lib.hid (HTB.out _ (Below.refl _ _))
    clear HMD HTB
    go_wp2_with fail
    go_fit HX.out
    rintro e w9 ⟨rfl, hb⟩
    have HB := Lib.hid hb
    clear hb
    go_wp2_with fail
    go_ret
    exact ⟨rfl, HB.out⟩
  | false =>
  by_cases hs9 : 100 < s.size
  · have hsi : (s.size : Int) > 100 := by omega
    go_enter Tryz.func7, Tryz.ntmps7
    go_wp2_with fail
    go_fit HG.out
    rintro e w1 ⟨rfl, rfl⟩
    have HX := Lib.hid (HTB.out _ (Below.refl _ _))
    clear HMD HTB
    go_wp2_with fail
    go_fit HX.out
    rintro e w9 ⟨rfl, hb⟩
    have HB := Lib.hid hb
    clear hb
    go_wp2_with fail
    go_ret
    exact ⟨rfl, HB.out⟩
  have hsi : ¬ (s.size : Int) > 100 := by omega
  go_enter Tryz.func7, Tryz.ntmps7
  go_wp2_with fail
  go_fit HG.out
  rintro e w1 ⟨rfl, rfl⟩
  go_wp2_with fail
  go_fit HMD.out
  rintro e w3 ⟨ho, hb3⟩
  have H3 := Lib.hid hb3
  clear hb3 HMD HG
  rcases ho with ⟨hne, rfl⟩ | ⟨h0, np, hnp, ⟨dp, k, rfl, hD, hk⟩ | ⟨rfl, ls, h4, h5, h6⟩⟩
  · obtain ⟨er, her⟩ : ∃ er, makeE L = er := ⟨_, rfl⟩
    rw [her] at hne ⊢
    have heb : (er == 0) = false := beq_eq_false_iff_ne.2 hne
    have heb2 : (er != 0) = true := by simpa using hne
    clear her hne
    have HX := Lib.hid (HTB.out _ H3.out)
    clear HTB
    go_wp2_with fail
    go_fit HX.out
    rintro e w9 ⟨rfl, hb⟩
    have HB := Lib.hid hb
    clear hb
    go_wp2_with fail
    go_ret
    exact ⟨rfl, HB.out⟩
  · have HD := Lib.hid (And.intro hD (And.intro hnp (And.intro hk h0)))
    clear hD hnp hk h0
    have HMN := Lib.hid (pdmin_any HD.out.1)
    go_wp2_with fail
    go_fit HMN.out
    rintro e w5 ⟨xp, M, rfl, hX, hXi, hb5⟩
    have hfew := min_few hXi HD.out.1.ok fun _ => rfl
    have hpos := hXi.ok.pos
    have H5 := Lib.hid (And.intro (HD.out.1.below hb5) (And.intro hX (And.intro hXi (H3.out.trans (hb5.mono H3.out.size)))))
    have HNB := Lib.hid (And.intro hfew hpos)
    have HSM := Lib.hid (pdstates_any hX)
    have HSM2 : Hid (∀ W, Below w5.heap.size w5 W → Calls Tryz.prog 16 #[.pointer xp] W fun e w' => e = .returned (.int .i64 (M.n : Int)) ∧ Below W.heap.size W w') := Lib.hid fun W hb => pdstates_any (hX.below hb)
    have HSD : Hid (∀ W, Below w5.heap.size w5 W → Calls Tryz.prog 16 #[.pointer dp] W fun e w' => e = .returned (.int .i64 ((tabL L k).n : Int)) ∧ Below W.heap.size W w') := Lib.hid fun W hb => pdstates_any (H5.out.1.below hb)
    have HMM : Hid (∀ W, Below w5.heap.size w5 W → Calls Tryz.prog 15 #[.pointer xp] W fun e w' => ∃ p, e = .returned (.pointer p) ∧ DfW w' (.pointer p) M ∧ Below W.heap.size W w') := Lib.hid fun W hb => (pdmin_any (hX.below hb)).mono fun e w' ⟨p, M2, h1, h2, h3, h4⟩ => by
      have e2 : M2 = M := min_unique (h3.conv fun w => H5.out.2.2.1.says w) H5.out.2.2.1
      subst e2
      exact ⟨p, h1, h2, h4⟩
    obtain ⟨n1, hn1⟩ : ∃ n : Int, (M.n : Int) = n := ⟨_, rfl⟩
    obtain ⟨n2, hn2⟩ : ∃ n : Int, ((tabL L k).n : Int) = n := ⟨_, rfl⟩
    rw [hn1] at HSM HSM2
    rw [hn2] at HSD
    have hc1 : decide (n1 < 1) = false := decide_eq_false (by omega)
    have hc2 : decide (n2 < n1) = false := decide_eq_false (by omega)
    have hc3 : ¬ n1 < 1 := by omega
    have hc4 : ¬ n1 > n2 := by omega
    clear hX hXi hb5 hn1 hn2 hfew hpos HMN
    go_wp2_with fail
    go_fit HSM.out
    rintro e w6 ⟨rfl, hb⟩
    have H6 := Lib.hid hb
    clear hb HSM
    go_wp2_with fail
    go_fit (HSM2.out _ H6.out)
    rintro e w7 ⟨rfl, hb⟩
    have H7 := Lib.hid (H6.out.trans (hb.mono H6.out.size))
    clear hb H6
    go_wp2_with fail
    go_fit (HSD.out _ H7.out)
    rintro e w8 ⟨rfl, hb⟩
    have H8 := Lib.hid (H7.out.trans (hb.mono H7.out.size))
    clear hb H7
    go_wp2_with fail
    go_fit (HMM.out _ H8.out)
    rintro e w9 ⟨p2, rfl, hM2, hb⟩
    have H9 := Lib.hid (H8.out.trans (hb.mono H8.out.size))
    have HAL := Lib.hid (dalike_any (H5.out.2.1.below H9.out) hM2)
    clear hb H8 hM2
    go_wp2_with fail
    go_fit HAL.out
    rintro e wA ⟨rfl, rfl⟩
    clear HAL HMM HSM2 HSD
    go_wp2_with fail
    go_loopw [9] (fun s9 wr => ∃ i : Nat, s9 = .int .i64 (i : Int) ∧ i ≤ s.size + 1 ∧ Hid (Below w5.heap.size w5 wr)) (fun s9 _ => s.size + 1 - (intOf s9).toNat)
    case atStart => exact ⟨0, rfl, Nat.zero_le _, H9⟩
    case round =>
      obtain ⟨i, rfl, hi, HX⟩ := hrel
      clear H9
      have i0 : (0 : Int) ≤ (i : Int) := by omega
      have ib : (i : Int) ≤ 101 := by omega
      by_cases hlt : i ≤ s.size
      · have hli : (i : Int) ≤ (s.size : Int) := by omega
        obtain ⟨x, y, c, z, e1, e2, e3, x0, xz, zc⟩ := mda_least L HD.out.1.ok (says_tab HD.out.2.2.1) H5.out.2.2.1 s (i : Int)
        have M1 := pdmatch_any (H5.out.1.below HX.out) s (by omega) (i : Int)
        rw [e1] at M1
        have M1 := Lib.hid M1
        have M2 : Hid (∀ W, Below w5.heap.size w5 W → Calls Tryz.prog 20 #[.pointer xp, .string s, .int .i64 (i : Int)] W fun e w' => e = .returned (.tuple #[.int .i64 x, .int .i64 y, .int .i64 z]) ∧ Below W.heap.size W w') := Lib.hid fun W hb =>
          (pdmatch_any (H5.out.2.1.below hb) s (by omega) (i : Int)).mono fun e w' h2 => ⟨by rw [h2.1, e2], h2.2⟩
        have c1 : ¬ z > c := by omega
        have c2 : ¬ x > z := by omega
        have xx : (x != x) = false := by simp
        have yy : (y != y) = false := by simp
        have xx2 : (x == x) = true := by simp
        have yy2 : (y == y) = true := by simp
        clear e1 e2 e3 x0 xz zc
        go_wp2_with fail
        go_fit M1.out
        rintro e wB ⟨rfl, hb⟩
        have HBB := Lib.hid (HX.out.trans (hb.mono HX.out.size))
        clear hb HX M1
        go_wp2_with fail
        go_fit (M2.out _ HBB.out)
        rintro e wC ⟨rfl, hb⟩
        have HC := Lib.hid (HBB.out.trans (hb.mono HBB.out.size))
        clear hb HBB M2
        go_wp2_with fail
        go_roundw
        case rel => exact ⟨i + 1, by go_num, by omega, HC⟩
        case measure => simp [intOf] <;> omega
      · have hli : ¬ (i : Int) ≤ (s.size : Int) := by omega
        have HX2 := Lib.hid (HTB.out _ (H5.out.2.2.2.trans (HX.out.mono H5.out.2.2.2.size)))
        clear HTB
        go_wp2_with fail
        go_fit HX2.out
        rintro e w9 ⟨rfl, hb⟩
        have HB := Lib.hid hb
        clear hb
        go_wp2_with fail
        go_ret
        exact ⟨rfl, HB.out⟩
  · have HX := Lib.hid (HTB.out _ H3.out)
    clear HTB h4 h5 h6 hnp h0
    go_wp2_with fail
    go_fit HX.out
    rintro e w9 ⟨rfl, hb⟩
    have HB := Lib.hid hb
    clear hb
    go_wp2_with fail
    go_ret
    exact ⟨rfl, HB.out⟩
end Go.Proofs.YtjeomlickkpebaaGreatDoor
