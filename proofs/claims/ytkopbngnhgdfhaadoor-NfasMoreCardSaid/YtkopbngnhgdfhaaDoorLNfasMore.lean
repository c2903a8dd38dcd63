/-
  limnerlaw11.NfasMore: it returns true, for any rules, another one and a text.
-/
import Derived.Test.YtkopbngnhgdfhaaDoorBe38
import Derived.Test.YtkopbngnhgdfhaaDoorBe47
namespace Go.Proofs.YtkopbngnhgdfhaaDoor
open Go.RowKit

set_option maxRecDepth 4000 in
set_option maxHeartbeats 8000000 in
theorem nfasMore_any (v : Value) (L : List ByteArray) (x s : ByteArray) (w : World) (he : ErrW w) (h : StrsW w v L) :
    Calls Tryd.prog 7 #[v, .string x, .string s] w fun e w' => e = .returned (.bool true) ∧ Below w.heap.size w w' := by
  obtain ⟨vo, vc, rfl, hvc⟩ := h.form
  have HMA := Lib.hid (fun (W : World) (hb : Below w.heap.size w W) => (matched_any (he.below hb)).mono fun e w' h2 => (⟨h2.1, hb.trans (h2.2.mono hb.size)⟩ : e = .returned (.bool true) ∧ Below w.heap.size w w'))
  have HG := Lib.hid (great_any h)
  have HMK := Lib.hid (nmake_any h he)
  have HM2 := Lib.hid (fun (W : World) (u : Value) (hb : Below w.heap.size w W) (hu : StrsW W u (L ++ [x])) => nmake_any hu (he.below hb))
  have HGR := Lib.hid (@great_false L)
  have HAP : Hid (L.length ≤ 8 → ∀ W, Below w.heap.size w W → ∃ v1 w1, (Builtin.append_ #[34, 34] 34 #[.slice none 0 0, .slice vo L.length vc]).run Tryd.prog W = .ok v1 w1 ∧
      ∃ v2 w2, (Builtin.append_ #[34, 34] 34 #[v1, .slice (some ⟨w1.heap.size, 0, none⟩) 1 1]).run Tryd.prog (w1.alloc (.cells #[.string x] 9)) = .ok v2 w2 ∧ StrsW w2 v2 (L ++ [x]) ∧ Below W.heap.size W w2) := Lib.hid fun hl W hb => by
    obtain ⟨v1, w1, h1, v2, w2, h2, h3, h4⟩ := run_more x (h.below hb) (by omega)
    exact ⟨v1, w1, h1, v2, w2, h2, h3, h4⟩
  have HMM := Lib.hid (fun (h1 : makeE L = 0) (h2 : makeE (L ++ [x]) = 0) (a : Int) => more_match h1 h2 s a)
  have HGD := Lib.hid (@make_good L)
  have HGE := Lib.hid (@make_good (L ++ [x]))
  obtain ⟨L2, hL2⟩ : ∃ L2, L ++ [x] = L2 := ⟨_, rfl⟩
  rw [hL2] at HM2 HAP HMM HGE
  obtain ⟨m, hm⟩ : ∃ m, L.length = m := ⟨_, rfl⟩
  rw [hm] at hvc HG HMK HAP HMM HGR ⊢
  obtain ⟨gb, hgb⟩ : ∃ gb, greatB L = gb := ⟨_, rfl⟩
  rw [hgb] at HG HGR
  obtain ⟨er, her⟩ : ∃ er, makeE L = er := ⟨_, rfl⟩
  rw [her] at HMK HMM HGD
  obtain ⟨fr, hfr⟩ : ∃ fr, makeE L2 = fr := ⟨_, rfl⟩
  rw [hfr] at HM2 HMM HGE
  clear h hm he her hgb hfr hL2
  cases gb with
  | true =>
    have HX := Lib.hid (HMA.out _ (Below.refl _ _))
    clear HMA HMK HM2 HGR HAP HMM HGD HGE
    go_enter Tryd.func7, Tryd.ntmps7
    go_wp2_with fail
    go_fit HG.out
    rintro e w1 ⟨rfl, rfl⟩
    go_wp2_with fail
    go_fit HX.out
    rintro e w1 ⟨rfl, hb⟩
    have HB := Lib.hid hb
    clear hb
    go_wp2_with fail
    go_ret
    exact ⟨rfl, HB.out⟩
  | false =>
  by_cases hx60 : 60 < x.size
  · have hxi : (x.size : Int) > 60 := by omega
    have HX := Lib.hid (HMA.out _ (Below.refl _ _))
    clear HMA HMK HM2 HGR HAP HMM HGD HGE hx60
    go_enter Tryd.func7, Tryd.ntmps7
    go_wp2_with fail
    go_fit HG.out
    rintro e w1 ⟨rfl, rfl⟩
    go_wp2_with fail
    go_fit HX.out
    rintro e w1 ⟨rfl, hb⟩
    have HB := Lib.hid hb
    clear hb
    go_wp2_with fail
    go_ret
    exact ⟨rfl, HB.out⟩
  have hxi : ¬ (x.size : Int) > 60 := by omega
  by_cases hs60 : 60 < s.size
  · have hsi : (s.size : Int) > 60 := by omega
    have HX := Lib.hid (HMA.out _ (Below.refl _ _))
    clear HMA HMK HM2 HGR HAP HMM HGD HGE hx60 hs60
    go_enter Tryd.func7, Tryd.ntmps7
    go_wp2_with fail
    go_fit HG.out
    rintro e w1 ⟨rfl, rfl⟩
    go_wp2_with fail
    go_fit HX.out
    rintro e w1 ⟨rfl, hb⟩
    have HB := Lib.hid hb
    clear hb
    go_wp2_with fail
    go_ret
    exact ⟨rfl, HB.out⟩
  have hsi : ¬ (s.size : Int) > 60 := by omega
  have HS60 := Lib.hid hs60
  have HM8 := Lib.hid (HGR.out rfl).1
  clear hs60 hx60 HGR
  go_enter Tryd.func7, Tryd.ntmps7
  go_wp2_with fail
  go_fit HG.out
  rintro e w1 ⟨rfl, rfl⟩
  go_wp2_with fail
  go_fit HMK.out
  rintro e w2 ⟨p, rfl, hp, _, hb2⟩
  obtain ⟨v1, W1, hr1, v2, W2, hr2, hst, hb4⟩ := HAP.out HM8.out w2 hb2
  have H4 := Lib.hid (And.intro hst (hb2.trans (hb4.mono hb2.size)))
  have HP := Lib.hid (show er = 0 → NfaR W2 (.pointer p) (quE L) (fiE L) from fun e => (hp e).2.below hb4)
  clear hst hb2 hb4 HMK HAP hp
  go_wp2_with (at_builtin; first | refine napp_list (by rfl) _ _ 34 (by rfl) (by rfl) (by rfl) hr1 ?_ | refine napp_list (by rfl) _ _ 34 (by rfl) (by rfl) (by rfl) hr2 ?_)
  go_fit (HM2.out _ _ H4.out.2 H4.out.1)
  rintro e w5 ⟨p2, rfl, hp2, _, hb5⟩
  have HP2 := Lib.hid (show fr = 0 → NfaR w5 (.pointer p2) (quE L2) (fiE L2) from fun e => (hp2 e).2)
  have HP1 := Lib.hid (show er = 0 → NfaR w5 (.pointer p) (quE L) (fiE L) from fun e => (HP.out e).below hb5)
  have H5 := Lib.hid (H4.out.2.trans (hb5.mono H4.out.2.size))
  clear hr1 hr2 hp2 hb5 HP H4 HM2
  by_cases h0 : er = 0
  · by_cases h1 : fr = 0
    · subst h0 h1
      have HGD1 := Lib.hid (HGD.out rfl).1
      have HGE1 := Lib.hid (HGE.out rfl).1
      have HR1 := Lib.hid (HP1.out rfl)
      have HR2 := Lib.hid (HP2.out rfl)
      have HMM1 := Lib.hid (HMM.out rfl rfl)
      have HA1 : Hid (∀ (W : World) (a : Int), Below w5.heap.size w5 W → Calls Tryd.prog 17 #[.pointer p, .string s, .int .i64 a] W fun e w' => e = .returned (.tuple #[.int .i64 (matchA (quE L) (fiE L) s a).1, .int .i64 (matchA (quE L) (fiE L) s a).2]) ∧ Below W.heap.size W w') := Lib.hid fun W a hb =>
        nmatch_any (.inr (HR1.out.below hb)) HGD1.out.ok HGD1.out.in_ s (by have := HS60.out; omega) a
      have HA2 : Hid (∀ (W : World) (a : Int), Below w5.heap.size w5 W → Calls Tryd.prog 17 #[.pointer p2, .string s, .int .i64 a] W fun e w' => e = .returned (.tuple #[.int .i64 (matchA (quE L2) (fiE L2) s a).1, .int .i64 (matchA (quE L2) (fiE L2) s a).2]) ∧ Below W.heap.size W w') := Lib.hid fun W a hb =>
        nmatch_any (.inr (HR2.out.below hb)) HGE1.out.ok HGE1.out.in_ s (by have := HS60.out; omega) a
      have H0 := Lib.hid (Below.refl w5.heap.size w5)
      clear HGD HGE HP1 HP2 HMM HGD1 HGE1 HR1 HR2
      go_wp2_with fail
      go_loopw [11] (fun s11 wr => ∃ (j : Nat), s11 = .int .i64 (j : Int) ∧ j ≤ s.size + 1 ∧ Hid (Below w5.heap.size w5 wr)) (fun s11 _ => s.size + 1 - (intOf s11).toNat)
      case atStart => exact ⟨0, rfl, by omega, H0⟩
      case round =>
        rename_i wr
        obtain ⟨j, rfl, hj, HX⟩ := hrel
        clear H0
        have i0 : (0 : Int) ≤ (j : Int) := by omega
        have ib : (j : Int) ≤ 61 := by have := HS60.out; omega
        by_cases hlt : j ≤ s.size
        · have hli : (j : Int) ≤ (s.size : Int) := by omega
          have HC1 := Lib.hid (HA1.out wr (j : Int) HX.out)
          have HC2 := Lib.hid (HA2.out · (j : Int))
          have hmm := HMM1.out (j : Int)
          obtain ⟨⟨m1, r1⟩, hx1⟩ : ∃ x, matchA (quE L) (fiE L) s (j : Int) = x := ⟨_, rfl⟩
          obtain ⟨⟨n1, q1⟩, hx2⟩ : ∃ x, matchA (quE L2) (fiE L2) s (j : Int) = x := ⟨_, rfl⟩
          rw [hx1] at HC1 hmm
          rw [hx2] at HC2 hmm
          have HQ := Lib.hid hmm
          clear hx1 hx2 hmm
          go_wp2_with fail
          go_fit HC1.out
          rintro e w6 ⟨rfl, hb⟩
          have H6 := Lib.hid (HX.out.trans (hb.mono HX.out.size))
          clear hb HX HC1
          go_wp2_with fail
          go_fit (HC2.out _ H6.out)
          rintro e w7 ⟨rfl, hb⟩
          have H6 := Lib.hid (H6.out.trans (hb.mono H6.out.size))
          clear hb HC2
          by_cases hr : r1 ≥ 0
          · have hle := (HQ.out.1 hr).1
            have hn0 : ¬ n1 < m1 := by omega
            by_cases hnm : n1 = m1
            · have hqr : q1 = r1 := (HQ.out.1 hr).2 hnm
              subst hnm hqr
              have b1 : (n1 == n1) = true := beq_self_eq_true _
              have b2 : (n1 != n1) = false := by simp
              have b3 : (q1 != q1) = false := by simp
              by_cases hk : q1 < (m : Int)
              · clear hle
                clear HQ HMA HA1 HA2 HMM1
                go_wp2_with fail
                go_roundw
                case rel => exact ⟨j + 1, by go_num, by omega, H6⟩
                case measure => simp [intOf] <;> omega
              · clear hle
                clear HQ HMA HA1 HA2 HMM1
                go_wp2_with fail
                go_roundw
                case rel => exact ⟨j + 1, by go_num, by omega, H6⟩
                case measure => simp [intOf] <;> omega
            · have b1 : (n1 == m1) = false := beq_eq_false_iff_ne.2 hnm
              clear hle
              by_cases hq : q1 ≥ 0
              · have hk : ¬ q1 < (m : Int) := fun hk => hnm (HQ.out.2 hq hk).2
                clear HQ HMA HA1 HA2 HMM1
                go_wp2_with fail
                go_roundw
                case rel => exact ⟨j + 1, by go_num, by omega, H6⟩
                case measure => simp [intOf] <;> omega
              · clear HQ HMA HA1 HA2 HMM1
                go_wp2_with fail
                go_roundw
                case rel => exact ⟨j + 1, by go_num, by omega, H6⟩
                case measure => simp [intOf] <;> omega
          · by_cases hq : q1 ≥ 0
            · have hk : ¬ q1 < (m : Int) := fun hk => hr (by have h1 := (HQ.out.2 hq hk).1; omega)
              clear HQ HMA HA1 HA2 HMM1
              go_wp2_with fail
              go_roundw
              case rel => exact ⟨j + 1, by go_num, by omega, H6⟩
              case measure => simp [intOf] <;> omega
            · clear HQ HMA HA1 HA2 HMM1
              go_wp2_with fail
              go_roundw
              case rel => exact ⟨j + 1, by go_num, by omega, H6⟩
              case measure => simp [intOf] <;> omega
        · have hli : ¬ (j : Int) ≤ (s.size : Int) := by omega
          have HX2 := Lib.hid (HMA.out _ (H5.out.trans (HX.out.mono H5.out.size)))
          have HX := HX2
          clear HX2 HMA HA1 HA2 HMM1
          go_wp2_with fail
          go_fit HX.out
          rintro e w1 ⟨rfl, hb⟩
          have HB := Lib.hid hb
          clear hb
          go_wp2_with fail
          go_ret
          exact ⟨rfl, HB.out⟩
    · have h1b : (fr == 0) = false := beq_eq_false_iff_ne.2 h1
      have h1c : (fr != 0) = true := by simp [h1]
      have HX := Lib.hid (HMA.out _ H5.out)
      subst h0
      clear HP1 HP2 H5 HMM HGD HGE HMA
      go_wp2_with fail
      go_fit HX.out
      rintro e w1 ⟨rfl, hb⟩
      have HB := Lib.hid hb
      clear hb
      go_wp2_with fail
      go_ret
      exact ⟨rfl, HB.out⟩
  · have h0b : (er == 0) = false := beq_eq_false_iff_ne.2 h0
    have h0c : (er != 0) = true := by simp [h0]
    have HX := Lib.hid (HMA.out _ H5.out)
    clear HP1 HP2 H5 HMM HGD HGE HMA
    go_wp2_with fail
    go_fit HX.out
    rintro e w1 ⟨rfl, hb⟩
    have HB := Lib.hid hb
    clear hb
    go_wp2_with fail
    go_ret
    exact ⟨rfl, HB.out⟩
end Go.Proofs.YtkopbngnhgdfhaaDoor
