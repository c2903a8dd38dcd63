/-
  limnerlaw11.NfasMatch: it returns true, for any rules, text and place.
-/
import Derived.Test.YtkopbngnhgdfhaaDoorBe38
import Derived.Test.YtkopbngnhgdfhaaDoorBe44
namespace Go.Proofs.YtkopbngnhgdfhaaDoor
open Go.RowKit

set_option maxRecDepth 4000 in
set_option maxHeartbeats 8000000 in
theorem nfasMatch_any (v : Value) (L : List ByteArray) (s : ByteArray) (at_ : Int) (w : World) (he : ErrW w) (h : StrsW w v L) :
    Calls Tryd.prog 5 #[v, .string s, .int .i64 at_] w fun e w' => e = .returned (.bool true) ∧ Below w.heap.size w w' := by
  obtain ⟨vo, vc, rfl, hvc⟩ := h.form
  have HMA := Lib.hid (fun (W : World) (hb : Below w.heap.size w W) => (matched_any (he.below hb)).mono fun e w' h2 => (⟨h2.1, hb.trans (h2.2.mono hb.size)⟩ : e = .returned (.bool true) ∧ Below w.heap.size w w'))
  have HG := Lib.hid (great_any h)
  have HMK := Lib.hid (nmake_any h he)
  have HRU := Lib.hid (fun (W : World) (hb : Below w.heap.size w W) => rrules_any (h.below hb))
  have HR := Lib.hid (makeE_range L)
  obtain ⟨m, hm⟩ : ∃ m, L.length = m := ⟨_, rfl⟩
  rw [hm] at hvc HG HMK HRU ⊢
  obtain ⟨gb, hgb⟩ : ∃ gb, greatB L = gb := ⟨_, rfl⟩
  rw [hgb] at HG
  obtain ⟨er, her⟩ : ∃ er, makeE L = er := ⟨_, rfl⟩
  rw [her] at HMK HRU HR
  have HE := Lib.hid her
  have hs0 : (0 : Int) ≤ (s.size : Int) := by omega
  clear h hm he her hgb
  cases gb with
  | true =>
    have HX := Lib.hid (HMA.out _ (Below.refl _ _))
    clear HMA HMK HRU HR HE
    go_enter Tryd.func5, Tryd.ntmps5
    go_wp2_with fail
    go_fit HG.out
    rintro e w1 ⟨rfl, rfl⟩
    go_wp2_with fail
    go_fit HX.out
    rintro e w1 ⟨rfl, hb⟩
    have HB := Lib.hid hb
    clear hb
    go_wp2_with fail
    go_ret
    exact ⟨rfl, HB.out⟩
  | false =>
  by_cases hs60 : 60 < s.size
  · have hsi : (s.size : Int) > 60 := by omega
    have HX := Lib.hid (HMA.out _ (Below.refl _ _))
    clear HMA HMK HRU HR HE hs60
    go_enter Tryd.func5, Tryd.ntmps5
    go_wp2_with fail
    go_fit HG.out
    rintro e w1 ⟨rfl, rfl⟩
    go_wp2_with fail
    go_fit HX.out
    rintro e w1 ⟨rfl, hb⟩
    have HB := Lib.hid hb
    clear hb
    go_wp2_with fail
    go_ret
    exact ⟨rfl, HB.out⟩
  have hsi : ¬ (s.size : Int) > 60 := by omega
  have hsi2 : (s.size : Int) ≤ 60 := by omega
  by_cases h0 : er = 0
  · subst h0
    have HGD := Lib.hid (make_good HE.out)
    clear hs60
    go_enter Tryd.func5, Tryd.ntmps5
    go_wp2_with fail
    go_fit HG.out
    rintro e w1 ⟨rfl, rfl⟩
    go_wp2_with fail
    go_fit HMK.out
    rintro e w2 ⟨p, rfl, hp, _, hb2⟩
    have H2 := Lib.hid (And.intro (hp trivial).2 hb2)
    clear hp hb2
    go_wp2_with fail
    go_fit (HRU.out _ H2.out.2)
    rintro e w3 ⟨⟨r, rfl, hr⟩, hb3⟩
    have H3 := Lib.hid (And.intro (H2.out.1.below hb3) (And.intro (show RusW w3 r (rsE L) from hr trivial) (H2.out.2.trans (hb3.mono H2.out.2.size))))
    clear hr hb3 H2 HMK HRU
    have HM1 : Hid (∀ (W : World) (a : Int), Below w3.heap.size w3 W → Calls Tryd.prog 17 #[.pointer p, .string s, .int .i64 a] W fun e w' => e = .returned (.tuple #[.int .i64 (matchGA (rsE L) s a).1, .int .i64 (matchGA (rsE L) s a).2]) ∧ Below W.heap.size W w') := Lib.hid fun W a hb =>
      (nmatch_any (.inr (H3.out.1.below hb)) HGD.out.1.ok HGD.out.1.in_ s (by omega) a).mono fun e w' h2 => ⟨by rw [h2.1, matchA_same], h2.2⟩
    have HM2 : Hid (∀ (W : World) (a : Int), Below w3.heap.size w3 W → Calls Tryd.prog 18 #[r, .string s, .int .i64 a] W fun e w' => (∃ far : Int, e = .returned (.tuple #[.int .i64 (matchGA (rsE L) s a).1, .int .i64 (matchGA (rsE L) s a).2, .int .i64 far])) ∧ Below W.heap.size W w') := Lib.hid fun W a hb =>
      rmatch_any (H3.out.2.1.below hb) (rsE_ok L) (by rw [rsE_len]; exact HGD.out.2.1) s (by omega) a
    have HML : Hid (∀ (W : World) (t : ByteArray), t.size ≤ 1000 → Below w3.heap.size w3 W → Calls Tryd.prog 21 #[r, .string t] W fun e w' => e = .returned (.int .i64 (leastG (rsE L) (restR t 0) 0)) ∧ Below W.heap.size W w') := Lib.hid fun W t ht hb =>
      rleast_any (H3.out.2.1.below hb) (rsE_ok L) (by rw [rsE_len]; exact HGD.out.2.1) t ht
    have HSS : Hid (∀ (W : World), Below w3.heap.size w3 W → Calls Tryd.prog 19 #[.pointer p] W fun e w' => ∃ r, e = .returned r ∧ IntsW w' r (setE L s 0) ∧ Below W.heap.size W w') := Lib.hid fun W hb =>
      nstart_all (.inr (H3.out.1.below hb)) HGD.out.1.ok HGD.out.1.in_
    have HSP : Hid (∀ (W : World) (u : Value) (i : Nat), i < s.size → IntsW W u (setE L s i) → Below w3.heap.size w3 W → Calls Tryd.prog 22 #[.pointer p, u, .int .u8 (bR s i : Int)] W fun e w' => ∃ r, e = .returned r ∧ IntsW w' r (setE L s (i + 1)) ∧ Below W.heap.size W w') := Lib.hid fun W u i hi hu hb => by
      rw [set_next s i hi]
      exact nstep_any (.inr ⟨_, H3.out.1.below hb⟩) HGD.out.1.ok hu (Nat.le_trans (set_few s i) HGD.out.2.2.1) (bR s i) (bR_lt s i)
    have HSA : Hid (∀ (W : World) (u : Value) (i : Nat), IntsW W u (setE L s i) → Below w3.heap.size w3 W → Calls Tryd.prog 20 #[.pointer p, u] W fun e w' => e = .returned (.int .i64 (leastG (rsE L) (restR (s.extract 0 i) 0) 0)) ∧ w' = W) := Lib.hid fun W u i hu hb =>
      (naccept_any (.inr ⟨_, H3.out.1.below hb⟩) hu).mono fun e w' h2 => ⟨by rw [h2.1, least_take L s _ i (bytes_take s i)], h2.2⟩
    have HB3 := Lib.hid H3.out.2.2
    have HB0 := Lib.hid (Below.refl w3.heap.size w3)
    have hee : ((0 : Int) == 0) = true := rfl
    clear H3
    go_wp2_with fail
    go_loopw [11] (fun s11 wr => ∃ (k : Int), s11 = .int .i64 k ∧ -1 ≤ k ∧ k ≤ (s.size : Int) + 3 ∧ Hid (Below w3.heap.size w3 wr)) (fun s11 _ => ((s.size : Int) + 3 - intOf s11).toNat)
    case atStart => exact ⟨-1, rfl, by omega, by omega, HB0⟩
    case round =>
      obtain ⟨k, rfl, hk1, hk2, HX⟩ := hrel
      clear HB0
      have hwr : IntKind.i64.wrap ((s.size : Int) + 2) = (s.size : Int) + 2 := by apply IntWalk.i64_in <;> omega
      have hkw : IntKind.i64.wrap (k + 1) = k + 1 := by apply IntWalk.i64_in <;> omega
      by_cases hlt : k ≤ (s.size : Int) + 2
      · by_cases hk : k = (s.size : Int) + 2
        · have hkb : (k == (s.size : Int) + 2) = true := by rw [hk]; exact beq_self_eq_true _
          clear HSS HSP HSA HML HMA
          go_wp2_with fail
          go_fit (HM1.out _ at_ HX.out)
          rintro e w4 ⟨rfl, hb⟩
          have H4 := Lib.hid (HX.out.trans (hb.mono HX.out.size))
          have HC := Lib.hid (HM2.out _ at_ H4.out)
          obtain ⟨⟨x1, x2⟩, hx⟩ : ∃ x, matchGA (rsE L) s at_ = x := ⟨_, rfl⟩
          rw [hx] at HC ⊢
          clear hx hb HX
          go_wp2_with fail
          go_fit HC.out
          rintro e w5 ⟨⟨far, rfl⟩, hb⟩
          have H5 := Lib.hid (H4.out.trans (hb.mono H4.out.size))
          have hx1 : (x1 == x1) = true := beq_self_eq_true _
          have hx2 : (x2 == x2) = true := beq_self_eq_true _
          have hx3 : (x1 != x1) = false := by simp
          have hx4 : (x2 != x2) = false := by simp
          clear hb H4 HC
          go_wp2_with fail
          go_roundw
          case rel => exact ⟨k + 1, by go_num, by omega, by omega, H5⟩
          case measure => simp [intOf] <;> omega
        · have hkb : (k == (s.size : Int) + 2) = false := beq_eq_false_iff_ne.2 hk
          clear HSS HSP HSA HML HMA
          go_wp2_with fail
          go_fit (HM1.out _ k HX.out)
          rintro e w4 ⟨rfl, hb⟩
          have H4 := Lib.hid (HX.out.trans (hb.mono HX.out.size))
          have HC := Lib.hid (HM2.out _ k H4.out)
          obtain ⟨⟨x1, x2⟩, hx⟩ : ∃ x, matchGA (rsE L) s k = x := ⟨_, rfl⟩
          rw [hx] at HC ⊢
          clear hx hb HX
          go_wp2_with fail
          go_fit HC.out
          rintro e w5 ⟨⟨far, rfl⟩, hb⟩
          have H5 := Lib.hid (H4.out.trans (hb.mono H4.out.size))
          have hx1 : (x1 == x1) = true := beq_self_eq_true _
          have hx2 : (x2 == x2) = true := beq_self_eq_true _
          have hx3 : (x1 != x1) = false := by simp
          have hx4 : (x2 != x2) = false := by simp
          clear hb H4 HC
          go_wp2_with fail
          go_roundw
          case rel => exact ⟨k + 1, by go_num, by omega, by omega, H5⟩
          case measure => simp [intOf] <;> omega
      · clear HM1 HM2 hwr hkw
        go_wp2_with fail
        go_fit (HSS.out _ HX.out)
        rintro e w4 ⟨u4, rfl, hu4, hb⟩
        have H4 := Lib.hid (And.intro hu4 (HX.out.trans (hb.mono HX.out.size)))
        clear hu4 hb HX HSS
        go_wp2_with fail
        go_loopw [18, 19] (fun s18 s19 wr => ∃ (i : Nat), s19 = .int .i64 (i : Int) ∧ i ≤ s.size + 1 ∧ Hid (IntsW wr s18 (setE L s i) ∧ Below w3.heap.size w3 wr)) (fun _ s19 _ => s.size + 1 - (intOf s19).toNat)
        case atStart => exact ⟨0, rfl, by omega, H4⟩
        case round =>
          rename_i wr
          obtain ⟨i, rfl, hi, HX⟩ := hrel
          clear H4
          have i0 : (0 : Int) ≤ (i : Int) := by omega
          have ib : (i : Int) ≤ 61 := by omega
          by_cases hlt2 : i ≤ s.size
          · have hli : (i : Int) ≤ (s.size : Int) := by omega
            obtain ⟨x, hx⟩ : ∃ x, leastG (rsE L) (restR (s.extract 0 i) 0) 0 = x := ⟨_, rfl⟩
            have HA2 : Hid (∀ V, Below wr.heap.size wr V → Calls Tryd.prog 20 #[.pointer p, u18] V fun e w' => e = .returned (.int .i64 x) ∧ Below wr.heap.size wr w') := Lib.hid fun V hb =>
              (HSA.out V _ i (HX.out.1.below hb) (HX.out.2.trans (hb.mono HX.out.2.size))).mono fun e w' h2 => ⟨by rw [h2.1, hx], by rw [h2.2]; exact hb⟩
            have HL2 : Hid (∀ V, Below wr.heap.size wr V → Calls Tryd.prog 21 #[r, .string (s.extract 0 i)] V fun e w' => e = .returned (.int .i64 x) ∧ Below wr.heap.size wr w') := Lib.hid fun V hb =>
              (HML.out V _ (by rw [ByteArray.size_extract]; omega) (HX.out.2.trans (hb.mono HX.out.2.size))).mono fun e w' h2 => ⟨by rw [h2.1, hx], hb.trans (h2.2.mono hb.size)⟩
            have kk := Below.refl wr.heap.size wr
            have k0 : Below wr.heap.size wr wr.drew := kk.drew
            have hx1 : (x == x) = true := beq_self_eq_true _
            have hx3 : (x != x) = false := by simp
            clear hx HSA HML HMA
            have HC : Hid ((i < s.size ∧ ∀ V, Below wr.heap.size wr V → Calls Tryd.prog 22 #[.pointer p, u18, .int .u8 (bR s i : Int)] V fun e w' => ∃ r, e = .returned r ∧ IntsW w' r (setE L s (i + 1)) ∧ Below w3.heap.size w3 w') ∨ (¬ i < s.size ∧ ∀ V, Below wr.heap.size wr V → IntsW V u18 (setE L s (i + 1)) ∧ Below w3.heap.size w3 V)) := Lib.hid (by
              by_cases h : i < s.size
              · exact .inl ⟨h, fun V hb => (HSP.out V _ i h (HX.out.1.below hb) (HX.out.2.trans (hb.mono HX.out.2.size))).mono fun e w' ⟨r, h1, h2, h3⟩ => ⟨r, h1, h2, (HX.out.2.trans (hb.mono HX.out.2.size)).trans (h3.mono (HX.out.2.trans (hb.mono HX.out.2.size)).size)⟩⟩
              · exact .inr ⟨h, fun V hb => ⟨by rw [set_end s i (by omega)]; exact HX.out.1.below hb, HX.out.2.trans (hb.mono HX.out.2.size)⟩⟩)
            clear HX HSP
            go_wp2_with fail
            go_region_held3 (fun _ => True) (first | exact trivial)
              (first
                | (go_at_call 20; go_fit (HA2.out _ ?_); (first | with_reducible exact kk | with_reducible exact k0 | with_reducible exact kk.drew); rintro e vv ⟨rfl, kk⟩)
                | (go_at_call 21; go_fit (HL2.out _ ?_); (first | with_reducible exact kk | with_reducible exact k0 | with_reducible exact kk.drew); rintro e vv ⟨rfl, kk⟩))
            all_goals
              clear HA2 HL2
              rcases HC.out with ⟨hlt3, hC⟩ | ⟨hlt3, hC⟩
              · have hl3 : (i : Int) < (s.size : Int) := by omega
                have HC2 := Lib.hid (hC _ kk)
                have hgb := getR s i hlt3
                clear hC HC
                go_wp2_with fail
                (try rw [hgb])
                go_fit HC2.out
                rintro e w5 ⟨r5, rfl, h5, h6⟩
                have H5 := Lib.hid (And.intro h5 h6)
                clear h5 h6 HC2
                go_wp2_with fail
                go_roundw
                case rel => exact ⟨i + 1, by go_num, by omega, H5⟩
                case measure => simp [intOf] <;> omega
              · have hl3 : ¬ (i : Int) < (s.size : Int) := by omega
                have H5 := Lib.hid (hC _ kk)
                clear hC HC
                go_wp2_with fail
                go_roundw
                case rel => exact ⟨i + 1, by go_num, by omega, H5⟩
                case measure => simp [intOf] <;> omega
          · have hli : ¬ (i : Int) ≤ (s.size : Int) := by omega
            have HX2 := Lib.hid (HMA.out _ (HB3.out.trans (HX.out.2.mono HB3.out.size)))
            clear HX HMA HML HSA HSP
            go_wp2_with fail
            go_fit HX2.out
            rintro e w5 ⟨rfl, hb⟩
            have HB := Lib.hid hb
            clear hb
            go_wp2_with fail
            go_ret
            exact ⟨rfl, HB.out⟩
  · have h0b : (er == 0) = false := beq_eq_false_iff_ne.2 h0
    have h0c : (er != 0) = true := by simp [h0]
    have hee : (er == er) = true := beq_self_eq_true _
    have hee2 : (er != er) = false := by simp
    clear hs60 HR HE
    go_enter Tryd.func5, Tryd.ntmps5
    go_wp2_with fail
    go_fit HG.out
    rintro e w1 ⟨rfl, rfl⟩
    go_wp2_with fail
    go_fit HMK.out
    rintro e w2 ⟨p, rfl, hp, _, hb2⟩
    have H2 := Lib.hid hb2
    clear hp hb2
    go_wp2_with fail
    go_fit (HRU.out _ H2.out)
    rintro e w3 ⟨⟨r, rfl, hr⟩, hb3⟩
    have H3 := Lib.hid (HMA.out _ (H2.out.trans (hb3.mono H2.out.size)))
    clear hr hb3 H2 HMK HRU HMA
    go_wp2_with fail
    go_fit H3.out
    rintro e w4 ⟨rfl, hb⟩
    have HB := Lib.hid hb
    clear hb
    go_wp2_with fail
    go_ret
    exact ⟨rfl, HB.out⟩
end Go.Proofs.YtkopbngnhgdfhaaDoor
