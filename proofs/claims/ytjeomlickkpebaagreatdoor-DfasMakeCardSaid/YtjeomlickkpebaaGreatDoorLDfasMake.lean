/-
  limnerlaw12.DfasMake: it returns true, for any rules.
-/
import Derived.Test.YtjeomlickkpebaaGreatDoorBe45
import Derived.Test.YtjeomlickkpebaaGreatDoorBe41
import Derived.Test.YtjeomlickkpebaaGreatDoorBe8
namespace Go.Proofs.YtjeomlickkpebaaGreatDoor
open Go.RowKit

set_option maxRecDepth 4000 in
set_option maxHeartbeats 16000000 in
theorem dfasMake_any (v : Value) (L : List ByteArray) (w : World) (he : EnvW w) (h : StrsW w v L) :
    Calls Tryz.prog 5 #[v] w fun e w' => e = .returned (.bool true) ∧ Below w.heap.size w w' := by
  have HTB := Lib.hid (fun (W : World) (hb : Below w.heap.size w W) => (tabled_any (he.below hb)).mono fun e w' h2 => (⟨h2.1, hb.trans (h2.2.mono hb.size)⟩ : e = .returned (.bool true) ∧ Below w.heap.size w w'))
  have HG := Lib.hid (greatd_any h)
  have HMD := Lib.hid (dmade_any h he)
  obtain ⟨vo, vc, rfl, hvc⟩ := h.form
  obtain ⟨m, hm⟩ : ∃ m, L.length = m := ⟨_, rfl⟩
  rw [hm] at hvc HG HMD ⊢
  obtain ⟨gb, hgb⟩ : ∃ gb, greatD L = gb := ⟨_, rfl⟩
  rw [hgb] at HG
  clear h hm hgb
  cases gb with
  | true =>
    go_enter Tryz.func5, Tryz.ntmps5
    go_wp2_with fail
    go_fit HG.out
    rintro e w1 ⟨rfl, rfl⟩
    have HX := Lib.hid (HTB.out _ (Below.refl _ _))
    clear HMD HTB
    go_wp2_with fail
    go_fit HX.out
    rintro e w9 ⟨rfl, hb⟩
    have HB := Lib.hid hb
    clear hb
    go_wp2_with fail
    go_ret
    exact ⟨rfl, HB.out⟩
  | false =>
  go_enter Tryz.func5, Tryz.ntmps5
  go_wp2_with fail
  go_fit HG.out
  rintro e w1 ⟨rfl, rfl⟩
  go_wp2_with fail
  go_fit HMD.out
  rintro e w3 ⟨ho, hb3⟩
  have H3 := Lib.hid hb3
  clear hb3 HMD HG
  rcases ho with ⟨hne, rfl⟩ | ⟨h0, np, hnp, ⟨dp, k, rfl, hD, hk⟩ | ⟨rfl, ls, h4, h5, h6⟩⟩
  · obtain ⟨er, her⟩ : ∃ er, makeE L = er := ⟨_, rfl⟩
    rw [her] at hne ⊢
    have heb : (er == 0) = false := beq_eq_false_iff_ne.2 hne
    have heb2 : (er != 0) = true := by simpa using hne
    clear her hne
    have HX := Lib.hid (HTB.out _ H3.out)
    clear HTB
    go_wp2_with fail
    go_fit HX.out
    rintro e w9 ⟨rfl, hb⟩
    have HB := Lib.hid hb
    clear hb
    go_wp2_with fail
    go_ret
    exact ⟨rfl, HB.out⟩
  · have HD := Lib.hid (And.intro hD (And.intro hnp (And.intro hk h0)))
    clear hD hnp hk h0
    obtain ⟨_, hmok, hmin⟩ : True ∧ (∀ (i : Nat) (s : Sta), (quE L)[i]? = some s → StOk (quE L).length s) ∧ InQ (quE L) (fiE L) := ⟨trivial, (make_good HD.out.2.2.2).1.ok, (make_good HD.out.2.2.2).1.in_⟩
    have HQL := Lib.hid (make_good HD.out.2.2.2).2.2.1
    have HOK := Lib.hid hmok
    have HST := Lib.hid (nstart_new HD.out.2.1 hmok hmin)
    have hkf := HD.out.1.few
    have hkn : (tabL L k).n = k := by
      show (goL L k).2.length = k
      exact goX_len k (goL_le HD.out.2.2.1 (Nat.le_refl k))
    rw [hkn] at hkf
    have HKN := Lib.hid hkn
    have kbb : (k : Int) ≤ 2000 := by omega
    clear hmok hmin hkn
    go_wp2_with fail
    go_fit HST.out
    rintro e w4 ⟨r0, rfl, hr0, hb4⟩
    obtain ⟨ra, rc, rfl, _⟩ := hr0.ints.form
    have HS0 : Hid (∀ W : World, W = (w4.alloc (.cells #[.slice ra (reachP (quE L) (fiE L)).length rc] 39)).alloc (.cells #[.int .i64 0] 3) → MkB w3 W (.slice (some ⟨w4.heap.size, 0, none⟩) 1 1) (.slice (some ⟨w4.heap.size + 1, 0, none⟩) 1 1) (goL L 0).1) := Lib.hid fun W hW => mk_start hr0 hb4 hW
    have H00 := Lib.hid (HS0.out _ rfl)
    clear hr0 hb4 HS0 HST
    go_wp2_with fail
    go_loopw [6, 7, 8] (fun s6 s7 s8 wr => ∃ j : Nat, s8 = .int .i64 (j : Int) ∧ j ≤ k ∧ Hid (MkB w3 wr s6 s7 (goL L j).1)) (fun _ _ s8 _ => k - (intOf s8).toNat)
    case atStart => exact ⟨0, rfl, Nat.zero_le _, H00⟩
    case round =>
      clear H00
      obtain ⟨j, rfl, hj, HX⟩ := hrel
      have j0 : (0 : Int) ≤ (j : Int) := by omega
      obtain ⟨lo, lc, so, sc, rfl, hlc, rfl, hsc⟩ := HX.out.forms
      by_cases hlt : j < k
      · have hjl := goL_lt HD.out.2.2.1 hlt
        obtain ⟨x, hx⟩ : ∃ x, (goL L j).1[j]? = some x := ⟨_, List.getElem?_eq_getElem hjl⟩
        obtain ⟨lg, lof, lc2, sg, sof, sc2, u, e1, e2, c0, hu, c1⟩ := HX.out.at_ hx
        injection e1 with e1a e1b e1c
        injection e2 with e2a e2b e2c
        subst e1a e1c e2a e2c
        clear e1b e2b
        obtain ⟨hac, hto⟩ := tab_row HD.out.2.2.1 hlt hx
        have HTO := Lib.hid hto
        obtain ⟨ac, haq⟩ : ∃ ac, accP (quE L) x (-1) = ac := ⟨_, rfl⟩
        rw [haq] at hac
        have HA1 : Hid (∀ V, Below wr.heap.size wr V → Calls Tryz.prog 18 #[.pointer dp, .int .i64 (j : Int)] V fun e w' => e = .returned (.int .i64 ac) ∧ Below wr.heap.size wr w') := Lib.hid fun V hv =>
          (pdacc_any (HD.out.1.below (HX.out.below.trans (hv.mono HX.out.below.size))) (j : Int)).mono fun e w' h => ⟨by rw [h.1, hac], hv.trans (h.2.mono hv.size)⟩
        have HA2 : Hid (∀ V, Below wr.heap.size wr V → Calls Tryz.prog 22 #[.pointer np, u] V fun e w' => e = .returned (.int .i64 ac) ∧ Below wr.heap.size wr w') := Lib.hid fun V hv =>
          (naccept_any (.inr ⟨_, HD.out.2.1.below (HX.out.below.trans (hv.mono HX.out.below.size))⟩) (hu.below hv)).mono fun e w' h => ⟨by rw [h.1, haq], by rw [h.2]; exact hv⟩
        have HCC := Lib.hid (fun (V : World) (hv : Below wr.heap.size wr V) => (And.intro ((keep_below (fun _ => True) hv).cell c0 trivial) ((keep_below (fun _ => True) hv).cell c1 trivial)))
        obtain ⟨ml, hml⟩ : ∃ ml, (goL L j).1.length = ml := ⟨_, rfl⟩
        have HML := Lib.hid hml
        have HXX := Lib.hid (And.intro hx (And.intro (listG_in HD.out.2.2.2 (lists_good (Nat.le_of_lt hjl) x (List.mem_of_getElem? hx))) (And.intro hjl (lists_good (Nat.le_of_lt hjl) x (List.mem_of_getElem? hx)))))
        have hul := hu.2
        rw [hml] at hlc hsc hjl ⊢
        have hjli : (j : Int) < (ml : Int) := by omega
        have q0 := Below.refl wr.heap.size wr
        have q1 := q0.drew
        have aa : (ac != ac) = false := by simp
        have aa2 : (ac == ac) = true := by simp
        clear hx hac haq hto hml hu
        go_wp2_with fail
        go_region_held3 (fun V => V.cell? ⟨lg, lof + j, none⟩ = some u ∧ V.cell? ⟨sg, sof + j, none⟩ = some (.int .i64 (j : Int)))
          (first | with_reducible exact HCC.out _ q0 | with_reducible exact HCC.out _ q1 | exact HCC.out _ q2 | exact HCC.out _ q3)
          (first
            | (go_at_call 18; go_fit (HA1.out _ ?_); (first | with_reducible exact q0 | with_reducible exact q1 | exact q2); rintro e vv ⟨rfl, qq⟩; have q2 := qq)
            | (go_at_call 22; go_fit (HA2.out _ ?_); (first | with_reducible exact q0 | with_reducible exact q1 | exact q2); rintro e vv ⟨rfl, qq⟩; have q3 := qq))
        all_goals
          have HV : Hid (MkB w3 vv (.slice (some ⟨lg, lof, none⟩) ml lc) (.slice (some ⟨sg, sof, none⟩) ml sc) (goL L j).1) := Lib.hid (by
            rw [← HML.out]
            exact HX.out.under (w' := vv) (by first | assumption | (apply Below.drew; assumption)))
          clear HA1 HA2 HCC HX c0 c1 hul aa aa2 q0 q1
          go_wp2_with fail
          go_loopw [6, 7, 9] (fun s6 s7 s9 wr => ∃ b : Nat, s9 = .int .i64 (b : Int) ∧ b ≤ 256 ∧ Hid (MkB w3 wr s6 s7 (rowL (quE L) x (goL L j).1 b).1)) (fun _ _ s9 _ => 256 - (intOf s9).toNat)
          case atStart => exact ⟨0, rfl, by decide, HV⟩
          case round =>
            clear HV
            obtain ⟨b, rfl, hb, HY⟩ := hrel
            have b0 : (0 : Int) ≤ (b : Int) := by omega
            obtain ⟨lo, lc3, so, sc3, rfl, hlc3, rfl, hsc3⟩ := HY.out.forms
            obtain ⟨hun, hgd, hkl⟩ := row_unlike HD.out.2.2.1 hlt HXX.out.1 (b := b) hb
            rcases (show b = 256 ∨ b < 256 by omega) with hb2 | hb2
            · subst hb2
              have hbi : ¬ ((256 : Nat) : Int) < 256 := by omega
              have hnx : (goL L (j + 1)).1 = (rowL (quE L) x (goL L j).1 256).1 := congrArg Prod.fst (goL_step HXX.out.1)
              have HB : Hid (MkB w3 wr (.slice lo (rowL (quE L) x (goL L j).1 256).1.length lc3) (.slice so (rowL (quE L) x (goL L j).1 256).1.length sc3) (goL L (j + 1)).1) := Lib.hid (by rw [hnx]; exact HY.out)
              have HBW := Lib.hid HY.out.below
              obtain ⟨m2, hm2⟩ : ∃ m2, (rowL (quE L) x (goL L j).1 256).1.length = m2 := ⟨_, rfl⟩
              rw [hm2] at HB hlc3 hsc3 ⊢
              clear hm2 hnx hun hgd hkl HY
              by_cases hm40 : 40 < m2
              · have hmi : (m2 : Int) > 40 := by omega
                have HX9 := Lib.hid (HTB.out _ (H3.out.trans (HBW.out.mono H3.out.size)))
                clear HTB hm40
                go_wp2_with fail
                go_fit HX9.out
                rintro e w9 ⟨rfl, hb⟩
                have HB := Lib.hid hb
                clear hb
                go_wp2_with fail
                go_ret
                exact ⟨rfl, HB.out⟩
              · have hmi : ¬ (m2 : Int) > 40 := by omega
                go_wp2_with fail
                go_roundw
                case rel => exact ⟨j + 1, by go_num, by omega, HB⟩
                case measure => simp [intOf] <;> omega
            · have hbi : (b : Int) < 256 := by omega
              have hbw : IntKind.u8.wrap (b : Int) = (b : Int) := by apply IntWalk.u8_in <;> omega
              obtain ⟨tt, htt⟩ := row_pre (step := fun l b => stepP (quE L) b l) x (goL L j).1 b
              have hxj : (rowL (quE L) x (goL L j).1 b).1[j]? = some x := by
                show (rowX (fun l b => stepP (quE L) b l) nilL sameL x (goL L j).1 b).1[j]? = some x
                rw [htt, List.getElem?_append_left HXX.out.2.2.1]
                exact HXX.out.1
              have hRN := rowL_next (quE L) x (goL L j).1 b
              have hkl2 := (row_unlike HD.out.2.2.1 hlt HXX.out.1 (b := b + 1) (by omega)).2.2
              have hnum := HTO.out b hb2
              obtain ⟨xs, hxs⟩ : ∃ xs, (rowL (quE L) x (goL L j).1 b).1 = xs := ⟨_, rfl⟩
              obtain ⟨l, hl⟩ : ∃ l, stepP (quE L) b x = l := ⟨_, rfl⟩
              rw [hxs, hl] at hnum hRN
              rw [hRN] at hkl2
              rw [hxs] at hun hkl hxj HY hlc3 hsc3 ⊢
              obtain ⟨lg4, lof4, lc4, sg4, sof4, sc4, u4, e1, e2, c0, hu, c1⟩ := HY.out.at_ hxj
              injection e1 with e1a e1b e1c
              injection e2 with e2a e2b e2c
              subst e1a e1c e2a e2c
              clear e1b e2b
              have HSP := nstep_new (q := quE L) (.inr ⟨_, HD.out.2.1.below HY.out.below⟩) HOK.out hu (list_few HD.out.2.2.2 HXX.out.2.2.2) b hb2
              rw [hl] at HSP
              have HSP := Lib.hid HSP
              have HDN := Lib.hid (fun (W : World) (hb : Below w3.heap.size w3 W) => HD.out.1.below hb)
              have HUN := Lib.hid hun
              have HRN := Lib.hid hRN
              obtain ⟨mm, hmm⟩ : ∃ mm, xs.length = mm := ⟨_, rfl⟩
              have HMM := Lib.hid hmm
              rw [hmm] at hkl hlc3 hsc3 HY ⊢
              have hjm : j < mm := by have := (List.getElem?_eq_some_iff.1 hxj).1; omega
              have hjmi : (j : Int) < (mm : Int) := by omega
              have HXJ := Lib.hid hxj
              have HNU := Lib.hid hnum
              have HK2 := Lib.hid hkl2
              have HYB := Lib.hid HY.out.below
              clear hun hgd hRN hnum hmm hxj hxs hkl2 htt hu
              go_wp2_with fail
              go_fit HSP.out
              rintro e w5 ⟨r, rfl, hr, hb5⟩
              have H5 := Lib.hid (HY.out.behind hr hb5)
              obtain ⟨rp, rcap, rfl, hrcap⟩ := hr.ints.form
              clear hr hb5 HSP HY c0 c1
              obtain ⟨lg5, lof5, lc5, sg5, sof5, sc5, u5, e1, e2, c0, _, c1⟩ := H5.out.met.at_ HXJ.out
              injection e1 with e1a e1b e1c
              injection e2 with e2a e2b e2c
              injection e1a with e1a
              injection e2a with e2a
              injection e1a with e1a e1d
              injection e2a with e2a e2d
              subst e1a e1c e2a e2c e1d e2d
              clear e1b e2b
              have HDS := pdstep_any (HDN.out _ H5.out.met.below) (j : Int) b hb2
              rw [HNU.out] at HDS
              obtain ⟨nx, hto⟩ : ∃ nx, numR xs l = nx := ⟨_, rfl⟩
              rw [hto] at HDS
              have HDS := Lib.hid HDS
              have HTT := Lib.hid hto
              clear hto
              go_wp2_with fail
              go_fit HDS.out
              rintro e w6 ⟨rfl, hb6⟩
              have H6 := Lib.hid (H5.out.under hb6)
              have HSN := pdstates_any (HDN.out _ H6.out.met.below)
              rw [HKN.out] at HSN
              have HSN := Lib.hid HSN
              clear H5 hb6 HDS c0 c1
              by_cases hl0 : l = []
              · subst hl0
                have hto1 : nx = -1 := by rw [← HTT.out]; rfl
                subst hto1
                have hll : (([] : List Int).length) = 0 := rfl
                rw [hll] at hrcap H6 ⊢
                have hk1 : ¬ (-1 : Int) ≥ (k : Int) := by omega
                have hk1d : decide ((k : Int) ≤ -1) = false := decide_eq_false (by omega)
                go_wp2_with fail
                go_fit HSN.out
                rintro e w7 ⟨rfl, hb7⟩
                have H7 := Lib.hid (H6.out.under hb7)
                clear hb7 H6 HSN
                go_wp2_with fail
                go_roundw
                case rel => exact ⟨b + 1, by go_num, hb2, by rw [HRN.out]; exact Lib.hid H7.out.met⟩
                case measure => simp [intOf] <;> omega
              · have hlp : 0 < l.length := List.length_pos_iff.2 hl0
                obtain ⟨ll, hll⟩ : ∃ ll, l.length = ll := ⟨_, rfl⟩
                rw [hll] at hlp hrcap H6 ⊢
                have hl1 : ((ll : Int) == 0) = false := beq_eq_false_iff_ne.2 (by omega)
                obtain ⟨t, rfl, htk, HT⟩ : ∃ t : Nat, nx = (t : Int) ∧ t < k ∧ Hid ((t < mm ∧ xs[t]? = some l ∧ numX xs l = xs) ∨ (t = mm ∧ l ∉ xs ∧ numX xs l = xs ++ [l])) := by
                  rcases numR_found (xs := xs) hl0 with ⟨i, e1, e2, e3⟩ | ⟨e1, e2, e3⟩
                  · have h9 := (List.getElem?_eq_some_iff.1 e2).1
                    rw [HMM.out] at h9
                    exact ⟨i, by rw [← HTT.out]; exact e1, by omega, Lib.hid (.inl ⟨h9, e2, e3⟩)⟩
                  · have h9 := HK2.out
                    rw [e3, List.length_append, HMM.out] at h9
                    have h8 : ([l] : List (List Int)).length = 1 := rfl
                    exact ⟨mm, by rw [← HTT.out, ← HMM.out]; exact e1, by omega, Lib.hid (.inr ⟨rfl, e2, e3⟩)⟩
                have t0 : (0 : Int) ≤ (t : Int) := by omega
                have t1 : ¬ (t : Int) < 0 := by omega
                have t1d : decide ((t : Int) < 0) = false := decide_eq_false (by omega)
                have t2 : ¬ (t : Int) ≥ (k : Int) := by omega
                have t2d : decide ((k : Int) ≤ (t : Int)) = false := decide_eq_false (by omega)
                have t2n : decide (k ≤ t) = false := decide_eq_false (by omega)
                clear hl0 hlp
                have HLL := Lib.hid hll
                clear hll
                go_wp2_with fail
                go_fit HSN.out
                rintro e w7 ⟨rfl, hb7⟩
                have H7 := Lib.hid (H6.out.under hb7)
                clear hb7 H6 HSN
                have HIF : Hid (∀ (i : Nat) a, xs[i]? = some a → (a = l ↔ i = t)) := Lib.hid fun i a hi => by
                  rcases HT.out with ⟨e1, e2, _⟩ | ⟨e1, e2, _⟩
                  · constructor
                    · intro e
                      subst e
                      exact same_place HUN.out hi e2
                    · intro e
                      subst e
                      rw [hi] at e2
                      exact Option.some.inj e2
                  · constructor
                    · intro e
                      subst e
                      exact absurd (List.mem_of_getElem? hi) e2
                    · intro e
                      have := (List.getElem?_eq_some_iff.1 hi).1
                      rw [HMM.out] at this
                      omega
                have hmb : (mm : Int) ≤ 2000 := by omega
                go_wp2_with fail
                go_loopw [12, 13] (fun s12 s13 wr => ∃ (i : Nat) (f : Bool), s12 = .bool f ∧ s13 = .int .i64 (i : Int) ∧ i ≤ mm ∧ (f = false → i ≤ t) ∧ (f = true → i = t + 1) ∧ Hid (MkH w3 wr (.slice (some ⟨lg4, lof4, none⟩) mm lc3) (.slice (some ⟨sg4, sof4, none⟩) mm sc3) xs (.slice rp ll rcap) l)) (fun _ s13 _ => mm - (intOf s13).toNat)
                case atStart => exact ⟨0, false, rfl, rfl, Nat.zero_le _, fun _ => Nat.zero_le _, fun e => (by cases e), H7⟩
                case round =>
                  clear H7
                  obtain ⟨i, f, rfl, rfl, hi, hf0, hf1, HZ⟩ := hrel
                  have i0 : (0 : Int) ≤ (i : Int) := by omega
                  cases f with
                  | true =>
                    have hit := hf1 rfl
                    have HN : Hid (MkB w3 wr (.slice (some ⟨lg4, lof4, none⟩) mm lc3) (.slice (some ⟨sg4, sof4, none⟩) mm sc3) (rowL (quE L) x (goL L j).1 (b + 1)).1) := Lib.hid (by
                      rw [HRN.out]
                      rcases HT.out with ⟨_, _, e3⟩ | ⟨e1, _, _⟩
                      · rw [e3]; exact HZ.out.met
                      · omega)
                    clear HZ hf0 hf1 hit
                    by_cases hlm : i < mm
                    · have hlmi : (i : Int) < (mm : Int) := by omega
                      go_wp2_with fail
                      go_roundw
                      case rel => exact ⟨b + 1, by go_num, hb2, HN⟩
                      case measure => simp [intOf] <;> omega
                    · have hlmi : ¬ (i : Int) < (mm : Int) := by omega
                      go_wp2_with fail
                      go_roundw
                      case rel => exact ⟨b + 1, by go_num, hb2, HN⟩
                      case measure => simp [intOf] <;> omega
                  | false =>
                    have hit := hf0 rfl
                    clear hf0 hf1
                    by_cases hlm : i < mm
                    · have hlmi : (i : Int) < (mm : Int) := by omega
                      obtain ⟨li, hli2⟩ : ∃ li, xs[i]? = some li := ⟨_, List.getElem?_eq_getElem (by rw [HMM.out]; exact hlm)⟩
                      obtain ⟨lg8, lof8, lc8, sg8, sof8, sc8, u8, e1, e2, c0, hu8, c1⟩ := HZ.out.met.at_ hli2
                      injection e1 with e1a e1b e1c
                      injection e2 with e2a e2b e2c
                      injection e1a with e1a
                      injection e2a with e2a
                      injection e1a with e1a e1d
                      injection e2a with e2a e2d
                      subst e1a e1c e2a e2c e1d e2d
                      clear e1b e2b
                      have HIN := dints_any _ _ _ _ _ hu8 HZ.out.ints
                      have hiff := HIF.out i li hli2
                      by_cases hitt : i = t
                      · rw [decide_eq_true (hiff.2 hitt)] at HIN
                        have HIN := Lib.hid HIN
                        have hit1 : ((i : Int) == (t : Int)) = true := by rw [hitt]; exact beq_self_eq_true _
                        have HC1 := Lib.hid (fun (V : World) (hv : Below wr.heap.size wr V) => (keep_below (fun _ => True) hv).cell c1 trivial)
                        have HIT := Lib.hid hitt
                        clear hiff hli2 hu8 c1 hitt
                        go_wp2_with fail
                        go_fit HIN.out
                        rintro e w8 ⟨rfl, hb8⟩
                        have c1 := HC1.out _ hb8
                        have H8 := Lib.hid (HZ.out.under hb8)
                        clear hb8 HZ HIN c0
                        go_wp2_with fail
                        go_roundw
                        case rel => exact ⟨i + 1, true, rfl, by go_num, by omega, fun e => (by cases e), fun _ => by rw [HIT.out], H8⟩
                        case measure => simp [intOf] <;> omega
                      · rw [decide_eq_false (fun e => hitt (hiff.1 e))] at HIN
                        have HIN := Lib.hid HIN
                        have hit1 : ((i : Int) == (t : Int)) = false := beq_eq_false_iff_ne.2 (by omega)
                        have HC1 := Lib.hid (fun (V : World) (hv : Below wr.heap.size wr V) => (keep_below (fun _ => True) hv).cell c1 trivial)
                        have HIT := Lib.hid hitt
                        clear hiff hli2 hu8 c1 hitt
                        go_wp2_with fail
                        go_fit HIN.out
                        rintro e w8 ⟨rfl, hb8⟩
                        have c1 := HC1.out _ hb8
                        have H8 := Lib.hid (HZ.out.under hb8)
                        clear hb8 HZ HIN c0
                        go_wp2_with fail
                        go_roundw
                        case rel => exact ⟨i + 1, false, rfl, by go_num, by omega, fun _ => (by have := HIT.out; omega), fun e => (by cases e), H8⟩
                        case measure => simp [intOf] <;> omega
                    · have hlmi : ¬ (i : Int) < (mm : Int) := by omega
                      obtain ⟨htm, hnew⟩ : t = mm ∧ numX xs l = xs ++ [l] := by
                        rcases HT.out with ⟨e1, _, _⟩ | ⟨e1, _, e3⟩
                        · omega
                        · exact ⟨e1, e3⟩
                      obtain ⟨c8, us8, y1, y2, y3⟩ := HZ.out
                      obtain ⟨ao, cap, w8, hr1, ao2, cap2, w9, hr2, HB9⟩ := y1.push y2 y3 rfl (by rw [HMM.out]; omega)
                      rw [HMM.out] at hr1 hr2 HB9
                      have H9 : Hid (MkB w3 w9 (.slice ao (mm + 1) cap) (.slice ao2 (mm + 1) cap2) (rowL (quE L) x (goL L j).1 (b + 1)).1) := Lib.hid (by
                        rw [HRN.out, hnew]
                        exact HB9)
                      subst htm
                      clear y1 y2 y3 HZ HB9 hnew hit
                      go_wp2_with (first
                        | (at_builtin; refine wpList_app_run rfl (.tmp 115) (.tmp 117) 38 (by rfl) (by rfl) (by rfl) hr1 ?_)
                        | (at_builtin; refine wpList_app_run rfl (.tmp 119) (.tmp 121) 39 (by rfl) (by rfl) (by rfl) hr2 ?_))
                      go_roundw
                      case rel => exact ⟨b + 1, by go_num, hb2, H9⟩
                      case measure => simp [intOf] <;> omega
      · have hjk : j = k := by omega
        have hlk : (goL L j).1.length = k := by rw [hjk]; exact HD.out.2.2.1
        have HBW := Lib.hid HX.out.below
        have HSN := pdstates_any (HD.out.1.below HX.out.below)
        rw [HKN.out] at HSN
        have HSN := Lib.hid HSN
        rw [hlk] at hlc hsc ⊢
        have hji : ¬ (j : Int) < (k : Int) := by omega
        have kk2 : ((k : Int) == (k : Int)) = true := beq_self_eq_true _
        clear HX hlk
        go_wp2_with fail
        go_fit HSN.out
        rintro e w7 ⟨rfl, hb7⟩
        have HX9 := Lib.hid (HTB.out _ (H3.out.trans ((HBW.out.trans (hb7.mono HBW.out.size)).mono H3.out.size)))
        clear HTB hb7 HSN
        go_wp2_with fail
        go_fit HX9.out
        rintro e w9 ⟨rfl, hb⟩
        have HB := Lib.hid hb
        clear hb
        go_wp2_with fail
        go_ret
        exact ⟨rfl, HB.out⟩
  · have HX := Lib.hid (HTB.out _ H3.out)
    clear HTB h4 h5 h6 hnp h0
    go_wp2_with fail
    go_fit HX.out
    rintro e w9 ⟨rfl, hb⟩
    have HB := Lib.hid hb
    clear hb
    go_wp2_with fail
    go_ret
    exact ⟨rfl, HB.out⟩
end Go.Proofs.YtjeomlickkpebaaGreatDoor
