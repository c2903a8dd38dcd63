/-
  limnerref09: Feed, Tick: what each returns, where the document's decoder stands then: for every state that may be, for every byte.
-/
import Derived.Test.YtdnldfgolbcjiaaDoorBe44
import Derived.Test.YtdnldfgolbcjiaaDoorBe45
import Derived.Test.YtdnldfgolbcjiaaDoorBe46
namespace Go.Proofs.YtdnldfgolbcjiaaDoor
open Go.RowKit

theorem fedr_keep {N R : Nat} {v : Value} {w w1 w' : World} {r : Ky × List Ke} {e : Ending} (hb : Below w.heap.size w w1) (h : FedR N R v w1 r e w') : FedR N R v w r e w' := by
  obtain ⟨u, v', he, hu, hd, hk, ho⟩ := h
  exact ⟨u, v', he, hu.any fun j (hj : w1.heap.size ≤ j) => Nat.le_trans hb.size hj, hd, (keep_below _ hb).trans hk, fun k e hk => ho k e (Nat.lt_of_lt_of_le hk hb.size)⟩
theorem one_inj (b c : Nat) (hb : b < 256) (hc : c < 256) : oneS b = oneS c ↔ b = c := by
  constructor
  · intro e
    have h1 := bt_one b hb
    have h2 := bt_one c hc
    rw [e] at h1
    omega
  · rintro rfl; rfl
theorem size_one_eq (w : ByteArray) (c : Nat) (hc : c < 256) : w = oneS c ↔ w.size = 1 ∧ bt w 0 = c := by
  constructor
  · rintro rfl; exact ⟨rfl, bt_one c hc⟩
  · rintro ⟨h1, h2⟩
    refine ba_eq.2 ?_
    have hl : w.data.toList.length = 1 := by rw [← Lib.size_eq]; exact h1
    obtain ⟨u, hu⟩ := List.length_eq_one_iff.1 hl
    rw [bt_data, hu] at h2
    rw [hu, nums_one c hc]
    show [u.toNat] = [c]
    rw [← h2]; rfl
theorem size_two_eq (w : ByteArray) : w = ⟨#[27, 79]⟩ ↔ w.size = 2 ∧ bt w 0 = 27 ∧ bt w 1 = 79 := by
  constructor
  · rintro rfl; exact ⟨rfl, rfl, rfl⟩
  · rintro ⟨h1, h2, h3⟩
    refine ba_eq.2 ?_
    have hl : w.data.toList.length = 2 := by rw [← Lib.size_eq]; exact h1
    rw [bt_data] at h2 h3
    generalize w.data.toList = L at hl h2 h3
    match L, hl, h2, h3 with
    | [u, x], _, h2, h3 =>
      have a1 : u.toNat = 27 := h2
      have a2 : x.toNat = 79 := h3
      show [u.toNat, x.toNat] = [27, 79]
      rw [a1, a2]

/-- A key, and what a turn behind it tells. -/
theorem fedh_app {R b : Nat} {v u u2 : Value} {w w1 w2 : World} (k : Ke) (hU : OutK w.heap.size w1 u [k]) (hb1 : Below w.heap.size w w1) (hlR : R < w.heap.size) (hu2 : KeysW (FromK w1.heap.size) w2 u2 (firstK b).2) (hB2 : boxR w2 R (.string (heldS (firstK b).1)) (.bool (isP (firstK b).1)) v) (hk2 : KeepW (fun k => k ≠ R) w1 w2) (hp2 : pastS (firstK b).1 = noB) :
    ∃ u3 w3, (Builtin.append_ #[34, 34] 34 #[u, u2]).run Tryd.prog w2 = .ok u3 w3 ∧ FedH R v w (anewK k b) (.returned u3) w3 := by
  have hlo := hU.lt
  have hU2 : OutK w.heap.size w2 u [k] := hU.keep hk2 fun j e hj => by
    have := (hlo j e).1
    omega
  have z1 := hb1.size
  have z2 := hk2.size
  obtain ⟨u3, w3, hr, hO, hk3, hn3⟩ := run_outK 34 34 Tryd.underlying34 hU2 hu2 (by omega) (by have := first_keys b; simp only [List.length_cons, List.length_nil]; omega)
  refine ⟨u3, w3, hr, u3, rfl, hO.keys, hB2.keep hk3 (fun e => by have := (hlo R e).1; omega), ((keep_below _ hb1).trans hk2).comp hk3 (fun j hj _ e => by have := (hlo j e).1; omega), hp2⟩

set_option maxRecDepth 4000 in
set_option maxHeartbeats 8000000 in
theorem rheld_any (R b : Nat) (v : Value) (wt : ByteArray) (w : World) (hB : boxR w R (.string wt) (.bool false) v) (hok : OkH wt) (hb : b < 256) (hw : wt.size ≤ 50000) :
    Calls Tryd.prog 14 #[.pointer (some ⟨R, 0, none⟩), .int .u8 (b : Int)] w (FedH R v w (heldK wt b)) := by
  obtain ⟨G, hG⟩ : ∃ G, heldK wt b = G := ⟨_, rfl⟩
  rw [hG]
  unfold heldK at hG
  have hl := hB.lt
  have hb0 := alloc_below w (.cells #[.int .u8 (b : Int)] 5)
  have cv := bytes_conv 28 Tryd.underlying28 ((row_byte 0 w b hb (Nat.zero_le _)).bytes)
  obtain ⟨⟨c0, c1, _⟩, f0, _, _⟩ := hB.cells
  have hB1 := hB.below hb0
  have hk1 := keep_below (fun k => k ≠ R) hb0
  have hl1 := hB1.lt
  obtain ⟨W1, hW1⟩ : ∃ W1, w.alloc (.cells #[.int .u8 (b : Int)] 5) = W1 := ⟨_, rfl⟩
  rw [hW1] at hB1 hk1 hl1 cv
  obtain ⟨⟨d0, d1, _⟩, g0, g1, _⟩ := hB1.cells
  have HB1 := Lib.hid hB1
  have HK1 := Lib.hid hk1
  have hsz := snoc_size wt b
  have z1 := one_size b
  have i1 : 1 ≤ 100000 := by decide
  have HBT := Lib.hid (fun k (hk : k < wt.size) => (show (wt[k].toNat : Int) = (bt wt k : Int) by unfold bt; rw [show wt.get! k = wt[k] from get_at wt k hk]))
  by_cases h0 : wt.size = 0
  · have e0 : wt = noB := by
      apply ByteArray.ext
      exact Array.eq_empty_of_size_eq_zero h0
    rw [if_pos h0] at hG
    have HG := Lib.hid hG
    have HF := Lib.hid (rfirst_any R b _ v W1 HB1.out hb)
    have q : (wt.toList == []) = true := by rw [ba_lit]; exact decide_eq_true e0
    clear hB hok hG hB1 hk1 h0 e0
    go_enter Tryd.func14, Tryd.ntmps14
    go_wp2_with fail
    go_fit HF.out
    rintro e w' hf
    have HFf := Lib.hid (fedh_below HK1.out hf)
    obtain ⟨u, rfl, _⟩ := hf
    go_wp2_with fail
    go_ret
    rw [← HG.out]
    exact HFf.out
  have hne : (wt.toList == []) = false := by
    rw [ba_lit]
    refine decide_eq_false fun e => h0 ?_
    rw [e]; rfl
  rw [if_neg h0] at hG
  have hx0 := HBT.out 0 (by omega)
  have p0 : 0 < wt.size := by omega
  by_cases e27 : bt wt 0 = 27
  · rw [if_neg (fun h => h e27)] at hG
    rw [e27] at hx0
    by_cases h1 : wt.size = 1
    · rw [if_pos h1] at hG
      have q27 : (wt.toList == [27]) = true := by rw [ba_lit]; exact decide_eq_true ((size_one_eq wt 27 (by decide)).2 ⟨h1, e27⟩)
      have HBG := Lib.hid (fun W => begins_any (oneS b) W (by rw [one_size]; decide) (by rw [one_size]; decide))
      unfold escK at hG
      clear hB hok hB1 hk1
      by_cases e91 : b = 91
      · rw [if_pos (.inl e91)] at hG
        have s91 : ((oneS b).toList == [91]) = true := by rw [ba_lit]; exact decide_eq_true ((one_inj b 91 hb (by decide)).2 e91)
        have HG := Lib.hid hG
        clear hG e91
        go_enter Tryd.func14, Tryd.ntmps14
        go_wp2_with fail
        go_ret
        rw [← HG.out]
        exact fedh_none (p := .held (wt ++ oneS b)) (HK1.out.trans (keep_R _ _ _ _)) (HB1.out.set0 _) rfl
      have s91 : ((oneS b).toList == [91]) = false := by rw [ba_lit]; exact decide_eq_false (fun h => e91 ((one_inj b 91 hb (by decide)).1 h))
      by_cases e79 : b = 79
      · rw [if_pos (.inr (.inl e79))] at hG
        have s79 : ((oneS b).toList == [79]) = true := by rw [ba_lit]; exact decide_eq_true ((one_inj b 79 hb (by decide)).2 e79)
        have HG := Lib.hid hG
        clear hG e79
        go_enter Tryd.func14, Tryd.ntmps14
        go_wp2_with fail
        go_ret
        rw [← HG.out]
        exact fedh_none (p := .held (wt ++ oneS b)) (HK1.out.trans (keep_R _ _ _ _)) (HB1.out.set0 _) rfl
      have s79 : ((oneS b).toList == [79]) = false := by rw [ba_lit]; exact decide_eq_false (fun h => e79 ((one_inj b 79 hb (by decide)).1 h))
      have hnb : begB (oneS b) = true → 128 ≤ b := fun h => by
        have := beg_first _ (of_decide_eq_true h : Beg _)
        rw [bt_one b hb] at this
        omega
      by_cases hg : begB (oneS b) = true
      · rw [if_pos (.inr (.inr hg))] at hG
        have j1 : (128 : Int) ≤ (b : Int) := by have := hnb hg; omega
        rw [hg] at HBG
        have HG := Lib.hid hG
        clear hG hg hnb
        go_enter Tryd.func14, Tryd.ntmps14
        go_wp2_with fail
        go_fit (HBG.out _)
        rintro e w2 ⟨rfl, hb2⟩
        have HB2 := Lib.hid (HB1.out.below hb2)
        have HK2 := Lib.hid (HK1.out.trans (keep_below _ hb2))
        have hl2 := HB2.out.lt
        obtain ⟨⟨m0, _, _⟩, n0, _, _⟩ := HB2.out.cells
        clear hb2
        go_wp2_with fail
        go_ret
        rw [← HG.out]
        exact fedh_none (p := .held (wt ++ oneS b)) (HK2.out.trans (keep_R _ _ _ _)) (HB2.out.set0 _) rfl
      have hg0 : begB (oneS b) = false := by cases h : begB (oneS b); rfl; exact absurd h hg
      rw [if_neg (fun h => by rcases h with h | h | h; exact e91 h; exact e79 h; exact hg h)] at hG
      rw [hg0] at HBG
      clear hg hg0 hnb
      by_cases hc : 32 ≤ b ∧ b < 127
      · rw [if_pos hc] at hG
        have j0 : (b : Int) < 128 := by omega
        have j1 : (32 : Int) ≤ (b : Int) := by omega
        have j2 : (b : Int) < 127 := by omega
        have HKY : Hid (∀ W, Calls Tryd.prog 31 #[.int .i64 7, .int .i32 (b : Int), .string ⟨#[]⟩] W fun e w' => ∃ u, e = .returned u ∧ OutK W.heap.size w' u [(7, b, noB)] ∧ Below W.heap.size W w') := fun W => rkey_any 7 b noB W
        have HB2 := Lib.hid (HB1.out.set0 (.string ⟨#[]⟩))
        have HK2 := Lib.hid (HK1.out.trans (keep_R W1 R 0 (.string ⟨#[]⟩)))
        have HG := Lib.hid hG
        clear hG
        go_enter Tryd.func14, Tryd.ntmps14
        go_wp2_with fail
        go_fit (HKY.out _)
        rintro e w3 ⟨u, rfl, hu, hb3⟩
        have HF := Lib.hid (fedh_key (R := R) (v := v) (p := .held noB) HK2.out hu hb3 HB2.out rfl)
        clear hu hb3
        go_wp2_with fail
        go_ret
        rw [← HG.out]
        exact HF.out
      rw [if_neg hc] at hG
      by_cases c1 : b < 32
      · have j0 : (b : Int) < 128 := by omega
        have j1 : (b : Int) < 32 := by omega
        have HG := Lib.hid hG
        clear hG
        have HKY : Hid (∀ W, Calls Tryd.prog 31 #[.int .i64 5, .int .i32 0, .string ⟨#[]⟩] W fun e w' => ∃ u, e = .returned u ∧ OutK W.heap.size w' u [(5, 0, noB)] ∧ Below W.heap.size W w') := fun W => rkey_any 5 0 noB W
        have HFI := Lib.hid (fun W x (h : boxR W R x (.bool false) v) => rfirst_any R b x v W h hb)
        go_enter Tryd.func14, Tryd.ntmps14
        go_wp2_with fail
        go_fit (HKY.out _)
        rintro e w3 ⟨u, rfl, hu, hb3⟩
        have HU := Lib.hid hu
        have HB3 := Lib.hid hb3
        have HF3 := Lib.hid (HFI.out w3 _ (HB1.out.below hb3))
        clear hu hb3
        go_wp2_with fail
        go_fit HF3.out
        rintro e w4 ⟨u2, rfl, hu2, hB4, hk4, hp4⟩
        obtain ⟨u5, w5, hr, hfin⟩ := fedh_app (5, 0, noB) HU.out HB3.out (HB1.out).lt hu2 hB4 hk4 hp4
        have HFin := Lib.hid (fedh_below HK1.out hfin)
        clear hfin hk4 hu2 hB4 hp4
        go_wp2_with (at_builtin; refine wpList_run (by rfl) _ _ 34 (by rfl) (by rfl) (by rfl) hr ?_)
        go_ret
        rw [← HG.out]
        exact HFin.out
      by_cases c2 : b < 128
      · have j0 : (b : Int) < 128 := by omega
        have j1 : (32 : Int) ≤ (b : Int) := by omega
        have j2 : (127 : Int) ≤ (b : Int) := by omega
        have HG := Lib.hid hG
        clear hG
        have HKY : Hid (∀ W, Calls Tryd.prog 31 #[.int .i64 5, .int .i32 0, .string ⟨#[]⟩] W fun e w' => ∃ u, e = .returned u ∧ OutK W.heap.size w' u [(5, 0, noB)] ∧ Below W.heap.size W w') := fun W => rkey_any 5 0 noB W
        have HFI := Lib.hid (fun W x (h : boxR W R x (.bool false) v) => rfirst_any R b x v W h hb)
        go_enter Tryd.func14, Tryd.ntmps14
        go_wp2_with fail
        go_fit (HKY.out _)
        rintro e w3 ⟨u, rfl, hu, hb3⟩
        have HU := Lib.hid hu
        have HB3 := Lib.hid hb3
        have HF3 := Lib.hid (HFI.out w3 _ (HB1.out.below hb3))
        clear hu hb3
        go_wp2_with fail
        go_fit HF3.out
        rintro e w4 ⟨u2, rfl, hu2, hB4, hk4, hp4⟩
        obtain ⟨u5, w5, hr, hfin⟩ := fedh_app (5, 0, noB) HU.out HB3.out (HB1.out).lt hu2 hB4 hk4 hp4
        have HFin := Lib.hid (fedh_below HK1.out hfin)
        clear hfin hk4 hu2 hB4 hp4
        go_wp2_with (at_builtin; refine wpList_run (by rfl) _ _ 34 (by rfl) (by rfl) (by rfl) hr ?_)
        go_ret
        rw [← HG.out]
        exact HFin.out
      · have j0 : (128 : Int) ≤ (b : Int) := by omega
        have j1 : (32 : Int) ≤ (b : Int) := by omega
        have j2 : (127 : Int) ≤ (b : Int) := by omega
        have HG := Lib.hid hG
        clear hG
        have HKY : Hid (∀ W, Calls Tryd.prog 31 #[.int .i64 5, .int .i32 0, .string ⟨#[]⟩] W fun e w' => ∃ u, e = .returned u ∧ OutK W.heap.size w' u [(5, 0, noB)] ∧ Below W.heap.size W w') := fun W => rkey_any 5 0 noB W
        have HFI := Lib.hid (fun W x (h : boxR W R x (.bool false) v) => rfirst_any R b x v W h hb)
        go_enter Tryd.func14, Tryd.ntmps14
        go_wp2_with fail
        go_fit (HBG.out _)
        rintro e w2 ⟨rfl, hb2⟩
        have HB2 := Lib.hid (HB1.out.below hb2)
        have HK2 := Lib.hid (HK1.out.trans (keep_below _ hb2))
        clear hb2
        go_wp2_with fail
        go_fit (HKY.out _)
        rintro e w3 ⟨u, rfl, hu, hb3⟩
        have HU := Lib.hid hu
        have HB3 := Lib.hid hb3
        have HF3 := Lib.hid (HFI.out w3 _ (HB2.out.below hb3))
        clear hu hb3
        go_wp2_with fail
        go_fit HF3.out
        rintro e w4 ⟨u2, rfl, hu2, hB4, hk4, hp4⟩
        obtain ⟨u5, w5, hr, hfin⟩ := fedh_app (5, 0, noB) HU.out HB3.out (HB2.out).lt hu2 hB4 hk4 hp4
        have HFin := Lib.hid (fedh_below HK2.out hfin)
        clear hfin hk4 hu2 hB4 hp4
        go_wp2_with (at_builtin; refine wpList_run (by rfl) _ _ 34 (by rfl) (by rfl) (by rfl) hr ?_)
        go_ret
        rw [← HG.out]
        exact HFin.out
    rw [if_neg h1] at hG
    have q27 : (wt.toList == [27]) = false := by rw [ba_lit]; exact decide_eq_false (fun h => h1 ((size_one_eq wt 27 (by decide)).1 h).1)
    have hx1 := HBT.out 1 (by omega)
    have p1 : 1 < wt.size := by omega
    by_cases e79 : bt wt 1 = 79
    · rw [if_pos e79] at hG
      have hs2 := ok_two wt hok e27 p1 e79
      have q79 : (wt.toList == [27, 79]) = true := by rw [ba_lit]; exact decide_eq_true ((size_two_eq wt).2 ⟨hs2, e27, e79⟩)
      have HB2 := Lib.hid (HB1.out.set0 (.string ⟨#[]⟩))
      have HK2 := Lib.hid (HK1.out.trans (keep_R W1 R 0 (.string ⟨#[]⟩)))
      have HAR := Lib.hid (arrow_any (oneS b))
      have htl : tailB (wt ++ oneS b) 2 = oneS b := by
        rw [tail_snoc wt b 2 (by omega)]
        refine ba_eq.2 ?_
        rw [app_data, tail_list, List.drop_of_length_le (by rw [← Lib.size_eq]; omega)]
        rfl
      have hkn : knownK (wt ++ oneS b) = if namedK (oneS b) = 0 then badK (wt ++ oneS b) else (namedK (oneS b), 0, noB) := by unfold knownK; rw [htl]
      have two : ∀ x y : UInt8, oneS b ≠ ⟨#[x, y]⟩ := fun x y e => by
        have : (oneS b).size = 2 := by rw [e]; rfl
        rw [one_size] at this
        omega
      have hna : namedK (oneS b) = arrowN (oneS b) := by
        unfold namedK arrowN
        by_cases a1 : oneS b = oneS 65
        · rw [if_pos a1, if_pos a1]
        rw [if_neg a1, if_neg a1]
        by_cases a2 : oneS b = oneS 66
        · rw [if_pos a2, if_pos a2]
        rw [if_neg a2, if_neg a2]
        by_cases a3 : oneS b = oneS 67
        · rw [if_pos a3, if_pos a3]
        rw [if_neg a3, if_neg a3]
        by_cases a4 : oneS b = oneS 68
        · rw [if_pos a4, if_pos a4]
        rw [if_neg a4, if_neg a4]
        by_cases a5 : oneS b = oneS 72
        · rw [if_pos (.inl a5), if_pos a5]
        rw [if_neg (fun h => by rcases h with h | h | h; exact a5 h; exact two _ _ h; exact two _ _ h), if_neg a5]
        by_cases a6 : oneS b = oneS 70
        · rw [if_pos (.inl a6), if_pos a6]
        rw [if_neg (fun h => by rcases h with h | h | h; exact a6 h; exact two _ _ h; exact two _ _ h), if_neg a6, if_neg (two _ _)]
      have hal : arrowN (oneS b) ≠ 0 → 32 ≤ b ∧ b < 127 := fun h => by
        unfold arrowN at h
        simp only [one_inj b 65 hb (by decide), one_inj b 66 hb (by decide), one_inj b 67 hb (by decide), one_inj b 68 hb (by decide), one_inj b 72 hb (by decide), one_inj b 70 hb (by decide)] at h
        repeat' split at h
        all_goals omega
      rw [hna] at hkn
      unfold ss3K at hG
      rw [hkn] at hG
      have HAN := Lib.hid (fun W x (h : boxR W R x (.bool false) v) => ranew_any R b x v wt W h hb)
      obtain ⟨A, hA⟩ : ∃ A, arrowN (oneS b) = A := ⟨_, rfl⟩
      rw [hA] at hG HAR hal
      clear hkn hna htl two hA hB hok hB1 hk1
      by_cases a0 : A = 0
      · subst a0
        by_cases hc : b < 32 ∨ 127 ≤ b
        · rw [if_pos hc] at hG
          have HG := Lib.hid hG
          clear hG hal
          by_cases c1 : b < 32
          · have j1 : (b : Int) < 32 := by omega
            go_enter Tryd.func14, Tryd.ntmps14
            go_wp2_with fail
            go_fit (HAR.out _)
            rintro e w3 ⟨rfl, hb3⟩
            have HB3 := Lib.hid (HB2.out.below hb3)
            have HK3 := Lib.hid (HK2.out.trans (keep_below _ hb3))
            clear hb3
            go_wp2_with fail
            go_fit (HAN.out _ _ HB3.out)
            rintro e w' hf
            have HFf := Lib.hid (fedh_below HK3.out hf)
            obtain ⟨u, rfl, _⟩ := hf
            go_wp2_with fail
            go_ret
            rw [← HG.out]
            exact HFf.out
          · have j1 : (32 : Int) ≤ (b : Int) := by omega
            have j2 : (127 : Int) ≤ (b : Int) := by omega
            go_enter Tryd.func14, Tryd.ntmps14
            go_wp2_with fail
            go_fit (HAR.out _)
            rintro e w3 ⟨rfl, hb3⟩
            have HB3 := Lib.hid (HB2.out.below hb3)
            have HK3 := Lib.hid (HK2.out.trans (keep_below _ hb3))
            clear hb3
            go_wp2_with fail
            go_fit (HAN.out _ _ HB3.out)
            rintro e w' hf
            have HFf := Lib.hid (fedh_below HK3.out hf)
            obtain ⟨u, rfl, _⟩ := hf
            go_wp2_with fail
            go_ret
            rw [← HG.out]
            exact HFf.out
        · rw [if_neg hc, if_pos rfl] at hG
          have j1 : (32 : Int) ≤ (b : Int) := by omega
          have j2 : (b : Int) < 127 := by omega
          have HKY : Hid (∀ W, Calls Tryd.prog 31 #[.int .i64 0, .int .i32 0, .string (wt ++ oneS b)] W fun e w' => ∃ u, e = .returned u ∧ OutK W.heap.size w' u [badK (wt ++ oneS b)] ∧ Below W.heap.size W w') := fun W => rkey_any 0 0 (wt ++ oneS b) W
          have HG := Lib.hid hG
          clear hG hal
          go_enter Tryd.func14, Tryd.ntmps14
          go_wp2_with fail
          go_fit (HAR.out _)
          rintro e w3 ⟨rfl, hb3⟩
          have HB3 := Lib.hid (HB2.out.below hb3)
          have HK3 := Lib.hid (HK2.out.trans (keep_below _ hb3))
          clear hb3
          go_wp2_with fail
          go_fit (HKY.out _)
          rintro e w4 ⟨u, rfl, hu, hb4⟩
          have HF := Lib.hid (fedh_key (R := R) (v := v) (p := .held noB) HK3.out hu hb4 HB3.out rfl)
          clear hu hb4
          go_wp2_with fail
          go_ret
          rw [← HG.out]
          exact HF.out
      · have hc := hal a0
        have i0 : (0 : Int) < (A : Int) := by omega
        rw [if_neg (by omega), if_neg a0] at hG
        have HKY : Hid (∀ W, Calls Tryd.prog 31 #[.int .i64 (A : Int), .int .i32 0, .string ⟨#[]⟩] W fun e w' => ∃ u, e = .returned u ∧ OutK W.heap.size w' u [(A, 0, noB)] ∧ Below W.heap.size W w') := fun W => rkey_any A 0 noB W
        have HG := Lib.hid hG
        clear hG hal hc
        go_enter Tryd.func14, Tryd.ntmps14
        go_wp2_with fail
        go_fit (HAR.out _)
        rintro e w3 ⟨rfl, hb3⟩
        have HB3 := Lib.hid (HB2.out.below hb3)
        have HK3 := Lib.hid (HK2.out.trans (keep_below _ hb3))
        clear hb3
        go_wp2_with fail
        go_fit (HAR.out _)
        rintro e w3b ⟨rfl, hb3⟩
        have HB4 := Lib.hid (HB3.out.below hb3)
        have HK4 := Lib.hid (HK3.out.trans (keep_below _ hb3))
        clear hb3
        go_wp2_with fail
        go_fit (HKY.out _)
        rintro e w4 ⟨u, rfl, hu, hb4⟩
        have HF := Lib.hid (fedh_key (R := R) (v := v) (p := .held noB) HK4.out hu hb4 HB4.out rfl)
        clear hu hb4
        go_wp2_with fail
        go_ret
        rw [← HG.out]
        exact HF.out
    rw [if_neg e79] at hG
    have q79 : (wt.toList == [27, 79]) = false := by rw [ba_lit]; exact decide_eq_false (fun h => e79 ((size_two_eq wt).1 h).2.2)
    by_cases e91 : bt wt 1 = 91
    · rw [if_pos e91] at hG
      rw [e91] at hx1
      have HF := Lib.hid (rseq_any R b v wt W1 HB1.out hb hw (by omega))
      have HG := Lib.hid hG
      clear hB hok hG hB1 hk1
      go_enter Tryd.func14, Tryd.ntmps14
      go_wp2_with fail
      go_fit HF.out
      rintro e w' hf
      have HFf := Lib.hid (fedh_below HK1.out hf)
      obtain ⟨u, rfl, _⟩ := hf
      go_wp2_with fail
      go_ret
      rw [← HG.out]
      exact HFf.out
    · rw [if_neg e91] at hG
      have hgt := ok_tail wt hok e27 p1 e79 e91
      have hts := tail_snoc wt b 1 (by omega)
      rw [hts] at hG
      have htl : wt.extract 1 wt.size = tailB wt 1 := rfl
      have HF := Lib.hid (rcode_alt R b v wt (tailB wt 1) W1 HB1.out hb (by rw [tail_len]; omega) hw hgt)
      have HG := Lib.hid hG
      have hx1' : ((wt[1].toNat : Int) == 91) = false := by rw [hx1]; exact u8_no e91
      obtain ⟨TL, hTL⟩ : ∃ TL, tailB wt 1 = TL := ⟨_, rfl⟩
      rw [hTL] at htl HF HG
      obtain ⟨B1, hB1'⟩ : ∃ B1, bt wt 1 = B1 := ⟨_, rfl⟩
      rw [hB1'] at hx1 e91
      have i91 : ((B1 : Int) == 91) = false := u8_no e91
      clear hB hok hG hB1 hk1 hgt hts hTL hB1' e79 hx1' e91
      go_enter Tryd.func14, Tryd.ntmps14
      go_wp2_with fail
      go_fit HF.out
      rintro e w' hf
      have HFf := Lib.hid (fedh_below HK1.out hf)
      obtain ⟨u, rfl, _⟩ := hf
      go_wp2_with fail
      go_ret
      rw [← HG.out]
      exact HFf.out
  · rw [if_pos e27] at hG
    have hbg := ok_beg wt hok h0 e27
    have HF := Lib.hid (rcode_any R b v wt wt W1 HB1.out hb hw hw hbg)
    have HG := Lib.hid hG
    obtain ⟨B0, hB0⟩ : ∃ B0, bt wt 0 = B0 := ⟨_, rfl⟩
    rw [hB0] at hx0 e27
    have i27 : ((B0 : Int) == 27) = false := u8_no e27
    clear hB hok hG hB1 hk1 hbg hB0 e27
    go_enter Tryd.func14, Tryd.ntmps14
    go_wp2_with fail
    go_fit HF.out
    rintro e w' hf
    have HFf := Lib.hid (fedh_below HK1.out hf)
    obtain ⟨u, rfl, _⟩ := hf
    go_wp2_with fail
    go_ret
    rw [← HG.out]
    exact HFf.out

set_option maxRecDepth 4000 in
set_option maxHeartbeats 4000000 in
theorem rfeed_any (N R b : Nat) (v : Value) (p : Ky) (w : World) (h : RefK N w R v p) (hok : OkK p) (hN : N ≤ w.heap.size) (hb : b < 256) (hs : sizeK p ≤ 50000) :
    Calls Tryd.prog 14 #[.pointer (some ⟨R, 0, none⟩), .int .u8 (b : Int)] w (FedR N R v w (feedK p b)) := by
  cases p with
  | held s => exact (rheld_any R b v s w h.box hok hb hs).mono fun e w' hf => hf.fed h.row h.ne h.ge
  | paste s =>
    have hb0 := alloc_below w (.cells #[.int .u8 (b : Int)] 5)
    have cv := bytes_conv 28 Tryd.underlying28 ((row_byte 0 w b hb (Nat.zero_le _)).bytes)
    have hB : boxR w R (.string ⟨#[]⟩) (.bool true) v := h.box
    have hl := hB.lt
    obtain ⟨⟨c0, c1, _⟩, f0, _, _⟩ := hB.cells
    have h1 : RefK N (w.alloc (.cells #[.int .u8 (b : Int)] 5)) R v (.paste s) := ⟨h.box.below hb0, OwnB.below h.row hb0, h.ne, h.ge⟩
    have HF := Lib.hid (rpast_any N R b v s _ h1 (Nat.le_trans hN hb0.size) hb hs)
    have HB0 := Lib.hid hb0
    clear h h1 hB hb0 hs
    go_enter Tryd.func14, Tryd.ntmps14
    go_wp2_with fail
    go_fit HF.out
    rintro e w' hf
    have HFf := Lib.hid (fedr_keep HB0.out hf)
    obtain ⟨u, v9, rfl, _⟩ := hf
    go_wp2_with fail
    go_ret
    exact HFf.out
set_option maxRecDepth 4000 in
set_option maxHeartbeats 4000000 in
theorem rtick_any (N R : Nat) (v : Value) (p : Ky) (w : World) (h : RefK N w R v p) :
    Calls Tryd.prog 17 #[.pointer (some ⟨R, 0, none⟩)] w (FedR N R v w (tickK p)) := by
  have hself : FedR N R v w (p, []) (.returned (.slice none 0 0)) w := ⟨_, v, rfl, KeysW.nil _ _, h, KeepW.refl _ _, fun k e _ => e⟩
  have HSelf := Lib.hid hself
  have hB := h.box
  have hl := hB.lt
  obtain ⟨⟨c0, c1, _⟩, f0, _, _⟩ := hB.cells
  clear hself
  cases p with
  | paste s =>
    have c1' : w.cell? ⟨R, 1, none⟩ = some (.bool true) := c1
    have c0' : w.cell? ⟨R, 0, none⟩ = some (.string ⟨#[]⟩) := c0
    clear c0 c1 hB h
    go_enter Tryd.func17, Tryd.ntmps17
    go_wp2_with fail
    go_ret
    exact HSelf.out
  | held s =>
    have c1' : w.cell? ⟨R, 1, none⟩ = some (.bool false) := c1
    have c0' : w.cell? ⟨R, 0, none⟩ = some (.string s) := c0
    have hB' : boxR w R (.string s) (.bool false) v := hB
    by_cases h0 : s.size = 0
    · have HE : Hid (tickK (.held s) = (.held s, [])) := by show (if s.size = 0 then (Ky.held s, []) else (Ky.held noB, [if s = oneS 27 then ((5, 0, noB) : Ke) else badK s])) = _; rw [if_pos h0]
      have e0 : s = noB := by
        apply ByteArray.ext
        exact Array.eq_empty_of_size_eq_zero h0
      have q : (s.toList == []) = true := by rw [ba_lit]; exact decide_eq_true e0
      clear c0 c1 hB h h0 e0 hB'
      go_enter Tryd.func17, Tryd.ntmps17
      go_wp2_with fail
      go_ret
      rw [HE.out]
      exact HSelf.out
    have q : (s.toList == []) = false := by
      rw [ba_lit]
      refine decide_eq_false fun e => h0 ?_
      rw [e]; rfl
    have hB2 := hB'.set0 (.string ⟨#[]⟩)
    have HB2 := Lib.hid hB2
    have hrow : OwnB N w v noB := h.row
    have HFD := Lib.hid (fun r e w' (hf : FedH R v w r e w') => hf.fed hrow h.ne h.ge)
    by_cases e1 : s = oneS 27
    · have HE : Hid (tickK (.held s) = (.held noB, [(5, 0, noB)])) := by show (if s.size = 0 then (Ky.held s, []) else (Ky.held noB, [if s = oneS 27 then ((5, 0, noB) : Ke) else badK s])) = _; rw [if_neg h0, if_pos e1]
      have q27 : (s.toList == [27]) = true := by rw [ba_lit]; exact decide_eq_true e1
      have HKY : Hid (∀ W, Calls Tryd.prog 31 #[.int .i64 5, .int .i32 0, .string ⟨#[]⟩] W fun e w' => ∃ u, e = .returned u ∧ OutK W.heap.size w' u [(5, 0, noB)] ∧ Below W.heap.size W w') := fun W => rkey_any 5 0 noB W
      clear c0 c1 hB h h0 e1 hB' hB2 hrow
      go_enter Tryd.func17, Tryd.ntmps17
      go_wp2_with fail
      go_fit (HKY.out _)
      rintro e w3 ⟨u, rfl, hu, hb3⟩
      have HF := Lib.hid (HFD.out _ _ _ (fedh_key (R := R) (v := v) (p := .held noB) (keep_R w R 0 (.string ⟨#[]⟩)) hu hb3 HB2.out rfl))
      clear hu hb3
      go_wp2_with fail
      go_ret
      rw [HE.out]
      exact HF.out
    · have HE : Hid (tickK (.held s) = (.held noB, [badK s])) := by show (if s.size = 0 then (Ky.held s, []) else (Ky.held noB, [if s = oneS 27 then ((5, 0, noB) : Ke) else badK s])) = _; rw [if_neg h0, if_neg e1]
      have q27 : (s.toList == [27]) = false := by rw [ba_lit]; exact decide_eq_false e1
      have HKY : Hid (∀ W, Calls Tryd.prog 31 #[.int .i64 0, .int .i32 0, .string s] W fun e w' => ∃ u, e = .returned u ∧ OutK W.heap.size w' u [badK s] ∧ Below W.heap.size W w') := fun W => rkey_any 0 0 s W
      clear c0 c1 hB h h0 e1 hB' hB2 hrow
      go_enter Tryd.func17, Tryd.ntmps17
      go_wp2_with fail
      go_fit (HKY.out _)
      rintro e w3 ⟨u, rfl, hu, hb3⟩
      have HF := Lib.hid (HFD.out _ _ _ (fedh_key (R := R) (v := v) (p := .held noB) (keep_R w R 0 (.string ⟨#[]⟩)) hu hb3 HB2.out rfl))
      clear hu hb3
      go_wp2_with fail
      go_ret
      rw [HE.out]
      exact HF.out
end Go.Proofs.YtdnldfgolbcjiaaDoor
