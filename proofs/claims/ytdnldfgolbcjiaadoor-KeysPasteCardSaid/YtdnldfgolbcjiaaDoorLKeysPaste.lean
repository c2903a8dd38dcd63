/-
  KeysPaste: what is pasted is the document's: the bytes ahead of the first end of a paste, cleaned; what stands behind that is fed as from the beginning: the law's walk: it returns true.
-/
import Derived.Deep.CutRange
import Derived.Deep.CutBlock
import Derived.Test.YtdnldfgolbcjiaaDoorLKyPas
import Derived.Test.YtdnldfgolbcjiaaDoorBe22
import Derived.Test.YtdnldfgolbcjiaaDoorBe43
namespace Go.Proofs.YtdnldfgolbcjiaaDoor
open Go.RowKit

set_option maxRecDepth 4000 in
set_option maxHeartbeats 4000000 in
theorem keysPaste_far (s : ByteArray) (x : KAct) (w : World) (hL : TabK w.heap.size w) (h : 1500 < s.size ∨ s.size ≤ 1500 ∧ 300 < x.1.size) :
    Calls Tryd.prog 4 #[.string s, .agg #[.string x.1, .bool x.2]] w fun e w' => e = .returned (.bool true) ∧ Below w.heap.size w w' := by
  have HP := Lib.hid (fun W (h : Below w.heap.size w W) => pressed_any W ((hL.below h).up h.size))
  have hba := Lib.hid (alloc_below w (.cells #[.string x.1, .bool x.2] 32))
  clear hL
  obtain ⟨bs, tk⟩ := x
  rcases h with h | ⟨h, h2⟩
  · have h1 : (1500 : Int) < (s.size : Int) := by omega
    go_enter Tryd.func4, Tryd.ntmps4
    go_wp2_with fail
    go_fit (HP.out _ hba.out)
    rintro e w3 ⟨rfl, hb3⟩
    go_wp2_with fail
    go_ret
    exact ⟨rfl, hba.out.trans (hb3.mono hba.out.size)⟩
  · have h1 : (s.size : Int) ≤ 1500 := by omega
    have h3 : (300 : Int) < (bs.size : Int) := by have h4 : 300 < bs.size := h2; omega
    clear h2
    go_enter Tryd.func4, Tryd.ntmps4
    go_wp2_with fail
    go_fit (HP.out _ hba.out)
    rintro e w3 ⟨rfl, hb3⟩
    go_wp2_with fail
    go_ret
    exact ⟨rfl, hba.out.trans (hb3.mono hba.out.size)⟩

set_option maxRecDepth 4000 in
set_option maxHeartbeats 16000000 in
theorem keysPaste_near (s : ByteArray) (x : KAct) (w : World) (hL : TabK w.heap.size w) (h : s.size ≤ 1500 ∧ x.1.size ≤ 300) :
    Calls Tryd.prog 4 #[.string s, .agg #[.string x.1, .bool x.2]] w fun e w' => e = .returned (.bool true) ∧ Below w.heap.size w w' := by
  obtain ⟨h1, h2⟩ := h
  obtain ⟨w0, hw0⟩ : ∃ w0, w.alloc (.cells #[.string x.1, .bool x.2] 32) = w0 := ⟨_, rfl⟩
  have hba := alloc_below w (.cells #[.string x.1, .bool x.2] 32)
  rw [hw0] at hba
  have HCB : Hid (∀ W, Below w0.heap.size w0 W → W.cell? ⟨w.heap.size, 0, none⟩ = some (.string x.1)) := fun W hW => by
    subst hw0
    have h5 : (w.alloc (.cells #[.string x.1, .bool x.2] 32)).cell? ⟨w.heap.size, 0, none⟩ = some (.string x.1) := by
      have h6 := heap_alloc_new w (.cells #[.string x.1, .bool x.2] 32)
      unfold World.cell?
      rw [h6]
      rfl
    exact (hW.cell (p := ⟨w.heap.size, 0, none⟩) (by rw [show (w.alloc _).heap.size = w.heap.size + 1 from Array.size_push _]; exact Nat.lt_succ_self _)).trans h5
  have HW0 := Lib.hid hw0
  have HBA := Lib.hid hba
  have HNW := Lib.hid (knew_any w0.heap.size w0 (Nat.le_refl _))
  have HT := Lib.hid ((hL.below hba).up hba.size)
  have HP := Lib.hid (fun W (h : Below w0.heap.size w0 W) => pressed_any W ((HT.out.below h).up h.size))
  obtain ⟨T, hT⟩ : ∃ T, s ++ ⟨#[27, 91, 50, 48, 49, 126]⟩ = T := ⟨_, rfl⟩
  have hTs : T.size = s.size + 6 := by rw [← hT, app_size]; rfl
  have HLast : Hid (∀ a, a + 6 = T.size → endAt T a) := fun a ha => by rw [← hT]; exact end_last s a (by rw [show s ++ endP = T from hT]; exact ha)
  have HLit : Hid (∀ a, ((T.extract a (a + 6)).toList == [27, 91, 50, 48, 49, 126]) = decide (T.extract a (a + 6) = endP)) := fun a => by rw [ba_lit]; rfl
  obtain ⟨n, hn⟩ : ∃ n, T.size = n := ⟨_, rfl⟩
  have HN := Lib.hid hn
  have hn6 : 6 ≤ n := by omega
  have hn7 : n ≤ 1506 := by omega
  have i1 : (s.size : Int) ≤ 1500 := by omega
  have j1 : ((1500 : Int) < (s.size : Int)) = False := eq_false (by omega)
  have i2 : (x.1.size : Int) ≤ 300 := by omega
  rw [hn] at HLast
  clear hL hw0 hba hTs h1
  obtain ⟨bs, tk⟩ := x
  go_enter Tryd.func4, Tryd.ntmps4
  go_upto_block 0 with fail
  any_goals (exfalso; omega)
  go_cut [5] from 27 to 41 (fun s5 W => ∃ a : Nat, s5 = .int .i64 (a : Int) ∧ a + 6 ≤ n ∧ Hid (endAt T a ∧ (∀ j, j < a → ¬ endAt T j)) ∧ Hid (W = w0))
  case first =>
    go_wp2_with fail
    go_loopw [5] (fun s5 wr => ∃ a : Nat, s5 = .int .i64 (a : Int) ∧ a + 6 ≤ n ∧ Hid (∀ j, j < a → ¬ endAt T j) ∧ Hid (wr = w0)) (fun s5 _ => n - (intOf s5).toNat)
    case atStart => exact ⟨0, rfl, by omega, (fun j hj => absurd hj (Nat.not_lt_zero j)), HW0⟩
    case round =>
      obtain ⟨a, rfl, ha, HNo, HEq⟩ := hrel
      have e6 : ((a : Int) + 6).toNat = a + 6 := by omega
      have hlit := HLit.out a
      by_cases hlt : a + 6 < n
      · have k1 : (a : Int) + 6 < (n : Int) := by omega
        have k0 : (0 : Int) ≤ (a : Int) := by omega
        by_cases he : endAt T a
        · rw [decide_eq_true (show T.extract a (a + 6) = endP from he)] at hlit
          have HE : Hid (endAt T a ∧ (∀ j, j < a → ¬ endAt T j)) := ⟨he, HNo.out⟩
          clear he
          go_wp2_with fail
          go_meet
          exact ⟨a, rfl, ha, HE, HEq⟩
        · rw [decide_eq_false (show ¬ T.extract a (a + 6) = endP from he)] at hlit
          have HNo2 : Hid (∀ j, j < a + 1 → ¬ endAt T j) := fun j hj => by
            by_cases h9 : j = a
            · rw [h9]; exact he
            · exact HNo.out j (by omega)
          clear he
          go_wp2_with fail
          go_roundw
          case rel => exact ⟨a + 1, by go_num, by omega, HNo2, HEq⟩
          case measure => simp [intOf]; omega
      · have k1 : (n : Int) ≤ (a : Int) + 6 := by omega
        have HE : Hid (endAt T a ∧ (∀ j, j < a → ¬ endAt T j)) := ⟨HLast.out a (by omega), HNo.out⟩
        go_wp2_with fail
        go_meet
        exact ⟨a, rfl, ha, HE, HEq⟩
  case rest =>
    obtain ⟨a, rfl, ha, HE, HEq⟩ := hcut
    have HNW1 : Hid (Calls Tryd.prog 11 #[] wc fun e w' => ∃ D v, e = .returned (.pointer (some ⟨D, 0, none⟩)) ∧ w0.heap.size ≤ D ∧ DecW w0.heap.size w' D v (.held noB) ∧ (∀ k, v.ownBlock = some k → w0.heap.size ≤ k) ∧ Below w0.heap.size w0 w') := by
      rw [HEq.out]; exact HNW.out
    clear HNW HLit HLast HW0
    go_wp2_with fail
    go_fit HNW1.out
    rintro e w1 ⟨D, v, rfl, hD, hd, hv, hb1⟩
    have H0 : Hid (∃ v, PasW w0.heap.size D w1.heap.size w0 (w1.alloc (.cells #[.string ⟨#[]⟩, .bool false, .slice none 0 0] 30)) v (.slice none 0 0) (begS 0) []) := by
      have hba := alloc_below w1 (.cells #[.string ⟨#[]⟩, .bool false, .slice none 0 0] 30)
      have hlD := hd.box.lt
      have hlv := OwnB.lt hd.row
      have hst : TolW w0.heap.size D w0 w1 v (.slice none 0 0) (.held noB) [] := ⟨hd, OutK.nil _ _, HT.out.below hb1, hb1, hb1.size, (fun e => by cases e), fun k e => by cases e⟩
      exact ⟨v, hst.below hba, ⟨heap_alloc_new _ _, ⟨rfl, .inl ⟨rfl, rfl⟩⟩, (fun e => by cases e), hb1.size⟩, by omega, fun e => by (have := (hlv _ e).2; omega), fun e => by cases e⟩
    obtain ⟨W2, hW2⟩ : ∃ W2, w1.alloc (.cells #[.string ⟨#[]⟩, .bool false, .slice none 0 0] 30) = W2 := ⟨_, rfl⟩
    rw [hW2] at H0
    obtain ⟨R, hR⟩ : ∃ R, w1.heap.size = R := ⟨_, rfl⟩
    rw [hR] at H0
    obtain ⟨BG, hBG⟩ : ∃ BG : ByteArray, (⟨#[27, 91, 50, 48, 48, 126]⟩ : ByteArray) = BG := ⟨_, rfl⟩
    have hBs : BG.size = 6 := by rw [← hBG]; rfl
    have HBB : Hid (∀ k (hk : k < BG.size), (BG[k].toNat : Int) = ((begL.getD k 0 : Nat) : Int) ∧ begL.getD k 0 < 256) := by
      subst hBG
      intro k hk
      have hk6 : k < 6 := hk
      match k, hk6 with
      | 0, _ => exact ⟨rfl, by decide⟩
      | 1, _ => exact ⟨rfl, by decide⟩
      | 2, _ => exact ⟨rfl, by decide⟩
      | 3, _ => exact ⟨rfl, by decide⟩
      | 4, _ => exact ⟨rfl, by decide⟩
      | 5, _ => exact ⟨rfl, by decide⟩
    clear hd hv hb1 HNW1
    go_wp2_with fail
    (try rw [hW2])
    (try rw [hR])
    (try rw [hBG])
    clear hW2 hR
    go_loopw [9, 12] (fun s9 s12 wr => ∃ k : Nat, s12 = .int .i64 (k : Int) ∧ k ≤ 6 ∧ Hid (∃ v, PasW w0.heap.size D R w0 wr v s9 (begS k) [])) (fun _ s12 _ => 6 - (intOf s12).toNat)
    case atStart => exact ⟨0, rfl, Nat.zero_le _, H0⟩
    case round =>
      obtain ⟨k, rfl, hk, HI⟩ := hrel
      clear H0
      by_cases hlt : k < 6
      · obtain ⟨v, hI⟩ := HI.out
        obtain ⟨hbt, hb256⟩ := HBB.out k (by rw [hBs]; exact hlt)
        have hfs := beg_step k hlt
        have hsz : sizeK (begS k) ≤ 6 := by
          have h1 := run_size (begL.take k) (.held noB)
          have h2 : (begL.take k).length ≤ 6 := by rw [List.length_take]; exact Nat.le_trans (Nat.min_le_right _ _) (Nat.le_refl 6)
          have h3 : sizeK (.held noB) = 0 := rfl
          exact Nat.le_trans h1 (by omega)
        obtain ⟨b, hb⟩ : ∃ b, begL.getD k 0 = b := ⟨_, rfl⟩
        rw [hb] at hbt hb256 hfs
        have HF := Lib.hid (kfeed_any w0.heap.size wr D b v (begS k) hI.tol.dec hI.tol.n hI.tol.tab hb256 (by omega))
        have HII := Lib.hid hI
        have HFS := Lib.hid hfs
        have hki : (k : Int) < 6 := by omega
        have hk0 : (0 : Int) ≤ (k : Int) := by omega
        clear hI hb HI hfs hsz
        go_wp2_with fail
        go_fit HF.out
        rintro e w2 ⟨u, v', rfl, hu, hd, hkk, hv⟩
        rw [HFS.out] at hu hd
        obtain ⟨o', w3, hr, hT3⟩ := HII.out.step (r := (begS (k + 1), [])) hu hd hkk hv (by simp)
        have HR3 : Hid (∃ v, PasW w0.heap.size D R w0 w3 v o' (begS (k + 1)) []) := ⟨v', hT3⟩
        clear hu hd hkk hv hT3 HII HF HFS
        go_wp2_with (at_builtin; refine wpList_run (by rfl) _ _ 34 (by rfl) (by rfl) (by rfl) hr ?_)
        go_roundw
        case rel => exact ⟨k + 1, by go_num, by omega, HR3⟩
        case measure => simp [intOf]; omega
      · have hke : k = 6 := by omega
        have H1 : Hid (∃ v, PasW w0.heap.size D R w0 wr v u9 (pstK T a 0) (pstL T a 0)) := by
          obtain ⟨v, hI⟩ := HI.out
          rw [hke, beg_end] at hI
          exact ⟨v, by rw [pst_zero]; exact hI⟩
        have hki : (6 : Int) ≤ (k : Int) := by omega
        clear HI hke HBB
        have HBT := Lib.hid (fun k (hk : k < T.size) => (show (T[k].toNat : Int) = (bt T k : Int) by unfold bt; rw [show T.get! k = T[k] from get_at T k hk]))
        go_wp2_with fail
        go_loopw [9, 13] (fun s9 s13 wr => ∃ i : Nat, s13 = .int .i64 (i : Int) ∧ i ≤ a + 6 ∧ Hid (∃ v, PasW w0.heap.size D R w0 wr v s9 (pstK T a i) (pstL T a i))) (fun _ s13 _ => a + 6 - (intOf s13).toNat)
        case atStart => exact ⟨0, rfl, Nat.zero_le _, H1⟩
        case round =>
          obtain ⟨i, rfl, hi, HJ⟩ := hrel
          clear H1
          by_cases hlt : i < a + 6
          · obtain ⟨v, hI⟩ := HJ.out
            have hbt := HBT.out i (by rw [HN.out]; omega)
            have hb256 := bt_lt T i
            have hfs := paste_step T a i (by rw [HN.out]; exact ha) HE.out.1 HE.out.2 hlt
            have hl0 : pstL T a i = [] := if_pos hlt
            rw [hl0] at hI
            have hsz : sizeK (pstK T a i) ≤ 1506 := by
              unfold pstK
              rw [if_pos hlt]
              show (T.extract 0 i).size ≤ 1506
              rw [head_size T i (by rw [HN.out]; omega)]
              omega
            have hL1 : (pstL T a (i + 1)).length ≤ 1 := by unfold pstL; split <;> simp
            have htk := paste_tick T a (i + 1)
            obtain ⟨b, hb⟩ : ∃ b, bt T i = b := ⟨_, rfl⟩
            rw [hb] at hbt hb256 hfs
            have HF := Lib.hid (kfeed_any w0.heap.size wr D b v (pstK T a i) hI.tol.dec hI.tol.n hI.tol.tab hb256 (by omega))
            have HII := Lib.hid hI
            have HFS := Lib.hid hfs
            have HTK := Lib.hid htk
            have hki : (i : Int) < (a : Int) + 6 := by omega
            have hk0 : (0 : Int) ≤ (i : Int) := by omega
            have hkn : (i : Int) < (n : Int) := by omega
            clear hI hb HJ hfs hsz hl0 htk
            by_cases hm : i % 7 = 3
            · have m1 : (i : Int).tmod 7 = 3 := by rw [Int.tmod_eq_emod_of_nonneg (by omega)]; omega
              have m2 : (i : Int) % 7 = 3 := by omega
              clear hm
              go_wp2_with fail
              go_fit HF.out
              rintro e w2 ⟨u, v', rfl, hu, hd, hkk, hv⟩
              rw [HFS.out] at hu hd
              obtain ⟨o', w3, hr, hT3⟩ := HII.out.step (r := (pstK T a (i + 1), pstL T a (i + 1))) hu hd hkk hv (by simp; omega)
              have HK := Lib.hid (ktick_any w0.heap.size w3 D v' _ hT3.tol.dec hT3.tol.n)
              have HT3 := Lib.hid hT3
              clear hu hd hkk hv hT3 HII HF HFS
              go_wp2_with (at_builtin; refine wpList_run (by rfl) _ _ 34 (by rfl) (by rfl) (by rfl) hr ?_)
              clear hr
              go_fit HK.out
              rintro e w4 ⟨u, v5, rfl, hu, hd, hkk, hv⟩
              rw [HTK.out] at hu hd
              obtain ⟨o5, w5, hr, hT5⟩ := HT3.out.step (r := (pstK T a (i + 1), [])) hu hd hkk hv (by simp; omega)
              have HR3 : Hid (∃ v, PasW w0.heap.size D R w0 w5 v o5 (pstK T a (i + 1)) (pstL T a (i + 1))) := ⟨v5, by simpa using hT5⟩
              clear hu hd hkk hv hT5 HT3 HK HTK
              go_wp2_with (at_builtin; refine wpList_run (by rfl) _ _ 34 (by rfl) (by rfl) (by rfl) hr ?_)
              go_roundw
              case rel => exact ⟨i + 1, by go_num, by omega, HR3⟩
              case measure => simp [intOf]; omega
            · have m2 : ¬ (i : Int) % 7 = 3 := by omega
              have m1 : ¬ (i : Int).tmod 7 = 3 := by rw [Int.tmod_eq_emod_of_nonneg (by omega)]; exact m2
              clear hm
              go_wp2_with fail
              go_fit HF.out
              rintro e w2 ⟨u, v', rfl, hu, hd, hkk, hv⟩
              rw [HFS.out] at hu hd
              obtain ⟨o', w3, hr, hT3⟩ := HII.out.step (r := (pstK T a (i + 1), pstL T a (i + 1))) hu hd hkk hv (by simp; omega)
              have HR3 : Hid (∃ v, PasW w0.heap.size D R w0 w3 v o' (pstK T a (i + 1)) (pstL T a (i + 1))) := ⟨v', by simpa using hT3⟩
              clear hu hd hkk hv hT3 HII HF HFS
              go_wp2_with (at_builtin; refine wpList_run (by rfl) _ _ 34 (by rfl) (by rfl) (by rfl) hr ?_)
              go_roundw
              case rel => exact ⟨i + 1, by go_num, by omega, HR3⟩
              case measure => simp [intOf]; omega
          · have hie : i = a + 6 := by omega
            have H2 : Hid (∃ v, PasW w0.heap.size D R w0 wr v u9 (.held noB) [(15, 0, cleanB (T.extract 0 a))]) := by
              obtain ⟨v, hI⟩ := HJ.out
              have e1 : pstK T a i = .held noB := if_neg hlt
              have e2 : pstL T a i = [(15, 0, cleanB (T.extract 0 a))] := if_neg hlt
              rw [e1, e2] at hI
              exact ⟨v, hI⟩
            have hki : (a : Int) + 6 ≤ (i : Int) := by omega
            have hat : ((a : Int)).toNat = a := by omega
            have ha2 : (a : Int) ≤ (n : Int) := by omega
            have HCL := Lib.hid (fun W => rclean_any (T.extract 0 a) W (by have := head_size T a (by rw [HN.out]; omega); omega))
            obtain ⟨C, hC⟩ : ∃ C, cleanB (T.extract 0 a) = C := ⟨_, rfl⟩
            rw [hC] at H2 HCL
            clear HJ hie HBT HE hC
            go_wp2_with fail
            go_fit (HCL.out wr)
            rintro e w3 ⟨rfl, hb3⟩
            obtain ⟨v2, hP2⟩ := H2.out
            have hP3 := hP2.below hb3
            have hP4 := hP3.below (alloc_below w3 (.cells #[.int .i64 15, .int .i32 0, .string C] 40))
            have hK4 : KeysW (FromK w3.heap.size) (w3.alloc (.cells #[.int .i64 15, .int .i32 0, .string C] 40)) (.slice (some ⟨w3.heap.size, 0, none⟩) 1 1) [(15, 0, C)] := keys_one (k := (15, 0, C))
            obtain ⟨o4, w5, hr, hO4, hk4, _⟩ := run_outK (N := w0.heap.size) 34 34 Tryd.underlying34 (OutK.nil _ _) hK4 hP4.tol.n (by simp)
            have hb5 := KeepW.below (Below.refl _ _) hk4 (Nat.le_refl _) (fun k _ e => by cases e)
            have hP5 := hP4.below hb5
            have HSM : Hid (Calls Tryd.prog 12 #[u9, o4] w5 fun e w' => e = .returned (.bool true) ∧ Below w5.heap.size w5 w') := (same_any [(15, 0, C)] [(15, 0, C)] u9 o4 w5 hP5.tol.out.keys hO4.keys (by simp) (by simp)).mono fun e w' h => by rw [decide_eq_true rfl] at h; exact h
            have HP5 : Hid (∃ v, PasW w0.heap.size D R w0 w5 v u9 (.held noB) [(15, 0, C)]) := ⟨v2, hP5⟩
            clear hP2 hP3 hP4 hK4 hO4 hk4 hb5 hP5 H2 hb3
            go_wp2_with (at_builtin; refine wpList_run (by rfl) _ _ 34 (by rfl) (by rfl) (by rfl) hr ?_)
            clear hr
            go_fit HSM.out
            rintro e w6 ⟨rfl, hb6⟩
            obtain ⟨v2, hP5⟩ := HP5.out
            have hT6 := (hP5.below hb6).tel
            have HWT := Lib.hid (kwaiting_any w0.heap.size w6 D v2 (.held noB) hT6.dec)
            have H6 : Hid (∃ v u p, TelW w0.heap.size D R w0 w6 v u p p ∧ OkK p ∧ sizeK p ≤ 0) := ⟨_, _, _, hT6, ok_noB, Nat.le_refl _⟩
            clear hP5 hT6 HP5 HSM hb6
            go_wp2_with fail
            go_fit HWT.out
            rintro e w7 ⟨rfl, rfl⟩
            have hwn : waitsK (.held noB) = false := rfl
            rw [hwn]
            clear HWT hwn
            have HCX : Hid (∀ V, Below w0.heap.size w0 V → V.cell? ⟨w.heap.size, 0, none⟩ = some (.string bs)) := HCB.out
            have HBY := Lib.hid (fun k (hk : k < bs.size) => (show (bs[k].toNat : Int) = (bt bs k : Int) by unfold bt; rw [show bs.get! k = bs[k] from get_at bs k hk]))
            obtain ⟨BB, hBB⟩ : ∃ BB, w.heap.size = BB := ⟨_, rfl⟩
            rw [hBB] at HCX
            (try rw [hBB])
            clear HCB HCL hT hn hBG hBs HEq hki hat ha2
            go_wp2_with fail
            (try rw [hBB])
            go_loopw [14] (fun s14 wr => ∃ k : Nat, s14 = .int .i64 (k : Int) ∧ k ≤ bs.size ∧ Hid (∃ v u p, TelW w0.heap.size D R w0 wr v u p p ∧ OkK p ∧ sizeK p ≤ k)) (fun s14 _ => bs.size - (intOf s14).toNat)
            case atStart => exact ⟨0, rfl, Nat.zero_le _, H6⟩
            case round =>
              obtain ⟨k, rfl, hk, HJ⟩ := hrel
              clear H6
              obtain ⟨v, u, p, hT, hOk, hSz⟩ := HJ.out
              have x0 := HCX.out _ hT.bel
              by_cases hlt : k < bs.size
              · have hbt := HBY.out k hlt
                have hb256 := bt_lt bs k
                obtain ⟨b, hb⟩ : ∃ b, bt bs k = b := ⟨_, rfl⟩
                rw [hb] at hbt hb256
                have q1 : (k : Int) < (bs.size : Int) := by omega
                have q0 : (0 : Int) ≤ (k : Int) := by omega
                have hks := feed_keys p b
                have hok2 := ok_feedK p b hb256
                have hsz2 := feed_size p b
                obtain ⟨G, hG⟩ : ∃ G, feedK p b = G := ⟨_, rfl⟩
                have x0d := HCX.out _ (hT.bel.trans ((Below.refl _ wr).drew.mono hT.n))
                have L1 : Hid (∀ V, Below wr.heap.size wr V → Calls Tryd.prog 13 #[.pointer (some ⟨D, 0, none⟩), .int .u8 (b : Int)] V fun e w3 => ∃ a, e = .returned a ∧ w3.cell? ⟨BB, 0, none⟩ = some (.string bs) ∧ Hid (∀ V2, Below w3.heap.size w3 V2 → Calls Tryd.prog 14 #[.pointer (some ⟨R, 0, none⟩), .int .u8 (b : Int)] V2 fun e w4 => ∃ c, e = .returned c ∧ w4.cell? ⟨BB, 0, none⟩ = some (.string bs) ∧ Hid (∀ V3, Below w4.heap.size w4 V3 → Calls Tryd.prog 12 #[a, c] V3 fun e w5 => e = .returned (.bool true) ∧ w5.cell? ⟨BB, 0, none⟩ = some (.string bs) ∧ Hid (∃ v u, TelW w0.heap.size D R w0 w5 v u G.1 G.1)))) := fun V hV => by
                  have hTV := hT.below hV
                  refine (kfeed_any w0.heap.size V D b v p hTV.dec hTV.n hTV.tab hb256 (by omega)).mono ?_
                  rintro e w3 ⟨a, v3, rfl, hu3, hd3, hk3, ho3⟩
                  have hT3 := hTV.dturn hd3 hk3 ho3
                  rw [hG] at hu3 hT3
                  refine ⟨a, rfl, HCX.out _ hT3.bel, fun V2 hV2 => ?_⟩
                  have hT3' := hT3.below hV2
                  refine (rfeed_any w0.heap.size R b u p V2 hT3'.ref hOk hT3'.n hb256 (by omega)).mono ?_
                  rintro e w4 ⟨c, u4, rfl, hu4, hd4, hk4, ho4⟩
                  have hT4 := hT3'.rturn hd4 hk4 ho4
                  rw [hG] at hu4 hT4
                  have hz3 := hk3.size
                  have hRV := hTV.ref.box.lt
                  have hu3' : KeysW (FromK V.heap.size) w4 a G.2 := (KeysW.below hu3 hV2).keep (hk4.mono fun j _ hj => by have h1 : V.heap.size ≤ j := hj; show j ≠ R; omega)
                  refine ⟨c, rfl, HCX.out _ hT4.bel, fun V3 hV3 => ?_⟩
                  rw [hG] at hks
                  refine (same_any G.2 G.2 a c V3 (hu3'.below hV3) (hu4.below hV3) (by omega) (by omega)).mono ?_
                  rintro e w5 ⟨rfl, hb5⟩
                  have hT5 := (hT4.below hV3).below hb5
                  exact ⟨by rw [decide_eq_true rfl], HCX.out _ hT5.bel, v3, u4, hT5⟩
                have HQ : Hid (OkK G.1 ∧ sizeK G.1 ≤ k + 1) := by
                  rw [hG] at hok2 hsz2
                  exact ⟨hok2, by omega⟩
                clear hT hOk hSz hks hok2 hsz2 hG HJ hb HBY
                go_wp2_with fail
                go_region_held3 (fun V => V.cell? ⟨BB, 0, none⟩ = some (.string bs)) (first | assumption)
                  (first
                    | (go_at_call 13; go_fit (L1.out _ ?_); (first | exact Below.refl _ _ | exact (Below.refl _ _).drew); rintro e w3 ⟨a, rfl, x3, L2⟩)
                    | (go_at_call 14; go_fit (L2.out _ ?_); (first | exact Below.refl _ _ | exact (Below.refl _ _).drew); rintro e w4 ⟨c, rfl, x4, L3⟩)
                    | (go_at_call 12; go_fit (L3.out _ ?_); (first | exact Below.refl _ _ | exact (Below.refl _ _).drew); rintro e w5 ⟨rfl, x5, H5⟩))
                all_goals (go_wp2_with fail; go_roundw; (case rel => exact ⟨k + 1, by go_num, by omega, by obtain ⟨v, u, hT⟩ := H5.out; exact ⟨v, u, _, hT, HQ.out⟩⟩); (case measure => simp [intOf]; omega))
              · have q1 : (bs.size : Int) ≤ (k : Int) := by omega
                have hkb : k ≤ 300 := by omega
                have htk := tick_keys p
                obtain ⟨G, hG⟩ : ∃ G, tickK p = G := ⟨_, rfl⟩
                have L1 : Hid (Calls Tryd.prog 16 #[.pointer (some ⟨D, 0, none⟩)] wr fun e w3 => ∃ a, e = .returned a ∧ Hid (Calls Tryd.prog 17 #[.pointer (some ⟨R, 0, none⟩)] w3 fun e w4 => ∃ c, e = .returned c ∧ Hid (Calls Tryd.prog 12 #[a, c] w4 fun e w5 => e = .returned (.bool true) ∧ Below w0.heap.size w0 w5))) := by
                  refine (ktick_any w0.heap.size wr D v p hT.dec hT.n).mono ?_
                  rintro e w3 ⟨a, v3, rfl, hu3, hd3, hk3, ho3⟩
                  have hT3 := hT.dturn hd3 hk3 ho3
                  rw [hG] at hu3 hT3
                  refine ⟨a, rfl, ?_⟩
                  refine (rtick_any w0.heap.size R u p w3 hT3.ref).mono ?_
                  rintro e w4 ⟨c, u4, rfl, hu4, hd4, hk4, ho4⟩
                  have hT4 := hT3.rturn hd4 hk4 ho4
                  rw [hG] at hu4 hT4
                  have hz3 := hk3.size
                  have hRV := hT.ref.box.lt
                  have hu3' : KeysW (FromK wr.heap.size) w4 a G.2 := hu3.keep (hk4.mono fun j _ hj => by have h1 : wr.heap.size ≤ j := hj; show j ≠ R; omega)
                  refine ⟨c, rfl, ?_⟩
                  rw [hG] at htk
                  refine (same_any G.2 G.2 a c w4 hu3' hu4 (by omega) (by omega)).mono ?_
                  rintro e w5 ⟨rfl, hb5⟩
                  exact ⟨by rw [decide_eq_true rfl], (hT4.below hb5).bel⟩
                clear hT hOk hSz htk hG HJ HBY
                go_wp2_with fail
                go_fit L1.out
                rintro e w3 ⟨a, rfl, L2⟩
                go_wp2_with fail
                go_fit L2.out
                rintro e w4 ⟨c, rfl, L3⟩
                go_wp2_with fail
                go_fit L3.out
                rintro e w5 ⟨rfl, hb5⟩
                have HB5 := Lib.hid hb5
                clear hb5
                go_wp2_with fail
                go_fit (HP.out _ HB5.out)
                rintro e w8 ⟨rfl, hb8⟩
                go_wp2_with fail
                go_ret
                exact ⟨rfl, HBA.out.trans ((HB5.out.trans (hb8.mono HB5.out.size)).mono HBA.out.size)⟩
theorem keysPaste_any (s : ByteArray) (x : KAct) (w : World) (hL : TabK w.heap.size w) :
    Calls Tryd.prog 4 #[.string s, .agg #[.string x.1, .bool x.2]] w fun e w' => e = .returned (.bool true) ∧ Below w.heap.size w w' := by
  by_cases h : 1500 < s.size ∨ s.size ≤ 1500 ∧ 300 < x.1.size
  · exact keysPaste_far s x w hL h
  · exact keysPaste_near s x w hL (by omega)
end Go.Proofs.YtdnldfgolbcjiaaDoor
