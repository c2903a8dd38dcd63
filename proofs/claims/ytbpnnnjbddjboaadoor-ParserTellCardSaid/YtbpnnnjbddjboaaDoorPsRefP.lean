/-
  limnerref07.Params: what it returns: for every text of at most a hundred thousand bytes.
-/
import Derived.Test.YtbpnnnjbddjboaaDoorPsRefQ
import Derived.BigRegion
namespace Go.Proofs.YtbpnnnjbddjboaaDoor
open Go.RowKit

theorem bt_u (s : ByteArray) (k : Nat) (h : k < s.size) : bt s k = (s.data.toList[k]'(by rw [← Lib.size_eq]; exact h)).toNat := by
  rw [bt_data, List.getD_eq_getElem?_getD, List.getElem?_eq_getElem]
  rfl
theorem qL_step (s : ByteArray) (k : Nat) (h : k < s.size) (f : List Nat) (l : Nat) (hq : qL (s.data.toList.take k) = some (f, l)) :
    qL (s.data.toList.take (k + 1)) = if bt s k = 59 then some (f ++ [l], 0) else if 48 ≤ bt s k ∧ bt s k ≤ 57 then some (f, capN l (bt s k - 48)) else none := by
  have h1 : k < s.data.toList.length := by rw [← Lib.size_eq]; exact h
  rw [List.take_succ_eq_append_getElem h1, qL_snoc, hq, bt_u s k h]
  rfl
theorem qL_none (l r : List UInt8) (h : qL l = none) : qL (l ++ r) = none := by
  unfold qL at h ⊢
  rw [List.foldl_append, h]
  induction r with
  | nil => rfl
  | cons u r ih => exact ih

set_option maxRecDepth 20000 in
set_option maxHeartbeats 4000000 in
theorem refParams_any (s : ByteArray) (w : World) (hs : s.size ≤ 100000) :
    Calls Tryd.prog 24 #[.string s] w fun e w' => ∃ v, e = .returned (.tuple #[v, .bool (refPar s.data.toList).2]) ∧ NumsW (FromP w.heap.size) w' v (refPar s.data.toList).1 ∧ Below w.heap.size w w' := by
  by_cases h0 : s.size = 0
  · obtain rfl : s = ⟨#[]⟩ := by
      apply ByteArray.ext
      apply Array.toList_inj.1
      exact List.eq_nil_of_length_eq_zero (by rw [← Lib.size_eq]; exact h0)
    go_enter Tryd.func24, Tryd.ntmps24
    go_wp2_with fail
    go_ret2
    exact ⟨_, rfl, NumsW.nil _ _, Below.refl _ _⟩
  · have hne : s.toList.isEmpty = false := by
      cases h : s.toList with
      | nil => rw [Lib.toList_data] at h; have h2 := Lib.size_eq s; rw [h] at h2; exact absurd h2 h0
      | cons _ _ => rfl
    have hne2 : (s.toList == []) = false := by
      cases h : s.toList with
      | nil => rw [h] at hne; cases hne
      | cons _ _ => rfl
    have hdn : s.data.toList ≠ [] := by intro h; have h2 := Lib.size_eq s; rw [h] at h2; exact h0 h2
    have HRP : Hid (refPar s.data.toList = match qL s.data.toList with | none => ([], false) | some (f, x) => if 16 < f.length + 1 then ([], false) else (f ++ [x], true)) := by
      show _ = _
      unfold refPar
      rw [if_neg hdn]
      rcases qL s.data.toList with _ | ⟨f, x⟩ <;> rfl
    have HST := Lib.hid (fun k hk f l hq => qL_step s k hk f l hq)
    have HNO := Lib.hid (fun k (h : qL (s.data.toList.take k) = none) => (show qL s.data.toList = none by have := qL_none _ (s.data.toList.drop k) h; rwa [List.take_append_drop] at this))
    have HEN : Hid (s.data.toList.take s.size = s.data.toList) := List.take_of_length_le (by rw [← Lib.size_eq]; exact Nat.le_refl _)
    have HBT := Lib.hid (fun k (hk : k < s.size) => (show (s[k].toNat : Int) = (bt s k : Int) by unfold bt; rw [show s.get! k = s[k] from get_at s k hk]))
    have HLT := Lib.hid (fun k => bt_lt s k)
    obtain ⟨R, hR⟩ : ∃ R, refPar s.data.toList = R := ⟨_, rfl⟩
    rw [hR] at HRP ⊢
    clear hR hdn
    obtain ⟨i0, hi, hz0, hz1, hz2⟩ := info_parts Tryd.infoInt
    go_enter Tryd.func24, Tryd.ntmps24
    go_wp2_with fail
    have hown0 : (w.alloc (.cells #[.int .i64 0] 3)).ownsRow w.heap.size 3 1 (.slice (some ⟨w.heap.size, 0, none⟩) 1 1) 1 (ints ([] ++ [0])) :=
      ⟨rfl, .inr ⟨w.heap.size, 1, #[.int .i64 0], rfl, Nat.le_refl _, heap_alloc_new w _, Nat.le_refl _, by unfold maxLen; decide, rfl, rfl⟩⟩
    have hbw0 : Below w.heap.size w (w.alloc (.cells #[.int .i64 0] 3)) := (Below.refl _ _).alloc (Nat.le_refl _) _
    go_loopw [4, 5] (fun v i wr => ∃ (k : Nat) (f : List Nat) (l : Nat), i = .int .i64 (k : Int) ∧ k ≤ s.size ∧ f.length ≤ k ∧ l ≤ 9999 ∧ Hid (qL (s.data.toList.take k) = some (f, l)) ∧ wr.ownsRow w.heap.size 3 1 v (f.length + 1) (ints (f ++ [l])) ∧ Below w.heap.size w wr) (fun _ i _ => s.size - (intOf i).toNat)
    case atStart => exact ⟨0, [], 0, rfl, Nat.zero_le _, Nat.le_refl _, Nat.zero_le _, rfl, hown0, hbw0⟩
    case round =>
      clear hown0 hbw0
      obtain ⟨k, f, l, rfl, hk, hf, hl, HQ, hown, hbr⟩ := hrel
      obtain ⟨g, cap, rfl, hgB, hcap, hcm⟩ : ∃ g cap, u4 = .slice (some ⟨g, 0, none⟩) (f.length + 1) cap ∧ w.heap.size ≤ g ∧ f.length + 1 ≤ cap ∧ cap ≤ maxLen := by
        rcases hown.2 with ⟨_, h⟩ | ⟨g, cap, cur, h1, h2, h3, h4, h5, _⟩
        · omega
        · exact ⟨g, cap, h1, h2, h4, h5⟩
      by_cases hlt : k < s.size
      · have hst := HST.out k hlt f l HQ.out
        have hbt := HBT.out k hlt
        have hb256 := HLT.out k
        have hno := HNO.out (k + 1)
        have kit : (k : Int) < (s.size : Int) := by omega
        obtain ⟨b, hb⟩ : ∃ b, bt s k = b := ⟨_, rfl⟩
        rw [hb] at hst hbt hb256
        by_cases h59 : b = 59
        · subst h59
          have HQ2 : Hid (qL (s.data.toList.take (k + 1)) = some (f ++ [l], 0)) := hst
          clear hst hno HQ
          go_wp2_with (at_builtin; (refine wpList_append_own _ rfl _ _ 32 rfl w.heap.size 3 i0 (.int .i64 0) 1 8 Tryd.underlying32 hi hz0 hz1 hz2 rfl (by decide) _ _ _ rfl (hown.alloc _) ⟨wr.heap.size, 0, none⟩ 1 1 [.int .i64 (0 : Int)] rfl rfl (cell_one_new _ _ _) (fun x hx => by simp at hx; subst hx; rfl) (by unfold maxLen; omega) (by omega) (by have := hbr.size; simp; omega) ?_; intro v' w3 hown' hgrow3 hnil3))
          have hbw3 : Below w.heap.size w w3 := Below.grown (hbr.alloc hbr.size _) hgrow3 (by have := hbr.size; simp; omega) (fun j hj => (hown.lt _ hj).1)
          have hown3 : w3.ownsRow w.heap.size 3 1 v' ((f ++ [l]).length + 1) (ints ((f ++ [l]) ++ [0])) := by
            unfold ints; rw [List.length_append, List.map_append]; exact hown'
          go_roundw
          case rel => exact ⟨k + 1, f ++ [l], 0, by go_num, by omega, by rw [List.length_append]; show _ + 1 ≤ _; omega, by omega, HQ2, hown3, hbw3⟩
          case measure => simp [intOf]; omega
        · have e59 : ((b : Int) == 59) = false := beq_false_of_ne (by omega)
          rw [if_neg h59] at hst
          by_cases hd : 48 ≤ b ∧ b ≤ 57
          · rw [if_pos hd] at hst
            have d1 : (48 : Int) ≤ (b : Int) := by omega
            have d2 : (b : Int) ≤ 57 := by omega
            have c1 : wr.cell? ⟨g, f.length, none⟩ = some (.int .i64 (l : Int)) := by
              have := hown.cells (g := g) rfl f.length (.int .i64 (l : Int)) (by unfold ints; simp)
              rwa [rlit, Nat.zero_add] at this
            have z1 : wr.frozen? ⟨g, f.length, none⟩ = false := own_frozen hown
            have hown2 := own_set (.int .i64 ((capN l (b - 48) : Nat) : Int)) hown (Nat.lt_succ_self f.length)
            have hset : (ints (f ++ [l])).set f.length (.int .i64 ((capN l (b - 48) : Nat) : Int)) = ints (f ++ [capN l (b - 48)]) := by
              unfold ints
              rw [List.map_append, List.map_append, List.set_append_right _ _ (by rw [List.length_map]; exact Nat.le_refl _), List.length_map, Nat.sub_self]
              rfl
            rw [hset] at hown2
            have HQ2 : Hid (qL (s.data.toList.take (k + 1)) = some (f, capN l (b - 48))) := hst
            have hC : ((capN l (b - 48) : Nat) : Int) = min ((l : Int) * 10 + ((b : Int) - 48)) 9999 := by unfold capN; omega
            have hC9 : capN l (b - 48) ≤ 9999 := by unfold capN; omega
            obtain ⟨C, hCC⟩ : ∃ C, capN l (b - 48) = C := ⟨_, rfl⟩
            rw [hCC] at hown2 HQ2 hC hC9
            have HCI := Lib.hid hC
            obtain ⟨m, hm⟩ : ∃ m, f.length = m := ⟨_, rfl⟩
            rw [hm] at hown2 hown c1 z1 hf hcap
            have v1 : IntKind.i64.wrap (((m + 1 : Nat) : Int) - 1) = (m : Int) := by rw [IntWalk.i64_in _ (by omega)]; omega
            have v2 : (0 : Int) ≤ (m : Int) := by omega
            have v3 : (m : Int) < ((m + 1 : Nat) : Int) := by omega
            have v4 : IntKind.u8.wrap ((b : Int) - 48) = (b : Int) - 48 := by rw [IntKind.wrap_u8]; omega
            have v5 : IntKind.i64.wrap ((b : Int) - 48) = (b : Int) - 48 := IntWalk.i64_in _ (by omega)
            have v6 : IntKind.i64.wrap ((l : Int) * 10) = (l : Int) * 10 := IntWalk.i64_in _ (by omega)
            have v7 : IntKind.i64.wrap ((l : Int) * 10 + ((b : Int) - 48)) = (l : Int) * 10 + ((b : Int) - 48) := IntWalk.i64_in _ (by omega)
            clear hst hno HQ hCC hset
            go_wp2_with fail
            go_region
            all_goals
              subst hm
              rw [← HCI.out]
              have hb3 : Below w.heap.size w ((wr.setCell ⟨g, f.length, none⟩ (.int .i64 (C : Int))).drew) := by
                have kp : KeepW (fun k => k ≠ g) wr ((wr.setCell ⟨g, f.length, none⟩ (.int .i64 (C : Int))).drew) := (keep_set g f.length none _ wr (fun h => h rfl)).trans (keep_drew _ _)
                exact KeepW.below hbr kp hbr.size (fun k hk => by omega)
              clear c1 z1 hown v1 v2 v3 v4 v5 v6 v7 hC
              go_wp2_with fail
              go_roundw
              case rel => exact ⟨k + 1, f, C, by go_num, by omega, by omega, hC9, HQ2, hown2, hb3⟩
              case measure => simp [intOf]; omega
          · rw [if_neg hd] at hst
            have HR : Hid (R = ([], false)) := by
              have := HRP.out
              rw [hno hst] at this
              exact this
            by_cases g48 : 48 ≤ b
            · have d1 : (48 : Int) ≤ (b : Int) := by omega
              have d2 : (57 : Int) < (b : Int) := by omega
              clear hst hno HQ HRP hown
              go_wp2_with fail
              rw [HR.out]
              go_ret2
              exact ⟨_, rfl, NumsW.nil _ _, hbr⟩
            · have d1 : (b : Int) < 48 := by omega
              clear hst hno HQ HRP hown
              go_wp2_with fail
              rw [HR.out]
              go_ret2
              exact ⟨_, rfl, NumsW.nil _ _, hbr⟩
      · obtain rfl : k = s.size := by omega
        have hq := HQ.out
        rw [HEN.out] at hq
        have hr := HRP.out
        rw [hq] at hr
        dsimp only at hr
        by_cases h16 : 16 < f.length + 1
        · rw [if_pos h16] at hr
          have HR : Hid (R = ([], false)) := hr
          have i16 : (16 : Int) < (f.length : Int) + 1 := by omega
          clear hr hq HQ HRP hown
          go_wp2_with fail
          rw [HR.out]
          go_ret2
          exact ⟨_, rfl, NumsW.nil _ _, hbr⟩
        · rw [if_neg h16] at hr
          have HR : Hid (R = (f ++ [l], true)) := hr
          have i16 : (f.length : Int) + 1 ≤ 16 := by omega
          have hnum : NumsW (FromP w.heap.size) wr (.slice (some ⟨g, 0, none⟩) (f.length + 1) cap) (f ++ [l]) := own_nums (by rw [List.length_append]; exact hown) (by simp)
          clear hr hq HQ HRP hown
          go_wp2_with fail
          rw [HR.out]
          go_ret2
          exact ⟨_, rfl, hnum, hbr⟩
end Go.Proofs.YtbpnnnjbddjboaaDoor
