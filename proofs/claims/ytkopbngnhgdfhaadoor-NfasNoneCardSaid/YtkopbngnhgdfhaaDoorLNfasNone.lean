/-
  limnerlaw11.NfasNone: it returns true, for any text, place and states.
-/
import Derived.Test.YtkopbngnhgdfhaaDoorBe38
import Derived.Test.YtkopbngnhgdfhaaDoorBe45
namespace Go.Proofs.YtkopbngnhgdfhaaDoor
open Go.RowKit

theorem none_look (a : Int) : lookS [] a = none := by unfold lookS; split <;> simp
theorem none_acc : ∀ (l : List Int) (r : Int), accP [] l r = r
  | [], r => rfl
  | a :: l, r => by rw [accP, none_look]; exact none_acc l r
theorem none_nexts (b : Nat) : ∀ l : List Int, nextsP [] b l = []
  | [] => rfl
  | a :: l => by rw [nextsP, none_look]; exact none_nexts b l
theorem none_step (b : Nat) (l : List Int) : stepP [] b l = [] := by unfold stepP; rw [none_nexts, if_pos rfl]
theorem none_reach : reachP [] [] = [] := rfl
theorem none_match (w : List Nat) : matchP [] [] w = (0, -1) := by
  unfold matchP
  rw [none_reach]
  cases w with
  | nil => rfl
  | cons b w => rw [goM, if_pos rfl, none_acc]
theorem none_matchA (s : ByteArray) (a : Int) : matchA [] [] s a = (0, -1) := by
  unfold matchA
  split
  · rfl
  · exact none_match _
theorem none_st : ∀ (i : Nat) (s : Sta), ([] : List Sta)[i]? = some s → StOk ([] : List Sta).length s := fun i s h => by simp at h
theorem none_in : InQ [] [] := fun a h => by cases h
set_option maxRecDepth 4000 in
set_option maxHeartbeats 4000000 in
theorem nfasNone_any (s : ByteArray) (a : Int) (v : Value) (l : List Int) (w : World) (he : ErrW w) (h : IntsO w v l) :
    Calls Tryd.prog 6 #[.string s, .int .i64 a, v] w fun e w' => e = .returned (.bool true) ∧ Below w.heap.size w w' := by
  have HMA := Lib.hid (fun (W : World) (hb : Below w.heap.size w W) => (matched_any (he.below hb)).mono fun e w' h2 => (⟨h2.1, hb.trans (h2.2.mono hb.size)⟩ : e = .returned (.bool true) ∧ Below w.heap.size w w'))
  have HLI := Lib.hid h
  obtain ⟨vo, vc, rfl, hvc, _⟩ := h
  obtain ⟨m, hm⟩ : ∃ m, l.length = m := ⟨_, rfl⟩
  have HM := Lib.hid hm
  rw [hm] at hvc HLI ⊢
  clear hm he
  by_cases hs1 : 100 < s.size
  · have hsi : (s.size : Int) > 100 := by omega
    have HX := Lib.hid (HMA.out _ (Below.refl _ _))
    clear HMA HM HLI hs1
    go_enter Tryd.func6, Tryd.ntmps6
    go_wp2_with fail
    go_fit HX.out
    rintro e w1 ⟨rfl, hb⟩
    have HB := Lib.hid hb
    clear hb
    go_wp2_with fail
    go_ret
    exact ⟨rfl, HB.out⟩
  have hsi : ¬ (s.size : Int) > 100 := by omega
  by_cases hm1 : 100 < m
  · have hmi : (m : Int) > 100 := by omega
    have HX := Lib.hid (HMA.out _ (Below.refl _ _))
    clear HMA HM HLI hm1 hs1
    go_enter Tryd.func6, Tryd.ntmps6
    go_wp2_with fail
    go_fit HX.out
    rintro e w1 ⟨rfl, hb⟩
    have HB := Lib.hid hb
    clear hb
    go_wp2_with fail
    go_ret
    exact ⟨rfl, HB.out⟩
  have hmi : ¬ (m : Int) > 100 := by omega
  have HI : Hid (IntsW w (.slice vo m vc) l) := Lib.hid (HLI.out.ints (by have := HM.out; omega))
  have HLL : Hid (l.length ≤ 100000) := Lib.hid (by have := HM.out; omega)
  clear HLI
  have HN : Hid (∀ (W : World) (u : Value), NfaM W u [] [] → Calls Tryd.prog 17 #[u, .string s, .int .i64 a] W fun e w' => e = .returned (.tuple #[.int .i64 0, .int .i64 (-1)]) ∧ Below W.heap.size W w') := Lib.hid fun W u hu =>
    (nmatch_any hu none_st none_in s (by omega) a).mono fun e w' h2 => ⟨by rw [h2.1, none_matchA], h2.2⟩
  have HS : Hid (∀ (W : World) (u : Value), NfaM W u [] [] → Calls Tryd.prog 19 #[u] W fun e w' => ∃ o c, e = .returned (.slice o 0 c) ∧ Below W.heap.size W w') := Lib.hid fun W u hu =>
    (nstart_all hu none_st none_in).mono fun e w' ⟨r, h1, h2, h3⟩ => by
      obtain ⟨o, c, rfl, _⟩ := h2.form
      exact ⟨o, c, h1, h3⟩
  have HT : Hid (∀ (W : World) (u : Value), NfaM W u [] [] → Below w.heap.size w W → Calls Tryd.prog 22 #[u, .slice vo m vc, .int .u8 97] W fun e w' => ∃ o c, e = .returned (.slice o 0 c) ∧ Below W.heap.size W w') := Lib.hid fun W u hu hb =>
    (nstep_any hu.N none_st (HI.out.below hb) HLL.out 97 (by omega)).mono fun e w' ⟨r, h1, h2, h3⟩ => by
      rw [none_step] at h2
      obtain ⟨o, c, rfl, _⟩ := h2.form
      exact ⟨o, c, h1, h3⟩
  have HA : Hid (∀ (W : World) (u : Value), NfaM W u [] [] → Below w.heap.size w W → Calls Tryd.prog 20 #[u, .slice vo m vc] W fun e w' => e = .returned (.int .i64 (-1)) ∧ w' = W) := Lib.hid fun W u hu hb =>
    (naccept_any hu.N (HI.out.below hb)).mono fun e w' ⟨h1, h2⟩ => ⟨by rw [h1, none_acc], h2⟩
  clear hs1 hm1 HM HLL HI
  have H0 : Hid (NfaM w (.pointer none) [] [] ∧ Below w.heap.size w w) := Lib.hid ⟨.inl ⟨rfl, rfl, rfl⟩, Below.refl _ _⟩
  go_enter Tryd.func6, Tryd.ntmps6
  go_wp2_with fail
  go_loopw [7, 8] (fun s7 s8 wr => ∃ (i : Nat) (p : Option Addr), s8 = .int .i64 (i : Int) ∧ i ≤ 2 ∧ s7 = .pointer p ∧ Hid (NfaM wr (.pointer p) [] [] ∧ Below w.heap.size w wr)) (fun _ s8 _ => 2 - (intOf s8).toNat)
  case atStart => exact ⟨0, none, rfl, by omega, rfl, H0⟩
  case round =>
    obtain ⟨i, p, rfl, hi, rfl, HX⟩ := hrel
    clear H0
    have i0 : (0 : Int) ≤ (i : Int) := by omega
    have ib : (i : Int) ≤ 2 := by omega
    by_cases hlt : i < 2
    · have hli : (i : Int) < 2 := by omega
      clear HMA
      go_wp2_with fail
      go_fit (HN.out _ _ HX.out.1)
      rintro e w1 ⟨rfl, hb⟩
      have H1 := Lib.hid (And.intro (HX.out.1.below hb) (HX.out.2.trans (hb.mono HX.out.2.size)))
      clear hb HX
      go_wp2_with fail
      go_fit (HS.out _ _ H1.out.1)
      rintro e w2 ⟨o2, c2, rfl, hb⟩
      have H2 := Lib.hid (And.intro (H1.out.1.below hb) (H1.out.2.trans (hb.mono H1.out.2.size)))
      clear hb H1
      go_wp2_with fail
      go_fit (HT.out _ _ H2.out.1 H2.out.2)
      rintro e w3 ⟨o3, c3, rfl, hb⟩
      have H3 := Lib.hid (And.intro (H2.out.1.below hb) (H2.out.2.trans (hb.mono H2.out.2.size)))
      clear hb H2
      go_wp2_with fail
      go_fit (HA.out _ _ H3.out.1 H3.out.2)
      rintro e w4 ⟨rfl, rfl⟩
      have hba := alloc_under w4 (.cells #[.slice none 0 0, .slice none 0 0] 54)
      have HY : Hid (NfaM (w4.alloc (.cells #[.slice none 0 0, .slice none 0 0] 54)) (.pointer (some ⟨w4.heap.size, 0, none⟩)) [] [] ∧ Below w.heap.size w (w4.alloc (.cells #[.slice none 0 0, .slice none 0 0] 54))) := Lib.hid ⟨.inr ⟨Nat.zero_le _, Nat.zero_le _, _, _, _, rfl, cell_of_al 0 _ rfl, cell_of_al 1 _ rfl, RowZ.nil _ _, IntsW.nil _⟩, H3.out.2.trans (hba.mono H3.out.2.size)⟩
      clear hba H3
      go_wp2_with fail
      go_roundw
      case rel => exact ⟨i + 1, _, by go_num, by omega, rfl, HY⟩
      case measure => simp [intOf] <;> omega
    · have hli : ¬ (i : Int) < 2 := by omega
      have H2 := Lib.hid (HMA.out _ HX.out.2)
      clear HMA HN HS HT HA HX
      go_wp2_with fail
      go_fit H2.out
      rintro e w3 ⟨rfl, hb⟩
      have HB := Lib.hid hb
      clear hb
      go_wp2_with fail
      go_ret
      exact ⟨rfl, HB.out⟩
end Go.Proofs.YtkopbngnhgdfhaaDoor
