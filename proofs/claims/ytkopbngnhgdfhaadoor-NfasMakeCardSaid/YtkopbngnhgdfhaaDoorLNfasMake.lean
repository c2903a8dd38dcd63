/-
  limnerlaw11.NfasMake: it returns true, for any rules.
-/
import Derived.Test.YtkopbngnhgdfhaaDoorBe38
import Derived.Test.YtkopbngnhgdfhaaDoorBe43
namespace Go.Proofs.YtkopbngnhgdfhaaDoor
open Go.RowKit

section
set_option maxRecDepth 4000 in
set_option maxHeartbeats 4000000 in
theorem nfasMake_any (v : Value) (L : List ByteArray) (w : World) (he : ErrW w) (h : StrsW w v L) :
    Calls Tryd.prog 4 #[v] w fun e w' => e = .returned (.bool true) ∧ Below w.heap.size w w' := by
  obtain ⟨vo, vc, rfl, hvc⟩ := h.form
  have HMA := Lib.hid (fun (W : World) (hb : Below w.heap.size w W) => (matched_any (he.below hb)).mono fun e w' h2 => (⟨h2.1, hb.trans (h2.2.mono hb.size)⟩ : e = .returned (.bool true) ∧ Below w.heap.size w w'))
  have HMK := Lib.hid (nmake_any h he)
  have HRU := Lib.hid (fun (W : World) (hb : Below w.heap.size w W) => rrules_any (h.below hb))
  have HV := Lib.hid h
  have HR := Lib.hid (makeE_range L)
  obtain ⟨m, hm⟩ : ∃ m, L.length = m := ⟨_, rfl⟩
  have HM := Lib.hid hm
  rw [hm] at hvc HV HMK HRU ⊢
  obtain ⟨er, her⟩ : ∃ er, makeE L = er := ⟨_, rfl⟩
  rw [her] at HMK HRU HR
  clear h hm he her
  by_cases hm80 : 80 < m
  · have hmi : (m : Int) > 80 := by omega
    have HX := Lib.hid (HMA.out _ (Below.refl _ _))
    clear hm80 HMA HMK HRU HR HV HM
    go_enter Tryd.func4, Tryd.ntmps4
    go_wp2_with fail
    go_fit HX.out
    rintro e w1 ⟨rfl, hb⟩
    have HB := Lib.hid hb
    clear hb
    go_wp2_with fail
    go_ret
    exact ⟨rfl, HB.out⟩
  have hmi : ¬ (m : Int) > 80 := by omega
  go_enter Tryd.func4, Tryd.ntmps4
  go_wp2_with fail
  go_loop [3] (fun s3 => ∃ (i : Nat), s3 = .int .i64 (i : Int) ∧ i ≤ m) (fun s3 => m - (intOf s3).toNat)
  case atStart => exact ⟨0, rfl, Nat.zero_le _⟩
  case round =>
    obtain ⟨i, rfl, hi⟩ := hrel
    have i0 : (0 : Int) ≤ (i : Int) := by omega
    have ib : (i : Int) ≤ 80 := by omega
    by_cases hlt : i < m
    · have hli : (i : Int) < (m : Int) := by omega
      have hla : i < L.length := by have := HM.out; omega
      obtain ⟨s, hs⟩ : ∃ s, L[i] = s := ⟨_, rfl⟩
      have hil : L[i]? = some s := by rw [List.getElem?_eq_getElem hla, hs]
      obtain ⟨g, o, c, hve, hc⟩ := HV.out.get hil
      injection hve with e1 e2 e3
      subst e1
      clear e2 e3 hla hs hil
      by_cases hs60 : 300 < s.size
      · have hs6 : (s.size : Int) > 300 := by omega
        have HX := Lib.hid (HMA.out _ (Below.refl _ _))
        clear HMA HMK HRU HR HV HM hs60
        go_wp2_with fail
        go_fit HX.out
        rintro e w1 ⟨rfl, hb⟩
        have HB := Lib.hid hb
        clear hb
        go_wp2_with fail
        go_ret
        exact ⟨rfl, HB.out⟩
      · have hs6 : ¬ (s.size : Int) > 300 := by omega
        clear hs60
        go_wp2_with fail
        go_round
        case rel => exact ⟨i + 1, by go_num, hlt⟩
        case measure => simp [intOf] <;> omega
    · have hli : ¬ (i : Int) < (m : Int) := by omega
      clear HV HM
      go_wp2_with fail
      go_fit HMK.out
      rintro e w1 ⟨p, rfl, h1, h2, hb1⟩
      have hb := Lib.hid hb1
      have hpp : (er = 0 → p ≠ none) ∧ (er ≠ 0 → p = none) := ⟨fun h => (h1 h).1, h2⟩
      have H1 := Lib.hid hpp
      clear hb1 h1 h2 hpp HMK
      go_wp2_with fail
      go_fit (HRU.out _ hb.out)
      rintro e w2 ⟨⟨r, rfl, _⟩, hb2⟩
      have H2 := Lib.hid (HMA.out _ (hb.out.trans (hb2.mono hb.out.size)))
      clear hb2 HRU HMA
      have hee : (er == er) = true := beq_self_eq_true _
      by_cases h0 : er = 0
      · obtain ⟨a, rfl⟩ : ∃ a, p = some a := Option.ne_none_iff_exists'.1 (H1.out.1 h0)
        subst h0
        go_wp2_with fail
        go_fit H2.out
        rintro e w3 ⟨rfl, hb⟩
        have HB := Lib.hid hb
        clear hb
        go_wp2_with fail
        go_ret
        exact ⟨rfl, HB.out⟩
      · have hp := H1.out.2 h0
        subst hp
        have h0b : (er == 0) = false := beq_eq_false_iff_ne.2 h0
        have h0c : (er != 0) = true := by simp [h0]
        go_wp2_with fail
        go_fit H2.out
        rintro e w3 ⟨rfl, hb⟩
        have HB := Lib.hid hb
        clear hb
        go_wp2_with fail
        go_ret
        exact ⟨rfl, HB.out⟩
end
end Go.Proofs.YtkopbngnhgdfhaaDoor
