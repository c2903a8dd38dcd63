/-
  limnerref07.ground: what it returns: for every byte. Where one stands behind which bytes.
-/
import Derived.Test.YtbpnnnjbddjboaaDoorPsRefB
import Derived.Test.YtbpnnnjbddjboaaDoorPsRefP
import Derived.Test.YtbpnnnjbddjboaaDoorPsBox
namespace Go.Proofs.YtbpnnnjbddjboaaDoor
open Go.RowKit

/-- Where one stands behind these bytes. -/
def RelT : Ps → ByteArray → Prop
  | .zero, t => t = ⟨#[]⟩
  | .start s, t => t = s
  | .esc, t => t = ⟨#[27]⟩
  | .seq pre x, t => ∃ u, t.data.toList = 27 :: 91 :: u ∧ partsN u = .seq pre x
  | .bad, t => ∃ u, t.data.toList = 27 :: 91 :: u ∧ partsN u = .bad
def RefW (w : World) (r : Ps × List Ac) (m : Nat) (e : Ending) (w' : World) : Prop := ∃ t v, e = .returned (.tuple #[.string t, v]) ∧ RelT r.1 t ∧ t.size ≤ m ∧ ActsW (FromP w.heap.size) w' v r.2 ∧ Below w.heap.size w w'

set_option maxRecDepth 20000 in
set_option maxHeartbeats 4000000 in
theorem ground_any (b : Nat) (w : World) (hb : b < 256) :
    Calls Tryd.prog 19 #[.int .u8 (b : Int)] w (RefW w (firstN b) 1) := by
  obtain ⟨R, hR⟩ : ∃ R, firstN b = R := ⟨_, rfl⟩
  rw [hR]
  have hR := Lib.hid hR
  have cv := convP_new [(b : Int)] w
  rw [str_one] at cv
  simp only [List.map_cons, List.map_nil, List.length_cons, List.length_nil] at cv
  have hb1 : Below w.heap.size w (w.alloc (.cells #[.int .u8 (b : Int)] 5)) := (Below.refl _ _).alloc (Nat.le_refl _) _
  have HB1 := Lib.hid hb1
  have HS1 : Hid (w.heap.size ≤ (w.alloc (.cells #[.int .u8 (b : Int)] 5)).heap.size) := hb1.size
  clear hb1
  have HO1 : Hid (∀ W, Calls Tryd.prog 22 #[.int .i64 1, .int .i32 (b : Int)] W fun e w' => ∃ v, e = .returned v ∧ ActsW (FromP W.heap.size) w' v [(1, b, [], 0)] ∧ (∃ a, v = .slice (some a) 1 1) ∧ Below W.heap.size W w') := fun W => rone_any 1 b W
  have HO2 : Hid (∀ W, Calls Tryd.prog 22 #[.int .i64 2, .int .i32 (b : Int)] W fun e w' => ∃ v, e = .returned v ∧ ActsW (FromP W.heap.size) w' v [(2, b, [], 0)] ∧ (∃ a, v = .slice (some a) 1 1) ∧ Below W.heap.size W w') := fun W => rone_any 2 b W
  have HO5 : Hid (∀ W, Calls Tryd.prog 22 #[.int .i64 5, .int .i32 0] W fun e w' => ∃ v, e = .returned v ∧ ActsW (FromP W.heap.size) w' v [badA] ∧ (∃ a, v = .slice (some a) 1 1) ∧ Below W.heap.size W w') := fun W => rone_any 5 0 W
  have HBE := Lib.hid (fun W => begins_any (oneB b) W (by rw [one_size]; decide) (by rw [one_size]; decide))
  by_cases h27 : b = 27
  · subst h27
    replace hR : Hid (R = (.esc, [])) := by
      show _ = _
      rw [← hR.out]
      unfold firstN
      rw [if_pos rfl]
    clear HO1 HO2 HO5 HBE
    rw [show ((27 : Nat) : Int) = 27 from rfl] at cv HB1 HS1 ⊢
    go_enter Tryd.func19, Tryd.ntmps19
    go_wp2_with fail
    rw [hR.out]
    go_ret2
    exact ⟨oneB 27, _, rfl, (by show oneB 27 = _; rfl), Nat.le_refl _, ActsW.nil _ _, HB1.out⟩
  · have e27 : ((b : Int) == 27) = false := beq_false_of_ne (by omega)
    by_cases h32 : b < 32
    · have i32 : (b : Int) < 32 := by omega
      replace hR : Hid (R = (.zero, [(2, b, [], 0)])) := by
        show _ = _
        rw [← hR.out]
        unfold firstN
        rw [if_neg h27, if_pos (.inl h32)]
      clear HO1 HO5 HBE
      go_enter Tryd.func19, Tryd.ntmps19
      go_wp2_with fail
      go_fit (HO2.out _)
      rintro e w1 ⟨v, rfl, hA, _, hb2⟩
      go_wp2_with fail
      rw [hR.out]
      go_ret2
      exact ⟨⟨#[]⟩, v, rfl, rfl, Nat.zero_le _, acts_from hA HS1.out, HB1.out.trans (hb2.mono HS1.out)⟩
    · have i32 : (32 : Int) ≤ (b : Int) := by omega
      by_cases h127 : b = 127
      · subst h127
        replace hR : Hid (R = (.zero, [(2, 127, [], 0)])) := by
          show _ = _
          rw [← hR.out]
          unfold firstN
          rw [if_neg h27, if_pos (.inr rfl)]
        clear HO1 HO5 HBE e27 i32
        rw [show ((127 : Nat) : Int) = 127 from rfl] at cv HB1 HS1 HO2 ⊢
        go_enter Tryd.func19, Tryd.ntmps19
        go_wp2_with fail
        go_fit (HO2.out _)
        rintro e w1 ⟨v, rfl, hA, _, hb2⟩
        go_wp2_with fail
        rw [hR.out]
        go_ret2
        exact ⟨⟨#[]⟩, v, rfl, rfl, Nat.zero_le _, acts_from hA HS1.out, HB1.out.trans (hb2.mono HS1.out)⟩
      · have e127 : ((b : Int) == 127) = false := beq_false_of_ne (by omega)
        by_cases h128 : b < 128
        · have i128 : (b : Int) < 128 := by omega
          replace hR : Hid (R = (.zero, [(1, b, [], 0)])) := by
            show _ = _
            rw [← hR.out]
            unfold firstN
            rw [if_neg h27, if_neg (by omega), if_pos h128]
          clear HO2 HO5 HBE
          go_enter Tryd.func19, Tryd.ntmps19
          go_wp2_with fail
          go_fit (HO1.out _)
          rintro e w1 ⟨v, rfl, hA, _, hb2⟩
          go_wp2_with fail
          rw [hR.out]
          go_ret2
          exact ⟨⟨#[]⟩, v, rfl, rfl, Nat.zero_le _, acts_from hA HS1.out, HB1.out.trans (hb2.mono HS1.out)⟩
        · have i128 : (128 : Int) ≤ (b : Int) := by omega
          by_cases hst : begB (oneB b) = true
          · replace hR : Hid (R = (.start (oneB b), [])) := by
              show _ = _
              rw [← hR.out]
              unfold firstN
              rw [if_neg h27, if_neg (by omega), if_neg h128, if_pos hst]
            rw [hst] at HBE
            clear HO1 HO2 HO5
            go_enter Tryd.func19, Tryd.ntmps19
            go_wp2_with fail
            go_fit (HBE.out _)
            rintro e w2 ⟨rfl, hb3⟩
            go_wp2_with fail
            rw [hR.out]
            go_ret2
            exact ⟨oneB b, _, rfl, rfl, Nat.le_refl _, ActsW.nil _ _, HB1.out.trans (hb3.mono HS1.out)⟩
          · have hsf : begB (oneB b) = false := by cases h : begB (oneB b) <;> simp_all
            replace hR : Hid (R = (.zero, [badA])) := by
              show _ = _
              rw [← hR.out]
              unfold firstN
              rw [if_neg h27, if_neg (by omega), if_neg h128, if_neg hst]
            rw [hsf] at HBE
            clear HO1 HO2
            go_enter Tryd.func19, Tryd.ntmps19
            go_wp2_with fail
            go_fit (HBE.out _)
            rintro e w2 ⟨rfl, hb3⟩
            go_wp2_with fail
            go_fit (HO5.out _)
            rintro e w1 ⟨v, rfl, hA, _, hb2⟩
            go_wp2_with fail
            rw [hR.out]
            go_ret2
            exact ⟨⟨#[]⟩, v, rfl, rfl, Nat.zero_le _, acts_from hA (Nat.le_trans HS1.out hb3.size), (HB1.out.trans (hb3.mono HS1.out)).trans (hb2.mono (Nat.le_trans HS1.out hb3.size))⟩
end Go.Proofs.YtbpnnnjbddjboaaDoor
