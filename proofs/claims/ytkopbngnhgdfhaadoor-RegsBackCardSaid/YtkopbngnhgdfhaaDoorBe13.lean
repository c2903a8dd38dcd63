/-
  regs: Has, with, without: what each returns.
-/
import Derived.Laws.BitsAllLaws
import Derived.Laws.Bits64b
import Derived.Test.YtkopbngnhgdfhaaDoorBe12
namespace Go.Proofs.YtkopbngnhgdfhaaDoor
open Go.RowKit

/-- A byte more, by its bit. -/
theorem or_bit (x k : Nat) : x ||| 2 ^ k = if x.testBit k = true then x else x + 2 ^ k := by
  refine Nat.eq_of_testBit_eq fun i => ?_
  rw [Nat.testBit_or, Nat.testBit_two_pow]
  by_cases h : x.testBit k = true
  · rw [if_pos h]
    by_cases e : k = i
    · subst e; rw [h]; rfl
    · rw [decide_eq_false e, Bool.or_false]
  · rw [if_neg h, add_bit k i x (by simpa using h)]
    congr 1
    exact decide_eq_decide.2 ⟨fun e => e.symm, fun e => e.symm⟩
theorem add_or (s : St4) (b : Nat) : addR s b = stR s (b / 64) (wdR s (b / 64) ||| 2 ^ (b % 64)) := by
  unfold addR hasR
  rw [or_bit]
  by_cases h : (wdR s (b / 64)).testBit (b % 64) = true
  · rw [if_pos h, if_pos h]
    obtain ⟨s0, s1, s2, s3⟩ := s
    unfold stR wdR
    by_cases h0 : b / 64 = 0
    · rw [if_pos h0, if_pos h0]
    by_cases h1 : b / 64 = 1
    · rw [if_neg h0, if_pos h1, if_neg h0, if_pos h1]
    by_cases h2 : b / 64 = 2
    · rw [if_neg h0, if_neg h1, if_pos h2, if_neg h0, if_neg h1, if_pos h2]
    · rw [if_neg h0, if_neg h1, if_neg h2, if_neg h0, if_neg h1, if_neg h2]
  · rw [if_neg h, if_neg h]
theorem one_with (s : St4) (b : Nat) : withR s b 1 = addR s b := rfl

def allU : Nat := 18446744073709551615
/-- All bytes that a set has not, word by word. -/
def xorR (s : St4) : St4 := (allU ^^^ s.1, allU ^^^ s.2.1, allU ^^^ s.2.2.1, allU ^^^ s.2.2.2)
theorem xor_lt (x : Nat) (h : x < 18446744073709551616) : allU ^^^ x < 18446744073709551616 := by
  have e : (18446744073709551616 : Nat) = 2 ^ 64 := rfl
  rw [e] at h ⊢
  exact Nat.xor_lt_two_pow (by decide) h
theorem ok_xor (s : St4) (h : OkR s) : OkR (xorR s) := ⟨xor_lt _ h.1, xor_lt _ h.2.1, xor_lt _ h.2.2.1, xor_lt _ h.2.2.2⟩
theorem all_bit (i : Nat) (h : i < 64) : allU.testBit i = true := by
  rw [show allU = 2 ^ 64 - 1 from rfl, Nat.testBit_two_pow_sub_one, decide_eq_true h]
theorem xor_not (s : St4) (h : OkR s) : xorR s = notR s 256 := by
  refine set_ext _ _ (ok_xor s h) (ok_not s 256 (Nat.le_refl _)) fun b hb => ?_
  rw [has_not s b hb 256 (Nat.le_refl _), decide_eq_true hb, Bool.true_and]
  unfold hasR
  have e : wdR (xorR s) (b / 64) = allU ^^^ wdR s (b / 64) := by
    unfold wdR xorR
    split <;> (try rfl)
    split <;> (try rfl)
    split <;> rfl
  rw [e, Nat.testBit_xor, all_bit _ (Nat.mod_lt _ (by decide)), Bool.true_xor]

set_option maxHeartbeats 2000000 in
theorem phas_any (s : St4) (b : Nat) (w : World) (hs : OkR s) (hb : b < 256) :
    Calls Tryd.prog 45 #[setV s, .int .u8 (b : Int)] w fun e w' => e = .returned (.bool (hasR s b)) ∧ Below w.heap.size w w' := by
  unfold setV
  have b0 : (0 : Int) ≤ (b : Int) := by omega
  have b255 : (b : Int) ≤ 255 := by omega
  obtain ⟨k, hk⟩ : ∃ k, b % 64 = k := ⟨_, rfl⟩
  have hk64 : k < 64 := by omega
  have e2 : (b : Int).tmod 64 = (k : Int) := by rw [show (64 : Int) = ((64 : Nat) : Int) from rfl, ← Int.ofNat_tmod, hk]
  have hba := alloc_under w (.cells #[.int .u64 (s.1 : Int), .int .u64 (s.2.1 : Int), .int .u64 (s.2.2.1 : Int), .int .u64 (s.2.2.2 : Int)] 23)
  have HB := Lib.hid hba
  clear hba
  have h4 : b / 64 = 0 ∨ b / 64 = 1 ∨ b / 64 = 2 ∨ b / 64 = 3 := by omega
  rcases h4 with hq | hq | hq | hq
  · have e1 : (b : Int).tdiv 64 = 0 := by rw [show (64 : Int) = ((64 : Nat) : Int) from rfl, ← Int.ofNat_tdiv, hq]; rfl
    have hx := hs.1
    have HR : Hid (hasR s b = (s.1).testBit k) := by unfold hasR; rw [hq, hk]; rfl
    obtain ⟨x, hxx⟩ : ∃ x, s.1 = x := ⟨_, rfl⟩
    rw [hxx] at hx HR
    rw [hxx] at HB ⊢
    have hd0 : (0 : Int) ≤ (x : Int) / 2 ^ k := Int.ediv_nonneg (by omega) (Int.le_of_lt (Int.pow_pos (by decide)))
    have hd1 : (x : Int) / 2 ^ k ≤ 18446744073709551615 := Int.le_trans (Int.ediv_le_self _ (by omega)) (by omega)
    have HD := Lib.hid (and_one_u64 _ hd0 hd1)
    have HBI := Lib.hid (bit_int x k)
    have HM : Hid (((x : Int) / 2 ^ k) % 2 = ((x : Int) / 2 ^ k).tmod 2) := (Int.tmod_eq_emod_of_nonneg hd0).symm
    obtain ⟨E, hE⟩ : ∃ E, (x : Int) / 2 ^ k = E := ⟨_, rfl⟩
    rw [hE] at HD HM HBI hd0 hd1
    have hd := HD.out
    clear hxx hs HD
    go_enter Tryd.func45, Tryd.ntmps45
    go_wp2_with fail
    go_ret
    exact ⟨by rw [HR.out, ← HBI.out, ← HM.out]; rfl, HB.out⟩
  · have e1 : (b : Int).tdiv 64 = 1 := by rw [show (64 : Int) = ((64 : Nat) : Int) from rfl, ← Int.ofNat_tdiv, hq]; rfl
    have hx := hs.2.1
    have HR : Hid (hasR s b = (s.2.1).testBit k) := by unfold hasR; rw [hq, hk]; rfl
    obtain ⟨x, hxx⟩ : ∃ x, s.2.1 = x := ⟨_, rfl⟩
    rw [hxx] at hx HR
    rw [hxx] at HB ⊢
    have hd0 : (0 : Int) ≤ (x : Int) / 2 ^ k := Int.ediv_nonneg (by omega) (Int.le_of_lt (Int.pow_pos (by decide)))
    have hd1 : (x : Int) / 2 ^ k ≤ 18446744073709551615 := Int.le_trans (Int.ediv_le_self _ (by omega)) (by omega)
    have HD := Lib.hid (and_one_u64 _ hd0 hd1)
    have HBI := Lib.hid (bit_int x k)
    have HM : Hid (((x : Int) / 2 ^ k) % 2 = ((x : Int) / 2 ^ k).tmod 2) := (Int.tmod_eq_emod_of_nonneg hd0).symm
    obtain ⟨E, hE⟩ : ∃ E, (x : Int) / 2 ^ k = E := ⟨_, rfl⟩
    rw [hE] at HD HM HBI hd0 hd1
    have hd := HD.out
    clear hxx hs HD
    go_enter Tryd.func45, Tryd.ntmps45
    go_wp2_with fail
    go_ret
    exact ⟨by rw [HR.out, ← HBI.out, ← HM.out]; rfl, HB.out⟩
  · have e1 : (b : Int).tdiv 64 = 2 := by rw [show (64 : Int) = ((64 : Nat) : Int) from rfl, ← Int.ofNat_tdiv, hq]; rfl
    have hx := hs.2.2.1
    have HR : Hid (hasR s b = (s.2.2.1).testBit k) := by unfold hasR; rw [hq, hk]; rfl
    obtain ⟨x, hxx⟩ : ∃ x, s.2.2.1 = x := ⟨_, rfl⟩
    rw [hxx] at hx HR
    rw [hxx] at HB ⊢
    have hd0 : (0 : Int) ≤ (x : Int) / 2 ^ k := Int.ediv_nonneg (by omega) (Int.le_of_lt (Int.pow_pos (by decide)))
    have hd1 : (x : Int) / 2 ^ k ≤ 18446744073709551615 := Int.le_trans (Int.ediv_le_self _ (by omega)) (by omega)
    have HD := Lib.hid (and_one_u64 _ hd0 hd1)
    have HBI := Lib.hid (bit_int x k)
    have HM : Hid (((x : Int) / 2 ^ k) % 2 = ((x : Int) / 2 ^ k).tmod 2) := (Int.tmod_eq_emod_of_nonneg hd0).symm
    obtain ⟨E, hE⟩ : ∃ E, (x : Int) / 2 ^ k = E := ⟨_, rfl⟩
    rw [hE] at HD HM HBI hd0 hd1
    have hd := HD.out
    clear hxx hs HD
    go_enter Tryd.func45, Tryd.ntmps45
    go_wp2_with fail
    go_ret
    exact ⟨by rw [HR.out, ← HBI.out, ← HM.out]; rfl, HB.out⟩
  · have e1 : (b : Int).tdiv 64 = 3 := by rw [show (64 : Int) = ((64 : Nat) : Int) from rfl, ← Int.ofNat_tdiv, hq]; rfl
    have hx := hs.2.2.2
    have HR : Hid (hasR s b = (s.2.2.2).testBit k) := by unfold hasR; rw [hq, hk]; rfl
    obtain ⟨x, hxx⟩ : ∃ x, s.2.2.2 = x := ⟨_, rfl⟩
    rw [hxx] at hx HR
    rw [hxx] at HB ⊢
    have hd0 : (0 : Int) ≤ (x : Int) / 2 ^ k := Int.ediv_nonneg (by omega) (Int.le_of_lt (Int.pow_pos (by decide)))
    have hd1 : (x : Int) / 2 ^ k ≤ 18446744073709551615 := Int.le_trans (Int.ediv_le_self _ (by omega)) (by omega)
    have HD := Lib.hid (and_one_u64 _ hd0 hd1)
    have HBI := Lib.hid (bit_int x k)
    have HM : Hid (((x : Int) / 2 ^ k) % 2 = ((x : Int) / 2 ^ k).tmod 2) := (Int.tmod_eq_emod_of_nonneg hd0).symm
    obtain ⟨E, hE⟩ : ∃ E, (x : Int) / 2 ^ k = E := ⟨_, rfl⟩
    rw [hE] at HD HM HBI hd0 hd1
    have hd := HD.out
    clear hxx hs HD
    go_enter Tryd.func45, Tryd.ntmps45
    go_wp2_with fail
    go_ret
    exact ⟨by rw [HR.out, ← HBI.out, ← HM.out]; rfl, HB.out⟩
set_option maxHeartbeats 2000000 in
theorem pwith_any (t : St4) (b : Nat) (w : World) (hs : OkR t) (hb : b < 256) :
    Calls Tryd.prog 89 #[setV t, .int .u8 (b : Int)] w fun e w' => e = .returned (setV (addR t b)) ∧ Below w.heap.size w w' := by
  have b0 : (0 : Int) ≤ (b : Int) := by omega
  have b255 : (b : Int) ≤ 255 := by omega
  have hA := add_or t b
  obtain ⟨k, hk⟩ : ∃ k, b % 64 = k := ⟨_, rfl⟩
  have hk64 : k < 64 := by omega
  have e2 : (b : Int).tmod 64 = (k : Int) := by rw [show (64 : Int) = ((64 : Nat) : Int) from rfl, ← Int.ofNat_tmod, hk]
  have p1 : (2 : Nat) ^ k ≤ 9223372036854775808 := by
    have : (2 : Nat) ^ k ≤ 2 ^ 63 := Nat.pow_le_pow_right (by decide) (by omega)
    exact this
  have p0 : 1 ≤ (2 : Nat) ^ k := Nat.one_le_two_pow
  rw [hk] at hA
  obtain ⟨P, hP⟩ : ∃ P, (2 : Nat) ^ k = P := ⟨_, rfl⟩
  have hPI : (2 : Int) ^ k = (P : Int) := by rw [← hP]; simp
  have hPI1 : (1 : Int) * (2 : Int) ^ k = (P : Int) := by rw [Int.one_mul, hPI]
  have wP : IntKind.u64.wrap (P : Int) = (P : Int) := by exact IntWalk.u64_in _ (by omega)
  rw [hP] at hA p1 p0
  obtain ⟨V, hV⟩ : ∃ V, addR t b = V := ⟨_, rfl⟩
  rw [hV] at hA ⊢
  have HV := Lib.hid hA
  clear hV hA
  unfold setV
  have HBE : Hid (∀ o p, Below w.heap.size w ((w.alloc o).alloc p)) := fun o p => ((Below.refl _ w).alloc (Nat.le_refl _) o).alloc (by rw [alloc_size]; omega) p
  have h4 : b / 64 = 0 ∨ b / 64 = 1 ∨ b / 64 = 2 ∨ b / 64 = 3 := by omega
  rcases h4 with hq | hq | hq | hq
  · have e1 : (b : Int).tdiv 64 = 0 := by rw [show (64 : Int) = ((64 : Nat) : Int) from rfl, ← Int.ofNat_tdiv, hq]; rfl
    rw [hq] at HV
    have hx := hs.1
    have wS : bits BinOp.or IntKind.u64 ((t.1 : Nat) : Int) (P : Int) = ((t.1 ||| P : Nat) : Int) := bits_or_u64_nat _ _ hx (by omega)
    obtain ⟨S, hS⟩ : ∃ S, t.1 ||| P = S := ⟨_, rfl⟩
    have HV2 : Hid (V = stR t 0 S) := by rw [← hS]; exact HV.out
    rw [hS] at wS
    clear hS HV hs hx
    go_enter Tryd.func89, Tryd.ntmps89
    go_wp2_with fail
    exact bodyPost_ret (v := setV (stR t 0 S)) (by simp [results, Tryd.results89, go_sem, setV, stR]) rfl ⟨by rw [HV2.out]; rfl, HBE.out _ _⟩
  · have e1 : (b : Int).tdiv 64 = 1 := by rw [show (64 : Int) = ((64 : Nat) : Int) from rfl, ← Int.ofNat_tdiv, hq]; rfl
    rw [hq] at HV
    have hx := hs.2.1
    have wS : bits BinOp.or IntKind.u64 ((t.2.1 : Nat) : Int) (P : Int) = ((t.2.1 ||| P : Nat) : Int) := bits_or_u64_nat _ _ hx (by omega)
    obtain ⟨S, hS⟩ : ∃ S, t.2.1 ||| P = S := ⟨_, rfl⟩
    have HV2 : Hid (V = stR t 1 S) := by rw [← hS]; exact HV.out
    rw [hS] at wS
    clear hS HV hs hx
    go_enter Tryd.func89, Tryd.ntmps89
    go_wp2_with fail
    exact bodyPost_ret (v := setV (stR t 1 S)) (by simp [results, Tryd.results89, go_sem, setV, stR]) rfl ⟨by rw [HV2.out]; rfl, HBE.out _ _⟩
  · have e1 : (b : Int).tdiv 64 = 2 := by rw [show (64 : Int) = ((64 : Nat) : Int) from rfl, ← Int.ofNat_tdiv, hq]; rfl
    rw [hq] at HV
    have hx := hs.2.2.1
    have wS : bits BinOp.or IntKind.u64 ((t.2.2.1 : Nat) : Int) (P : Int) = ((t.2.2.1 ||| P : Nat) : Int) := bits_or_u64_nat _ _ hx (by omega)
    obtain ⟨S, hS⟩ : ∃ S, t.2.2.1 ||| P = S := ⟨_, rfl⟩
    have HV2 : Hid (V = stR t 2 S) := by rw [← hS]; exact HV.out
    rw [hS] at wS
    clear hS HV hs hx
    go_enter Tryd.func89, Tryd.ntmps89
    go_wp2_with fail
    exact bodyPost_ret (v := setV (stR t 2 S)) (by simp [results, Tryd.results89, go_sem, setV, stR]) rfl ⟨by rw [HV2.out]; rfl, HBE.out _ _⟩
  · have e1 : (b : Int).tdiv 64 = 3 := by rw [show (64 : Int) = ((64 : Nat) : Int) from rfl, ← Int.ofNat_tdiv, hq]; rfl
    rw [hq] at HV
    have hx := hs.2.2.2
    have wS : bits BinOp.or IntKind.u64 ((t.2.2.2 : Nat) : Int) (P : Int) = ((t.2.2.2 ||| P : Nat) : Int) := bits_or_u64_nat _ _ hx (by omega)
    obtain ⟨S, hS⟩ : ∃ S, t.2.2.2 ||| P = S := ⟨_, rfl⟩
    have HV2 : Hid (V = stR t 3 S) := by rw [← hS]; exact HV.out
    rw [hS] at wS
    clear hS HV hs hx
    go_enter Tryd.func89, Tryd.ntmps89
    go_wp2_with fail
    exact bodyPost_ret (v := setV (stR t 3 S)) (by simp [results, Tryd.results89, go_sem, setV, stR]) rfl ⟨by rw [HV2.out]; rfl, HBE.out _ _⟩
set_option maxHeartbeats 4000000 in
theorem pwithout_any (t : St4) (w : World) (hs : OkR t) :
    Calls Tryd.prog 88 #[setV t] w fun e w' => e = .returned (setV (notR t 256)) ∧ Below w.heap.size w w' := by
  rw [← xor_not t hs]
  obtain ⟨a, b, c, d⟩ := t
  obtain ⟨ha, hb, hc, hd⟩ := hs
  simp only at ha hb hc hd
  have xa : bits BinOp.xor IntKind.u64 (if IntKind.u64.signed = true then -1 else IntKind.u64.max) (a : Int) = ((allU ^^^ a : Nat) : Int) := bits_xor_u64_nat allU a (by decide) ha
  have xb : bits BinOp.xor IntKind.u64 (if IntKind.u64.signed = true then -1 else IntKind.u64.max) (b : Int) = ((allU ^^^ b : Nat) : Int) := bits_xor_u64_nat allU b (by decide) hb
  have xc : bits BinOp.xor IntKind.u64 (if IntKind.u64.signed = true then -1 else IntKind.u64.max) (c : Int) = ((allU ^^^ c : Nat) : Int) := bits_xor_u64_nat allU c (by decide) hc
  have xd : bits BinOp.xor IntKind.u64 (if IntKind.u64.signed = true then -1 else IntKind.u64.max) (d : Int) = ((allU ^^^ d : Nat) : Int) := bits_xor_u64_nat allU d (by decide) hd
  have HBE : Hid (∀ o p, Below w.heap.size w ((w.alloc o).alloc p)) := fun o p => ((Below.refl _ w).alloc (Nat.le_refl _) o).alloc (by rw [alloc_size]; omega) p
  obtain ⟨a', ha'⟩ : ∃ x, allU ^^^ a = x := ⟨_, rfl⟩
  obtain ⟨b', hb'⟩ : ∃ x, allU ^^^ b = x := ⟨_, rfl⟩
  obtain ⟨c', hc'⟩ : ∃ x, allU ^^^ c = x := ⟨_, rfl⟩
  obtain ⟨d', hd'⟩ : ∃ x, allU ^^^ d = x := ⟨_, rfl⟩
  rw [ha'] at xa
  rw [hb'] at xb
  rw [hc'] at xc
  rw [hd'] at xd
  have HV := Lib.hid (show xorR (a, b, c, d) = (a', b', c', d') by unfold xorR; rw [ha', hb', hc', hd'])
  clear ha' hb' hc' hd'
  obtain ⟨V, hV⟩ : ∃ V, xorR (a, b, c, d) = V := ⟨_, rfl⟩
  rw [hV] at HV ⊢
  clear hV
  unfold setV
  simp only
  go_enter Tryd.func88, Tryd.ntmps88
  go_wp2_with fail
  go_loopw [4] (fun s4 wr => (s4 = .int .i64 0 ∧ wr = ((w.alloc (.cells #[.int .u64 (a : Int), .int .u64 (b : Int), .int .u64 (c : Int), .int .u64 (d : Int)] 23)).alloc (.cells #[.int .u64 0, .int .u64 0, .int .u64 0, .int .u64 0] 23))) ∨ (s4 = .int .i64 1 ∧ wr = ((w.alloc (.cells #[.int .u64 (a' : Int), .int .u64 (b : Int), .int .u64 (c : Int), .int .u64 (d : Int)] 23)).alloc (.cells #[.int .u64 0, .int .u64 0, .int .u64 0, .int .u64 0] 23))) ∨ (s4 = .int .i64 2 ∧ wr = ((w.alloc (.cells #[.int .u64 (a' : Int), .int .u64 (b' : Int), .int .u64 (c : Int), .int .u64 (d : Int)] 23)).alloc (.cells #[.int .u64 0, .int .u64 0, .int .u64 0, .int .u64 0] 23))) ∨ (s4 = .int .i64 3 ∧ wr = ((w.alloc (.cells #[.int .u64 (a' : Int), .int .u64 (b' : Int), .int .u64 (c' : Int), .int .u64 (d : Int)] 23)).alloc (.cells #[.int .u64 0, .int .u64 0, .int .u64 0, .int .u64 0] 23))) ∨ (s4 = .int .i64 4 ∧ wr = ((w.alloc (.cells #[.int .u64 (a' : Int), .int .u64 (b' : Int), .int .u64 (c' : Int), .int .u64 (d' : Int)] 23)).alloc (.cells #[.int .u64 0, .int .u64 0, .int .u64 0, .int .u64 0] 23)))) (fun s4 _ => 4 - (intOf s4).toNat)
  case atStart => exact .inl ⟨rfl, rfl⟩
  case round =>
    rcases hrel with ⟨rfl, rfl⟩ | ⟨rfl, rfl⟩ | ⟨rfl, rfl⟩ | ⟨rfl, rfl⟩ | ⟨rfl, rfl⟩
    · go_wp2_with fail
      go_roundw
      case rel => exact .inr (.inl ⟨rfl, trivial⟩)
      case measure => simp [intOf]
    · go_wp2_with fail
      go_roundw
      case rel => exact .inr (.inr (.inl ⟨rfl, trivial⟩))
      case measure => simp [intOf]
    · go_wp2_with fail
      go_roundw
      case rel => exact .inr (.inr (.inr (.inl ⟨rfl, trivial⟩)))
      case measure => simp [intOf]
    · go_wp2_with fail
      go_roundw
      case rel => exact .inr (.inr (.inr (.inr (⟨rfl, trivial⟩))))
      case measure => simp [intOf]
    · go_wp2_with fail
      exact bodyPost_ret (v := setV (a', b', c', d')) (by simp [results, Tryd.results88, go_sem, setV]) rfl ⟨by rw [HV.out]; rfl, HBE.out _ _⟩
end Go.Proofs.YtkopbngnhgdfhaaDoor
