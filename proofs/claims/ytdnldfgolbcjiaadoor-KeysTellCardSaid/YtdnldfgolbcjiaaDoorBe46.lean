/-
  limnerref09.sequence: what it returns, where the document's decoder stands then: behind an escape, a bracket and any bytes.
-/
import Derived.Deep.Cut
import Derived.Test.YtdnldfgolbcjiaaDoorBe40
namespace Go.Proofs.YtdnldfgolbcjiaaDoor
open Go.RowKit

theorem below_alloc {w V : World} {o : Obj} (h : Below w.heap.size w V) : Below w.heap.size w (V.alloc o) := h.trans ((alloc_below V o).mono h.size)
theorem below_drew1 {w V : World} (h : Below w.heap.size w V) : Below w.heap.size w V.drew := h.trans ((Below.refl _ V).drew.mono h.size)
set_option maxRecDepth 4000 in
set_option maxHeartbeats 8000000 in
theorem rseq_any (R b : Nat) (v : Value) (wt : ByteArray) (w : World) (hB : boxR w R (.string wt) (.bool false) v) (hb : b < 256) (hw : wt.size ≤ 50000) (h2 : 2 ≤ wt.size) :
    Calls Tryd.prog 34 #[.pointer (some ⟨R, 0, none⟩), .int .u8 (b : Int)] w (FedH R v w (csiK wt b)) := by
  obtain ⟨G, hG⟩ : ∃ G, csiK wt b = G := ⟨_, rfl⟩
  rw [hG]
  have HG := Lib.hid hG
  clear hG
  have hl := hB.lt
  obtain ⟨⟨c0, _, _⟩, f0, _, _⟩ := hB.cells
  have h1 := one_size b
  have hsz := snoc_size wt b
  have bw : BytesW (w.alloc (.cells #[.int .u8 (b : Int)] 5)) (.slice (some ⟨w.heap.size, 0, none⟩) 1 1) (oneS b) := (row_byte 0 w b hb (Nat.zero_le _)).bytes
  have bd : BytesW (w.drew.alloc (.cells #[.int .u8 (b : Int)] 5)) (.slice (some ⟨w.heap.size, 0, none⟩) 1 1) (oneS b) := (row_byte 0 w.drew b hb (Nat.zero_le _)).bytes
  have cv1 := bytes_conv 28 Tryd.underlying28 bw
  have cv2 := bytes_conv 28 Tryd.underlying28 (BytesW.keep bw (keep_drew AnyK _) (fun _ _ => trivial))
  have cv3 := bytes_conv 28 Tryd.underlying28 bd
  have cv4 := bytes_conv 28 Tryd.underlying28 (BytesW.keep bd (keep_drew AnyK _) (fun _ _ => trivial))
  clear bw bd
  have HC : Hid (∀ V, Below w.heap.size w V → V.cell? ⟨R, 0, none⟩ = some (.string wt)) := fun V hV => (hB.below hV).cells.1.1
  have kk := Below.refl w.heap.size w
  have k0 : Below w.heap.size w w.drew := kk.drew
  go_enter Tryd.func34, Tryd.ntmps34
  have H0 : Hid (∀ V, V = w.alloc (.cells #[.int .u8 (b : Int)] 5) ∨ V = (w.alloc (.cells #[.int .u8 (b : Int)] 5)).drew ∨ V = w.drew.alloc (.cells #[.int .u8 (b : Int)] 5) ∨ V = (w.drew.alloc (.cells #[.int .u8 (b : Int)] 5)).drew → boxR V R (.string wt) (.bool false) v ∧ KeepW (fun k => k ≠ R) w V) := by
    rintro V (rfl | rfl | rfl | rfl)
    · exact ⟨hB.below (alloc_below _ _), keep_below _ (alloc_below _ _)⟩
    · exact ⟨(hB.below (alloc_below _ _)).below (Below.refl _ _).drew, keep_below _ (below_drew1 (alloc_below _ _))⟩
    · exact ⟨hB.below (below_alloc k0), keep_below _ (below_alloc k0)⟩
    · exact ⟨(hB.below (below_alloc k0)).below (Below.refl _ _).drew, keep_below _ (below_drew1 (below_alloc k0))⟩
  go_wp2_with fail
  go_cut [5] from 7 (fun s5 W => s5 = .string (wt ++ oneS b) ∧ Hid (boxR W R (.string wt) (.bool false) v ∧ KeepW (fun k => k ≠ R) w W))
  case first =>
    go_region_with fail
    all_goals (go_wp2_with fail; go_meet; exact ⟨rfl, H0.out _ (by first | exact .inl rfl | exact .inr (.inl rfl) | exact .inr (.inr (.inl rfl)) | exact .inr (.inr (.inr rfl)))⟩)
  case rest =>
    obtain ⟨rfl, HCut⟩ := hcut
    have HK1 := Lib.hid HCut.out.2
    have HB1 := Lib.hid HCut.out.1
    have hlc := HB1.out.lt
    obtain ⟨⟨d0, d1, _⟩, g0, g1, _⟩ := HB1.out.cells
    have HB2 := Lib.hid (HB1.out.set0 (.string ⟨#[]⟩))
    have HK2 := Lib.hid (HK1.out.trans (keep_R wc R 0 (.string ⟨#[]⟩)))
    have HAN := Lib.hid (ranew_any R b _ v wt wc HB1.out hb)
    have HAR := Lib.hid (fun s W => arrow_any s W)
    have HCS : Hid (G = if b < 32 ∨ 127 ≤ b then anewK (badK wt) b else if b < 64 then (.held (wt ++ oneS b), []) else if tailB (wt ++ oneS b) 2 = begP then (.paste noB, []) else (.held noB, [knownK (wt ++ oneS b)])) := HG.out.symm
    have HKN : Hid (knownK (wt ++ oneS b) = if namedK (tailB (wt ++ oneS b) 2) = 0 then badK (wt ++ oneS b) else (namedK (tailB (wt ++ oneS b) 2), 0, noB)) := rfl
    have hrr : (wt ++ oneS b).extract 2 (wt ++ oneS b).size = tailB (wt ++ oneS b) 2 := rfl
    obtain ⟨T, hT⟩ : ∃ T, wt ++ oneS b = T := ⟨_, rfl⟩
    rw [hT] at hsz HCS HKN hrr
    obtain ⟨r, hr⟩ : ∃ r, tailB T 2 = r := ⟨_, rfl⟩
    rw [hr] at HCS HKN hrr
    obtain ⟨n, hn⟩ : ∃ n, T.size = n := ⟨_, rfl⟩
    rw [hn] at hrr hsz
    have n1 : (2 : Int) ≤ (n : Int) := by omega
    have n2 : 2 ≤ n := by omega
    have n3 : n ≤ 100000 := by omega
    clear HCut hr hsz H0 HC kk k0 cv1 cv2 cv3 cv4 c0 f0 hB hl
    by_cases c1 : b < 32
    · have j1 : (b : Int) < 32 := by omega
      rw [if_pos (.inl c1)] at HCS
      go_wp2_with fail
      go_fit HAN.out
      rintro e w' hf
      have HFf := Lib.hid (fedh_below HK1.out hf)
      obtain ⟨u, rfl, _⟩ := hf
      go_wp2_with fail
      go_ret
      rw [HCS.out]
      exact HFf.out
    have j1 : (32 : Int) ≤ (b : Int) := by omega
    by_cases c2 : 127 ≤ b
    · have j2 : (126 : Int) < (b : Int) := by omega
      rw [if_pos (.inr c2)] at HCS
      go_wp2_with fail
      go_fit HAN.out
      rintro e w' hf
      have HFf := Lib.hid (fedh_below HK1.out hf)
      obtain ⟨u, rfl, _⟩ := hf
      go_wp2_with fail
      go_ret
      rw [HCS.out]
      exact HFf.out
    have j2 : (b : Int) ≤ 126 := by omega
    rw [if_neg (by omega)] at HCS
    by_cases c3 : b < 64
    · have j3 : (b : Int) < 64 := by omega
      rw [if_pos c3] at HCS
      go_wp2_with fail
      go_ret
      rw [HCS.out]
      exact fedh_none (p := .held T) (HK1.out.trans (keep_R _ _ _ _)) (HB1.out.set0 _) rfl
    have j3 : (64 : Int) ≤ (b : Int) := by omega
    rw [if_neg c3] at HCS
    clear HAN
    by_cases e0 : r = ⟨#[49, 126]⟩
    · have q0 : (r.toList == [49, 126]) = true := by rw [ba_lit]; exact decide_eq_true e0
      have hx : knownK T = (12, 0, noB) := by rw [HKN.out, e0]; rfl
      rw [if_neg (by rw [e0]; decide), hx] at HCS
      clear e0 HKN HAR hx
      have HKY : Hid (∀ W, Calls Tryd.prog 31 #[.int .i64 12, .int .i32 0, .string ⟨#[]⟩] W fun e w' => ∃ u, e = .returned u ∧ OutK W.heap.size w' u [(12, 0, noB)] ∧ Below W.heap.size W w') := fun W => rkey_any 12 0 noB W
      go_wp2_with fail
      go_fit (HKY.out _)
      rintro e w3 ⟨u, rfl, hu, hb3⟩
      have HF := Lib.hid (fedh_key (R := R) (v := v) (p := .held noB) HK2.out hu hb3 HB2.out rfl)
      clear hu hb3
      go_wp2_with fail
      go_ret
      rw [HCS.out]
      exact HF.out
    have q0 : (r.toList == [49, 126]) = false := by rw [ba_lit]; exact decide_eq_false e0
    by_cases e1 : r = ⟨#[55, 126]⟩
    · have q1 : (r.toList == [55, 126]) = true := by rw [ba_lit]; exact decide_eq_true e1
      have hx : knownK T = (12, 0, noB) := by rw [HKN.out, e1]; rfl
      rw [if_neg (by rw [e1]; decide), hx] at HCS
      clear e1 HKN HAR hx
      have HKY : Hid (∀ W, Calls Tryd.prog 31 #[.int .i64 12, .int .i32 0, .string ⟨#[]⟩] W fun e w' => ∃ u, e = .returned u ∧ OutK W.heap.size w' u [(12, 0, noB)] ∧ Below W.heap.size W w') := fun W => rkey_any 12 0 noB W
      go_wp2_with fail
      go_fit (HKY.out _)
      rintro e w3 ⟨u, rfl, hu, hb3⟩
      have HF := Lib.hid (fedh_key (R := R) (v := v) (p := .held noB) HK2.out hu hb3 HB2.out rfl)
      clear hu hb3
      go_wp2_with fail
      go_ret
      rw [HCS.out]
      exact HF.out
    have q1 : (r.toList == [55, 126]) = false := by rw [ba_lit]; exact decide_eq_false e1
    by_cases e2 : r = ⟨#[52, 126]⟩
    · have q2 : (r.toList == [52, 126]) = true := by rw [ba_lit]; exact decide_eq_true e2
      have hx : knownK T = (13, 0, noB) := by rw [HKN.out, e2]; rfl
      rw [if_neg (by rw [e2]; decide), hx] at HCS
      clear e2 HKN HAR hx
      have HKY : Hid (∀ W, Calls Tryd.prog 31 #[.int .i64 13, .int .i32 0, .string ⟨#[]⟩] W fun e w' => ∃ u, e = .returned u ∧ OutK W.heap.size w' u [(13, 0, noB)] ∧ Below W.heap.size W w') := fun W => rkey_any 13 0 noB W
      go_wp2_with fail
      go_fit (HKY.out _)
      rintro e w3 ⟨u, rfl, hu, hb3⟩
      have HF := Lib.hid (fedh_key (R := R) (v := v) (p := .held noB) HK2.out hu hb3 HB2.out rfl)
      clear hu hb3
      go_wp2_with fail
      go_ret
      rw [HCS.out]
      exact HF.out
    have q2 : (r.toList == [52, 126]) = false := by rw [ba_lit]; exact decide_eq_false e2
    by_cases e3 : r = ⟨#[56, 126]⟩
    · have q3 : (r.toList == [56, 126]) = true := by rw [ba_lit]; exact decide_eq_true e3
      have hx : knownK T = (13, 0, noB) := by rw [HKN.out, e3]; rfl
      rw [if_neg (by rw [e3]; decide), hx] at HCS
      clear e3 HKN HAR hx
      have HKY : Hid (∀ W, Calls Tryd.prog 31 #[.int .i64 13, .int .i32 0, .string ⟨#[]⟩] W fun e w' => ∃ u, e = .returned u ∧ OutK W.heap.size w' u [(13, 0, noB)] ∧ Below W.heap.size W w') := fun W => rkey_any 13 0 noB W
      go_wp2_with fail
      go_fit (HKY.out _)
      rintro e w3 ⟨u, rfl, hu, hb3⟩
      have HF := Lib.hid (fedh_key (R := R) (v := v) (p := .held noB) HK2.out hu hb3 HB2.out rfl)
      clear hu hb3
      go_wp2_with fail
      go_ret
      rw [HCS.out]
      exact HF.out
    have q3 : (r.toList == [56, 126]) = false := by rw [ba_lit]; exact decide_eq_false e3
    by_cases e4 : r = ⟨#[51, 126]⟩
    · have q4 : (r.toList == [51, 126]) = true := by rw [ba_lit]; exact decide_eq_true e4
      have hx : knownK T = (14, 0, noB) := by rw [HKN.out, e4]; rfl
      rw [if_neg (by rw [e4]; decide), hx] at HCS
      clear e4 HKN HAR hx
      have HKY : Hid (∀ W, Calls Tryd.prog 31 #[.int .i64 14, .int .i32 0, .string ⟨#[]⟩] W fun e w' => ∃ u, e = .returned u ∧ OutK W.heap.size w' u [(14, 0, noB)] ∧ Below W.heap.size W w') := fun W => rkey_any 14 0 noB W
      go_wp2_with fail
      go_fit (HKY.out _)
      rintro e w3 ⟨u, rfl, hu, hb3⟩
      have HF := Lib.hid (fedh_key (R := R) (v := v) (p := .held noB) HK2.out hu hb3 HB2.out rfl)
      clear hu hb3
      go_wp2_with fail
      go_ret
      rw [HCS.out]
      exact HF.out
    have q4 : (r.toList == [51, 126]) = false := by rw [ba_lit]; exact decide_eq_false e4
    by_cases e9 : r = begP
    · have q9 : (r.toList == [50, 48, 48, 126]) = true := by rw [ba_lit]; exact decide_eq_true e9
      rw [if_pos e9] at HCS
      obtain ⟨⟨_, p1, _⟩, _, pf1, _⟩ := HB2.out.cells
      clear e9 HKN HAR
      go_wp2_with fail
      go_ret
      rw [HCS.out]
      exact fedh_none (p := .paste noB) (HK2.out.trans (keep_R _ _ _ _)) (HB2.out.set1 _) rfl
    have q9 : (r.toList == [50, 48, 48, 126]) = false := by rw [ba_lit]; exact decide_eq_false e9
    rw [if_neg e9] at HCS
    have hna : namedK r = arrowN r := by
      unfold namedK arrowN
      by_cases a1 : r = oneS 65
      · rw [if_pos a1, if_pos a1]
      rw [if_neg a1, if_neg a1]
      by_cases a2 : r = oneS 66
      · rw [if_pos a2, if_pos a2]
      rw [if_neg a2, if_neg a2]
      by_cases a3 : r = oneS 67
      · rw [if_pos a3, if_pos a3]
      rw [if_neg a3, if_neg a3]
      by_cases a4 : r = oneS 68
      · rw [if_pos a4, if_pos a4]
      rw [if_neg a4, if_neg a4]
      by_cases a5 : r = oneS 72
      · rw [if_pos (.inl a5), if_pos a5]
      rw [if_neg (fun h => by rcases h with h | h | h; exact a5 h; exact e0 h; exact e1 h), if_neg a5]
      by_cases a6 : r = oneS 70
      · rw [if_pos (.inl a6), if_pos a6]
      rw [if_neg (fun h => by rcases h with h | h | h; exact a6 h; exact e2 h; exact e3 h), if_neg a6, if_neg e4]
    rw [hna] at HKN
    rw [HKN.out] at HCS
    clear HKN hna e0 e1 e2 e3 e4 e9
    have HA1 := Lib.hid (HAR.out r)
    clear HAR
    obtain ⟨A, hA⟩ : ∃ A, arrowN r = A := ⟨_, rfl⟩
    rw [hA] at HA1 HCS
    clear hA
    by_cases a0 : A = 0
    · subst a0
      rw [if_pos rfl] at HCS
      have HKY : Hid (∀ W, Calls Tryd.prog 31 #[.int .i64 0, .int .i32 0, .string T] W fun e w' => ∃ u, e = .returned u ∧ OutK W.heap.size w' u [badK T] ∧ Below W.heap.size W w') := fun W => rkey_any 0 0 T W
      go_wp2_with fail
      go_fit (HA1.out _)
      rintro e w2 ⟨rfl, hb2⟩
      have HB3 := Lib.hid (HB2.out.below hb2)
      have HK3 := Lib.hid (HK2.out.trans (keep_below _ hb2))
      clear hb2
      go_wp2_with fail
      go_fit (HKY.out _)
      rintro e w3 ⟨u, rfl, hu, hb3⟩
      have HF := Lib.hid (fedh_key (R := R) (v := v) (p := .held noB) HK3.out hu hb3 HB3.out rfl)
      clear hu hb3
      go_wp2_with fail
      go_ret
      rw [HCS.out]
      exact HF.out
    · have i0 : (0 : Int) < (A : Int) := by omega
      rw [if_neg a0] at HCS
      have HKY : Hid (∀ W, Calls Tryd.prog 31 #[.int .i64 (A : Int), .int .i32 0, .string ⟨#[]⟩] W fun e w' => ∃ u, e = .returned u ∧ OutK W.heap.size w' u [(A, 0, noB)] ∧ Below W.heap.size W w') := fun W => rkey_any A 0 noB W
      go_wp2_with fail
      go_fit (HA1.out _)
      rintro e w2 ⟨rfl, hb2⟩
      have HB3 := Lib.hid (HB2.out.below hb2)
      have HK3 := Lib.hid (HK2.out.trans (keep_below _ hb2))
      clear hb2
      go_wp2_with fail
      go_fit (HA1.out _)
      rintro e w2b ⟨rfl, hb2⟩
      have HB4 := Lib.hid (HB3.out.below hb2)
      have HK4 := Lib.hid (HK3.out.trans (keep_below _ hb2))
      clear hb2
      go_wp2_with fail
      go_fit (HKY.out _)
      rintro e w3 ⟨u, rfl, hu, hb3⟩
      have HF := Lib.hid (fedh_key (R := R) (v := v) (p := .held noB) HK4.out hu hb3 HB4.out rfl)
      clear hu hb3
      go_wp2_with fail
      go_ret
      rw [HCS.out]
      exact HF.out
end Go.Proofs.YtdnldfgolbcjiaaDoor
