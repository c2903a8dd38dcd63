/-
  limnerlaw11.NfasText: it returns true, for any letters and text.
-/
import Derived.Test.YtkopbngnhgdfhaaDoorBe38
import Derived.Test.YtkopbngnhgdfhaaDoorBe45
import Derived.Test.YtkopbngnhgdfhaaDoorBe46
namespace Go.Proofs.YtkopbngnhgdfhaaDoor
open Go.RowKit

theorem toL_inj {x y : ByteArray} (h : x.toList = y.toList) : x = y := by
  rw [Lib.toList_data, Lib.toList_data] at h
  exact ByteArray.ext (Array.toList_inj.1 h)
set_option maxRecDepth 4000 in
set_option maxHeartbeats 8000000 in
theorem nfasText_any (v : Value) (l : List Int) (s : ByteArray) (w : World) (he : ErrW w) (h : U8sW w v l) :
    Calls Tryd.prog 8 #[v, .string s] w fun e w' => e = .returned (.bool true) ∧ Below w.heap.size w w' := by
  have HMA := Lib.hid (fun (W : World) (hb : Below w.heap.size w W) => (matched_any (he.below hb)).mono fun e w' h2 => (⟨h2.1, hb.trans (h2.2.mono hb.size)⟩ : e = .returned (.bool true) ∧ Below w.heap.size w w'))
  have HMK := Lib.hid (fun (W : World) (hb : Below w.heap.size w W) (L : List ByteArray) (u : Value) (h : StrsW W u L) => nmake_any h (he.below hb))
  have HV := Lib.hid h
  obtain ⟨vo, vc, rfl, _⟩ := h
  obtain ⟨m, hm⟩ : ∃ m, l.length = m := ⟨_, rfl⟩
  have HM := Lib.hid hm
  rw [hm] at HV ⊢
  clear hm he
  by_cases hm1 : 60 < m
  · have hmi : (m : Int) > 60 := by omega
    have HX := Lib.hid (HMA.out _ (Below.refl _ _))
    clear HMA HM HMK HV hm1
    go_enter Tryd.func8, Tryd.ntmps8
    go_wp2_with fail
    go_fit HX.out
    rintro e w1 ⟨rfl, hb⟩
    have HB := Lib.hid hb
    clear hb
    go_wp2_with fail
    go_ret
    exact ⟨rfl, HB.out⟩
  have hmi : ¬ (m : Int) > 60 := by omega
  by_cases hs1 : 100 < s.size
  · have hsi : (s.size : Int) > 100 := by omega
    have HX := Lib.hid (HMA.out _ (Below.refl _ _))
    clear HMA HM HMK HV hm1 hs1
    go_enter Tryd.func8, Tryd.ntmps8
    go_wp2_with fail
    go_fit HX.out
    rintro e w1 ⟨rfl, hb⟩
    have HB := Lib.hid hb
    clear hb
    go_wp2_with fail
    go_ret
    exact ⟨rfl, HB.out⟩
  have hsi : ¬ (s.size : Int) > 100 := by omega
  have HS1 := Lib.hid hs1
  clear hs1
  have H0 : Hid (⟨#[]⟩ = textB (l.take 0) ∧ Below w.heap.size w w) := Lib.hid ⟨by rw [List.take_zero]; rfl, Below.refl _ _⟩
  go_enter Tryd.func8, Tryd.ntmps8
  go_wp2_with fail
  go_loopw [5, 6] (fun s5 s6 wr => ∃ (i : Nat) (t : ByteArray), s6 = .int .i64 (i : Int) ∧ i ≤ m ∧ s5 = .string t ∧ Hid (t = textB (l.take i) ∧ Below w.heap.size w wr)) (fun _ s6 _ => m - (intOf s6).toNat)
  case atStart => exact ⟨0, ⟨#[]⟩, rfl, by omega, rfl, H0⟩
  case round =>
    rename_i wr
    obtain ⟨i, t, rfl, hi, rfl, HX⟩ := hrel
    clear H0
    have i0 : (0 : Int) ≤ (i : Int) := by omega
    have ib : (i : Int) ≤ 60 := by omega
    by_cases hlt : i < m
    · have hli : (i : Int) < (m : Int) := by omega
      have hla : i < l.length := by have := HM.out; omega
      obtain ⟨n, hn⟩ : ∃ n, l[i] = n := ⟨_, rfl⟩
      have hil : l[i]? = some n := by rw [List.getElem?_eq_getElem hla, hn]
      obtain ⟨ao, cap, hve, hc⟩ := HV.out.below HX.out.2
      injection hve with e1 e2 e3
      subst e1
      clear e2 e3
      obtain ⟨n0, n1, g, o, rfl, hcell⟩ := hc i n hil
      have HN : Hid (l.take (i + 1) = l.take i ++ [n]) := Lib.hid (by rw [List.take_add_one, hil]; rfl)
      have hcv : (convert 57 9 (.slice (some ⟨wr.heap.size, 0, none⟩) 1 1)).run Tryd.prog (wr.alloc (.cells #[.int .u8 (97 + n % 26)] 5)) = .ok (.string (letB n)) (wr.alloc (.cells #[.int .u8 (97 + n % 26)] 5)) :=
        run_convert_bytes_arg (P := Tryd.prog) _ 57 5 Tryd.underlying57 Tryd.underlying5 wr.heap.size 0 1 1 [97 + n % 26] rfl (fun i hi => by
          obtain rfl : i = 0 := by omega
          rw [cell_of_row _ _ _ _ _ (0, 0) (heap_alloc_new wr _)]
          rfl) 9 Tryd.underlying9
      have HY : Hid (t ++ letB n = textB (l.take (i + 1)) ∧ Below w.heap.size w (wr.alloc (.cells #[.int .u8 (97 + n % 26)] 5))) := Lib.hid ⟨by rw [HX.out.1, text_snoc, HN.out], HX.out.2.trans ((alloc_under wr _).mono HX.out.2.size)⟩
      have hts : ¬ 9223372036854775807 < t.size + (letB n).size := by
        rw [HX.out.1, text_size, List.length_take]
        show ¬ _ < _ + 1
        omega
      clear hla hn hil hc
      go_wp2_with fail
      go_roundw
      case rel => exact ⟨i + 1, _, by go_num, by omega, rfl, HY⟩
      case measure => simp [intOf] <;> omega
    · have hli : ¬ (i : Int) < (m : Int) := by omega
      have hall : l.take i = l := List.take_of_length_le (by have := HM.out; omega)
      rw [hall] at HX
      have ht := HX.out.1
      have hsz : t.size = m := by rw [ht, text_size]; exact HM.out
      have hm60 : l.length ≤ 60 := by have := HM.out; omega
      have HE := Lib.hid (text_make l hm60).1
      rw [← ht] at HE
      have HTT : Hid (∀ (W : World) (u : Value), NfaR W u (quE [t]) (fiE [t]) → Calls Tryd.prog 23 #[u, .string (t ++ s), .int .i64 0, .int .i64 (m : Int), .int .i64 0] W fun e w' => e = .returned (.bool true) ∧ Below W.heap.size W w') := Lib.hid fun W u hu =>
        (takes_any (.inr hu) (make_good HE.out).1.ok (make_good HE.out).1.in_ (t ++ s) (by rw [ByteArray.size_append, hsz]; have := HS1.out; omega) 0 (m : Int) 0).mono fun e w' h2 => ⟨by
          have h3 := text_both l hm60 s
          rw [← ht] at h3
          rw [h2.1, h3, HM.out]
          simp, h2.2⟩
      have HMT : Hid (∀ (W : World) (u : Value), NfaR W u (quE [t]) (fiE [t]) → Calls Tryd.prog 17 #[u, .string s, .int .i64 0] W fun e w' => e = .returned (.tuple #[.int .i64 (matchA (quE [t]) (fiE [t]) s 0).1, .int .i64 (matchA (quE [t]) (fiE [t]) s 0).2]) ∧ Below W.heap.size W w') := Lib.hid fun W u hu =>
        nmatch_any (.inr hu) (make_good HE.out).1.ok (make_good HE.out).1.in_ s (by have := HS1.out; omega) 0
      have htk := text_take l hm60 s
      have htb := text_begins l s
      rw [HM.out] at htk htb
      rw [← ht] at htk htb
      have hb0 := alloc_under wr (.cells #[.string t] 9)
      have HW := Lib.hid (And.intro (strsW_of (wr.alloc (.cells #[.string t] 9)) wr.heap.size [t] (fun i x hx => cell_of_al i _ (by
        have h3 : i < 1 := (List.getElem?_eq_some_iff.1 hx).1
        obtain rfl : i = 0 := by omega
        cases hx; rfl))) (HX.out.2.trans (hb0.mono HX.out.2.size)))
      have hts : ¬ 9223372036854775807 < t.size + s.size := by have := HS1.out; omega
      have HMM := Lib.hid (HMK.out _ HW.out.2 _ _ HW.out.1)
      rw [HE.out] at HMM
      have HBg : Hid ((m ≤ s.size ∧ s.extract 0 m = t ∧ matchA (quE [t]) (fiE [t]) s 0 = ((m : Int), 0)) ∨ (m ≤ s.size ∧ s.extract 0 m ≠ t ∧ matchA (quE [t]) (fiE [t]) s 0 = (0, -1)) ∨ (¬ m ≤ s.size ∧ matchA (quE [t]) (fiE [t]) s 0 = (0, -1))) := Lib.hid (by
        by_cases h : (bytesR s).take m = bytesR t
        · exact .inl ⟨(htb.1 h).1, (htb.1 h).2, htk.1 h⟩
        · by_cases h2 : m ≤ s.size
          · exact .inr (.inl ⟨h2, fun e => h (htb.2 ⟨h2, e⟩), htk.2 h⟩)
          · exact .inr (.inr ⟨h2, htk.2 h⟩))
      obtain ⟨mm, hmm⟩ : ∃ x, matchA (quE [t]) (fiE [t]) s 0 = x := ⟨_, rfl⟩
      rw [hmm] at HMT HBg
      clear ht htk htb hb0 hall hmm HX HV HM
      go_wp2_with fail
      (try rw [hsz])
      go_fit HMM.out
      rintro e w1 ⟨p, rfl, hp, _, hb⟩
      have H1 := Lib.hid (And.intro (hp trivial).2 (HW.out.2.trans (hb.mono HW.out.2.size)))
      clear hp hb HW HMK HMM
      rcases HBg.out with ⟨q1, q2, q3⟩ | ⟨q1, q2, q3⟩ | ⟨q1, q3⟩
      · have q1' : (s.size : Int) ≥ (m : Int) := by omega
        have q2' : ((s.extract 0 m).toList == t.toList) = true := by rw [q2]; exact beq_self_eq_true _
        have q4 : (s.extract 0 m).toList = t.toList := by rw [q2]
        have hmb : ((m : Int) == (m : Int)) = true := beq_self_eq_true _
        subst q3
        clear HBg
        go_wp2_with fail
        (try rw [hsz])
        go_fit (HMT.out _ _ H1.out.1)
        rintro e w2 ⟨rfl, hb⟩
        have H2 := Lib.hid (And.intro (H1.out.1.below hb) (H1.out.2.trans (hb.mono H1.out.2.size)))
        clear hb H1 HMT
        go_wp2_with fail
        go_fit (HTT.out _ _ H2.out.1)
        rintro e w3 ⟨rfl, hb⟩
        have H3 := Lib.hid (HMA.out _ (H2.out.2.trans (hb.mono H2.out.2.size)))
        clear hb H2 HTT HMA
        go_wp2_with fail
        go_fit H3.out
        rintro e w4 ⟨rfl, hb⟩
        have HB := Lib.hid hb
        clear hb
        go_wp2_with fail
        go_ret
        exact ⟨rfl, HB.out⟩
      · have q1' : (s.size : Int) ≥ (m : Int) := by omega
        have q4 : ¬ (s.extract 0 m).toList = t.toList := fun e => q2 (toL_inj e)
        have q2' : ((s.extract 0 m).toList == t.toList) = false := beq_eq_false_iff_ne.2 q4
        subst q3
        clear HBg
        go_wp2_with fail
        (try rw [hsz])
        go_fit (HMT.out _ _ H1.out.1)
        rintro e w2 ⟨rfl, hb⟩
        have H2 := Lib.hid (And.intro (H1.out.1.below hb) (H1.out.2.trans (hb.mono H1.out.2.size)))
        clear hb H1 HMT
        go_wp2_with fail
        go_fit (HTT.out _ _ H2.out.1)
        rintro e w3 ⟨rfl, hb⟩
        have H3 := Lib.hid (HMA.out _ (H2.out.2.trans (hb.mono H2.out.2.size)))
        clear hb H2 HTT HMA
        go_wp2_with fail
        go_fit H3.out
        rintro e w4 ⟨rfl, hb⟩
        have HB := Lib.hid hb
        clear hb
        go_wp2_with fail
        go_ret
        exact ⟨rfl, HB.out⟩
      · have q1' : ¬ (s.size : Int) ≥ (m : Int) := by omega
        subst q3
        clear HBg
        go_wp2_with fail
        (try rw [hsz])
        go_fit (HMT.out _ _ H1.out.1)
        rintro e w2 ⟨rfl, hb⟩
        have H2 := Lib.hid (And.intro (H1.out.1.below hb) (H1.out.2.trans (hb.mono H1.out.2.size)))
        clear hb H1 HMT
        go_wp2_with fail
        go_fit (HTT.out _ _ H2.out.1)
        rintro e w3 ⟨rfl, hb⟩
        have H3 := Lib.hid (HMA.out _ (H2.out.2.trans (hb.mono H2.out.2.size)))
        clear hb H2 HTT HMA
        go_wp2_with fail
        go_fit H3.out
        rintro e w4 ⟨rfl, hb⟩
        have HB := Lib.hid hb
        clear hb
        go_wp2_with fail
        go_ret
        exact ⟨rfl, HB.out⟩
end Go.Proofs.YtkopbngnhgdfhaaDoor
