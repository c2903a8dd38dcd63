/-
  limnerlaw07.is: what it returns: do a text's bytes ask for just these.
-/
import Derived.Test.YtbpnnnjbddjboaaDoorPsTold
import Derived.Test.YtbpnnnjbddjboaaDoorPsInts
namespace Go.Proofs.YtbpnnnjbddjboaaDoor
open Go.RowKit

theorem feed_small (p : Ps) (b : Nat) (h : OkP p) : ∀ a ∈ (feedN p b).2, a.2.2.1.length ≤ 16 := by
  have hf : ∀ a ∈ (firstN b).2, a.2.2.1.length ≤ 16 := by
    intro a ha
    unfold firstN at ha
    repeat' split at ha
    all_goals first | (simp at ha; done) | (simp only [List.mem_singleton, badA] at ha; subst ha; exact Nat.zero_le _)
  have hw : ∀ q, ∀ a ∈ (withinN q b).2, a.2.2.1.length ≤ 16 := by
    intro q a ha
    unfold withinN at ha
    repeat' split at ha
    all_goals (simp only [List.mem_singleton, badA] at ha; subst ha; exact Nat.zero_le _)
  cases p with
  | zero => exact hf
  | start s =>
    intro a ha
    have ha : a ∈ (startN s b).2 := ha
    unfold startN at ha
    repeat' split at ha
    · simp only [List.mem_singleton] at ha; subst ha; exact Nat.zero_le _
    · simp at ha
    · rcases List.mem_cons.1 ha with ha | ha
      · subst ha; exact Nat.zero_le _
      · exact hf a ha
  | esc =>
    intro a ha
    have ha : a ∈ (escN b).2 := ha
    unfold escN at ha
    repeat' split at ha
    · exact hw _ a ha
    · simp at ha
    · simp only [List.mem_singleton] at ha; subst ha; exact Nat.zero_le _
    · simp only [List.mem_singleton, badA] at ha; subst ha; exact Nat.zero_le _
  | seq pre x =>
    intro a ha
    have ha : a ∈ (seqN pre x b).2 := ha
    unfold seqN at ha
    repeat' split at ha
    · exact hw _ a ha
    · simp at ha
    · simp only [List.mem_singleton] at ha
      subst ha
      show (paramsN pre x).length ≤ 16
      unfold paramsN nums
      split
      · exact Nat.zero_le _
      · rw [List.length_map, List.length_append]
        have := h.1
        show pre.length + 1 ≤ 16
        omega
    · simp only [List.mem_singleton, badA] at ha; subst ha; exact Nat.zero_le _
  | bad =>
    intro a ha
    have ha : a ∈ (wrongN b).2 := ha
    unfold wrongN at ha
    repeat' split at ha
    · exact hw _ a ha
    · simp at ha
    · simp only [List.mem_singleton, badA] at ha; subst ha; exact Nat.zero_le _
theorem run_small : ∀ (l : List Nat) (p : Ps), OkP p → ∀ a ∈ (runN p l).2, a.2.2.1.length ≤ 16
  | [], _, _, a, ha => by cases ha
  | b :: l, p, h, a, ha => by
    rw [runN_cons] at ha
    rcases List.mem_append.1 ha with ha | ha
    · exact feed_small p b h a ha
    · exact run_small l _ (ok_feed p b h) a ha

/-- What stands at one place, as the walk has it. -/
theorem ActsW.at4 {ok : Nat → Prop} {w : World} {v : Value} {l : List Ac} {i : Nat} {a : Ac} (h : ActsW ok w v l) (hi : l[i]? = some a) :
    ∃ g o cap pv, v = .slice (some ⟨g, o, none⟩) l.length cap ∧ l.length ≤ cap ∧ w.cell? ⟨g, o + i * 4, none⟩ = some (.int .i64 (a.1 : Int)) ∧ w.cell? ⟨g, o + i * 4 + 1, none⟩ = some (.int .i32 (a.2.1 : Int)) ∧
      w.cell? ⟨g, o + i * 4 + 2, none⟩ = some pv ∧ w.cell? ⟨g, o + i * 4 + 3, none⟩ = some (.int .u8 (a.2.2.2 : Int)) ∧ NumsW ok w pv a.2.2.1 := by
  have := h.at_ hi
  rw [Nat.mul_comm 4 i] at this
  exact this
theorem take_ac {l m : List Ac} {k : Nat} {a c : Ac} (h : l.take k = m.take k) (ha : l[k]? = some a) (hc : m[k]? = some c) (he : a = c) : l.take (k + 1) = m.take (k + 1) := by
  rw [List.take_add_one, List.take_add_one, h, ha, hc, he]

set_option maxRecDepth 20000 in
set_option maxHeartbeats 8000000 in
theorem is_any {ok : Nat → Prop} (s : ByteArray) (v : Value) (want : List Ac) (w : World) (hP : LaidP w) (hs : s.size ≤ 100000) (hW : ActsW ok w v want) :
    Calls Tryd.prog 13 #[.string s, v] w fun e w' => e = .returned (.bool (decide ((runN .zero (bytesN s)).2 = want))) ∧ Below w.heap.size w w' := by
  have HT := Lib.hid (told_any s w hP hs)
  have HSM := Lib.hid (run_small (bytesN s) .zero trivial)
  have HLE : Hid ((runN .zero (bytesN s)).2.length ≤ 200000) := by
    have := run_len .zero (bytesN s)
    rw [bytesN_len] at this
    show _ ≤ _
    omega
  obtain ⟨L, hL⟩ : ∃ L, (runN .zero (bytesN s)).2 = L := ⟨_, rfl⟩
  rw [hL] at HT HSM HLE ⊢
  obtain ⟨wo, wc, rfl, hwc⟩ := hW.form
  have HWW := Lib.hid hW
  clear hL hP hW
  obtain ⟨m, hm⟩ : ∃ m, want.length = m := ⟨_, rfl⟩
  rw [hm] at HWW hwc ⊢
  have HM := Lib.hid hm
  clear hm
  go_enter Tryd.func13, Tryd.ntmps13
  go_wp2_with fail
  go_fit HT.out
  rintro e w1 ⟨vt, rfl, hA, hb1⟩
  obtain ⟨lo, lc, rfl, hlc⟩ := hA.form
  have HAA := Lib.hid hA
  have HWB := Lib.hid (HWW.out.below hb1)
  obtain ⟨n, hn⟩ : ∃ n, L.length = n := ⟨_, rfl⟩
  rw [hn] at HAA hlc HLE ⊢
  have HNN := Lib.hid hn
  have hle := HLE.out
  clear hn hA HT HWW HLE
  by_cases hnm : n = m
  · subst hnm
    have i1 : ((n : Int) == (n : Int)) = true := beq_self_eq_true _
    clear i1
    go_wp2_with fail
    go_loopw [6] (fun i wr => ∃ k : Nat, i = .int .i64 (k : Int) ∧ k ≤ n ∧ Hid (L.take k = want.take k) ∧ Below w1.heap.size w1 wr) (fun i _ => n - (intOf i).toNat)
    case atStart => exact ⟨0, rfl, Nat.zero_le _, rfl, Below.refl _ _⟩
    case round =>
      obtain ⟨k, rfl, hk, HTK, hbr⟩ := hrel
      by_cases hlt : k < n
      · obtain ⟨a, ha⟩ : ∃ a, L[k]? = some a := ⟨_, List.getElem?_eq_getElem (by rw [HNN.out]; exact hlt)⟩
        obtain ⟨c, hc⟩ : ∃ c, want[k]? = some c := ⟨_, List.getElem?_eq_getElem (by rw [HM.out]; exact hlt)⟩
        obtain ⟨g, o, _, pv, e1, _, a0, a1, a2, a3, hNa⟩ := HAA.out.at4 ha
        obtain ⟨g', o', _, pv', e2, _, c0, c1, c2, c3, hNc⟩ := HWB.out.at4 hc
        rw [HNN.out] at e1
        rw [HM.out] at e2
        cases e1
        cases e2
        have HK := Lib.hid (fun he => take_ac HTK.out ha hc he)
        have HNE : Hid (a ≠ c → L ≠ want) := fun h e => h (by rw [e, hc] at ha; exact (Option.some.inj ha).symm)
        have hsm := HSM.out a (List.mem_of_getElem? ha)
        have HLK : Hid (∀ V, Below w1.heap.size w1 V → Calls Tryd.prog 11 #[.agg #[.int .i64 (a.1 : Int), .int .i32 (a.2.1 : Int), pv, .int .u8 (a.2.2.2 : Int)], .agg #[.int .i64 (c.1 : Int), .int .i32 (c.2.1 : Int), pv', .int .u8 (c.2.2.2 : Int)]] V fun e w' => e = .returned (.bool (decide (a = c))) ∧ Below w1.heap.size w1 w') := fun V hV => (like_any a c pv pv' V (hNa.keep (keep_below _ hV)) (hNc.keep (keep_below _ hV)) (by omega)).mono fun e u ⟨h1, h2⟩ => ⟨h1, hV.trans (h2.mono hV.size)⟩
        have HC : Hid (∀ V, Below w1.heap.size w1 V → (V.cell? ⟨g, o + k * 4, none⟩ = some (.int .i64 (a.1 : Int)) ∧ V.cell? ⟨g, o + k * 4 + 1, none⟩ = some (.int .i32 (a.2.1 : Int)) ∧ V.cell? ⟨g, o + k * 4 + 2, none⟩ = some pv ∧ V.cell? ⟨g, o + k * 4 + 3, none⟩ = some (.int .u8 (a.2.2.2 : Int))) ∧ (V.cell? ⟨g', o' + k * 4, none⟩ = some (.int .i64 (c.1 : Int)) ∧ V.cell? ⟨g', o' + k * 4 + 1, none⟩ = some (.int .i32 (c.2.1 : Int)) ∧ V.cell? ⟨g', o' + k * 4 + 2, none⟩ = some pv' ∧ V.cell? ⟨g', o' + k * 4 + 3, none⟩ = some (.int .u8 (c.2.2.2 : Int)))) := fun V hV =>
          ⟨⟨by rw [hV.cell (p := ⟨g, o + k * 4, none⟩) (rlt a0)]; exact a0, by rw [hV.cell (p := ⟨g, o + k * 4 + 1, none⟩) (rlt a1)]; exact a1, by rw [hV.cell (p := ⟨g, o + k * 4 + 2, none⟩) (rlt a2)]; exact a2, by rw [hV.cell (p := ⟨g, o + k * 4 + 3, none⟩) (rlt a3)]; exact a3⟩,
            ⟨by rw [hV.cell (p := ⟨g', o' + k * 4, none⟩) (rlt c0)]; exact c0, by rw [hV.cell (p := ⟨g', o' + k * 4 + 1, none⟩) (rlt c1)]; exact c1, by rw [hV.cell (p := ⟨g', o' + k * 4 + 2, none⟩) (rlt c2)]; exact c2, by rw [hV.cell (p := ⟨g', o' + k * 4 + 3, none⟩) (rlt c3)]; exact c3⟩⟩
        obtain ⟨na, va, ca, rfl⟩ : ∃ x y z, pv = .slice x y z := by obtain ⟨x, z, e, _⟩ := hNa.1; exact ⟨x, _, z, e⟩
        obtain ⟨nc, vc, cc, rfl⟩ : ∃ x y z, pv' = .slice x y z := by obtain ⟨x, z, e, _⟩ := hNc.1; exact ⟨x, _, z, e⟩
        obtain ⟨x1, hx1⟩ : ∃ x, a.1 = x := ⟨_, rfl⟩
        obtain ⟨x2, hx2⟩ : ∃ x, a.2.1 = x := ⟨_, rfl⟩
        obtain ⟨x3, hx3⟩ : ∃ x, a.2.2.2 = x := ⟨_, rfl⟩
        obtain ⟨y1, hy1⟩ : ∃ x, c.1 = x := ⟨_, rfl⟩
        obtain ⟨y2, hy2⟩ : ∃ x, c.2.1 = x := ⟨_, rfl⟩
        obtain ⟨y3, hy3⟩ : ∃ x, c.2.2.2 = x := ⟨_, rfl⟩
        rw [hx1, hx2, hx3, hy1, hy2, hy3] at HC HLK
        have hki : (k : Int) < (n : Int) := by omega
        have hk0 : (0 : Int) ≤ (k : Int) := by omega
        have kk := hbr
        have k0 : Below w1.heap.size w1 wr.drew := hbr.drew
        obtain ⟨⟨p0, p1, p2, p3⟩, q0, q1, q2, q3⟩ := HC.out wr kk
        clear hx1 hx2 hx3 hy1 hy2 hy3 ha hc a0 a1 a2 a3 c0 c1 c2 c3 hNa hNc HTK hsm
        cases hac : decide (a = c) with
        | true =>
          have HT2 := Lib.hid (HK.out (of_decide_eq_true hac))
          rw [hac] at HLK
          clear HK HNE hac
          go_wp2_with fail
          go_region_held3 (fun V => (V.cell? ⟨g, o + k * 4, none⟩ = some (.int .i64 (x1 : Int)) ∧ V.cell? ⟨g, o + k * 4 + 1, none⟩ = some (.int .i32 (x2 : Int)) ∧ V.cell? ⟨g, o + k * 4 + 2, none⟩ = some (.slice na va ca) ∧ V.cell? ⟨g, o + k * 4 + 3, none⟩ = some (.int .u8 (x3 : Int))) ∧ (V.cell? ⟨g', o' + k * 4, none⟩ = some (.int .i64 (y1 : Int)) ∧ V.cell? ⟨g', o' + k * 4 + 1, none⟩ = some (.int .i32 (y2 : Int)) ∧ V.cell? ⟨g', o' + k * 4 + 2, none⟩ = some (.slice nc vc cc) ∧ V.cell? ⟨g', o' + k * 4 + 3, none⟩ = some (.int .u8 (y3 : Int))))
            (first | with_reducible exact HC.out _ kk | with_reducible exact HC.out _ k0)
            (first
              | (go_at_call 11; go_fit (HLK.out _ ?_); (first | with_reducible exact kk | with_reducible exact k0); rintro e vv ⟨rfl, kk⟩))
          all_goals
            clear HC HLK p0 p1 p2 p3 q0 q1 q2 q3
            go_wp2_with fail
            go_roundw
            case rel => exact ⟨k + 1, by go_num, by omega, HT2, kk⟩
            case measure => simp [intOf]; omega
        | false =>
          have HF : Hid (decide (L = want) = false) := decide_eq_false (HNE.out (of_decide_eq_false hac))
          rw [hac] at HLK
          clear HK HNE hac
          go_wp2_with fail
          go_region_held3 (fun V => (V.cell? ⟨g, o + k * 4, none⟩ = some (.int .i64 (x1 : Int)) ∧ V.cell? ⟨g, o + k * 4 + 1, none⟩ = some (.int .i32 (x2 : Int)) ∧ V.cell? ⟨g, o + k * 4 + 2, none⟩ = some (.slice na va ca) ∧ V.cell? ⟨g, o + k * 4 + 3, none⟩ = some (.int .u8 (x3 : Int))) ∧ (V.cell? ⟨g', o' + k * 4, none⟩ = some (.int .i64 (y1 : Int)) ∧ V.cell? ⟨g', o' + k * 4 + 1, none⟩ = some (.int .i32 (y2 : Int)) ∧ V.cell? ⟨g', o' + k * 4 + 2, none⟩ = some (.slice nc vc cc) ∧ V.cell? ⟨g', o' + k * 4 + 3, none⟩ = some (.int .u8 (y3 : Int))))
            (first | with_reducible exact HC.out _ kk | with_reducible exact HC.out _ k0)
            (first
              | (go_at_call 11; go_fit (HLK.out _ ?_); (first | with_reducible exact kk | with_reducible exact k0); rintro e vv ⟨rfl, kk⟩))
          all_goals
            clear HC HLK p0 p1 p2 p3 q0 q1 q2 q3
            go_wp2_with fail
            go_ret
            exact ⟨by rw [HF.out]; rfl, hb1.trans (kk.mono hb1.size)⟩
      · obtain rfl : k = n := by omega
        have HF : Hid (decide (L = want) = true) := by
          have := HTK.out
          rw [List.take_of_length_le (by rw [HNN.out]; exact Nat.le_refl _), List.take_of_length_le (by rw [HM.out]; exact Nat.le_refl _)] at this
          exact decide_eq_true this
        clear HTK
        go_wp2_with fail
        go_ret
        exact ⟨by rw [HF.out]; rfl, hb1.trans (hbr.mono hb1.size)⟩
  · have i1 : ((n : Int) != (m : Int)) = true := by rw [bne_iff_ne]; omega
    have i2 : ((n : Int) == (m : Int)) = false := beq_false_of_ne (by omega)
    have HF : Hid (decide (L = want) = false) := decide_eq_false (fun e => hnm (by rw [← HNN.out, ← HM.out, e]))
    go_wp2_with fail
    go_ret
    exact ⟨by rw [HF.out]; rfl, hb1⟩
end Go.Proofs.YtbpnnnjbddjboaaDoor
