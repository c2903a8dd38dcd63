/-
  regs.whole: what it returns, or how it ends.
-/
import Derived.Test.YtkopbngnhgdfhaaDoorBe37
namespace Go.Proofs.YtkopbngnhgdfhaaDoor
open Go.RowKit

/-- The tree of a text, or it is given up. -/
def WhP (o : Option Nd) (w w' : World) (e : Ending) : Prop :=
  Below w.heap.size w w' ∧ match o with
  | some n => ∃ x, e = .returned x ∧ NodeF (fun k => w.heap.size ≤ k) w' n x
  | none => e = failE
theorem keep_new {n R : Nat} {a b : World} (h : KeepW (fun k => k ≠ R) a b) (hn : n ≤ a.heap.size) (hR : n ≤ R) : Below n a b := ⟨h.os, h.tape, h.output, h.size, fun k hk => h.same k (by omega) (by omega)⟩
set_option maxHeartbeats 8000000 in
theorem pwhole_any (s : ByteArray) (w : World) (hs : s.size ≤ 1000) (he : ErrW w) :
    Calls Tryd.prog 25 #[.string s] w fun e w' => WhP (parseR (bytesR s)) w w' e := by
  have hb1 := alloc_under w (.cells #[.int .i64 0, .int .u64 0, .int .u64 0, .int .u64 0, .int .u64 0, .slice none 0 0] 26)
  have hc1 := boxN.new 26 w 0 noR (.slice none 0 0)
  have hz1 := alloc_size w (.cells #[.int .i64 0, .int .u64 0, .int .u64 0, .int .u64 0, .int .u64 0, .slice none 0 0] 26)
  obtain ⟨W0, hW0⟩ : ∃ W0, w.alloc (.cells #[.int .i64 0, .int .u64 0, .int .u64 0, .int .u64 0, .int .u64 0, .slice none 0 0] 26) = W0 := ⟨_, rfl⟩
  have hc1' : boxN 26 W0 w.heap.size 0 noR (.slice none 0 0) := by rw [← hW0]; exact hc1
  rw [hW0] at hb1 hz1
  have hb2 := alloc_under W0 (.cells #[.string s, .int .i64 0] 103)
  have hr2 : RdW (W0.alloc (.cells #[.string s, .int .i64 0] 103)) W0.heap.size s 0 := heap_alloc_new _ _
  obtain ⟨ev, hev, _⟩ := id he
  have hg := rlt hev
  have HB1 := Lib.hid (show RxW (W0.alloc (.cells #[.string s, .int .i64 0] 103)) (w.heap.size + 1) s 0 ∧ boxN 26 (W0.alloc (.cells #[.string s, .int .i64 0] 103)) w.heap.size 0 noR (.slice none 0 0) ∧ Below w.heap.size w (W0.alloc (.cells #[.string s, .int .i64 0] 103)) ∧ (W0.alloc (.cells #[.string s, .int .i64 0] 103)).heap.size = w.heap.size + 2 from
    ⟨⟨by rw [← hz1]; exact hr2, (he.below hb1).below hb2, by intro e; rw [← e] at hg; simp only at hg; omega⟩, hc1'.below hb2, hb1.trans (hb2.mono (by omega)), by rw [alloc_size]; omega⟩)
  rw [← hW0] at HB1
  clear hb1 hc1 hz1 hc1' hb2 hr2 hW0 hg hev
  have HRU := Lib.hid (fun R => prule_any s R hs)
  unfold pRuleC at HRU
  obtain ⟨O, hO⟩ : ∃ O, parseR (bytesR s) = O := ⟨_, rfl⟩
  have hpe := parse_eq (bytesR s)
  rw [hO] at hpe ⊢
  rw [rest_zero s] at HRU
  clear hO he
  rcases hq : rwR (bytesR s) [] [] with _ | ⟨n, r⟩
  · simp only [hq] at HRU hpe
    have HE := Lib.hid hpe
    clear hq hpe
    go_enter Tryd.func25, Tryd.ntmps25
    go_wp2_with fail
    obtain ⟨W1, hW1⟩ : ∃ W1, (w.alloc (.cells #[.int .i64 0, .int .u64 0, .int .u64 0, .int .u64 0, .int .u64 0, .slice none 0 0] 26)).alloc (.cells #[.string s, .int .i64 0] 103) = W1 := ⟨_, rfl⟩
    (try rw [hW1])
    rw [hW1] at HB1
    clear hW1
    obtain ⟨B, hB⟩ : ∃ B, w.heap.size = B := ⟨_, rfl⟩
    (try rw [hB])
    rw [hB] at HB1
    have HBS := Lib.hid hB
    clear hB
    go_fit (HRU.out _ _ HB1.out.1)
    rintro e w2 ⟨hk, rfl⟩
    exact ⟨rfl, by rw [HE.out]; exact ⟨by rw [HBS.out]; exact HB1.out.2.2.1.trans (keep_new hk (by have := HB1.out.2.2.2; omega) (by omega)), rfl⟩⟩
  have hlen := rw_len hq
  rw [bytesR_len] at hlen
  obtain ⟨j, rfl, hj⟩ : ∃ j, r = restR s j ∧ j ≤ s.size := ⟨s.size - r.length, rest_of s 0 (by rw [rest_zero]; exact rw_drop hq), by omega⟩
  have HSZ := Lib.hid (rest_size s j hj)
  simp only [hq] at HRU hpe
  by_cases hend : j = s.size
  · have HE : Hid (O = some n) := by rw [hpe, hend, rest_nil s _ (Nat.le_refl _)]; exact rfl
    have HYES := Lib.hid (fun W => pneed_yes W)
    have HEN := Lib.hid (fun W R (hr : RdW W R s j) => pended_w hr true (decide_eq_true hend))
    clear hq hpe hlen hend
    go_enter Tryd.func25, Tryd.ntmps25
    go_wp2_with fail
    obtain ⟨W1, hW1⟩ : ∃ W1, (w.alloc (.cells #[.int .i64 0, .int .u64 0, .int .u64 0, .int .u64 0, .int .u64 0, .slice none 0 0] 26)).alloc (.cells #[.string s, .int .i64 0] 103) = W1 := ⟨_, rfl⟩
    (try rw [hW1])
    rw [hW1] at HB1
    clear hW1
    obtain ⟨B, hB⟩ : ∃ B, w.heap.size = B := ⟨_, rfl⟩
    (try rw [hB])
    rw [hB] at HB1
    have HBS := Lib.hid hB
    clear hB
    go_fit (HRU.out _ _ HB1.out.1)
    rintro e w2 ⟨hk, x, rfl, ⟨hns, u, rfl, hu⟩, hr⟩
    rw [HSZ.out] at hr
    obtain ⟨uo, uc, rfl, _⟩ := hu.form
    have hsz := HB1.out.2.2.2
    have H2 := Lib.hid (show RdW w2 (B + 1) s j ∧ boxN 26 w2 B 0 noR (.slice none 0 0) ∧ Below B w w2 ∧ B + 2 ≤ w2.heap.size ∧ KidsF (fun k => B + 2 ≤ k) w2 n.kids (.slice uo n.kids.length uc) ∧ OkR n.set from
      ⟨hr, HB1.out.2.1.keep hk (by omega), HB1.out.2.2.1.trans (keep_new hk (by omega) (by omega)), by have := hk.size; omega, hu.mono fun k _ hk => by omega, hns⟩)
    clear hk hr hu hns HB1
    unfold nodeV
    have hb3 := alloc_under w2 (.cells #[.int .i64 n.kind, .int .u64 (n.set.1 : Int), .int .u64 (n.set.2.1 : Int), .int .u64 (n.set.2.2.1 : Int), .int .u64 (n.set.2.2.2 : Int), .slice uo n.kids.length uc] 26)
    have hc3 := boxN.new 26 w2 n.kind n.set (.slice uo n.kids.length uc)
    have H3 := Lib.hid (And.intro hb3 hc3)
    clear hb3 hc3
    go_wp2_with fail
    obtain ⟨W3, hW3⟩ : ∃ W3, w2.alloc (.cells #[.int .i64 n.kind, .int .u64 (n.set.1 : Int), .int .u64 (n.set.2.1 : Int), .int .u64 (n.set.2.2.1 : Int), .int .u64 (n.set.2.2.2 : Int), .slice uo n.kids.length uc] 26) = W3 := ⟨_, rfl⟩
    (try rw [hW3])
    rw [hW3] at H3
    clear hW3
    obtain ⟨C, hC⟩ : ∃ C, w2.heap.size = C := ⟨_, rfl⟩
    (try rw [hC])
    rw [hC] at H3 H2
    have HCS := Lib.hid hC
    clear hC
    go_fit (HEN.out _ _ (H2.out.1.below (HCS.out.symm ▸ H3.out.1)))
    rintro e w4 ⟨rfl, hb⟩
    have hb24 : Below w2.heap.size w2 w4 := (HCS.out.symm ▸ H3.out.1 : Below w2.heap.size w2 W3).trans (hb.mono (HCS.out.symm ▸ H3.out.1 : Below w2.heap.size w2 W3).size)
    have H4 := Lib.hid (show boxN 26 w4 B 0 noR (.slice none 0 0) ∧ boxN 26 w4 C n.kind n.set (.slice uo n.kids.length uc) ∧ Below B w w4 ∧ B + 2 ≤ w4.heap.size ∧ KidsF (fun k => B + 2 ≤ k) w4 n.kids (.slice uo n.kids.length uc) from
      ⟨H2.out.2.1.below hb24, H3.out.2.below hb, H2.out.2.2.1.trans (hb24.mono (by have := H2.out.2.2.2.1; have := HCS.out; omega)), by have := H2.out.2.2.2.1; have := HCS.out; have := hb24.size; omega, H2.out.2.2.2.2.1.under hb24⟩)
    clear hb hb24
    obtain ⟨⟨c0, c1, c2, c3, c4, c5⟩, _⟩ := H4.out.2.1.cells
    obtain ⟨⟨b0, b1, b2, b3, b4, b5⟩, g0, g1, g2, g3, g4, g5⟩ := H4.out.1.cells
    have hBlt := H4.out.1.lt
    go_wp2_with fail
    go_fit (HYES.out _)
    rintro e w5 ⟨rfl, rfl⟩
    have hk6 := keep_set6N w5 B n.kind n.set (.slice uo n.kids.length uc)
    have hF := H4.out.1.set6 n.kind n.set (.slice uo n.kids.length uc)
    have HKP := Lib.hid (show Below B w (set6N w5 B n.kind n.set (.slice uo n.kids.length uc)) ∧ NodeF (fun k => B ≤ k) (set6N w5 B n.kind n.set (.slice uo n.kids.length uc)) n (nodeV n (.slice uo n.kids.length uc)) from
      ⟨KeepW.below H4.out.2.2.1 hk6 (by omega) (fun k hk => by omega), H2.out.2.2.2.2.2, _, rfl, (H4.out.2.2.2.2.keep hk6 (fun k _ hk => by omega)).mono fun k _ hk => by omega⟩)
    obtain ⟨⟨y0, y1, y2, y3, y4, y5⟩, _⟩ := hF.cells
    unfold set6N set4N at y0 y1 y2 y3 y4 y5 HKP
    have Y0 := Lib.hid y0
    have Y1 := Lib.hid y1
    have Y2 := Lib.hid y2
    have Y3 := Lib.hid y3
    have Y4 := Lib.hid y4
    have Y5 := Lib.hid y5
    clear hF hk6 y0 y1 y2 y3 y4 y5
    go_wp2_with fail
    have y0 := Y0.out
    have y1 := Y1.out
    have y2 := Y2.out
    have y3 := Y3.out
    have y4 := Y4.out
    have y5 := Y5.out
    exact bodyPost_ret (v := nodeV n (.slice uo n.kids.length uc)) (by simp [results, Tryd.results25, go_sem, nodeV, y0, y1, y2, y3, y4, y5]) rfl (by rw [HE.out]; exact ⟨by rw [HBS.out]; exact HKP.out.1, _, rfl, by rw [HBS.out]; exact HKP.out.2⟩)
  · have HE : Hid (O = none) := by rw [hpe, rest_cons s j (by omega)]; exact rfl
    have HNO := Lib.hid (fun W => pneed_no W)
    have HEN := Lib.hid (fun W R (hr : RdW W R s j) => pended_w hr false (decide_eq_false hend))
    clear hq hpe hlen hend
    go_enter Tryd.func25, Tryd.ntmps25
    go_wp2_with fail
    obtain ⟨W1, hW1⟩ : ∃ W1, (w.alloc (.cells #[.int .i64 0, .int .u64 0, .int .u64 0, .int .u64 0, .int .u64 0, .slice none 0 0] 26)).alloc (.cells #[.string s, .int .i64 0] 103) = W1 := ⟨_, rfl⟩
    (try rw [hW1])
    rw [hW1] at HB1
    clear hW1
    obtain ⟨B, hB⟩ : ∃ B, w.heap.size = B := ⟨_, rfl⟩
    (try rw [hB])
    rw [hB] at HB1
    have HBS := Lib.hid hB
    clear hB
    go_fit (HRU.out _ _ HB1.out.1)
    rintro e w2 ⟨hk, x, rfl, ⟨hns, u, rfl, hu⟩, hr⟩
    rw [HSZ.out] at hr
    obtain ⟨uo, uc, rfl, _⟩ := hu.form
    have hsz := HB1.out.2.2.2
    have H2 := Lib.hid (show RdW w2 (B + 1) s j ∧ Below B w w2 ∧ B + 2 ≤ w2.heap.size from
      ⟨hr, HB1.out.2.2.1.trans (keep_new hk (by omega) (by omega)), by have := hk.size; omega⟩)
    clear hk hr hu hns HB1
    unfold nodeV
    have H3 := Lib.hid (alloc_under w2 (.cells #[.int .i64 n.kind, .int .u64 (n.set.1 : Int), .int .u64 (n.set.2.1 : Int), .int .u64 (n.set.2.2.1 : Int), .int .u64 (n.set.2.2.2 : Int), .slice uo n.kids.length uc] 26))
    go_wp2_with fail
    obtain ⟨W3, hW3⟩ : ∃ W3, w2.alloc (.cells #[.int .i64 n.kind, .int .u64 (n.set.1 : Int), .int .u64 (n.set.2.1 : Int), .int .u64 (n.set.2.2.1 : Int), .int .u64 (n.set.2.2.2 : Int), .slice uo n.kids.length uc] 26) = W3 := ⟨_, rfl⟩
    (try rw [hW3])
    rw [hW3] at H3
    clear hW3
    go_fit (HEN.out _ _ (H2.out.1.below H3.out))
    rintro e w4 ⟨rfl, hb⟩
    have H4 := Lib.hid (show Below B w w4 from (H2.out.2.1.trans (H3.out.mono (by have := H2.out.2.2; omega))).trans (hb.mono (by have := H2.out.2.2; have := H3.out.size; omega)))
    clear hb
    go_wp2_with fail
    go_fit (HNO.out _)
    rintro e w5 ⟨rfl, rfl⟩
    exact ⟨rfl, by rw [HE.out]; exact ⟨by rw [HBS.out]; exact H4.out, rfl⟩⟩
end Go.Proofs.YtkopbngnhgdfhaaDoor
