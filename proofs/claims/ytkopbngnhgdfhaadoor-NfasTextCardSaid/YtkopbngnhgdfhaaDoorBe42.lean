/-
  limnerref10.Parse: what it returns, for every text.
-/
import Derived.Test.YtkopbngnhgdfhaaDoorBe34
namespace Go.Proofs.YtkopbngnhgdfhaaDoor
open Go.RowKit

set_option maxHeartbeats 8000000 in
theorem rparse_any (s : ByteArray) (w : World) :
    Calls Tryd.prog 37 #[.string s] w fun e w' => ∃ x, e = .returned (.tuple #[x, .int .i64 (parseP s).2]) ∧ NodeW (fun k => w.heap.size ≤ k) w' (parseP s).1 x ∧ Below w.heap.size w w' := by
  obtain ⟨P, hP⟩ : ∃ P, parseP s = P := ⟨_, rfl⟩
  rw [hP]
  unfold parseP at hP
  have HB : Hid (∀ o, Below w.heap.size w (w.alloc o)) := fun o => alloc_under w o
  by_cases h200 : 200 < s.size
  · rw [if_pos h200] at hP
    subst hP
    have hi : (200 : Int) < (s.size : Int) := by omega
    clear h200
    go_enter Tryd.func37, Tryd.ntmps37
    go_wp2_with fail
    exact bodyPost_ret (v := .tuple #[.agg #[.int .i64 0, .int .u64 0, .int .u64 0, .int .u64 0, .int .u64 0, .slice none 0 0], .int .i64 3]) (by simp [results, Tryd.results37, go_sem]) rfl ⟨_, rfl, NodeW.leaf 0 noR ok_no, HB.out _⟩
  rw [if_neg h200, parse_eq] at hP
  have hi : (s.size : Int) ≤ 200 := by omega
  have HRW := Lib.hid (fun W => rrows_any s (by omega) 0 (Nat.zero_le _) W)
  rw [rest_zero] at HRW
  have HB1 := Lib.hid (show boxN 90 (w.alloc (.cells #[.int .i64 0, .int .u64 0, .int .u64 0, .int .u64 0, .int .u64 0, .slice none 0 0] 90)) w.heap.size 0 noR (.slice none 0 0) ∧ Below w.heap.size w (w.alloc (.cells #[.int .i64 0, .int .u64 0, .int .u64 0, .int .u64 0, .int .u64 0, .slice none 0 0] 90)) ∧ (w.alloc (.cells #[.int .i64 0, .int .u64 0, .int .u64 0, .int .u64 0, .int .u64 0, .slice none 0 0] 90)).heap.size = w.heap.size + 1 from
    ⟨boxN.new 90 w 0 noR (.slice none 0 0), HB.out _, alloc_size _ _⟩)
  clear HB
  rcases hq : rwR (bytesR s) [] [] with _ | ⟨n, r⟩
  · simp only [hq, ResP] at HRW hP
    subst hP
    have hne : ((-1 : Int) == (s.size : Int)) = false := beq_eq_false_iff_ne.2 (by omega)
    clear hq h200
    go_enter Tryd.func37, Tryd.ntmps37
    go_wp2_with fail
    obtain ⟨W1, hW1⟩ : ∃ W1, w.alloc (.cells #[.int .i64 0, .int .u64 0, .int .u64 0, .int .u64 0, .int .u64 0, .slice none 0 0] 90) = W1 := ⟨_, rfl⟩
    (try rw [hW1])
    rw [hW1] at HB1
    clear hW1
    obtain ⟨B, hB⟩ : ∃ B, w.heap.size = B := ⟨_, rfl⟩
    (try rw [hB])
    rw [hB] at HB1
    have HBS := Lib.hid hB
    clear hB
    go_fit (HRW.out _)
    rintro e w2 ⟨⟨n, x, rfl, hns, u, rfl, hu⟩, hb⟩
    obtain ⟨uo, uc, rfl, _⟩ := hu.form
    have H2 := Lib.hid (show boxN 90 w2 B 0 noR (.slice none 0 0) ∧ Below B w w2 ∧ B < w2.heap.size from ⟨HB1.out.1.below hb, HB1.out.2.1.trans (hb.mono (by have := HB1.out.2.2; omega)), (HB1.out.1.below hb).lt⟩)
    clear hb hu hns
    unfold nodeV
    obtain ⟨⟨b0, b1, b2, b3, b4, b5⟩, g0, g1, g2, g3, g4, g5⟩ := H2.out.1.cells
    have hBlt := H2.out.2.2
    go_wp2_with fail
    have hk6 := keep_set6N w2 B 0 noR (.slice none 0 0)
    have hF := (H2.out.1.set6 0 noR (.slice none 0 0)).below (alloc_under _ (.cells #[.int .i64 n.kind, .int .u64 (n.set.1 : Int), .int .u64 (n.set.2.1 : Int), .int .u64 (n.set.2.2.1 : Int), .int .u64 (n.set.2.2.2 : Int), .slice uo n.kids.length uc] 90))
    have hb6 := (KeepW.below H2.out.2.1 hk6 (Nat.le_of_lt H2.out.2.2) (fun k hk => by omega)).trans ((alloc_under (set6N w2 B 0 noR (.slice none 0 0)) (.cells #[.int .i64 n.kind, .int .u64 (n.set.1 : Int), .int .u64 (n.set.2.1 : Int), .int .u64 (n.set.2.2.1 : Int), .int .u64 (n.set.2.2.2 : Int), .slice uo n.kids.length uc] 90)).mono (by have := hk6.size; have := H2.out.2.2; omega))
    obtain ⟨⟨y0, y1, y2, y3, y4, y5⟩, _⟩ := hF.cells
    unfold set6N set4N at y0 y1 y2 y3 y4 y5 hb6
    exact bodyPost_ret (v := .tuple #[.agg #[.int .i64 0, .int .u64 0, .int .u64 0, .int .u64 0, .int .u64 0, .slice none 0 0], .int .i64 10]) (by simp only [show ((noR.1 : Nat) : Int) = 0 from rfl, show ((noR.2.1 : Nat) : Int) = 0 from rfl, show ((noR.2.2.1 : Nat) : Int) = 0 from rfl, show ((noR.2.2.2 : Nat) : Int) = 0 from rfl] at y0 y1 y2 y3 y4 y5; simp [results, Tryd.results37, go_sem, y0, y1, y2, y3, y4, y5]) rfl ⟨_, rfl, NodeW.leaf 0 noR ok_no, by rw [HBS.out]; exact hb6⟩
  have hlen := rw_len hq
  rw [bytesR_len] at hlen
  simp only [hq, ResP] at HRW hP
  by_cases hr : r = []
  · subst hr
    simp only at hP
    subst hP
    rw [show s.size - ([] : List Nat).length = s.size from Nat.sub_zero _] at HRW
    clear hq h200 hlen
    go_enter Tryd.func37, Tryd.ntmps37
    go_wp2_with fail
    obtain ⟨W1, hW1⟩ : ∃ W1, w.alloc (.cells #[.int .i64 0, .int .u64 0, .int .u64 0, .int .u64 0, .int .u64 0, .slice none 0 0] 90) = W1 := ⟨_, rfl⟩
    (try rw [hW1])
    rw [hW1] at HB1
    clear hW1
    obtain ⟨B, hB⟩ : ∃ B, w.heap.size = B := ⟨_, rfl⟩
    (try rw [hB])
    rw [hB] at HB1
    have HBS := Lib.hid hB
    clear hB
    go_fit (HRW.out _)
    rintro e w2 ⟨⟨x, rfl, hns, u, rfl, hu⟩, hb⟩
    obtain ⟨uo, uc, rfl, _⟩ := hu.form
    have H2 := Lib.hid (show boxN 90 w2 B 0 noR (.slice none 0 0) ∧ Below B w w2 ∧ B < w2.heap.size ∧ KidsW (fun k => B + 1 ≤ k) w2 n.kids (.slice uo n.kids.length uc) ∧ OkR n.set from ⟨HB1.out.1.below hb, HB1.out.2.1.trans (hb.mono (by have := HB1.out.2.2; omega)), (HB1.out.1.below hb).lt, hu.mono fun k _ hk => by have := HB1.out.2.2; omega, hns⟩)
    clear hb hu hns
    unfold nodeV
    obtain ⟨⟨b0, b1, b2, b3, b4, b5⟩, g0, g1, g2, g3, g4, g5⟩ := H2.out.1.cells
    have hBlt := H2.out.2.2.1
    go_wp2_with fail
    have hk6 := keep_set6N w2 B n.kind n.set (.slice uo n.kids.length uc)
    have hF := (H2.out.1.set6 n.kind n.set (.slice uo n.kids.length uc)).below (alloc_under _ (.cells #[.int .i64 n.kind, .int .u64 (n.set.1 : Int), .int .u64 (n.set.2.1 : Int), .int .u64 (n.set.2.2.1 : Int), .int .u64 (n.set.2.2.2 : Int), .slice uo n.kids.length uc] 90))
    have hb6 := (KeepW.below H2.out.2.1 hk6 (Nat.le_of_lt H2.out.2.2.1) (fun k hk => by omega)).trans ((alloc_under (set6N w2 B n.kind n.set (.slice uo n.kids.length uc)) (.cells #[.int .i64 n.kind, .int .u64 (n.set.1 : Int), .int .u64 (n.set.2.1 : Int), .int .u64 (n.set.2.2.1 : Int), .int .u64 (n.set.2.2.2 : Int), .slice uo n.kids.length uc] 90)).mono (by have := hk6.size; have := H2.out.2.2.1; omega))
    have hn6 : NodeW (fun k => B ≤ k) ((set6N w2 B n.kind n.set (.slice uo n.kids.length uc)).alloc (.cells #[.int .i64 n.kind, .int .u64 (n.set.1 : Int), .int .u64 (n.set.2.1 : Int), .int .u64 (n.set.2.2.1 : Int), .int .u64 (n.set.2.2.2 : Int), .slice uo n.kids.length uc] 90)) n (nodeV n (.slice uo n.kids.length uc)) := ⟨H2.out.2.2.2.2, _, rfl, ((H2.out.2.2.2.1.keep hk6 (fun k _ hk => by omega)).mono fun k _ hk => by omega).under (alloc_under _ _)⟩
    obtain ⟨⟨y0, y1, y2, y3, y4, y5⟩, _⟩ := hF.cells
    unfold set6N set4N at y0 y1 y2 y3 y4 y5 hb6 hn6
    exact bodyPost_ret (v := .tuple #[nodeV n (.slice uo n.kids.length uc), .int .i64 0]) (by simp [results, Tryd.results37, go_sem, nodeV, y0, y1, y2, y3, y4, y5]) rfl ⟨_, rfl, by rw [HBS.out]; exact hn6, by rw [HBS.out]; exact hb6⟩
  · have hpos : 0 < r.length := List.length_pos_iff.2 hr
    have hP2 : P = (emptyR, 10) := by
      rw [← hP]
      match r, hr with
      | c :: t, _ => rfl
    clear hP
    subst hP2
    obtain ⟨m, hm⟩ : ∃ m, s.size - r.length = m := ⟨_, rfl⟩
    rw [hm] at HRW
    have hne : ((m : Int) == (s.size : Int)) = false := beq_eq_false_iff_ne.2 (by omega)
    clear hq h200 hlen hr hpos hm
    go_enter Tryd.func37, Tryd.ntmps37
    go_wp2_with fail
    obtain ⟨W1, hW1⟩ : ∃ W1, w.alloc (.cells #[.int .i64 0, .int .u64 0, .int .u64 0, .int .u64 0, .int .u64 0, .slice none 0 0] 90) = W1 := ⟨_, rfl⟩
    (try rw [hW1])
    rw [hW1] at HB1
    clear hW1
    obtain ⟨B, hB⟩ : ∃ B, w.heap.size = B := ⟨_, rfl⟩
    (try rw [hB])
    rw [hB] at HB1
    have HBS := Lib.hid hB
    clear hB
    go_fit (HRW.out _)
    rintro e w2 ⟨⟨x, rfl, hns, u, rfl, hu⟩, hb⟩
    obtain ⟨uo, uc, rfl, _⟩ := hu.form
    have H2 := Lib.hid (show boxN 90 w2 B 0 noR (.slice none 0 0) ∧ Below B w w2 ∧ B < w2.heap.size from ⟨HB1.out.1.below hb, HB1.out.2.1.trans (hb.mono (by have := HB1.out.2.2; omega)), (HB1.out.1.below hb).lt⟩)
    clear hb hu hns
    unfold nodeV
    obtain ⟨⟨b0, b1, b2, b3, b4, b5⟩, g0, g1, g2, g3, g4, g5⟩ := H2.out.1.cells
    have hBlt := H2.out.2.2
    go_wp2_with fail
    have hk6 := keep_set6N w2 B 0 noR (.slice none 0 0)
    have hF := (H2.out.1.set6 0 noR (.slice none 0 0)).below (alloc_under _ (.cells #[.int .i64 n.kind, .int .u64 (n.set.1 : Int), .int .u64 (n.set.2.1 : Int), .int .u64 (n.set.2.2.1 : Int), .int .u64 (n.set.2.2.2 : Int), .slice uo n.kids.length uc] 90))
    have hb6 := (KeepW.below H2.out.2.1 hk6 (Nat.le_of_lt H2.out.2.2) (fun k hk => by omega)).trans ((alloc_under (set6N w2 B 0 noR (.slice none 0 0)) (.cells #[.int .i64 n.kind, .int .u64 (n.set.1 : Int), .int .u64 (n.set.2.1 : Int), .int .u64 (n.set.2.2.1 : Int), .int .u64 (n.set.2.2.2 : Int), .slice uo n.kids.length uc] 90)).mono (by have := hk6.size; have := H2.out.2.2; omega))
    obtain ⟨⟨y0, y1, y2, y3, y4, y5⟩, _⟩ := hF.cells
    unfold set6N set4N at y0 y1 y2 y3 y4 y5 hb6
    exact bodyPost_ret (v := .tuple #[.agg #[.int .i64 0, .int .u64 0, .int .u64 0, .int .u64 0, .int .u64 0, .slice none 0 0], .int .i64 10]) (by simp only [show ((noR.1 : Nat) : Int) = 0 from rfl, show ((noR.2.1 : Nat) : Int) = 0 from rfl, show ((noR.2.2.1 : Nat) : Int) = 0 from rfl, show ((noR.2.2.2 : Nat) : Int) = 0 from rfl] at y0 y1 y2 y3 y4 y5; simp [results, Tryd.results37, go_sem, y0, y1, y2, y3, y4, y5]) rfl ⟨_, rfl, NodeW.leaf 0 noR ok_no, by rw [HBS.out]; exact hb6⟩
end Go.Proofs.YtkopbngnhgdfhaaDoor
