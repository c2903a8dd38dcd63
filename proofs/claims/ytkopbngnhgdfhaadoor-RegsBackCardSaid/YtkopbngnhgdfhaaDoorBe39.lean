/-
  regs.Parse: its deferred function, which takes what a text was given up by; what Parse returns, for every text.
-/
import Derived.Defers
import Derived.Recover
import Derived.Test.YtkopbngnhgdfhaaDoorBe38
namespace Go.Proofs.YtkopbngnhgdfhaaDoor
open Go.RowKit

theorem as_fault (w : World) : (Instr.typeAssert (.iface 60 (.int .i64 10)) 20 60 false).run Tryd.prog w = .ok (.int .i64 10) w := by kernel_rfl
set_option maxRecDepth 8000 in
set_option maxHeartbeats 2000000 in
theorem pcatch_panicking (p : Addr) (x : Int) (older : List PanicEntry) (w : World) (hc : w.cell? p = some (.int .i64 x)) (hz : w.frozen? p = false) :
    CallsD Tryd.prog 24 #[.pointer (some p)] (.panicking ({ v := .iface 60 (.int .i64 10), recovered := false } :: older)) w fun e u' w' =>
      e = .returned (.tuple #[]) ∧ u' = .panicking ({ v := .iface 60 (.int .i64 10), recovered := true } :: older) ∧ w' = w.setCell p (.int .i64 10) := by
  refine callsD_of_wpS Tryd.func24 rfl fun c₀ cs hu => ?_
  apply wpS_seq
  apply wpS_region
  simp [wpOpsS, go_sem, recoverD, hu, Tryd.ntmps24, Exit.thenS]
  apply wpS_seq
  apply wpS_region
  simp [wpOpsS, go_sem, Exit.thenS, Array.replicate]
  refine wpS_cond (t := true) (by simp [Act.eval]) ?_
  simp only [if_true]
  apply wpS_region
  simp [wpOpsS, go_sem, as_fault, hc, hz, bodyPostS, results, Tryd.results24]
set_option maxRecDepth 8000 in
theorem pcatch_idle (p : Addr) (w : World) :
    CallsD Tryd.prog 24 #[.pointer (some p)] .returning w fun e u' w' => e = .returned (.tuple #[]) ∧ u' = .returning ∧ w' = w := by
  refine callsD_of_wpS Tryd.func24 rfl fun c₀ cs hu => ?_
  apply wpS_seq
  apply wpS_region
  simp [wpOpsS, go_sem, recoverD, hu, Tryd.ntmps24, Exit.thenS]
  apply wpS_seq
  apply wpS_region
  simp [wpOpsS, go_sem, Exit.thenS, Array.replicate]
  refine wpS_cond (t := false) (by simp [Act.eval]) ?_
  simp only [Bool.false_eq_true, if_false]
  refine wpS_of_wp (wp_skip ?_)
  cases c₀
  simp_all [bodyPostS, results, Tryd.results24]
/-- A box of an error's number. -/
def boxE (w : World) (B : Nat) (x : Int) : Prop := w.heap[B]? = some (.cells #[.int .i64 x] 27 (0, 0))
section
variable {w w' : World} {B : Nat} {x : Int}
theorem boxE.lt (h : boxE w B x) : B < w.heap.size := (Array.getElem?_eq_some_iff.1 h).1
theorem boxE.cells (h : boxE w B x) : w.cell? ⟨B, 0, none⟩ = some (.int .i64 x) ∧ w.frozen? ⟨B, 0, none⟩ = false := by
  unfold boxE at h
  exact ⟨by unfold World.cell?; rw [h]; rfl, by unfold World.frozen?; rw [h]; simp⟩
theorem boxE.below (h : boxE w B x) (hb : Below w.heap.size w w') : boxE w' B x := (hb.block B h.lt).trans h
theorem boxE.keep {ok : Nat → Prop} (h : boxE w B x) (hk : KeepW ok w w') (ho : ok B) : boxE w' B x := (hk.same B h.lt ho).trans h
theorem boxE.set (h : boxE w B x) (y : Int) : boxE (w.setCell ⟨B, 0, none⟩ (.int .i64 y)) B y := by
  unfold boxE at h ⊢
  unfold World.setCell
  simp only [Array.getElem?_modify, if_true, h, Option.map_some]
  rfl
end
/-- What Parse comes to: a node and a number. -/
def parseP (s : ByteArray) : Nd × Int := if 200 < s.size then (emptyR, 3) else match parseR (bytesR s) with
  | some n => (n, 0)
  | none => (emptyR, 10)
set_option maxHeartbeats 8000000 in
theorem pparse_any (s : ByteArray) (w : World) (he : ErrW w) :
    Calls Tryd.prog 9 #[.string s] w fun e w' => ∃ x, e = .returned (.tuple #[x, .int .i64 (parseP s).2]) ∧ NodeF (fun k => w.heap.size ≤ k) w' (parseP s).1 x ∧ Below w.heap.size w w' := by
  have hmf : ∀ (fn : Fn) (first cap : Array Value) (w : World), (Instr.makeFunc fn first cap).run Tryd.prog w = .ok (.func fn first cap) w := fun _ _ _ _ => rfl
  obtain ⟨P, hP⟩ : ∃ P, parseP s = P := ⟨_, rfl⟩
  rw [hP]
  unfold parseP at hP
  by_cases h200 : 200 < s.size
  · rw [if_pos h200] at hP
    subst hP
    have hi : (200 : Int) < (s.size : Int) := by omega
    have HB : Hid (∀ o p, Below w.heap.size w ((w.alloc o).alloc p)) := fun o p => ((Below.refl _ w).alloc (Nat.le_refl _) o).alloc (by rw [alloc_size]; omega) p
    clear h200 he
    go_enter_defers Tryd.func9, Tryd.ntmps9
    go_wp2_with fail
    exact ⟨.tuple #[.agg #[.int .i64 0, .int .u64 0, .int .u64 0, .int .u64 0, .int .u64 0, .slice none 0 0], .int .i64 3], by simp [results, Tryd.results9, go_sem], _, rfl, NodeF.leaf 0 noR ok_no, HB.out _ _⟩
  rw [if_neg h200] at hP
  have hi : (s.size : Int) ≤ 200 := by omega
  have HWH := Lib.hid (fun W (h : ErrW W) => pwhole_any s W (by omega) h)
  have hb1 := alloc_under w (.cells #[.int .i64 0, .int .u64 0, .int .u64 0, .int .u64 0, .int .u64 0, .slice none 0 0] 26)
  have hc1 := boxN.new 26 w 0 noR (.slice none 0 0)
  have hz1 := alloc_size w (.cells #[.int .i64 0, .int .u64 0, .int .u64 0, .int .u64 0, .int .u64 0, .slice none 0 0] 26)
  obtain ⟨W0, hW0⟩ : ∃ W0, w.alloc (.cells #[.int .i64 0, .int .u64 0, .int .u64 0, .int .u64 0, .int .u64 0, .slice none 0 0] 26) = W0 := ⟨_, rfl⟩
  have hc1' : boxN 26 W0 w.heap.size 0 noR (.slice none 0 0) := by rw [← hW0]; exact hc1
  rw [hW0] at hb1 hz1
  have hb2 := alloc_under W0 (.cells #[.int .i64 0] 27)
  have hr2 : boxE (W0.alloc (.cells #[.int .i64 0] 27)) W0.heap.size 0 := heap_alloc_new _ _
  have HB1 := Lib.hid (show boxN 26 (W0.alloc (.cells #[.int .i64 0] 27)) w.heap.size 0 noR (.slice none 0 0) ∧ boxE (W0.alloc (.cells #[.int .i64 0] 27)) (w.heap.size + 1) 0 ∧ Below w.heap.size w (W0.alloc (.cells #[.int .i64 0] 27)) ∧ ErrW (W0.alloc (.cells #[.int .i64 0] 27)) ∧ (W0.alloc (.cells #[.int .i64 0] 27)).heap.size = w.heap.size + 2 from
    ⟨hc1'.below hb2, by rw [← hz1]; exact hr2, hb1.trans (hb2.mono (by omega)), (he.below hb1).below hb2, by rw [alloc_size]; omega⟩)
  rw [← hW0] at HB1
  clear hb1 hc1 hz1 hc1' hb2 hr2 hW0 he h200
  unfold WhP at HWH
  rcases hq : parseR (bytesR s) with _ | n
  · simp only [hq] at HWH hP
    subst hP
    clear hq
    go_enter_defers Tryd.func9, Tryd.ntmps9
    go_wp2_with fail
    obtain ⟨W1, hW1⟩ : ∃ W1, (w.alloc (.cells #[.int .i64 0, .int .u64 0, .int .u64 0, .int .u64 0, .int .u64 0, .slice none 0 0] 26)).alloc (.cells #[.int .i64 0] 27) = W1 := ⟨_, rfl⟩
    (try rw [hW1])
    rw [hW1] at HB1
    clear hW1
    obtain ⟨B, hB⟩ : ∃ B, w.heap.size = B := ⟨_, rfl⟩
    (try rw [hB])
    rw [hB] at HB1
    have HBS := Lib.hid hB
    clear hB
    go_fit (HWH.out _ HB1.out.2.2.2.1)
    rintro e w2 ⟨hb, rfl⟩
    have H2 := Lib.hid (show boxN 26 w2 B 0 noR (.slice none 0 0) ∧ boxE w2 (B + 1) 0 ∧ Below B w w2 ∧ B + 2 ≤ w2.heap.size from
      ⟨HB1.out.1.below hb, HB1.out.2.1.below hb, HB1.out.2.2.1.trans (hb.mono (by have := HB1.out.2.2.2.2; omega)), by have := HB1.out.2.2.2.2; have := hb.size; omega⟩)
    clear hb
    refine leaves_cons (f := 24) (args := #[.pointer (some ⟨B + 1, 0, none⟩)]) (by simp) (by simp [go_sem]) ?_
    refine (pcatch_panicking ⟨B + 1, 0, none⟩ 0 [] w2 H2.out.2.1.cells.1 H2.out.2.1.cells.2).mono ?_
    rintro e u' w'' ⟨rfl, rfl, rfl⟩
    have hk := keep_set (ok := fun k => k ≠ B + 1) (B + 1) 0 none (.int .i64 10) w2 (by simp)
    have hN := H2.out.1.keep hk (by omega)
    have hE := H2.out.2.1.set 10
    obtain ⟨⟨y0, y1, y2, y3, y4, y5⟩, _⟩ := hN.cells
    have z0 := hE.cells.1
    have h22 := H2.out.2.2.2
    have hF := KeepW.below H2.out.2.2.1 hk (by omega) (fun k hk => by omega)
    refine ⟨.tuple #[.agg #[.int .i64 0, .int .u64 0, .int .u64 0, .int .u64 0, .int .u64 0, .slice none 0 0], .int .i64 10], ?_, _, rfl, NodeF.leaf 0 noR ok_no, by rw [HBS.out]; exact hF⟩
    simp [results, Tryd.results9, go_sem, y0, y1, y2, y3, y4, y5, z0, noR]
  · simp only [hq] at HWH hP
    subst hP
    clear hq
    go_enter_defers Tryd.func9, Tryd.ntmps9
    go_wp2_with fail
    obtain ⟨W1, hW1⟩ : ∃ W1, (w.alloc (.cells #[.int .i64 0, .int .u64 0, .int .u64 0, .int .u64 0, .int .u64 0, .slice none 0 0] 26)).alloc (.cells #[.int .i64 0] 27) = W1 := ⟨_, rfl⟩
    (try rw [hW1])
    rw [hW1] at HB1
    clear hW1
    obtain ⟨B, hB⟩ : ∃ B, w.heap.size = B := ⟨_, rfl⟩
    (try rw [hB])
    rw [hB] at HB1
    have HBS := Lib.hid hB
    clear hB
    go_fit (HWH.out _ HB1.out.2.2.2.1)
    rintro e w2 ⟨hb, x, rfl, hns, u, rfl, hu⟩
    obtain ⟨uo, uc, rfl, _⟩ := hu.form
    have H2 := Lib.hid (show boxN 26 w2 B 0 noR (.slice none 0 0) ∧ boxE w2 (B + 1) 0 ∧ Below B w w2 ∧ B + 2 ≤ w2.heap.size ∧ KidsF (fun k => B + 2 ≤ k) w2 n.kids (.slice uo n.kids.length uc) from
      ⟨HB1.out.1.below hb, HB1.out.2.1.below hb, HB1.out.2.2.1.trans (hb.mono (by have := HB1.out.2.2.2.2; omega)), by have := HB1.out.2.2.2.2; have := hb.size; omega, hu.mono fun k _ hk => by have := HB1.out.2.2.2.2; omega⟩)
    have HNS := Lib.hid hns
    clear hb hu hns HB1
    unfold nodeV
    obtain ⟨⟨b0, b1, b2, b3, b4, b5⟩, g0, g1, g2, g3, g4, g5⟩ := H2.out.1.cells
    obtain ⟨e0, f0⟩ := H2.out.2.1.cells
    have hBlt := H2.out.1.lt
    have hElt := H2.out.2.1.lt
    have hk6 := keep_set6N w2 B n.kind n.set (.slice uo n.kids.length uc)
    have hk7 := keep_set (ok := fun k => k ≠ B + 1) (B + 1) 0 none (.int .i64 0) (set6N w2 B n.kind n.set (.slice uo n.kids.length uc)) (by simp)
    have hN := (H2.out.1.set6 n.kind n.set (.slice uo n.kids.length uc)).keep hk7 (by omega)
    have hE := (H2.out.2.1.keep hk6 (by omega)).set 0
    have HF := Lib.hid (show Below B w ((set6N w2 B n.kind n.set (.slice uo n.kids.length uc)).setCell ⟨B + 1, 0, none⟩ (.int .i64 0)) ∧ NodeF (fun k => B ≤ k) ((set6N w2 B n.kind n.set (.slice uo n.kids.length uc)).setCell ⟨B + 1, 0, none⟩ (.int .i64 0)) n (nodeV n (.slice uo n.kids.length uc)) from
      ⟨KeepW.below (KeepW.below H2.out.2.2.1 hk6 (by omega) (fun k hk => by omega)) hk7 (by have := hk6.size; omega) (fun k hk => by omega), HNS.out, _, rfl, ((H2.out.2.2.2.2.keep hk6 (fun k _ hk => by omega)).keep hk7 (fun k _ hk => by omega)).mono fun k _ hk => by omega⟩)
    obtain ⟨⟨y0, y1, y2, y3, y4, y5⟩, _⟩ := hN.cells
    have z0 := hE.cells.1
    unfold set6N set4N at y0 y1 y2 y3 y4 y5 z0 HF
    have Y0 := Lib.hid y0
    have Y1 := Lib.hid y1
    have Y2 := Lib.hid y2
    have Y3 := Lib.hid y3
    have Y4 := Lib.hid y4
    have Y5 := Lib.hid y5
    have Z0 := Lib.hid z0
    clear y0 y1 y2 y3 y4 y5 z0 hN hE hk6 hk7
    go_wp2_with fail
    refine leaves_cons (f := 24) (args := #[.pointer (some ⟨B + 1, 0, none⟩)]) (by simp) (by simp [go_sem]) ?_
    refine (pcatch_idle ⟨B + 1, 0, none⟩ _).mono ?_
    rintro e u' w'' ⟨rfl, rfl, rfl⟩
    have y0 := Y0.out
    have y1 := Y1.out
    have y2 := Y2.out
    have y3 := Y3.out
    have y4 := Y4.out
    have y5 := Y5.out
    have z0 := Z0.out
    refine ⟨.tuple #[nodeV n (.slice uo n.kids.length uc), .int .i64 0], ?_, _, rfl, by rw [HBS.out]; exact HF.out.2, by rw [HBS.out]; exact HF.out.1⟩
    simp [results, Tryd.results9, go_sem, nodeV, y0, y1, y2, y3, y4, y5, z0]
end Go.Proofs.YtkopbngnhgdfhaaDoor
