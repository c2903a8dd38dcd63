/-
  limnerlaw06.Painted.Frame: what it returns.
-/
import Derived.Deep.Cut
import Derived.BigRegion
import Derived.RegionTactic
import Derived.Deep.RegionHeld3
import Derived.Test.YtdibpoecdjnpaaaDoorBa40
namespace Go.Proofs.YtdibpoecdjnpaaaDoor
open Go.RowKit

/-- A box of what is put in. -/
def pnB (W : World) (B : Nat) (p : Pnt) (v : Value) : Prop := W.heap[B]? = some (.cells #[.int .i64 p.rows, .int .i64 p.cols, v, .int .i64 p.row, .int .i64 p.col] 24 (0, 0))
theorem pnB.lt {W : World} {B : Nat} {p : Pnt} {v : Value} (h : pnB W B p v) : B < W.heap.size := (Array.getElem?_eq_some_iff.1 h).1
theorem pnB.cells {W : World} {B : Nat} {p : Pnt} {v : Value} (h : pnB W B p v) : W.cell? ⟨B, 0, none⟩ = some (.int .i64 p.rows) ∧ W.cell? ⟨B, 1, none⟩ = some (.int .i64 p.cols) ∧ W.cell? ⟨B, 2, none⟩ = some v ∧ W.cell? ⟨B, 3, none⟩ = some (.int .i64 p.row) ∧ W.cell? ⟨B, 4, none⟩ = some (.int .i64 p.col) := by
  unfold pnB at h
  refine ⟨?_, ?_, ?_, ?_, ?_⟩ <;> (unfold World.cell?; rw [h]; rfl)
theorem pnB.keep {W W' : World} {B : Nat} {p : Pnt} {v : Value} {ok : Nat → Prop} (h : pnB W B p v) (hk : KeepW ok W W') (hB : ok B) : pnB W' B p v := (hk.same B h.lt hB).trans h
theorem pnB.below {W W' : World} {B n : Nat} {p : Pnt} {v : Value} (h : pnB W B p v) (hb : Below n W W') (hB : B < n) : pnB W' B p v := (hb.block B hB).trans h
theorem pnB.new (w : World) (p : Pnt) (v : Value) : pnB (w.alloc (.cells #[.int .i64 p.rows, .int .i64 p.cols, v, .int .i64 p.row, .int .i64 p.col] 24)) w.heap.size p v := heap_alloc_new w _

/-- What lies in memory while a frame is painted. -/
structure PfS (w W : World) (p : Pnt) (ao : Option Addr) (N cap H : Nat) (f : Frm) (fo : Option Addr) (fn fc : Nat) : Prop where
  below : Below w.heap.size w W
  pb : pnB W w.heap.size p (.slice ao N cap)
  res : frB W (w.heap.size + 1) 0 0 (.slice none 0 0) 0 0
  box : frB W H f.rows f.cols (.slice fo fn fc) f.row f.col
  far : w.heap.size + 2 ≤ H
  len : fn = f.cells.length ∧ fn ≤ fc
  cels : CelsW (fun k => k ≠ H ∧ k ≠ w.heap.size + 1) W (.slice fo fn fc) f.cells
section
variable {w W : World} {p : Pnt} {ao fo : Option Addr} {N cap H fn fc : Nat} {f : Frm}
theorem PfS.frame (h : PfS w W p ao N cap H f fo fn fc) {W' : World} (hb : Below W.heap.size W W') : FrameW AnyB W' (.agg #[.int .i64 f.rows, .int .i64 f.cols, .slice fo fn fc, .int .i64 f.row, .int .i64 f.col]) f := by
  obtain ⟨ao', cap', he, h1, _, h3⟩ := h.cels
  exact ⟨fo, fn, fc, rfl, h.len.1, h.len.2, RowV.keep ⟨ao', cap', he, h1, fun _ _ => trivial, h3⟩ (keep_below AnyB hb)⟩
/-- Another frame is stored into the box. -/
theorem PfS.store {w5 : World} {f' : Frm} {fo' : Option Addr} {fn' fc' : Nat} (h : PfS w W p ao N cap H f fo fn fc) (hb : Below W.heap.size W w5) (hF : FrameW AnyB w5 (.agg #[.int .i64 f'.rows, .int .i64 f'.cols, (.slice fo' fn' fc'), .int .i64 f'.row, .int .i64 f'.col]) f') (h0 : 0 < f'.cells.length) :
    PfS w (set5 w5 H f'.rows f'.cols (.slice fo' fn' fc') f'.row f'.col) p ao N cap H f' fo' fn' fc' := by
  have hf := h.far
  have b5 := h.box.below hb h.box.lt
  have r5 := h.res.below hb h.res.lt
  have hk := set5_keep (ok := fun k => k ≠ H) w5 H f'.rows f'.cols (.slice fo' fn' fc') f'.row f'.col (fun k => k rfl)
  obtain ⟨ao2, n2, c2, he, k1, k2, k3⟩ := hF
  simp only [Value.agg.injEq] at he
  obtain ⟨e1, e2, e3⟩ : ao2 = fo' ∧ n2 = fn' ∧ c2 = fc' := by simp at he; exact ⟨he.1.symm, he.2.1.symm, he.2.2.symm⟩
  subst e1 e2 e3
  have hb1 := h.below.trans (hb.mono h.below.size)
  have hc := cels_apart (ok := fun k => k ≠ H ∧ k ≠ w.heap.size + 1) k3 h0 fun g hg => by
    by_cases q1 : g = H
    · subst q1; exact .inr fun o x => b5.apart (fun _ e => by cases e) o x
    · by_cases q2 : g = w.heap.size + 1
      · subst q2; exact .inr fun o x => r5.apart (fun _ e => by cases e) o x
      · exact .inl ⟨q1, q2⟩
  exact ⟨KeepW.below hb1 hk hb1.size (fun k hk => by show _ ≠ _; omega), (h.pb.below hb h.pb.lt).keep hk (by show _ ≠ _; omega), r5.keep hk (by show _ ≠ _; omega), b5.all, hf, ⟨k1, k2⟩, RowV.keep hc (hk.mono fun _ _ k => k.1)⟩
theorem PfS.start {w3 : World} (hX : Below (w.heap.size + 2) ((w.alloc (.cells #[.int .i64 p.rows, .int .i64 p.cols, .slice ao N cap, .int .i64 p.row, .int .i64 p.col] 24)).alloc (.cells #[.int .i64 0, .int .i64 0, .slice none 0 0, .int .i64 0, .int .i64 0] 28)) w3) (hF : FrameW AnyB w3 (.agg #[.int .i64 f.rows, .int .i64 f.cols, .slice fo fn fc, .int .i64 f.row, .int .i64 f.col]) f) (h0 : 0 < f.cells.length) :
    PfS w (w3.alloc (.cells #[.int .i64 f.rows, .int .i64 f.cols, .slice fo fn fc, .int .i64 f.row, .int .i64 f.col] 28)) p ao N cap w3.heap.size f fo fn fc := by
  have e1 := (pnB.new w p (.slice ao N cap))
  have e2 := frB.new (r := 0) (c := 0) (v := .slice none 0 0) (a := 0) (b := 0) (w.alloc (.cells #[.int .i64 p.rows, .int .i64 p.cols, .slice ao N cap, .int .i64 p.row, .int .i64 p.col] 24))
  rw [World.size_alloc] at e2
  have e1 : pnB w3 w.heap.size p (.slice ao N cap) := pnB.below (n := w.heap.size + 2) ((Below.heap_alloc _ _ _ (by rw [World.size_alloc]; omega)).trans e1) hX (by omega)
  have e2 := e2.below hX (by omega)
  have hs := hX.size
  rw [World.size_alloc, World.size_alloc] at hs
  have hk := (Below.refl _ w3).alloc (Nat.le_refl _) (.cells #[.int .i64 f.rows, .int .i64 f.cols, .slice fo fn fc, .int .i64 f.row, .int .i64 f.col] 28)
  have b3 : Below w.heap.size w w3 := (((Below.refl _ w).alloc (Nat.le_refl _) _).alloc (by simp) _).trans (hX.mono (by omega))
  obtain ⟨ao2, n2, c2, he, k1, k2, k3⟩ := hF
  obtain ⟨q1, q2, q3⟩ : ao2 = fo ∧ n2 = fn ∧ c2 = fc := by simp at he; exact ⟨he.1.symm, he.2.1.symm, he.2.2.symm⟩
  subst q1 q2 q3
  have hc := cels_apart (ok := fun k => k ≠ w3.heap.size ∧ k ≠ w.heap.size + 1) k3 h0 fun g hg => by
    by_cases q2 : g = w.heap.size + 1
    · subst q2; exact .inr fun o x => e2.apart (fun _ e => by cases e) o x
    · exact .inl ⟨by omega, q2⟩
  exact ⟨b3.trans (hk.mono b3.size), e1.below hk e1.lt, e2.below hk e2.lt, frB.new w3, hs, ⟨k1, k2⟩, RowV.keep hc (keep_below _ hk)⟩
/-- The way out: the cursor is laid, the frame stored into the result's box. -/
theorem PfS.done {a b : Int} {V : World} (h : PfS w W p ao N cap H f fo fn fc) (hV : ((W.setCell ⟨H, 3, none⟩ (.int .i64 a)).setCell ⟨H, 4, none⟩ (.int .i64 b)).drew = V) :
    frB V H f.rows f.cols (.slice fo fn fc) a b ∧ frB V (w.heap.size + 1) 0 0 (.slice none 0 0) 0 0 ∧ frB (set5 V (w.heap.size + 1) f.rows f.cols (.slice fo fn fc) a b) (w.heap.size + 1) f.rows f.cols (.slice fo fn fc) a b ∧
    FrameW AnyB (set5 V (w.heap.size + 1) f.rows f.cols (.slice fo fn fc) a b) (.agg #[.int .i64 f.rows, .int .i64 f.cols, .slice fo fn fc, .int .i64 a, .int .i64 b]) { f with row := a, col := b } ∧
    Below w.heap.size w (set5 V (w.heap.size + 1) f.rows f.cols (.slice fo fn fc) a b) := by
  have hf := h.far
  have k0 := ((keep_set (ok := fun k => k ≠ H) H 3 none (.int .i64 a) W (fun k => k rfl)).trans (keep_set (ok := fun k => k ≠ H) H 4 none (.int .i64 b) _ (fun k => k rfl))).trans (keep_drew _ _)
  have r0 : frB ((W.setCell ⟨H, 3, none⟩ (.int .i64 a)).setCell ⟨H, 4, none⟩ (.int .i64 b)).drew H f.rows f.cols (.slice fo fn fc) a b := (h.box.set3 a).set4 b
  rw [hV] at k0 r0
  have r1 := h.res.keep k0 (by show _ ≠ _; omega)
  have k1 := KeepW.below h.below k0 h.below.size (fun k hk => by show _ ≠ _; omega)
  have hk := set5_keep (ok := fun k => k ≠ w.heap.size + 1) V (w.heap.size + 1) f.rows f.cols (.slice fo fn fc) a b (fun k => k rfl)
  have hc : CelsW (fun k => k ≠ H ∧ k ≠ w.heap.size + 1) (set5 V (w.heap.size + 1) f.rows f.cols (.slice fo fn fc) a b) (.slice fo fn fc) f.cells := RowV.keep (RowV.keep h.cels (k0.mono fun _ _ k => k.1)) (hk.mono fun _ _ k => k.2)
  obtain ⟨ao', cap', he, h1, _, h3⟩ := hc
  exact ⟨r0, r1, r1.all, ⟨fo, fn, fc, rfl, h.len.1, h.len.2, ⟨ao', cap', he, h1, fun _ _ => trivial, h3⟩⟩, KeepW.below k1 hk k1.size (fun k hk => by show _ ≠ _; omega)⟩
end

set_option maxRecDepth 100000 in
set_option maxHeartbeats 8000000 in
theorem paint_any {ao : Option Addr} {N cap : Nat} (p : Pnt) (w : World) (hI : InkW w ao N cap p.ink) (hN : N ≤ 1000) :
    Calls Tryd.prog 15 #[.agg #[.int .i64 p.rows, .int .i64 p.cols, .slice ao N cap, .int .i64 p.row, .int .i64 p.col]] w fun e w' => ∃ fo fn fc, e = .returned (.agg #[.int .i64 (paintF p).rows, .int .i64 (paintF p).cols, .slice fo fn fc, .int .i64 (paintF p).row, .int .i64 (paintF p).col]) ∧ FrameW AnyB w' (.agg #[.int .i64 (paintF p).rows, .int .i64 (paintF p).cols, .slice fo fn fc, .int .i64 (paintF p).row, .int .i64 (paintF p).col]) (paintF p) ∧ Below w.heap.size w w' := by
  have hok := new_dims p.rows p.cols
  have hd1 := dimR_in p.rows
  have hd2 := dimC_in p.cols
  have hF : paintF p = { foldP p.ink (newF (dimR p.rows) (dimC p.cols)) with row := ((p.row.tmod (dimR p.rows)) + dimR p.rows).tmod (dimR p.rows), col := ((p.col.tmod (dimC p.cols)) + dimC p.cols).tmod (dimC p.cols) } := rfl
  rw [hF]
  -- the size
  obtain ⟨x1, hx1⟩ : ∃ x, p.rows.tmod 9 = x := ⟨_, rfl⟩
  obtain ⟨x2, hx2⟩ : ∃ x, x1 + 9 = x := ⟨_, rfl⟩
  obtain ⟨x3, hx3⟩ : ∃ x, x2.tmod 9 = x := ⟨_, rfl⟩
  obtain ⟨y1, hy1⟩ : ∃ x, p.cols.tmod 13 = x := ⟨_, rfl⟩
  obtain ⟨y2, hy2⟩ : ∃ x, y1 + 13 = x := ⟨_, rfl⟩
  obtain ⟨y3, hy3⟩ : ∃ x, y2.tmod 13 = x := ⟨_, rfl⟩
  have n1 := tmod_near p.rows 9 (by omega)
  have n2 := tmod_near p.cols 13 (by omega)
  have n3 := tmod_in p.rows 9 (by omega)
  have n4 := tmod_in p.cols 13 (by omega)
  rw [hx1] at n1 n3
  rw [hy1] at n2 n4
  rw [hx2, hx3] at n3
  rw [hy2, hy3] at n4
  have hdr : dimR p.rows = 2 + x3 := by unfold dimR; rw [hx1, hx2, hx3]
  have hdc : dimC p.cols = 8 + y3 := by unfold dimC; rw [hy1, hy2, hy3]
  obtain ⟨d1, he1⟩ : ∃ d, dimR p.rows = d := ⟨_, rfl⟩
  obtain ⟨d2, he2⟩ : ∃ d, dimC p.cols = d := ⟨_, rfl⟩
  rw [he1] at hok hd1 hdr ⊢
  rw [he2] at hok hd2 hdc ⊢
  have s1 : 2 + x3 = d1 := hdr.symm
  have s2 : 8 + y3 = d2 := hdc.symm
  obtain ⟨n1a, n1b⟩ := n1
  obtain ⟨n2a, n2b⟩ := n2
  obtain ⟨n3a, n3b⟩ := n3
  obtain ⟨n4a, n4b⟩ := n4
  obtain ⟨E, hE⟩ : ∃ E, newE d1 d2 = E := ⟨_, rfl⟩
  obtain ⟨f0, hf0⟩ : ∃ f0, newF d1 d2 = f0 := ⟨_, rfl⟩
  rw [hf0] at hok ⊢
  have HNw : Hid (∀ W, Calls Tryd.prog 12 #[.int .i64 d1, .int .i64 d2] W fun e w' => ∃ fo fn fc, e = .returned (.tuple #[.agg #[.int .i64 f0.rows, .int .i64 f0.cols, .slice fo fn fc, .int .i64 f0.row, .int .i64 f0.col], .int .i64 E]) ∧ FrameW AnyB w' (.agg #[.int .i64 f0.rows, .int .i64 f0.cols, .slice fo fn fc, .int .i64 f0.row, .int .i64 f0.col]) f0 ∧ Below W.heap.size W w') := fun W => by
    have := frame_out2 (rnew_all d1 d2 W)
    rw [hE, hf0] at this
    exact this
  -- the cursor
  obtain ⟨z1, hz1⟩ : ∃ x, p.row.tmod d1 = x := ⟨_, rfl⟩
  obtain ⟨z2, hz2⟩ : ∃ x, z1 + d1 = x := ⟨_, rfl⟩
  obtain ⟨z3, hz3⟩ : ∃ x, z2.tmod d1 = x := ⟨_, rfl⟩
  obtain ⟨t1, ht1⟩ : ∃ x, p.col.tmod d2 = x := ⟨_, rfl⟩
  obtain ⟨t2, ht2⟩ : ∃ x, t1 + d2 = x := ⟨_, rfl⟩
  obtain ⟨t3, ht3⟩ : ∃ x, t2.tmod d2 = x := ⟨_, rfl⟩
  have m1 := tmod_near p.row d1 (by omega)
  have m2 := tmod_near p.col d2 (by omega)
  have m3 := tmod_in p.row d1 (by omega)
  have m4 := tmod_in p.col d2 (by omega)
  rw [hz1, hz2, hz3] at m3
  rw [ht1, ht2, ht3] at m4
  rw [hz1] at m1
  rw [ht1] at m2
  rw [hz1, hz2, hz3, ht1, ht2, ht3]
  obtain ⟨m1a, m1b⟩ := m1
  obtain ⟨m2a, m2b⟩ := m2
  obtain ⟨m3a, m3b⟩ := m3
  obtain ⟨m4a, m4b⟩ := m4
  have hFok : ∀ i, OkF (foldP (p.ink.take i) f0) d1.toNat d2.toNat := fun i => foldP_ok _ hok
  have HOK := Lib.hid hFok
  have HPut := Lib.hid (fun (F : Frm) (x : Inkd) fo fn fc W (h : FrameW AnyB W (.agg #[.int .i64 F.rows, .int .i64 F.cols, .slice fo fn fc, .int .i64 F.row, .int .i64 F.col]) F) => frame_out (rput_any x.row x.col x.r x.s W h))
  have HSt := Lib.hid (fun w3 fo fn fc hX hF h0 => PfS.start (w := w) (p := p) (ao := ao) (N := N) (cap := cap) (f := f0) (fo := fo) (fn := fn) (fc := fc) (w3 := w3) hX hF h0)
  have H00 : Hid (0 < f0.cells.length) := by
    show 0 < _
    rw [hok.len]; exact Nat.mul_pos (by have := hok.hm; omega) (by have := hok.hn; omega)
  have HIk := Lib.hid hI
  have HLk := Lib.hid hI.1
  have HZ := Lib.hid (And.intro hz3 ht3)
  have HB0 : Below w.heap.size w ((w.alloc (.cells #[.int .i64 p.rows, .int .i64 p.cols, .slice ao N cap, .int .i64 p.row, .int .i64 p.col] 24)).alloc (.cells #[.int .i64 0, .int .i64 0, .slice none 0 0, .int .i64 0, .int .i64 0] 28)) := ((Below.refl _ w).alloc (Nat.le_refl _) _).alloc (by simp) _
  clear hI hF hdr hdc he1 he2 hE hf0 hok hFok hz3 ht3
  go_enter Tryd.func15, Tryd.ntmps15
  go_wp2_with fail
  go_fit (HNw.out _)
  rintro e w3 ⟨fo, fn, fc, rfl, hF3, hb3⟩
  obtain ⟨H, hH⟩ : ∃ H, w3.heap.size = H := ⟨_, rfl⟩
  have hs0 := HSt.out w3 fo fn fc (by simpa using hb3) hF3 H00.out
  rw [hH] at hs0
  have H0 : Hid (PfS w (w3.alloc (.cells #[.int .i64 f0.rows, .int .i64 f0.cols, .slice fo fn fc, .int .i64 f0.row, .int .i64 f0.col] 28)) p ao N cap H (foldP (p.ink.take 0) f0) fo fn fc) := hs0
  have hlH : w.heap.size < w3.heap.size := by have := hb3.size; simp at this; omega
  clear HSt HNw hs0 hF3 hb3 HB0
  go_wp2
  go_loopw [5] (fun s5 wr => ∃ (i : Nat) (fo : Option Addr) (fn fc : Nat), s5 = .int .i64 (i : Int) ∧ i ≤ N ∧ Hid (PfS w wr p ao N cap H (foldP (p.ink.take i) f0) fo fn fc)) (fun s5 _ => N - (intOf s5).toNat)
  case atStart => exact ⟨0, _, _, _, rfl, Nat.zero_le _, H0⟩
  case round =>
    obtain ⟨i, fo2, fn2, fc2, rfl, hi, HI⟩ := hrel
    clear H0
    obtain ⟨c0, c1, c2, c3, c4⟩ := HI.out.pb.cells
    by_cases hlt : i < N
    · obtain ⟨x, hx⟩ : ∃ x, p.ink[i]? = some x := ⟨_, List.getElem?_eq_getElem (by rw [← HLk.out]; exact hlt)⟩
      obtain ⟨g, o, rfl, hc7⟩ := (HIk.out.below HI.out.below).at_ hx
      obtain ⟨q0, q1, q2, q3, q4, q5, q6⟩ := hc7
      have hst := foldP_step p.ink f0 i x hx
      obtain ⟨F, hFF⟩ : ∃ F, foldP (p.ink.take i) f0 = F := ⟨_, rfl⟩
      obtain ⟨y, hy⟩ : ∃ y, i + 1 = y := ⟨_, rfl⟩
      obtain ⟨F', hF'⟩ : ∃ F', foldP (p.ink.take (i + 1)) f0 = F' := ⟨_, rfl⟩
      have h0' : 0 < F'.cells.length := by rw [← hF', (HOK.out _).len]; exact Nat.mul_pos (by have := (HOK.out (i + 1)).hm; omega) (by have := (HOK.out (i + 1)).hn; omega)
      rw [hFF, hF'] at hst
      rw [hFF] at HI
      have j1 : (i : Int) < (N : Int) := by omega
      have j2 : (0 : Int) ≤ (i : Int) := by omega
      have j3 : (i : Int) + 1 = (y : Int) := by omega
      have hyN : y ≤ N := by omega
      have j4 : (N : Int) ≤ 1000 := by omega
      have HY := Lib.hid hy
      have HP2 : Hid (∀ W, Below wr.heap.size wr W → Calls Tryd.prog 18 #[.agg #[.int .i64 F.rows, .int .i64 F.cols, .slice fo2 fn2 fc2, .int .i64 F.row, .int .i64 F.col], .int .i64 x.row, .int .i64 x.col, .int .i32 x.r, .agg #[.int .i64 x.s.1, .bool x.s.2.1, .bool x.s.2.2.1, .bool x.s.2.2.2]] W fun e w' => ∃ ao n cap, e = .returned (.agg #[.int .i64 F'.rows, .int .i64 F'.cols, .slice ao n cap, .int .i64 F'.row, .int .i64 F'.col]) ∧ FrameW AnyB w' (.agg #[.int .i64 F'.rows, .int .i64 F'.cols, .slice ao n cap, .int .i64 F'.row, .int .i64 F'.col]) F' ∧ Below W.heap.size W w') := fun W hW => by
        have := HPut.out F x fo2 fn2 fc2 W (HI.out.frame hW)
        rw [← hst] at this
        exact this
      have hbx : Below wr.heap.size wr (wr.alloc (.cells #[.int .i64 x.row, .int .i64 x.col, .int .i32 x.r, .int .i64 x.s.1, .bool x.s.2.1, .bool x.s.2.2.1, .bool x.s.2.2.2] 37)) := (Below.refl _ wr).alloc (Nat.le_refl _) _
      have HBX := Lib.hid hbx
      have HSt : Hid (∀ w5 ao' n' cap', Below wr.heap.size wr w5 → FrameW AnyB w5 (.agg #[.int .i64 F'.rows, .int .i64 F'.cols, .slice ao' n' cap', .int .i64 F'.row, .int .i64 F'.col]) F' → PfS w (set5 w5 H F'.rows F'.cols (.slice ao' n' cap') F'.row F'.col) p (some ⟨g, o, none⟩) N cap H (foldP (p.ink.take y) f0) ao' n' cap' ∧ frB w5 H F.rows F.cols (.slice fo2 fn2 fc2) F.row F.col) := fun w5 ao' n' cap' hb hF => by
        refine ⟨?_, HI.out.box.below hb HI.out.box.lt⟩
        rw [← hy, hF']
        exact HI.out.store hb hF h0'
      obtain ⟨⟨r0, r1, r2, r3, r4⟩, _⟩ := HI.out.box.cells
      have hHlt := HI.out.box.lt
      clear hx hst hFF hF' h0' hy hbx HI HPut HOK
      go_wp2_with fail
      go_fit (HP2.out _ HBX.out)
      rintro e w5 ⟨ao5, n5, cap5, rfl, hF5, hb5⟩
      obtain ⟨hn5, hbox⟩ := HSt.out w5 ao5 n5 cap5 (HBX.out.trans (hb5.mono HBX.out.size)) hF5
      have HN5 := Lib.hid hn5
      obtain ⟨_, z0, z1', z2', z3', z4'⟩ := hbox.cells
      have hlt5 := hbox.lt
      obtain ⟨⟨u0, u1, u2, u3, u4⟩, _⟩ := hbox.cells
      clear hn5 hF5 hb5 HSt HP2 HBX hbox
      unfold set5 at HN5
      go_wp2
      go_roundw
      case rel => exact ⟨y, ao5, n5, cap5, rfl, hyN, HN5⟩
      case measure => simp [intOf]; have := HY.out; omega
    · obtain rfl : N = i := by omega
      have HI9 : Hid (PfS w wr p ao N cap H (foldP p.ink f0) fo2 fn2 fc2) := by
        have := HI.out
        rw [List.take_of_length_le (by rw [HLk.out]; exact Nat.le_refl _)] at this
        exact this
      have hok9 : OkF (foldP p.ink f0) d1.toNat d2.toNat := by
        have := HOK.out N
        rwa [List.take_of_length_le (by rw [HLk.out]; exact Nat.le_refl _)] at this
      obtain ⟨F, hFF⟩ : ∃ F, foldP p.ink f0 = F := ⟨_, rfl⟩
      rw [hFF] at hok9 HI9
      have HFF := Lib.hid hFF
      have hr9 : F.rows = d1 := by rw [hok9.rows]; omega
      have hc9 : F.cols = d2 := by rw [hok9.cols]; omega
      have HR9 := Lib.hid (And.intro hr9 hc9)
      have g1 : p.row.tmod F.rows = z1 := by rw [hr9]; exact hz1
      have g2 : z1 + F.rows = z2 := by rw [hr9]; exact hz2
      have h32 : IntKind.i64.wrap z2 = z2 := IntWalk.i64_in _ (by omega)
      have HG3 : Hid ((IntKind.i64.wrap z2).tmod F.rows = z3) := by show _ = _; rw [h32, hr9]; exact HZ.out.1
      have g4 : p.col.tmod F.cols = t1 := by rw [hc9]; exact ht1
      have g5 : t1 + F.cols = t2 := by rw [hc9]; exact ht2
      have h62 : IntKind.i64.wrap t2 = t2 := IntWalk.i64_in _ (by omega)
      have HG6 : Hid ((IntKind.i64.wrap t2).tmod F.cols = t3) := by show _ = _; rw [h62, hc9]; exact HZ.out.2
      have g7 : ¬ F.rows = 0 := by omega
      have g8 : ¬ F.cols = 0 := by omega
      have w1 : IntKind.i64.wrap z1 = z1 := IntWalk.i64_in _ (by omega)
      have w2 : IntKind.i64.wrap (z1 + F.rows) = z2 := by rw [IntWalk.i64_in _ (by omega)]; exact g2
      have w3' : IntKind.i64.wrap z3 = z3 := IntWalk.i64_in _ (by omega)
      have w4 : IntKind.i64.wrap t1 = t1 := IntWalk.i64_in _ (by omega)
      have w5 : IntKind.i64.wrap (t1 + F.cols) = t2 := by rw [IntWalk.i64_in _ (by omega)]; exact g5
      have w6 : IntKind.i64.wrap t3 = t3 := IntWalk.i64_in _ (by omega)
      have HE := Lib.hid (fun V hV => PfS.done (a := z3) (b := t3) (V := V) HI9.out hV)
      have HQ : Hid (∀ (W : World) (r : Int × Int), KeepW (fun k => k ≠ H) wr W → frB W H F.rows F.cols (.slice fo2 fn2 fc2) r.1 r.2 → W.cell? ⟨w.heap.size, 3, none⟩ = some (.int .i64 p.row) ∧ W.cell? ⟨w.heap.size, 4, none⟩ = some (.int .i64 p.col) ∧ W.cell? ⟨H, 0, none⟩ = some (.int .i64 F.rows) ∧ W.cell? ⟨H, 1, none⟩ = some (.int .i64 F.cols)) := fun W r hk hb => by
        obtain ⟨_, _, _, e3, e4⟩ := (HI9.out.pb.keep hk (by have := HI9.out.far; show _ ≠ _; omega)).cells
        exact ⟨e3, e4, hb.cells.1.1, hb.cells.1.2.1⟩
      have HK3 := fun u (W : World) => keep_set (ok := fun k => k ≠ H) H 3 none (.int .i64 u) W (fun k => k rfl)
      have HK4 := fun u (W : World) => keep_set (ok := fun k => k ≠ H) H 4 none (.int .i64 u) W (fun k => k rfl)
      have HQ0 : Hid (wr.drew.cell? ⟨w.heap.size, 3, none⟩ = some (.int .i64 p.row) ∧ wr.drew.cell? ⟨w.heap.size, 4, none⟩ = some (.int .i64 p.col) ∧ wr.drew.cell? ⟨H, 0, none⟩ = some (.int .i64 F.rows) ∧ wr.drew.cell? ⟨H, 1, none⟩ = some (.int .i64 F.cols)) := HQ.out _ (F.row, F.col) (keep_drew _ _) HI9.out.box
      have HQ3 : Hid (∀ u, (wr.setCell ⟨H, 3, none⟩ (.int .i64 u)).drew.cell? ⟨w.heap.size, 3, none⟩ = some (.int .i64 p.row) ∧ (wr.setCell ⟨H, 3, none⟩ (.int .i64 u)).drew.cell? ⟨w.heap.size, 4, none⟩ = some (.int .i64 p.col) ∧ (wr.setCell ⟨H, 3, none⟩ (.int .i64 u)).drew.cell? ⟨H, 0, none⟩ = some (.int .i64 F.rows) ∧ (wr.setCell ⟨H, 3, none⟩ (.int .i64 u)).drew.cell? ⟨H, 1, none⟩ = some (.int .i64 F.cols)) := fun u => HQ.out _ (u, F.col) ((HK3 u wr).trans (keep_drew _ _)) (HI9.out.box.set3 u)
      have HQ4 : Hid (∀ u, (wr.setCell ⟨H, 4, none⟩ (.int .i64 u)).drew.cell? ⟨w.heap.size, 3, none⟩ = some (.int .i64 p.row) ∧ (wr.setCell ⟨H, 4, none⟩ (.int .i64 u)).drew.cell? ⟨w.heap.size, 4, none⟩ = some (.int .i64 p.col) ∧ (wr.setCell ⟨H, 4, none⟩ (.int .i64 u)).drew.cell? ⟨H, 0, none⟩ = some (.int .i64 F.rows) ∧ (wr.setCell ⟨H, 4, none⟩ (.int .i64 u)).drew.cell? ⟨H, 1, none⟩ = some (.int .i64 F.cols)) := fun u => HQ.out _ (F.row, u) ((HK4 u wr).trans (keep_drew _ _)) (HI9.out.box.set4 u)
      have HQ34 : Hid (∀ u t, ((wr.setCell ⟨H, 3, none⟩ (.int .i64 u)).setCell ⟨H, 4, none⟩ (.int .i64 t)).drew.cell? ⟨w.heap.size, 3, none⟩ = some (.int .i64 p.row) ∧ ((wr.setCell ⟨H, 3, none⟩ (.int .i64 u)).setCell ⟨H, 4, none⟩ (.int .i64 t)).drew.cell? ⟨w.heap.size, 4, none⟩ = some (.int .i64 p.col) ∧ ((wr.setCell ⟨H, 3, none⟩ (.int .i64 u)).setCell ⟨H, 4, none⟩ (.int .i64 t)).drew.cell? ⟨H, 0, none⟩ = some (.int .i64 F.rows) ∧ ((wr.setCell ⟨H, 3, none⟩ (.int .i64 u)).setCell ⟨H, 4, none⟩ (.int .i64 t)).drew.cell? ⟨H, 1, none⟩ = some (.int .i64 F.cols)) := fun u t => HQ.out _ (u, t) (((HK3 u wr).trans (HK4 t _)).trans (keep_drew _ _)) ((HI9.out.box.set3 u).set4 t)
      have HQ43 : Hid (∀ u t, ((wr.setCell ⟨H, 4, none⟩ (.int .i64 t)).setCell ⟨H, 3, none⟩ (.int .i64 u)).drew.cell? ⟨w.heap.size, 3, none⟩ = some (.int .i64 p.row) ∧ ((wr.setCell ⟨H, 4, none⟩ (.int .i64 t)).setCell ⟨H, 3, none⟩ (.int .i64 u)).drew.cell? ⟨w.heap.size, 4, none⟩ = some (.int .i64 p.col) ∧ ((wr.setCell ⟨H, 4, none⟩ (.int .i64 t)).setCell ⟨H, 3, none⟩ (.int .i64 u)).drew.cell? ⟨H, 0, none⟩ = some (.int .i64 F.rows) ∧ ((wr.setCell ⟨H, 4, none⟩ (.int .i64 t)).setCell ⟨H, 3, none⟩ (.int .i64 u)).drew.cell? ⟨H, 1, none⟩ = some (.int .i64 F.cols)) := fun u t => HQ.out _ (u, t) (((HK4 t wr).trans (HK3 u _)).trans (keep_drew _ _)) ((HI9.out.box.set4 t).set3 u)
      clear HQ HK3 HK4
      obtain ⟨⟨r0, r1, r2, r3, r4⟩, v0, v1, v2, v3, v4⟩ := HI9.out.box.cells
      obtain ⟨k0, k1, k2, k3, k4⟩ := HI9.out.pb.cells
      have hlt2 := HI9.out.box.lt
      clear HI HI9 HOK HPut hFF hok9 hr9 hc9 hz1 hz2 ht1 ht2 h32 h62 hx1 hx2 hx3 hy1 hy2 hy3
      go_wp2
      go_region_held3 (fun W => W.cell? ⟨w.heap.size, 3, none⟩ = some (.int .i64 p.row) ∧ W.cell? ⟨w.heap.size, 4, none⟩ = some (.int .i64 p.col) ∧ W.cell? ⟨H, 0, none⟩ = some (.int .i64 F.rows) ∧ W.cell? ⟨H, 1, none⟩ = some (.int .i64 F.cols)) (first | exact HQ3.out _ | exact HQ34.out _ _ | exact HQ4.out _ | exact HQ43.out _ _ | exact HQ0.out) (fail)
      obtain ⟨V, hV⟩ : ∃ V, ((wr.setCell ⟨H, 3, none⟩ (.int .i64 ((IntKind.i64.wrap z2).tmod F.rows))).setCell ⟨H, 4, none⟩ (.int .i64 ((IntKind.i64.wrap t2).tmod F.cols))).drew = V := ⟨_, rfl⟩
      obtain ⟨b1, b0, b2, b3, b4⟩ := HE.out V (by rw [← hV, HG3.out, HG6.out])
      have K2 := Lib.hid b2
      have K3 := Lib.hid b3
      have K4 := Lib.hid b4
      rw [hV]
      clear r0 r1 r2 r3 r4 v0 v1 v2 v3 v4 k0 k1 k2 k3 k4 c0 c1 c2 c3 c4 hlt2
      obtain ⟨⟨r0, r1, r2, r3, r4⟩, _⟩ := b1.cells
      obtain ⟨⟨u0, u1, u2, u3, u4⟩, v0, v1, v2, v3, v4⟩ := b0.cells
      have hlt3 := b0.lt
      clear hV HE b0 b1 b2 b3 b4
      go_wp2
      obtain ⟨⟨y0', y1', y2', y3', y4'⟩, _⟩ := K2.out.cells
      unfold set5 at y0' y1' y2' y3' y4'
      refine bodyPost_ret (v := .agg #[.int .i64 F.rows, .int .i64 F.cols, .slice fo2 fn2 fc2, .int .i64 z3, .int .i64 t3]) (by simp [results, Tryd.results15, go_sem, y0', y1', y2', y3', y4']) rfl ⟨fo2, fn2, fc2, ?_, ?_, K4.out⟩
      · rw [HFF.out]
      · rw [HFF.out]; exact K3.out
end Go.Proofs.YtdibpoecdjnpaaaDoor
