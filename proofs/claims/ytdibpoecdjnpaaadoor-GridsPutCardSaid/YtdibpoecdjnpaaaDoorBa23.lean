/-
  Texts of this proof, one behind the other; each begins with its own remark.
-/
import Derived.Test.YtdibpoecdjnpaaaDoorBa7
import Derived.Test.YtdibpoecdjnpaaaDoorBa9
import Derived.Test.YtdibpoecdjnpaaaDoorBa22
import Derived.Test.YtdibpoecdjnpaaaDoorBa20
import Derived.Test.YtdibpoecdjnpaaaDoorBa13
/-
  What lies in memory while a rune is put into a frame: the boxes of the call, the cells of its own. No call is walked here.
-/
namespace Go.Proofs.YtdibpoecdjnpaaaDoor
open Go.RowKit

structure PutS (w W : World) (f : Frm) (s : Sty) (N g c : Nat) (L : List Cel) (zs : List Value) : Prop where
  below : Below w.heap.size w W
  fr : frB W w.heap.size f.rows f.cols (.slice (some ⟨g, 0, none⟩) N c) f.row f.col
  sty : W.heap[w.heap.size + 1]? = some (.cells #[.int .i64 s.1, .bool s.2.1, .bool s.2.2.1, .bool s.2.2.2] 35 (0, 0))
  res : frB W (w.heap.size + 1 + 1) 0 0 (.slice none 0 0) 0 0
  own : w.heap.size + 3 ≤ g
  blk : blkL W g L zs
  len : L.length = N
  cap : N ≤ c
section
variable {w W : World} {f : Frm} {s : Sty} {N g c : Nat} {L : List Cel} {zs : List Value}
theorem PutS.next {W' : World} (h : PutS w W f s N g c L zs) (hb : Below W.heap.size W W') : PutS w W' f s N g c L zs :=
  ⟨h.below.trans (hb.mono h.below.size), h.fr.below hb h.fr.lt, (hb.block _ (Array.getElem?_eq_some_iff.1 h.sty).1).trans h.sty, h.res.below hb h.res.lt, h.own, h.blk.below hb h.blk.lt, h.len, h.cap⟩
theorem PutS.turn {W' : World} {L' : List Cel} (h : PutS w W f s N g c L zs) (hk : KeepW (fun k => k ≠ g) W W') (hb : blkL W' g L' zs) (hl : L'.length = N) : PutS w W' f s N g c L' zs := by
  have ho := h.own
  exact ⟨KeepW.below h.below hk h.below.size (fun k hk => by omega), h.fr.keep hk (by show _ ≠ _; omega), (hk.same _ (Array.getElem?_eq_some_iff.1 h.sty).1 (by show _ ≠ _; omega)).trans h.sty, h.res.keep hk (by show _ ≠ _; omega), h.own, hb, hl, h.cap⟩
theorem PutS.styc (h : PutS w W f s N g c L zs) : W.cell? ⟨w.heap.size + 1, 0, none⟩ = some (.int .i64 s.1) ∧ W.cell? ⟨w.heap.size + 1, 1, none⟩ = some (.bool s.2.1) ∧ W.cell? ⟨w.heap.size + 1, 2, none⟩ = some (.bool s.2.2.1) ∧ W.cell? ⟨w.heap.size + 1, 3, none⟩ = some (.bool s.2.2.2) := by
  have e := h.sty
  refine ⟨?_, ?_, ?_, ?_⟩ <;> (unfold World.cell?; rw [e]; rfl)
/-- The way out: the frame is laid into the result's box. -/
theorem PutS.done (h : PutS w W f s N g c L zs) : frB (set5 W (w.heap.size + 1 + 1) f.rows f.cols (.slice (some ⟨g, 0, none⟩) N c) f.row f.col) (w.heap.size + 1 + 1) f.rows f.cols (.slice (some ⟨g, 0, none⟩) N c) f.row f.col ∧
    FrameW AnyB (set5 W (w.heap.size + 1 + 1) f.rows f.cols (.slice (some ⟨g, 0, none⟩) N c) f.row f.col) (.agg #[.int .i64 f.rows, .int .i64 f.cols, .slice (some ⟨g, 0, none⟩) N c, .int .i64 f.row, .int .i64 f.col]) { f with cells := L } ∧
    Below w.heap.size w (set5 W (w.heap.size + 1 + 1) f.rows f.cols (.slice (some ⟨g, 0, none⟩) N c) f.row f.col) := by
  have ho := h.own
  have hk := set5_keep (ok := fun k => k ≠ w.heap.size + 1 + 1) W (w.heap.size + 1 + 1) f.rows f.cols (.slice (some ⟨g, 0, none⟩) N c) f.row f.col (fun k => k rfl)
  exact ⟨h.res.all, ⟨_, N, c, rfl, h.len.symm, h.cap, (h.blk.keep hk (by show _ ≠ _; omega)).slice trivial h.len h.cap⟩, KeepW.below h.below hk h.below.size (fun k hk => by omega)⟩
end
/-- What the call lays first. -/
def put0 (w : World) (f : Frm) (s : Sty) (ao : Option Addr) (N cap : Nat) : World :=
  ((w.alloc (.cells #[.int .i64 f.rows, .int .i64 f.cols, .slice ao N cap, .int .i64 f.row, .int .i64 f.col] 28)).alloc (.cells #[.int .i64 s.1, .bool s.2.1, .bool s.2.2.1, .bool s.2.2.2] 35)).alloc (.cells #[.int .i64 0, .int .i64 0, .slice none 0 0, .int .i64 0, .int .i64 0] 28)
theorem put0_is (w : World) (f : Frm) (s : Sty) (ao : Option Addr) (N cap : Nat) : (put0 w f s ao N cap).heap.size = w.heap.size + 3 ∧ Below w.heap.size w (put0 w f s ao N cap) ∧
    frB (put0 w f s ao N cap) w.heap.size f.rows f.cols (.slice ao N cap) f.row f.col ∧ (put0 w f s ao N cap).heap[w.heap.size + 1]? = some (.cells #[.int .i64 s.1, .bool s.2.1, .bool s.2.2.1, .bool s.2.2.2] 35 (0, 0)) ∧
    frB (put0 w f s ao N cap) (w.heap.size + 1 + 1) 0 0 (.slice none 0 0) 0 0 := by
  unfold put0
  refine ⟨by simp, (((Below.refl _ w).alloc (Nat.le_refl _) _).alloc (by simp) _).alloc (by simp; omega) _, ?_, ?_, ?_⟩
  · unfold frB
    rw [Below.heap_alloc _ _ _ (by simp only [World.size_alloc]; omega), Below.heap_alloc _ _ _ (by simp only [World.size_alloc]; omega)]
    exact heap_alloc_new w _
  · rw [Below.heap_alloc _ _ _ (by simp only [World.size_alloc]; omega)]
    have := heap_alloc_new (w.alloc (.cells #[.int .i64 f.rows, .int .i64 f.cols, .slice ao N cap, .int .i64 f.row, .int .i64 f.col] 28)) (.cells #[.int .i64 s.1, .bool s.2.1, .bool s.2.2.1, .bool s.2.2.2] 35)
    rwa [World.size_alloc] at this
  · unfold frB
    have := heap_alloc_new ((w.alloc (.cells #[.int .i64 f.rows, .int .i64 f.cols, .slice ao N cap, .int .i64 f.row, .int .i64 f.col] 28)).alloc (.cells #[.int .i64 s.1, .bool s.2.1, .bool s.2.2.1, .bool s.2.2.2] 35)) (.cells #[.int .i64 0, .int .i64 0, .slice none 0 0, .int .i64 0, .int .i64 0] 28)
    rwa [World.size_alloc, World.size_alloc] at this
end Go.Proofs.YtdibpoecdjnpaaaDoor

/-
  grids.rowOf: what it returns: a row of a frame, where the frame has it.
-/
namespace Go.Proofs.YtdibpoecdjnpaaaDoor
open Go.RowKit

theorem rowOf_any {g o N cap : Nat} (m n k : Nat) (a b : Int) (w : World) (hN : N = m * n) (hcap : N ≤ cap) (hn : 8 ≤ n ∧ n ≤ 200) (hm : m ≤ 100) (hk : k < m) :
    Calls Tryd.prog 38 #[.agg #[.int .i64 (m : Int), .int .i64 (n : Int), .slice (some ⟨g, o, none⟩) N cap, .int .i64 a, .int .i64 b], .int .i64 (k : Int)] w fun e w' =>
      e = .returned (.slice (some ⟨g, o + k * n * 6, none⟩) n (cap - k * n)) ∧ Below w.heap.size w w' := by
  have hr := row_room (n := n) hk
  have hmul : (k : Int) * (n : Int) = ((k * n : Nat) : Int) := by rw [Int.natCast_mul]
  have hb : k * n ≤ 20000 := Nat.mul_le_mul (show k ≤ 100 by omega) hn.2
  obtain ⟨kn, hkn⟩ : ∃ kn, k * n = kn := ⟨_, rfl⟩
  rw [hkn] at hr hmul hb ⊢
  have hN2 : kn + n ≤ N := by omega
  have i1 : (0 : Int) ≤ (kn : Int) := by omega
  have i2 : (kn : Int) ≤ (N : Int) := by omega
  have i3 : (n : Int) ≤ ((cap - kn : Nat) : Int) := by omega
  have i4 : (kn : Int) ≤ (cap : Int) := by omega
  have i5 : (kn : Int) ≤ 20000 := by omega
  clear hN hkn hr hcap
  go_enter Tryd.func38, Tryd.ntmps38
  go_wp2
  go_quiet (fail)
  go_wp2
  go_ret
  exact ⟨rfl, ((Below.refl _ w).alloc (Nat.le_refl _) _).trans ⟨rfl, rfl, rfl, Nat.le_refl _, fun _ _ => rfl⟩⟩
end Go.Proofs.YtdibpoecdjnpaaaDoor

/-
  grids.Put: what it returns, and lays: a frame that may be: nothing is put in.
-/
namespace Go.Proofs.YtdibpoecdjnpaaaDoor
open Go.RowKit

theorem canB_no {f : Frm} {row col r : Int} {s : Sty} (h : ¬ (0 < ofN r ∧ (0 ≤ row ∧ row < f.rows ∧ 0 ≤ col ∧ col < f.cols) ∧ col + (ofN r : Int) ≤ f.cols ∧ styB s = true)) : canB f row col r s = false := Bool.eq_false_iff.2 fun k => h ((canB_iff f row col r s).1 k)

section
variable {ok : Nat → Prop} {ao : Option Addr} {N cap : Nat}
theorem put_bad (f : Frm) (row col r : Int) (s : Sty) (w : World) (hS : CelsW ok w (.slice ao N cap) f.cells) (hn : N = f.cells.length) (hcap : N ≤ cap) (hv : validB f = false) (hL : LaidW w) :
    Calls Tryd.prog 17 #[.agg #[.int .i64 f.rows, .int .i64 f.cols, .slice ao N cap, .int .i64 f.row, .int .i64 f.col], .int .i64 row, .int .i64 col, .int .i32 r, .agg #[.int .i64 s.1, .bool s.2.1, .bool s.2.2.1, .bool s.2.2.2]] w fun e w' => e = .returned (.agg #[.int .i64 0, .int .i64 0, .slice none 0 0, .int .i64 0, .int .i64 0]) ∧ Below w.heap.size w w' := by
  have HV : Hid (∀ W, Below w.heap.size w W → Calls Tryd.prog 26 #[.agg #[.int .i64 f.rows, .int .i64 f.cols, .slice ao N cap, .int .i64 f.row, .int .i64 f.col]] W fun e w' => e = .returned (.bool false) ∧ Below W.heap.size W w') := fun W hW => by
    have := gvalid_any W (FrameW.below ⟨ao, N, cap, rfl, hn, hcap, hS⟩ hW) (hL.below hW)
    rwa [hv] at this
  have H0 := put0_is w f s ao N cap
  obtain ⟨hz, hb, _, _, hres⟩ := H0
  have HZ := Lib.hid hz
  have HR := Lib.hid hres
  have HB := Lib.hid hb
  unfold put0 at HZ HR HB
  clear hS hn hcap hv hL hz hb hres
  go_enter Tryd.func17, Tryd.ntmps17
  go_wp2_with fail
  go_fit (HV.out _ HB.out)
  rintro e w2 ⟨rfl, hb2⟩
  have hr := HR.out.below hb2 HR.out.lt
  have HE : Hid (frB (set5 w2 (w.heap.size + 1 + 1) 0 0 (.slice none 0 0) 0 0) (w.heap.size + 1 + 1) 0 0 (.slice none 0 0) 0 0 ∧ Below w.heap.size w (set5 w2 (w.heap.size + 1 + 1) 0 0 (.slice none 0 0) 0 0)) := by
    have b := HB.out.trans (hb2.mono HB.out.size)
    have hk := set5_keep (ok := fun k => k ≠ w.heap.size + 1 + 1) w2 (w.heap.size + 1 + 1) 0 0 (.slice none 0 0) 0 0 (fun k => k rfl)
    exact ⟨hr.all, KeepW.below b hk b.size (fun k hk => by show _ ≠ _; omega)⟩
  obtain ⟨⟨d0, d1, d2, d3, d4⟩, f0, f1, f2, f3, f4⟩ := hr.cells
  have hlt := hr.lt
  clear hr hb2 HR HB HV HZ
  go_wp2
  obtain ⟨⟨y0, y1, y2, y3, y4⟩, _⟩ := HE.out.1.cells
  unfold set5 at y0 y1 y2 y3 y4
  exact bodyPost_ret (v := .agg #[.int .i64 0, .int .i64 0, .slice none 0 0, .int .i64 0, .int .i64 0]) (by simp [results, Tryd.results17, go_sem, y0, y1, y2, y3, y4]) rfl ⟨rfl, HE.out.2⟩
end
end Go.Proofs.YtdibpoecdjnpaaaDoor
