/-
  Texts of this proof, one behind the other; each begins with its own remark.
-/
import Derived.Test.YtdibpoecdjnpaaaDoorBa37
import Derived.Test.YtdibpoecdjnpaaaDoorBa35
import Derived.Test.YtdibpoecdjnpaaaDoorBa36
/-
  grids.Resize: what it returns, and lays: for every frame, every size.
-/
namespace Go.Proofs.YtdibpoecdjnpaaaDoor
open Go.RowKit

theorem gres_any {ok : Nat → Prop} {v : Value} {f : Frm} (rows cols : Int) (w : World) (h : FrameW ok w v f) (hL : LaidW w) :
    Calls Tryd.prog 24 #[v, .int .i64 rows, .int .i64 cols] w fun e w' => ∃ v', e = .returned (.tuple #[v', .int .i64 (resE f rows cols)]) ∧ FrameW AnyB w' v' (resF f rows cols) ∧ Below w.heap.size w w' := by
  obtain ⟨ao, N, cap, rfl, hn, hcap, hS⟩ := h
  have no : (validB f && sizedB rows cols) = false → resE f rows cols = 2 ∧ resF f rows cols = zeroF := fun k => by
    unfold resE resF
    rw [k]
    exact ⟨rfl, rfl⟩
  cases hv : validB f with
  | false =>
    obtain ⟨e1, e2⟩ := no (by rw [hv]; rfl)
    rw [e1, e2]
    exact (gres_bad1 rows cols w hS hn hcap hv hL).mono fun e w' ⟨k1, k2⟩ => ⟨_, k1, FrameW.zero _ _, k2⟩
  | true =>
    cases hb : sizedB rows cols with
    | false =>
      obtain ⟨e1, e2⟩ := no (by rw [hv, hb]; rfl)
      rw [e1, e2]
      exact (gres_bad2 rows cols w hS hn hcap hv hb hL).mono fun e w' ⟨k1, k2⟩ => ⟨_, k1, FrameW.zero _ _, k2⟩
    | true =>
      obtain ⟨a1, a2, a3, a4⟩ := (sizedB_iff _ _).1 hb
      obtain ⟨p, rfl⟩ : ∃ p : Nat, rows = (p : Int) := ⟨rows.toNat, by omega⟩
      obtain ⟨q, rfl⟩ : ∃ q : Nat, cols = (q : Int) := ⟨cols.toNat, by omega⟩
      have hf := valid_ok hv
      obtain ⟨m, hm⟩ : ∃ m, f.rows.toNat = m := ⟨_, rfl⟩
      obtain ⟨n, hnn⟩ : ∃ n, f.cols.toNat = n := ⟨_, rfl⟩
      rw [hm, hnn] at hf
      have h0 : 0 < f.cells.length := by rw [hf.len]; exact Nat.mul_pos (by have := hf.hm; omega) (by have := hf.hn; omega)
      obtain ⟨g, o, rfl, _⟩ := hS.ptr (i := 0) (List.getElem?_eq_getElem h0)
      obtain ⟨e1, e2⟩ := resF_is hf p q (by omega) (by omega)
      rw [e1, e2]
      by_cases hpm : p ≤ m
      · exact gres_le w hf hn hcap hS hL (by omega) (by omega) hpm
      · exact gres_gt w hf hn hcap hS hL (by omega) (by omega) (by omega)
end Go.Proofs.YtdibpoecdjnpaaaDoor

/-
  Plain facts of limnerref06.Resize: a row that is laid over a blank one, cell by cell; what lies in memory meanwhile. No call is walked here.
-/
namespace Go.Proofs.YtdibpoecdjnpaaaDoor
open Go.RowKit

/-- All cells while row i is laid over: j of its cells stand. -/
def overM (f : Frm) (p q i n j : Nat) : List Cel := setK (mixR f p q i) q i ((rowK f.cells n i).take j ++ List.replicate (q - j) blkC)
theorem over_len (l : List Cel) (q j : Nat) (hj : j ≤ q) (hl : j ≤ l.length) : (l.take j ++ List.replicate (q - j) blkC).length = q := by
  rw [List.length_append, List.length_take, List.length_replicate]; omega
theorem overM_len (f : Frm) (p q i n j : Nat) (hi : i < p) (hj : j ≤ q) (hl : j ≤ (rowK f.cells n i).length) : (overM f p q i n j).length = p * q :=
  setK_len _ (mixR_len f p q i) hi (over_len _ q j hj hl)
theorem overM_zero (f : Frm) (p q i n : Nat) (hi : i < p) : overM f p q i n 0 = mixR f p q i := by
  unfold overM
  rw [List.take_zero, List.nil_append, Nat.sub_zero, ← mixR_cur f p q i hi, setK_self]
theorem overM_step (f : Frm) (p q i n j : Nat) (c : Cel) (hi : i < p) (hj : j < q) (hc : (rowK f.cells n i)[j]? = some c) : (overM f p q i n j).set (i * q + j) c = overM f p q i n (j + 1) := by
  have hlt := (List.getElem?_eq_some_iff.1 hc).1
  unfold overM
  rw [setK_set c (mixR_len f p q i) hi (over_len _ q j (by omega) (by omega)) hj]
  congr 1
  have h1 : ((rowK f.cells n i).take j).length = j := by rw [List.length_take]; omega
  rw [List.set_append_right _ _ (by omega), h1, Nat.sub_self, List.take_succ_eq_append_getElem hlt, (List.getElem?_eq_some_iff.1 hc).2]
  obtain ⟨k, hk⟩ : ∃ k, q - j = k + 1 := ⟨q - j - 1, by omega⟩
  rw [hk, show q - (j + 1) = k by omega, List.replicate_succ]
  simp
/-- The row is whole: mended, it is the row of the new size. -/
theorem overM_end (f : Frm) (m n p q i j : Nat) (hf : OkF f m n) (hi : i < p) (him : i < m) (hq : 0 < q) (hj : j = min q n) :
    (overM f p q i n j).take (i * q) ++ mendL (((overM f p q i n j).drop (i * q)).take q) ++ (overM f p q i n j).drop (i * q + q) = mixR f p q (i + 1) := by
  have hl := rowK_len hf.len him
  have e : (rowK f.cells n i).take j ++ List.replicate (q - j) blkC = (rowK f.cells n i).take q ++ List.replicate (q - (rowK f.cells n i).length) blkC := by
    rw [hl]
    by_cases h : q ≤ n
    · rw [show j = q by omega, show q - n = q - q by omega]
    · rw [show j = n by omega, List.take_of_length_le (show (rowK f.cells n i).length ≤ n by omega), List.take_of_length_le (show (rowK f.cells n i).length ≤ q by omega)]
  unfold overM
  rw [e, mend_setK (mixR_len f p q i) hi (by rw [List.length_append, List.length_take, List.length_replicate]; omega), res_ref (hf.each i him) q]
  have := mixR_step f p q i hq hi (by have := hf.rows; omega)
  rwa [hf.nat.2] at this

/-- What lies in memory while the new frame is laid. -/
structure RrS (w W : World) (f : Frm) (ao : Option Addr) (N cap p q P g c H : Nat) (M : List Cel) (zs : List Value) : Prop where
  below : Below w.heap.size w W
  fr : frB W w.heap.size f.rows f.cols (.slice ao N cap) f.row f.col
  res : frB W (w.heap.size + 1) 0 0 (.slice none 0 0) 0 0
  box : frB W H (p : Int) (q : Int) (.slice (some ⟨g, 0, none⟩) P c) 0 0
  own : w.heap.size + 2 ≤ g ∧ g < H
  blk : blkL W g M zs
  len : M.length = P
  cap : P ≤ c
section
variable {ok : Nat → Prop} {ao : Option Addr} {N cap p q P g c H : Nat} {f : Frm} {w W : World} {M : List Cel} {zs : List Value}
theorem RrS.next {W' : World} (h : RrS w W f ao N cap p q P g c H M zs) (hb : Below W.heap.size W W') : RrS w W' f ao N cap p q P g c H M zs :=
  ⟨h.below.trans (hb.mono h.below.size), h.fr.below hb h.fr.lt, h.res.below hb h.res.lt, h.box.below hb h.box.lt, h.own, h.blk.below hb h.blk.lt, h.len, h.cap⟩
theorem RrS.turn {W' : World} {M' : List Cel} (h : RrS w W f ao N cap p q P g c H M zs) (hk : KeepW (fun k => k ≠ g) W W') (hb : blkL W' g M' zs) (hl : M'.length = P) : RrS w W' f ao N cap p q P g c H M' zs := by
  have ho := h.own
  exact ⟨KeepW.below h.below hk h.below.size (fun k hk => by omega), h.fr.keep hk (by show _ ≠ _; omega), h.res.keep hk (by show _ ≠ _; omega), h.box.keep hk (by show _ ≠ _; omega), ho, hb, hl, h.cap⟩
theorem RrS.start {w3 : World} (hX : Below (w.heap.size + 2) ((w.alloc (.cells #[.int .i64 f.rows, .int .i64 f.cols, .slice ao N cap, .int .i64 f.row, .int .i64 f.col] 28)).alloc (.cells #[.int .i64 0, .int .i64 0, .slice none 0 0, .int .i64 0, .int .i64 0] 28)) w3) (hg : w.heap.size + 2 ≤ g) (hb : blkL w3 g M zs) (hl : M.length = P) (hc : P ≤ c) :
    RrS w (w3.alloc (.cells #[.int .i64 (p : Int), .int .i64 (q : Int), .slice (some ⟨g, 0, none⟩) P c, .int .i64 0, .int .i64 0] 28)) f ao N cap p q P g c w3.heap.size M zs := by
  obtain ⟨h1, h2, h3⟩ := two_frB hX
  have hk := (Below.refl _ w3).alloc (Nat.le_refl _) (.cells #[.int .i64 (p : Int), .int .i64 (q : Int), .slice (some ⟨g, 0, none⟩) P c, .int .i64 0, .int .i64 0] 28)
  exact ⟨h3.trans (hk.mono h3.size), h1.below hk h1.lt, h2.below hk h2.lt, frB.new w3, ⟨hg, hb.lt⟩, hb.below hk hb.lt, hl, hc⟩
/-- The way out: the cursor is laid, the frame stored into the result's box. -/
theorem RrS.done {a b : Int} {V : World} (h : RrS w W f ao N cap p q P g c H M zs) (hV : ((W.setCell ⟨H, 3, none⟩ (.int .i64 a)).setCell ⟨H, 4, none⟩ (.int .i64 b)).drew = V) :
    frB V H (p : Int) (q : Int) (.slice (some ⟨g, 0, none⟩) P c) a b ∧ frB V (w.heap.size + 1) 0 0 (.slice none 0 0) 0 0 ∧ frB (set5 V (w.heap.size + 1) (p : Int) (q : Int) (.slice (some ⟨g, 0, none⟩) P c) a b) (w.heap.size + 1) (p : Int) (q : Int) (.slice (some ⟨g, 0, none⟩) P c) a b ∧
    FrameW AnyB (set5 V (w.heap.size + 1) (p : Int) (q : Int) (.slice (some ⟨g, 0, none⟩) P c) a b) (.agg #[.int .i64 (p : Int), .int .i64 (q : Int), .slice (some ⟨g, 0, none⟩) P c, .int .i64 a, .int .i64 b]) ⟨p, q, M, a, b⟩ ∧
    Below w.heap.size w (set5 V (w.heap.size + 1) (p : Int) (q : Int) (.slice (some ⟨g, 0, none⟩) P c) a b) := by
  have ho := h.own
  have k0 := ((keep_set (ok := fun k => k ≠ H) H 3 none (.int .i64 a) W (fun k => k rfl)).trans (keep_set (ok := fun k => k ≠ H) H 4 none (.int .i64 b) _ (fun k => k rfl))).trans (keep_drew _ _)
  have r0 : frB ((W.setCell ⟨H, 3, none⟩ (.int .i64 a)).setCell ⟨H, 4, none⟩ (.int .i64 b)).drew H (p : Int) (q : Int) (.slice (some ⟨g, 0, none⟩) P c) a b := (h.box.set3 a).set4 b
  rw [hV] at k0 r0
  have r1 := h.res.keep k0 (by show _ ≠ _; omega)
  have b1 := h.blk.keep k0 (by show _ ≠ _; omega)
  have k1 := KeepW.below h.below k0 h.below.size (fun k hk => by show _ ≠ _; omega)
  have hk := set5_keep (ok := fun k => k ≠ w.heap.size + 1) V (w.heap.size + 1) (p : Int) (q : Int) (.slice (some ⟨g, 0, none⟩) P c) a b (fun k => k rfl)
  exact ⟨r0, r1, r1.all, ⟨_, P, c, rfl, h.len.symm, h.cap, (b1.keep hk (by show _ ≠ _; omega)).slice trivial h.len h.cap⟩, KeepW.below k1 hk k1.size (fun k hk => by show _ ≠ _; omega)⟩
end
end Go.Proofs.YtdibpoecdjnpaaaDoor

/-
  limnerref06.Resize: what it returns where no frame is laid.
-/
namespace Go.Proofs.YtdibpoecdjnpaaaDoor
open Go.RowKit

section
variable {ok : Nat → Prop} {ao : Option Addr} {N cap : Nat} {f : Frm}

set_option maxHeartbeats 2000000 in
theorem rres_bad1 (rows cols : Int) (w : World) (hb : sizedB rows cols = false) :
    Calls Tryd.prog 25 #[.agg #[.int .i64 f.rows, .int .i64 f.cols, .slice ao N cap, .int .i64 f.row, .int .i64 f.col], .int .i64 rows, .int .i64 cols] w fun e w' => e = .returned (.tuple #[.agg #[.int .i64 0, .int .i64 0, .slice none 0 0, .int .i64 0, .int .i64 0], .int .i64 2]) ∧ Below w.heap.size w w' := by
  have HNw := Lib.hid (fun w => rnew_bad rows cols w hb)
  have HF := Lib.hid (fun W hW => two_frB (w := w) (W := W) (ao := ao) (n := N) (cap := cap) (r := f.rows) (c := f.cols) (a := f.row) (b := f.col) hW)
  have HG := Lib.hid (fun W hW => two_end (w := w) (W := W) (ao := ao) (n := N) (cap := cap) (r := f.rows) (c := f.cols) (a := f.row) (b := f.col) (r' := 0) (c' := 0) (a' := 0) (b' := 0) (v := .slice none 0 0) hW)
  have HB := Lib.hid (two_start (w := w) (ao := ao) (n := N) (cap := cap) (r := f.rows) (c := f.cols) (a := f.row) (b := f.col))
  clear hb
  go_enter Tryd.func25, Tryd.ntmps25
  go_wp2_with fail
  go_fit (HNw.out _)
  rintro e w3 ⟨rfl, hb3⟩
  have HX := Lib.hid (show Below (w.heap.size + 2) ((w.alloc (.cells #[.int .i64 f.rows, .int .i64 f.cols, .slice ao N cap, .int .i64 f.row, .int .i64 f.col] 28)).alloc (.cells #[.int .i64 0, .int .i64 0, .slice none 0 0, .int .i64 0, .int .i64 0] 28)) (w3.alloc (.cells #[.int .i64 0, .int .i64 0, .slice none 0 0, .int .i64 0, .int .i64 0] 28)) from by
    have h3 := hb3.size
    rw [World.size_alloc, World.size_alloc] at h3 hb3
    exact hb3.alloc (by omega) _)
  clear HNw hb3
  obtain ⟨q1, q2, q3⟩ := HF.out _ HX.out
  obtain ⟨⟨d0, d1, d2, d3, d4⟩, f0, f1, f2, f3, f4⟩ := q2.cells
  have hlt := q2.lt
  have HE := Lib.hid (HG.out _ HX.out)
  clear q1 q2 q3 HF HG HB HX
  go_wp2
  obtain ⟨⟨y0, y1, y2, y3, y4⟩, _⟩ := HE.out.1.cells
  unfold set5 at y0 y1 y2 y3 y4
  exact bodyPost_ret (v := .tuple #[.agg #[.int .i64 0, .int .i64 0, .slice none 0 0, .int .i64 0, .int .i64 0], .int .i64 2]) (by simp [results, Tryd.results25, go_sem, y0, y1, y2, y3, y4]) rfl ⟨rfl, HE.out.2⟩
end
end Go.Proofs.YtdibpoecdjnpaaaDoor

/-
  limnerref06.Resize: what it returns where the old frame may not be.
-/
namespace Go.Proofs.YtdibpoecdjnpaaaDoor
open Go.RowKit

section
variable {ok : Nat → Prop} {ao : Option Addr} {N cap : Nat} {f : Frm}
set_option maxHeartbeats 2000000 in
theorem rres_bad2 (p q : Nat) (w : World) (hS : CelsW ok w (.slice ao N cap) f.cells) (hn : N = f.cells.length) (hcap : N ≤ cap) (hv : validB f = false) (hp : 2 ≤ p ∧ p ≤ 100) (hq : 8 ≤ q ∧ q ≤ 200) :
    Calls Tryd.prog 25 #[.agg #[.int .i64 f.rows, .int .i64 f.cols, .slice ao N cap, .int .i64 f.row, .int .i64 f.col], .int .i64 (p : Int), .int .i64 (q : Int)] w fun e w' => e = .returned (.tuple #[.agg #[.int .i64 0, .int .i64 0, .slice none 0 0, .int .i64 0, .int .i64 0], .int .i64 2]) ∧ Below w.heap.size w w' := by
  have HV : Hid (∀ W, Below w.heap.size w W → Calls Tryd.prog 27 #[.agg #[.int .i64 f.rows, .int .i64 f.cols, .slice ao N cap, .int .i64 f.row, .int .i64 f.col]] W fun e w' => e = .returned (.bool false) ∧ Below W.heap.size W w') := fun W hW => by
    have := rvalid_any W (FrameW.below ⟨ao, N, cap, rfl, hn, hcap, hS⟩ hW)
    rwa [hv] at this
  obtain ⟨P, hP⟩ : ∃ P, p * q = P := ⟨_, rfl⟩
  have HNw := Lib.hid (fun w => rnew_any p q w hp hq)
  rw [hP] at HNw
  have HF := Lib.hid (fun W hW => two_frB (w := w) (W := W) (ao := ao) (n := N) (cap := cap) (r := f.rows) (c := f.cols) (a := f.row) (b := f.col) hW)
  have HG := Lib.hid (fun W hW => two_end (w := w) (W := W) (ao := ao) (n := N) (cap := cap) (r := f.rows) (c := f.cols) (a := f.row) (b := f.col) (r' := 0) (c' := 0) (a' := 0) (b' := 0) (v := .slice none 0 0) hW)
  clear hS hn hcap hv hP hp hq
  go_enter Tryd.func25, Tryd.ntmps25
  go_wp2_with fail
  go_fit (HNw.out _)
  rintro e w3 ⟨g, c, rfl, hc, ⟨zs, hg, hbk⟩, hb3⟩
  have HY := Lib.hid (show Below (w.heap.size + 2) ((w.alloc (.cells #[.int .i64 f.rows, .int .i64 f.cols, .slice ao N cap, .int .i64 f.row, .int .i64 f.col] 28)).alloc (.cells #[.int .i64 0, .int .i64 0, .slice none 0 0, .int .i64 0, .int .i64 0] 28)) (w3.alloc (.cells #[.int .i64 (p : Int), .int .i64 (q : Int), .slice (some ⟨g, 0, none⟩) P c, .int .i64 0, .int .i64 0] 28)) from by
    have h3 := hb3.size
    rw [World.size_alloc, World.size_alloc] at h3 hb3
    exact hb3.alloc (by omega) _)
  have HL3 : Hid (w.heap.size + 2 ≤ w3.heap.size) := by
    have h3 := hb3.size
    rw [World.size_alloc, World.size_alloc] at h3
    exact h3
  have hl3 : w.heap.size < w3.heap.size := by have := HL3.out; omega
  have h3 : Below (w.heap.size + 2) ((w.alloc (.cells #[.int .i64 f.rows, .int .i64 f.cols, .slice ao N cap, .int .i64 f.row, .int .i64 f.col] 28)).alloc (.cells #[.int .i64 0, .int .i64 0, .slice none 0 0, .int .i64 0, .int .i64 0] 28)) w3 := by simpa using hb3
  obtain ⟨⟨a0, a1, a2, a3, a4⟩, _⟩ := (HF.out _ h3).1.cells
  have HBW := Lib.hid (HF.out _ HY.out).2.2
  clear HNw hb3 hc hg hbk h3
  go_wp2_with fail
  go_fit (HV.out _ HBW.out)
  rintro e w4 ⟨rfl, hb4⟩
  have HX := Lib.hid (HY.out.trans (hb4.mono (by rw [World.size_alloc]; have := HL3.out; omega)))
  obtain ⟨q1, q2, q3⟩ := HF.out _ HX.out
  obtain ⟨⟨d0, d1, d2, d3, d4⟩, f0, f1, f2, f3, f4⟩ := q2.cells
  have hlt := q2.lt
  have HE := Lib.hid (HG.out _ HX.out)
  clear q1 q2 q3 HF HG HX HV HY HBW hb4 a0 a1 a2 a3 a4 HL3 hl3
  go_wp2
  obtain ⟨⟨y0, y1, y2, y3, y4⟩, _⟩ := HE.out.1.cells
  unfold set5 at y0 y1 y2 y3 y4
  exact bodyPost_ret (v := .tuple #[.agg #[.int .i64 0, .int .i64 0, .slice none 0 0, .int .i64 0, .int .i64 0], .int .i64 2]) (by simp [results, Tryd.results25, go_sem, y0, y1, y2, y3, y4]) rfl ⟨rfl, HE.out.2⟩
end
end Go.Proofs.YtdibpoecdjnpaaaDoor
