/-
  Texts of this proof, one behind the other; each begins with its own remark.
-/
import Derived.Deep.RegionHeld3
import Derived.IntWalk
import Derived.Test.YtpkjaallhhjleaaGreatDoorBe17
import Derived.Test.YtpkjaallhhjleaaGreatDoorBe28
import Derived.Test.YtpkjaallhhjleaaGreatDoorBe20
import Derived.Test.YtpkjaallhhjleaaGreatDoorBe18
import Derived.Test.YtpkjaallhhjleaaGreatDoorBe22
/-
  Plain facts: a rune put into two rows alone of a frame, and those laid back: as if it were put into the frame. Nothing of the program is run here.
-/
namespace Go.Proofs.YtpkjaallhhjleaaGreatDoor
open Go.RowKit

/-- Two rows of a frame, as a frame. -/
def twoF (f : Frm) (n top : Nat) : Frm := ⟨2, f.cols, (f.cells.drop (top * n)).take (2 * n), f.row - (top : Int), f.col⟩
theorem two_row {L : List Cel} {n top j : Nat} (hj : j < 2) : rowK ((L.drop (top * n)).take (2 * n)) n j = rowK L n (top + j) := by
  apply List.ext_getElem?
  intro i
  rw [rowK_at, rowK_at]
  split
  · have : j * n + n ≤ 2 * n := row_room hj
    rw [List.getElem?_take, if_pos (by omega), List.getElem?_drop, Nat.add_mul]
    congr 1; omega
  · rfl
theorem two_ok {f : Frm} {m n top : Nat} (h : OkF f m n) (ht : top + 2 ≤ m) (h1 : (top : Int) ≤ f.row) (h2 : f.row < (top : Int) + 2) : OkF (twoF f n top) 2 n := by
  have hr := row_room (n := n) (show top + 1 < m by omega)
  refine ⟨rfl, h.cols, by omega, h.hn, ?_, ⟨by show 0 ≤ f.row - _; omega, by show f.row - _ < _; omega⟩, h.col, fun k hk => ?_⟩
  · show ((f.cells.drop (top * n)).take (2 * n)).length = 2 * n
    rw [List.length_take, List.length_drop, h.len]
    rw [Nat.add_mul, Nat.one_mul] at hr
    omega
  · show okRow (rowK ((f.cells.drop (top * n)).take (2 * n)) n k)
    rw [two_row hk]
    exact h.each _ (by omega)
theorem setK_two {L : List Cel} {n top k : Nat} (R : List Cel) (hk : k < 2) (hl : top * n + 2 * n ≤ L.length) :
    L.take (top * n) ++ setK ((L.drop (top * n)).take (2 * n)) n k R ++ L.drop (top * n + 2 * n) = setK L n (top + k) R := by
  have hkn : k * n + n ≤ 2 * n := row_room hk
  unfold setK
  obtain ⟨X, hX⟩ : ∃ X, L.drop (top * n) = X := ⟨_, rfl⟩
  have hXl : 2 * n ≤ X.length := by rw [← hX, List.length_drop]; omega
  have e1 : L.take ((top + k) * n) = L.take (top * n) ++ (X.take (2 * n)).take (k * n) := by
    rw [List.take_take, Nat.min_eq_left (by omega), ← hX, Nat.add_mul, List.take_add]
  have e2 : L.drop ((top + k) * n + n) = (X.take (2 * n)).drop (k * n + n) ++ X.drop (2 * n) := by
    rw [← List.drop_append_of_le_length (by rw [List.length_take]; omega), List.take_append_drop, ← hX, List.drop_drop]
    congr 1
    rw [Nat.add_mul]; omega
  rw [hX, e1, e2, show L.drop (top * n + 2 * n) = X.drop (2 * n) by rw [← hX, List.drop_drop]]
  simp only [List.append_assoc]
theorem put_pair {f : Frm} {m n top : Nat} (h : OkF f m n) (ht : top + 2 ≤ m) (h1 : (top : Int) ≤ f.row) (h2 : f.row < (top : Int) + 2) (r : Int) (s : Sty) :
    f.cells.take (top * n) ++ (putF (twoF f n top) (f.row - (top : Int)) f.col r s).cells ++ f.cells.drop (top * n + 2 * n) = (putF f f.row f.col r s).cells := by
  have h2' := two_ok h ht h1 h2
  have hr := row_room (n := n) (show top + 1 < m by omega)
  rw [Nat.add_mul, Nat.one_mul] at hr
  have hlen := h.len
  unfold putF
  rw [h.valid, h2'.valid, if_pos rfl, if_pos rfl]
  have hrow := h.row; have hrows := h.rows
  have hc : canB (twoF f n top) (f.row - (top : Int)) f.col r s = canB f f.row f.col r s := by
    rw [Bool.eq_iff_iff, canB_iff, canB_iff]
    show (0 < ofN r ∧ (0 ≤ f.row - (top : Int) ∧ f.row - (top : Int) < 2 ∧ 0 ≤ f.col ∧ f.col < f.cols) ∧ f.col + (ofN r : Int) ≤ f.cols ∧ styB s = true) ↔ _
    constructor
    · rintro ⟨a, ⟨b, c, d, e⟩, g, i⟩; exact ⟨a, ⟨by omega, by omega, d, e⟩, g, i⟩
    · rintro ⟨a, ⟨b, c, d, e⟩, g, i⟩; exact ⟨a, ⟨by omega, by omega, d, e⟩, g, i⟩
  rw [hc]
  split
  · unfold layF
    rw [h.nat.2, show (twoF f n top).cols.toNat = n from h.nat.2]
    show f.cells.take (top * n) ++ setK ((f.cells.drop (top * n)).take (2 * n)) n (f.row - (top : Int)).toNat (putL (rowK ((f.cells.drop (top * n)).take (2 * n)) n (f.row - (top : Int)).toNat) f.col.toNat r (ofN r) s) ++ _ = setK f.cells n f.row.toNat (putL (rowK f.cells n f.row.toNat) f.col.toNat r (ofN r) s)
    obtain ⟨k, hk⟩ : ∃ k : Nat, f.row - (top : Int) = (k : Int) := ⟨(f.row - (top : Int)).toNat, by omega⟩
    rw [hk, Int.toNat_natCast, show f.row.toNat = top + k by omega, two_row (by omega), setK_two _ (by omega) (by omega)]
  · show f.cells.take (top * n) ++ (f.cells.drop (top * n)).take (2 * n) ++ f.cells.drop (top * n + 2 * n) = f.cells
    rw [List.append_assoc, show f.cells.drop (top * n + 2 * n) = (f.cells.drop (top * n)).drop (2 * n) by rw [List.drop_drop], List.take_append_drop, List.take_append_drop]
end Go.Proofs.YtpkjaallhhjleaaGreatDoor

/-
  grids.Put: what it returns, and lays: for every frame, every rune.
-/
namespace Go.Proofs.YtpkjaallhhjleaaGreatDoor
open Go.RowKit

theorem gput_any {ok : Nat → Prop} {v : Value} {f : Frm} (row col r : Int) (s : Sty) (w : World) (h : FrameW ok w v f) (hL : LaidW w) :
    Calls Tryz.prog 117 #[v, .int .i64 row, .int .i64 col, .int .i32 r, .agg #[.int .i64 s.1, .bool s.2.1, .bool s.2.2.1, .bool s.2.2.2]] w fun e w' => ∃ v', e = .returned v' ∧ FrameW AnyB w' v' (putF f row col r s) ∧ Below w.heap.size w w' := by
  obtain ⟨ao, N, cap, rfl, hn, hcap, hS⟩ := h
  unfold putF
  cases hv : validB f with
  | false => exact (put_bad f row col r s w hS hn hcap hv hL).mono fun e w' ⟨h1, h2⟩ => ⟨_, h1, FrameW.zero _ _, h2⟩
  | true =>
    have hf := valid_ok hv
    have hpos : 0 < f.cells.length := by
      have h1 := hf.len; have h2 := hf.hm; have h3 := hf.hn
      rw [h1]; exact Nat.mul_pos (by omega) (by omega)
    obtain ⟨g, o, rfl, _⟩ := hS.ptr (i := 0) (List.getElem?_eq_getElem hpos)
    rw [if_pos rfl]
    cases hc : canB f row col r s with
    | true =>
      rw [if_pos rfl]
      obtain ⟨c1, ⟨c2, c3, c4, c5⟩, c6, c7⟩ := (canB_iff _ _ _ _ _).1 hc
      obtain ⟨k, rfl⟩ : ∃ k : Nat, row = (k : Int) := ⟨row.toNat, by omega⟩
      obtain ⟨j, rfl⟩ : ∃ j : Nat, col = (j : Int) := ⟨col.toNat, by omega⟩
      by_cases h2 : ofN r = 2
      · exact put_two k j r s w hf hn hcap hS hL hc h2
      · exact put_one k j r s w hf hn hcap hS hL hc h2
    | false =>
      rw [if_neg (by decide)]
      by_cases h0 : ofN r = 0
      · exact put_no0 row col r s w hf hn hcap hS hL h0
      cases h1 : withinB f.rows f.cols row col with
      | false => exact put_no1 row col r s w hf hn hcap hS hL h0 h1
      | true =>
        by_cases h2 : col + (ofN r : Int) ≤ f.cols
        · cases h3 : styB s with
          | false => exact put_no3 row col r s w hf hn hcap hS hL h0 h1 h2 h3
          | true => rw [(canB_iff _ _ _ _ _).2 ⟨by omega, (withinB_iff _ _ _ _).1 h1, h2, h3⟩] at hc; cases hc
        · exact put_no2 row col r s w hf hn hcap hS hL h1 (by omega)
end Go.Proofs.YtpkjaallhhjleaaGreatDoor

/-
  term: put: what it leaves: the two rows about the cursor are put into, and laid back.
-/
namespace Go.Proofs.YtpkjaallhhjleaaGreatDoor
open Go.RowKit

/-- What a cut of a slice of cells is, up to a place. -/
theorem run_upto (G p N cap k : Nat) (W : World) (hk : k ≤ cap) : (Instr.slice 33 (.slice (some ⟨G, p, none⟩) N cap) none (some (.int .i64 (k : Int))) none).run Tryz.prog W = .ok (.slice (some ⟨G, p, none⟩) k cap) W := by
  have h1 : (k : Int) ≤ (cap : Int) := by omega
  have h2 : (0 : Int) ≤ (k : Int) := by omega
  simp [go_sem, h1, h2]
set_option maxRecDepth 100000 in
theorem run_cells (W : World) (a1 a2 : Int) (a3 : Option Addr) (d c3 : Nat) (a4 a5 : Int) : (Instr.field 35 (.agg #[.int .i64 a1, .int .i64 a2, .slice a3 d c3, .int .i64 a4, .int .i64 a5]) 2).run Tryz.prog W = .ok (.slice a3 d c3) W := by kernel_rfl
section
variable {w0 : World} {B G N cap : Nat} {t : Tm}

set_option maxRecDepth 20000 in
set_option maxHeartbeats 8000000 in
theorem tput_A {m n : Nat} (i : Nat) (r : Int) (w : World) (h : TmS w0 w B G N cap t) (hok : OkF t.f m n) (hL : LaidW w0) (hi : t.f.row = (i : Int)) (ht : i + 2 ≤ m) :
    Calls Tryz.prog 92 #[.pointer (some ⟨B, 0, none⟩), .int .i32 r] w (TmD w0 w B G N cap { t with f := putF t.f t.f.row t.f.col r t.sty }) := by
  have hm := hok.hm
  have hn := hok.hn
  have hlen := h.len
  have hcap := h.cap
  have hrow := hok.row
  have hrows := hok.rows
  have hT2 : i + 2 ≤ m := by omega
  have hr2 := row_room (n := n) (show i + 1 < m by omega)
  rw [Nat.add_mul, Nat.one_mul] at hr2
  have hNn : m * n = N := by rw [← hlen, hok.len]
  have hroom : N ≤ 20000 := by rw [← hlen]; exact hok.room
  obtain ⟨P, hP⟩ : ∃ P, i * n = P := ⟨_, rfl⟩
  rw [hP] at hr2
  have hmul : (i : Int) * (n : Int) = (P : Int) := by rw [← hP, Int.natCast_mul]
  obtain ⟨D2, hD2⟩ : ∃ D2, 2 * n = D2 := ⟨_, rfl⟩
  have h2n : (2 : Int) * (n : Int) = (D2 : Int) := by omega
  have hs1 : ∀ W, (Instr.slice 33 (.slice (some ⟨G, 0, none⟩) N cap) (some (.int .i64 (P : Int))) none none).run Tryz.prog W = .ok (.slice (some ⟨G, P * 6, none⟩) (N - P) (cap - P)) W := fun W => by
    have := run_from G 0 N cap P W (by omega) (by omega)
    rwa [Nat.zero_add] at this
  have hs2 : ∀ W, (Instr.slice 33 (.slice (some ⟨G, P * 6, none⟩) (N - P) (cap - P)) none (some (.int .i64 (D2 : Int))) none).run Tryz.prog W = .ok (.slice (some ⟨G, P * 6, none⟩) (D2) (cap - P)) W := fun W => run_upto G (P * 6) (N - P) (cap - P) (D2) W (by omega)
  have hpu := put_pair hok hT2 (by omega) (by omega) r t.sty
  have hp2 := two_ok hok hT2 (by omega) (by omega)
  have hpk := put_okF hp2 (t.f.row - (i : Int)) t.f.col r t.sty
  have hcz := hok.cols
  rw [hP, hD2] at hpu
  have hsub : twoF t.f n i = ⟨2, (n : Int), (t.f.cells.drop P).take (D2), 0, t.f.col⟩ := by unfold twoF; rw [hP, hcz, hi, hD2]; congr 1; omega
  have hJ : t.f.row - (i : Int) = 0 := by omega
  rw [hJ, hsub] at hpu hpk
  obtain ⟨M, hM⟩ : ∃ M, putF ⟨2, (n : Int), (t.f.cells.drop P).take (D2), 0, t.f.col⟩ 0 t.f.col r t.sty = M := ⟨_, rfl⟩
  rw [hM] at hpu hpk
  have hMl : M.cells.length = D2 := by rw [hpk.len]; exact hD2
  -- the call of grids.Put, whatever lies about it
  have HPut : Hid (∀ W, Below w.heap.size w W → Calls Tryz.prog 117 #[.agg #[.int .i64 2, .int .i64 (n : Int), .slice (some ⟨G, P * 6, none⟩) (D2) (cap - P), .int .i64 0, .int .i64 t.f.col], .int .i64 0, .int .i64 t.f.col, .int .i32 r, .agg #[.int .i64 t.sty.1, .bool t.sty.2.1, .bool t.sty.2.2.1, .bool t.sty.2.2.2]] W fun e w' => ∃ a1 a2 a3 c3 a4 a5, e = .returned (.agg #[.int .i64 a1, .int .i64 a2, .slice a3 (D2) c3, .int .i64 a4, .int .i64 a5]) ∧ CelsW AnyB w' (.slice a3 (D2) c3) M.cells ∧ Below W.heap.size W w') := fun W hW => by
    have hSW := h.next hW
    obtain ⟨zs, hz⟩ := hSW.blk
    have hfr : FrameW AnyB W (.agg #[.int .i64 2, .int .i64 (n : Int), .slice (some ⟨G, P * 6, none⟩) (D2) (cap - P), .int .i64 0, .int .i64 t.f.col]) ⟨2, (n : Int), (t.f.cells.drop P).take (D2), 0, t.f.col⟩ :=
      ⟨_, D2, cap - P, rfl, by show D2 = ((t.f.cells.drop P).take (D2)).length; rw [List.length_take, List.length_drop]; omega, by omega, hz.part trivial (by omega) (by omega)⟩
    have := gput_any 0 t.f.col r t.sty W hfr (hL.below hSW.below)
    rw [hM] at this
    refine this.mono fun e w' ⟨v', k1, ⟨ao, nn, cp, k2, k3, _, k4⟩, k5⟩ => ?_
    rw [k3, hMl] at k2 k4
    subst k2
    exact ⟨_, _, _, _, _, _, k1, k4, k5⟩
  -- what is left behind the copy
  have HEnd : Hid (∀ W ao c3, Below w.heap.size w W → CelsW AnyB W (.slice ao (D2) c3) M.cells → ∃ zs, blkL W G t.f.cells zs ∧ min (D2) (D2) = D2 ∧ 0 < D2 ∧ P + D2 ≤ t.f.cells.length ∧ ∀ W', Hid (blkL W' G (t.f.cells.take P ++ M.cells.take (D2) ++ t.f.cells.drop (P + D2)) zs) → Hid (KeepW (fun j => j ≠ G) W W') → TmS w0 W' B G N cap { t with f := putF t.f t.f.row t.f.col r t.sty } ∧ KeepW (NotBG B G) w W') := fun W ao c3 hW hC => by
    have hSW := h.next hW
    obtain ⟨zs, hz⟩ := hSW.blk
    refine ⟨zs, hz, Nat.min_self _, by omega, by omega, fun W' hb' hk' => ?_⟩
    have hb := hb'.out
    have hk := hk'.out
    rw [List.take_of_length_le (show M.cells.length ≤ D2 by omega), hpu] at hb
    obtain ⟨e1, e2⟩ := put_curs hok t.f.row t.f.col r t.sty
    have hpo := put_okF hok t.f.row t.f.col r t.sty
    have hS := hSW.celled hk hb (by rw [hpo.len, hNn])
    refine ⟨?_, (keep_below _ hW).trans (hk.mono fun k _ hk => hk.2)⟩
    have e3 : ({ t.f with cells := (putF t.f t.f.row t.f.col r t.sty).cells } : Frm) = putF t.f t.f.row t.f.col r t.sty := by
      obtain ⟨c1, c2⟩ := And.intro hpo.rows hpo.cols
      cases hq : putF t.f t.f.row t.f.col r t.sty
      rw [hq] at e1 e2 c1 c2
      simp only [Frm.mk.injEq] at *
      exact ⟨hok.rows.trans c1.symm, hok.cols.trans c2.symm, trivial, e1.symm, e2.symm⟩
    rwa [e3] at hS
  have HWs : Hid (∀ W1 W2 W3, w.alloc (.cells #[.int .i64 2, .int .i64 (n : Int), .slice (some ⟨G, 0, none⟩) N cap, .int .i64 0, .int .i64 t.f.col] 35) = W1 → W1.drew = W2 → W2.setCell ⟨w.heap.size, 2, none⟩ (.slice (some ⟨G, P * 6, none⟩) (D2) (cap - P)) = W3 →
      frB W1 w.heap.size 2 (n : Int) (.slice (some ⟨G, 0, none⟩) N cap) 0 t.f.col ∧ frB W2 w.heap.size 2 (n : Int) (.slice (some ⟨G, 0, none⟩) N cap) 0 t.f.col ∧ Below w.heap.size w W3 ∧
      ∀ V, Below W3.heap.size W3 V → (V.cell? ⟨w.heap.size, 0, none⟩ = some (.int .i64 2) ∧ V.cell? ⟨w.heap.size, 1, none⟩ = some (.int .i64 (n : Int)) ∧ V.cell? ⟨w.heap.size, 2, none⟩ = some (.slice (some ⟨G, P * 6, none⟩) (D2) (cap - P)) ∧ V.cell? ⟨w.heap.size, 3, none⟩ = some (.int .i64 0) ∧ V.cell? ⟨w.heap.size, 4, none⟩ = some (.int .i64 t.f.col)) ∧
        (V.cell? ⟨B, 5, none⟩ = some (.int .i64 t.sty.1) ∧ V.cell? ⟨B, 6, none⟩ = some (.bool t.sty.2.1) ∧ V.cell? ⟨B, 7, none⟩ = some (.bool t.sty.2.2.1) ∧ V.cell? ⟨B, 8, none⟩ = some (.bool t.sty.2.2.2))) := fun W1 W2 W3 h1 h2 h3 => by
    have f1 : frB W1 w.heap.size 2 (n : Int) (.slice (some ⟨G, 0, none⟩) N cap) 0 t.f.col := by rw [← h1]; exact frB.new w
    have b1 : Below w.heap.size w W1 := by rw [← h1]; exact (Below.refl _ w).alloc (Nat.le_refl _) _
    have b2 : Below W1.heap.size W1 W2 := by rw [← h2]; exact (Below.refl _ _).drew
    have f2 := f1.below b2 f1.lt
    have f3 := f2.set2 (.slice (some ⟨G, P * 6, none⟩) (D2) (cap - P))
    have k3 := keep_set (ok := fun k => k ≠ w.heap.size) w.heap.size 2 none (.slice (some ⟨G, P * 6, none⟩) (D2) (cap - P)) W2 (fun k => k rfl)
    rw [h3] at f3 k3
    have b12 := b1.trans (b2.mono b1.size)
    have b3 : Below w.heap.size w W3 := KeepW.below b12 k3 b12.size fun k hk => by omega
    exact ⟨f1, f2, b3, fun V hV => ⟨(f3.below hV f3.lt).cells.1, (h.next (b3.trans (hV.mono b3.size))).box.cells.2.1⟩⟩
  obtain ⟨⟨x0, x1, x2, x3, x4⟩, ⟨y0, y1, y2, y3⟩, _, _⟩ := h.box.cells
  have hlt := h.box.lt
  obtain ⟨R, hR⟩ : ∃ R, TmD w0 w B G N cap { t with f := putF t.f t.f.row t.f.col r t.sty } = R := ⟨_, rfl⟩
  have HR := Lib.hid hR
  rw [hR]
  have HM2 : Hid (M.cells.length = D2) := hMl
  rw [hrows] at x0
  rw [hcz] at x1
  rw [hi] at x3
  have j1 : (i : Int) ≤ (m : Int) - 2 := by omega
  have HBox : Hid (Below w.heap.size w ((w.alloc (.cells #[.int .i64 2, .int .i64 (n : Int), .slice (some ⟨G, P * 6, none⟩) (D2) (cap - P), .int .i64 0, .int .i64 t.f.col] 35)))) := (Below.refl _ w).alloc (Nat.le_refl _) _
  obtain ⟨m1, m2⟩ := hm
  obtain ⟨n1, n2⟩ := hn
  have hi0 : i ≤ 100 := by omega
  have pb : (P : Int) ≤ 20000 := by omega
  have wd : IntKind.i64.wrap (D2 : Int) = (D2 : Int) := by rw [IntWalk.i64_in _ (by omega)]
  have wp : IntKind.i64.wrap (P : Int) = (P : Int) := by rw [IntWalk.i64_in _ (by omega)]
  have HneB : Hid (B ≠ G) := h.ne
  have HneW : Hid (w.heap.size ≠ G) := by have := h.gt; show _ ≠ _; omega
  have hfl := fun W a1 a2 a3 c3 a4 a5 => run_cells W a1 a2 a3 D2 c3 a4 a5
  clear hD2 h hok hL hrow hrows hr2 hNn hP hpu hp2 hpk hcz hsub hJ hM hMl hR hi hlen

  go_enter Tryz.func92, Tryz.ntmps92
  go_wp2_with fail
  all_goals first | (exfalso; omega) | skip
  obtain ⟨W1, hW1⟩ : ∃ W1, w.alloc (.cells #[.int .i64 2, .int .i64 (n : Int), .slice (some ⟨G, 0, none⟩) N cap, .int .i64 0, .int .i64 t.f.col] 35) = W1 := ⟨_, rfl⟩
  obtain ⟨W2, hW2⟩ : ∃ W2, W1.drew = W2 := ⟨_, rfl⟩
  obtain ⟨W3, hW3⟩ : ∃ W3, W2.setCell ⟨w.heap.size, 2, none⟩ (.slice (some ⟨G, P * 6, none⟩) (D2) (cap - P)) = W3 := ⟨_, rfl⟩
  obtain ⟨f1, f2, hb3, HC⟩ := HWs.out W1 W2 W3 hW1 hW2 hW3
  have HC := Lib.hid HC
  rw [hW1]
  obtain ⟨⟨z0, z1, z2, z3, z4⟩, _⟩ := f1.cells
  obtain ⟨⟨u0, u1, u2, u3, u4⟩, v0, v1, v2, v3, v4⟩ := f2.cells
  have hl1 := f1.lt
  have hl2 := f2.lt
  clear HWs f1 f2
  go_still_tail 14, (by kernel_rfl)
  change wpList _ _ _ _ _ W1.drew
  rw [hW2]
  have HP2 : Hid (∀ V, Below W3.heap.size W3 V → Calls Tryz.prog 117 #[.agg #[.int .i64 2, .int .i64 (n : Int), .slice (some ⟨G, P * 6, none⟩) (D2) (cap - P), .int .i64 0, .int .i64 t.f.col], .int .i64 0, .int .i64 t.f.col, .int .i32 r, .agg #[.int .i64 t.sty.1, .bool t.sty.2.1, .bool t.sty.2.2.1, .bool t.sty.2.2.2]] V fun e w' => ∃ a1 a2 a3 c3 a4 a5, e = .returned (.agg #[.int .i64 a1, .int .i64 a2, .slice a3 (D2) c3, .int .i64 a4, .int .i64 a5]) ∧ CelsW AnyB w' (.slice a3 (D2) c3) M.cells ∧ Below W3.heap.size W3 w') := fun V hV => (HPut.out V (hb3.trans (hV.mono hb3.size))).mono fun e w' ⟨a1, a2, a3, c3, a4, a5, k1, k2, k3⟩ => ⟨a1, a2, a3, c3, a4, a5, k1, k2, hV.trans (k3.mono hV.size)⟩
  have HE2 : Hid (∀ V ao c3, Below W3.heap.size W3 V → CelsW AnyB V (.slice ao (D2) c3) M.cells → ∃ zs, blkL V G t.f.cells zs ∧ min (D2) (D2) = D2 ∧ 0 < D2 ∧ P + D2 ≤ t.f.cells.length ∧ ∀ W', Hid (blkL W' G (t.f.cells.take P ++ M.cells.take (D2) ++ t.f.cells.drop (P + D2)) zs) → Hid (KeepW (fun j => j ≠ G) V W') → TmS w0 W' B G N cap { t with f := putF t.f t.f.row t.f.col r t.sty } ∧ KeepW (NotBG B G) w W') := fun V ao c3 hV => HEnd.out V ao c3 (hb3.trans (hV.mono hb3.size))
  have HCK : Hid (∀ V V', Below W3.heap.size W3 V → KeepW (fun j => j ≠ G) V V' → (V'.cell? ⟨w.heap.size, 0, none⟩ = some (.int .i64 2) ∧ V'.cell? ⟨w.heap.size, 1, none⟩ = some (.int .i64 (n : Int)) ∧ V'.cell? ⟨w.heap.size, 2, none⟩ = some (.slice (some ⟨G, P * 6, none⟩) (D2) (cap - P)) ∧ V'.cell? ⟨w.heap.size, 3, none⟩ = some (.int .i64 0) ∧ V'.cell? ⟨w.heap.size, 4, none⟩ = some (.int .i64 t.f.col)) ∧
        (V'.cell? ⟨B, 5, none⟩ = some (.int .i64 t.sty.1) ∧ V'.cell? ⟨B, 6, none⟩ = some (.bool t.sty.2.1) ∧ V'.cell? ⟨B, 7, none⟩ = some (.bool t.sty.2.2.1) ∧ V'.cell? ⟨B, 8, none⟩ = some (.bool t.sty.2.2.2))) := fun V V' hV hk => by
    obtain ⟨⟨a0, a1, a2, a3, a4⟩, b0, b1, b2, b3⟩ := HC.out V hV
    exact ⟨⟨hk.cell a0 HneW.out, hk.cell a1 HneW.out, hk.cell a2 HneW.out, hk.cell a3 HneW.out, hk.cell a4 HneW.out⟩, hk.cell b0 HneB.out, hk.cell b1 HneB.out, hk.cell b2 HneB.out, hk.cell b3 HneB.out⟩
  clear HPut HEnd z0 z1 z2 z3 z4
  go_wp2_with fail
  try rw [hW3]
  have kk : Below W3.heap.size W3 W3.drew := (Below.refl _ _).drew
  clear u0 u1 u2 u3 u4 v0 v1 v2 v3 v4 hW1 hW2 hW3
  go_region_held3 (fun V => (V.cell? ⟨w.heap.size, 0, none⟩ = some (.int .i64 2) ∧ V.cell? ⟨w.heap.size, 1, none⟩ = some (.int .i64 (n : Int)) ∧ V.cell? ⟨w.heap.size, 2, none⟩ = some (.slice (some ⟨G, P * 6, none⟩) (D2) (cap - P)) ∧ V.cell? ⟨w.heap.size, 3, none⟩ = some (.int .i64 0) ∧ V.cell? ⟨w.heap.size, 4, none⟩ = some (.int .i64 t.f.col)) ∧
        (V.cell? ⟨B, 5, none⟩ = some (.int .i64 t.sty.1) ∧ V.cell? ⟨B, 6, none⟩ = some (.bool t.sty.2.1) ∧ V.cell? ⟨B, 7, none⟩ = some (.bool t.sty.2.2.1) ∧ V.cell? ⟨B, 8, none⟩ = some (.bool t.sty.2.2.2)))
    (first | with_reducible exact HC.out _ kk | exact HCK.out _ _ kk hk4.out)
    (first
      | (go_at_call 117; go_fit (HP2.out _ ?_); (with_reducible exact kk); rintro e vv ⟨a1, a2, a3, c3, a4, a5, rfl, hC, kk⟩; obtain ⟨zs, q1, q2, q3, q4, HX⟩ := HE2.out _ _ _ kk hC; have Q1 := Lib.hid q1; have QC := Lib.hid hC; have HX := Lib.hid HX; clear q1 hC)
      | (refine step_copy6 (p := P) (k := D2) (by rfl) (.tmp 37) (.tmp 49) (by rfl) (by rfl) (by rfl) (M := t.f.cells) (l := M.cells) Q1.out QC.out HM2.out q2 q3 q4 ?_; intro w4 hg4 hk4))
  all_goals
    obtain ⟨HX1, HX2⟩ := HX.out w4 hg4 hk4
    rw [← HR.out]
    go_end0
    exact ⟨rfl, HX1, HX2⟩

set_option maxRecDepth 20000 in
set_option maxHeartbeats 8000000 in
theorem tput_B {m n : Nat} (i T0 : Nat) (r : Int) (w : World) (h : TmS w0 w B G N cap t) (hok : OkF t.f m n) (hL : LaidW w0) (hi : t.f.row = (i : Int)) (ht : T0 + 2 = m) (hiT : i ≤ T0 + 1) (hiT2 : T0 + 1 ≤ i) :
    Calls Tryz.prog 92 #[.pointer (some ⟨B, 0, none⟩), .int .i32 r] w (TmD w0 w B G N cap { t with f := putF t.f t.f.row t.f.col r t.sty }) := by
  have hm := hok.hm
  have hn := hok.hn
  have hlen := h.len
  have hcap := h.cap
  have hrow := hok.row
  have hrows := hok.rows
  have hT2 : T0 + 2 ≤ m := by omega
  have hr2 := row_room (n := n) (show T0 + 1 < m by omega)
  rw [Nat.add_mul, Nat.one_mul] at hr2
  have hNn : m * n = N := by rw [← hlen, hok.len]
  have hroom : N ≤ 20000 := by rw [← hlen]; exact hok.room
  obtain ⟨P, hP⟩ : ∃ P, T0 * n = P := ⟨_, rfl⟩
  rw [hP] at hr2
  have hmul : (T0 : Int) * (n : Int) = (P : Int) := by rw [← hP, Int.natCast_mul]
  obtain ⟨D2, hD2⟩ : ∃ D2, 2 * n = D2 := ⟨_, rfl⟩
  have h2n : (2 : Int) * (n : Int) = (D2 : Int) := by omega
  have hs1 : ∀ W, (Instr.slice 33 (.slice (some ⟨G, 0, none⟩) N cap) (some (.int .i64 (P : Int))) none none).run Tryz.prog W = .ok (.slice (some ⟨G, P * 6, none⟩) (N - P) (cap - P)) W := fun W => by
    have := run_from G 0 N cap P W (by omega) (by omega)
    rwa [Nat.zero_add] at this
  have hs2 : ∀ W, (Instr.slice 33 (.slice (some ⟨G, P * 6, none⟩) (N - P) (cap - P)) none (some (.int .i64 (D2 : Int))) none).run Tryz.prog W = .ok (.slice (some ⟨G, P * 6, none⟩) (D2) (cap - P)) W := fun W => run_upto G (P * 6) (N - P) (cap - P) (D2) W (by omega)
  have hpu := put_pair hok hT2 (by omega) (by omega) r t.sty
  have hp2 := two_ok hok hT2 (by omega) (by omega)
  have hpk := put_okF hp2 (t.f.row - (T0 : Int)) t.f.col r t.sty
  have hcz := hok.cols
  rw [hP, hD2] at hpu
  have hsub : twoF t.f n T0 = ⟨2, (n : Int), (t.f.cells.drop P).take (D2), 1, t.f.col⟩ := by unfold twoF; rw [hP, hcz, hi, hD2]; congr 1; omega
  have hJ : t.f.row - (T0 : Int) = 1 := by omega
  rw [hJ, hsub] at hpu hpk
  obtain ⟨M, hM⟩ : ∃ M, putF ⟨2, (n : Int), (t.f.cells.drop P).take (D2), 1, t.f.col⟩ 1 t.f.col r t.sty = M := ⟨_, rfl⟩
  rw [hM] at hpu hpk
  have hMl : M.cells.length = D2 := by rw [hpk.len]; exact hD2
  -- the call of grids.Put, whatever lies about it
  have HPut : Hid (∀ W, Below w.heap.size w W → Calls Tryz.prog 117 #[.agg #[.int .i64 2, .int .i64 (n : Int), .slice (some ⟨G, P * 6, none⟩) (D2) (cap - P), .int .i64 1, .int .i64 t.f.col], .int .i64 1, .int .i64 t.f.col, .int .i32 r, .agg #[.int .i64 t.sty.1, .bool t.sty.2.1, .bool t.sty.2.2.1, .bool t.sty.2.2.2]] W fun e w' => ∃ a1 a2 a3 c3 a4 a5, e = .returned (.agg #[.int .i64 a1, .int .i64 a2, .slice a3 (D2) c3, .int .i64 a4, .int .i64 a5]) ∧ CelsW AnyB w' (.slice a3 (D2) c3) M.cells ∧ Below W.heap.size W w') := fun W hW => by
    have hSW := h.next hW
    obtain ⟨zs, hz⟩ := hSW.blk
    have hfr : FrameW AnyB W (.agg #[.int .i64 2, .int .i64 (n : Int), .slice (some ⟨G, P * 6, none⟩) (D2) (cap - P), .int .i64 1, .int .i64 t.f.col]) ⟨2, (n : Int), (t.f.cells.drop P).take (D2), 1, t.f.col⟩ :=
      ⟨_, D2, cap - P, rfl, by show D2 = ((t.f.cells.drop P).take (D2)).length; rw [List.length_take, List.length_drop]; omega, by omega, hz.part trivial (by omega) (by omega)⟩
    have := gput_any 1 t.f.col r t.sty W hfr (hL.below hSW.below)
    rw [hM] at this
    refine this.mono fun e w' ⟨v', k1, ⟨ao, nn, cp, k2, k3, _, k4⟩, k5⟩ => ?_
    rw [k3, hMl] at k2 k4
    subst k2
    exact ⟨_, _, _, _, _, _, k1, k4, k5⟩
  -- what is left behind the copy
  have HEnd : Hid (∀ W ao c3, Below w.heap.size w W → CelsW AnyB W (.slice ao (D2) c3) M.cells → ∃ zs, blkL W G t.f.cells zs ∧ min (D2) (D2) = D2 ∧ 0 < D2 ∧ P + D2 ≤ t.f.cells.length ∧ ∀ W', Hid (blkL W' G (t.f.cells.take P ++ M.cells.take (D2) ++ t.f.cells.drop (P + D2)) zs) → Hid (KeepW (fun j => j ≠ G) W W') → TmS w0 W' B G N cap { t with f := putF t.f t.f.row t.f.col r t.sty } ∧ KeepW (NotBG B G) w W') := fun W ao c3 hW hC => by
    have hSW := h.next hW
    obtain ⟨zs, hz⟩ := hSW.blk
    refine ⟨zs, hz, Nat.min_self _, by omega, by omega, fun W' hb' hk' => ?_⟩
    have hb := hb'.out
    have hk := hk'.out
    rw [List.take_of_length_le (show M.cells.length ≤ D2 by omega), hpu] at hb
    obtain ⟨e1, e2⟩ := put_curs hok t.f.row t.f.col r t.sty
    have hpo := put_okF hok t.f.row t.f.col r t.sty
    have hS := hSW.celled hk hb (by rw [hpo.len, hNn])
    refine ⟨?_, (keep_below _ hW).trans (hk.mono fun k _ hk => hk.2)⟩
    have e3 : ({ t.f with cells := (putF t.f t.f.row t.f.col r t.sty).cells } : Frm) = putF t.f t.f.row t.f.col r t.sty := by
      obtain ⟨c1, c2⟩ := And.intro hpo.rows hpo.cols
      cases hq : putF t.f t.f.row t.f.col r t.sty
      rw [hq] at e1 e2 c1 c2
      simp only [Frm.mk.injEq] at *
      exact ⟨hok.rows.trans c1.symm, hok.cols.trans c2.symm, trivial, e1.symm, e2.symm⟩
    rwa [e3] at hS
  have HWs : Hid (∀ W1 W2 W3, w.alloc (.cells #[.int .i64 2, .int .i64 (n : Int), .slice (some ⟨G, 0, none⟩) N cap, .int .i64 1, .int .i64 t.f.col] 35) = W1 → W1.drew = W2 → W2.setCell ⟨w.heap.size, 2, none⟩ (.slice (some ⟨G, P * 6, none⟩) (D2) (cap - P)) = W3 →
      frB W1 w.heap.size 2 (n : Int) (.slice (some ⟨G, 0, none⟩) N cap) 1 t.f.col ∧ frB W2 w.heap.size 2 (n : Int) (.slice (some ⟨G, 0, none⟩) N cap) 1 t.f.col ∧ Below w.heap.size w W3 ∧
      ∀ V, Below W3.heap.size W3 V → (V.cell? ⟨w.heap.size, 0, none⟩ = some (.int .i64 2) ∧ V.cell? ⟨w.heap.size, 1, none⟩ = some (.int .i64 (n : Int)) ∧ V.cell? ⟨w.heap.size, 2, none⟩ = some (.slice (some ⟨G, P * 6, none⟩) (D2) (cap - P)) ∧ V.cell? ⟨w.heap.size, 3, none⟩ = some (.int .i64 1) ∧ V.cell? ⟨w.heap.size, 4, none⟩ = some (.int .i64 t.f.col)) ∧
        (V.cell? ⟨B, 5, none⟩ = some (.int .i64 t.sty.1) ∧ V.cell? ⟨B, 6, none⟩ = some (.bool t.sty.2.1) ∧ V.cell? ⟨B, 7, none⟩ = some (.bool t.sty.2.2.1) ∧ V.cell? ⟨B, 8, none⟩ = some (.bool t.sty.2.2.2))) := fun W1 W2 W3 h1 h2 h3 => by
    have f1 : frB W1 w.heap.size 2 (n : Int) (.slice (some ⟨G, 0, none⟩) N cap) 1 t.f.col := by rw [← h1]; exact frB.new w
    have b1 : Below w.heap.size w W1 := by rw [← h1]; exact (Below.refl _ w).alloc (Nat.le_refl _) _
    have b2 : Below W1.heap.size W1 W2 := by rw [← h2]; exact (Below.refl _ _).drew
    have f2 := f1.below b2 f1.lt
    have f3 := f2.set2 (.slice (some ⟨G, P * 6, none⟩) (D2) (cap - P))
    have k3 := keep_set (ok := fun k => k ≠ w.heap.size) w.heap.size 2 none (.slice (some ⟨G, P * 6, none⟩) (D2) (cap - P)) W2 (fun k => k rfl)
    rw [h3] at f3 k3
    have b12 := b1.trans (b2.mono b1.size)
    have b3 : Below w.heap.size w W3 := KeepW.below b12 k3 b12.size fun k hk => by omega
    exact ⟨f1, f2, b3, fun V hV => ⟨(f3.below hV f3.lt).cells.1, (h.next (b3.trans (hV.mono b3.size))).box.cells.2.1⟩⟩
  obtain ⟨⟨x0, x1, x2, x3, x4⟩, ⟨y0, y1, y2, y3⟩, _, _⟩ := h.box.cells
  have hlt := h.box.lt
  obtain ⟨R, hR⟩ : ∃ R, TmD w0 w B G N cap { t with f := putF t.f t.f.row t.f.col r t.sty } = R := ⟨_, rfl⟩
  have HR := Lib.hid hR
  rw [hR]
  have HM2 : Hid (M.cells.length = D2) := hMl
  rw [hrows] at x0
  rw [hcz] at x1
  rw [hi] at x3
  have j1 : (i : Int) > (m : Int) - 2 := by omega
  have HBox : Hid (Below w.heap.size w ((w.alloc (.cells #[.int .i64 2, .int .i64 (n : Int), .slice (some ⟨G, P * 6, none⟩) (D2) (cap - P), .int .i64 1, .int .i64 t.f.col] 35)))) := (Below.refl _ w).alloc (Nat.le_refl _) _
  obtain ⟨m1, m2⟩ := hm
  obtain ⟨n1, n2⟩ := hn
  have hi0 : i ≤ 100 := by omega
  have pb : (P : Int) ≤ 20000 := by omega
  have wd : IntKind.i64.wrap (D2 : Int) = (D2 : Int) := by rw [IntWalk.i64_in _ (by omega)]
  have wp : IntKind.i64.wrap (P : Int) = (P : Int) := by rw [IntWalk.i64_in _ (by omega)]
  have HneB : Hid (B ≠ G) := h.ne
  have HneW : Hid (w.heap.size ≠ G) := by have := h.gt; show _ ≠ _; omega
  have hfl := fun W a1 a2 a3 c3 a4 a5 => run_cells W a1 a2 a3 D2 c3 a4 a5
  clear hD2 h hok hL hrow hrows hr2 hNn hP hpu hp2 hpk hcz hsub hJ hM hMl hR hi hlen
  have e5 : (m : Int) - 2 = (T0 : Int) := by omega
  have e6 : (i : Int) - (T0 : Int) = 1 := by omega
  go_enter Tryz.func92, Tryz.ntmps92
  go_wp2_with fail
  all_goals first | (exfalso; omega) | skip
  obtain ⟨W1, hW1⟩ : ∃ W1, w.alloc (.cells #[.int .i64 2, .int .i64 (n : Int), .slice (some ⟨G, 0, none⟩) N cap, .int .i64 1, .int .i64 t.f.col] 35) = W1 := ⟨_, rfl⟩
  obtain ⟨W2, hW2⟩ : ∃ W2, W1.drew = W2 := ⟨_, rfl⟩
  obtain ⟨W3, hW3⟩ : ∃ W3, W2.setCell ⟨w.heap.size, 2, none⟩ (.slice (some ⟨G, P * 6, none⟩) (D2) (cap - P)) = W3 := ⟨_, rfl⟩
  obtain ⟨f1, f2, hb3, HC⟩ := HWs.out W1 W2 W3 hW1 hW2 hW3
  have HC := Lib.hid HC
  rw [hW1]
  obtain ⟨⟨z0, z1, z2, z3, z4⟩, _⟩ := f1.cells
  obtain ⟨⟨u0, u1, u2, u3, u4⟩, v0, v1, v2, v3, v4⟩ := f2.cells
  have hl1 := f1.lt
  have hl2 := f2.lt
  clear HWs f1 f2
  go_still_tail 14, (by kernel_rfl)
  change wpList _ _ _ _ _ W1.drew
  rw [hW2]
  have HP2 : Hid (∀ V, Below W3.heap.size W3 V → Calls Tryz.prog 117 #[.agg #[.int .i64 2, .int .i64 (n : Int), .slice (some ⟨G, P * 6, none⟩) (D2) (cap - P), .int .i64 1, .int .i64 t.f.col], .int .i64 1, .int .i64 t.f.col, .int .i32 r, .agg #[.int .i64 t.sty.1, .bool t.sty.2.1, .bool t.sty.2.2.1, .bool t.sty.2.2.2]] V fun e w' => ∃ a1 a2 a3 c3 a4 a5, e = .returned (.agg #[.int .i64 a1, .int .i64 a2, .slice a3 (D2) c3, .int .i64 a4, .int .i64 a5]) ∧ CelsW AnyB w' (.slice a3 (D2) c3) M.cells ∧ Below W3.heap.size W3 w') := fun V hV => (HPut.out V (hb3.trans (hV.mono hb3.size))).mono fun e w' ⟨a1, a2, a3, c3, a4, a5, k1, k2, k3⟩ => ⟨a1, a2, a3, c3, a4, a5, k1, k2, hV.trans (k3.mono hV.size)⟩
  have HE2 : Hid (∀ V ao c3, Below W3.heap.size W3 V → CelsW AnyB V (.slice ao (D2) c3) M.cells → ∃ zs, blkL V G t.f.cells zs ∧ min (D2) (D2) = D2 ∧ 0 < D2 ∧ P + D2 ≤ t.f.cells.length ∧ ∀ W', Hid (blkL W' G (t.f.cells.take P ++ M.cells.take (D2) ++ t.f.cells.drop (P + D2)) zs) → Hid (KeepW (fun j => j ≠ G) V W') → TmS w0 W' B G N cap { t with f := putF t.f t.f.row t.f.col r t.sty } ∧ KeepW (NotBG B G) w W') := fun V ao c3 hV => HEnd.out V ao c3 (hb3.trans (hV.mono hb3.size))
  have HCK : Hid (∀ V V', Below W3.heap.size W3 V → KeepW (fun j => j ≠ G) V V' → (V'.cell? ⟨w.heap.size, 0, none⟩ = some (.int .i64 2) ∧ V'.cell? ⟨w.heap.size, 1, none⟩ = some (.int .i64 (n : Int)) ∧ V'.cell? ⟨w.heap.size, 2, none⟩ = some (.slice (some ⟨G, P * 6, none⟩) (D2) (cap - P)) ∧ V'.cell? ⟨w.heap.size, 3, none⟩ = some (.int .i64 1) ∧ V'.cell? ⟨w.heap.size, 4, none⟩ = some (.int .i64 t.f.col)) ∧
        (V'.cell? ⟨B, 5, none⟩ = some (.int .i64 t.sty.1) ∧ V'.cell? ⟨B, 6, none⟩ = some (.bool t.sty.2.1) ∧ V'.cell? ⟨B, 7, none⟩ = some (.bool t.sty.2.2.1) ∧ V'.cell? ⟨B, 8, none⟩ = some (.bool t.sty.2.2.2))) := fun V V' hV hk => by
    obtain ⟨⟨a0, a1, a2, a3, a4⟩, b0, b1, b2, b3⟩ := HC.out V hV
    exact ⟨⟨hk.cell a0 HneW.out, hk.cell a1 HneW.out, hk.cell a2 HneW.out, hk.cell a3 HneW.out, hk.cell a4 HneW.out⟩, hk.cell b0 HneB.out, hk.cell b1 HneB.out, hk.cell b2 HneB.out, hk.cell b3 HneB.out⟩
  clear HPut HEnd z0 z1 z2 z3 z4
  go_wp2_with fail
  try rw [hW3]
  have kk : Below W3.heap.size W3 W3.drew := (Below.refl _ _).drew
  clear u0 u1 u2 u3 u4 v0 v1 v2 v3 v4 hW1 hW2 hW3
  go_region_held3 (fun V => (V.cell? ⟨w.heap.size, 0, none⟩ = some (.int .i64 2) ∧ V.cell? ⟨w.heap.size, 1, none⟩ = some (.int .i64 (n : Int)) ∧ V.cell? ⟨w.heap.size, 2, none⟩ = some (.slice (some ⟨G, P * 6, none⟩) (D2) (cap - P)) ∧ V.cell? ⟨w.heap.size, 3, none⟩ = some (.int .i64 1) ∧ V.cell? ⟨w.heap.size, 4, none⟩ = some (.int .i64 t.f.col)) ∧
        (V.cell? ⟨B, 5, none⟩ = some (.int .i64 t.sty.1) ∧ V.cell? ⟨B, 6, none⟩ = some (.bool t.sty.2.1) ∧ V.cell? ⟨B, 7, none⟩ = some (.bool t.sty.2.2.1) ∧ V.cell? ⟨B, 8, none⟩ = some (.bool t.sty.2.2.2)))
    (first | with_reducible exact HC.out _ kk | exact HCK.out _ _ kk hk4.out)
    (first
      | (go_at_call 117; go_fit (HP2.out _ ?_); (with_reducible exact kk); rintro e vv ⟨a1, a2, a3, c3, a4, a5, rfl, hC, kk⟩; obtain ⟨zs, q1, q2, q3, q4, HX⟩ := HE2.out _ _ _ kk hC; have Q1 := Lib.hid q1; have QC := Lib.hid hC; have HX := Lib.hid HX; clear q1 hC)
      | (refine step_copy6 (p := P) (k := D2) (by rfl) (.tmp 37) (.tmp 49) (by rfl) (by rfl) (by rfl) (M := t.f.cells) (l := M.cells) Q1.out QC.out HM2.out q2 q3 q4 ?_; intro w4 hg4 hk4))
  all_goals
    obtain ⟨HX1, HX2⟩ := HX.out w4 hg4 hk4
    rw [← HR.out]
    go_end0
    exact ⟨rfl, HX1, HX2⟩
theorem tput_any {m n : Nat} (r : Int) (w : World) (h : TmS w0 w B G N cap t) (hok : OkF t.f m n) (hL : LaidW w0) :
    Calls Tryz.prog 92 #[.pointer (some ⟨B, 0, none⟩), .int .i32 r] w (TmD w0 w B G N cap { t with f := putF t.f t.f.row t.f.col r t.sty }) := by
  have hm := hok.hm
  have hrow := hok.row
  obtain ⟨i, hi⟩ : ∃ i : Nat, t.f.row = (i : Int) := ⟨t.f.row.toNat, by omega⟩
  by_cases hlt : i + 2 ≤ m
  · exact tput_A i r w h hok hL hi hlt
  · obtain ⟨T0, hT⟩ : ∃ T0, T0 + 2 = m := ⟨m - 2, by omega⟩
    exact tput_B i T0 r w h hok hL hi hT (by omega) (by omega)
end
end Go.Proofs.YtpkjaallhhjleaaGreatDoor

/-
  term: show: what it leaves.
-/
namespace Go.Proofs.YtpkjaallhhjleaaGreatDoor
open Go.RowKit

section
variable {w0 : World} {B G N cap : Nat} {t : Tm}

set_option maxRecDepth 20000 in
set_option maxHeartbeats 8000000 in
theorem tshow_W {m n : Nat} (r : Int) (w : World) (h : TmS w0 w B G N cap t) (hok : OkF t.f m n) (hL : LaidW w0) (hT : TBlankW w0) (hw : t.waits = true) :
    Calls Tryz.prog 57 #[.pointer (some ⟨B, 0, none⟩), .int .i32 r] w (TmD w0 w B G N cap (showT t r)) := by
  have hm := hok.hm
  have hn := hok.hn
  have hcol := hok.col
  have hcols := hok.cols
  have hle := ofN_le r
  obtain ⟨x0, hx0⟩ : ∃ x, x = t := ⟨_, rfl⟩
  obtain ⟨t2, ht2⟩ : ∃ t2 : Tm, t2 = { t with f := feedF { t.f with col := 0 } } := ⟨_, rfl⟩
  have hok2 : OkF t2.f m n := by rw [ht2]; exact feed_ok' (hok.curs hok.row (by omega))
  obtain ⟨t3, ht3⟩ : ∃ t3 : Tm, t3 = { t2 with f := putF t2.f t2.f.row t2.f.col r t2.sty } := ⟨_, rfl⟩
  have hok3 : OkF t3.f m n := by rw [ht3]; exact put_okF hok2 _ _ _ _
  obtain ⟨t4, ht4⟩ : ∃ t4 : Tm, t4 = { t3 with waits := decide (t3.f.col + (ofN r : Int) = t3.f.cols) } := ⟨_, rfl⟩
  have hok4 : OkF t4.f m n := by rw [ht4]; exact hok3
  have hEnd : showT t r = { t4 with f := goF t4.f t4.f.row (t4.f.col + (ofN r : Int)) } := by
    unfold showT
    dsimp only
    rw [if_pos (Or.inl hw)]
    rw [ht4, ht3, ht2]
  rw [hEnd]
  have HO : Hid (∀ W, Below w.heap.size w W → Calls Tryz.prog 22 #[.int .i32 r] W fun e w' => e = .returned (.int .i64 (ofN r : Int)) ∧ Below w.heap.size w w') := fun W hW => (of_any r W ((hL.below (h.next hW).below).1)).mono fun e w' ⟨k1, k2⟩ => ⟨k1, hW.trans (k2.mono hW.size)⟩
  have HF : Hid (∀ W, TmS w0 W B G N cap { t with f := { t.f with col := 0 } } → Calls Tryz.prog 91 #[.pointer (some ⟨B, 0, none⟩)] W (TmD w0 W B G N cap t2)) := fun W hW => by
    have := tfeed_any W hW (hok.curs hok.row (by omega)) hT
    rwa [ht2]
  have HP : Hid (∀ W, TmS w0 W B G N cap t2 → Calls Tryz.prog 92 #[.pointer (some ⟨B, 0, none⟩), .int .i32 r] W (TmD w0 W B G N cap t3)) := fun W hW => by
    have := tput_any r W hW hok2 hL
    rwa [ht3]
  have HG : Hid (∀ W, TmS w0 W B G N cap t4 → Calls Tryz.prog 93 #[.pointer (some ⟨B, 0, none⟩), .int .i64 t3.f.row, .int .i64 (t3.f.col + (ofN r : Int))] W (TmD w0 W B G N cap { t4 with f := goF t4.f t4.f.row (t4.f.col + (ofN r : Int)) })) := fun W hW => by
    have e1 : t3.f = t4.f := by rw [ht4]
    rw [e1]
    exact goto_any _ _ W hW (by rw [hok4.rows]; omega) (by rw [hok4.cols]; omega)
  have HWt : Hid (∀ W, TmS w0 W B G N cap t3 → TmS w0 (W.drew.setCell ⟨B, 10, none⟩ (.bool (decide (t3.f.col + (ofN r : Int) = t3.f.cols)))) B G N cap t4 ∧ KeepW (NotBG B G) W (W.drew.setCell ⟨B, 10, none⟩ (.bool (decide (t3.f.col + (ofN r : Int) = t3.f.cols)))) ∧ B < W.drew.heap.size ∧ W.drew.cell? ⟨B, 10, none⟩ = some (.bool t3.waits) ∧ W.drew.frozen? ⟨B, 10, none⟩ = false) := fun W hW => by
    have hb : Below W.heap.size W W.drew := (Below.refl _ _).drew
    have h1 := hW.next hb
    obtain ⟨a1, a2⟩ := h1.waits_ (decide (t3.f.col + (ofN r : Int) = t3.f.cols))
    rw [← ht4] at a1
    exact ⟨a1, (keep_below _ hb).trans a2, h1.box.lt, h1.box.cells.2.2.1.2.1, h1.box.cells.2.2.2 10⟩
  have e43 : t4.f = t3.f := by rw [ht4]
  have hc3 := hok3.col
  have hk3 := hok3.cols
  obtain ⟨d, hd⟩ : ∃ d : Int, (ofN r : Int) = d := ⟨_, rfl⟩
  rw [hd] at HO HG HWt ⊢
  have hd0 : 0 ≤ d := by omega
  have hd2 : d ≤ 2 := by omega
  obtain ⟨R, hR⟩ : ∃ R : Tm, { t4 with f := goF t4.f t4.f.row (t4.f.col + d) } = R := ⟨_, rfl⟩
  rw [hR] at HG ⊢
  have HS := Lib.hid h
  have H34 := Lib.hid e43
  obtain ⟨⟨_, x1, _, _, x4⟩, _, ⟨_, x10, _⟩, hf⟩ := h.box.cells
  have hlt := h.box.lt
  have hf4 := hf 4
  rw [hw] at x10
  rw [hcols] at x1
  clear hR hEnd hok hok2 hok3 hok4 ht2 ht3 ht4 hx0 e43 hf hm hle hd
  obtain ⟨hn1, hn2⟩ := hn
  obtain ⟨hc1, hc2⟩ := hcol
  obtain ⟨hp1, hp2⟩ := hc3
  go_enter Tryz.func57, Tryz.ntmps57
  go_wp2_with fail
  go_fit (HO.out _ (Below.refl _ _))
  rintro e w1 ⟨rfl, hb1⟩
  have HS1 := Lib.hid (HS.out.next hb1)
  have HK1 : Hid (KeepW (NotBG B G) w w1) := keep_below _ hb1
  obtain ⟨⟨_, y1, _, _, y4⟩, _, ⟨_, y10, _⟩, hf⟩ := HS1.out.box.cells
  rw [hw] at y10
  rw [hcols] at y1
  clear HS HO x1 x4 x10 hf4 hlt hb1
  go_wp2_with fail
  go_quiet (fail)
  obtain ⟨W2, hW2⟩ : ∃ W2, w1.drewN nq = W2 := ⟨_, rfl⟩
  have hb2 : Below w1.heap.size w1 W2 := by rw [← hW2]; exact below_drewN (Below.refl _ _) nq
  try rw [hW2]
  have HS2 := Lib.hid (HS1.out.next hb2)
  have HK2 : Hid (KeepW (NotBG B G) w W2) := HK1.out.trans (keep_below _ hb2)
  clear HS1 HK1 hb2 hW2 y1 y4 y10 hf
  obtain ⟨⟨_, _, _, _, y4⟩, _, _, hf⟩ := HS2.out.box.cells
  have hlt := HS2.out.box.lt
  have hf4 := hf 4
  have HC0 := Lib.hid (HS2.out.col_ 0)
  clear hf
  go_wp2_with fail
  go_fit (HF.out _ HC0.out.1)
  rintro e w3 ⟨rfl, hS3, hK3⟩
  have HS3 := Lib.hid hS3
  have HK3 : Hid (KeepW (NotBG B G) w w3) := (HK2.out.trans HC0.out.2).trans hK3
  clear hS3 hK3 HC0 HF HK2 HS2 y4 hlt hf4
  go_wp2_with fail
  go_fit (HP.out _ HS3.out)
  rintro e w4 ⟨rfl, hS4, hK4⟩
  have HS4 := Lib.hid hS4
  have HK4 : Hid (KeepW (NotBG B G) w w4) := HK3.out.trans hK4
  clear hS4 hK4 HS3 HK3
  obtain ⟨⟨_, z1, _, _, z4⟩, _, _, _⟩ := HS4.out.box.cells
  rw [hk3] at z1
  obtain ⟨hS5, hK5, hlt5, c10, f10⟩ := HWt.out w4 HS4.out
  rw [hk3] at hS5 hK5
  obtain ⟨a3, ha3⟩ : ∃ a, t3.f.row = a := ⟨_, rfl⟩
  obtain ⟨a4, ha4⟩ : ∃ a, t3.f.col = a := ⟨_, rfl⟩
  rw [ha3] at HG
  rw [ha4] at z4 hS5 hK5 HG hp1 hp2
  obtain ⟨W5, hW5⟩ : ∃ W5, w4.drew.setCell ⟨B, 10, none⟩ (.bool (a4 + d == (n : Int))) = W5 := ⟨_, rfl⟩
  have hS5 : TmS w0 (w4.drew.setCell ⟨B, 10, none⟩ (.bool (a4 + d == (n : Int)))) B G N cap t4 := hS5
  have hK5 : KeepW (NotBG B G) w4 (w4.drew.setCell ⟨B, 10, none⟩ (.bool (a4 + d == (n : Int)))) := hK5
  rw [hW5] at hS5 hK5
  have HS5 := Lib.hid hS5
  have HK5 : Hid (KeepW (NotBG B G) w W5) := HK4.out.trans hK5
  obtain ⟨⟨_, _, _, u3, u4⟩, _, _, _⟩ := HS5.out.box.cells
  rw [H34.out] at u3 u4
  rw [ha3] at u3
  rw [ha4] at u4
  have wd : IntKind.i64.wrap (a4 + d) = a4 + d := by rw [IntWalk.i64_in _ (by omega)]
  clear hS5 hK5 HWt ha3 ha4 HS4 HK4
  go_wp2_with fail
  go_still_tail 16, (by kernel_rfl)
  change wpList _ _ _ _ _ w4.drew
  go_wp2_with fail
  try rw [hW5]
  clear hW5 c10 f10 z1 z4
  go_still_tail 13, (by kernel_rfl)
  have HG2 : Hid (∀ e w', TmD w0 W5.drew B G N cap R e w' → TmD w0 w B G N cap R e w') := fun e w' ⟨k1, k2, k3⟩ => ⟨k1, k2, (HK5.out.trans (keep_drew _ _)).trans k3⟩
  have HS6 : Hid (TmS w0 W5.drew B G N cap t4) := HS5.out.next (Below.refl _ _).drew
  change wpList _ _ _ _ _ W5.drew
  go_wp2_with fail
  go_fit (HG.out _ HS6.out)
  rintro e w7 h7
  obtain ⟨rfl, h8⟩ := HG2.out _ _ h7
  go_wp2_with fail
  go_end0
  exact ⟨rfl, h8⟩

set_option maxRecDepth 20000 in
set_option maxHeartbeats 8000000 in
theorem tshow_G {m n : Nat} (r : Int) (w : World) (h : TmS w0 w B G N cap t) (hok : OkF t.f m n) (hL : LaidW w0) (hT : TBlankW w0) (hw : t.waits = false) (hc : t.f.cols < t.f.col + (ofN r : Int)) :
    Calls Tryz.prog 57 #[.pointer (some ⟨B, 0, none⟩), .int .i32 r] w (TmD w0 w B G N cap (showT t r)) := by
  have hm := hok.hm
  have hn := hok.hn
  have hcol := hok.col
  have hcols := hok.cols
  have hle := ofN_le r
  obtain ⟨x0, hx0⟩ : ∃ x, x = t := ⟨_, rfl⟩
  obtain ⟨t2, ht2⟩ : ∃ t2 : Tm, t2 = { t with f := feedF { t.f with col := 0 } } := ⟨_, rfl⟩
  have hok2 : OkF t2.f m n := by rw [ht2]; exact feed_ok' (hok.curs hok.row (by omega))
  obtain ⟨t3, ht3⟩ : ∃ t3 : Tm, t3 = { t2 with f := putF t2.f t2.f.row t2.f.col r t2.sty } := ⟨_, rfl⟩
  have hok3 : OkF t3.f m n := by rw [ht3]; exact put_okF hok2 _ _ _ _
  obtain ⟨t4, ht4⟩ : ∃ t4 : Tm, t4 = { t3 with waits := decide (t3.f.col + (ofN r : Int) = t3.f.cols) } := ⟨_, rfl⟩
  have hok4 : OkF t4.f m n := by rw [ht4]; exact hok3
  have hEnd : showT t r = { t4 with f := goF t4.f t4.f.row (t4.f.col + (ofN r : Int)) } := by
    unfold showT
    dsimp only
    rw [if_pos (Or.inr hc)]
    rw [ht4, ht3, ht2]
  rw [hEnd]
  have HO : Hid (∀ W, Below w.heap.size w W → Calls Tryz.prog 22 #[.int .i32 r] W fun e w' => e = .returned (.int .i64 (ofN r : Int)) ∧ Below w.heap.size w w') := fun W hW => (of_any r W ((hL.below (h.next hW).below).1)).mono fun e w' ⟨k1, k2⟩ => ⟨k1, hW.trans (k2.mono hW.size)⟩
  have HF : Hid (∀ W, TmS w0 W B G N cap { t with f := { t.f with col := 0 } } → Calls Tryz.prog 91 #[.pointer (some ⟨B, 0, none⟩)] W (TmD w0 W B G N cap t2)) := fun W hW => by
    have := tfeed_any W hW (hok.curs hok.row (by omega)) hT
    rwa [ht2]
  have HP : Hid (∀ W, TmS w0 W B G N cap t2 → Calls Tryz.prog 92 #[.pointer (some ⟨B, 0, none⟩), .int .i32 r] W (TmD w0 W B G N cap t3)) := fun W hW => by
    have := tput_any r W hW hok2 hL
    rwa [ht3]
  have HG : Hid (∀ W, TmS w0 W B G N cap t4 → Calls Tryz.prog 93 #[.pointer (some ⟨B, 0, none⟩), .int .i64 t3.f.row, .int .i64 (t3.f.col + (ofN r : Int))] W (TmD w0 W B G N cap { t4 with f := goF t4.f t4.f.row (t4.f.col + (ofN r : Int)) })) := fun W hW => by
    have e1 : t3.f = t4.f := by rw [ht4]
    rw [e1]
    exact goto_any _ _ W hW (by rw [hok4.rows]; omega) (by rw [hok4.cols]; omega)
  have HWt : Hid (∀ W, TmS w0 W B G N cap t3 → TmS w0 (W.drew.setCell ⟨B, 10, none⟩ (.bool (decide (t3.f.col + (ofN r : Int) = t3.f.cols)))) B G N cap t4 ∧ KeepW (NotBG B G) W (W.drew.setCell ⟨B, 10, none⟩ (.bool (decide (t3.f.col + (ofN r : Int) = t3.f.cols)))) ∧ B < W.drew.heap.size ∧ W.drew.cell? ⟨B, 10, none⟩ = some (.bool t3.waits) ∧ W.drew.frozen? ⟨B, 10, none⟩ = false) := fun W hW => by
    have hb : Below W.heap.size W W.drew := (Below.refl _ _).drew
    have h1 := hW.next hb
    obtain ⟨a1, a2⟩ := h1.waits_ (decide (t3.f.col + (ofN r : Int) = t3.f.cols))
    rw [← ht4] at a1
    exact ⟨a1, (keep_below _ hb).trans a2, h1.box.lt, h1.box.cells.2.2.1.2.1, h1.box.cells.2.2.2 10⟩
  have e43 : t4.f = t3.f := by rw [ht4]
  have hc3 := hok3.col
  have hk3 := hok3.cols
  obtain ⟨d, hd⟩ : ∃ d : Int, (ofN r : Int) = d := ⟨_, rfl⟩
  rw [hd] at HO HG HWt hc ⊢
  have hd0 : 0 ≤ d := by omega
  have hd2 : d ≤ 2 := by omega
  obtain ⟨R, hR⟩ : ∃ R : Tm, { t4 with f := goF t4.f t4.f.row (t4.f.col + d) } = R := ⟨_, rfl⟩
  rw [hR] at HG ⊢
  have HS := Lib.hid h
  have H34 := Lib.hid e43
  obtain ⟨⟨_, x1, _, _, x4⟩, _, ⟨_, x10, _⟩, hf⟩ := h.box.cells
  have hlt := h.box.lt
  have hf4 := hf 4
  rw [hw] at x10
  rw [hcols] at x1 hc
  clear hR hEnd hok hok2 hok3 hok4 ht2 ht3 ht4 hx0 e43 hf hm hle hd
  obtain ⟨hn1, hn2⟩ := hn
  obtain ⟨hc1, hc2⟩ := hcol
  obtain ⟨hp1, hp2⟩ := hc3
  go_enter Tryz.func57, Tryz.ntmps57
  go_wp2_with fail
  go_fit (HO.out _ (Below.refl _ _))
  rintro e w1 ⟨rfl, hb1⟩
  have HS1 := Lib.hid (HS.out.next hb1)
  have HK1 : Hid (KeepW (NotBG B G) w w1) := keep_below _ hb1
  obtain ⟨⟨_, y1, _, _, y4⟩, _, ⟨_, y10, _⟩, hf⟩ := HS1.out.box.cells
  rw [hw] at y10
  rw [hcols] at y1
  clear HS HO x1 x4 x10 hf4 hlt hb1
  have hdc : decide (t.f.col + d > (n : Int)) = true := decide_eq_true hc
  go_wp2_with fail
  go_quiet (fail)
  obtain ⟨W2, hW2⟩ : ∃ W2, w1.drewN nq = W2 := ⟨_, rfl⟩
  have hb2 : Below w1.heap.size w1 W2 := by rw [← hW2]; exact below_drewN (Below.refl _ _) nq
  try rw [hW2]
  have HS2 := Lib.hid (HS1.out.next hb2)
  have HK2 : Hid (KeepW (NotBG B G) w W2) := HK1.out.trans (keep_below _ hb2)
  clear HS1 HK1 hb2 hW2 y1 y4 y10 hf
  obtain ⟨⟨_, _, _, _, y4⟩, _, _, hf⟩ := HS2.out.box.cells
  have hlt := HS2.out.box.lt
  have hf4 := hf 4
  have HC0 := Lib.hid (HS2.out.col_ 0)
  clear hf
  go_wp2_with fail
  go_fit (HF.out _ HC0.out.1)
  rintro e w3 ⟨rfl, hS3, hK3⟩
  have HS3 := Lib.hid hS3
  have HK3 : Hid (KeepW (NotBG B G) w w3) := (HK2.out.trans HC0.out.2).trans hK3
  clear hS3 hK3 HC0 HF HK2 HS2 y4 hlt hf4
  go_wp2_with fail
  go_fit (HP.out _ HS3.out)
  rintro e w4 ⟨rfl, hS4, hK4⟩
  have HS4 := Lib.hid hS4
  have HK4 : Hid (KeepW (NotBG B G) w w4) := HK3.out.trans hK4
  clear hS4 hK4 HS3 HK3
  obtain ⟨⟨_, z1, _, _, z4⟩, _, _, _⟩ := HS4.out.box.cells
  rw [hk3] at z1
  obtain ⟨hS5, hK5, hlt5, c10, f10⟩ := HWt.out w4 HS4.out
  rw [hk3] at hS5 hK5
  obtain ⟨a3, ha3⟩ : ∃ a, t3.f.row = a := ⟨_, rfl⟩
  obtain ⟨a4, ha4⟩ : ∃ a, t3.f.col = a := ⟨_, rfl⟩
  rw [ha3] at HG
  rw [ha4] at z4 hS5 hK5 HG hp1 hp2
  obtain ⟨W5, hW5⟩ : ∃ W5, w4.drew.setCell ⟨B, 10, none⟩ (.bool (a4 + d == (n : Int))) = W5 := ⟨_, rfl⟩
  have hS5 : TmS w0 (w4.drew.setCell ⟨B, 10, none⟩ (.bool (a4 + d == (n : Int)))) B G N cap t4 := hS5
  have hK5 : KeepW (NotBG B G) w4 (w4.drew.setCell ⟨B, 10, none⟩ (.bool (a4 + d == (n : Int)))) := hK5
  rw [hW5] at hS5 hK5
  have HS5 := Lib.hid hS5
  have HK5 : Hid (KeepW (NotBG B G) w W5) := HK4.out.trans hK5
  obtain ⟨⟨_, _, _, u3, u4⟩, _, _, _⟩ := HS5.out.box.cells
  rw [H34.out] at u3 u4
  rw [ha3] at u3
  rw [ha4] at u4
  have wd : IntKind.i64.wrap (a4 + d) = a4 + d := by rw [IntWalk.i64_in _ (by omega)]
  clear hS5 hK5 HWt ha3 ha4 HS4 HK4
  go_wp2_with fail
  go_still_tail 16, (by kernel_rfl)
  change wpList _ _ _ _ _ w4.drew
  go_wp2_with fail
  try rw [hW5]
  clear hW5 c10 f10 z1 z4
  go_still_tail 13, (by kernel_rfl)
  have HG2 : Hid (∀ e w', TmD w0 W5.drew B G N cap R e w' → TmD w0 w B G N cap R e w') := fun e w' ⟨k1, k2, k3⟩ => ⟨k1, k2, (HK5.out.trans (keep_drew _ _)).trans k3⟩
  have HS6 : Hid (TmS w0 W5.drew B G N cap t4) := HS5.out.next (Below.refl _ _).drew
  change wpList _ _ _ _ _ W5.drew
  go_wp2_with fail
  go_fit (HG.out _ HS6.out)
  rintro e w7 h7
  obtain ⟨rfl, h8⟩ := HG2.out _ _ h7
  go_wp2_with fail
  go_end0
  exact ⟨rfl, h8⟩

set_option maxRecDepth 20000 in
set_option maxHeartbeats 8000000 in
theorem tshow_N {m n : Nat} (r : Int) (w : World) (h : TmS w0 w B G N cap t) (hok : OkF t.f m n) (hL : LaidW w0) (_hT : TBlankW w0) (hw : t.waits = false) (hc : ¬ t.f.cols < t.f.col + (ofN r : Int)) :
    Calls Tryz.prog 57 #[.pointer (some ⟨B, 0, none⟩), .int .i32 r] w (TmD w0 w B G N cap (showT t r)) := by
  have hm := hok.hm
  have hn := hok.hn
  have hcol := hok.col
  have hcols := hok.cols
  have hle := ofN_le r
  obtain ⟨x0, hx0⟩ : ∃ x, x = t := ⟨_, rfl⟩
  obtain ⟨t2, ht2⟩ : ∃ t2 : Tm, t2 = t := ⟨_, rfl⟩
  have hok2 : OkF t2.f m n := by rw [ht2]; exact hok
  obtain ⟨t3, ht3⟩ : ∃ t3 : Tm, t3 = { t2 with f := putF t2.f t2.f.row t2.f.col r t2.sty } := ⟨_, rfl⟩
  have hok3 : OkF t3.f m n := by rw [ht3]; exact put_okF hok2 _ _ _ _
  obtain ⟨t4, ht4⟩ : ∃ t4 : Tm, t4 = { t3 with waits := decide (t3.f.col + (ofN r : Int) = t3.f.cols) } := ⟨_, rfl⟩
  have hok4 : OkF t4.f m n := by rw [ht4]; exact hok3
  have hEnd : showT t r = { t4 with f := goF t4.f t4.f.row (t4.f.col + (ofN r : Int)) } := by
    unfold showT
    dsimp only
    rw [if_neg (by rw [hw]; simp only [Bool.false_eq_true, false_or]; exact hc)]
    rw [ht4, ht3, ht2]
  rw [hEnd]
  have HO : Hid (∀ W, Below w.heap.size w W → Calls Tryz.prog 22 #[.int .i32 r] W fun e w' => e = .returned (.int .i64 (ofN r : Int)) ∧ Below w.heap.size w w') := fun W hW => (of_any r W ((hL.below (h.next hW).below).1)).mono fun e w' ⟨k1, k2⟩ => ⟨k1, hW.trans (k2.mono hW.size)⟩
  have HP : Hid (∀ W, TmS w0 W B G N cap t2 → Calls Tryz.prog 92 #[.pointer (some ⟨B, 0, none⟩), .int .i32 r] W (TmD w0 W B G N cap t3)) := fun W hW => by
    have := tput_any r W hW hok2 hL
    rwa [ht3]
  have HG : Hid (∀ W, TmS w0 W B G N cap t4 → Calls Tryz.prog 93 #[.pointer (some ⟨B, 0, none⟩), .int .i64 t3.f.row, .int .i64 (t3.f.col + (ofN r : Int))] W (TmD w0 W B G N cap { t4 with f := goF t4.f t4.f.row (t4.f.col + (ofN r : Int)) })) := fun W hW => by
    have e1 : t3.f = t4.f := by rw [ht4]
    rw [e1]
    exact goto_any _ _ W hW (by rw [hok4.rows]; omega) (by rw [hok4.cols]; omega)
  have HWt : Hid (∀ W, TmS w0 W B G N cap t3 → TmS w0 (W.drew.setCell ⟨B, 10, none⟩ (.bool (decide (t3.f.col + (ofN r : Int) = t3.f.cols)))) B G N cap t4 ∧ KeepW (NotBG B G) W (W.drew.setCell ⟨B, 10, none⟩ (.bool (decide (t3.f.col + (ofN r : Int) = t3.f.cols)))) ∧ B < W.drew.heap.size ∧ W.drew.cell? ⟨B, 10, none⟩ = some (.bool t3.waits) ∧ W.drew.frozen? ⟨B, 10, none⟩ = false) := fun W hW => by
    have hb : Below W.heap.size W W.drew := (Below.refl _ _).drew
    have h1 := hW.next hb
    obtain ⟨a1, a2⟩ := h1.waits_ (decide (t3.f.col + (ofN r : Int) = t3.f.cols))
    rw [← ht4] at a1
    exact ⟨a1, (keep_below _ hb).trans a2, h1.box.lt, h1.box.cells.2.2.1.2.1, h1.box.cells.2.2.2 10⟩
  have e43 : t4.f = t3.f := by rw [ht4]
  have hc3 := hok3.col
  have hk3 := hok3.cols
  obtain ⟨d, hd⟩ : ∃ d : Int, (ofN r : Int) = d := ⟨_, rfl⟩
  rw [hd] at HO HG HWt hc ⊢
  have hd0 : 0 ≤ d := by omega
  have hd2 : d ≤ 2 := by omega
  obtain ⟨R, hR⟩ : ∃ R : Tm, { t4 with f := goF t4.f t4.f.row (t4.f.col + d) } = R := ⟨_, rfl⟩
  rw [hR] at HG ⊢
  have HS := Lib.hid h
  have H34 := Lib.hid e43
  obtain ⟨⟨_, x1, _, _, x4⟩, _, ⟨_, x10, _⟩, hf⟩ := h.box.cells
  have hlt := h.box.lt
  have hf4 := hf 4
  rw [hw] at x10
  rw [hcols] at x1 hc
  have HT2 := Lib.hid ht2
  clear hR hEnd hok hok2 hok3 hok4 ht2 ht3 ht4 hx0 e43 hf hm hle hd
  obtain ⟨hn1, hn2⟩ := hn
  obtain ⟨hc1, hc2⟩ := hcol
  obtain ⟨hp1, hp2⟩ := hc3
  go_enter Tryz.func57, Tryz.ntmps57
  go_wp2_with fail
  go_fit (HO.out _ (Below.refl _ _))
  rintro e w1 ⟨rfl, hb1⟩
  have HS1 := Lib.hid (HS.out.next hb1)
  have HK1 : Hid (KeepW (NotBG B G) w w1) := keep_below _ hb1
  obtain ⟨⟨_, y1, _, _, y4⟩, _, ⟨_, y10, _⟩, hf⟩ := HS1.out.box.cells
  rw [hw] at y10
  rw [hcols] at y1
  clear HS HO x1 x4 x10 hf4 hlt hb1
  have hdc : decide (t.f.col + d > (n : Int)) = false := decide_eq_false (by omega)
  go_wp2_with fail
  go_quiet (fail)
  obtain ⟨W2, hW2⟩ : ∃ W2, w1.drewN nq = W2 := ⟨_, rfl⟩
  have hb2 : Below w1.heap.size w1 W2 := by rw [← hW2]; exact below_drewN (Below.refl _ _) nq
  try rw [hW2]
  have HS2 := Lib.hid (HS1.out.next hb2)
  have HK2 : Hid (KeepW (NotBG B G) w W2) := HK1.out.trans (keep_below _ hb2)
  clear HS1 HK1 hb2 hW2 y1 y4 y10 hf
  obtain ⟨⟨_, _, _, _, y4⟩, _, _, hf⟩ := HS2.out.box.cells
  have hlt := HS2.out.box.lt
  have hf4 := hf 4
  have HS3 : Hid (TmS w0 W2 B G N cap t2) := by rw [HT2.out]; exact HS2.out
  have HK3 := HK2
  clear HS2 HK2 hf
  go_wp2_with fail
  go_fit (HP.out _ HS3.out)
  rintro e w4 ⟨rfl, hS4, hK4⟩
  have HS4 := Lib.hid hS4
  have HK4 : Hid (KeepW (NotBG B G) w w4) := HK3.out.trans hK4
  clear hS4 hK4 HS3 HK3
  obtain ⟨⟨_, z1, _, _, z4⟩, _, _, _⟩ := HS4.out.box.cells
  rw [hk3] at z1
  obtain ⟨hS5, hK5, hlt5, c10, f10⟩ := HWt.out w4 HS4.out
  rw [hk3] at hS5 hK5
  obtain ⟨a3, ha3⟩ : ∃ a, t3.f.row = a := ⟨_, rfl⟩
  obtain ⟨a4, ha4⟩ : ∃ a, t3.f.col = a := ⟨_, rfl⟩
  rw [ha3] at HG
  rw [ha4] at z4 hS5 hK5 HG hp1 hp2
  obtain ⟨W5, hW5⟩ : ∃ W5, w4.drew.setCell ⟨B, 10, none⟩ (.bool (a4 + d == (n : Int))) = W5 := ⟨_, rfl⟩
  have hS5 : TmS w0 (w4.drew.setCell ⟨B, 10, none⟩ (.bool (a4 + d == (n : Int)))) B G N cap t4 := hS5
  have hK5 : KeepW (NotBG B G) w4 (w4.drew.setCell ⟨B, 10, none⟩ (.bool (a4 + d == (n : Int)))) := hK5
  rw [hW5] at hS5 hK5
  have HS5 := Lib.hid hS5
  have HK5 : Hid (KeepW (NotBG B G) w W5) := HK4.out.trans hK5
  obtain ⟨⟨_, _, _, u3, u4⟩, _, _, _⟩ := HS5.out.box.cells
  rw [H34.out] at u3 u4
  rw [ha3] at u3
  rw [ha4] at u4
  have wd : IntKind.i64.wrap (a4 + d) = a4 + d := by rw [IntWalk.i64_in _ (by omega)]
  clear hS5 hK5 HWt ha3 ha4 HS4 HK4
  go_wp2_with fail
  go_still_tail 16, (by kernel_rfl)
  change wpList _ _ _ _ _ w4.drew
  go_wp2_with fail
  try rw [hW5]
  clear hW5 c10 f10 z1 z4
  go_still_tail 13, (by kernel_rfl)
  have HG2 : Hid (∀ e w', TmD w0 W5.drew B G N cap R e w' → TmD w0 w B G N cap R e w') := fun e w' ⟨k1, k2, k3⟩ => ⟨k1, k2, (HK5.out.trans (keep_drew _ _)).trans k3⟩
  have HS6 : Hid (TmS w0 W5.drew B G N cap t4) := HS5.out.next (Below.refl _ _).drew
  change wpList _ _ _ _ _ W5.drew
  go_wp2_with fail
  go_fit (HG.out _ HS6.out)
  rintro e w7 h7
  obtain ⟨rfl, h8⟩ := HG2.out _ _ h7
  go_wp2_with fail
  go_end0
  exact ⟨rfl, h8⟩
theorem tshow_any {m n : Nat} (r : Int) (w : World) (h : TmS w0 w B G N cap t) (hok : OkF t.f m n) (hL : LaidW w0) (hT : TBlankW w0) :
    Calls Tryz.prog 57 #[.pointer (some ⟨B, 0, none⟩), .int .i32 r] w (TmD w0 w B G N cap (showT t r)) := by
  cases hw : t.waits with
  | true => exact tshow_W r w h hok hL hT hw
  | false =>
    by_cases hc : t.f.cols < t.f.col + (ofN r : Int)
    · exact tshow_G r w h hok hL hT hw hc
    · exact tshow_N r w h hok hL hT hw hc
end
end Go.Proofs.YtpkjaallhhjleaaGreatDoor

/-
  term: do: what it leaves, of every action.
-/
namespace Go.Proofs.YtpkjaallhhjleaaGreatDoor
open Go.RowKit

section
variable {w0 : World} {B G N cap : Nat} {t : Tm}
/-- The box of an action. -/
theorem act_box (w : World) (x0 x1 x2 x3 : Value) : Below w.heap.size w (w.alloc (.cells #[x0, x1, x2, x3] 72)) ∧
    (w.alloc (.cells #[x0, x1, x2, x3] 72)).heap[w.heap.size]? = some (.cells #[x0, x1, x2, x3] 72 (0, 0)) := ⟨(Below.refl _ _).alloc (Nat.le_refl _) _, heap_alloc_new w _⟩
set_option maxRecDepth 20000 in
set_option maxHeartbeats 8000000 in
theorem tdo_1 {m n : Nat} {pv : Value} (r : Nat) (l : List Nat) (f : Nat) (w : World) (h : TmS w0 w B G N cap t) (hok : OkF t.f m n) (hL : LaidW w0) (hT : TBlankW w0) :
    Calls Tryz.prog 30 #[.pointer (some ⟨B, 0, none⟩), .agg #[.int .i64 1, .int .i32 (r : Int), pv, .int .u8 (f : Int)]] w (TmD w0 w B G N cap (doT t (1, r, l, f))) := by
  show Calls _ _ _ _ (TmD w0 w B G N cap (showT t (shI (r : Int))))
  have HB := Lib.hid (fun x0 x1 x2 x3 => act_box w x0 x1 x2 x3)
  have HS : Hid (∀ W, Below w.heap.size w W → Calls Tryz.prog 58 #[.int .i32 (r : Int)] W fun e w' => e = .returned (.int .i32 (shI (r : Int))) ∧ Below w.heap.size w w') := fun W hW => (shown_any (r : Int) W ((hL.below (h.next hW).below).1)).mono fun e w' ⟨k1, k2⟩ => ⟨k1, hW.trans (k2.mono hW.size)⟩
  obtain ⟨u, hu⟩ : ∃ u, shI (r : Int) = u := ⟨_, rfl⟩
  rw [hu] at HS ⊢
  have HC : Hid (∀ W, Below w.heap.size w W → Calls Tryz.prog 57 #[.pointer (some ⟨B, 0, none⟩), .int .i32 u] W (TmD w0 w B G N cap (showT t u))) := fun W hW => (tshow_any u W (h.next hW) hok hL hT).mono fun e w' ⟨k1, k2, k3⟩ => ⟨k1, k2, (keep_below _ hW).trans k3⟩
  obtain ⟨R, hR⟩ : ∃ R, showT t u = R := ⟨_, rfl⟩
  rw [hR] at HC ⊢
  clear h hok hL hT hu hR
  go_enter Tryz.func30, Tryz.ntmps30
  go_wp2_with fail
  go_fit (HS.out _ (HB.out _ _ _ _).1)
  rintro e w1 ⟨rfl, hb1⟩
  go_wp2_with fail
  go_fit (HC.out _ hb1)
  rintro e w2 ⟨rfl, h2⟩
  go_wp2_with fail
  go_end0
  exact ⟨rfl, h2⟩
set_option maxRecDepth 20000 in
set_option maxHeartbeats 8000000 in
theorem tdo_2 {m n : Nat} {pv : Value} (r : Nat) (l : List Nat) (f : Nat) (w : World) (h : TmS w0 w B G N cap t) (hok : OkF t.f m n) (hT : TBlankW w0) :
    Calls Tryz.prog 30 #[.pointer (some ⟨B, 0, none⟩), .agg #[.int .i64 2, .int .i32 (r : Int), pv, .int .u8 (f : Int)]] w (TmD w0 w B G N cap (doT t (2, r, l, f))) := by
  show Calls _ _ _ _ (TmD w0 w B G N cap (controlT t (r : Int)))
  have HB := Lib.hid (fun x0 x1 x2 x3 => act_box w x0 x1 x2 x3)
  have HC : Hid (∀ W, Below w.heap.size w W → Calls Tryz.prog 59 #[.pointer (some ⟨B, 0, none⟩), .int .i32 (r : Int)] W (TmD w0 w B G N cap (controlT t (r : Int)))) := fun W hW => (tctl_any (r : Int) W (h.next hW) hok hT).mono fun e w' ⟨k1, k2, k3⟩ => ⟨k1, k2, (keep_below _ hW).trans k3⟩
  obtain ⟨R, hR⟩ : ∃ R, controlT t (r : Int) = R := ⟨_, rfl⟩
  rw [hR] at HC ⊢
  clear h hok hT hR
  go_enter Tryz.func30, Tryz.ntmps30
  go_wp2_with fail
  go_fit (HC.out _ (HB.out _ _ _ _).1)
  rintro e w2 ⟨rfl, h2⟩
  go_wp2_with fail
  go_end0
  exact ⟨rfl, h2⟩
set_option maxRecDepth 20000 in
set_option maxHeartbeats 8000000 in
theorem tdo_3 {m n : Nat} {pv : Value} (r : Nat) (l : List Nat) (f : Nat) (w : World) (h : TmS w0 w B G N cap t) (hok : OkF t.f m n) (hT : TBlankW w0) (hN : NumsW (NotBG B G) w pv l) (hl : l.length ≤ 1000) (h9 : ∀ x ∈ l, x ≤ 9999) :
    Calls Tryz.prog 30 #[.pointer (some ⟨B, 0, none⟩), .agg #[.int .i64 3, .int .i32 (r : Int), pv, .int .u8 (f : Int)]] w (TmD w0 w B G N cap (doT t (3, r, l, f))) := by
  show Calls _ _ _ _ (TmD w0 w B G N cap (seqT t l f))
  have HB := Lib.hid (fun x0 x1 x2 x3 => act_box w x0 x1 x2 x3)
  have HC : Hid (∀ W, Below w.heap.size w W → Calls Tryz.prog 60 #[.pointer (some ⟨B, 0, none⟩), .int .u8 (f : Int), pv] W (TmD w0 w B G N cap (seqT t l f))) := fun W hW => (tseq_any f W (h.next hW) hok hT (hN.keep (keep_below _ hW)) hl h9).mono fun e w' ⟨k1, k2, k3⟩ => ⟨k1, k2, (keep_below _ hW).trans k3⟩
  obtain ⟨ao, cp, rfl, _, _⟩ := hN.1
  obtain ⟨R, hR⟩ : ∃ R, seqT t l f = R := ⟨_, rfl⟩
  rw [hR] at HC ⊢
  clear h hok hT hR hN hl h9
  go_enter Tryz.func30, Tryz.ntmps30
  go_wp2_with fail
  go_fit (HC.out _ (HB.out _ _ _ _).1)
  rintro e w2 ⟨rfl, h2⟩
  go_wp2_with fail
  go_end0
  exact ⟨rfl, h2⟩
set_option maxRecDepth 20000 in
set_option maxHeartbeats 8000000 in
theorem tdo_o {pv : Value} (k r : Nat) (l : List Nat) (f : Nat) (h1 : k ≠ 1) (h2 : k ≠ 2) (h3 : k ≠ 3) (w : World) (h : TmS w0 w B G N cap t) :
    Calls Tryz.prog 30 #[.pointer (some ⟨B, 0, none⟩), .agg #[.int .i64 (k : Int), .int .i32 (r : Int), pv, .int .u8 (f : Int)]] w (TmD w0 w B G N cap (doT t (k, r, l, f))) := by
  have hE : doT t (k, r, l, f) = t := by
    unfold doT
    rw [if_neg h1, if_neg h2, if_neg h3]
  rw [hE]
  have HB := Lib.hid (fun x0 x1 x2 x3 => act_box w x0 x1 x2 x3)
  have HS := Lib.hid (fun W hb => h.next (w' := W) hb)
  have q1 : ((k : Int) == 1) = false := by rw [beq_eq_false_iff_ne]; omega
  have q2 : ((k : Int) == 2) = false := by rw [beq_eq_false_iff_ne]; omega
  have q3 : ((k : Int) == 3) = false := by rw [beq_eq_false_iff_ne]; omega
  clear h hE h1 h2 h3
  go_enter Tryz.func30, Tryz.ntmps30
  go_wp2_with fail
  go_end0
  exact ⟨rfl, HS.out _ (HB.out _ _ _ _).1, keep_below _ (HB.out _ _ _ _).1⟩
theorem tdo_any {m n : Nat} {pv : Value} (a : Ac) (w : World) (h : TmS w0 w B G N cap t) (hok : OkF t.f m n) (hL : LaidW w0) (hT : TBlankW w0) (hN : NumsW (NotBG B G) w pv a.2.2.1) (hl : a.2.2.1.length ≤ 1000) (h9 : ∀ x ∈ a.2.2.1, x ≤ 9999) :
    Calls Tryz.prog 30 #[.pointer (some ⟨B, 0, none⟩), .agg #[.int .i64 (a.1 : Int), .int .i32 (a.2.1 : Int), pv, .int .u8 (a.2.2.2 : Int)]] w (TmD w0 w B G N cap (doT t a)) := by
  obtain ⟨k, r, l, f⟩ := a
  by_cases h1 : k = 1
  · subst h1; exact tdo_1 r l f w h hok hL hT
  by_cases h2 : k = 2
  · subst h2; exact tdo_2 r l f w h hok hT
  by_cases h3 : k = 3
  · subst h3; exact tdo_3 r l f w h hok hT hN hl h9
  exact tdo_o k r l f h1 h2 h3 w h
end
end Go.Proofs.YtpkjaallhhjleaaGreatDoor
