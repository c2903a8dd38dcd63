/-
  grids.Resize: what it returns, and lays in a block of its own: a frame that may be, a size that may be.
-/
import Derived.Deep.Cut
import Derived.BigRegion
import Derived.RegionTactic
import Derived.Test.YtpkjaallhhjleaaGreatDoorLGrResNo
import Derived.Test.YtpkjaallhhjleaaGreatDoorLGrResN
import Derived.Test.YtpkjaallhhjleaaGreatDoorBa13
import Derived.Test.YtpkjaallhhjleaaGreatDoorBa9
namespace Go.Proofs.YtpkjaallhhjleaaGreatDoor
open Go.RowKit

/-- A frame as a value, its cells alone in a block behind these. -/
def OwnF (n0 : Nat) (w : World) (v : Value) (f : Frm) : Prop :=
  ∃ g P, v = .agg #[.int .i64 f.rows, .int .i64 f.cols, .slice (some ⟨g, 0, none⟩) P P, .int .i64 f.row, .int .i64 f.col] ∧ n0 ≤ g ∧ (∃ zs, blkL w g f.cells zs) ∧ f.cells.length = P
structure ResS (w W : World) (f : Frm) (ao : Option Addr) (N cap p q P g : Nat) (M : List Cel) (zs : List Value) : Prop where
  below : Below w.heap.size w W
  fr : frB W w.heap.size f.rows f.cols (.slice ao N cap) f.row f.col
  res : frB W (w.heap.size + 1) (p : Int) (q : Int) (.slice (some ⟨g, 0, none⟩) P P) 0 0
  own : w.heap.size + 2 ≤ g
  blk : blkL W g M zs
  len : M.length = P
section
variable {ok : Nat → Prop} {ao : Option Addr} {N cap p q P g : Nat} {f : Frm} {w W : World} {M : List Cel} {zs : List Value}
theorem ResS.next {W' : World} (h : ResS w W f ao N cap p q P g M zs) (hb : Below W.heap.size W W') : ResS w W' f ao N cap p q P g M zs :=
  ⟨h.below.trans (hb.mono h.below.size), h.fr.below hb h.fr.lt, h.res.below hb h.res.lt, h.own, h.blk.below hb h.blk.lt, h.len⟩
theorem ResS.turn {W' : World} {M' : List Cel} (h : ResS w W f ao N cap p q P g M zs) (hk : KeepW (fun k => k ≠ g) W W') (hb : blkL W' g M' zs) (hl : M'.length = P) : ResS w W' f ao N cap p q P g M' zs := by
  have ho := h.own
  exact ⟨KeepW.below h.below hk h.below.size (fun k hk => by omega), h.fr.keep hk (by show _ ≠ _; omega), h.res.keep hk (by show _ ≠ _; omega), ho, hb, hl⟩
/-- The new frame lies in the result's box. -/
theorem ResS.start {w3 : World} (hX : Below (w.heap.size + 2) ((w.alloc (.cells #[.int .i64 f.rows, .int .i64 f.cols, .slice ao N cap, .int .i64 f.row, .int .i64 f.col] 35)).alloc (.cells #[.int .i64 0, .int .i64 0, .slice none 0 0, .int .i64 0, .int .i64 0] 35)) w3) (hg : w.heap.size + 2 ≤ g) (hb : blkL w3 g M zs) (hl : M.length = P) :
    ResS w (set5 w3 (w.heap.size + 1) (p : Int) (q : Int) (.slice (some ⟨g, 0, none⟩) P P) 0 0) f ao N cap p q P g M zs := by
  obtain ⟨h1, h2, h3⟩ := two_frB hX
  have hk := set5_keep (ok := fun k => k ≠ w.heap.size + 1) w3 (w.heap.size + 1) (p : Int) (q : Int) (.slice (some ⟨g, 0, none⟩) P P) 0 0 (fun k => k rfl)
  exact ⟨KeepW.below h3 hk h3.size (fun k hk => by show _ ≠ _; omega), h1.keep hk (by show _ ≠ _; omega), h2.all, hg, hb.keep hk (by show _ ≠ _; omega), hl⟩
/-- The way out: the cursor is laid, the frame stored onto itself. -/
theorem ResS.done {a b : Int} {V : World} (h : ResS w W f ao N cap p q P g M zs) (hV : ((W.setCell ⟨w.heap.size + 1, 3, none⟩ (.int .i64 a)).setCell ⟨w.heap.size + 1, 4, none⟩ (.int .i64 b)).drew = V) :
    frB V (w.heap.size + 1) (p : Int) (q : Int) (.slice (some ⟨g, 0, none⟩) P P) a b ∧ frB (set5 V (w.heap.size + 1) (p : Int) (q : Int) (.slice (some ⟨g, 0, none⟩) P P) a b) (w.heap.size + 1) (p : Int) (q : Int) (.slice (some ⟨g, 0, none⟩) P P) a b ∧
    OwnF w.heap.size (set5 V (w.heap.size + 1) (p : Int) (q : Int) (.slice (some ⟨g, 0, none⟩) P P) a b) (.agg #[.int .i64 (p : Int), .int .i64 (q : Int), .slice (some ⟨g, 0, none⟩) P P, .int .i64 a, .int .i64 b]) ⟨p, q, M, a, b⟩ ∧
    Below w.heap.size w (set5 V (w.heap.size + 1) (p : Int) (q : Int) (.slice (some ⟨g, 0, none⟩) P P) a b) := by
  have ho := h.own
  have k0 := ((keep_set (ok := fun k => k ≠ w.heap.size + 1) (w.heap.size + 1) 3 none (.int .i64 a) W (fun k => k rfl)).trans (keep_set (ok := fun k => k ≠ w.heap.size + 1) (w.heap.size + 1) 4 none (.int .i64 b) _ (fun k => k rfl))).trans (keep_drew _ _)
  have r0 : frB ((W.setCell ⟨w.heap.size + 1, 3, none⟩ (.int .i64 a)).setCell ⟨w.heap.size + 1, 4, none⟩ (.int .i64 b)).drew (w.heap.size + 1) (p : Int) (q : Int) (.slice (some ⟨g, 0, none⟩) P P) a b := (h.res.set3 a).set4 b
  rw [hV] at k0 r0
  have hk := k0.trans (set5_keep (ok := fun k => k ≠ w.heap.size + 1) V (w.heap.size + 1) (p : Int) (q : Int) (.slice (some ⟨g, 0, none⟩) P P) a b (fun k => k rfl))
  exact ⟨r0, r0.all, ⟨g, P, rfl, by omega, ⟨zs, h.blk.keep hk (by show _ ≠ _; omega)⟩, h.len⟩, KeepW.below h.below hk h.below.size (fun k hk => by show _ ≠ _; omega)⟩
end
/-- A row of a frame, with whatever room behind it. -/
theorem rows_cap {ok : Nat → Prop} {w : World} {g o N cap m n k c2 : Nat} {L : List Cel} (h : CelsW ok w (.slice (some ⟨g, o, none⟩) N cap) L) (hl : L.length = N) (hN : N = m * n) (hk : k < m) (hc2 : n ≤ c2) : CelsW ok w (.slice (some ⟨g, o + k * n * 6, none⟩) n c2) (rowK L n k) := by
  have hr := row_room (n := n) hk
  have hlen := rowK_len (hl.trans hN) hk
  unfold CelsW at h ⊢
  rw [hl] at h
  rw [hlen]
  have h1 := RowV.drop (i := k * n) (c2 := N - k * n) 6 h (Nat.le_refl _)
  rw [celC_drop] at h1
  have h2 := RowV.take (k := n) (c2 := c2) 6 h1 hc2
  rwa [celC_take] at h2
section
variable {ok : Nat → Prop} {g0 o0 N cap p q m n : Nat} {f : Frm}

set_option maxRecDepth 100000 in
set_option maxHeartbeats 4000000 in
theorem gresO_le (w : World) (hf : OkF f m n) (hN : N = f.cells.length) (hcap : N ≤ cap) (hS : CelsW ok w (.slice (some ⟨g0, o0, none⟩) N cap) f.cells) (hL : LaidW w) (hp : 2 ≤ p ∧ p ≤ 100) (hq : 8 ≤ q ∧ q ≤ 200) (hpm : p ≤ m) :
    Calls Tryz.prog 39 #[.agg #[.int .i64 f.rows, .int .i64 f.cols, .slice (some ⟨g0, o0, none⟩) N cap, .int .i64 f.row, .int .i64 f.col], .int .i64 (p : Int), .int .i64 (q : Int)] w fun e w' => ∃ v', e = .returned (.tuple #[v', .int .i64 0]) ∧ OwnF w.heap.size w' v' ⟨p, q, resC f p q, min f.row ((p : Int) - 1), min f.col ((q : Int) - 1)⟩ ∧ Below w.heap.size w w' := by
  have HV : Hid (∀ W, Below w.heap.size w W → Calls Tryz.prog 19 #[.agg #[.int .i64 f.rows, .int .i64 f.cols, .slice (some ⟨g0, o0, none⟩) N cap, .int .i64 f.row, .int .i64 f.col]] W fun e w' => e = .returned (.bool true) ∧ Below W.heap.size W w') := fun W hW => by
    have := gvalid_any W (FrameW.below ⟨_, N, cap, rfl, hN, hcap, hS⟩ hW) (hL.below hW)
    rwa [hf.valid] at this
  have hlen := hf.len
  have hrl := hf.rows
  have hcl := hf.cols
  have hm2 := hf.hm
  have hn2 := hf.hn
  have hrow := hf.row
  have hcol := hf.col
  obtain ⟨P, hP⟩ : ∃ P, p * q = P := ⟨_, rfl⟩
  have HNw : Hid (∀ W, Below w.heap.size w W → Calls Tryz.prog 26 #[.int .i64 (p : Int), .int .i64 (q : Int)] W fun e w' => ∃ g, e = .returned (.tuple #[.agg #[.int .i64 (p : Int), .int .i64 (q : Int), .slice (some ⟨g, 0, none⟩) P P, .int .i64 0, .int .i64 0], .int .i64 0]) ∧ NewL W w' g (mixR f p q 0) ∧ Below W.heap.size W w') := fun W hW => by
    have := gnew_any p q W hp hq (hL.below hW).2
    rwa [hP, ← hP, ← mixR_zero f p q (by omega), hP] at this
  have HF := Lib.hid (fun W hW => two_frB (w := w) (W := W) (ao := some ⟨g0, o0, none⟩) (n := N) (cap := cap) (r := f.rows) (c := f.cols) (a := f.row) (b := f.col) hW)
  have HB := Lib.hid (two_start (w := w) (ao := some ⟨g0, o0, none⟩) (n := N) (cap := cap) (r := f.rows) (c := f.cols) (a := f.row) (b := f.col))
  have HS0 := Lib.hid (fun w3 g zs hX hg hb hl => ResS.start (w := w) (f := f) (ao := some ⟨g0, o0, none⟩) (N := N) (cap := cap) (p := p) (q := q) (P := P) (g := g) (M := mixR f p q 0) (zs := zs) (w3 := w3) hX hg hb hl)
  have hMl : ∀ i, (mixR f p q i).length = P := fun i => by rw [mixR_len, hP]
  have HRg : Hid (∀ i, i < p → ∀ g W, Calls Tryz.prog 73 #[.agg #[.int .i64 (p : Int), .int .i64 (q : Int), .slice (some ⟨g, 0, none⟩) P P, .int .i64 0, .int .i64 0], .int .i64 (i : Int)] W fun e w' => e = .returned (.slice (some ⟨g, i * q * 6, none⟩) q (P - i * q)) ∧ Below W.heap.size W w') := fun i hi g W => by
    have := rowOf_any (g := g) (o := 0) (N := P) (cap := P) p q i 0 0 W hP.symm (Nat.le_refl _) hq hp.2 hi
    rwa [Nat.zero_add] at this
  have HRf : Hid (∀ i, i < m → ∀ W, Calls Tryz.prog 73 #[.agg #[.int .i64 f.rows, .int .i64 f.cols, .slice (some ⟨g0, o0, none⟩) N cap, .int .i64 f.row, .int .i64 f.col], .int .i64 (i : Int)] W fun e w' => e = .returned (.slice (some ⟨g0, o0 + i * n * 6, none⟩) n (cap - i * n)) ∧ Below W.heap.size W w') := fun i hi W => by
    have := rowOf_any (g := g0) (o := o0) m n i f.row f.col W (hN.trans hlen) hcap hn2 hm2.2 hi
    rwa [← hrl, ← hcl] at this
  have HSrc : Hid (∀ i, i < m → ∀ W, Below w.heap.size w W → CelsW ok W (.slice (some ⟨g0, o0 + i * n * 6, none⟩) n (cap - i * n)) (rowK f.cells n i)) := fun i hi W hW => by
    have hr := row_room (n := n) hi
    exact rows_cap (hS.below hW) hN.symm (hN.trans hlen) hi (by omega)
  have HMl := Lib.hid hMl
  have HP := Lib.hid hP
  have HLn := Lib.hid (fun i (hi : i < m) => rowK_len hlen hi)
  have HLw := Lib.hid hL
  have hmn : f.cols.toNat = n := hf.nat.2
  have HMN := Lib.hid hmn
  have HRL := Lib.hid hrl
  have hfr : f.rows ≤ 100 := by omega
  have hfr2 : 2 ≤ f.rows := by omega
  have hp1 : (p : Int) ≤ 100 := by omega
  have hp2 : 2 ≤ (p : Int) := by omega
  have hq1 : (q : Int) ≤ 200 := by omega
  have hq2 : 8 ≤ (q : Int) := by omega
  have hr1 : (0 : Int) ≤ f.row := by omega
  have hr2 : f.row < 100 := by omega
  have hc1 : (0 : Int) ≤ f.col := by omega
  have hc2 : f.col < 200 := by omega
  have hpf : (p : Int) ≤ f.rows := by omega
  have HPQ := Lib.hid (And.intro hp hq)
  have HMn := Lib.hid (And.intro hm2 hn2)
  clear hS hL hf hN hcap hP hMl hlen hmn hrl hcl hm2 hn2 hrow hcol hp hq
  go_enter Tryz.func39, Tryz.ntmps39
  go_wp2_with fail
  go_fit (HV.out _ HB.out)
  rintro e w2 ⟨rfl, hb2⟩
  go_wp2_with fail
  go_fit (HNw.out _ (HB.out.trans (hb2.mono HB.out.size)))
  rintro e w3 ⟨g, rfl, ⟨zs, hg, hbk⟩, hb3⟩
  have hX := (show Below (w.heap.size + 2) ((w.alloc (.cells #[.int .i64 f.rows, .int .i64 f.cols, .slice (some ⟨g0, o0, none⟩) N cap, .int .i64 f.row, .int .i64 f.col] 35)).alloc (.cells #[.int .i64 0, .int .i64 0, .slice none 0 0, .int .i64 0, .int .i64 0] 35)) w3 by simpa using hb2.trans (hb3.mono hb2.size))
  obtain ⟨q1, q2, q3⟩ := HF.out _ hX
  obtain ⟨⟨d0, d1, d2, d3, d4⟩, f0, f1, f2, f3, f4⟩ := q2.cells
  have hlt := q2.lt
  have HI0 := Lib.hid (HS0.out w3 g zs hX (by have h2 := hb2.size; rw [World.size_alloc, World.size_alloc] at h2; omega) hbk (HMl.out 0))
  unfold set5 at HI0
  clear q1 q2 q3 HF HS0 hX hg hbk hb2 hb3 HV HNw HB
  go_upto_if 22 with (fail)
  obtain ⟨W4, hW4⟩ : ∃ W4, (((((w3.setCell ⟨w.heap.size + 1, 0, none⟩ (.int .i64 (p : Int))).setCell ⟨w.heap.size + 1, 1, none⟩ (.int .i64 (q : Int))).setCell ⟨w.heap.size + 1, 2, none⟩ (.slice (some ⟨g, 0, none⟩) P P)).setCell ⟨w.heap.size + 1, 3, none⟩ (.int .i64 0)).setCell ⟨w.heap.size + 1, 4, none⟩ (.int .i64 0)) = W4 := ⟨_, rfl⟩
  have HI1 : Hid (ResS w W4 f (some ⟨g0, o0, none⟩) N cap p q P g (mixR f p q 0) zs) := by rw [← hW4]; exact HI0
  rw [hW4]
  clear hW4 HI0 d0 d1 d2 d3 d4 f0 f1 f2 f3 f4 hlt
  obtain ⟨⟨x0, x1, x2, x3, x4⟩, _⟩ := HI1.out.fr.cells
  go_wp2
  clear x0 x1 x2 x3 x4
  go_loopw [29] (fun s29 wr => ∃ i : Nat, s29 = .int .i64 (i : Int) ∧ (i : Int) ≤ (p : Int) ∧ Hid (ResS w wr f (some ⟨g0, o0, none⟩) N cap p q P g (mixR f p q i) zs)) (fun s29 _ => p - (intOf s29).toNat)
  case atStart => exact ⟨0, rfl, by omega, HI1⟩
  case round =>
    obtain ⟨i, rfl, hi, HI⟩ := hrel
    clear HI1
    by_cases hlt : (i : Int) < (p : Int)
    · have hip : i < p := by omega
      have him : i < m := by have := HRL.out; omega
      obtain ⟨⟨r0, r1, r2, r3, r4⟩, _⟩ := HI.out.res.cells
      have hrg := HRg.out i hip g
      obtain ⟨a, ha⟩ : ∃ a, i * q = a := ⟨_, rfl⟩
      rw [ha] at hrg
      have HR1 := Lib.hid hrg
      have HA := Lib.hid ha
      clear hrg ha
      go_wp2_with fail
      go_fit (HR1.out _)
      rintro e w5 ⟨rfl, hb5⟩
      have HI5 := Lib.hid (HI.out.next hb5)
      clear HI hb5 r0 r1 r2 r3 r4
      obtain ⟨⟨x0, x1, x2, x3, x4⟩, _⟩ := HI5.out.fr.cells
      go_wp2_with fail
      go_fit (HRf.out i him _)
      rintro e w6 ⟨rfl, hb6⟩
      have HI6 := Lib.hid (HI5.out.next hb6)
      clear HI5 hb6 x0 x1 x2 x3 x4
      obtain ⟨k, hk⟩ : ∃ k, min n q = k := ⟨_, rfl⟩
      have ha := HA.out
      have hroom := row_room (n := q) hip
      rw [HP.out, ha] at hroom
      obtain ⟨M, hM⟩ : ∃ M, mixR f p q i = M := ⟨_, rfl⟩
      obtain ⟨l, hl⟩ : ∃ l, rowK f.cells n i = l := ⟨_, rfl⟩
      have hll : l.length = n := by rw [← hl]; exact HLn.out i him
      have hMlen : M.length = P := by rw [← hM]; exact HMl.out i
      have hMp : M.length = p * q := by rw [hMlen, HP.out]
      have hq8 := HPQ.out.2
      have hn8 := HMn.out.2
      have hk0 : 0 < k := by omega
      have hkq : k ≤ q := by omega
      have hkn : k ≤ n := by omega
      have hkl : k = min l.length q := by rw [hll]; exact hk.symm
      have hsrc := HSrc.out i him w6 HI6.out.below
      rw [hl] at hsrc
      have hcp := copy_row (L := M) (l := l) (m := p) (q := q) (i := i) (k := k) hMp hip (by rw [← hM]; exact mixR_cur f p q i hip) hkl
      obtain ⟨hat, hfin⟩ := last_row (L := M) (l := l) (m := p) (q := q) (i := i) (k := k) hMp hip hkl hk0
      have hstep := mixR_step f p q i (by omega) hip (by have := HRL.out; omega)
      rw [HMN.out, hl, hM] at hstep
      rw [ha] at hcp hat hfin
      obtain ⟨M1, hM1⟩ : ∃ M1, setK M q i (l.take q ++ List.replicate (q - l.length) blkC) = M1 := ⟨_, rfl⟩
      rw [hM1] at hcp hat hfin
      obtain ⟨c, hc⟩ : ∃ c, l[k - 1]? = some c := ⟨_, List.getElem?_eq_getElem (by omega)⟩
      have hfin := hfin c hc
      rw [hstep] at hfin
      rw [hc] at hat
      have hM1l : M1.length = P := by rw [← hM1, setK_len _ hMp hip (by rw [List.length_append, List.length_take, List.length_replicate]; omega), HP.out]
      obtain ⟨y, hy⟩ : ∃ y, k - 1 = y := ⟨_, rfl⟩
      rw [hy] at hat hfin
      obtain ⟨x, hx⟩ : ∃ x, i + 1 = x := ⟨_, rfl⟩
      rw [hx] at hfin
      have HI6' : Hid (ResS w w6 f (some ⟨g0, o0, none⟩) N cap p q P g M zs) := by rw [← hM]; exact HI6
      have hy1 : (k : Int) - 1 = (y : Int) := by omega
      have hx1 : (i : Int) + 1 = (x : Int) := by omega
      have i1 : (0 : Int) ≤ (y : Int) := by omega
      have i2 : (y : Int) < (q : Int) := by omega
      have i3 : (k : Int) ≤ 200 := by omega
      have i4 : (1 : Int) ≤ (k : Int) := by omega
      have hxz : (x : Int) ≤ (p : Int) := by omega
      have HXI : Hid (i < x ∧ x = i + 1 ∧ a + y < P) := by show _ ∧ _ ∧ _; omega
      have HFIN := Lib.hid hfin
      have HSR := Lib.hid hsrc
      have HML := Lib.hid hMlen
      have HM1L := Lib.hid hM1l
      have HLL := Lib.hid hll
      have HKK := Lib.hid hk
      have HRM := Lib.hid hroom
      have HK0 := Lib.hid hk0
      have HKQ := Lib.hid hkq
      have HZ : Hid (∀ w7, Hid (blkL w7 g (M.take a ++ l.take k ++ M.drop (a + k)) zs) → Hid (KeepW (fun j => j ≠ g) w6 w7) → ResS w w7 f (some ⟨g0, o0, none⟩) N cap p q P g M1 zs ∧ w7.cell? ⟨g, a * 6 + y * 6 + 1, none⟩ = some (.int .i64 c.2.1) ∧
          (w7.cell? ⟨0, 0, none⟩ = some (.int .i32 32) ∧ w7.cell? ⟨0, 1, none⟩ = some (.int .i64 1) ∧ w7.cell? ⟨0, 2, none⟩ = some (.int .i64 0) ∧ w7.cell? ⟨0, 3, none⟩ = some (.bool false) ∧ w7.cell? ⟨0, 4, none⟩ = some (.bool false) ∧ w7.cell? ⟨0, 5, none⟩ = some (.bool false)) ∧ 0 < w7.heap.size ∧
          (w7.frozen? ⟨g, a * 6 + y * 6, none⟩ = false ∧ w7.frozen? ⟨g, a * 6 + y * 6 + 1, none⟩ = false ∧ w7.frozen? ⟨g, a * 6 + y * 6 + 2, none⟩ = false ∧ w7.frozen? ⟨g, a * 6 + y * 6 + 3, none⟩ = false ∧ w7.frozen? ⟨g, a * 6 + y * 6 + 4, none⟩ = false ∧ w7.frozen? ⟨g, a * 6 + y * 6 + 5, none⟩ = false) ∧ g < w7.heap.size ∧
          cell6 w7 g (a * 6 + y * 6) c) := fun w7 h1 h2 => by
        have h1 := h1.out
        rw [hcp] at h1
        have hI := HI6'.out.turn h2.out h1 hM1l
        obtain ⟨z0, z1, z2, z3, z4, z5⟩ := (HLw.out.below hI.below).2.2
        simp only [blkC, Nat.zero_add] at z0 z1 z2 z3 z4 z5
        have hcell := h1.cells hat
        rw [Nat.add_mul] at hcell
        exact ⟨hI, hcell.2.1, ⟨z0, z1, z2, z3, z4, z5⟩, (HLw.out.below hI.below).2.1, ⟨h1.frozen _, h1.frozen _, h1.frozen _, h1.frozen _, h1.frozen _, h1.frozen _⟩, h1.lt, hcell⟩
      clear HI6 hk hroom hM hl hll hMlen hMp hq8 hn8 hkn hkl hsrc hcp hat hfin hstep hM1 hc hM1l hy hx ha hk0 hkq
      by_cases hcw : c.2.1 = 2
      · have b2 : (c.2.1 == 2) = true := by simpa using hcw
        have hfin2 := HFIN.out
        rw [if_pos hcw] at hfin2
        have HF2 := Lib.hid hfin2
        clear hfin2 HFIN hcw
        go_wp2_with (refine wpList_copy6 (o := ⟨some 39, _, _, _, _, _⟩) (p := a) (k := k) rfl (.tmp 35) (.tmp 38) rfl (by rfl) (by rfl) HI6'.out.blk HSR.out HLL.out (show min n q = k from HKK.out) HK0.out (by rw [HML.out]; have := HRM.out; have := HKQ.out; omega) ?_; intro w7 hg7 hk7; obtain ⟨h7, _, ⟨z0, z1, z2, z3, z4, z5⟩, hzlt, ⟨f0, f1, f2, f3, f4, f5⟩, hglt, e0, e1, e2, e3, e4, e5⟩ := HZ.out w7 hg7 hk7; have HI7 := Lib.hid h7; clear h7 hg7 hk7)
        have h8 : ResS w (set6 w7 g ((a + y) * 6) blkC) f (some ⟨g0, o0, none⟩) N cap p q P g (mixR f p q x) zs := by
          rw [HF2.out]
          exact HI7.out.turn (set6_keep _ _ _ _ fun k => k rfl) (HI7.out.blk.set (a + y) blkC (by rw [HM1L.out]; exact HXI.out.2.2)) (by rw [List.length_set]; exact HM1L.out)
        unfold set6 at h8
        rw [Nat.add_mul] at h8
        have H8 := Lib.hid h8
        clear h8
        go_roundw
        case rel => exact ⟨x, rfl, hxz, H8.out⟩
        case measure => simp [intOf]; have := HXI.out; omega
      · have b2 : (c.2.1 == 2) = false := by simpa using hcw
        have hfin2 := HFIN.out
        rw [if_neg hcw] at hfin2
        have HF2 := Lib.hid hfin2
        clear hfin2 HFIN hcw
        go_wp2_with (refine wpList_copy6 (o := ⟨some 39, _, _, _, _, _⟩) (p := a) (k := k) rfl (.tmp 35) (.tmp 38) rfl (by rfl) (by rfl) HI6'.out.blk HSR.out HLL.out (show min n q = k from HKK.out) HK0.out (by rw [HML.out]; have := HRM.out; have := HKQ.out; omega) ?_; intro w7 hg7 hk7; obtain ⟨h7, e1, _⟩ := HZ.out w7 hg7 hk7; have HI7 := Lib.hid h7; clear h7 hg7 hk7)
        have H8 : Hid (ResS w w7 f (some ⟨g0, o0, none⟩) N cap p q P g (mixR f p q x) zs) := by rw [HF2.out]; exact HI7
        go_roundw
        case rel => exact ⟨x, rfl, hxz, H8.out⟩
        case measure => simp [intOf]; have := HXI.out; omega
    · have hiz : (i : Int) = (p : Int) := by omega
      have hend : mixR f p q i = resC f p q := mixR_end f p q i (by omega) (by omega)
      have HI9 : Hid (ResS w wr f (some ⟨g0, o0, none⟩) N cap p q P g (resC f p q) zs) := by rw [← hend]; exact HI
      clear HI hend HRg HRf HSrc HLn
      obtain ⟨⟨x0, x1, x2, x3, x4⟩, _⟩ := HI9.out.fr.cells
      obtain ⟨⟨r0, r1, r2, r3, r4⟩, z0, z1, z2, z3, z4⟩ := HI9.out.res.cells
      have hlt2 := HI9.out.res.lt
      have HEND := Lib.hid (fun a b V hV => ResS.done (a := a) (b := b) (V := V) HI9.out hV)
      clear HI9
      by_cases ha : f.row ≤ (p : Int) - 1
      · by_cases hb : f.col ≤ (q : Int) - 1
        · have EA : Hid (min f.row ((p : Int) - 1) = f.row) := by show _ = _; omega
          have EB : Hid (min f.col ((q : Int) - 1) = f.col) := by show _ = _; omega
          have HE := Lib.hid (fun V hV => HEND.out (f.row) (f.col) V hV)
          clear HEND
          go_wp2
          go_region
          obtain ⟨V, hV⟩ : ∃ V, ((wr.setCell ⟨w.heap.size + 1, 3, none⟩ (.int .i64 (f.row))).setCell ⟨w.heap.size + 1, 4, none⟩ (.int .i64 (f.col))).drew = V := ⟨_, rfl⟩
          obtain ⟨k1, k2, k3, k4⟩ := HE.out V hV
          have K2 := Lib.hid k2
          have K3 := Lib.hid k3
          have K4 := Lib.hid k4
          first | rw [hV] | (simp only [EA.out, EB.out]; rw [hV])
          clear r0 r1 r2 r3 r4 z0 z1 z2 z3 z4 x0 x1 x2 x3 x4 hlt2
          obtain ⟨⟨r0, r1, r2, r3, r4⟩, z0, z1, z2, z3, z4⟩ := k1.cells
          have hlt3 := k1.lt
          clear hV HE k1 k2 k3 k4
          go_wp2
          obtain ⟨⟨y0, y1, y2, y3, y4⟩, _⟩ := K2.out.cells
          unfold set5 at y0 y1 y2 y3 y4
          exact bodyPost_ret (v := .tuple #[.agg #[.int .i64 (p : Int), .int .i64 (q : Int), .slice (some ⟨g, 0, none⟩) P P, .int .i64 (f.row), .int .i64 (f.col)], .int .i64 0]) (by simp [results, Tryz.results39, go_sem, y0, y1, y2, y3, y4]) rfl ⟨_, rfl, by rw [EA.out, EB.out]; exact K3.out, K4.out⟩
        · have EA : Hid (min f.row ((p : Int) - 1) = f.row) := by show _ = _; omega
          have EB : Hid (min f.col ((q : Int) - 1) = (q : Int) - 1) := by show _ = _; omega
          have HE := Lib.hid (fun V hV => HEND.out (f.row) ((q : Int) - 1) V hV)
          clear HEND
          go_wp2
          go_region
          obtain ⟨V, hV⟩ : ∃ V, ((wr.setCell ⟨w.heap.size + 1, 3, none⟩ (.int .i64 (f.row))).setCell ⟨w.heap.size + 1, 4, none⟩ (.int .i64 ((q : Int) - 1))).drew = V := ⟨_, rfl⟩
          obtain ⟨k1, k2, k3, k4⟩ := HE.out V hV
          have K2 := Lib.hid k2
          have K3 := Lib.hid k3
          have K4 := Lib.hid k4
          first | rw [hV] | (simp only [EA.out, EB.out]; rw [hV])
          clear r0 r1 r2 r3 r4 z0 z1 z2 z3 z4 x0 x1 x2 x3 x4 hlt2
          obtain ⟨⟨r0, r1, r2, r3, r4⟩, z0, z1, z2, z3, z4⟩ := k1.cells
          have hlt3 := k1.lt
          clear hV HE k1 k2 k3 k4
          go_wp2
          obtain ⟨⟨y0, y1, y2, y3, y4⟩, _⟩ := K2.out.cells
          unfold set5 at y0 y1 y2 y3 y4
          exact bodyPost_ret (v := .tuple #[.agg #[.int .i64 (p : Int), .int .i64 (q : Int), .slice (some ⟨g, 0, none⟩) P P, .int .i64 (f.row), .int .i64 ((q : Int) - 1)], .int .i64 0]) (by simp [results, Tryz.results39, go_sem, y0, y1, y2, y3, y4]) rfl ⟨_, rfl, by rw [EA.out, EB.out]; exact K3.out, K4.out⟩
      · by_cases hb : f.col ≤ (q : Int) - 1
        · have EA : Hid (min f.row ((p : Int) - 1) = (p : Int) - 1) := by show _ = _; omega
          have EB : Hid (min f.col ((q : Int) - 1) = f.col) := by show _ = _; omega
          have HE := Lib.hid (fun V hV => HEND.out ((p : Int) - 1) (f.col) V hV)
          clear HEND
          go_wp2
          go_region
          obtain ⟨V, hV⟩ : ∃ V, ((wr.setCell ⟨w.heap.size + 1, 3, none⟩ (.int .i64 ((p : Int) - 1))).setCell ⟨w.heap.size + 1, 4, none⟩ (.int .i64 (f.col))).drew = V := ⟨_, rfl⟩
          obtain ⟨k1, k2, k3, k4⟩ := HE.out V hV
          have K2 := Lib.hid k2
          have K3 := Lib.hid k3
          have K4 := Lib.hid k4
          first | rw [hV] | (simp only [EA.out, EB.out]; rw [hV])
          clear r0 r1 r2 r3 r4 z0 z1 z2 z3 z4 x0 x1 x2 x3 x4 hlt2
          obtain ⟨⟨r0, r1, r2, r3, r4⟩, z0, z1, z2, z3, z4⟩ := k1.cells
          have hlt3 := k1.lt
          clear hV HE k1 k2 k3 k4
          go_wp2
          obtain ⟨⟨y0, y1, y2, y3, y4⟩, _⟩ := K2.out.cells
          unfold set5 at y0 y1 y2 y3 y4
          exact bodyPost_ret (v := .tuple #[.agg #[.int .i64 (p : Int), .int .i64 (q : Int), .slice (some ⟨g, 0, none⟩) P P, .int .i64 ((p : Int) - 1), .int .i64 (f.col)], .int .i64 0]) (by simp [results, Tryz.results39, go_sem, y0, y1, y2, y3, y4]) rfl ⟨_, rfl, by rw [EA.out, EB.out]; exact K3.out, K4.out⟩
        · have EA : Hid (min f.row ((p : Int) - 1) = (p : Int) - 1) := by show _ = _; omega
          have EB : Hid (min f.col ((q : Int) - 1) = (q : Int) - 1) := by show _ = _; omega
          have HE := Lib.hid (fun V hV => HEND.out ((p : Int) - 1) ((q : Int) - 1) V hV)
          clear HEND
          go_wp2
          go_region
          obtain ⟨V, hV⟩ : ∃ V, ((wr.setCell ⟨w.heap.size + 1, 3, none⟩ (.int .i64 ((p : Int) - 1))).setCell ⟨w.heap.size + 1, 4, none⟩ (.int .i64 ((q : Int) - 1))).drew = V := ⟨_, rfl⟩
          obtain ⟨k1, k2, k3, k4⟩ := HE.out V hV
          have K2 := Lib.hid k2
          have K3 := Lib.hid k3
          have K4 := Lib.hid k4
          first | rw [hV] | (simp only [EA.out, EB.out]; rw [hV])
          clear r0 r1 r2 r3 r4 z0 z1 z2 z3 z4 x0 x1 x2 x3 x4 hlt2
          obtain ⟨⟨r0, r1, r2, r3, r4⟩, z0, z1, z2, z3, z4⟩ := k1.cells
          have hlt3 := k1.lt
          clear hV HE k1 k2 k3 k4
          go_wp2
          obtain ⟨⟨y0, y1, y2, y3, y4⟩, _⟩ := K2.out.cells
          unfold set5 at y0 y1 y2 y3 y4
          exact bodyPost_ret (v := .tuple #[.agg #[.int .i64 (p : Int), .int .i64 (q : Int), .slice (some ⟨g, 0, none⟩) P P, .int .i64 ((p : Int) - 1), .int .i64 ((q : Int) - 1)], .int .i64 0]) (by simp [results, Tryz.results39, go_sem, y0, y1, y2, y3, y4]) rfl ⟨_, rfl, by rw [EA.out, EB.out]; exact K3.out, K4.out⟩

set_option maxRecDepth 100000 in
set_option maxHeartbeats 4000000 in
theorem gresO_gt (w : World) (hf : OkF f m n) (hN : N = f.cells.length) (hcap : N ≤ cap) (hS : CelsW ok w (.slice (some ⟨g0, o0, none⟩) N cap) f.cells) (hL : LaidW w) (hp : 2 ≤ p ∧ p ≤ 100) (hq : 8 ≤ q ∧ q ≤ 200) (hpm : m < p) :
    Calls Tryz.prog 39 #[.agg #[.int .i64 f.rows, .int .i64 f.cols, .slice (some ⟨g0, o0, none⟩) N cap, .int .i64 f.row, .int .i64 f.col], .int .i64 (p : Int), .int .i64 (q : Int)] w fun e w' => ∃ v', e = .returned (.tuple #[v', .int .i64 0]) ∧ OwnF w.heap.size w' v' ⟨p, q, resC f p q, min f.row ((p : Int) - 1), min f.col ((q : Int) - 1)⟩ ∧ Below w.heap.size w w' := by
  have HV : Hid (∀ W, Below w.heap.size w W → Calls Tryz.prog 19 #[.agg #[.int .i64 f.rows, .int .i64 f.cols, .slice (some ⟨g0, o0, none⟩) N cap, .int .i64 f.row, .int .i64 f.col]] W fun e w' => e = .returned (.bool true) ∧ Below W.heap.size W w') := fun W hW => by
    have := gvalid_any W (FrameW.below ⟨_, N, cap, rfl, hN, hcap, hS⟩ hW) (hL.below hW)
    rwa [hf.valid] at this
  have hlen := hf.len
  have hrl := hf.rows
  have hcl := hf.cols
  have hm2 := hf.hm
  have hn2 := hf.hn
  have hrow := hf.row
  have hcol := hf.col
  obtain ⟨P, hP⟩ : ∃ P, p * q = P := ⟨_, rfl⟩
  have HNw : Hid (∀ W, Below w.heap.size w W → Calls Tryz.prog 26 #[.int .i64 (p : Int), .int .i64 (q : Int)] W fun e w' => ∃ g, e = .returned (.tuple #[.agg #[.int .i64 (p : Int), .int .i64 (q : Int), .slice (some ⟨g, 0, none⟩) P P, .int .i64 0, .int .i64 0], .int .i64 0]) ∧ NewL W w' g (mixR f p q 0) ∧ Below W.heap.size W w') := fun W hW => by
    have := gnew_any p q W hp hq (hL.below hW).2
    rwa [hP, ← hP, ← mixR_zero f p q (by omega), hP] at this
  have HF := Lib.hid (fun W hW => two_frB (w := w) (W := W) (ao := some ⟨g0, o0, none⟩) (n := N) (cap := cap) (r := f.rows) (c := f.cols) (a := f.row) (b := f.col) hW)
  have HB := Lib.hid (two_start (w := w) (ao := some ⟨g0, o0, none⟩) (n := N) (cap := cap) (r := f.rows) (c := f.cols) (a := f.row) (b := f.col))
  have HS0 := Lib.hid (fun w3 g zs hX hg hb hl => ResS.start (w := w) (f := f) (ao := some ⟨g0, o0, none⟩) (N := N) (cap := cap) (p := p) (q := q) (P := P) (g := g) (M := mixR f p q 0) (zs := zs) (w3 := w3) hX hg hb hl)
  have hMl : ∀ i, (mixR f p q i).length = P := fun i => by rw [mixR_len, hP]
  have HRg : Hid (∀ i, i < p → ∀ g W, Calls Tryz.prog 73 #[.agg #[.int .i64 (p : Int), .int .i64 (q : Int), .slice (some ⟨g, 0, none⟩) P P, .int .i64 0, .int .i64 0], .int .i64 (i : Int)] W fun e w' => e = .returned (.slice (some ⟨g, i * q * 6, none⟩) q (P - i * q)) ∧ Below W.heap.size W w') := fun i hi g W => by
    have := rowOf_any (g := g) (o := 0) (N := P) (cap := P) p q i 0 0 W hP.symm (Nat.le_refl _) hq hp.2 hi
    rwa [Nat.zero_add] at this
  have HRf : Hid (∀ i, i < m → ∀ W, Calls Tryz.prog 73 #[.agg #[.int .i64 f.rows, .int .i64 f.cols, .slice (some ⟨g0, o0, none⟩) N cap, .int .i64 f.row, .int .i64 f.col], .int .i64 (i : Int)] W fun e w' => e = .returned (.slice (some ⟨g0, o0 + i * n * 6, none⟩) n (cap - i * n)) ∧ Below W.heap.size W w') := fun i hi W => by
    have := rowOf_any (g := g0) (o := o0) m n i f.row f.col W (hN.trans hlen) hcap hn2 hm2.2 hi
    rwa [← hrl, ← hcl] at this
  have HSrc : Hid (∀ i, i < m → ∀ W, Below w.heap.size w W → CelsW ok W (.slice (some ⟨g0, o0 + i * n * 6, none⟩) n (cap - i * n)) (rowK f.cells n i)) := fun i hi W hW => by
    have hr := row_room (n := n) hi
    exact rows_cap (hS.below hW) hN.symm (hN.trans hlen) hi (by omega)
  have HMl := Lib.hid hMl
  have HP := Lib.hid hP
  have HLn := Lib.hid (fun i (hi : i < m) => rowK_len hlen hi)
  have HLw := Lib.hid hL
  have hmn : f.cols.toNat = n := hf.nat.2
  have HMN := Lib.hid hmn
  have HRL := Lib.hid hrl
  have hfr : f.rows ≤ 100 := by omega
  have hfr2 : 2 ≤ f.rows := by omega
  have hp1 : (p : Int) ≤ 100 := by omega
  have hp2 : 2 ≤ (p : Int) := by omega
  have hq1 : (q : Int) ≤ 200 := by omega
  have hq2 : 8 ≤ (q : Int) := by omega
  have hr1 : (0 : Int) ≤ f.row := by omega
  have hr2 : f.row < 100 := by omega
  have hc1 : (0 : Int) ≤ f.col := by omega
  have hc2 : f.col < 200 := by omega
  have hpf : f.rows < (p : Int) := by omega
  have HPQ := Lib.hid (And.intro hp hq)
  have HMn := Lib.hid (And.intro hm2 hn2)
  clear hS hL hf hN hcap hP hMl hlen hmn hrl hcl hm2 hn2 hrow hcol hp hq
  go_enter Tryz.func39, Tryz.ntmps39
  go_wp2_with fail
  go_fit (HV.out _ HB.out)
  rintro e w2 ⟨rfl, hb2⟩
  go_wp2_with fail
  go_fit (HNw.out _ (HB.out.trans (hb2.mono HB.out.size)))
  rintro e w3 ⟨g, rfl, ⟨zs, hg, hbk⟩, hb3⟩
  have hX := (show Below (w.heap.size + 2) ((w.alloc (.cells #[.int .i64 f.rows, .int .i64 f.cols, .slice (some ⟨g0, o0, none⟩) N cap, .int .i64 f.row, .int .i64 f.col] 35)).alloc (.cells #[.int .i64 0, .int .i64 0, .slice none 0 0, .int .i64 0, .int .i64 0] 35)) w3 by simpa using hb2.trans (hb3.mono hb2.size))
  obtain ⟨q1, q2, q3⟩ := HF.out _ hX
  obtain ⟨⟨d0, d1, d2, d3, d4⟩, f0, f1, f2, f3, f4⟩ := q2.cells
  have hlt := q2.lt
  have HI0 := Lib.hid (HS0.out w3 g zs hX (by have h2 := hb2.size; rw [World.size_alloc, World.size_alloc] at h2; omega) hbk (HMl.out 0))
  unfold set5 at HI0
  clear q1 q2 q3 HF HS0 hX hg hbk hb2 hb3 HV HNw HB
  go_upto_if 22 with (fail)
  obtain ⟨W4, hW4⟩ : ∃ W4, (((((w3.setCell ⟨w.heap.size + 1, 0, none⟩ (.int .i64 (p : Int))).setCell ⟨w.heap.size + 1, 1, none⟩ (.int .i64 (q : Int))).setCell ⟨w.heap.size + 1, 2, none⟩ (.slice (some ⟨g, 0, none⟩) P P)).setCell ⟨w.heap.size + 1, 3, none⟩ (.int .i64 0)).setCell ⟨w.heap.size + 1, 4, none⟩ (.int .i64 0)) = W4 := ⟨_, rfl⟩
  have HI1 : Hid (ResS w W4 f (some ⟨g0, o0, none⟩) N cap p q P g (mixR f p q 0) zs) := by rw [← hW4]; exact HI0
  rw [hW4]
  clear hW4 HI0 d0 d1 d2 d3 d4 f0 f1 f2 f3 f4 hlt
  obtain ⟨⟨x0, x1, x2, x3, x4⟩, _⟩ := HI1.out.fr.cells
  go_wp2
  clear x0 x1 x2 x3 x4
  go_loopw [29] (fun s29 wr => ∃ i : Nat, s29 = .int .i64 (i : Int) ∧ (i : Int) ≤ f.rows ∧ Hid (ResS w wr f (some ⟨g0, o0, none⟩) N cap p q P g (mixR f p q i) zs)) (fun s29 _ => m - (intOf s29).toNat)
  case atStart => exact ⟨0, rfl, by omega, HI1⟩
  case round =>
    obtain ⟨i, rfl, hi, HI⟩ := hrel
    clear HI1
    by_cases hlt : (i : Int) < f.rows
    · have hip : i < p := by omega
      have him : i < m := by have := HRL.out; omega
      obtain ⟨⟨r0, r1, r2, r3, r4⟩, _⟩ := HI.out.res.cells
      have hrg := HRg.out i hip g
      obtain ⟨a, ha⟩ : ∃ a, i * q = a := ⟨_, rfl⟩
      rw [ha] at hrg
      have HR1 := Lib.hid hrg
      have HA := Lib.hid ha
      clear hrg ha
      go_wp2_with fail
      go_fit (HR1.out _)
      rintro e w5 ⟨rfl, hb5⟩
      have HI5 := Lib.hid (HI.out.next hb5)
      clear HI hb5 r0 r1 r2 r3 r4
      obtain ⟨⟨x0, x1, x2, x3, x4⟩, _⟩ := HI5.out.fr.cells
      go_wp2_with fail
      go_fit (HRf.out i him _)
      rintro e w6 ⟨rfl, hb6⟩
      have HI6 := Lib.hid (HI5.out.next hb6)
      clear HI5 hb6 x0 x1 x2 x3 x4
      obtain ⟨k, hk⟩ : ∃ k, min n q = k := ⟨_, rfl⟩
      have ha := HA.out
      have hroom := row_room (n := q) hip
      rw [HP.out, ha] at hroom
      obtain ⟨M, hM⟩ : ∃ M, mixR f p q i = M := ⟨_, rfl⟩
      obtain ⟨l, hl⟩ : ∃ l, rowK f.cells n i = l := ⟨_, rfl⟩
      have hll : l.length = n := by rw [← hl]; exact HLn.out i him
      have hMlen : M.length = P := by rw [← hM]; exact HMl.out i
      have hMp : M.length = p * q := by rw [hMlen, HP.out]
      have hq8 := HPQ.out.2
      have hn8 := HMn.out.2
      have hk0 : 0 < k := by omega
      have hkq : k ≤ q := by omega
      have hkn : k ≤ n := by omega
      have hkl : k = min l.length q := by rw [hll]; exact hk.symm
      have hsrc := HSrc.out i him w6 HI6.out.below
      rw [hl] at hsrc
      have hcp := copy_row (L := M) (l := l) (m := p) (q := q) (i := i) (k := k) hMp hip (by rw [← hM]; exact mixR_cur f p q i hip) hkl
      obtain ⟨hat, hfin⟩ := last_row (L := M) (l := l) (m := p) (q := q) (i := i) (k := k) hMp hip hkl hk0
      have hstep := mixR_step f p q i (by omega) hip (by have := HRL.out; omega)
      rw [HMN.out, hl, hM] at hstep
      rw [ha] at hcp hat hfin
      obtain ⟨M1, hM1⟩ : ∃ M1, setK M q i (l.take q ++ List.replicate (q - l.length) blkC) = M1 := ⟨_, rfl⟩
      rw [hM1] at hcp hat hfin
      obtain ⟨c, hc⟩ : ∃ c, l[k - 1]? = some c := ⟨_, List.getElem?_eq_getElem (by omega)⟩
      have hfin := hfin c hc
      rw [hstep] at hfin
      rw [hc] at hat
      have hM1l : M1.length = P := by rw [← hM1, setK_len _ hMp hip (by rw [List.length_append, List.length_take, List.length_replicate]; omega), HP.out]
      obtain ⟨y, hy⟩ : ∃ y, k - 1 = y := ⟨_, rfl⟩
      rw [hy] at hat hfin
      obtain ⟨x, hx⟩ : ∃ x, i + 1 = x := ⟨_, rfl⟩
      rw [hx] at hfin
      have HI6' : Hid (ResS w w6 f (some ⟨g0, o0, none⟩) N cap p q P g M zs) := by rw [← hM]; exact HI6
      have hy1 : (k : Int) - 1 = (y : Int) := by omega
      have hx1 : (i : Int) + 1 = (x : Int) := by omega
      have i1 : (0 : Int) ≤ (y : Int) := by omega
      have i2 : (y : Int) < (q : Int) := by omega
      have i3 : (k : Int) ≤ 200 := by omega
      have i4 : (1 : Int) ≤ (k : Int) := by omega
      have hxz : (x : Int) ≤ f.rows := by omega
      have HXI : Hid (i < x ∧ x = i + 1 ∧ a + y < P) := by show _ ∧ _ ∧ _; omega
      have HFIN := Lib.hid hfin
      have HSR := Lib.hid hsrc
      have HML := Lib.hid hMlen
      have HM1L := Lib.hid hM1l
      have HLL := Lib.hid hll
      have HKK := Lib.hid hk
      have HRM := Lib.hid hroom
      have HK0 := Lib.hid hk0
      have HKQ := Lib.hid hkq
      have HZ : Hid (∀ w7, Hid (blkL w7 g (M.take a ++ l.take k ++ M.drop (a + k)) zs) → Hid (KeepW (fun j => j ≠ g) w6 w7) → ResS w w7 f (some ⟨g0, o0, none⟩) N cap p q P g M1 zs ∧ w7.cell? ⟨g, a * 6 + y * 6 + 1, none⟩ = some (.int .i64 c.2.1) ∧
          (w7.cell? ⟨0, 0, none⟩ = some (.int .i32 32) ∧ w7.cell? ⟨0, 1, none⟩ = some (.int .i64 1) ∧ w7.cell? ⟨0, 2, none⟩ = some (.int .i64 0) ∧ w7.cell? ⟨0, 3, none⟩ = some (.bool false) ∧ w7.cell? ⟨0, 4, none⟩ = some (.bool false) ∧ w7.cell? ⟨0, 5, none⟩ = some (.bool false)) ∧ 0 < w7.heap.size ∧
          (w7.frozen? ⟨g, a * 6 + y * 6, none⟩ = false ∧ w7.frozen? ⟨g, a * 6 + y * 6 + 1, none⟩ = false ∧ w7.frozen? ⟨g, a * 6 + y * 6 + 2, none⟩ = false ∧ w7.frozen? ⟨g, a * 6 + y * 6 + 3, none⟩ = false ∧ w7.frozen? ⟨g, a * 6 + y * 6 + 4, none⟩ = false ∧ w7.frozen? ⟨g, a * 6 + y * 6 + 5, none⟩ = false) ∧ g < w7.heap.size ∧
          cell6 w7 g (a * 6 + y * 6) c) := fun w7 h1 h2 => by
        have h1 := h1.out
        rw [hcp] at h1
        have hI := HI6'.out.turn h2.out h1 hM1l
        obtain ⟨z0, z1, z2, z3, z4, z5⟩ := (HLw.out.below hI.below).2.2
        simp only [blkC, Nat.zero_add] at z0 z1 z2 z3 z4 z5
        have hcell := h1.cells hat
        rw [Nat.add_mul] at hcell
        exact ⟨hI, hcell.2.1, ⟨z0, z1, z2, z3, z4, z5⟩, (HLw.out.below hI.below).2.1, ⟨h1.frozen _, h1.frozen _, h1.frozen _, h1.frozen _, h1.frozen _, h1.frozen _⟩, h1.lt, hcell⟩
      clear HI6 hk hroom hM hl hll hMlen hMp hq8 hn8 hkn hkl hsrc hcp hat hfin hstep hM1 hc hM1l hy hx ha hk0 hkq
      by_cases hcw : c.2.1 = 2
      · have b2 : (c.2.1 == 2) = true := by simpa using hcw
        have hfin2 := HFIN.out
        rw [if_pos hcw] at hfin2
        have HF2 := Lib.hid hfin2
        clear hfin2 HFIN hcw
        go_wp2_with (refine wpList_copy6 (o := ⟨some 39, _, _, _, _, _⟩) (p := a) (k := k) rfl (.tmp 35) (.tmp 38) rfl (by rfl) (by rfl) HI6'.out.blk HSR.out HLL.out (show min n q = k from HKK.out) HK0.out (by rw [HML.out]; have := HRM.out; have := HKQ.out; omega) ?_; intro w7 hg7 hk7; obtain ⟨h7, _, ⟨z0, z1, z2, z3, z4, z5⟩, hzlt, ⟨f0, f1, f2, f3, f4, f5⟩, hglt, e0, e1, e2, e3, e4, e5⟩ := HZ.out w7 hg7 hk7; have HI7 := Lib.hid h7; clear h7 hg7 hk7)
        have h8 : ResS w (set6 w7 g ((a + y) * 6) blkC) f (some ⟨g0, o0, none⟩) N cap p q P g (mixR f p q x) zs := by
          rw [HF2.out]
          exact HI7.out.turn (set6_keep _ _ _ _ fun k => k rfl) (HI7.out.blk.set (a + y) blkC (by rw [HM1L.out]; exact HXI.out.2.2)) (by rw [List.length_set]; exact HM1L.out)
        unfold set6 at h8
        rw [Nat.add_mul] at h8
        have H8 := Lib.hid h8
        clear h8
        go_roundw
        case rel => exact ⟨x, rfl, hxz, H8.out⟩
        case measure => simp [intOf]; have := HXI.out; omega
      · have b2 : (c.2.1 == 2) = false := by simpa using hcw
        have hfin2 := HFIN.out
        rw [if_neg hcw] at hfin2
        have HF2 := Lib.hid hfin2
        clear hfin2 HFIN hcw
        go_wp2_with (refine wpList_copy6 (o := ⟨some 39, _, _, _, _, _⟩) (p := a) (k := k) rfl (.tmp 35) (.tmp 38) rfl (by rfl) (by rfl) HI6'.out.blk HSR.out HLL.out (show min n q = k from HKK.out) HK0.out (by rw [HML.out]; have := HRM.out; have := HKQ.out; omega) ?_; intro w7 hg7 hk7; obtain ⟨h7, e1, _⟩ := HZ.out w7 hg7 hk7; have HI7 := Lib.hid h7; clear h7 hg7 hk7)
        have H8 : Hid (ResS w w7 f (some ⟨g0, o0, none⟩) N cap p q P g (mixR f p q x) zs) := by rw [HF2.out]; exact HI7
        go_roundw
        case rel => exact ⟨x, rfl, hxz, H8.out⟩
        case measure => simp [intOf]; have := HXI.out; omega
    · have hiz : (i : Int) = f.rows := by omega
      have hend : mixR f p q i = resC f p q := mixR_end f p q i (by omega) (by omega)
      have HI9 : Hid (ResS w wr f (some ⟨g0, o0, none⟩) N cap p q P g (resC f p q) zs) := by rw [← hend]; exact HI
      clear HI hend HRg HRf HSrc HLn
      obtain ⟨⟨x0, x1, x2, x3, x4⟩, _⟩ := HI9.out.fr.cells
      obtain ⟨⟨r0, r1, r2, r3, r4⟩, z0, z1, z2, z3, z4⟩ := HI9.out.res.cells
      have hlt2 := HI9.out.res.lt
      have HEND := Lib.hid (fun a b V hV => ResS.done (a := a) (b := b) (V := V) HI9.out hV)
      clear HI9
      by_cases ha : f.row ≤ (p : Int) - 1
      · by_cases hb : f.col ≤ (q : Int) - 1
        · have EA : Hid (min f.row ((p : Int) - 1) = f.row) := by show _ = _; omega
          have EB : Hid (min f.col ((q : Int) - 1) = f.col) := by show _ = _; omega
          have HE := Lib.hid (fun V hV => HEND.out (f.row) (f.col) V hV)
          clear HEND
          go_wp2
          go_region
          obtain ⟨V, hV⟩ : ∃ V, ((wr.setCell ⟨w.heap.size + 1, 3, none⟩ (.int .i64 (f.row))).setCell ⟨w.heap.size + 1, 4, none⟩ (.int .i64 (f.col))).drew = V := ⟨_, rfl⟩
          obtain ⟨k1, k2, k3, k4⟩ := HE.out V hV
          have K2 := Lib.hid k2
          have K3 := Lib.hid k3
          have K4 := Lib.hid k4
          first | rw [hV] | (simp only [EA.out, EB.out]; rw [hV])
          clear r0 r1 r2 r3 r4 z0 z1 z2 z3 z4 x0 x1 x2 x3 x4 hlt2
          obtain ⟨⟨r0, r1, r2, r3, r4⟩, z0, z1, z2, z3, z4⟩ := k1.cells
          have hlt3 := k1.lt
          clear hV HE k1 k2 k3 k4
          go_wp2
          obtain ⟨⟨y0, y1, y2, y3, y4⟩, _⟩ := K2.out.cells
          unfold set5 at y0 y1 y2 y3 y4
          exact bodyPost_ret (v := .tuple #[.agg #[.int .i64 (p : Int), .int .i64 (q : Int), .slice (some ⟨g, 0, none⟩) P P, .int .i64 (f.row), .int .i64 (f.col)], .int .i64 0]) (by simp [results, Tryz.results39, go_sem, y0, y1, y2, y3, y4]) rfl ⟨_, rfl, by rw [EA.out, EB.out]; exact K3.out, K4.out⟩
        · have EA : Hid (min f.row ((p : Int) - 1) = f.row) := by show _ = _; omega
          have EB : Hid (min f.col ((q : Int) - 1) = (q : Int) - 1) := by show _ = _; omega
          have HE := Lib.hid (fun V hV => HEND.out (f.row) ((q : Int) - 1) V hV)
          clear HEND
          go_wp2
          go_region
          obtain ⟨V, hV⟩ : ∃ V, ((wr.setCell ⟨w.heap.size + 1, 3, none⟩ (.int .i64 (f.row))).setCell ⟨w.heap.size + 1, 4, none⟩ (.int .i64 ((q : Int) - 1))).drew = V := ⟨_, rfl⟩
          obtain ⟨k1, k2, k3, k4⟩ := HE.out V hV
          have K2 := Lib.hid k2
          have K3 := Lib.hid k3
          have K4 := Lib.hid k4
          first | rw [hV] | (simp only [EA.out, EB.out]; rw [hV])
          clear r0 r1 r2 r3 r4 z0 z1 z2 z3 z4 x0 x1 x2 x3 x4 hlt2
          obtain ⟨⟨r0, r1, r2, r3, r4⟩, z0, z1, z2, z3, z4⟩ := k1.cells
          have hlt3 := k1.lt
          clear hV HE k1 k2 k3 k4
          go_wp2
          obtain ⟨⟨y0, y1, y2, y3, y4⟩, _⟩ := K2.out.cells
          unfold set5 at y0 y1 y2 y3 y4
          exact bodyPost_ret (v := .tuple #[.agg #[.int .i64 (p : Int), .int .i64 (q : Int), .slice (some ⟨g, 0, none⟩) P P, .int .i64 (f.row), .int .i64 ((q : Int) - 1)], .int .i64 0]) (by simp [results, Tryz.results39, go_sem, y0, y1, y2, y3, y4]) rfl ⟨_, rfl, by rw [EA.out, EB.out]; exact K3.out, K4.out⟩
      · by_cases hb : f.col ≤ (q : Int) - 1
        · have EA : Hid (min f.row ((p : Int) - 1) = (p : Int) - 1) := by show _ = _; omega
          have EB : Hid (min f.col ((q : Int) - 1) = f.col) := by show _ = _; omega
          have HE := Lib.hid (fun V hV => HEND.out ((p : Int) - 1) (f.col) V hV)
          clear HEND
          go_wp2
          go_region
          obtain ⟨V, hV⟩ : ∃ V, ((wr.setCell ⟨w.heap.size + 1, 3, none⟩ (.int .i64 ((p : Int) - 1))).setCell ⟨w.heap.size + 1, 4, none⟩ (.int .i64 (f.col))).drew = V := ⟨_, rfl⟩
          obtain ⟨k1, k2, k3, k4⟩ := HE.out V hV
          have K2 := Lib.hid k2
          have K3 := Lib.hid k3
          have K4 := Lib.hid k4
          first | rw [hV] | (simp only [EA.out, EB.out]; rw [hV])
          clear r0 r1 r2 r3 r4 z0 z1 z2 z3 z4 x0 x1 x2 x3 x4 hlt2
          obtain ⟨⟨r0, r1, r2, r3, r4⟩, z0, z1, z2, z3, z4⟩ := k1.cells
          have hlt3 := k1.lt
          clear hV HE k1 k2 k3 k4
          go_wp2
          obtain ⟨⟨y0, y1, y2, y3, y4⟩, _⟩ := K2.out.cells
          unfold set5 at y0 y1 y2 y3 y4
          exact bodyPost_ret (v := .tuple #[.agg #[.int .i64 (p : Int), .int .i64 (q : Int), .slice (some ⟨g, 0, none⟩) P P, .int .i64 ((p : Int) - 1), .int .i64 (f.col)], .int .i64 0]) (by simp [results, Tryz.results39, go_sem, y0, y1, y2, y3, y4]) rfl ⟨_, rfl, by rw [EA.out, EB.out]; exact K3.out, K4.out⟩
        · have EA : Hid (min f.row ((p : Int) - 1) = (p : Int) - 1) := by show _ = _; omega
          have EB : Hid (min f.col ((q : Int) - 1) = (q : Int) - 1) := by show _ = _; omega
          have HE := Lib.hid (fun V hV => HEND.out ((p : Int) - 1) ((q : Int) - 1) V hV)
          clear HEND
          go_wp2
          go_region
          obtain ⟨V, hV⟩ : ∃ V, ((wr.setCell ⟨w.heap.size + 1, 3, none⟩ (.int .i64 ((p : Int) - 1))).setCell ⟨w.heap.size + 1, 4, none⟩ (.int .i64 ((q : Int) - 1))).drew = V := ⟨_, rfl⟩
          obtain ⟨k1, k2, k3, k4⟩ := HE.out V hV
          have K2 := Lib.hid k2
          have K3 := Lib.hid k3
          have K4 := Lib.hid k4
          first | rw [hV] | (simp only [EA.out, EB.out]; rw [hV])
          clear r0 r1 r2 r3 r4 z0 z1 z2 z3 z4 x0 x1 x2 x3 x4 hlt2
          obtain ⟨⟨r0, r1, r2, r3, r4⟩, z0, z1, z2, z3, z4⟩ := k1.cells
          have hlt3 := k1.lt
          clear hV HE k1 k2 k3 k4
          go_wp2
          obtain ⟨⟨y0, y1, y2, y3, y4⟩, _⟩ := K2.out.cells
          unfold set5 at y0 y1 y2 y3 y4
          exact bodyPost_ret (v := .tuple #[.agg #[.int .i64 (p : Int), .int .i64 (q : Int), .slice (some ⟨g, 0, none⟩) P P, .int .i64 ((p : Int) - 1), .int .i64 ((q : Int) - 1)], .int .i64 0]) (by simp [results, Tryz.results39, go_sem, y0, y1, y2, y3, y4]) rfl ⟨_, rfl, by rw [EA.out, EB.out]; exact K3.out, K4.out⟩
end
end Go.Proofs.YtpkjaallhhjleaaGreatDoor
