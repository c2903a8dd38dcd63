/-
  Texts of this proof, one behind the other; each begins with its own remark.
-/
import Derived.Deep.RegionHeld3
import Derived.IntWalk
import Derived.Test.YtpkjaallhhjleaaGreatDoorBa9
import Derived.Test.YtpkjaallhhjleaaGreatDoorBa15
import Derived.Test.YtpkjaallhhjleaaGreatDoorBa7
/-
  term: put: what it leaves: the two rows about the cursor are put into, and laid back.
-/
namespace Go.Proofs.YtpkjaallhhjleaaGreatDoor
open Go.RowKit

/-- What a cut of a slice of cells is, up to a place. -/
theorem run_upto (G p N cap k : Nat) (W : World) (hk : k ≤ cap) : (Instr.slice 33 (.slice (some ⟨G, p, none⟩) N cap) none (some (.int .i64 (k : Int))) none).run Tryz.prog W = .ok (.slice (some ⟨G, p, none⟩) k cap) W := by
  have h1 : (k : Int) ≤ (cap : Int) := by omega
  have h2 : (0 : Int) ≤ (k : Int) := by omega
  simp [go_sem, h1, h2]
set_option maxRecDepth 100000 in
theorem run_cells (W : World) (a1 a2 : Int) (a3 : Option Addr) (d c3 : Nat) (a4 a5 : Int) : (Instr.field 35 (.agg #[.int .i64 a1, .int .i64 a2, .slice a3 d c3, .int .i64 a4, .int .i64 a5]) 2).run Tryz.prog W = .ok (.slice a3 d c3) W := by kernel_rfl
section
variable {w0 : World} {B G N cap : Nat} {t : Tm}

set_option maxRecDepth 20000 in
set_option maxHeartbeats 8000000 in
theorem tput_A {m n : Nat} (i : Nat) (r : Int) (w : World) (h : TmS w0 w B G N cap t) (hok : OkF t.f m n) (hL : LaidW w0) (hi : t.f.row = (i : Int)) (ht : i + 2 ≤ m) :
    Calls Tryz.prog 92 #[.pointer (some ⟨B, 0, none⟩), .int .i32 r] w (TmD w0 w B G N cap { t with f := putF t.f t.f.row t.f.col r t.sty }) := by
  have hm := hok.hm
  have hn := hok.hn
  have hlen := h.len
  have hcap := h.cap
  have hrow := hok.row
  have hrows := hok.rows
  have hT2 : i + 2 ≤ m := by omega
  have hr2 := row_room (n := n) (show i + 1 < m by omega)
  rw [Nat.add_mul, Nat.one_mul] at hr2
  have hNn : m * n = N := by rw [← hlen, hok.len]
  have hroom : N ≤ 20000 := by rw [← hlen]; exact hok.room
  obtain ⟨P, hP⟩ : ∃ P, i * n = P := ⟨_, rfl⟩
  rw [hP] at hr2
  have hmul : (i : Int) * (n : Int) = (P : Int) := by rw [← hP, Int.natCast_mul]
  obtain ⟨D2, hD2⟩ : ∃ D2, 2 * n = D2 := ⟨_, rfl⟩
  have h2n : (2 : Int) * (n : Int) = (D2 : Int) := by omega
  have hs1 : ∀ W, (Instr.slice 33 (.slice (some ⟨G, 0, none⟩) N cap) (some (.int .i64 (P : Int))) none none).run Tryz.prog W = .ok (.slice (some ⟨G, P * 6, none⟩) (N - P) (cap - P)) W := fun W => by
    have := run_from G 0 N cap P W (by omega) (by omega)
    rwa [Nat.zero_add] at this
  have hs2 : ∀ W, (Instr.slice 33 (.slice (some ⟨G, P * 6, none⟩) (N - P) (cap - P)) none (some (.int .i64 (D2 : Int))) none).run Tryz.prog W = .ok (.slice (some ⟨G, P * 6, none⟩) (D2) (cap - P)) W := fun W => run_upto G (P * 6) (N - P) (cap - P) (D2) W (by omega)
  have hpu := put_pair hok hT2 (by omega) (by omega) r t.sty
  have hp2 := two_ok hok hT2 (by omega) (by omega)
  have hpk := put_okF hp2 (t.f.row - (i : Int)) t.f.col r t.sty
  have hcz := hok.cols
  rw [hP, hD2] at hpu
  have hsub : twoF t.f n i = ⟨2, (n : Int), (t.f.cells.drop P).take (D2), 0, t.f.col⟩ := by unfold twoF; rw [hP, hcz, hi, hD2]; congr 1; omega
  have hJ : t.f.row - (i : Int) = 0 := by omega
  rw [hJ, hsub] at hpu hpk
  obtain ⟨M, hM⟩ : ∃ M, putF ⟨2, (n : Int), (t.f.cells.drop P).take (D2), 0, t.f.col⟩ 0 t.f.col r t.sty = M := ⟨_, rfl⟩
  rw [hM] at hpu hpk
  have hMl : M.cells.length = D2 := by rw [hpk.len]; exact hD2
  -- the call of grids.Put, whatever lies about it
  have HPut : Hid (∀ W, Below w.heap.size w W → Calls Tryz.prog 117 #[.agg #[.int .i64 2, .int .i64 (n : Int), .slice (some ⟨G, P * 6, none⟩) (D2) (cap - P), .int .i64 0, .int .i64 t.f.col], .int .i64 0, .int .i64 t.f.col, .int .i32 r, .agg #[.int .i64 t.sty.1, .bool t.sty.2.1, .bool t.sty.2.2.1, .bool t.sty.2.2.2]] W fun e w' => ∃ a1 a2 a3 c3 a4 a5, e = .returned (.agg #[.int .i64 a1, .int .i64 a2, .slice a3 (D2) c3, .int .i64 a4, .int .i64 a5]) ∧ CelsW AnyB w' (.slice a3 (D2) c3) M.cells ∧ Below W.heap.size W w') := fun W hW => by
    have hSW := h.next hW
    obtain ⟨zs, hz⟩ := hSW.blk
    have hfr : FrameW AnyB W (.agg #[.int .i64 2, .int .i64 (n : Int), .slice (some ⟨G, P * 6, none⟩) (D2) (cap - P), .int .i64 0, .int .i64 t.f.col]) ⟨2, (n : Int), (t.f.cells.drop P).take (D2), 0, t.f.col⟩ :=
      ⟨_, D2, cap - P, rfl, by show D2 = ((t.f.cells.drop P).take (D2)).length; rw [List.length_take, List.length_drop]; omega, by omega, hz.part trivial (by omega) (by omega)⟩
    have := gput_any 0 t.f.col r t.sty W hfr (hL.below hSW.below)
    rw [hM] at this
    refine this.mono fun e w' ⟨v', k1, ⟨ao, nn, cp, k2, k3, _, k4⟩, k5⟩ => ?_
    rw [k3, hMl] at k2 k4
    subst k2
    exact ⟨_, _, _, _, _, _, k1, k4, k5⟩
  -- what is left behind the copy
  have HEnd : Hid (∀ W ao c3, Below w.heap.size w W → CelsW AnyB W (.slice ao (D2) c3) M.cells → ∃ zs, blkL W G t.f.cells zs ∧ min (D2) (D2) = D2 ∧ 0 < D2 ∧ P + D2 ≤ t.f.cells.length ∧ ∀ W', Hid (blkL W' G (t.f.cells.take P ++ M.cells.take (D2) ++ t.f.cells.drop (P + D2)) zs) → Hid (KeepW (fun j => j ≠ G) W W') → TmS w0 W' B G N cap { t with f := putF t.f t.f.row t.f.col r t.sty } ∧ KeepW (NotBG B G) w W') := fun W ao c3 hW hC => by
    have hSW := h.next hW
    obtain ⟨zs, hz⟩ := hSW.blk
    refine ⟨zs, hz, Nat.min_self _, by omega, by omega, fun W' hb' hk' => ?_⟩
    have hb := hb'.out
    have hk := hk'.out
    rw [List.take_of_length_le (show M.cells.length ≤ D2 by omega), hpu] at hb
    obtain ⟨e1, e2⟩ := put_curs hok t.f.row t.f.col r t.sty
    have hpo := put_okF hok t.f.row t.f.col r t.sty
    have hS := hSW.celled hk hb (by rw [hpo.len, hNn])
    refine ⟨?_, (keep_below _ hW).trans (hk.mono fun k _ hk => hk.2)⟩
    have e3 : ({ t.f with cells := (putF t.f t.f.row t.f.col r t.sty).cells } : Frm) = putF t.f t.f.row t.f.col r t.sty := by
      obtain ⟨c1, c2⟩ := And.intro hpo.rows hpo.cols
      cases hq : putF t.f t.f.row t.f.col r t.sty
      rw [hq] at e1 e2 c1 c2
      simp only [Frm.mk.injEq] at *
      exact ⟨hok.rows.trans c1.symm, hok.cols.trans c2.symm, trivial, e1.symm, e2.symm⟩
    rwa [e3] at hS
  have HWs : Hid (∀ W1 W2 W3, w.alloc (.cells #[.int .i64 2, .int .i64 (n : Int), .slice (some ⟨G, 0, none⟩) N cap, .int .i64 0, .int .i64 t.f.col] 35) = W1 → W1.drew = W2 → W2.setCell ⟨w.heap.size, 2, none⟩ (.slice (some ⟨G, P * 6, none⟩) (D2) (cap - P)) = W3 →
      frB W1 w.heap.size 2 (n : Int) (.slice (some ⟨G, 0, none⟩) N cap) 0 t.f.col ∧ frB W2 w.heap.size 2 (n : Int) (.slice (some ⟨G, 0, none⟩) N cap) 0 t.f.col ∧ Below w.heap.size w W3 ∧
      ∀ V, Below W3.heap.size W3 V → (V.cell? ⟨w.heap.size, 0, none⟩ = some (.int .i64 2) ∧ V.cell? ⟨w.heap.size, 1, none⟩ = some (.int .i64 (n : Int)) ∧ V.cell? ⟨w.heap.size, 2, none⟩ = some (.slice (some ⟨G, P * 6, none⟩) (D2) (cap - P)) ∧ V.cell? ⟨w.heap.size, 3, none⟩ = some (.int .i64 0) ∧ V.cell? ⟨w.heap.size, 4, none⟩ = some (.int .i64 t.f.col)) ∧
        (V.cell? ⟨B, 5, none⟩ = some (.int .i64 t.sty.1) ∧ V.cell? ⟨B, 6, none⟩ = some (.bool t.sty.2.1) ∧ V.cell? ⟨B, 7, none⟩ = some (.bool t.sty.2.2.1) ∧ V.cell? ⟨B, 8, none⟩ = some (.bool t.sty.2.2.2))) := fun W1 W2 W3 h1 h2 h3 => by
    have f1 : frB W1 w.heap.size 2 (n : Int) (.slice (some ⟨G, 0, none⟩) N cap) 0 t.f.col := by rw [← h1]; exact frB.new w
    have b1 : Below w.heap.size w W1 := by rw [← h1]; exact (Below.refl _ w).alloc (Nat.le_refl _) _
    have b2 : Below W1.heap.size W1 W2 := by rw [← h2]; exact (Below.refl _ _).drew
    have f2 := f1.below b2 f1.lt
    have f3 := f2.set2 (.slice (some ⟨G, P * 6, none⟩) (D2) (cap - P))
    have k3 := keep_set (ok := fun k => k ≠ w.heap.size) w.heap.size 2 none (.slice (some ⟨G, P * 6, none⟩) (D2) (cap - P)) W2 (fun k => k rfl)
    rw [h3] at f3 k3
    have b12 := b1.trans (b2.mono b1.size)
    have b3 : Below w.heap.size w W3 := KeepW.below b12 k3 b12.size fun k hk => by omega
    exact ⟨f1, f2, b3, fun V hV => ⟨(f3.below hV f3.lt).cells.1, (h.next (b3.trans (hV.mono b3.size))).box.cells.2.1⟩⟩
  obtain ⟨⟨x0, x1, x2, x3, x4⟩, ⟨y0, y1, y2, y3⟩, _, _⟩ := h.box.cells
  have hlt := h.box.lt
  obtain ⟨R, hR⟩ : ∃ R, TmD w0 w B G N cap { t with f := putF t.f t.f.row t.f.col r t.sty } = R := ⟨_, rfl⟩
  have HR := Lib.hid hR
  rw [hR]
  have HM2 : Hid (M.cells.length = D2) := hMl
  rw [hrows] at x0
  rw [hcz] at x1
  rw [hi] at x3
  have j1 : (i : Int) ≤ (m : Int) - 2 := by omega
  have HBox : Hid (Below w.heap.size w ((w.alloc (.cells #[.int .i64 2, .int .i64 (n : Int), .slice (some ⟨G, P * 6, none⟩) (D2) (cap - P), .int .i64 0, .int .i64 t.f.col] 35)))) := (Below.refl _ w).alloc (Nat.le_refl _) _
  obtain ⟨m1, m2⟩ := hm
  obtain ⟨n1, n2⟩ := hn
  have hi0 : i ≤ 100 := by omega
  have pb : (P : Int) ≤ 20000 := by omega
  have wd : IntKind.i64.wrap (D2 : Int) = (D2 : Int) := by rw [IntWalk.i64_in _ (by omega)]
  have wp : IntKind.i64.wrap (P : Int) = (P : Int) := by rw [IntWalk.i64_in _ (by omega)]
  have HneB : Hid (B ≠ G) := h.ne
  have HneW : Hid (w.heap.size ≠ G) := by have := h.gt; show _ ≠ _; omega
  have hfl := fun W a1 a2 a3 c3 a4 a5 => run_cells W a1 a2 a3 D2 c3 a4 a5
  clear hD2 h hok hL hrow hrows hr2 hNn hP hpu hp2 hpk hcz hsub hJ hM hMl hR hi hlen

  go_enter Tryz.func92, Tryz.ntmps92
  go_wp2_with fail
  all_goals first | (exfalso; omega) | skip
  obtain ⟨W1, hW1⟩ : ∃ W1, w.alloc (.cells #[.int .i64 2, .int .i64 (n : Int), .slice (some ⟨G, 0, none⟩) N cap, .int .i64 0, .int .i64 t.f.col] 35) = W1 := ⟨_, rfl⟩
  obtain ⟨W2, hW2⟩ : ∃ W2, W1.drew = W2 := ⟨_, rfl⟩
  obtain ⟨W3, hW3⟩ : ∃ W3, W2.setCell ⟨w.heap.size, 2, none⟩ (.slice (some ⟨G, P * 6, none⟩) (D2) (cap - P)) = W3 := ⟨_, rfl⟩
  obtain ⟨f1, f2, hb3, HC⟩ := HWs.out W1 W2 W3 hW1 hW2 hW3
  have HC := Lib.hid HC
  rw [hW1]
  obtain ⟨⟨z0, z1, z2, z3, z4⟩, _⟩ := f1.cells
  obtain ⟨⟨u0, u1, u2, u3, u4⟩, v0, v1, v2, v3, v4⟩ := f2.cells
  have hl1 := f1.lt
  have hl2 := f2.lt
  clear HWs f1 f2
  go_still_tail 14, (by kernel_rfl)
  change wpList _ _ _ _ _ W1.drew
  rw [hW2]
  have HP2 : Hid (∀ V, Below W3.heap.size W3 V → Calls Tryz.prog 117 #[.agg #[.int .i64 2, .int .i64 (n : Int), .slice (some ⟨G, P * 6, none⟩) (D2) (cap - P), .int .i64 0, .int .i64 t.f.col], .int .i64 0, .int .i64 t.f.col, .int .i32 r, .agg #[.int .i64 t.sty.1, .bool t.sty.2.1, .bool t.sty.2.2.1, .bool t.sty.2.2.2]] V fun e w' => ∃ a1 a2 a3 c3 a4 a5, e = .returned (.agg #[.int .i64 a1, .int .i64 a2, .slice a3 (D2) c3, .int .i64 a4, .int .i64 a5]) ∧ CelsW AnyB w' (.slice a3 (D2) c3) M.cells ∧ Below W3.heap.size W3 w') := fun V hV => (HPut.out V (hb3.trans (hV.mono hb3.size))).mono fun e w' ⟨a1, a2, a3, c3, a4, a5, k1, k2, k3⟩ => ⟨a1, a2, a3, c3, a4, a5, k1, k2, hV.trans (k3.mono hV.size)⟩
  have HE2 : Hid (∀ V ao c3, Below W3.heap.size W3 V → CelsW AnyB V (.slice ao (D2) c3) M.cells → ∃ zs, blkL V G t.f.cells zs ∧ min (D2) (D2) = D2 ∧ 0 < D2 ∧ P + D2 ≤ t.f.cells.length ∧ ∀ W', Hid (blkL W' G (t.f.cells.take P ++ M.cells.take (D2) ++ t.f.cells.drop (P + D2)) zs) → Hid (KeepW (fun j => j ≠ G) V W') → TmS w0 W' B G N cap { t with f := putF t.f t.f.row t.f.col r t.sty } ∧ KeepW (NotBG B G) w W') := fun V ao c3 hV => HEnd.out V ao c3 (hb3.trans (hV.mono hb3.size))
  have HCK : Hid (∀ V V', Below W3.heap.size W3 V → KeepW (fun j => j ≠ G) V V' → (V'.cell? ⟨w.heap.size, 0, none⟩ = some (.int .i64 2) ∧ V'.cell? ⟨w.heap.size, 1, none⟩ = some (.int .i64 (n : Int)) ∧ V'.cell? ⟨w.heap.size, 2, none⟩ = some (.slice (some ⟨G, P * 6, none⟩) (D2) (cap - P)) ∧ V'.cell? ⟨w.heap.size, 3, none⟩ = some (.int .i64 0) ∧ V'.cell? ⟨w.heap.size, 4, none⟩ = some (.int .i64 t.f.col)) ∧
        (V'.cell? ⟨B, 5, none⟩ = some (.int .i64 t.sty.1) ∧ V'.cell? ⟨B, 6, none⟩ = some (.bool t.sty.2.1) ∧ V'.cell? ⟨B, 7, none⟩ = some (.bool t.sty.2.2.1) ∧ V'.cell? ⟨B, 8, none⟩ = some (.bool t.sty.2.2.2))) := fun V V' hV hk => by
    obtain ⟨⟨a0, a1, a2, a3, a4⟩, b0, b1, b2, b3⟩ := HC.out V hV
    exact ⟨⟨hk.cell a0 HneW.out, hk.cell a1 HneW.out, hk.cell a2 HneW.out, hk.cell a3 HneW.out, hk.cell a4 HneW.out⟩, hk.cell b0 HneB.out, hk.cell b1 HneB.out, hk.cell b2 HneB.out, hk.cell b3 HneB.out⟩
  clear HPut HEnd z0 z1 z2 z3 z4
  go_wp2_with fail
  try rw [hW3]
  have kk : Below W3.heap.size W3 W3.drew := (Below.refl _ _).drew
  clear u0 u1 u2 u3 u4 v0 v1 v2 v3 v4 hW1 hW2 hW3
  go_region_held3 (fun V => (V.cell? ⟨w.heap.size, 0, none⟩ = some (.int .i64 2) ∧ V.cell? ⟨w.heap.size, 1, none⟩ = some (.int .i64 (n : Int)) ∧ V.cell? ⟨w.heap.size, 2, none⟩ = some (.slice (some ⟨G, P * 6, none⟩) (D2) (cap - P)) ∧ V.cell? ⟨w.heap.size, 3, none⟩ = some (.int .i64 0) ∧ V.cell? ⟨w.heap.size, 4, none⟩ = some (.int .i64 t.f.col)) ∧
        (V.cell? ⟨B, 5, none⟩ = some (.int .i64 t.sty.1) ∧ V.cell? ⟨B, 6, none⟩ = some (.bool t.sty.2.1) ∧ V.cell? ⟨B, 7, none⟩ = some (.bool t.sty.2.2.1) ∧ V.cell? ⟨B, 8, none⟩ = some (.bool t.sty.2.2.2)))
    (first | with_reducible exact HC.out _ kk | exact HCK.out _ _ kk hk4.out)
    (first
      | (go_at_call 117; go_fit (HP2.out _ ?_); (with_reducible exact kk); rintro e vv ⟨a1, a2, a3, c3, a4, a5, rfl, hC, kk⟩; obtain ⟨zs, q1, q2, q3, q4, HX⟩ := HE2.out _ _ _ kk hC; have Q1 := Lib.hid q1; have QC := Lib.hid hC; have HX := Lib.hid HX; clear q1 hC)
      | (refine step_copy6 (p := P) (k := D2) (by rfl) (.tmp 37) (.tmp 49) (by rfl) (by rfl) (by rfl) (M := t.f.cells) (l := M.cells) Q1.out QC.out HM2.out q2 q3 q4 ?_; intro w4 hg4 hk4))
  all_goals
    obtain ⟨HX1, HX2⟩ := HX.out w4 hg4 hk4
    rw [← HR.out]
    go_end0
    exact ⟨rfl, HX1, HX2⟩

set_option maxRecDepth 20000 in
set_option maxHeartbeats 8000000 in
theorem tput_B {m n : Nat} (i T0 : Nat) (r : Int) (w : World) (h : TmS w0 w B G N cap t) (hok : OkF t.f m n) (hL : LaidW w0) (hi : t.f.row = (i : Int)) (ht : T0 + 2 = m) (hiT : i ≤ T0 + 1) (hiT2 : T0 + 1 ≤ i) :
    Calls Tryz.prog 92 #[.pointer (some ⟨B, 0, none⟩), .int .i32 r] w (TmD w0 w B G N cap { t with f := putF t.f t.f.row t.f.col r t.sty }) := by
  have hm := hok.hm
  have hn := hok.hn
  have hlen := h.len
  have hcap := h.cap
  have hrow := hok.row
  have hrows := hok.rows
  have hT2 : T0 + 2 ≤ m := by omega
  have hr2 := row_room (n := n) (show T0 + 1 < m by omega)
  rw [Nat.add_mul, Nat.one_mul] at hr2
  have hNn : m * n = N := by rw [← hlen, hok.len]
  have hroom : N ≤ 20000 := by rw [← hlen]; exact hok.room
  obtain ⟨P, hP⟩ : ∃ P, T0 * n = P := ⟨_, rfl⟩
  rw [hP] at hr2
  have hmul : (T0 : Int) * (n : Int) = (P : Int) := by rw [← hP, Int.natCast_mul]
  obtain ⟨D2, hD2⟩ : ∃ D2, 2 * n = D2 := ⟨_, rfl⟩
  have h2n : (2 : Int) * (n : Int) = (D2 : Int) := by omega
  have hs1 : ∀ W, (Instr.slice 33 (.slice (some ⟨G, 0, none⟩) N cap) (some (.int .i64 (P : Int))) none none).run Tryz.prog W = .ok (.slice (some ⟨G, P * 6, none⟩) (N - P) (cap - P)) W := fun W => by
    have := run_from G 0 N cap P W (by omega) (by omega)
    rwa [Nat.zero_add] at this
  have hs2 : ∀ W, (Instr.slice 33 (.slice (some ⟨G, P * 6, none⟩) (N - P) (cap - P)) none (some (.int .i64 (D2 : Int))) none).run Tryz.prog W = .ok (.slice (some ⟨G, P * 6, none⟩) (D2) (cap - P)) W := fun W => run_upto G (P * 6) (N - P) (cap - P) (D2) W (by omega)
  have hpu := put_pair hok hT2 (by omega) (by omega) r t.sty
  have hp2 := two_ok hok hT2 (by omega) (by omega)
  have hpk := put_okF hp2 (t.f.row - (T0 : Int)) t.f.col r t.sty
  have hcz := hok.cols
  rw [hP, hD2] at hpu
  have hsub : twoF t.f n T0 = ⟨2, (n : Int), (t.f.cells.drop P).take (D2), 1, t.f.col⟩ := by unfold twoF; rw [hP, hcz, hi, hD2]; congr 1; omega
  have hJ : t.f.row - (T0 : Int) = 1 := by omega
  rw [hJ, hsub] at hpu hpk
  obtain ⟨M, hM⟩ : ∃ M, putF ⟨2, (n : Int), (t.f.cells.drop P).take (D2), 1, t.f.col⟩ 1 t.f.col r t.sty = M := ⟨_, rfl⟩
  rw [hM] at hpu hpk
  have hMl : M.cells.length = D2 := by rw [hpk.len]; exact hD2
  -- the call of grids.Put, whatever lies about it
  have HPut : Hid (∀ W, Below w.heap.size w W → Calls Tryz.prog 117 #[.agg #[.int .i64 2, .int .i64 (n : Int), .slice (some ⟨G, P * 6, none⟩) (D2) (cap - P), .int .i64 1, .int .i64 t.f.col], .int .i64 1, .int .i64 t.f.col, .int .i32 r, .agg #[.int .i64 t.sty.1, .bool t.sty.2.1, .bool t.sty.2.2.1, .bool t.sty.2.2.2]] W fun e w' => ∃ a1 a2 a3 c3 a4 a5, e = .returned (.agg #[.int .i64 a1, .int .i64 a2, .slice a3 (D2) c3, .int .i64 a4, .int .i64 a5]) ∧ CelsW AnyB w' (.slice a3 (D2) c3) M.cells ∧ Below W.heap.size W w') := fun W hW => by
    have hSW := h.next hW
    obtain ⟨zs, hz⟩ := hSW.blk
    have hfr : FrameW AnyB W (.agg #[.int .i64 2, .int .i64 (n : Int), .slice (some ⟨G, P * 6, none⟩) (D2) (cap - P), .int .i64 1, .int .i64 t.f.col]) ⟨2, (n : Int), (t.f.cells.drop P).take (D2), 1, t.f.col⟩ :=
      ⟨_, D2, cap - P, rfl, by show D2 = ((t.f.cells.drop P).take (D2)).length; rw [List.length_take, List.length_drop]; omega, by omega, hz.part trivial (by omega) (by omega)⟩
    have := gput_any 1 t.f.col r t.sty W hfr (hL.below hSW.below)
    rw [hM] at this
    refine this.mono fun e w' ⟨v', k1, ⟨ao, nn, cp, k2, k3, _, k4⟩, k5⟩ => ?_
    rw [k3, hMl] at k2 k4
    subst k2
    exact ⟨_, _, _, _, _, _, k1, k4, k5⟩
  -- what is left behind the copy
  have HEnd : Hid (∀ W ao c3, Below w.heap.size w W → CelsW AnyB W (.slice ao (D2) c3) M.cells → ∃ zs, blkL W G t.f.cells zs ∧ min (D2) (D2) = D2 ∧ 0 < D2 ∧ P + D2 ≤ t.f.cells.length ∧ ∀ W', Hid (blkL W' G (t.f.cells.take P ++ M.cells.take (D2) ++ t.f.cells.drop (P + D2)) zs) → Hid (KeepW (fun j => j ≠ G) W W') → TmS w0 W' B G N cap { t with f := putF t.f t.f.row t.f.col r t.sty } ∧ KeepW (NotBG B G) w W') := fun W ao c3 hW hC => by
    have hSW := h.next hW
    obtain ⟨zs, hz⟩ := hSW.blk
    refine ⟨zs, hz, Nat.min_self _, by omega, by omega, fun W' hb' hk' => ?_⟩
    have hb := hb'.out
    have hk := hk'.out
    rw [List.take_of_length_le (show M.cells.length ≤ D2 by omega), hpu] at hb
    obtain ⟨e1, e2⟩ := put_curs hok t.f.row t.f.col r t.sty
    have hpo := put_okF hok t.f.row t.f.col r t.sty
    have hS := hSW.celled hk hb (by rw [hpo.len, hNn])
    refine ⟨?_, (keep_below _ hW).trans (hk.mono fun k _ hk => hk.2)⟩
    have e3 : ({ t.f with cells := (putF t.f t.f.row t.f.col r t.sty).cells } : Frm) = putF t.f t.f.row t.f.col r t.sty := by
      obtain ⟨c1, c2⟩ := And.intro hpo.rows hpo.cols
      cases hq : putF t.f t.f.row t.f.col r t.sty
      rw [hq] at e1 e2 c1 c2
      simp only [Frm.mk.injEq] at *
      exact ⟨hok.rows.trans c1.symm, hok.cols.trans c2.symm, trivial, e1.symm, e2.symm⟩
    rwa [e3] at hS
  have HWs : Hid (∀ W1 W2 W3, w.alloc (.cells #[.int .i64 2, .int .i64 (n : Int), .slice (some ⟨G, 0, none⟩) N cap, .int .i64 1, .int .i64 t.f.col] 35) = W1 → W1.drew = W2 → W2.setCell ⟨w.heap.size, 2, none⟩ (.slice (some ⟨G, P * 6, none⟩) (D2) (cap - P)) = W3 →
      frB W1 w.heap.size 2 (n : Int) (.slice (some ⟨G, 0, none⟩) N cap) 1 t.f.col ∧ frB W2 w.heap.size 2 (n : Int) (.slice (some ⟨G, 0, none⟩) N cap) 1 t.f.col ∧ Below w.heap.size w W3 ∧
      ∀ V, Below W3.heap.size W3 V → (V.cell? ⟨w.heap.size, 0, none⟩ = some (.int .i64 2) ∧ V.cell? ⟨w.heap.size, 1, none⟩ = some (.int .i64 (n : Int)) ∧ V.cell? ⟨w.heap.size, 2, none⟩ = some (.slice (some ⟨G, P * 6, none⟩) (D2) (cap - P)) ∧ V.cell? ⟨w.heap.size, 3, none⟩ = some (.int .i64 1) ∧ V.cell? ⟨w.heap.size, 4, none⟩ = some (.int .i64 t.f.col)) ∧
        (V.cell? ⟨B, 5, none⟩ = some (.int .i64 t.sty.1) ∧ V.cell? ⟨B, 6, none⟩ = some (.bool t.sty.2.1) ∧ V.cell? ⟨B, 7, none⟩ = some (.bool t.sty.2.2.1) ∧ V.cell? ⟨B, 8, none⟩ = some (.bool t.sty.2.2.2))) := fun W1 W2 W3 h1 h2 h3 => by
    have f1 : frB W1 w.heap.size 2 (n : Int) (.slice (some ⟨G, 0, none⟩) N cap) 1 t.f.col := by rw [← h1]; exact frB.new w
    have b1 : Below w.heap.size w W1 := by rw [← h1]; exact (Below.refl _ w).alloc (Nat.le_refl _) _
    have b2 : Below W1.heap.size W1 W2 := by rw [← h2]; exact (Below.refl _ _).drew
    have f2 := f1.below b2 f1.lt
    have f3 := f2.set2 (.slice (some ⟨G, P * 6, none⟩) (D2) (cap - P))
    have k3 := keep_set (ok := fun k => k ≠ w.heap.size) w.heap.size 2 none (.slice (some ⟨G, P * 6, none⟩) (D2) (cap - P)) W2 (fun k => k rfl)
    rw [h3] at f3 k3
    have b12 := b1.trans (b2.mono b1.size)
    have b3 : Below w.heap.size w W3 := KeepW.below b12 k3 b12.size fun k hk => by omega
    exact ⟨f1, f2, b3, fun V hV => ⟨(f3.below hV f3.lt).cells.1, (h.next (b3.trans (hV.mono b3.size))).box.cells.2.1⟩⟩
  obtain ⟨⟨x0, x1, x2, x3, x4⟩, ⟨y0, y1, y2, y3⟩, _, _⟩ := h.box.cells
  have hlt := h.box.lt
  obtain ⟨R, hR⟩ : ∃ R, TmD w0 w B G N cap { t with f := putF t.f t.f.row t.f.col r t.sty } = R := ⟨_, rfl⟩
  have HR := Lib.hid hR
  rw [hR]
  have HM2 : Hid (M.cells.length = D2) := hMl
  rw [hrows] at x0
  rw [hcz] at x1
  rw [hi] at x3
  have j1 : (i : Int) > (m : Int) - 2 := by omega
  have HBox : Hid (Below w.heap.size w ((w.alloc (.cells #[.int .i64 2, .int .i64 (n : Int), .slice (some ⟨G, P * 6, none⟩) (D2) (cap - P), .int .i64 1, .int .i64 t.f.col] 35)))) := (Below.refl _ w).alloc (Nat.le_refl _) _
  obtain ⟨m1, m2⟩ := hm
  obtain ⟨n1, n2⟩ := hn
  have hi0 : i ≤ 100 := by omega
  have pb : (P : Int) ≤ 20000 := by omega
  have wd : IntKind.i64.wrap (D2 : Int) = (D2 : Int) := by rw [IntWalk.i64_in _ (by omega)]
  have wp : IntKind.i64.wrap (P : Int) = (P : Int) := by rw [IntWalk.i64_in _ (by omega)]
  have HneB : Hid (B ≠ G) := h.ne
  have HneW : Hid (w.heap.size ≠ G) := by have := h.gt; show _ ≠ _; omega
  have hfl := fun W a1 a2 a3 c3 a4 a5 => run_cells W a1 a2 a3 D2 c3 a4 a5
  clear hD2 h hok hL hrow hrows hr2 hNn hP hpu hp2 hpk hcz hsub hJ hM hMl hR hi hlen
  have e5 : (m : Int) - 2 = (T0 : Int) := by omega
  have e6 : (i : Int) - (T0 : Int) = 1 := by omega
  go_enter Tryz.func92, Tryz.ntmps92
  go_wp2_with fail
  all_goals first | (exfalso; omega) | skip
  obtain ⟨W1, hW1⟩ : ∃ W1, w.alloc (.cells #[.int .i64 2, .int .i64 (n : Int), .slice (some ⟨G, 0, none⟩) N cap, .int .i64 1, .int .i64 t.f.col] 35) = W1 := ⟨_, rfl⟩
  obtain ⟨W2, hW2⟩ : ∃ W2, W1.drew = W2 := ⟨_, rfl⟩
  obtain ⟨W3, hW3⟩ : ∃ W3, W2.setCell ⟨w.heap.size, 2, none⟩ (.slice (some ⟨G, P * 6, none⟩) (D2) (cap - P)) = W3 := ⟨_, rfl⟩
  obtain ⟨f1, f2, hb3, HC⟩ := HWs.out W1 W2 W3 hW1 hW2 hW3
  have HC := Lib.hid HC
  rw [hW1]
  obtain ⟨⟨z0, z1, z2, z3, z4⟩, _⟩ := f1.cells
  obtain ⟨⟨u0, u1, u2, u3, u4⟩, v0, v1, v2, v3, v4⟩ := f2.cells
  have hl1 := f1.lt
  have hl2 := f2.lt
  clear HWs f1 f2
  go_still_tail 14, (by kernel_rfl)
  change wpList _ _ _ _ _ W1.drew
  rw [hW2]
  have HP2 : Hid (∀ V, Below W3.heap.size W3 V → Calls Tryz.prog 117 #[.agg #[.int .i64 2, .int .i64 (n : Int), .slice (some ⟨G, P * 6, none⟩) (D2) (cap - P), .int .i64 1, .int .i64 t.f.col], .int .i64 1, .int .i64 t.f.col, .int .i32 r, .agg #[.int .i64 t.sty.1, .bool t.sty.2.1, .bool t.sty.2.2.1, .bool t.sty.2.2.2]] V fun e w' => ∃ a1 a2 a3 c3 a4 a5, e = .returned (.agg #[.int .i64 a1, .int .i64 a2, .slice a3 (D2) c3, .int .i64 a4, .int .i64 a5]) ∧ CelsW AnyB w' (.slice a3 (D2) c3) M.cells ∧ Below W3.heap.size W3 w') := fun V hV => (HPut.out V (hb3.trans (hV.mono hb3.size))).mono fun e w' ⟨a1, a2, a3, c3, a4, a5, k1, k2, k3⟩ => ⟨a1, a2, a3, c3, a4, a5, k1, k2, hV.trans (k3.mono hV.size)⟩
  have HE2 : Hid (∀ V ao c3, Below W3.heap.size W3 V → CelsW AnyB V (.slice ao (D2) c3) M.cells → ∃ zs, blkL V G t.f.cells zs ∧ min (D2) (D2) = D2 ∧ 0 < D2 ∧ P + D2 ≤ t.f.cells.length ∧ ∀ W', Hid (blkL W' G (t.f.cells.take P ++ M.cells.take (D2) ++ t.f.cells.drop (P + D2)) zs) → Hid (KeepW (fun j => j ≠ G) V W') → TmS w0 W' B G N cap { t with f := putF t.f t.f.row t.f.col r t.sty } ∧ KeepW (NotBG B G) w W') := fun V ao c3 hV => HEnd.out V ao c3 (hb3.trans (hV.mono hb3.size))
  have HCK : Hid (∀ V V', Below W3.heap.size W3 V → KeepW (fun j => j ≠ G) V V' → (V'.cell? ⟨w.heap.size, 0, none⟩ = some (.int .i64 2) ∧ V'.cell? ⟨w.heap.size, 1, none⟩ = some (.int .i64 (n : Int)) ∧ V'.cell? ⟨w.heap.size, 2, none⟩ = some (.slice (some ⟨G, P * 6, none⟩) (D2) (cap - P)) ∧ V'.cell? ⟨w.heap.size, 3, none⟩ = some (.int .i64 1) ∧ V'.cell? ⟨w.heap.size, 4, none⟩ = some (.int .i64 t.f.col)) ∧
        (V'.cell? ⟨B, 5, none⟩ = some (.int .i64 t.sty.1) ∧ V'.cell? ⟨B, 6, none⟩ = some (.bool t.sty.2.1) ∧ V'.cell? ⟨B, 7, none⟩ = some (.bool t.sty.2.2.1) ∧ V'.cell? ⟨B, 8, none⟩ = some (.bool t.sty.2.2.2))) := fun V V' hV hk => by
    obtain ⟨⟨a0, a1, a2, a3, a4⟩, b0, b1, b2, b3⟩ := HC.out V hV
    exact ⟨⟨hk.cell a0 HneW.out, hk.cell a1 HneW.out, hk.cell a2 HneW.out, hk.cell a3 HneW.out, hk.cell a4 HneW.out⟩, hk.cell b0 HneB.out, hk.cell b1 HneB.out, hk.cell b2 HneB.out, hk.cell b3 HneB.out⟩
  clear HPut HEnd z0 z1 z2 z3 z4
  go_wp2_with fail
  try rw [hW3]
  have kk : Below W3.heap.size W3 W3.drew := (Below.refl _ _).drew
  clear u0 u1 u2 u3 u4 v0 v1 v2 v3 v4 hW1 hW2 hW3
  go_region_held3 (fun V => (V.cell? ⟨w.heap.size, 0, none⟩ = some (.int .i64 2) ∧ V.cell? ⟨w.heap.size, 1, none⟩ = some (.int .i64 (n : Int)) ∧ V.cell? ⟨w.heap.size, 2, none⟩ = some (.slice (some ⟨G, P * 6, none⟩) (D2) (cap - P)) ∧ V.cell? ⟨w.heap.size, 3, none⟩ = some (.int .i64 1) ∧ V.cell? ⟨w.heap.size, 4, none⟩ = some (.int .i64 t.f.col)) ∧
        (V.cell? ⟨B, 5, none⟩ = some (.int .i64 t.sty.1) ∧ V.cell? ⟨B, 6, none⟩ = some (.bool t.sty.2.1) ∧ V.cell? ⟨B, 7, none⟩ = some (.bool t.sty.2.2.1) ∧ V.cell? ⟨B, 8, none⟩ = some (.bool t.sty.2.2.2)))
    (first | with_reducible exact HC.out _ kk | exact HCK.out _ _ kk hk4.out)
    (first
      | (go_at_call 117; go_fit (HP2.out _ ?_); (with_reducible exact kk); rintro e vv ⟨a1, a2, a3, c3, a4, a5, rfl, hC, kk⟩; obtain ⟨zs, q1, q2, q3, q4, HX⟩ := HE2.out _ _ _ kk hC; have Q1 := Lib.hid q1; have QC := Lib.hid hC; have HX := Lib.hid HX; clear q1 hC)
      | (refine step_copy6 (p := P) (k := D2) (by rfl) (.tmp 37) (.tmp 49) (by rfl) (by rfl) (by rfl) (M := t.f.cells) (l := M.cells) Q1.out QC.out HM2.out q2 q3 q4 ?_; intro w4 hg4 hk4))
  all_goals
    obtain ⟨HX1, HX2⟩ := HX.out w4 hg4 hk4
    rw [← HR.out]
    go_end0
    exact ⟨rfl, HX1, HX2⟩
theorem tput_any {m n : Nat} (r : Int) (w : World) (h : TmS w0 w B G N cap t) (hok : OkF t.f m n) (hL : LaidW w0) :
    Calls Tryz.prog 92 #[.pointer (some ⟨B, 0, none⟩), .int .i32 r] w (TmD w0 w B G N cap { t with f := putF t.f t.f.row t.f.col r t.sty }) := by
  have hm := hok.hm
  have hrow := hok.row
  obtain ⟨i, hi⟩ : ∃ i : Nat, t.f.row = (i : Int) := ⟨t.f.row.toNat, by omega⟩
  by_cases hlt : i + 2 ≤ m
  · exact tput_A i r w h hok hL hi hlt
  · obtain ⟨T0, hT⟩ : ∃ T0, T0 + 2 = m := ⟨m - 2, by omega⟩
    exact tput_B i T0 r w h hok hL hi hT (by omega) (by omega)
end
end Go.Proofs.YtpkjaallhhjleaaGreatDoor

/-
  term: goTo: what it returns, and lays.
-/
namespace Go.Proofs.YtpkjaallhhjleaaGreatDoor
open Go.RowKit

section
variable {w0 : World} {B G N cap : Nat} {t : Tm}
set_option maxHeartbeats 1000000 in
theorem goto_any (r c : Int) (w : World) (h : TmS w0 w B G N cap t) (h1 : 2 ≤ t.f.rows ∧ t.f.rows ≤ 100) (h2 : 8 ≤ t.f.cols ∧ t.f.cols ≤ 200) :
    Calls Tryz.prog 93 #[.pointer (some ⟨B, 0, none⟩), .int .i64 r, .int .i64 c] w (TmD w0 w B G N cap { t with f := goF t.f r c }) := by
  obtain ⟨⟨x0, x1, _, _, _⟩, _, _, hf⟩ := h.box.cells
  have hlt := h.box.lt
  have f3 := hf 3
  have f4 := hf 4
  have HZ : Hid (∀ a b, a = min (max 0 r) (t.f.rows - 1) → b = min (max 0 c) (t.f.cols - 1) → TmS w0 ((w.setCell ⟨B, 3, none⟩ (.int .i64 a)).setCell ⟨B, 4, none⟩ (.int .i64 b)) B G N cap { t with f := goF t.f r c } ∧ KeepW (NotBG B G) w ((w.setCell ⟨B, 3, none⟩ (.int .i64 a)).setCell ⟨B, 4, none⟩ (.int .i64 b))) := fun a b ha hb => by
    obtain ⟨a1, a2⟩ := h.row_ a
    obtain ⟨b1, b2⟩ := a1.col_ b
    subst ha hb
    exact ⟨b1, a2.trans b2⟩
  obtain ⟨R, hR⟩ : ∃ R, t.f.rows = R := ⟨_, rfl⟩
  obtain ⟨C, hC⟩ : ∃ C, t.f.cols = C := ⟨_, rfl⟩
  rw [hR] at x0 h1 HZ
  rw [hC] at x1 h2 HZ
  clear h hf hR hC
  obtain ⟨h1, h3⟩ := h1
  obtain ⟨h2, h4⟩ := h2
  go_enter Tryz.func93, Tryz.ntmps93
  go_wp2_with fail
  all_goals (go_end0; exact ⟨rfl, HZ.out _ _ (by omega) (by omega)⟩)
end
end Go.Proofs.YtpkjaallhhjleaaGreatDoor
