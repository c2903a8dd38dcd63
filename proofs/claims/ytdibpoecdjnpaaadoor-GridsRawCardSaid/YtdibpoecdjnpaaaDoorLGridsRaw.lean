/-
  limnerlaw06.GridsRaw: it returns true: for every input that a row tells.
-/
import Derived.Deep.Cut
import Derived.Deep.RegionHeld3
import Derived.Test.YtdibpoecdjnpaaaDoorBa41
import Derived.Test.YtdibpoecdjnpaaaDoorBa42
import Derived.Test.YtdibpoecdjnpaaaDoorBa45
namespace Go.Proofs.YtdibpoecdjnpaaaDoor
open Go.RowKit

/-- The boxes of the law, beside what it was told. -/
structure RawS (w W : World) (F G : Frm) (x : Inkd) (ao bo : Option Addr) (N cap N2 cap2 : Nat) : Prop where
  below : Below w.heap.size w W
  size : w.heap.size + 3 ≤ W.heap.size
  b1 : frB W w.heap.size F.rows F.cols (.slice ao N cap) F.row F.col
  b2 : frB W (w.heap.size + 1) G.rows G.cols (.slice bo N2 cap2) G.row G.col
  b3 : W.heap[w.heap.size + 1 + 1]? = some (.cells #[.int .i64 x.row, .int .i64 x.col, .int .i32 x.r, .int .i64 x.s.1, .bool x.s.2.1, .bool x.s.2.2.1, .bool x.s.2.2.2] 37 (0, 0))
  f1 : FrameW AnyB W (.agg #[.int .i64 F.rows, .int .i64 F.cols, .slice ao N cap, .int .i64 F.row, .int .i64 F.col]) F
  f2 : FrameW AnyB W (.agg #[.int .i64 G.rows, .int .i64 G.cols, .slice bo N2 cap2, .int .i64 G.row, .int .i64 G.col]) G
section
variable {w W W' : World} {F G : Frm} {x : Inkd} {ao bo : Option Addr} {N cap N2 cap2 : Nat}
theorem RawS.next (h : RawS w W F G x ao bo N cap N2 cap2) (hb : Below W.heap.size W W') : RawS w W' F G x ao bo N cap N2 cap2 :=
  ⟨h.below.trans (hb.mono h.below.size), Nat.le_trans h.size hb.size, h.b1.below hb h.b1.lt, h.b2.below hb h.b2.lt, (hb.block _ (by have := h.size; omega)).trans h.b3, h.f1.below hb, h.f2.below hb⟩
theorem RawS.start (hF : FrameW AnyB w (.agg #[.int .i64 F.rows, .int .i64 F.cols, .slice ao N cap, .int .i64 F.row, .int .i64 F.col]) F) (hG : FrameW AnyB w (.agg #[.int .i64 G.rows, .int .i64 G.cols, .slice bo N2 cap2, .int .i64 G.row, .int .i64 G.col]) G) : RawS w (((w.alloc (.cells #[.int .i64 F.rows, .int .i64 F.cols, .slice ao N cap, .int .i64 F.row, .int .i64 F.col] 28)).alloc (.cells #[.int .i64 G.rows, .int .i64 G.cols, .slice bo N2 cap2, .int .i64 G.row, .int .i64 G.col] 28)).alloc (.cells #[.int .i64 x.row, .int .i64 x.col, .int .i32 x.r, .int .i64 x.s.1, .bool x.s.2.1, .bool x.s.2.2.1, .bool x.s.2.2.2] 37)) F G x ao bo N cap N2 cap2 := by
  have k1 := (Below.refl _ w).alloc (Nat.le_refl _) (.cells #[.int .i64 F.rows, .int .i64 F.cols, .slice ao N cap, .int .i64 F.row, .int .i64 F.col] 28)
  have k2 := k1.alloc (by simp) (.cells #[.int .i64 G.rows, .int .i64 G.cols, .slice bo N2 cap2, .int .i64 G.row, .int .i64 G.col] 28)
  have k3 := k2.alloc (by simp; omega) (.cells #[.int .i64 x.row, .int .i64 x.col, .int .i32 x.r, .int .i64 x.s.1, .bool x.s.2.1, .bool x.s.2.2.1, .bool x.s.2.2.2] 37)
  have a1 := (Below.refl _ (w.alloc (.cells #[.int .i64 F.rows, .int .i64 F.cols, .slice ao N cap, .int .i64 F.row, .int .i64 F.col] 28))).alloc (Nat.le_refl _) (.cells #[.int .i64 G.rows, .int .i64 G.cols, .slice bo N2 cap2, .int .i64 G.row, .int .i64 G.col] 28)
  have a2 := a1.alloc (by simp) (.cells #[.int .i64 x.row, .int .i64 x.col, .int .i32 x.r, .int .i64 x.s.1, .bool x.s.2.1, .bool x.s.2.2.1, .bool x.s.2.2.2] 37)
  have e1 := (frB.new (r := F.rows) (c := F.cols) (v := .slice ao N cap) (a := F.row) (b := F.col) w).below a2 (by simp)
  have e2 := (frB.new (r := G.rows) (c := G.cols) (v := .slice bo N2 cap2) (a := G.row) (b := G.col) (w.alloc (.cells #[.int .i64 F.rows, .int .i64 F.cols, .slice ao N cap, .int .i64 F.row, .int .i64 F.col] 28))).below ((Below.refl _ _).alloc (Nat.le_refl _) (.cells #[.int .i64 x.row, .int .i64 x.col, .int .i32 x.r, .int .i64 x.s.1, .bool x.s.2.1, .bool x.s.2.2.1, .bool x.s.2.2.2] 37)) (by simp)
  rw [World.size_alloc] at e2
  have e3 := heap_alloc_new ((w.alloc (.cells #[.int .i64 F.rows, .int .i64 F.cols, .slice ao N cap, .int .i64 F.row, .int .i64 F.col] 28)).alloc (.cells #[.int .i64 G.rows, .int .i64 G.cols, .slice bo N2 cap2, .int .i64 G.row, .int .i64 G.col] 28)) (.cells #[.int .i64 x.row, .int .i64 x.col, .int .i32 x.r, .int .i64 x.s.1, .bool x.s.2.1, .bool x.s.2.2.1, .bool x.s.2.2.2] 37)
  rw [World.size_alloc, World.size_alloc] at e3
  exact ⟨k3, by simp, e1, e2, e3, hF.below k3, hG.below k3⟩
theorem RawS.ink (h : RawS w W F G x ao bo N cap N2 cap2) : W.cell? ⟨w.heap.size + 1 + 1, 0, none⟩ = some (.int .i64 x.row) ∧ W.cell? ⟨w.heap.size + 1 + 1, 1, none⟩ = some (.int .i64 x.col) ∧ W.cell? ⟨w.heap.size + 1 + 1, 2, none⟩ = some (.int .i32 x.r) ∧ W.cell? ⟨w.heap.size + 1 + 1, 3, none⟩ = some (.int .i64 x.s.1) ∧ W.cell? ⟨w.heap.size + 1 + 1, 4, none⟩ = some (.bool x.s.2.1) ∧ W.cell? ⟨w.heap.size + 1 + 1, 5, none⟩ = some (.bool x.s.2.2.1) ∧ W.cell? ⟨w.heap.size + 1 + 1, 6, none⟩ = some (.bool x.s.2.2.2) := by
  have e := h.b3
  refine ⟨?_, ?_, ?_, ?_, ?_, ?_, ?_⟩ <;> (rw [cell_of_row _ _ _ _ _ (0, 0) e]; rfl)
end

theorem putF_room (f : Frm) (a b r : Int) (s : Sty) : (putF f a b r s).cells.length ≤ 1000000 := by
  cases hv : validB f with
  | false => unfold putF; rw [if_neg (by rw [hv]; decide)]; simp [zeroF]
  | true => exact Nat.le_trans (put_okF (valid_ok hv) a b r s).room (by decide)
theorem rowsF_room (f : Frm) : (rowsF f).length ≤ 1000000 := by
  cases hv : validB f with
  | false => unfold rowsF; rw [if_neg (by rw [hv]; decide)]; simp
  | true =>
    have h := valid_ok hv
    unfold rowsF
    rw [if_pos hv, List.length_map, List.length_range]
    have := h.rows
    have := h.hm
    omega
theorem resF_room2 (f : Frm) (a b : Int) : (resF f a b).cells.length ≤ 1000000 := by
  unfold resF
  cases hv : validB f && sizedB a b with
  | false => simp [zeroF]
  | true =>
    rw [if_pos rfl]
    show (resC f a.toNat b.toNat).length ≤ _
    rw [resC_len]
    obtain ⟨h1, h2, h3, h4⟩ := (sizedB_iff _ _).1 (Bool.and_eq_true _ _ ▸ hv).2
    exact Nat.le_trans (Nat.mul_le_mul (show a.toNat ≤ 100 by omega) (show b.toNat ≤ 200 by omega)) (by decide)
/-- The two frames laid anew, in boxes of the law. -/
structure RawR (W : World) (R : Frm) (H1 H2 : Nat) (co eo : Option Addr) (cn cc en ec : Nat) : Prop where
  b1 : frB W H1 R.rows R.cols (.slice co cn cc) R.row R.col
  b2 : frB W H2 R.rows R.cols (.slice eo en ec) R.row R.col
  f1 : FrameW AnyB W (.agg #[.int .i64 R.rows, .int .i64 R.cols, .slice co cn cc, .int .i64 R.row, .int .i64 R.col]) R
  f2 : FrameW AnyB W (.agg #[.int .i64 R.rows, .int .i64 R.cols, .slice eo en ec, .int .i64 R.row, .int .i64 R.col]) R
theorem RawR.next {W W' : World} {R : Frm} {H1 H2 : Nat} {co eo : Option Addr} {cn cc en ec : Nat} (h : RawR W R H1 H2 co eo cn cc en ec) (hb : Below W.heap.size W W') : RawR W' R H1 H2 co eo cn cc en ec :=
  ⟨h.b1.below hb h.b1.lt, h.b2.below hb h.b2.lt, h.f1.below hb, h.f2.below hb⟩

set_option maxRecDepth 100000 in
set_option maxHeartbeats 16000000 in
theorem raw_any {ao bo : Option Addr} {N cap N2 cap2 : Nat} (F G : Frm) (x : Inkd) (w : World) (hF : FrameW AnyB w (.agg #[.int .i64 F.rows, .int .i64 F.cols, .slice ao N cap, .int .i64 F.row, .int .i64 F.col]) F) (hG : FrameW AnyB w (.agg #[.int .i64 G.rows, .int .i64 G.cols, .slice bo N2 cap2, .int .i64 G.row, .int .i64 G.col]) G) (hL : LaidW w) :
    Calls Tryd.prog 4 #[(.agg #[.int .i64 F.rows, .int .i64 F.cols, .slice ao N cap, .int .i64 F.row, .int .i64 F.col]), (.agg #[.int .i64 G.rows, .int .i64 G.cols, .slice bo N2 cap2, .int .i64 G.row, .int .i64 G.col]), (.agg #[.int .i64 x.row, .int .i64 x.col, .int .i32 x.r, .int .i64 x.s.1, .bool x.s.2.1, .bool x.s.2.2.1, .bool x.s.2.2.2])] w fun e w' => e = .returned (.bool true) ∧ Below w.heap.size w w' := by
  have HS := Lib.hid (fun W (hW : Below w.heap.size w W) => lshown_any W (hL.below hW))
  have HB0 := Lib.hid (RawS.start (x := x) hF hG)
  by_cases hg : 300 < N
  · clear hF hG hL
    go_enter Tryd.func4, Tryd.ntmps4
    go_wp2_with fail
    go_fit (HS.out _ (RawS.below HB0.out))
    rintro e w3 ⟨rfl, hb3⟩
    have HB3 := Lib.hid ((RawS.below HB0.out).trans (hb3.mono (RawS.below HB0.out).size))
    clear hb3 HB0 HS
    go_wp2
    go_ret
    exact ⟨rfl, HB3.out⟩
  by_cases hg2 : 300 < N2
  · clear hF hG hL
    go_enter Tryd.func4, Tryd.ntmps4
    go_wp2_with fail
    go_fit (HS.out _ (RawS.below HB0.out))
    rintro e w3 ⟨rfl, hb3⟩
    have HB3 := Lib.hid ((RawS.below HB0.out).trans (hb3.mono (RawS.below HB0.out).size))
    clear hb3 HB0 HS
    go_wp2
    go_ret
    exact ⟨rfl, HB3.out⟩
  obtain ⟨R, hR⟩ : ∃ R, resF F x.row x.col = R := ⟨_, rfl⟩
  obtain ⟨E, hE⟩ : ∃ E, resE F x.row x.col = E := ⟨_, rfl⟩
  obtain ⟨P, hP⟩ : ∃ P, putF F x.row x.col x.r x.s = P := ⟨_, rfl⟩
  obtain ⟨L, hLr⟩ : ∃ L, rowsF F = L := ⟨_, rfl⟩
  obtain ⟨v, hv⟩ : ∃ v, validB F = v := ⟨_, rfl⟩
  obtain ⟨s, hs⟩ : ∃ s, sameB F G = s := ⟨_, rfl⟩
  obtain ⟨D, hD⟩ : ∃ D, diffF F G = D := ⟨_, rfl⟩
  have lR : R.cells.length ≤ 1000000 := by rw [← hR]; exact resF_room2 _ _ _
  have lP : P.cells.length ≤ 1000000 := by rw [← hP]; exact putF_room _ _ _ _ _
  have lL : L.length ≤ 1000000 := by rw [← hLr]; exact rowsF_room _
  have lF : F.cells.length ≤ 1000000 := by
    obtain ⟨_, _, _, he, hn, _⟩ := hF
    simp at he
    omega
  have HR1 : Hid (∀ W, RawS w W F G x ao bo N cap N2 cap2 → Calls Tryd.prog 24 #[(.agg #[.int .i64 F.rows, .int .i64 F.cols, .slice ao N cap, .int .i64 F.row, .int .i64 F.col]), .int .i64 x.row, .int .i64 x.col] W fun e w' => ∃ co cn cc, e = .returned (.tuple #[(.agg #[.int .i64 R.rows, .int .i64 R.cols, .slice co cn cc, .int .i64 R.row, .int .i64 R.col]), .int .i64 E]) ∧ FrameW AnyB w' (.agg #[.int .i64 R.rows, .int .i64 R.cols, .slice co cn cc, .int .i64 R.row, .int .i64 R.col]) R ∧ Below W.heap.size W w') := fun W hW => by
    have := frame_out2 (gres_any x.row x.col W hW.f1 (hL.below hW.below))
    rwa [hR, hE] at this
  have HR2 : Hid (∀ W, RawS w W F G x ao bo N cap N2 cap2 → Calls Tryd.prog 25 #[(.agg #[.int .i64 F.rows, .int .i64 F.cols, .slice ao N cap, .int .i64 F.row, .int .i64 F.col]), .int .i64 x.row, .int .i64 x.col] W fun e w' => ∃ co cn cc, e = .returned (.tuple #[(.agg #[.int .i64 R.rows, .int .i64 R.cols, .slice co cn cc, .int .i64 R.row, .int .i64 R.col]), .int .i64 E]) ∧ FrameW AnyB w' (.agg #[.int .i64 R.rows, .int .i64 R.cols, .slice co cn cc, .int .i64 R.row, .int .i64 R.col]) R ∧ Below W.heap.size W w') := fun W hW => by
    have := frame_out2 (rres_any x.row x.col W hW.f1)
    rwa [hR, hE] at this
  have M1 : Hid (∀ W, RawS w W F G x ao bo N cap N2 cap2 → Calls Tryd.prog 26 #[(.agg #[.int .i64 F.rows, .int .i64 F.cols, .slice ao N cap, .int .i64 F.row, .int .i64 F.col])] W fun e w' => e = .returned (.bool v) ∧ Below W.heap.size W w') := fun W hW => by
    have := gvalid_any W hW.f1 (hL.below hW.below)
    rwa [hv] at this
  have M2 : Hid (∀ W, RawS w W F G x ao bo N cap N2 cap2 → Calls Tryd.prog 27 #[(.agg #[.int .i64 F.rows, .int .i64 F.cols, .slice ao N cap, .int .i64 F.row, .int .i64 F.col])] W fun e w' => e = .returned (.bool v) ∧ Below W.heap.size W w') := fun W hW => by
    have := rvalid_any W hW.f1
    rwa [hv] at this
  have M3 : Hid (∀ W, RawS w W F G x ao bo N cap N2 cap2 → Calls Tryd.prog 13 #[(.agg #[.int .i64 F.rows, .int .i64 F.cols, .slice ao N cap, .int .i64 F.row, .int .i64 F.col]), (.agg #[.int .i64 G.rows, .int .i64 G.cols, .slice bo N2 cap2, .int .i64 G.row, .int .i64 G.col])] W fun e w' => e = .returned (.bool s) ∧ Below W.heap.size W w') := fun W hW => by
    have := gsame_any W hW.f1 hW.f2 lF
    rwa [hs] at this
  have M4 : Hid (∀ W, RawS w W F G x ao bo N cap N2 cap2 → Calls Tryd.prog 14 #[(.agg #[.int .i64 F.rows, .int .i64 F.cols, .slice ao N cap, .int .i64 F.row, .int .i64 F.col]), (.agg #[.int .i64 G.rows, .int .i64 G.cols, .slice bo N2 cap2, .int .i64 G.row, .int .i64 G.col])] W fun e w' => e = .returned (.bool s) ∧ Below W.heap.size W w') := fun W hW => by
    have := rsame_any W hW.f1 hW.f2 lF
    rwa [hs] at this
  have M5 : Hid (∀ W, RawS w W F G x ao bo N cap N2 cap2 → Calls Tryd.prog 13 #[(.agg #[.int .i64 F.rows, .int .i64 F.cols, .slice ao N cap, .int .i64 F.row, .int .i64 F.col]), (.agg #[.int .i64 F.rows, .int .i64 F.cols, .slice ao N cap, .int .i64 F.row, .int .i64 F.col])] W fun e w' => e = .returned (.bool true) ∧ Below W.heap.size W w') := fun W hW => by
    have := gsame_any W hW.f1 hW.f1 lF
    rwa [sameB_self] at this
  have M6 : Hid (∀ W, RawS w W F G x ao bo N cap N2 cap2 → Calls Tryd.prog 22 #[(.agg #[.int .i64 F.rows, .int .i64 F.cols, .slice ao N cap, .int .i64 F.row, .int .i64 F.col]), (.agg #[.int .i64 G.rows, .int .i64 G.cols, .slice bo N2 cap2, .int .i64 G.row, .int .i64 G.col])] W fun e w' => e = .returned (.int .i64 D) ∧ Below W.heap.size W w') := fun W hW => by
    have := gdiff_any W hW.f1 hW.f2 (hL.below hW.below)
    rwa [hD] at this
  have M7 : Hid (∀ W, RawS w W F G x ao bo N cap N2 cap2 → Calls Tryd.prog 23 #[(.agg #[.int .i64 F.rows, .int .i64 F.cols, .slice ao N cap, .int .i64 F.row, .int .i64 F.col]), (.agg #[.int .i64 G.rows, .int .i64 G.cols, .slice bo N2 cap2, .int .i64 G.row, .int .i64 G.col])] W fun e w' => e = .returned (.int .i64 D) ∧ Below W.heap.size W w') := fun W hW => by
    have := rdiff_any W hW.f1 hW.f2
    rwa [hD] at this
  have M8 : Hid (∀ W u z, FrameW AnyB W u R → FrameW AnyB W z R → Calls Tryd.prog 14 #[u, z] W fun e w' => e = .returned (.bool true) ∧ Below W.heap.size W w') := fun W u z h h2 => by
    have := rsame_any W h h2 lR
    rwa [sameB_self] at this
  have N1 : Hid (∀ W, RawS w W F G x ao bo N cap N2 cap2 → Calls Tryd.prog 17 #[(.agg #[.int .i64 F.rows, .int .i64 F.cols, .slice ao N cap, .int .i64 F.row, .int .i64 F.col]), .int .i64 x.row, .int .i64 x.col, .int .i32 x.r, .agg #[.int .i64 x.s.1, .bool x.s.2.1, .bool x.s.2.2.1, .bool x.s.2.2.2]] W fun e w' => ∃ u, e = .returned u ∧ FrameW AnyB w' u P ∧ Below W.heap.size W w') := fun W hW => by
    have := gput_any x.row x.col x.r x.s W hW.f1 (hL.below hW.below)
    rwa [hP] at this
  have N2' : Hid (∀ W, RawS w W F G x ao bo N cap N2 cap2 → Calls Tryd.prog 18 #[(.agg #[.int .i64 F.rows, .int .i64 F.cols, .slice ao N cap, .int .i64 F.row, .int .i64 F.col]), .int .i64 x.row, .int .i64 x.col, .int .i32 x.r, .agg #[.int .i64 x.s.1, .bool x.s.2.1, .bool x.s.2.2.1, .bool x.s.2.2.2]] W fun e w' => ∃ u, e = .returned u ∧ FrameW AnyB w' u P ∧ Below W.heap.size W w') := fun W hW => by
    have := rput_any x.row x.col x.r x.s W hW.f1
    rwa [hP] at this
  have N3 : Hid (∀ W u z, FrameW AnyB W u P → FrameW AnyB W z P → Calls Tryd.prog 14 #[u, z] W fun e w' => e = .returned (.bool true) ∧ Below W.heap.size W w') := fun W u z h h2 => by
    have := rsame_any W h h2 lP
    rwa [sameB_self] at this
  have N4 : Hid (∀ W, RawS w W F G x ao bo N cap N2 cap2 → Calls Tryd.prog 20 #[(.agg #[.int .i64 F.rows, .int .i64 F.cols, .slice ao N cap, .int .i64 F.row, .int .i64 F.col])] W fun e w' => ∃ u, e = .returned u ∧ StrsV AnyB w' u L ∧ Below W.heap.size W w') := fun W hW => by
    have := grows_any W hW.f1 (hL.below hW.below)
    rwa [hLr] at this
  have N5 : Hid (∀ W, RawS w W F G x ao bo N cap N2 cap2 → Calls Tryd.prog 21 #[(.agg #[.int .i64 F.rows, .int .i64 F.cols, .slice ao N cap, .int .i64 F.row, .int .i64 F.col])] W fun e w' => ∃ u, e = .returned u ∧ StrsV AnyB w' u L ∧ Below W.heap.size W w') := fun W hW => by
    have := rrows_any W hW.f1
    rwa [hLr] at this
  have N6 : Hid (∀ W u z, StrsV AnyB W u L → StrsV AnyB W z L → Calls Tryd.prog 19 #[u, z] W fun e w' => e = .returned (.bool true) ∧ Below W.heap.size W w') := fun W u z h h2 => by
    have := strings_any W h h2 lL
    rwa [decide_eq_true rfl] at this
  clear hF hG hL hR hE hP hLr hv hs hD lR lP lL lF
  go_enter Tryd.func4, Tryd.ntmps4
  go_wp2_with fail
  go_fit (HR1.out _ HB0.out)
  rintro e w1 ⟨co, cn, cc, rfl, h1, hb1⟩
  have HB1 := Lib.hid (HB0.out.next hb1)
  have hT := (Below.refl _ w1).alloc (Nat.le_refl _) (.cells #[.int .i64 R.rows, .int .i64 R.cols, .slice co cn cc, .int .i64 R.row, .int .i64 R.col] 28)
  have HT1 := Lib.hid (HB1.out.next hT)
  have Hc := Lib.hid (frB.new (r := R.rows) (c := R.cols) (v := .slice co cn cc) (a := R.row) (b := R.col) w1)
  have Hf := Lib.hid (h1.below hT)
  obtain ⟨⟨x0, x1, x2, x3, x4⟩, _⟩ := HT1.out.b1.cells
  obtain ⟨k0, k1, k2, k3, k4, k5, k6⟩ := HT1.out.ink
  have hl0 := HT1.out.size
  have hl1 := HB1.out.size
  clear HB0 hb1 h1 hT HR1 HB1
  go_wp2_with fail
  go_fit (HR2.out _ HT1.out)
  rintro e w2 ⟨eo, en, ec, rfl, h2, hb2⟩
  have HB2 := Lib.hid (HT1.out.next hb2)
  have hT := (Below.refl _ w2).alloc (Nat.le_refl _) (.cells #[.int .i64 R.rows, .int .i64 R.cols, .slice eo en ec, .int .i64 R.row, .int .i64 R.col] 28)
  have hT2 := HB2.out.next hT
  have hR2 : RawR (w2.alloc (.cells #[.int .i64 R.rows, .int .i64 R.cols, .slice eo en ec, .int .i64 R.row, .int .i64 R.col] 28)) R w1.heap.size w2.heap.size co eo cn cc en ec := ⟨(Hc.out.below hb2 Hc.out.lt).below hT (Nat.lt_of_lt_of_le Hc.out.lt hb2.size), frB.new w2, (Hf.out.below hb2).below hT, h2.below hT⟩
  clear x0 x1 x2 x3 x4 k0 k1 k2 k3 k4 k5 k6 hl0 hl1 hT hb2 h2 Hc Hf HB2 HT1 HR2
  obtain ⟨W, hW⟩ : ∃ W, w2.alloc (.cells #[.int .i64 R.rows, .int .i64 R.cols, .slice eo en ec, .int .i64 R.row, .int .i64 R.col] 28) = W := ⟨_, rfl⟩
  obtain ⟨H1, hH1⟩ : ∃ H1, w1.heap.size = H1 := ⟨_, rfl⟩
  obtain ⟨H2, hH2⟩ : ∃ H2, w2.heap.size = H2 := ⟨_, rfl⟩
  rw [hW, hH1, hH2] at hR2
  rw [hW] at hT2
  have HT2 := Lib.hid hT2
  have HR2 := Lib.hid hR2
  clear hT2 hR2
  have L1 : Hid (∀ V, Below W.heap.size W V → Calls Tryd.prog 26 #[(.agg #[.int .i64 F.rows, .int .i64 F.cols, .slice ao N cap, .int .i64 F.row, .int .i64 F.col])] V fun e w' => e = .returned (.bool v) ∧ Below W.heap.size W w') := fun V hV => (M1.out V (HT2.out.next hV)).mono fun e w' ⟨k1, k3⟩ => ⟨k1, hV.trans (k3.mono hV.size)⟩
  have L2 : Hid (∀ V, Below W.heap.size W V → Calls Tryd.prog 27 #[(.agg #[.int .i64 F.rows, .int .i64 F.cols, .slice ao N cap, .int .i64 F.row, .int .i64 F.col])] V fun e w' => e = .returned (.bool v) ∧ Below W.heap.size W w') := fun V hV => (M2.out V (HT2.out.next hV)).mono fun e w' ⟨k1, k3⟩ => ⟨k1, hV.trans (k3.mono hV.size)⟩
  have L3 : Hid (∀ V, Below W.heap.size W V → Calls Tryd.prog 13 #[(.agg #[.int .i64 F.rows, .int .i64 F.cols, .slice ao N cap, .int .i64 F.row, .int .i64 F.col]), (.agg #[.int .i64 G.rows, .int .i64 G.cols, .slice bo N2 cap2, .int .i64 G.row, .int .i64 G.col])] V fun e w' => e = .returned (.bool s) ∧ Below W.heap.size W w') := fun V hV => (M3.out V (HT2.out.next hV)).mono fun e w' ⟨k1, k3⟩ => ⟨k1, hV.trans (k3.mono hV.size)⟩
  have L4 : Hid (∀ V, Below W.heap.size W V → Calls Tryd.prog 14 #[(.agg #[.int .i64 F.rows, .int .i64 F.cols, .slice ao N cap, .int .i64 F.row, .int .i64 F.col]), (.agg #[.int .i64 G.rows, .int .i64 G.cols, .slice bo N2 cap2, .int .i64 G.row, .int .i64 G.col])] V fun e w' => e = .returned (.bool s) ∧ Below W.heap.size W w') := fun V hV => (M4.out V (HT2.out.next hV)).mono fun e w' ⟨k1, k3⟩ => ⟨k1, hV.trans (k3.mono hV.size)⟩
  have L5 : Hid (∀ V, Below W.heap.size W V → Calls Tryd.prog 13 #[(.agg #[.int .i64 F.rows, .int .i64 F.cols, .slice ao N cap, .int .i64 F.row, .int .i64 F.col]), (.agg #[.int .i64 F.rows, .int .i64 F.cols, .slice ao N cap, .int .i64 F.row, .int .i64 F.col])] V fun e w' => e = .returned (.bool true) ∧ Below W.heap.size W w') := fun V hV => (M5.out V (HT2.out.next hV)).mono fun e w' ⟨k1, k3⟩ => ⟨k1, hV.trans (k3.mono hV.size)⟩
  have L6 : Hid (∀ V, Below W.heap.size W V → Calls Tryd.prog 22 #[(.agg #[.int .i64 F.rows, .int .i64 F.cols, .slice ao N cap, .int .i64 F.row, .int .i64 F.col]), (.agg #[.int .i64 G.rows, .int .i64 G.cols, .slice bo N2 cap2, .int .i64 G.row, .int .i64 G.col])] V fun e w' => e = .returned (.int .i64 D) ∧ Below W.heap.size W w') := fun V hV => (M6.out V (HT2.out.next hV)).mono fun e w' ⟨k1, k3⟩ => ⟨k1, hV.trans (k3.mono hV.size)⟩
  have L7 : Hid (∀ V, Below W.heap.size W V → Calls Tryd.prog 23 #[(.agg #[.int .i64 F.rows, .int .i64 F.cols, .slice ao N cap, .int .i64 F.row, .int .i64 F.col]), (.agg #[.int .i64 G.rows, .int .i64 G.cols, .slice bo N2 cap2, .int .i64 G.row, .int .i64 G.col])] V fun e w' => e = .returned (.int .i64 D) ∧ Below W.heap.size W w') := fun V hV => (M7.out V (HT2.out.next hV)).mono fun e w' ⟨k1, k3⟩ => ⟨k1, hV.trans (k3.mono hV.size)⟩
  have L8 : Hid (∀ V, Below W.heap.size W V → Calls Tryd.prog 14 #[(.agg #[.int .i64 R.rows, .int .i64 R.cols, .slice co cn cc, .int .i64 R.row, .int .i64 R.col]), (.agg #[.int .i64 R.rows, .int .i64 R.cols, .slice eo en ec, .int .i64 R.row, .int .i64 R.col])] V fun e w' => e = .returned (.bool true) ∧ Below W.heap.size W w') := fun V hV => (M8.out V _ _ (HR2.out.next hV).f1 (HR2.out.next hV).f2).mono fun e w' ⟨k1, k3⟩ => ⟨k1, hV.trans (k3.mono hV.size)⟩
  have HC : Hid (∀ V, Below W.heap.size W V → (V.cell? ⟨w.heap.size, 0, none⟩ = some (.int .i64 F.rows) ∧ V.cell? ⟨w.heap.size, 1, none⟩ = some (.int .i64 F.cols) ∧ V.cell? ⟨w.heap.size, 2, none⟩ = some (.slice ao N cap) ∧ V.cell? ⟨w.heap.size, 3, none⟩ = some (.int .i64 F.row) ∧ V.cell? ⟨w.heap.size, 4, none⟩ = some (.int .i64 F.col)) ∧ (V.cell? ⟨w.heap.size + 1, 0, none⟩ = some (.int .i64 G.rows) ∧ V.cell? ⟨w.heap.size + 1, 1, none⟩ = some (.int .i64 G.cols) ∧ V.cell? ⟨w.heap.size + 1, 2, none⟩ = some (.slice bo N2 cap2) ∧ V.cell? ⟨w.heap.size + 1, 3, none⟩ = some (.int .i64 G.row) ∧ V.cell? ⟨w.heap.size + 1, 4, none⟩ = some (.int .i64 G.col)) ∧ (V.cell? ⟨H1, 0, none⟩ = some (.int .i64 R.rows) ∧ V.cell? ⟨H1, 1, none⟩ = some (.int .i64 R.cols) ∧ V.cell? ⟨H1, 2, none⟩ = some (.slice co cn cc) ∧ V.cell? ⟨H1, 3, none⟩ = some (.int .i64 R.row) ∧ V.cell? ⟨H1, 4, none⟩ = some (.int .i64 R.col)) ∧ (V.cell? ⟨H2, 0, none⟩ = some (.int .i64 R.rows) ∧ V.cell? ⟨H2, 1, none⟩ = some (.int .i64 R.cols) ∧ V.cell? ⟨H2, 2, none⟩ = some (.slice eo en ec) ∧ V.cell? ⟨H2, 3, none⟩ = some (.int .i64 R.row) ∧ V.cell? ⟨H2, 4, none⟩ = some (.int .i64 R.col))) := fun V hV => ⟨(HT2.out.next hV).b1.cells.1, (HT2.out.next hV).b2.cells.1, (HR2.out.next hV).b1.cells.1, (HR2.out.next hV).b2.cells.1⟩
  have P1 : Hid (∀ V, Below W.heap.size W V → Calls Tryd.prog 17 #[(.agg #[.int .i64 F.rows, .int .i64 F.cols, .slice ao N cap, .int .i64 F.row, .int .i64 F.col]), .int .i64 x.row, .int .i64 x.col, .int .i32 x.r, .agg #[.int .i64 x.s.1, .bool x.s.2.1, .bool x.s.2.2.1, .bool x.s.2.2.2]] V fun e w' => ∃ u, e = .returned u ∧ FrameW AnyB w' u P ∧ Below W.heap.size W w') := fun V hV => (N1.out V (HT2.out.next hV)).mono fun e w' ⟨u, k1, k2, k3⟩ => ⟨u, k1, k2, hV.trans (k3.mono hV.size)⟩
  have P2 : Hid (∀ V z, Below W.heap.size W V → FrameW AnyB V z P → Calls Tryd.prog 18 #[(.agg #[.int .i64 F.rows, .int .i64 F.cols, .slice ao N cap, .int .i64 F.row, .int .i64 F.col]), .int .i64 x.row, .int .i64 x.col, .int .i32 x.r, .agg #[.int .i64 x.s.1, .bool x.s.2.1, .bool x.s.2.2.1, .bool x.s.2.2.2]] V fun e w' => ∃ u, e = .returned u ∧ FrameW AnyB w' z P ∧ FrameW AnyB w' u P ∧ Below W.heap.size W w') := fun V z hV hz => (N2'.out V (HT2.out.next hV)).mono fun e w' ⟨u, k1, k2, k3⟩ => ⟨u, k1, hz.below k3, k2, hV.trans (k3.mono hV.size)⟩
  have P3 : Hid (∀ V z u, Below W.heap.size W V → FrameW AnyB V z P → FrameW AnyB V u P → Calls Tryd.prog 14 #[z, u] V fun e w' => e = .returned (.bool true) ∧ Below W.heap.size W w') := fun V z u hV hz hu => (N3.out V z u hz hu).mono fun e w' ⟨k1, k3⟩ => ⟨k1, hV.trans (k3.mono hV.size)⟩
  have P4 : Hid (∀ V, Below W.heap.size W V → Calls Tryd.prog 20 #[(.agg #[.int .i64 F.rows, .int .i64 F.cols, .slice ao N cap, .int .i64 F.row, .int .i64 F.col])] V fun e w' => ∃ u, e = .returned u ∧ StrsV AnyB w' u L ∧ Below W.heap.size W w') := fun V hV => (N4.out V (HT2.out.next hV)).mono fun e w' ⟨u, k1, k2, k3⟩ => ⟨u, k1, k2, hV.trans (k3.mono hV.size)⟩
  have P5 : Hid (∀ V z, Below W.heap.size W V → StrsV AnyB V z L → Calls Tryd.prog 21 #[(.agg #[.int .i64 F.rows, .int .i64 F.cols, .slice ao N cap, .int .i64 F.row, .int .i64 F.col])] V fun e w' => ∃ u, e = .returned u ∧ StrsV AnyB w' z L ∧ StrsV AnyB w' u L ∧ Below W.heap.size W w') := fun V z hV hz => (N5.out V (HT2.out.next hV)).mono fun e w' ⟨u, k1, k2, k3⟩ => ⟨u, k1, hz.below k3, k2, hV.trans (k3.mono hV.size)⟩
  have P6 : Hid (∀ V z u, Below W.heap.size W V → StrsV AnyB V z L → StrsV AnyB V u L → Calls Tryd.prog 19 #[z, u] V fun e w' => e = .returned (.bool true) ∧ Below W.heap.size W w') := fun V z u hV hz hu => (N6.out V z u hz hu).mono fun e w' ⟨k1, k3⟩ => ⟨k1, hV.trans (k3.mono hV.size)⟩
  have P7 : Hid (∀ V, Below W.heap.size W V → Calls Tryd.prog 10 #[] V fun e w' => e = .returned (.bool true) ∧ Below W.heap.size W w') := fun V hV => (HS.out V (HT2.out.next hV).below).mono fun e w' ⟨k1, k3⟩ => ⟨k1, hV.trans (k3.mono hV.size)⟩
  have HC7 : Hid (∀ V, Below W.heap.size W V → (V.cell? ⟨w.heap.size, 0, none⟩ = some (.int .i64 F.rows) ∧ V.cell? ⟨w.heap.size, 1, none⟩ = some (.int .i64 F.cols) ∧ V.cell? ⟨w.heap.size, 2, none⟩ = some (.slice ao N cap) ∧ V.cell? ⟨w.heap.size, 3, none⟩ = some (.int .i64 F.row) ∧ V.cell? ⟨w.heap.size, 4, none⟩ = some (.int .i64 F.col)) ∧ (V.cell? ⟨w.heap.size + 1 + 1, 0, none⟩ = some (.int .i64 x.row) ∧ V.cell? ⟨w.heap.size + 1 + 1, 1, none⟩ = some (.int .i64 x.col) ∧ V.cell? ⟨w.heap.size + 1 + 1, 2, none⟩ = some (.int .i32 x.r) ∧ V.cell? ⟨w.heap.size + 1 + 1, 3, none⟩ = some (.int .i64 x.s.1) ∧ V.cell? ⟨w.heap.size + 1 + 1, 4, none⟩ = some (.bool x.s.2.1) ∧ V.cell? ⟨w.heap.size + 1 + 1, 5, none⟩ = some (.bool x.s.2.2.1) ∧ V.cell? ⟨w.heap.size + 1 + 1, 6, none⟩ = some (.bool x.s.2.2.2))) := fun V hV => ⟨(HT2.out.next hV).b1.cells.1, (HT2.out.next hV).ink⟩
  have HE : Hid (∀ V, Below W.heap.size W V → Below w.heap.size w V) := fun V hV => (HT2.out.next hV).below
  clear N1 N2' N3 N4 N5 N6 HS
  clear M1 M2 M3 M4 M5 M6 M7 M8 HT2 HR2
  have k0 : Below W.heap.size W W.drew := (Below.refl _ W).drew
  clear hg hg2
  go_wp2
  (try rw [hW]); (try rw [hH1]); (try rw [hH2])
  clear hW hH1 hH2
  go_region_held3 (fun V => (V.cell? ⟨w.heap.size, 0, none⟩ = some (.int .i64 F.rows) ∧ V.cell? ⟨w.heap.size, 1, none⟩ = some (.int .i64 F.cols) ∧ V.cell? ⟨w.heap.size, 2, none⟩ = some (.slice ao N cap) ∧ V.cell? ⟨w.heap.size, 3, none⟩ = some (.int .i64 F.row) ∧ V.cell? ⟨w.heap.size, 4, none⟩ = some (.int .i64 F.col)) ∧ (V.cell? ⟨w.heap.size + 1, 0, none⟩ = some (.int .i64 G.rows) ∧ V.cell? ⟨w.heap.size + 1, 1, none⟩ = some (.int .i64 G.cols) ∧ V.cell? ⟨w.heap.size + 1, 2, none⟩ = some (.slice bo N2 cap2) ∧ V.cell? ⟨w.heap.size + 1, 3, none⟩ = some (.int .i64 G.row) ∧ V.cell? ⟨w.heap.size + 1, 4, none⟩ = some (.int .i64 G.col)) ∧ (V.cell? ⟨H1, 0, none⟩ = some (.int .i64 R.rows) ∧ V.cell? ⟨H1, 1, none⟩ = some (.int .i64 R.cols) ∧ V.cell? ⟨H1, 2, none⟩ = some (.slice co cn cc) ∧ V.cell? ⟨H1, 3, none⟩ = some (.int .i64 R.row) ∧ V.cell? ⟨H1, 4, none⟩ = some (.int .i64 R.col)) ∧ (V.cell? ⟨H2, 0, none⟩ = some (.int .i64 R.rows) ∧ V.cell? ⟨H2, 1, none⟩ = some (.int .i64 R.cols) ∧ V.cell? ⟨H2, 2, none⟩ = some (.slice eo en ec) ∧ V.cell? ⟨H2, 3, none⟩ = some (.int .i64 R.row) ∧ V.cell? ⟨H2, 4, none⟩ = some (.int .i64 R.col)))
    (first | with_reducible exact HC.out _ kk | with_reducible exact HC.out _ k0)
    (first
      | (go_at_call 26; go_fit (L1.out _ ?_); (first | with_reducible exact kk | with_reducible exact k0); rintro e vv ⟨rfl, kk⟩)
      | (go_at_call 27; go_fit (L2.out _ ?_); (first | with_reducible exact kk | with_reducible exact k0); rintro e vv ⟨rfl, kk⟩)
      | (go_at_call 13; go_fit (L3.out _ ?_); (first | with_reducible exact kk | with_reducible exact k0); rintro e vv ⟨rfl, kk⟩)
      | (go_at_call 13; go_fit (L5.out _ ?_); (first | with_reducible exact kk | with_reducible exact k0); rintro e vv ⟨rfl, kk⟩)
      | (go_at_call 14; go_fit (L4.out _ ?_); (first | with_reducible exact kk | with_reducible exact k0); rintro e vv ⟨rfl, kk⟩)
      | (go_at_call 14; go_fit (L8.out _ ?_); (first | with_reducible exact kk | with_reducible exact k0); rintro e vv ⟨rfl, kk⟩)
      | (go_at_call 22; go_fit (L6.out _ ?_); (first | with_reducible exact kk | with_reducible exact k0); rintro e vv ⟨rfl, kk⟩)
      | (go_at_call 23; go_fit (L7.out _ ?_); (first | with_reducible exact kk | with_reducible exact k0); rintro e vv ⟨rfl, kk⟩))
  clear L1 L2 L3 L4 L5 L6 L7 L8 HC k0
  have k0 : Below W.heap.size W vv.drew := kk.drew
  go_wp2
  go_region_held3 (fun V => (V.cell? ⟨w.heap.size, 0, none⟩ = some (.int .i64 F.rows) ∧ V.cell? ⟨w.heap.size, 1, none⟩ = some (.int .i64 F.cols) ∧ V.cell? ⟨w.heap.size, 2, none⟩ = some (.slice ao N cap) ∧ V.cell? ⟨w.heap.size, 3, none⟩ = some (.int .i64 F.row) ∧ V.cell? ⟨w.heap.size, 4, none⟩ = some (.int .i64 F.col)) ∧ (V.cell? ⟨w.heap.size + 1 + 1, 0, none⟩ = some (.int .i64 x.row) ∧ V.cell? ⟨w.heap.size + 1 + 1, 1, none⟩ = some (.int .i64 x.col) ∧ V.cell? ⟨w.heap.size + 1 + 1, 2, none⟩ = some (.int .i32 x.r) ∧ V.cell? ⟨w.heap.size + 1 + 1, 3, none⟩ = some (.int .i64 x.s.1) ∧ V.cell? ⟨w.heap.size + 1 + 1, 4, none⟩ = some (.bool x.s.2.1) ∧ V.cell? ⟨w.heap.size + 1 + 1, 5, none⟩ = some (.bool x.s.2.2.1) ∧ V.cell? ⟨w.heap.size + 1 + 1, 6, none⟩ = some (.bool x.s.2.2.2)))
    (first | with_reducible exact HC7.out _ kk | with_reducible exact HC7.out _ k0)
    (first
      | (go_at_call 17; go_fit (P1.out _ ?_); (first | with_reducible exact kk | with_reducible exact k0); rintro e vv ⟨u1, rfl, h1, kk⟩)
      | (go_at_call 18; go_fit (P2.out _ _ ?_ h1); (first | with_reducible exact kk | with_reducible exact k0); rintro e vv ⟨u2, rfl, h1, h2, kk⟩)
      | (go_at_call 14; go_fit (P3.out _ _ _ ?_ h1 h2); (first | with_reducible exact kk | with_reducible exact k0); rintro e vv ⟨rfl, kk⟩)
      | (go_at_call 20; go_fit (P4.out _ ?_); (first | with_reducible exact kk | with_reducible exact k0); rintro e vv ⟨u3, rfl, h3, kk⟩)
      | (go_at_call 21; go_fit (P5.out _ _ ?_ h3); (first | with_reducible exact kk | with_reducible exact k0); rintro e vv ⟨u4, rfl, h3, h4, kk⟩)
      | (go_at_call 19; go_fit (P6.out _ _ _ ?_ h3 h4); (first | with_reducible exact kk | with_reducible exact k0); rintro e vv ⟨rfl, kk⟩)
      | (go_at_call 10; go_fit (P7.out _ ?_); (first | with_reducible exact kk | with_reducible exact k0); rintro e vv ⟨rfl, kk⟩))
  have HKK := Lib.hid (HE.out _ kk)
  clear HC7 P1 P2 P3 P4 P5 P6 P7 HE
  go_wp2
  go_ret
  exact ⟨rfl, HKK.out⟩
end Go.Proofs.YtdibpoecdjnpaaaDoor
