/-
  TermSmall: a small terminal shows and rings as the document's own does, whatever is written: the law's walk: it returns true.
-/
import Derived.Test.YtpkjaallhhjleaaGreatDoorBe35
import Derived.Test.YtpkjaallhhjleaaGreatDoorBe52
import Derived.Test.YtpkjaallhhjleaaGreatDoorBe53
import Derived.Test.YtpkjaallhhjleaaGreatDoorBe54
namespace Go.Proofs.YtpkjaallhhjleaaGreatDoor
open Go.RowKit

theorem blw_drewS {w W : World} (h : Below w.heap.size w W) : Below w.heap.size w W.drew := h.trans ((Below.refl _ W).drew.mono h.size)
set_option maxRecDepth 20000 in
set_option maxHeartbeats 4000000 in
theorem termSmall_far (s : ByteArray) (z0 z1 : Int) (w : World) (hL : LaidT w) (h : 1500 < s.size) :
    Calls Tryz.prog 3 #[.string s, .agg #[.int .u8 z0, .int .u8 z1]] w fun e w' => e = .returned (.bool true) ∧ Below w.heap.size w w' := by
  have H := Lib.hid (fun W (hW : Below w.heap.size w W) => wrapped_any W (hL.below hW))
  have HB : Hid (Below w.heap.size w (w.alloc (.cells #[.int .u8 z0, .int .u8 z1] 22))) := (Below.refl _ _).alloc (Nat.le_refl _) _
  have hi : (1500 : Int) < (s.size : Int) := by omega
  clear hL h
  go_enter Tryz.func3, Tryz.ntmps3
  go_wp2_with fail
  go_fit (H.out _ HB.out)
  rintro e w1 ⟨rfl, hb⟩
  go_wp2_with fail
  go_ret
  exact ⟨rfl, HB.out.trans (hb.mono HB.out.size)⟩
set_option maxRecDepth 20000 in
set_option maxHeartbeats 8000000 in
theorem termSmall_near (s : ByteArray) (z0 z1 : Int) (w : World) (hL : LaidT w) (hz0 : 0 ≤ z0 ∧ z0 ≤ 255) (hz1 : 0 ≤ z1 ∧ z1 ≤ 255) (hs : s.size ≤ 1500) :
    Calls Tryz.prog 3 #[.string s, .agg #[.int .u8 z0, .int .u8 z1]] w fun e w' => e = .returned (.bool true) ∧ Below w.heap.size w w' := by
  have hsi : (s.size : Int) ≤ 1500 := by omega
  obtain ⟨u0, hu0⟩ : ∃ t, z0.tmod 4 = t := ⟨_, rfl⟩
  obtain ⟨u1, hu1⟩ : ∃ t, z1.tmod 6 = t := ⟨_, rfl⟩
  have q0 : 0 ≤ u0 ∧ u0 < 4 := by rw [← hu0]; exact ⟨Int.tmod_nonneg _ hz0.1, Int.tmod_lt_of_pos _ (by omega)⟩
  have q1 : 0 ≤ u1 ∧ u1 < 6 := by rw [← hu1]; exact ⟨Int.tmod_nonneg _ hz1.1, Int.tmod_lt_of_pos _ (by omega)⟩
  obtain ⟨m, hm⟩ : ∃ m : Nat, 2 + u0 = (m : Int) := ⟨(2 + u0).toNat, by omega⟩
  obtain ⟨n, hn⟩ : ∃ n : Nat, 8 + u1 = (n : Int) := ⟨(8 + u1).toNat, by omega⟩
  have k4 : IntKind.i64.wrap z0 = z0 := IntWalk.i64_in _ (by omega)
  have k5 : IntKind.i64.wrap z1 = z1 := IntWalk.i64_in _ (by omega)
  have k6 : IntKind.i64.wrap u0 = u0 := IntWalk.i64_in _ (by omega)
  have k7 : IntKind.i64.wrap u1 = u1 := IntWalk.i64_in _ (by omega)
  have k8 : IntKind.i64.wrap (m : Int) = (m : Int) := IntWalk.i64_in _ (by omega)
  have k9 : IntKind.i64.wrap (n : Int) = (n : Int) := IntWalk.i64_in _ (by omega)
  have hm2 : 2 ≤ m ∧ m ≤ 5 := by omega
  have hn2 : 8 ≤ n ∧ n ≤ 13 := by omega
  have HE := Lib.hid (fun W (hW : Below w.heap.size w W) => wrapped_any W (hL.below hW))
  have HNw : Hid (∀ W, Below w.heap.size w W → Calls Tryz.prog 9 #[.int .i64 (m : Int), .int .i64 (n : Int)] W fun e w' => ∃ B G, e = .returned (.tuple #[.pointer (some ⟨B, 0, none⟩), .int .i64 0]) ∧ TmS w w' B G (m * n) (m * n) (newT m n) ∧ Below W.heap.size W w' ∧ W.heap.size ≤ B ∧ W.heap.size ≤ G) := fun W hW => tnew_any m n W (by omega) (by omega) (hL.below hW).fr hW
  have HNr : Hid (∀ W, Below w.heap.size w W → Calls Tryz.prog 10 #[.int .i64 (m : Int), .int .i64 (n : Int)] W fun e w' => ∃ B G c, e = .returned (.tuple #[.pointer (some ⟨B, 0, none⟩), .int .i64 0]) ∧ RtS w w' B G (m * n) c ⟨#[]⟩ (newT m n) ∧ Below W.heap.size W w' ∧ W.heap.size ≤ B ∧ W.heap.size ≤ G) := fun W hW => rtnew_any m n W (by omega) (by omega) hW
  have hTk := newT_ok m n (by omega) (by omega)
  have HWt : Hid (∀ W B G, TmS w W B G (m * n) (m * n) (newT m n) → Calls Tryz.prog 11 #[.pointer (some ⟨B, 0, none⟩), .string s] W (TmD w W B G (m * n) (m * n) (writeT (newT m n) s.data.toList))) := fun W B G hS => twrite_any s W hS hTk hL (by omega)
  have HWr : Hid (∀ W B G c, RtS w W B G (m * n) c ⟨#[]⟩ (newT m n) → Calls Tryz.prog 12 #[.pointer (some ⟨B, 0, none⟩), .string s] W fun e w' => e = .returned (.tuple #[]) ∧ Hid (WkI w W w' B G (m * n) 9000 (writeT (newT m n) s.data.toList))) := fun W B G c hS => rtwrite_any s W hS hTk (show RelT Ps.zero ⟨#[]⟩ from rfl) (by rw [show (⟨#[]⟩ : ByteArray).size = 0 from rfl]; omega)
  have hft : OkF (writeT (newT m n) s.data.toList).f m n := (write_ok hTk _).fr
  have hlen : (writeT (newT m n) s.data.toList).f.cells.length ≤ 1000000 := Nat.le_trans hft.room (by omega)
  obtain ⟨T0, hT0⟩ : ∃ T, newT (m : Int) (n : Int) = T := ⟨_, rfl⟩
  rw [hT0] at HNw HNr HWt HWr hft hlen
  obtain ⟨F, hF⟩ : ∃ T, writeT T0 s.data.toList = T := ⟨_, rfl⟩
  rw [hF] at HWt HWr hft hlen
  have HFt : Hid (∀ W B G, TmS w W B G (m * n) (m * n) F → Calls Tryz.prog 14 #[.pointer (some ⟨B, 0, none⟩)] W fun e w' => ∃ v', e = .returned v' ∧ FrameW AnyB w' v' F.f ∧ Below W.heap.size W w') := fun W B G hS => tframe_any W hS hft
  have HSm : Hid (∀ W x y, FrameW AnyB W x F.f → FrameW AnyB W y F.f → Calls Tryz.prog 13 #[x, y] W fun e w' => e = .returned (.bool true) ∧ Below W.heap.size W w') := fun W x y h1 h2 => by
    have := rsame_any W h1 h2 hlen
    rwa [sameB_self] at this
  obtain ⟨P, hP⟩ : ∃ P, m * n = P := ⟨_, rfl⟩
  rw [hP] at HNw HNr HWt HWr HFt
  have HB : Hid (∀ W1, w.alloc (.cells #[.int .u8 z0, .int .u8 z1] 22) = W1 → Below w.heap.size w W1 ∧ W1.cell? ⟨w.heap.size, 0, none⟩ = some (.int .u8 z0) ∧ W1.cell? ⟨w.heap.size, 1, none⟩ = some (.int .u8 z1)) := fun W1 h1 => by
    rw [← h1]
    refine ⟨(Below.refl _ _).alloc (Nat.le_refl _) _, ?_, ?_⟩
    · rw [cell_of_row _ _ _ _ _ _ (heap_alloc_new w _)]; rfl
    · rw [cell_of_row _ _ _ _ _ _ (heap_alloc_new w _)]; rfl
  obtain ⟨hz00, hz01⟩ := hz0
  obtain ⟨hz10, hz11⟩ := hz1
  clear hL hs hTk hft hlen hT0 hF hP q0 q1 hm2 hn2
  go_enter Tryz.func3, Tryz.ntmps3
  go_wp2_with fail
  obtain ⟨W1, hW1⟩ : ∃ W1, w.alloc (.cells #[.int .u8 z0, .int .u8 z1] 22) = W1 := ⟨_, rfl⟩
  obtain ⟨hb1, x0, x1⟩ := HB.out W1 hW1
  have hx1 : W1.heap.size = w.heap.size + 1 := by rw [← hW1, World.size_alloc]
  try rw [hW1]
  have HX : Hid (∀ V, Below W1.heap.size W1 V → V.cell? ⟨w.heap.size, 0, none⟩ = some (.int .u8 z0) ∧ V.cell? ⟨w.heap.size, 1, none⟩ = some (.int .u8 z1)) := fun V hV =>
    ⟨by rw [hV.cell (p := ⟨w.heap.size, 0, none⟩) (show w.heap.size < W1.heap.size by omega)]; exact x0, by rw [hV.cell (p := ⟨w.heap.size, 1, none⟩) (show w.heap.size < W1.heap.size by omega)]; exact x1⟩
  have HB1 := Lib.hid hb1
  clear hW1 hb1 HB
  go_wp2_with fail
  go_fit (HNw.out _ HB1.out)
  rintro e w3 ⟨B, G, rfl, hS3, hb3, hB3, hG3⟩
  obtain ⟨y0, y1⟩ := HX.out _ hb3
  have hb03 := HB1.out.trans (hb3.mono HB1.out.size)
  have HS3 := Lib.hid hS3
  clear hS3 hb3 x0 x1 HX hx1
  go_wp2_with fail
  go_fit (HNr.out _ hb03)
  rintro e w4 ⟨B2, G2, c2, rfl, hS4, hb4, hB4, hG4⟩
  have l1 := HS3.out.box.lt
  have l2 := HS3.out.gt
  have HT4 := Lib.hid (HS3.out.next hb4)
  have HU4 := Lib.hid hS4
  have hne : NotBG B G B2 ∧ NotBG B G G2 := by show (_ ∧ _) ∧ (_ ∧ _); omega
  have hne2 : NotBG B2 G2 B ∧ NotBG B2 G2 G := by show (_ ∧ _) ∧ (_ ∧ _); omega
  have h0a : ∀ k, k < w.heap.size → NotBG B G k := fun k hk => by have a := HS3.out.hB; have b := HS3.out.hG; show _ ∧ _; omega
  have h0b : ∀ k, k < w.heap.size → NotBG B2 G2 k := fun k hk => by have a := hS4.hB; have b := hS4.hG; show _ ∧ _; omega
  have HNE := Lib.hid (And.intro hne (And.intro hne2 (And.intro h0a h0b)))
  clear hS4 hb4 hb03 HS3 hne hne2 h0a h0b hB3 hG3 hB4 hG4 l1 l2 y0 y1 k4 k5 k6 k7 k8 k9 hu0 hu1 hm hn HNw HNr
  go_wp2_with fail
  go_fit (HWt.out _ _ _ HT4.out)
  rintro e w5 ⟨rfl, hT5, hK5⟩
  have HT5 := Lib.hid hT5
  have HU5 := Lib.hid (HU4.out.keep hK5 HNE.out.2.2.1 HNE.out.1.1 HNE.out.1.2)
  clear hT5 hK5 HT4 HU4
  go_wp2_with fail
  go_fit (HWr.out _ _ _ _ HU5.out)
  rintro e w6 ⟨rfl, ⟨G3, c3, T3, hG3, hU6, hK6, -, -⟩⟩
  have hT6 := HT5.out.keep hK6 HNE.out.2.2.2 HNE.out.2.1.1 HNE.out.2.1.2
  have HBW := Lib.hid hT6.below
  have LF : Hid (∀ V, Below w6.heap.size w6 V → Calls Tryz.prog 14 #[.pointer (some ⟨B, 0, none⟩)] V fun e w' => ∃ v', e = .returned v' ∧ FrameW AnyB w' v' F.f ∧ Below w6.heap.size w6 w') := fun V hV => (HFt.out V B G (hT6.next hV)).mono fun e w' ⟨u, k1, k2, k3⟩ => ⟨u, k1, k2, hV.trans (k3.mono hV.size)⟩
  have LS : Hid (∀ V x, Below w6.heap.size w6 V → FrameW AnyB V x F.f → Calls Tryz.prog 13 #[x, .agg #[.int .i64 F.f.rows, .int .i64 F.f.cols, .slice (some ⟨G3, 0, none⟩) P c3, .int .i64 F.f.row, .int .i64 F.f.col]] V fun e w' => e = .returned (.bool true) ∧ Below w6.heap.size w6 w') := fun V x hV hx => (HSm.out V x _ hx (hU6.next hV).frame).mono fun e w' ⟨k1, k3⟩ => ⟨k1, hV.trans (k3.mono hV.size)⟩
  have LB : Hid (∀ V, Below w6.heap.size w6 V → Calls Tryz.prog 15 #[.pointer (some ⟨B, 0, none⟩)] V fun e w' => e = .returned (.int .i64 F.bells) ∧ Below w6.heap.size w6 w') := fun V hV => (tbells_any V (hT6.next hV)).mono fun e w' ⟨k1, k3⟩ => ⟨k1, k3 ▸ hV⟩
  have LW : Hid (∀ V, Below w6.heap.size w6 V → Calls Tryz.prog 8 #[] V fun e w' => e = .returned (.bool true) ∧ Below w6.heap.size w6 w') := fun V hV => (HE.out V (HBW.out.trans (hV.mono HBW.out.size))).mono fun e w' ⟨k1, k3⟩ => ⟨k1, hV.trans (k3.mono hV.size)⟩
  have HC : Hid (∀ V, Below w6.heap.size w6 V → (V.cell? ⟨B2, 0, none⟩ = some (.int .i64 F.f.rows) ∧ V.cell? ⟨B2, 1, none⟩ = some (.int .i64 F.f.cols) ∧ V.cell? ⟨B2, 2, none⟩ = some (.slice (some ⟨G3, 0, none⟩) P c3) ∧ V.cell? ⟨B2, 3, none⟩ = some (.int .i64 F.f.row) ∧ V.cell? ⟨B2, 4, none⟩ = some (.int .i64 F.f.col)) ∧ V.cell? ⟨B2, 11, none⟩ = some (.int .i64 F.bells)) := fun V hV => ⟨(hU6.next hV).box.cells.1, (hU6.next hV).box.cells.2.1.2.2⟩
  have kk : Below w6.heap.size w6 w6 := Below.refl _ _
  have k0 : Below w6.heap.size w6 w6.drew := blw_drewS kk
  clear HE HFt HSm HWt HWr hG3 hU6 hK6 hT6 HT5 HU5 HNE
  go_wp2_with fail
  go_region_held3 (fun V => (V.cell? ⟨B2, 0, none⟩ = some (.int .i64 F.f.rows) ∧ V.cell? ⟨B2, 1, none⟩ = some (.int .i64 F.f.cols) ∧ V.cell? ⟨B2, 2, none⟩ = some (.slice (some ⟨G3, 0, none⟩) P c3) ∧ V.cell? ⟨B2, 3, none⟩ = some (.int .i64 F.f.row) ∧ V.cell? ⟨B2, 4, none⟩ = some (.int .i64 F.f.col)) ∧ V.cell? ⟨B2, 11, none⟩ = some (.int .i64 F.bells))
    (first | with_reducible exact HC.out _ kk | with_reducible exact HC.out _ k0)
    (first
      | (go_at_call 14; go_fit (LF.out _ ?_); (first | with_reducible exact kk | with_reducible exact k0); rintro e vv ⟨uu, rfl, hu, kk⟩)
      | (go_at_call 13; go_fit (LS.out _ _ ?_ ?_); (first | with_reducible exact kk | with_reducible exact k0); (with_reducible exact hu); rintro e vv ⟨rfl, kk⟩)
      | (go_at_call 15; go_fit (LB.out _ ?_); (first | with_reducible exact kk | with_reducible exact k0); rintro e vv ⟨rfl, kk⟩)
      | (go_at_call 8; go_fit (LW.out _ ?_); (first | with_reducible exact kk | with_reducible exact k0); rintro e vv ⟨rfl, kk⟩))
  all_goals
    have HKK := Lib.hid (HBW.out.trans (kk.mono HBW.out.size))
    clear HC LF LS LB LW
    go_wp2
    go_ret
    exact ⟨rfl, HKK.out⟩
theorem termSmall_any (s : ByteArray) (z0 z1 : Int) (w : World) (hL : LaidT w) (hz0 : 0 ≤ z0 ∧ z0 ≤ 255) (hz1 : 0 ≤ z1 ∧ z1 ≤ 255) :
    Calls Tryz.prog 3 #[.string s, .agg #[.int .u8 z0, .int .u8 z1]] w fun e w' => e = .returned (.bool true) ∧ Below w.heap.size w w' := by
  by_cases h : 1500 < s.size
  · exact termSmall_far s z0 z1 w hL h
  · exact termSmall_near s z0 z1 w hL hz0 hz1 (by omega)
end Go.Proofs.YtpkjaallhhjleaaGreatDoor
