/-
  Texts of this proof, one behind the other; each begins with its own remark.
-/
import Derived.Deep.DeepFit
import Derived.Deep.Cut
import Derived.Test.YtpkjaallhhjleaaGreatDoorBe27
/-
  grids.Put: what it returns, and lays, where the rune is put in.
-/
namespace Go.Proofs.YtpkjaallhhjleaaGreatDoor
open Go.RowKit

section
variable {ok : Nat → Prop} {g0 o0 N cap : Nat} {f : Frm} {m n : Nat}

set_option maxRecDepth 100000 in
set_option maxHeartbeats 1000000 in
theorem put_one (row col : Nat) (r : Int) (s : Sty) (w : World) (hf : OkF f m n) (hN : N = f.cells.length) (hcap : N ≤ cap) (hS : CelsW ok w (.slice (some ⟨g0, o0, none⟩) N cap) f.cells) (hL : LaidW w) (hcan : canB f (row : Int) (col : Int) r s = true) (hd2 : ofN r ≠ 2) :
    Calls Tryz.prog 117 #[.agg #[.int .i64 f.rows, .int .i64 f.cols, .slice (some ⟨g0, o0, none⟩) N cap, .int .i64 f.row, .int .i64 f.col], .int .i64 (row : Int), .int .i64 (col : Int), .int .i32 r, .agg #[.int .i64 s.1, .bool s.2.1, .bool s.2.2.1, .bool s.2.2.2]] w fun e w' => ∃ v', e = .returned v' ∧ FrameW AnyB w' v' (layF f (row : Int) (col : Int) r s) ∧ Below w.heap.size w w' := by
  obtain ⟨HV, HC, HO, HW, HY⟩ := put_calls (row : Int) (col : Int) r s w hf hN hcap hS hL
  obtain ⟨c1, ⟨c2, c3, c4, c5⟩, c6, c7⟩ := (canB_iff _ _ _ _ _).1 hcan
  have hd12 := of_two c1
  have hrl := hf.rows
  have hcl := hf.cols
  have hm2 := hf.hm
  have hn2 := hf.hn
  rw [(withinB_iff _ _ _ _).2 ⟨c2, c3, c4, c5⟩] at HW
  rw [c7] at HY
  have hkm : row < m := by omega
  have hlm : f.cells.length = m * n := hf.len
  have hRl := rowK_len hlm hkm
  have hRok := hf.each row hkm
  have hlay : layF f (row : Int) (col : Int) r s = { f with cells := setK f.cells n row (putL (rowK f.cells n row) col r (ofN r) s) } := by
    unfold layF
    rw [hf.nat.2, Int.toNat_natCast, Int.toNat_natCast]
  rw [hlay]
  obtain ⟨R, hR⟩ : ∃ R, rowK f.cells n row = R := ⟨_, rfl⟩
  have hself : setK f.cells n row R = f.cells := by rw [← hR]; exact setK_self _ _ _
  rw [hR] at hRl hRok ⊢
  obtain ⟨d, hd⟩ : ∃ d, ofN r = d := ⟨_, rfl⟩
  rw [hd] at HO hd12 c6 hd2 ⊢
  obtain ⟨a, ha⟩ : ∃ a, row * n = a := ⟨_, rfl⟩
  have hroom := row_room (n := n) hkm
  rw [ha] at hroom
  have hRow : Hid (∀ (g c : Nat) W, N ≤ c → Calls Tryz.prog 73 #[.agg #[.int .i64 f.rows, .int .i64 f.cols, .slice (some ⟨g, 0, none⟩) N c, .int .i64 f.row, .int .i64 f.col], .int .i64 (row : Int)] W fun e w' => e = .returned (.slice (some ⟨g, a * 6, none⟩) n (c - a)) ∧ Below W.heap.size W w') := fun g c W hc => by
    have := rowOf_any (g := g) (o := 0) m n row f.row f.col W (hN.trans hlm) hc hn2 hm2.2 hkm
    rw [← hrl, ← hcl, ha, Nat.zero_add] at this
    exact this
  -- the row's two partings, and what is laid
  have e1 := partW_setK (j := col) hlm hkm hRl (fun x hx => hRok.first hx)
  rw [ha, hself] at e1
  have hR1 : (partL R col).length = n := by rw [part_len]; exact hRl
  obtain ⟨z, hz⟩ : ∃ z, col + d = z := ⟨_, rfl⟩
  have e2 := partW_setK (j := z) hlm hkm hR1 (part_first hRok col)
  rw [ha] at e2
  have hR2 : (partL (partL R col) z).length = n := by rw [part_len]; exact hR1
  have e3 := lay_setK (col := col) r d s hlm hkm hR2 hd12 (by omega)
  rw [ha] at e3
  have hput : putL R col r d s = layL (partL (partL R col) z) col r d s := by unfold putL; rw [hz]
  rw [hput, e3, if_neg hd2]
  have hl1 : (setK f.cells n row (partL R col)).length = m * n := setK_len _ hlm hkm hR1
  have hl2 : (setK f.cells n row (partL (partL R col) z)).length = m * n := setK_len _ hlm hkm hR2
  have hfst1 : ∀ c, f.cells[a]? = some c → c.2.1 ≠ 0 := fun c hc => by
    have h := setK_at (j := 0) hlm hkm hRl (by omega)
    rw [ha, hself, Nat.add_zero] at h
    rw [h] at hc
    exact hRok.first hc
  have hfst2 : ∀ c, (setK f.cells n row (partL R col))[a]? = some c → c.2.1 ≠ 0 := fun c hc => by
    have h := setK_at (j := 0) hlm hkm hR1 (by omega)
    rw [ha, Nat.add_zero] at h
    rw [h] at hc
    exact part_first hRok col c hc
  obtain ⟨L1, hL1⟩ : ∃ L1, setK f.cells n row (partL R col) = L1 := ⟨_, rfl⟩
  obtain ⟨L2, hL2⟩ : ∃ L2, setK f.cells n row (partL (partL R col) z) = L2 := ⟨_, rfl⟩
  rw [hL1] at e1 e2 hl1 hfst2
  rw [hL2] at e2 hl2 ⊢
  have hfl : f.cells.length = N := hN.symm
  have hN1 : L1.length = N := by rw [hl1, hN, hlm]
  have hN2 : L2.length = N := by rw [hl2, hN, hlm]
  have HP1 : Hid (∀ g c zs W, PutS w W f s N g c f.cells zs → Calls Tryz.prog 126 #[.slice (some ⟨g, a * 6, none⟩) n (c - a), .int .i64 (col : Int)] W fun e w' => e = .returned (.tuple #[]) ∧ PutS w w' f s N g c L1 zs) := fun g c zs W P => by
    refine (part_any (cap := c - a) col W P.blk (hL.below P.below).2 (by have := P.own; have := hL.2.1; omega) (by rw [hfl, hN, hlm]; exact hroom) (by omega) (by omega) hfst1).mono fun e w' ⟨k1, k2, k3⟩ => ⟨k1, ?_⟩
    rw [e1] at k2
    exact P.turn k3 k2 hN1
  have HP2 : Hid (∀ g c zs W, PutS w W f s N g c L1 zs → Calls Tryz.prog 126 #[.slice (some ⟨g, a * 6, none⟩) n (c - a), .int .i64 (z : Int)] W fun e w' => e = .returned (.tuple #[]) ∧ PutS w w' f s N g c L2 zs) := fun g c zs W P => by
    refine (part_any (cap := c - a) z W P.blk (hL.below P.below).2 (by have := P.own; have := hL.2.1; omega) (by rw [hl1]; exact hroom) (by omega) (by omega) hfst2).mono fun e w' ⟨k1, k2, k3⟩ => ⟨k1, ?_⟩
    rw [e2] at k2
    exact P.turn k3 k2 hN2
  have HPO := Lib.hid (fun W2 W3 g c zs hc h2 h3 hg hb => put_own (w := w) (f := f) (s := s) (g0 := g0) (o0 := o0) (cap := cap) (zs := zs) (g := g) (c := c) (W2 := W2) (W3 := W3) hN hc h2 h3 hg hb)
  have H0 := Lib.hid (put0_is w f s (some ⟨g0, o0, none⟩) N cap).2.1
  have H0f := Lib.hid (put0_is w f s (some ⟨g0, o0, none⟩) N cap).2.2.1
  unfold put0 at HPO H0 H0f
  have b0 : ((d : Int) == 0) = false := by rw [beq_eq_false_iff_ne]; omega
  have b2 : ((d : Int) == 2) = false := by rw [beq_eq_false_iff_ne]; omega
  have k1 : f.cols ≤ 200 := by omega
  have k2 : (0 : Int) ≤ (col : Int) := by omega
  have k3 : (col : Int) < 200 := by omega
  have k4 : (d : Int) ≤ 2 := by omega
  have k5 : (0 : Int) ≤ (d : Int) := by omega
  have k6 : (col : Int) + (d : Int) = (z : Int) := by omega
  have k7 : (z : Int) ≤ f.cols := by omega
  have k8 : (col : Int) < (n : Int) := by omega
  have han : a + n ≤ N := by rw [hN, hlm]; exact hroom
  have HZ := Lib.hid hz
  have HD12 := Lib.hid hd12
  have HD2 := Lib.hid hd2
  have hcn : col + d ≤ n := by omega
  clear hS hL hN hcap hd hf hcan c1 c2 c3 c4 c5 c6 c7 hrl hcl hlm hRl hRok hlay hR hself e1 e2 e3 hR1 hR2 hput hl1 hl2 hfst1 hfst2 hL1 hL2 hz hd12 hd2 hfl hN1 hroom ha hkm
  go_enter Tryz.func117, Tryz.ntmps117
  go_wp2_with fail
  go_fit (HV.out _ H0.out)
  rintro e w2 ⟨rfl, hb2⟩
  obtain ⟨⟨x0, x1, x2, x3, x4⟩, _⟩ := (H0f.out.below hb2 H0f.out.lt).cells
  go_wp2_with fail
  go_fit (HC.out _ (H0.out.trans (hb2.mono H0.out.size)))
  rintro e w3 ⟨g, c, rfl, hc, ⟨zs, hg, hbk⟩, hb3⟩
  obtain ⟨P4, z2, f2, hlt⟩ := HPO.out w2 w3 g c zs hc hb2 hb3 hg hbk
  have HP4 := Lib.hid P4
  clear P4 HV HC HPO H0 H0f hb2 hb3 hbk x0 x1 x2 x3 x4
  go_wp2_with fail
  go_fit (HO.out _ HP4.out.below)
  rintro e w5 ⟨rfl, hb5⟩
  have HP5 := Lib.hid (HP4.out.next hb5)
  obtain ⟨⟨x0, x1, x2, x3, x4⟩, _⟩ := HP5.out.fr.cells
  clear HO hb5 z2 f2 hlt HP4
  go_wp2_with fail
  go_fit (HW.out g c _)
  rintro e w6 ⟨rfl, hb6⟩
  have HP6 := Lib.hid (HP5.out.next hb6)
  obtain ⟨⟨x0, x1, x2, x3, x4⟩, _⟩ := HP6.out.fr.cells
  clear HW hb6 HP5
  obtain ⟨t0, t1, t2, t3⟩ := HP6.out.styc
  go_wp2_with fail
  go_fit (HY.out _)
  rintro e w7 ⟨rfl, hb7⟩
  have HP7 := Lib.hid (HP6.out.next hb7)
  obtain ⟨⟨x0, x1, x2, x3, x4⟩, _⟩ := HP7.out.fr.cells
  clear HY hb7 HP6 t0 t1 t2 t3
  go_wp2_with fail
  go_fit (hRow.out g c _ hc)
  rintro e w8 ⟨rfl, hb8⟩
  have HP8 := Lib.hid (HP7.out.next hb8)
  clear hRow hb8 HP7 x0 x1 x2 x3 x4
  go_wp2_with fail
  go_fit (HP1.out g c zs _ HP8.out)
  rintro e w9 ⟨rfl, P9⟩
  have HP9 := Lib.hid P9
  clear HP1 HP8 P9
  go_wp2_with fail
  go_fit (HP2.out g c zs _ HP9.out)
  rintro e w10 ⟨rfl, P10⟩
  obtain ⟨t0, t1, t2, t3⟩ := P10.styc
  obtain ⟨q, hq⟩ : ∃ q, L2[a + col]? = some q := ⟨_, List.getElem?_eq_getElem (by rw [hN2]; omega)⟩
  obtain ⟨e0, e1, e2, e3, e4, e5⟩ := P10.blk.cells hq
  have hfz := P10.blk.frozen
  rw [Nat.add_mul] at e0 e1 e2 e3 e4 e5
  have f0 := hfz (a * 6 + col * 6)
  have f1 := hfz (a * 6 + col * 6 + 1)
  have f2 := hfz (a * 6 + col * 6 + 2)
  have f3 := hfz (a * 6 + col * 6 + 3)
  have f4 := hfz (a * 6 + col * 6 + 4)
  have f5 := hfz (a * 6 + col * 6 + 5)
  have hlt := P10.blk.lt
  have P11 : PutS w (set6 w10 g ((a + col) * 6) (r, (d : Int), s)) f s N g c (L2.set (a + col) (r, (d : Int), s)) zs :=
    P10.turn (set6_keep _ _ _ _ fun k => k rfl) (P10.blk.set (a + col) _ (by rw [hN2]; omega)) (by rw [List.length_set]; exact hN2)
  have HP11 := Lib.hid P11
  unfold set6 at HP11
  rw [Nat.add_mul] at HP11
  clear HP2 HP9 hfz P11 hq P10
  go_upto_if 65 with (fail)
  obtain ⟨W11, hW11⟩ : ∃ W11, ((((((w10.setCell ⟨g, a * 6 + col * 6, none⟩ (.int .i32 r)).setCell ⟨g, a * 6 + col * 6 + 1, none⟩ (.int .i64 (d : Int))).setCell ⟨g, a * 6 + col * 6 + 2, none⟩ (.int .i64 s.1)).setCell ⟨g, a * 6 + col * 6 + 3, none⟩ (.bool s.2.1)).setCell ⟨g, a * 6 + col * 6 + 4, none⟩ (.bool s.2.2.1)).setCell ⟨g, a * 6 + col * 6 + 5, none⟩ (.bool s.2.2.2)) = W11 := ⟨_, rfl⟩
  have P11 : PutS w W11 f s N g c (L2.set (a + col) (r, (d : Int), s)) zs := by rw [← hW11]; exact HP11.out
  rw [hW11]
  clear hW11 HP11 e0 e1 e2 e3 e4 e5 f0 f1 f2 f3 f4 f5 t0 t1 t2 t3
  obtain ⟨⟨x0, x1, x2, x3, x4⟩, _⟩ := P11.fr.cells
  obtain ⟨⟨r0, r1, r2, r3, r4⟩, g0', g1, g2, g3, g4⟩ := P11.res.cells
  have HD := Lib.hid P11.done
  have hlt2 := P11.res.lt
  clear P11 HD12 HZ
  go_wp2
  obtain ⟨⟨y0, y1, y2, y3, y4⟩, _⟩ := HD.out.1.cells
  unfold set5 at y0 y1 y2 y3 y4
  exact bodyPost_ret (v := .agg #[.int .i64 f.rows, .int .i64 f.cols, .slice (some ⟨g, 0, none⟩) N c, .int .i64 f.row, .int .i64 f.col]) (by simp [results, Tryz.results117, go_sem, y0, y1, y2, y3, y4]) rfl ⟨_, rfl, HD.out.2.1, HD.out.2.2⟩
end
end Go.Proofs.YtpkjaallhhjleaaGreatDoor

/-
  grids.Put: what it returns, and lays, where a wide rune is put in.
-/
namespace Go.Proofs.YtpkjaallhhjleaaGreatDoor
open Go.RowKit

section
variable {ok : Nat → Prop} {g0 o0 N cap : Nat} {f : Frm} {m n : Nat}

set_option maxRecDepth 100000 in
set_option maxHeartbeats 1000000 in
theorem put_two (row col : Nat) (r : Int) (s : Sty) (w : World) (hf : OkF f m n) (hN : N = f.cells.length) (hcap : N ≤ cap) (hS : CelsW ok w (.slice (some ⟨g0, o0, none⟩) N cap) f.cells) (hL : LaidW w) (hcan : canB f (row : Int) (col : Int) r s = true) (hd2 : ofN r = 2) :
    Calls Tryz.prog 117 #[.agg #[.int .i64 f.rows, .int .i64 f.cols, .slice (some ⟨g0, o0, none⟩) N cap, .int .i64 f.row, .int .i64 f.col], .int .i64 (row : Int), .int .i64 (col : Int), .int .i32 r, .agg #[.int .i64 s.1, .bool s.2.1, .bool s.2.2.1, .bool s.2.2.2]] w fun e w' => ∃ v', e = .returned v' ∧ FrameW AnyB w' v' (layF f (row : Int) (col : Int) r s) ∧ Below w.heap.size w w' := by
  obtain ⟨HV, HC, HO, HW, HY⟩ := put_calls (row : Int) (col : Int) r s w hf hN hcap hS hL
  obtain ⟨c1, ⟨c2, c3, c4, c5⟩, c6, c7⟩ := (canB_iff _ _ _ _ _).1 hcan
  have hd12 := of_two c1
  have hrl := hf.rows
  have hcl := hf.cols
  have hm2 := hf.hm
  have hn2 := hf.hn
  rw [(withinB_iff _ _ _ _).2 ⟨c2, c3, c4, c5⟩] at HW
  rw [c7] at HY
  have hkm : row < m := by omega
  have hlm : f.cells.length = m * n := hf.len
  have hRl := rowK_len hlm hkm
  have hRok := hf.each row hkm
  have hlay : layF f (row : Int) (col : Int) r s = { f with cells := setK f.cells n row (putL (rowK f.cells n row) col r (ofN r) s) } := by
    unfold layF
    rw [hf.nat.2, Int.toNat_natCast, Int.toNat_natCast]
  rw [hlay]
  obtain ⟨R, hR⟩ : ∃ R, rowK f.cells n row = R := ⟨_, rfl⟩
  have hself : setK f.cells n row R = f.cells := by rw [← hR]; exact setK_self _ _ _
  rw [hR] at hRl hRok ⊢
  obtain ⟨d, hd⟩ : ∃ d, ofN r = d := ⟨_, rfl⟩
  rw [hd] at HO hd12 c6 hd2 ⊢
  obtain ⟨a, ha⟩ : ∃ a, row * n = a := ⟨_, rfl⟩
  have hroom := row_room (n := n) hkm
  rw [ha] at hroom
  have hRow : Hid (∀ (g c : Nat) W, N ≤ c → Calls Tryz.prog 73 #[.agg #[.int .i64 f.rows, .int .i64 f.cols, .slice (some ⟨g, 0, none⟩) N c, .int .i64 f.row, .int .i64 f.col], .int .i64 (row : Int)] W fun e w' => e = .returned (.slice (some ⟨g, a * 6, none⟩) n (c - a)) ∧ Below W.heap.size W w') := fun g c W hc => by
    have := rowOf_any (g := g) (o := 0) m n row f.row f.col W (hN.trans hlm) hc hn2 hm2.2 hkm
    rw [← hrl, ← hcl, ha, Nat.zero_add] at this
    exact this
  -- the row's two partings, and what is laid
  have e1 := partW_setK (j := col) hlm hkm hRl (fun x hx => hRok.first hx)
  rw [ha, hself] at e1
  have hR1 : (partL R col).length = n := by rw [part_len]; exact hRl
  obtain ⟨z, hz⟩ : ∃ z, col + d = z := ⟨_, rfl⟩
  have e2 := partW_setK (j := z) hlm hkm hR1 (part_first hRok col)
  rw [ha] at e2
  have hR2 : (partL (partL R col) z).length = n := by rw [part_len]; exact hR1
  have e3 := lay_setK (col := col) r d s hlm hkm hR2 hd12 (by omega)
  rw [ha] at e3
  have hput : putL R col r d s = layL (partL (partL R col) z) col r d s := by unfold putL; rw [hz]
  rw [hput, e3, if_pos hd2]
  obtain ⟨x, hx⟩ : ∃ x, col + 1 = x := ⟨_, rfl⟩
  rw [hx]
  have HX := Lib.hid hx
  have hl1 : (setK f.cells n row (partL R col)).length = m * n := setK_len _ hlm hkm hR1
  have hl2 : (setK f.cells n row (partL (partL R col) z)).length = m * n := setK_len _ hlm hkm hR2
  have hfst1 : ∀ c, f.cells[a]? = some c → c.2.1 ≠ 0 := fun c hc => by
    have h := setK_at (j := 0) hlm hkm hRl (by omega)
    rw [ha, hself, Nat.add_zero] at h
    rw [h] at hc
    exact hRok.first hc
  have hfst2 : ∀ c, (setK f.cells n row (partL R col))[a]? = some c → c.2.1 ≠ 0 := fun c hc => by
    have h := setK_at (j := 0) hlm hkm hR1 (by omega)
    rw [ha, Nat.add_zero] at h
    rw [h] at hc
    exact part_first hRok col c hc
  obtain ⟨L1, hL1⟩ : ∃ L1, setK f.cells n row (partL R col) = L1 := ⟨_, rfl⟩
  obtain ⟨L2, hL2⟩ : ∃ L2, setK f.cells n row (partL (partL R col) z) = L2 := ⟨_, rfl⟩
  rw [hL1] at e1 e2 hl1 hfst2
  rw [hL2] at e2 hl2 ⊢
  have hfl : f.cells.length = N := hN.symm
  have hN1 : L1.length = N := by rw [hl1, hN, hlm]
  have hN2 : L2.length = N := by rw [hl2, hN, hlm]
  have HP1 : Hid (∀ g c zs W, PutS w W f s N g c f.cells zs → Calls Tryz.prog 126 #[.slice (some ⟨g, a * 6, none⟩) n (c - a), .int .i64 (col : Int)] W fun e w' => e = .returned (.tuple #[]) ∧ PutS w w' f s N g c L1 zs) := fun g c zs W P => by
    refine (part_any (cap := c - a) col W P.blk (hL.below P.below).2 (by have := P.own; have := hL.2.1; omega) (by rw [hfl, hN, hlm]; exact hroom) (by omega) (by omega) hfst1).mono fun e w' ⟨k1, k2, k3⟩ => ⟨k1, ?_⟩
    rw [e1] at k2
    exact P.turn k3 k2 hN1
  have HP2 : Hid (∀ g c zs W, PutS w W f s N g c L1 zs → Calls Tryz.prog 126 #[.slice (some ⟨g, a * 6, none⟩) n (c - a), .int .i64 (z : Int)] W fun e w' => e = .returned (.tuple #[]) ∧ PutS w w' f s N g c L2 zs) := fun g c zs W P => by
    refine (part_any (cap := c - a) z W P.blk (hL.below P.below).2 (by have := P.own; have := hL.2.1; omega) (by rw [hl1]; exact hroom) (by omega) (by omega) hfst2).mono fun e w' ⟨k1, k2, k3⟩ => ⟨k1, ?_⟩
    rw [e2] at k2
    exact P.turn k3 k2 hN2
  have HPO := Lib.hid (fun W2 W3 g c zs hc h2 h3 hg hb => put_own (w := w) (f := f) (s := s) (g0 := g0) (o0 := o0) (cap := cap) (zs := zs) (g := g) (c := c) (W2 := W2) (W3 := W3) hN hc h2 h3 hg hb)
  have H0 := Lib.hid (put0_is w f s (some ⟨g0, o0, none⟩) N cap).2.1
  have H0f := Lib.hid (put0_is w f s (some ⟨g0, o0, none⟩) N cap).2.2.1
  unfold put0 at HPO H0 H0f
  have b0 : ((d : Int) == 0) = false := by rw [beq_eq_false_iff_ne]; omega
  have b2 : ((d : Int) == 2) = true := by rw [beq_iff_eq]; omega
  have k1 : f.cols ≤ 200 := by omega
  have k2 : (0 : Int) ≤ (col : Int) := by omega
  have k3 : (col : Int) < 200 := by omega
  have k4 : (d : Int) ≤ 2 := by omega
  have k5 : (0 : Int) ≤ (d : Int) := by omega
  have k6 : (col : Int) + (d : Int) = (z : Int) := by omega
  have k7 : (z : Int) ≤ f.cols := by omega
  have k8 : (col : Int) < (n : Int) := by omega
  have han : a + n ≤ N := by rw [hN, hlm]; exact hroom
  have HZ := Lib.hid hz
  have HD12 := Lib.hid hd12
  have HD2 := Lib.hid hd2
  have hcn : col + d ≤ n := by omega
  clear hS hL hN hcap hd hf hcan c1 c2 c3 c4 c5 c6 c7 hrl hcl hlm hRl hRok hlay hR hself e1 e2 e3 hR1 hR2 hput hl1 hl2 hfst1 hfst2 hL1 hL2 hz hd12 hd2 hx hfl hN1 hroom ha hkm
  go_enter Tryz.func117, Tryz.ntmps117
  go_wp2_with fail
  go_fit (HV.out _ H0.out)
  rintro e w2 ⟨rfl, hb2⟩
  obtain ⟨⟨x0, x1, x2, x3, x4⟩, _⟩ := (H0f.out.below hb2 H0f.out.lt).cells
  go_wp2_with fail
  go_fit (HC.out _ (H0.out.trans (hb2.mono H0.out.size)))
  rintro e w3 ⟨g, c, rfl, hc, ⟨zs, hg, hbk⟩, hb3⟩
  obtain ⟨P4, z2, f2, hlt⟩ := HPO.out w2 w3 g c zs hc hb2 hb3 hg hbk
  have HP4 := Lib.hid P4
  clear P4 HV HC HPO H0 H0f hb2 hb3 hbk x0 x1 x2 x3 x4
  go_wp2_with fail
  go_fit (HO.out _ HP4.out.below)
  rintro e w5 ⟨rfl, hb5⟩
  have HP5 := Lib.hid (HP4.out.next hb5)
  obtain ⟨⟨x0, x1, x2, x3, x4⟩, _⟩ := HP5.out.fr.cells
  clear HO hb5 z2 f2 hlt HP4
  go_wp2_with fail
  go_fit (HW.out g c _)
  rintro e w6 ⟨rfl, hb6⟩
  have HP6 := Lib.hid (HP5.out.next hb6)
  obtain ⟨⟨x0, x1, x2, x3, x4⟩, _⟩ := HP6.out.fr.cells
  clear HW hb6 HP5
  obtain ⟨t0, t1, t2, t3⟩ := HP6.out.styc
  go_wp2_with fail
  go_fit (HY.out _)
  rintro e w7 ⟨rfl, hb7⟩
  have HP7 := Lib.hid (HP6.out.next hb7)
  obtain ⟨⟨x0, x1, x2, x3, x4⟩, _⟩ := HP7.out.fr.cells
  clear HY hb7 HP6 t0 t1 t2 t3
  go_wp2_with fail
  go_fit (hRow.out g c _ hc)
  rintro e w8 ⟨rfl, hb8⟩
  have HP8 := Lib.hid (HP7.out.next hb8)
  clear hRow hb8 HP7 x0 x1 x2 x3 x4
  go_wp2_with fail
  go_fit (HP1.out g c zs _ HP8.out)
  rintro e w9 ⟨rfl, P9⟩
  have HP9 := Lib.hid P9
  clear HP1 HP8 P9
  go_wp2_with fail
  go_fit (HP2.out g c zs _ HP9.out)
  rintro e w10 ⟨rfl, P10⟩
  obtain ⟨t0, t1, t2, t3⟩ := P10.styc
  obtain ⟨q, hq⟩ : ∃ q, L2[a + col]? = some q := ⟨_, List.getElem?_eq_getElem (by rw [hN2]; omega)⟩
  obtain ⟨e0, e1, e2, e3, e4, e5⟩ := P10.blk.cells hq
  have hfz := P10.blk.frozen
  rw [Nat.add_mul] at e0 e1 e2 e3 e4 e5
  have f0 := hfz (a * 6 + col * 6)
  have f1 := hfz (a * 6 + col * 6 + 1)
  have f2 := hfz (a * 6 + col * 6 + 2)
  have f3 := hfz (a * 6 + col * 6 + 3)
  have f4 := hfz (a * 6 + col * 6 + 4)
  have f5 := hfz (a * 6 + col * 6 + 5)
  have hlt := P10.blk.lt
  have P11 : PutS w (set6 w10 g ((a + col) * 6) (r, (d : Int), s)) f s N g c (L2.set (a + col) (r, (d : Int), s)) zs :=
    P10.turn (set6_keep _ _ _ _ fun k => k rfl) (P10.blk.set (a + col) _ (by rw [hN2]; omega)) (by rw [List.length_set]; exact hN2)
  have HP11 := Lib.hid P11
  unfold set6 at HP11
  rw [Nat.add_mul] at HP11
  clear HP2 HP9 hfz P11 hq P10
  go_upto_if 65 with (fail)
  obtain ⟨W11, hW11⟩ : ∃ W11, ((((((w10.setCell ⟨g, a * 6 + col * 6, none⟩ (.int .i32 r)).setCell ⟨g, a * 6 + col * 6 + 1, none⟩ (.int .i64 (d : Int))).setCell ⟨g, a * 6 + col * 6 + 2, none⟩ (.int .i64 s.1)).setCell ⟨g, a * 6 + col * 6 + 3, none⟩ (.bool s.2.1)).setCell ⟨g, a * 6 + col * 6 + 4, none⟩ (.bool s.2.2.1)).setCell ⟨g, a * 6 + col * 6 + 5, none⟩ (.bool s.2.2.2)) = W11 := ⟨_, rfl⟩
  have P11 : PutS w W11 f s N g c (L2.set (a + col) (r, (d : Int), s)) zs := by rw [← hW11]; exact HP11.out
  rw [hW11]
  clear hW11 HP11 e0 e1 e2 e3 e4 e5 f0 f1 f2 f3 f4 f5 t0 t1 t2 t3
  have hx1 : (col : Int) + 1 = (x : Int) := by have := HX.out; omega
  have hx2 : (x : Int) < (n : Int) := by have := HD2.out; have := HX.out; omega
  have hxN : a + x < N := by have := HD2.out; have := HX.out; omega
  obtain ⟨q2, hq2⟩ : ∃ q2, (L2.set (a + col) (r, (d : Int), s))[a + x]? = some q2 := ⟨_, List.getElem?_eq_getElem (by rw [List.length_set, hN2]; exact hxN)⟩
  obtain ⟨j0, j1, j2, j3, j4, j5⟩ := P11.blk.cells hq2
  have hfz2 := P11.blk.frozen
  rw [Nat.add_mul] at j0 j1 j2 j3 j4 j5
  have l0 := hfz2 (a * 6 + x * 6)
  have l1 := hfz2 (a * 6 + x * 6 + 1)
  have l2 := hfz2 (a * 6 + x * 6 + 2)
  have l3 := hfz2 (a * 6 + x * 6 + 3)
  have l4 := hfz2 (a * 6 + x * 6 + 4)
  have l5 := hfz2 (a * 6 + x * 6 + 5)
  have hlt2 := P11.blk.lt
  obtain ⟨u0, u1, u2, u3⟩ := P11.styc
  have P12 := P11.turn (set6_keep _ g ((a + x) * 6) (halfC s) fun k => k rfl) (P11.blk.set (a + x) (halfC s) (by rw [List.length_set, hN2]; exact hxN)) (by rw [List.length_set, List.length_set]; exact hN2)
  unfold set6 at P12
  rw [Nat.add_mul] at P12
  have HP12 := Lib.hid P12
  clear P11 hfz2 P12 hq2 HD12 HZ hcn hN2 hxN HX
  go_upto_region 13 with (fail)
  obtain ⟨W12, hW12⟩ : ∃ W12, ((((((W11.setCell ⟨g, a * 6 + x * 6, none⟩ (.int .i32 0)).setCell ⟨g, a * 6 + x * 6 + 1, none⟩ (.int .i64 0)).setCell ⟨g, a * 6 + x * 6 + 2, none⟩ (.int .i64 s.1)).setCell ⟨g, a * 6 + x * 6 + 3, none⟩ (.bool s.2.1)).setCell ⟨g, a * 6 + x * 6 + 4, none⟩ (.bool s.2.2.1)).setCell ⟨g, a * 6 + x * 6 + 5, none⟩ (.bool s.2.2.2)) = W12 := ⟨_, rfl⟩
  have P13 : PutS w W12 f s N g c ((L2.set (a + col) (r, (d : Int), s)).set (a + x) (halfC s)) zs := by rw [← hW12]; exact HP12.out
  rw [hW12]
  clear hW12 HP12 j0 j1 j2 j3 j4 j5 l0 l1 l2 l3 l4 l5 u0 u1 u2 u3
  obtain ⟨⟨x0, x1, x2, x3, x4⟩, _⟩ := P13.fr.cells
  obtain ⟨⟨r0, r1, r2, r3, r4⟩, g0', g1, g2, g3, g4⟩ := P13.res.cells
  have HD := Lib.hid P13.done
  have hlt3 := P13.res.lt
  clear P13
  go_wp2
  obtain ⟨⟨y0, y1, y2, y3, y4⟩, _⟩ := HD.out.1.cells
  unfold set5 at y0 y1 y2 y3 y4
  exact bodyPost_ret (v := .agg #[.int .i64 f.rows, .int .i64 f.cols, .slice (some ⟨g, 0, none⟩) N c, .int .i64 f.row, .int .i64 f.col]) (by simp [results, Tryz.results117, go_sem, y0, y1, y2, y3, y4]) rfl ⟨_, rfl, HD.out.2.1, HD.out.2.2⟩
end
end Go.Proofs.YtpkjaallhhjleaaGreatDoor
