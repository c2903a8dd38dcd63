/-
  Texts of this proof, one behind the other; each begins with its own remark.
-/
import Derived.Deep.DeepFit
import Derived.Deep.Cut
import Derived.Test.YtpkjaallhhjleaaGreatDoorBe26
import Derived.Test.YtpkjaallhhjleaaGreatDoorBe14
/-
  limnerref06.Put: what it returns, and lays in a block of its own: the rune is put in.
-/
namespace Go.Proofs.YtpkjaallhhjleaaGreatDoor
open Go.RowKit

/-- The cells from the p-th on, so many of them laid blank. -/
def wipK (L : List Cel) (p i : Nat) : List Cel := if i = 0 then L else if i = 1 then L.set p blkC else (L.set p blkC).set (p + 1) blkC
theorem wip_len (L : List Cel) (p i : Nat) : (wipK L p i).length = L.length := by unfold wipK; split; rfl; split <;> simp
theorem wip_step (L : List Cel) (p : Nat) {i d : Nat} (hi : i < d) (hd : d = 1 ∨ d = 2) : (wipK L p i).set (p + i) blkC = wipK L p (i + 1) := by
  have : i = 0 ∨ i = 1 := by omega
  rcases this with rfl | rfl <;> rfl
theorem wip_setK {L R : List Cel} {m n k col d : Nat} (hl : L.length = m * n) (hk : k < m) (hR : R.length = n) (hd : d = 1 ∨ d = 2) (hc : col + d ≤ n) : wipK (setK L n k R) (k * n + col) d = setK L n k (wipeL R col d) := by
  rcases hd with rfl | rfl
  · show (setK L n k R).set (k * n + col) blkC = setK L n k (R.set col blkC)
    exact setK_set _ hl hk hR (by omega)
  · show ((setK L n k R).set (k * n + col) blkC).set (k * n + col + 1) blkC = setK L n k ((R.set col blkC).set (col + 1) blkC)
    rw [setK_set _ hl hk hR (by omega), Nat.add_assoc, setK_set _ hl hk (by rw [List.length_set]; exact hR) (by omega)]

section
variable {ok : Nat → Prop} {g0 o0 N cap : Nat} {f : Frm} {m n : Nat}

set_option maxRecDepth 100000 in
set_option maxHeartbeats 1000000 in
theorem rputR_one (row col : Nat) (r : Int) (s : Sty) (w : World) (hf : OkF f m n) (hN : N = f.cells.length) (hcap : N ≤ cap) (hS : CelsW ok w (.slice (some ⟨g0, o0, none⟩) N cap) f.cells) (hcan : canB f (row : Int) (col : Int) r s = true) (hd2 : ofN r ≠ 2) :
    Calls Tryz.prog 68 #[.agg #[.int .i64 f.rows, .int .i64 f.cols, .slice (some ⟨g0, o0, none⟩) N cap, .int .i64 f.row, .int .i64 f.col], .int .i64 (row : Int), .int .i64 (col : Int), .int .i32 r, .agg #[.int .i64 s.1, .bool s.2.1, .bool s.2.2.1, .bool s.2.2.2]] w fun e w' => ∃ v', e = .returned v' ∧ OwnR w.heap.size w' v' (layF f (row : Int) (col : Int) r s) ∧ Below w.heap.size w w' := by
  obtain ⟨HV, HC, HO, HY⟩ := rput_calls r s w hf hN hcap hS
  have HBk := Lib.hid (fun w => blank_any w)
  obtain ⟨c1, ⟨c2, c3, c4, c5⟩, c6, c7⟩ := (canB_iff _ _ _ _ _).1 hcan
  have hd12 := of_two c1
  have hrl := hf.rows
  have hcl := hf.cols
  have hm2 := hf.hm
  have hn2 := hf.hn
  rw [c7] at HY
  have hkm : row < m := by omega
  have hlm : f.cells.length = m * n := hf.len
  have hRl := rowK_len hlm hkm
  have hRok := hf.each row hkm
  have hlay : layF f (row : Int) (col : Int) r s = { f with cells := setK f.cells n row (putL (rowK f.cells n row) col r (ofN r) s) } := by
    unfold layF
    rw [hf.nat.2, Int.toNat_natCast, Int.toNat_natCast]
  rw [hlay]
  obtain ⟨R, hR⟩ : ∃ R, rowK f.cells n row = R := ⟨_, rfl⟩
  have hself : setK f.cells n row R = f.cells := by rw [← hR]; exact setK_self _ _ _
  rw [hR] at hRl hRok ⊢
  obtain ⟨d, hd⟩ : ∃ d, ofN r = d := ⟨_, rfl⟩
  rw [hd] at HO hd12 c6 hd2 ⊢
  obtain ⟨a, ha⟩ : ∃ a, row * n = a := ⟨_, rfl⟩
  have hroom := row_room (n := n) hkm
  have hle : m * n ≤ 20000 := Nat.mul_le_mul hm2.2 hn2.2
  have hmu : (row : Int) * f.cols = (a : Int) := by rw [hcl, ← ha, Int.natCast_mul]
  obtain ⟨b, hb⟩ : ∃ b, a + n = b := ⟨_, rfl⟩
  have hmv : ((row : Int) + 1) * f.cols = (b : Int) := by rw [Int.add_mul, hmu, hcl]; omega
  rw [ha] at hroom
  -- the row wiped, mended, and what is laid
  have hwl : (wipeL R col d).length = n := by rw [wipe_len]; exact hRl
  have ew := wip_setK (L := f.cells) (R := R) (k := row) (col := col) (d := d) hlm hkm hRl hd12 (by omega)
  rw [ha, hself] at ew
  have em := mend_setK hlm hkm hwl
  rw [ha] at em
  have hR2 : (mendL (wipeL R col d)).length = n := by rw [mend_len]; exact hwl
  have e3 := lay_setK (col := col) r d s hlm hkm hR2 hd12 (by omega)
  rw [ha] at e3
  have hput := put_ref hRok col r d s hd12 (by omega)
  rw [← hput, e3, if_neg hd2]
  have hl1 : (setK f.cells n row (wipeL R col d)).length = m * n := setK_len _ hlm hkm hwl
  have hl2 : (setK f.cells n row (mendL (wipeL R col d))).length = m * n := setK_len _ hlm hkm hR2
  obtain ⟨L1, hL1⟩ : ∃ L1, setK f.cells n row (wipeL R col d) = L1 := ⟨_, rfl⟩
  obtain ⟨L2, hL2⟩ : ∃ L2, setK f.cells n row (mendL (wipeL R col d)) = L2 := ⟨_, rfl⟩
  rw [hL1] at em hl1 ew
  rw [hL2] at em hl2 ⊢
  have hfl : f.cells.length = N := hN.symm
  have hN1 : L1.length = N := by rw [hl1, hN, hlm]
  have hN2 : L2.length = N := by rw [hl2, hN, hlm]
  have HP1 : Hid (∀ g c zs W, PutS w W f s N g c (wipK f.cells (a + col) d) zs → Calls Tryz.prog 104 #[.slice (some ⟨g, a * 6, none⟩) n (c - a)] W fun e w' => e = .returned (.tuple #[]) ∧ PutS w w' f s N g c L2 zs) := fun g c zs W P => by
    rw [ew] at P
    refine (mend_any (a := a) (n := n) (cap := c - a) W P.blk (by rw [hl1]; exact hroom) (by omega)).mono fun e w' ⟨k1, k2, k3⟩ => ⟨k1, ?_⟩
    rw [em] at k2
    exact P.turn k3 k2 hN2
  have HPO := Lib.hid (fun W2 W3 g c zs hc h2 h3 hg hb => rput_own (w := w) (f := f) (s := s) (g0 := g0) (o0 := o0) (cap := cap) (zs := zs) (g := g) (c := c) (W2 := W2) (W3 := W3) hN hc h2 h3 hg hb)
  have H0 := Lib.hid (put0_is w f s (some ⟨g0, o0, none⟩) N cap).2.1
  have H0f := Lib.hid (put0_is w f s (some ⟨g0, o0, none⟩) N cap).2.2.1
  unfold put0 at HPO H0 H0f
  have b0 : ((d : Int) == 0) = false := by rw [beq_eq_false_iff_ne]; omega
  have b2 : ((d : Int) == 2) = false := by rw [beq_eq_false_iff_ne]; omega
  have k1 : f.cols ≤ 200 := by omega
  have k2 : (0 : Int) ≤ (col : Int) := by omega
  have k3 : (col : Int) < 200 := by omega
  have k4 : (d : Int) ≤ 2 := by omega
  have k5 : (0 : Int) ≤ (d : Int) := by omega
  obtain ⟨z, hz⟩ : ∃ z, col + d = z := ⟨_, rfl⟩
  have k6 : (col : Int) + (d : Int) = (z : Int) := by omega
  have k7 : (z : Int) ≤ f.cols := by omega
  have k8 : (col : Int) < (n : Int) := by omega
  have k9 : (0 : Int) ≤ (row : Int) := by omega
  have k10 : (row : Int) < 100 := by omega
  have k11 : (0 : Int) ≤ f.cols := by omega
  have k12 : (0 : Int) ≤ (a : Int) := by omega
  have k13 : (a : Int) ≤ (b : Int) := by omega
  have k14 : (b : Int) ≤ (N : Int) := by omega
  have k15 : (N : Int) ≤ 20000 := by omega
  have han : a + n ≤ N := by rw [hN, hlm]; exact hroom
  have hba : b - a = n := by omega
  have HD12 := Lib.hid hd12
  have HD2 := Lib.hid hd2
  have hcn : col + d ≤ n := by omega
  clear hS hN hcap hd hf hcan c1 c2 c4 c6 c7 hlm hRl hRok hlay hR hself em ew e3 hwl hR2 hput hl1 hl2 hL1 hL2 hz hd12 hd2 hN1 hroom ha hkm hle hb hcl hrl
  go_enter Tryz.func68, Tryz.ntmps68
  go_wp2_with fail
  go_fit (HV.out _ H0.out)
  rintro e w2 ⟨rfl, hb2⟩
  obtain ⟨⟨x0, x1, x2, x3, x4⟩, _⟩ := (H0f.out.below hb2 H0f.out.lt).cells
  go_wp2_with fail
  go_fit (HC.out _ (H0.out.trans (hb2.mono H0.out.size)))
  rintro e w3 ⟨g, c, rfl, hc, ⟨zs, hg, hbk⟩, hb3⟩
  obtain ⟨P4, z2⟩ := HPO.out w2 w3 g c zs hc hb2 hb3 hg hbk
  obtain ⟨⟨v0, v1, v2, v3, v4⟩, f0, f1, f2, f3, f4⟩ := z2.cells
  have hlt := z2.lt
  have HP4 := Lib.hid P4
  unfold set5 at HP4
  clear P4 z2 HV HC HPO H0 H0f hb2 hb3 hbk x0 x1 x2 x3 x4
  go_wp2_with fail
  go_fit (HO.out _)
  rintro e w5 ⟨rfl, hb5⟩
  have HP5 := Lib.hid (HP4.out.next hb5)
  obtain ⟨⟨x0, x1, x2, x3, x4⟩, _⟩ := HP5.out.fr.cells
  obtain ⟨t0, t1, t2, t3⟩ := HP5.out.styc
  clear HO hb5 v0 v1 v2 v3 v4 f0 f1 f2 f3 f4 hlt HP4
  go_wp2_with fail
  go_fit (HY.out _)
  rintro e w7 ⟨rfl, hb7⟩
  have HP7 := Lib.hid (HP5.out.next hb7)
  obtain ⟨⟨x0, x1, x2, x3, x4⟩, _⟩ := HP7.out.fr.cells
  clear HY hb7 HP5 t0 t1 t2 t3
  have H0 : Hid (PutS w w7 f s N g c (wipK f.cells (a + col) 0) zs) := HP7
  clear HP7
  go_upto_region 8 with (fail)
  clear x0 x1 x2 x3 x4
  go_wp2
  go_loopw [13] (fun s13 wr => ∃ i : Nat, s13 = .int .i64 (i : Int) ∧ i ≤ d ∧ Hid (PutS w wr f s N g c (wipK f.cells (a + col) i) zs)) (fun s13 _ => d - (intOf s13).toNat)
  case atStart => exact ⟨0, rfl, Nat.zero_le _, H0⟩
  case round =>
    obtain ⟨i, rfl, hi, HI⟩ := hrel
    clear H0
    by_cases hlt2 : i < d
    · have j1 : (i : Int) < (d : Int) := by omega
      have j0 : (0 : Int) ≤ (i : Int) := by omega
      obtain ⟨y, hy⟩ : ∃ y, col + i = y := ⟨_, rfl⟩
      have j2 : (col : Int) + (i : Int) = (y : Int) := by omega
      have j3 : (y : Int) < (n : Int) := by omega
      have hyN : a + y < N := by omega
      have hst := wip_step f.cells (a + col) hlt2 HD12.out
      rw [Nat.add_assoc, hy] at hst
      have hlw : (wipK f.cells (a + col) i).length = N := by rw [wip_len]; exact hfl
      obtain ⟨x, hx⟩ : ∃ x, i + 1 = x := ⟨_, rfl⟩
      have hx1 : (i : Int) + 1 = (x : Int) := by omega
      have hxn : x ≤ d := by omega
      rw [hx] at hst
      obtain ⟨M, hM⟩ : ∃ M, wipK f.cells (a + col) i = M := ⟨_, rfl⟩
      rw [hM] at HI hst hlw
      have HST := Lib.hid hst
      have HX2 := Lib.hid hx
      have HS : Hid (∀ w2, Below wr.heap.size wr w2 → PutS w w2 f s N g c M zs ∧ PutS w (set6 w2 g ((a + y) * 6) blkC) f s N g c (M.set (a + y) blkC) zs) := fun w2 hb => by
        have h2 := HI.out.next hb
        exact ⟨h2, h2.turn (set6_keep _ _ _ _ fun k => k rfl) (h2.blk.set (a + y) blkC (by rw [hlw]; exact hyN)) (by rw [List.length_set]; exact hlw)⟩
      obtain ⟨q, hq⟩ : ∃ q, M[a + y]? = some q := ⟨_, List.getElem?_eq_getElem (by rw [hlw]; exact hyN)⟩
      have HQ := Lib.hid hq
      clear hq hst hlw hy hM hx hyN HP1 hfl hN2 han hcn hba HI
      go_wp2_with fail
      go_fit (HBk.out _)
      rintro e w8 ⟨rfl, hb8⟩
      obtain ⟨P8, P9⟩ := HS.out w8 hb8
      obtain ⟨e0, e1, e2, e3, e4, e5⟩ := P8.blk.cells HQ.out
      have hfz := P8.blk.frozen
      rw [Nat.add_mul] at e0 e1 e2 e3 e4 e5
      have f0 := hfz (a * 6 + y * 6)
      have f1 := hfz (a * 6 + y * 6 + 1)
      have f2 := hfz (a * 6 + y * 6 + 2)
      have f3 := hfz (a * 6 + y * 6 + 3)
      have f4 := hfz (a * 6 + y * 6 + 4)
      have f5 := hfz (a * 6 + y * 6 + 5)
      have hlt := P8.blk.lt
      have HP9 := Lib.hid P9
      clear P8 P9 HQ hfz hb8 HS HBk
      go_wp2
      go_roundw
      case rel =>
        have q1 := HP9.out
        unfold set6 at q1
        rw [Nat.add_mul] at q1
        exact ⟨x, rfl, hxn, by show PutS _ _ _ _ _ _ _ _ _; rw [← HST.out]; exact q1⟩
      case measure => simp [intOf]; have := HX2.out; omega
    · obtain rfl : d = i := by omega
      clear hi hlt2 HBk
      go_wp2_with fail
      go_fit (HP1.out g c zs _ HI.out)
      rintro e w10 ⟨rfl, P10⟩
      clear HP1 HI
      obtain ⟨t0, t1, t2, t3⟩ := P10.styc
      obtain ⟨q, hq⟩ : ∃ q, L2[a + col]? = some q := ⟨_, List.getElem?_eq_getElem (by rw [hN2]; omega)⟩
      obtain ⟨e0, e1, e2, e3, e4, e5⟩ := P10.blk.cells hq
      have hfz := P10.blk.frozen
      rw [Nat.add_mul] at e0 e1 e2 e3 e4 e5
      have f0 := hfz (a * 6 + col * 6)
      have f1 := hfz (a * 6 + col * 6 + 1)
      have f2 := hfz (a * 6 + col * 6 + 2)
      have f3 := hfz (a * 6 + col * 6 + 3)
      have f4 := hfz (a * 6 + col * 6 + 4)
      have f5 := hfz (a * 6 + col * 6 + 5)
      have hlt := P10.blk.lt
      have P11 : PutS w (set6 w10 g ((a + col) * 6) (r, (d : Int), s)) f s N g c (L2.set (a + col) (r, (d : Int), s)) zs :=
        P10.turn (set6_keep _ _ _ _ fun k => k rfl) (P10.blk.set (a + col) _ (by rw [hN2]; omega)) (by rw [List.length_set]; exact hN2)
      have HP11 := Lib.hid P11
      unfold set6 at HP11
      rw [Nat.add_mul] at HP11
      clear hfz P11 hq P10
      go_upto_if 91 with (fail)
      obtain ⟨W11, hW11⟩ : ∃ W11, ((((((w10.setCell ⟨g, a * 6 + col * 6, none⟩ (.int .i32 r)).setCell ⟨g, a * 6 + col * 6 + 1, none⟩ (.int .i64 (d : Int))).setCell ⟨g, a * 6 + col * 6 + 2, none⟩ (.int .i64 s.1)).setCell ⟨g, a * 6 + col * 6 + 3, none⟩ (.bool s.2.1)).setCell ⟨g, a * 6 + col * 6 + 4, none⟩ (.bool s.2.2.1)).setCell ⟨g, a * 6 + col * 6 + 5, none⟩ (.bool s.2.2.2)) = W11 := ⟨_, rfl⟩
      have P11 : PutS w W11 f s N g c (L2.set (a + col) (r, (d : Int), s)) zs := by rw [← hW11]; exact HP11.out
      rw [hW11]
      clear hW11 HP11 e0 e1 e2 e3 e4 e5 f0 f1 f2 f3 f4 f5 t0 t1 t2 t3
      obtain ⟨⟨x0, x1, x2, x3, x4⟩, _⟩ := P11.fr.cells
      obtain ⟨⟨r0, r1, r2, r3, r4⟩, g0', g1, g2, g3, g4⟩ := P11.res.cells
      have HD := Lib.hid P11.doneR
      have hlt2 := P11.res.lt
      clear P11 HD12
      go_wp2
      obtain ⟨⟨y0, y1, y2, y3, y4⟩, _⟩ := HD.out.1.cells
      unfold set5 at y0 y1 y2 y3 y4
      exact bodyPost_ret (v := .agg #[.int .i64 f.rows, .int .i64 f.cols, .slice (some ⟨g, 0, none⟩) N c, .int .i64 f.row, .int .i64 f.col]) (by simp [results, Tryz.results68, go_sem, y0, y1, y2, y3, y4]) rfl ⟨_, rfl, HD.out.2.1, HD.out.2.2⟩
end
end Go.Proofs.YtpkjaallhhjleaaGreatDoor

/-
  limnerref06.Put: what it returns, and lays in a block of its own: a wide rune is put in.
-/
namespace Go.Proofs.YtpkjaallhhjleaaGreatDoor
open Go.RowKit

section
variable {ok : Nat → Prop} {g0 o0 N cap : Nat} {f : Frm} {m n : Nat}

set_option maxRecDepth 100000 in
set_option maxHeartbeats 1000000 in
theorem rputR_two (row col : Nat) (r : Int) (s : Sty) (w : World) (hf : OkF f m n) (hN : N = f.cells.length) (hcap : N ≤ cap) (hS : CelsW ok w (.slice (some ⟨g0, o0, none⟩) N cap) f.cells) (hcan : canB f (row : Int) (col : Int) r s = true) (hd2 : ofN r = 2) :
    Calls Tryz.prog 68 #[.agg #[.int .i64 f.rows, .int .i64 f.cols, .slice (some ⟨g0, o0, none⟩) N cap, .int .i64 f.row, .int .i64 f.col], .int .i64 (row : Int), .int .i64 (col : Int), .int .i32 r, .agg #[.int .i64 s.1, .bool s.2.1, .bool s.2.2.1, .bool s.2.2.2]] w fun e w' => ∃ v', e = .returned v' ∧ OwnR w.heap.size w' v' (layF f (row : Int) (col : Int) r s) ∧ Below w.heap.size w w' := by
  obtain ⟨HV, HC, HO, HY⟩ := rput_calls r s w hf hN hcap hS
  have HBk := Lib.hid (fun w => blank_any w)
  obtain ⟨c1, ⟨c2, c3, c4, c5⟩, c6, c7⟩ := (canB_iff _ _ _ _ _).1 hcan
  have hd12 := of_two c1
  have hrl := hf.rows
  have hcl := hf.cols
  have hm2 := hf.hm
  have hn2 := hf.hn
  rw [c7] at HY
  have hkm : row < m := by omega
  have hlm : f.cells.length = m * n := hf.len
  have hRl := rowK_len hlm hkm
  have hRok := hf.each row hkm
  have hlay : layF f (row : Int) (col : Int) r s = { f with cells := setK f.cells n row (putL (rowK f.cells n row) col r (ofN r) s) } := by
    unfold layF
    rw [hf.nat.2, Int.toNat_natCast, Int.toNat_natCast]
  rw [hlay]
  obtain ⟨R, hR⟩ : ∃ R, rowK f.cells n row = R := ⟨_, rfl⟩
  have hself : setK f.cells n row R = f.cells := by rw [← hR]; exact setK_self _ _ _
  rw [hR] at hRl hRok ⊢
  obtain ⟨d, hd⟩ : ∃ d, ofN r = d := ⟨_, rfl⟩
  rw [hd] at HO hd12 c6 hd2 ⊢
  obtain ⟨a, ha⟩ : ∃ a, row * n = a := ⟨_, rfl⟩
  have hroom := row_room (n := n) hkm
  have hle : m * n ≤ 20000 := Nat.mul_le_mul hm2.2 hn2.2
  have hmu : (row : Int) * f.cols = (a : Int) := by rw [hcl, ← ha, Int.natCast_mul]
  obtain ⟨b, hb⟩ : ∃ b, a + n = b := ⟨_, rfl⟩
  have hmv : ((row : Int) + 1) * f.cols = (b : Int) := by rw [Int.add_mul, hmu, hcl]; omega
  rw [ha] at hroom
  -- the row wiped, mended, and what is laid
  have hwl : (wipeL R col d).length = n := by rw [wipe_len]; exact hRl
  have ew := wip_setK (L := f.cells) (R := R) (k := row) (col := col) (d := d) hlm hkm hRl hd12 (by omega)
  rw [ha, hself] at ew
  have em := mend_setK hlm hkm hwl
  rw [ha] at em
  have hR2 : (mendL (wipeL R col d)).length = n := by rw [mend_len]; exact hwl
  have e3 := lay_setK (col := col) r d s hlm hkm hR2 hd12 (by omega)
  rw [ha] at e3
  have hput := put_ref hRok col r d s hd12 (by omega)
  rw [← hput, e3, if_pos hd2]
  obtain ⟨x, hx⟩ : ∃ x, col + 1 = x := ⟨_, rfl⟩
  rw [hx]
  have HX := Lib.hid hx
  have hl1 : (setK f.cells n row (wipeL R col d)).length = m * n := setK_len _ hlm hkm hwl
  have hl2 : (setK f.cells n row (mendL (wipeL R col d))).length = m * n := setK_len _ hlm hkm hR2
  obtain ⟨L1, hL1⟩ : ∃ L1, setK f.cells n row (wipeL R col d) = L1 := ⟨_, rfl⟩
  obtain ⟨L2, hL2⟩ : ∃ L2, setK f.cells n row (mendL (wipeL R col d)) = L2 := ⟨_, rfl⟩
  rw [hL1] at em hl1 ew
  rw [hL2] at em hl2 ⊢
  have hfl : f.cells.length = N := hN.symm
  have hN1 : L1.length = N := by rw [hl1, hN, hlm]
  have hN2 : L2.length = N := by rw [hl2, hN, hlm]
  have HP1 : Hid (∀ g c zs W, PutS w W f s N g c (wipK f.cells (a + col) d) zs → Calls Tryz.prog 104 #[.slice (some ⟨g, a * 6, none⟩) n (c - a)] W fun e w' => e = .returned (.tuple #[]) ∧ PutS w w' f s N g c L2 zs) := fun g c zs W P => by
    rw [ew] at P
    refine (mend_any (a := a) (n := n) (cap := c - a) W P.blk (by rw [hl1]; exact hroom) (by omega)).mono fun e w' ⟨k1, k2, k3⟩ => ⟨k1, ?_⟩
    rw [em] at k2
    exact P.turn k3 k2 hN2
  have HPO := Lib.hid (fun W2 W3 g c zs hc h2 h3 hg hb => rput_own (w := w) (f := f) (s := s) (g0 := g0) (o0 := o0) (cap := cap) (zs := zs) (g := g) (c := c) (W2 := W2) (W3 := W3) hN hc h2 h3 hg hb)
  have H0 := Lib.hid (put0_is w f s (some ⟨g0, o0, none⟩) N cap).2.1
  have H0f := Lib.hid (put0_is w f s (some ⟨g0, o0, none⟩) N cap).2.2.1
  unfold put0 at HPO H0 H0f
  have b0 : ((d : Int) == 0) = false := by rw [beq_eq_false_iff_ne]; omega
  have b2 : ((d : Int) == 2) = true := by rw [beq_iff_eq]; omega
  have k1 : f.cols ≤ 200 := by omega
  have k2 : (0 : Int) ≤ (col : Int) := by omega
  have k3 : (col : Int) < 200 := by omega
  have k4 : (d : Int) ≤ 2 := by omega
  have k5 : (0 : Int) ≤ (d : Int) := by omega
  obtain ⟨z, hz⟩ : ∃ z, col + d = z := ⟨_, rfl⟩
  have k6 : (col : Int) + (d : Int) = (z : Int) := by omega
  have k7 : (z : Int) ≤ f.cols := by omega
  have k8 : (col : Int) < (n : Int) := by omega
  have k9 : (0 : Int) ≤ (row : Int) := by omega
  have k10 : (row : Int) < 100 := by omega
  have k11 : (0 : Int) ≤ f.cols := by omega
  have k12 : (0 : Int) ≤ (a : Int) := by omega
  have k13 : (a : Int) ≤ (b : Int) := by omega
  have k14 : (b : Int) ≤ (N : Int) := by omega
  have k15 : (N : Int) ≤ 20000 := by omega
  have han : a + n ≤ N := by rw [hN, hlm]; exact hroom
  have hba : b - a = n := by omega
  have HD12 := Lib.hid hd12
  have HD2 := Lib.hid hd2
  have hcn : col + d ≤ n := by omega
  clear hS hN hcap hd hf hcan c1 c2 c4 c6 c7 hlm hRl hRok hlay hR hself em ew e3 hwl hR2 hput hl1 hl2 hL1 hL2 hz hd12 hd2 hx hN1 hroom ha hkm hle hb hcl hrl
  go_enter Tryz.func68, Tryz.ntmps68
  go_wp2_with fail
  go_fit (HV.out _ H0.out)
  rintro e w2 ⟨rfl, hb2⟩
  obtain ⟨⟨x0, x1, x2, x3, x4⟩, _⟩ := (H0f.out.below hb2 H0f.out.lt).cells
  go_wp2_with fail
  go_fit (HC.out _ (H0.out.trans (hb2.mono H0.out.size)))
  rintro e w3 ⟨g, c, rfl, hc, ⟨zs, hg, hbk⟩, hb3⟩
  obtain ⟨P4, z2⟩ := HPO.out w2 w3 g c zs hc hb2 hb3 hg hbk
  obtain ⟨⟨v0, v1, v2, v3, v4⟩, f0, f1, f2, f3, f4⟩ := z2.cells
  have hlt := z2.lt
  have HP4 := Lib.hid P4
  unfold set5 at HP4
  clear P4 z2 HV HC HPO H0 H0f hb2 hb3 hbk x0 x1 x2 x3 x4
  go_wp2_with fail
  go_fit (HO.out _)
  rintro e w5 ⟨rfl, hb5⟩
  have HP5 := Lib.hid (HP4.out.next hb5)
  obtain ⟨⟨x0, x1, x2, x3, x4⟩, _⟩ := HP5.out.fr.cells
  obtain ⟨t0, t1, t2, t3⟩ := HP5.out.styc
  clear HO hb5 v0 v1 v2 v3 v4 f0 f1 f2 f3 f4 hlt HP4
  go_wp2_with fail
  go_fit (HY.out _)
  rintro e w7 ⟨rfl, hb7⟩
  have HP7 := Lib.hid (HP5.out.next hb7)
  obtain ⟨⟨x0, x1, x2, x3, x4⟩, _⟩ := HP7.out.fr.cells
  clear HY hb7 HP5 t0 t1 t2 t3
  have H0 : Hid (PutS w w7 f s N g c (wipK f.cells (a + col) 0) zs) := HP7
  clear HP7
  go_upto_region 8 with (fail)
  clear x0 x1 x2 x3 x4
  go_wp2
  go_loopw [13] (fun s13 wr => ∃ i : Nat, s13 = .int .i64 (i : Int) ∧ i ≤ d ∧ Hid (PutS w wr f s N g c (wipK f.cells (a + col) i) zs)) (fun s13 _ => d - (intOf s13).toNat)
  case atStart => exact ⟨0, rfl, Nat.zero_le _, H0⟩
  case round =>
    obtain ⟨i, rfl, hi, HI⟩ := hrel
    clear H0
    by_cases hlt2 : i < d
    · have j1 : (i : Int) < (d : Int) := by omega
      have j0 : (0 : Int) ≤ (i : Int) := by omega
      obtain ⟨y, hy⟩ : ∃ y, col + i = y := ⟨_, rfl⟩
      have j2 : (col : Int) + (i : Int) = (y : Int) := by omega
      have j3 : (y : Int) < (n : Int) := by omega
      have hyN : a + y < N := by omega
      have hst := wip_step f.cells (a + col) hlt2 HD12.out
      rw [Nat.add_assoc, hy] at hst
      have hlw : (wipK f.cells (a + col) i).length = N := by rw [wip_len]; exact hfl
      obtain ⟨x, hx⟩ : ∃ x, i + 1 = x := ⟨_, rfl⟩
      have hx1 : (i : Int) + 1 = (x : Int) := by omega
      have hxn : x ≤ d := by omega
      rw [hx] at hst
      obtain ⟨M, hM⟩ : ∃ M, wipK f.cells (a + col) i = M := ⟨_, rfl⟩
      rw [hM] at HI hst hlw
      have HST := Lib.hid hst
      have HX2 := Lib.hid hx
      have HS : Hid (∀ w2, Below wr.heap.size wr w2 → PutS w w2 f s N g c M zs ∧ PutS w (set6 w2 g ((a + y) * 6) blkC) f s N g c (M.set (a + y) blkC) zs) := fun w2 hb => by
        have h2 := HI.out.next hb
        exact ⟨h2, h2.turn (set6_keep _ _ _ _ fun k => k rfl) (h2.blk.set (a + y) blkC (by rw [hlw]; exact hyN)) (by rw [List.length_set]; exact hlw)⟩
      obtain ⟨q, hq⟩ : ∃ q, M[a + y]? = some q := ⟨_, List.getElem?_eq_getElem (by rw [hlw]; exact hyN)⟩
      have HQ := Lib.hid hq
      clear hq hst hlw hy hM hx hyN HP1 hfl hN2 han hcn hba HI
      go_wp2_with fail
      go_fit (HBk.out _)
      rintro e w8 ⟨rfl, hb8⟩
      obtain ⟨P8, P9⟩ := HS.out w8 hb8
      obtain ⟨e0, e1, e2, e3, e4, e5⟩ := P8.blk.cells HQ.out
      have hfz := P8.blk.frozen
      rw [Nat.add_mul] at e0 e1 e2 e3 e4 e5
      have f0 := hfz (a * 6 + y * 6)
      have f1 := hfz (a * 6 + y * 6 + 1)
      have f2 := hfz (a * 6 + y * 6 + 2)
      have f3 := hfz (a * 6 + y * 6 + 3)
      have f4 := hfz (a * 6 + y * 6 + 4)
      have f5 := hfz (a * 6 + y * 6 + 5)
      have hlt := P8.blk.lt
      have HP9 := Lib.hid P9
      clear P8 P9 HQ hfz hb8 HS HBk
      go_wp2
      go_roundw
      case rel =>
        have q1 := HP9.out
        unfold set6 at q1
        rw [Nat.add_mul] at q1
        exact ⟨x, rfl, hxn, by show PutS _ _ _ _ _ _ _ _ _; rw [← HST.out]; exact q1⟩
      case measure => simp [intOf]; have := HX2.out; omega
    · obtain rfl : d = i := by omega
      clear hi hlt2 HBk
      go_wp2_with fail
      go_fit (HP1.out g c zs _ HI.out)
      rintro e w10 ⟨rfl, P10⟩
      clear HP1 HI
      obtain ⟨t0, t1, t2, t3⟩ := P10.styc
      obtain ⟨q, hq⟩ : ∃ q, L2[a + col]? = some q := ⟨_, List.getElem?_eq_getElem (by rw [hN2]; omega)⟩
      obtain ⟨e0, e1, e2, e3, e4, e5⟩ := P10.blk.cells hq
      have hfz := P10.blk.frozen
      rw [Nat.add_mul] at e0 e1 e2 e3 e4 e5
      have f0 := hfz (a * 6 + col * 6)
      have f1 := hfz (a * 6 + col * 6 + 1)
      have f2 := hfz (a * 6 + col * 6 + 2)
      have f3 := hfz (a * 6 + col * 6 + 3)
      have f4 := hfz (a * 6 + col * 6 + 4)
      have f5 := hfz (a * 6 + col * 6 + 5)
      have hlt := P10.blk.lt
      have P11 : PutS w (set6 w10 g ((a + col) * 6) (r, (d : Int), s)) f s N g c (L2.set (a + col) (r, (d : Int), s)) zs :=
        P10.turn (set6_keep _ _ _ _ fun k => k rfl) (P10.blk.set (a + col) _ (by rw [hN2]; omega)) (by rw [List.length_set]; exact hN2)
      have HP11 := Lib.hid P11
      unfold set6 at HP11
      rw [Nat.add_mul] at HP11
      clear hfz P11 hq P10
      go_upto_if 91 with (fail)
      obtain ⟨W11, hW11⟩ : ∃ W11, ((((((w10.setCell ⟨g, a * 6 + col * 6, none⟩ (.int .i32 r)).setCell ⟨g, a * 6 + col * 6 + 1, none⟩ (.int .i64 (d : Int))).setCell ⟨g, a * 6 + col * 6 + 2, none⟩ (.int .i64 s.1)).setCell ⟨g, a * 6 + col * 6 + 3, none⟩ (.bool s.2.1)).setCell ⟨g, a * 6 + col * 6 + 4, none⟩ (.bool s.2.2.1)).setCell ⟨g, a * 6 + col * 6 + 5, none⟩ (.bool s.2.2.2)) = W11 := ⟨_, rfl⟩
      have P11 : PutS w W11 f s N g c (L2.set (a + col) (r, (d : Int), s)) zs := by rw [← hW11]; exact HP11.out
      rw [hW11]
      clear hW11 HP11 e0 e1 e2 e3 e4 e5 f0 f1 f2 f3 f4 f5 t0 t1 t2 t3
      have hx1 : (col : Int) + 1 = (x : Int) := by have := HX.out; omega
      have hx2 : (x : Int) < (n : Int) := by have := HD2.out; have := HX.out; omega
      have hxN : a + x < N := by have := HD2.out; have := HX.out; omega
      obtain ⟨q2, hq2⟩ : ∃ q2, (L2.set (a + col) (r, (d : Int), s))[a + x]? = some q2 := ⟨_, List.getElem?_eq_getElem (by rw [List.length_set, hN2]; exact hxN)⟩
      obtain ⟨j0, j1, j2, j3, j4, j5⟩ := P11.blk.cells hq2
      have hfz2 := P11.blk.frozen
      rw [Nat.add_mul] at j0 j1 j2 j3 j4 j5
      have l0 := hfz2 (a * 6 + x * 6)
      have l1 := hfz2 (a * 6 + x * 6 + 1)
      have l2 := hfz2 (a * 6 + x * 6 + 2)
      have l3 := hfz2 (a * 6 + x * 6 + 3)
      have l4 := hfz2 (a * 6 + x * 6 + 4)
      have l5 := hfz2 (a * 6 + x * 6 + 5)
      have hlt2 := P11.blk.lt
      obtain ⟨u0, u1, u2, u3⟩ := P11.styc
      have P12 := P11.turn (set6_keep _ g ((a + x) * 6) (halfC s) fun k => k rfl) (P11.blk.set (a + x) (halfC s) (by rw [List.length_set, hN2]; exact hxN)) (by rw [List.length_set, List.length_set]; exact hN2)
      unfold set6 at P12
      rw [Nat.add_mul] at P12
      have HP12 := Lib.hid P12
      clear P11 hfz2 P12 hq2 HD12 hcn hN2 hxN HX
      go_upto_region 16 with (fail)
      obtain ⟨W12, hW12⟩ : ∃ W12, ((((((W11.setCell ⟨g, a * 6 + x * 6, none⟩ (.int .i32 0)).setCell ⟨g, a * 6 + x * 6 + 1, none⟩ (.int .i64 0)).setCell ⟨g, a * 6 + x * 6 + 2, none⟩ (.int .i64 s.1)).setCell ⟨g, a * 6 + x * 6 + 3, none⟩ (.bool s.2.1)).setCell ⟨g, a * 6 + x * 6 + 4, none⟩ (.bool s.2.2.1)).setCell ⟨g, a * 6 + x * 6 + 5, none⟩ (.bool s.2.2.2)) = W12 := ⟨_, rfl⟩
      have P13 : PutS w W12 f s N g c ((L2.set (a + col) (r, (d : Int), s)).set (a + x) (halfC s)) zs := by rw [← hW12]; exact HP12.out
      rw [hW12]
      clear hW12 HP12 j0 j1 j2 j3 j4 j5 l0 l1 l2 l3 l4 l5 u0 u1 u2 u3
      obtain ⟨⟨x0, x1, x2, x3, x4⟩, _⟩ := P13.fr.cells
      obtain ⟨⟨r0, r1, r2, r3, r4⟩, g0', g1, g2, g3, g4⟩ := P13.res.cells
      have HD := Lib.hid P13.doneR
      have hlt3 := P13.res.lt
      clear P13
      go_wp2
      obtain ⟨⟨y0, y1, y2, y3, y4⟩, _⟩ := HD.out.1.cells
      unfold set5 at y0 y1 y2 y3 y4
      exact bodyPost_ret (v := .agg #[.int .i64 f.rows, .int .i64 f.cols, .slice (some ⟨g, 0, none⟩) N c, .int .i64 f.row, .int .i64 f.col]) (by simp [results, Tryz.results68, go_sem, y0, y1, y2, y3, y4]) rfl ⟨_, rfl, HD.out.2.1, HD.out.2.2⟩
end
end Go.Proofs.YtpkjaallhhjleaaGreatDoor
