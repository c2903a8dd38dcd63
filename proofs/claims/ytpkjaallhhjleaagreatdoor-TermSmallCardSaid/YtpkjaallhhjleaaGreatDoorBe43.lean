/-
  limnerref08: sequence: K.
-/
import Derived.Test.YtpkjaallhhjleaaGreatDoorBe38
namespace Go.Proofs.YtpkjaallhhjleaaGreatDoor
open Go.RowKit

section
variable {w0 : World} {B G N cap : Nat} {T : ByteArray} {t : Tm}
set_option maxRecDepth 20000 in
set_option maxHeartbeats 8000000 in
theorem rtseq_750 {m n : Nat} {v : Value} {l : List Nat} (w : World) (h : RtS w0 w B G N cap T t) (hok : OkF t.f m n) (hN : NumsW (NotBG B G) w v l) (hl : l.length ≤ 1000) (h9 : ∀ x ∈ l, x ≤ 9999) (h0 : l.getD 0 0 = 0) :
    Calls Tryz.prog 35 #[.pointer (some ⟨B, 0, none⟩), v, .int .u8 75] w (RtD w0 w B G N T (seqT t l 75)) := by
  have hm := hok.hm
  have hn := hok.hn
  have hrow := hok.row
  have hcol := hok.col
  have hrows := hok.rows
  have hcols := hok.cols
  have hk0 := getd_le h9 0
  have hk1 := getd_le h9 1
  have HP : Hid (∀ W, KeepW (NotBG B G) w W → Calls Tryz.prog 69 #[v, .int .i64 0] W fun e w' => e = .returned (.int .i64 ((l.getD 0 0 : Nat) : Int)) ∧ w' = W) := fun W hW => rnumber_any 0 W (hN.keep hW) (by omega) (by omega)
  have hE : seqT t l 75 = { t with f := rowE t.f (l.getD 0 0), waits := false } := by
    unfold seqT
    dsimp only
    rfl
  rw [hE]
  obtain ⟨r, hr⟩ : ∃ r : Nat, t.f.row = (r : Int) := ⟨t.f.row.toNat, by omega⟩
  obtain ⟨c, hc⟩ : ∃ c : Nat, t.f.col = (c : Int) := ⟨t.f.col.toNat, by omega⟩
  have hrm : r < m := by omega
  have hcn : c < n := by omega
  have hroom := row_room (n := n) hrm
  have hNmn : m * n = N := by rw [← hok.len, h.len]
  have hN2 : N ≤ 20000 := by rw [← h.len]; exact hok.room
  rw [hNmn] at hroom
  obtain ⟨q, hq⟩ : ∃ q, r * n = q := ⟨_, rfl⟩
  rw [hq] at hroom
  obtain ⟨a, ha⟩ : ∃ a, q + c = a := ⟨_, rfl⟩
  have hac : a < N := by omega
  have wq : IntKind.i64.wrap ((r : Int) * (n : Int)) = (q : Int) := by rw [← Int.natCast_mul, hq]; exact IntWalk.i64_in _ (by omega)
  have wa : IntKind.i64.wrap ((q : Int) + (c : Int)) = (a : Int) := by rw [← Int.natCast_add, ha]; exact IntWalk.i64_in _ (by omega)
  obtain ⟨K, hK⟩ : ∃ K : Int, ((l.getD 0 0 : Nat) : Int) = K := ⟨_, rfl⟩
  have hKb : 0 ≤ K ∧ K ≤ 9999 := by omega
  rw [hK] at HP
  obtain ⟨s, hs⟩ : ∃ s : Int, max K 1 = s := ⟨_, rfl⟩
  have hsb : 1 ≤ s ∧ s ≤ 9999 := by omega
  obtain ⟨wt, hwt⟩ : ∃ x, t.waits = x := ⟨_, rfl⟩
  have HC : Hid (∀ W X, RtS w0 W B G N cap T { t with waits := X } → (W.cell? ⟨B, 0, none⟩ = some (.int .i64 (m : Int)) ∧ W.cell? ⟨B, 1, none⟩ = some (.int .i64 (n : Int)) ∧ W.cell? ⟨B, 2, none⟩ = some (.slice (some ⟨G, 0, none⟩) N cap) ∧ W.cell? ⟨B, 3, none⟩ = some (.int .i64 (r : Int)) ∧ W.cell? ⟨B, 4, none⟩ = some (.int .i64 (c : Int))) ∧ W.cell? ⟨B, 10, none⟩ = some (.bool X) ∧ (∀ i, W.frozen? ⟨B, i, none⟩ = false) ∧ B < W.heap.size) := fun W X hS => by
    have hb := hS.box.cells
    dsimp only at hb
    rw [hrows, hcols, hr, hc] at hb
    exact ⟨hb.1, hb.2.1.2.1, hb.2.2.2, hS.box.lt⟩
  have HW3 : Hid (∀ W, RtS w0 W B G N cap T t → KeepW (NotBG B G) w W → RtS w0 (W.setCell ⟨B, 10, none⟩ (.bool false)) B G N cap T { t with waits := false } ∧ KeepW (NotBG B G) w (W.setCell ⟨B, 10, none⟩ (.bool false))) := fun W hS hK => ⟨(hS.waits_ false).1, hK.trans (hS.waits_ false).2⟩
  obtain ⟨b1, hb1⟩ : ∃ x, q + n = x := ⟨_, rfl⟩
  have wb1 : IntKind.i64.wrap ((q : Int) + (n : Int)) = (b1 : Int) := by rw [show (q : Int) + (n : Int) = (b1 : Int) by omega]; exact IntWalk.i64_in _ (by omega)
  have HEr : Hid (∀ W, RtS w0 W B G N cap T { t with waits := false } → Calls Tryz.prog 71 #[.pointer (some ⟨B, 0, none⟩), .int .i64 (a : Int), .int .i64 (b1 : Int)] W (RtD w0 W B G N T { t with f := rowE t.f (l.getD 0 0), waits := false })) := fun W hS => by
    have hx := rterase_any (t := { t with waits := false }) (a) (b1) W hS hok (by omega) (by omega)
    have he : ({ t.f with cells := eraseL t.f.cells (a) (b1) } : Frm) = rowE t.f (l.getD 0 0) := by
      have e1 : t.f.row.toNat = r := by rw [hr]; exact Int.toNat_natCast r
      have e2 : t.f.col.toNat = c := by rw [hc]; exact Int.toNat_natCast c
      have e3 : t.f.cols.toNat = n := by rw [hcols]; exact Int.toNat_natCast n
      unfold rowE
      dsimp only
      rw [h0, e1, e2, e3, hq, ha, hb1]
      rw [if_pos rfl]
    dsimp only at hx
    rw [he] at hx
    exact hx
  obtain ⟨R, hR⟩ : ∃ R : Tm, ({ t with f := rowE t.f (l.getD 0 0), waits := false } : Tm) = R := ⟨_, rfl⟩
  rw [hR] at HEr ⊢
  obtain rfl : K = 0 := by omega
  have HS := Lib.hid h
  have HSM : Hid (∀ y, y = max (0 : Int) 1 → (.int .i64 y : Value) = .int .i64 s) := fun y hy => by rw [hy, hs]
  obtain ⟨⟨x0, x1, _, x3, x4⟩, x10, _, hlt⟩ := HC.out w t.waits h
  rw [hwt] at x10
  clear h h0 hok hE hR hN hrow hcol hrows hcols hr hc hq ha hK hs hb1 hNmn hN2 h9 hl hroom hrm hcn
  go_enter Tryz.func35, Tryz.ntmps35
  go_upto_region 1 with (fail)
  go_fit (HP.out _ (KeepW.refl _ _))
  rintro e w1 ⟨rfl, rfl⟩
  go_upto_region 1 with (fail)
  go_cut [7] from 11 (fun s7 W => s7 = .int .i64 s ∧ W = w1)
  case first =>
    go_wp2_with fail
    all_goals (go_meet; exact ⟨HSM.out _ (by omega), rfl⟩)
  case rest =>
    obtain ⟨rfl, hwc⟩ := hcut
    have hwc := hwc.symm
    subst hwc
    clear HSM HP
    go_upto_region 3 with (fail)
    go_quiet (fail)
    obtain ⟨W2, hW2⟩ : ∃ W2, w1.drewN nq = W2 := ⟨_, rfl⟩
    have hb2 : Below w1.heap.size w1 W2 := by rw [← hW2]; exact below_drewN (Below.refl _ _) nq
    try rw [hW2]
    have HS2 := Lib.hid (HS.out.next hb2)
    have HK2 : Hid (KeepW (NotBG B G) w1 W2) := keep_below _ hb2
    clear x0 x1 x3 x4 x10 hlt hb2 hW2 HS wq wa
    obtain ⟨_, x10, hf, hlt⟩ := HC.out W2 t.waits HS2.out
    have f10 := hf 10
    rw [hwt] at x10
    have H3 := Lib.hid (HW3.out W2 HS2.out HK2.out)
    clear hf HW3 HS2 HK2
    go_upto_region 3 with (fail)
    go_cut [2] from 43 (fun s2 W4 => s2 = .int .u8 75 ∧ Hid (RtS w0 W4 B G N cap T { t with waits := false } ∧ KeepW (NotBG B G) w1 W4))
    case first =>
      cases wt
      all_goals (go_wp2_with fail; go_meet; exact ⟨rfl, H3⟩)
    case rest =>
      obtain ⟨rfl, HR⟩ := hcut
      have HS4 := Lib.hid HR.out.1
      have HK4 := Lib.hid HR.out.2
      clear HR H3 x10 f10 hlt
      obtain ⟨⟨x0, x1, x2, x3, x4⟩, _, _, hlt⟩ := HC.out wc false HS4.out
      have HE2 := Lib.hid (HEr.out wc HS4.out)
      clear HC HS4 HEr
      go_wp2_with fail
      go_fit (HE2.out)
      rintro e w5 ⟨rfl, G5, c5, hg5, hS5, hK5⟩
      have HD : Hid (RtD w0 w1 B G N T R (.returned (.tuple #[])) w5) := ⟨rfl, G5, c5, rt_new HK4.out (.inl rfl) hg5, hS5, HK4.out.trans hK5⟩
      clear hg5 hS5 hK5 x0 x1 x2 x3 x4 hlt HE2
      go_wp2_with fail
      go_end0
      exact HD.out
set_option maxRecDepth 20000 in
set_option maxHeartbeats 8000000 in
theorem rtseq_751 {m n : Nat} {v : Value} {l : List Nat} (w : World) (h : RtS w0 w B G N cap T t) (hok : OkF t.f m n) (hN : NumsW (NotBG B G) w v l) (hl : l.length ≤ 1000) (h9 : ∀ x ∈ l, x ≤ 9999) (h0 : l.getD 0 0 = 1) :
    Calls Tryz.prog 35 #[.pointer (some ⟨B, 0, none⟩), v, .int .u8 75] w (RtD w0 w B G N T (seqT t l 75)) := by
  have hm := hok.hm
  have hn := hok.hn
  have hrow := hok.row
  have hcol := hok.col
  have hrows := hok.rows
  have hcols := hok.cols
  have hk0 := getd_le h9 0
  have hk1 := getd_le h9 1
  have HP : Hid (∀ W, KeepW (NotBG B G) w W → Calls Tryz.prog 69 #[v, .int .i64 0] W fun e w' => e = .returned (.int .i64 ((l.getD 0 0 : Nat) : Int)) ∧ w' = W) := fun W hW => rnumber_any 0 W (hN.keep hW) (by omega) (by omega)
  have hE : seqT t l 75 = { t with f := rowE t.f (l.getD 0 0), waits := false } := by
    unfold seqT
    dsimp only
    rfl
  rw [hE]
  obtain ⟨r, hr⟩ : ∃ r : Nat, t.f.row = (r : Int) := ⟨t.f.row.toNat, by omega⟩
  obtain ⟨c, hc⟩ : ∃ c : Nat, t.f.col = (c : Int) := ⟨t.f.col.toNat, by omega⟩
  have hrm : r < m := by omega
  have hcn : c < n := by omega
  have hroom := row_room (n := n) hrm
  have hNmn : m * n = N := by rw [← hok.len, h.len]
  have hN2 : N ≤ 20000 := by rw [← h.len]; exact hok.room
  rw [hNmn] at hroom
  obtain ⟨q, hq⟩ : ∃ q, r * n = q := ⟨_, rfl⟩
  rw [hq] at hroom
  obtain ⟨a, ha⟩ : ∃ a, q + c = a := ⟨_, rfl⟩
  have hac : a < N := by omega
  have wq : IntKind.i64.wrap ((r : Int) * (n : Int)) = (q : Int) := by rw [← Int.natCast_mul, hq]; exact IntWalk.i64_in _ (by omega)
  have wa : IntKind.i64.wrap ((q : Int) + (c : Int)) = (a : Int) := by rw [← Int.natCast_add, ha]; exact IntWalk.i64_in _ (by omega)
  obtain ⟨K, hK⟩ : ∃ K : Int, ((l.getD 0 0 : Nat) : Int) = K := ⟨_, rfl⟩
  have hKb : 0 ≤ K ∧ K ≤ 9999 := by omega
  rw [hK] at HP
  obtain ⟨s, hs⟩ : ∃ s : Int, max K 1 = s := ⟨_, rfl⟩
  have hsb : 1 ≤ s ∧ s ≤ 9999 := by omega
  obtain ⟨wt, hwt⟩ : ∃ x, t.waits = x := ⟨_, rfl⟩
  have HC : Hid (∀ W X, RtS w0 W B G N cap T { t with waits := X } → (W.cell? ⟨B, 0, none⟩ = some (.int .i64 (m : Int)) ∧ W.cell? ⟨B, 1, none⟩ = some (.int .i64 (n : Int)) ∧ W.cell? ⟨B, 2, none⟩ = some (.slice (some ⟨G, 0, none⟩) N cap) ∧ W.cell? ⟨B, 3, none⟩ = some (.int .i64 (r : Int)) ∧ W.cell? ⟨B, 4, none⟩ = some (.int .i64 (c : Int))) ∧ W.cell? ⟨B, 10, none⟩ = some (.bool X) ∧ (∀ i, W.frozen? ⟨B, i, none⟩ = false) ∧ B < W.heap.size) := fun W X hS => by
    have hb := hS.box.cells
    dsimp only at hb
    rw [hrows, hcols, hr, hc] at hb
    exact ⟨hb.1, hb.2.1.2.1, hb.2.2.2, hS.box.lt⟩
  have HW3 : Hid (∀ W, RtS w0 W B G N cap T t → KeepW (NotBG B G) w W → RtS w0 (W.setCell ⟨B, 10, none⟩ (.bool false)) B G N cap T { t with waits := false } ∧ KeepW (NotBG B G) w (W.setCell ⟨B, 10, none⟩ (.bool false))) := fun W hS hK => ⟨(hS.waits_ false).1, hK.trans (hS.waits_ false).2⟩
  obtain ⟨a1, ha1⟩ : ∃ x, a + 1 = x := ⟨_, rfl⟩
  have wa1 : IntKind.i64.wrap ((a : Int) + 1) = (a1 : Int) := by rw [show (a : Int) + 1 = (a1 : Int) by omega]; exact IntWalk.i64_in _ (by omega)
  have HEr : Hid (∀ W, RtS w0 W B G N cap T { t with waits := false } → Calls Tryz.prog 71 #[.pointer (some ⟨B, 0, none⟩), .int .i64 (q : Int), .int .i64 (a1 : Int)] W (RtD w0 W B G N T { t with f := rowE t.f (l.getD 0 0), waits := false })) := fun W hS => by
    have hx := rterase_any (t := { t with waits := false }) (q) (a1) W hS hok (by omega) (by omega)
    have he : ({ t.f with cells := eraseL t.f.cells (q) (a1) } : Frm) = rowE t.f (l.getD 0 0) := by
      have e1 : t.f.row.toNat = r := by rw [hr]; exact Int.toNat_natCast r
      have e2 : t.f.col.toNat = c := by rw [hc]; exact Int.toNat_natCast c
      have e3 : t.f.cols.toNat = n := by rw [hcols]; exact Int.toNat_natCast n
      unfold rowE
      dsimp only
      rw [h0, e1, e2, e3, hq, ha, ha1]
      rw [if_neg (by decide), if_pos rfl]
    dsimp only at hx
    rw [he] at hx
    exact hx
  obtain ⟨R, hR⟩ : ∃ R : Tm, ({ t with f := rowE t.f (l.getD 0 0), waits := false } : Tm) = R := ⟨_, rfl⟩
  rw [hR] at HEr ⊢
  obtain rfl : K = 1 := by omega
  have HS := Lib.hid h
  have HSM : Hid (∀ y, y = max (1 : Int) 1 → (.int .i64 y : Value) = .int .i64 s) := fun y hy => by rw [hy, hs]
  obtain ⟨⟨x0, x1, _, x3, x4⟩, x10, _, hlt⟩ := HC.out w t.waits h
  rw [hwt] at x10
  clear h h0 hok hE hR hN hrow hcol hrows hcols hr hc hq ha hK hs ha1 hNmn hN2 h9 hl hroom hrm hcn
  go_enter Tryz.func35, Tryz.ntmps35
  go_upto_region 1 with (fail)
  go_fit (HP.out _ (KeepW.refl _ _))
  rintro e w1 ⟨rfl, rfl⟩
  go_upto_region 1 with (fail)
  go_cut [7] from 11 (fun s7 W => s7 = .int .i64 s ∧ W = w1)
  case first =>
    go_wp2_with fail
    all_goals (go_meet; exact ⟨HSM.out _ (by omega), rfl⟩)
  case rest =>
    obtain ⟨rfl, hwc⟩ := hcut
    have hwc := hwc.symm
    subst hwc
    clear HSM HP
    go_upto_region 3 with (fail)
    go_quiet (fail)
    obtain ⟨W2, hW2⟩ : ∃ W2, w1.drewN nq = W2 := ⟨_, rfl⟩
    have hb2 : Below w1.heap.size w1 W2 := by rw [← hW2]; exact below_drewN (Below.refl _ _) nq
    try rw [hW2]
    have HS2 := Lib.hid (HS.out.next hb2)
    have HK2 : Hid (KeepW (NotBG B G) w1 W2) := keep_below _ hb2
    clear x0 x1 x3 x4 x10 hlt hb2 hW2 HS wq wa
    obtain ⟨_, x10, hf, hlt⟩ := HC.out W2 t.waits HS2.out
    have f10 := hf 10
    rw [hwt] at x10
    have H3 := Lib.hid (HW3.out W2 HS2.out HK2.out)
    clear hf HW3 HS2 HK2
    go_upto_region 3 with (fail)
    go_cut [2] from 43 (fun s2 W4 => s2 = .int .u8 75 ∧ Hid (RtS w0 W4 B G N cap T { t with waits := false } ∧ KeepW (NotBG B G) w1 W4))
    case first =>
      cases wt
      all_goals (go_wp2_with fail; go_meet; exact ⟨rfl, H3⟩)
    case rest =>
      obtain ⟨rfl, HR⟩ := hcut
      have HS4 := Lib.hid HR.out.1
      have HK4 := Lib.hid HR.out.2
      clear HR H3 x10 f10 hlt
      obtain ⟨⟨x0, x1, x2, x3, x4⟩, _, _, hlt⟩ := HC.out wc false HS4.out
      have HE2 := Lib.hid (HEr.out wc HS4.out)
      clear HC HS4 HEr
      go_wp2_with fail
      go_fit (HE2.out)
      rintro e w5 ⟨rfl, G5, c5, hg5, hS5, hK5⟩
      have HD : Hid (RtD w0 w1 B G N T R (.returned (.tuple #[])) w5) := ⟨rfl, G5, c5, rt_new HK4.out (.inl rfl) hg5, hS5, HK4.out.trans hK5⟩
      clear hg5 hS5 hK5 x0 x1 x2 x3 x4 hlt HE2
      go_wp2_with fail
      go_end0
      exact HD.out
set_option maxRecDepth 20000 in
set_option maxHeartbeats 8000000 in
theorem rtseq_752 {m n : Nat} {v : Value} {l : List Nat} (w : World) (h : RtS w0 w B G N cap T t) (hok : OkF t.f m n) (hN : NumsW (NotBG B G) w v l) (hl : l.length ≤ 1000) (h9 : ∀ x ∈ l, x ≤ 9999) (h0 : l.getD 0 0 = 2) :
    Calls Tryz.prog 35 #[.pointer (some ⟨B, 0, none⟩), v, .int .u8 75] w (RtD w0 w B G N T (seqT t l 75)) := by
  have hm := hok.hm
  have hn := hok.hn
  have hrow := hok.row
  have hcol := hok.col
  have hrows := hok.rows
  have hcols := hok.cols
  have hk0 := getd_le h9 0
  have hk1 := getd_le h9 1
  have HP : Hid (∀ W, KeepW (NotBG B G) w W → Calls Tryz.prog 69 #[v, .int .i64 0] W fun e w' => e = .returned (.int .i64 ((l.getD 0 0 : Nat) : Int)) ∧ w' = W) := fun W hW => rnumber_any 0 W (hN.keep hW) (by omega) (by omega)
  have hE : seqT t l 75 = { t with f := rowE t.f (l.getD 0 0), waits := false } := by
    unfold seqT
    dsimp only
    rfl
  rw [hE]
  obtain ⟨r, hr⟩ : ∃ r : Nat, t.f.row = (r : Int) := ⟨t.f.row.toNat, by omega⟩
  obtain ⟨c, hc⟩ : ∃ c : Nat, t.f.col = (c : Int) := ⟨t.f.col.toNat, by omega⟩
  have hrm : r < m := by omega
  have hcn : c < n := by omega
  have hroom := row_room (n := n) hrm
  have hNmn : m * n = N := by rw [← hok.len, h.len]
  have hN2 : N ≤ 20000 := by rw [← h.len]; exact hok.room
  rw [hNmn] at hroom
  obtain ⟨q, hq⟩ : ∃ q, r * n = q := ⟨_, rfl⟩
  rw [hq] at hroom
  obtain ⟨a, ha⟩ : ∃ a, q + c = a := ⟨_, rfl⟩
  have hac : a < N := by omega
  have wq : IntKind.i64.wrap ((r : Int) * (n : Int)) = (q : Int) := by rw [← Int.natCast_mul, hq]; exact IntWalk.i64_in _ (by omega)
  have wa : IntKind.i64.wrap ((q : Int) + (c : Int)) = (a : Int) := by rw [← Int.natCast_add, ha]; exact IntWalk.i64_in _ (by omega)
  obtain ⟨K, hK⟩ : ∃ K : Int, ((l.getD 0 0 : Nat) : Int) = K := ⟨_, rfl⟩
  have hKb : 0 ≤ K ∧ K ≤ 9999 := by omega
  rw [hK] at HP
  obtain ⟨s, hs⟩ : ∃ s : Int, max K 1 = s := ⟨_, rfl⟩
  have hsb : 1 ≤ s ∧ s ≤ 9999 := by omega
  obtain ⟨wt, hwt⟩ : ∃ x, t.waits = x := ⟨_, rfl⟩
  have HC : Hid (∀ W X, RtS w0 W B G N cap T { t with waits := X } → (W.cell? ⟨B, 0, none⟩ = some (.int .i64 (m : Int)) ∧ W.cell? ⟨B, 1, none⟩ = some (.int .i64 (n : Int)) ∧ W.cell? ⟨B, 2, none⟩ = some (.slice (some ⟨G, 0, none⟩) N cap) ∧ W.cell? ⟨B, 3, none⟩ = some (.int .i64 (r : Int)) ∧ W.cell? ⟨B, 4, none⟩ = some (.int .i64 (c : Int))) ∧ W.cell? ⟨B, 10, none⟩ = some (.bool X) ∧ (∀ i, W.frozen? ⟨B, i, none⟩ = false) ∧ B < W.heap.size) := fun W X hS => by
    have hb := hS.box.cells
    dsimp only at hb
    rw [hrows, hcols, hr, hc] at hb
    exact ⟨hb.1, hb.2.1.2.1, hb.2.2.2, hS.box.lt⟩
  have HW3 : Hid (∀ W, RtS w0 W B G N cap T t → KeepW (NotBG B G) w W → RtS w0 (W.setCell ⟨B, 10, none⟩ (.bool false)) B G N cap T { t with waits := false } ∧ KeepW (NotBG B G) w (W.setCell ⟨B, 10, none⟩ (.bool false))) := fun W hS hK => ⟨(hS.waits_ false).1, hK.trans (hS.waits_ false).2⟩
  obtain ⟨b1, hb1⟩ : ∃ x, q + n = x := ⟨_, rfl⟩
  have wb1 : IntKind.i64.wrap ((q : Int) + (n : Int)) = (b1 : Int) := by rw [show (q : Int) + (n : Int) = (b1 : Int) by omega]; exact IntWalk.i64_in _ (by omega)
  have HEr : Hid (∀ W, RtS w0 W B G N cap T { t with waits := false } → Calls Tryz.prog 71 #[.pointer (some ⟨B, 0, none⟩), .int .i64 (q : Int), .int .i64 (b1 : Int)] W (RtD w0 W B G N T { t with f := rowE t.f (l.getD 0 0), waits := false })) := fun W hS => by
    have hx := rterase_any (t := { t with waits := false }) (q) (b1) W hS hok (by omega) (by omega)
    have he : ({ t.f with cells := eraseL t.f.cells (q) (b1) } : Frm) = rowE t.f (l.getD 0 0) := by
      have e1 : t.f.row.toNat = r := by rw [hr]; exact Int.toNat_natCast r
      have e2 : t.f.col.toNat = c := by rw [hc]; exact Int.toNat_natCast c
      have e3 : t.f.cols.toNat = n := by rw [hcols]; exact Int.toNat_natCast n
      unfold rowE
      dsimp only
      rw [h0, e1, e2, e3, hq, hb1]
      rw [if_neg (by decide), if_neg (by decide), if_pos rfl]
    dsimp only at hx
    rw [he] at hx
    exact hx
  obtain ⟨R, hR⟩ : ∃ R : Tm, ({ t with f := rowE t.f (l.getD 0 0), waits := false } : Tm) = R := ⟨_, rfl⟩
  rw [hR] at HEr ⊢
  obtain rfl : K = 2 := by omega
  have HS := Lib.hid h
  have HSM : Hid (∀ y, y = max (2 : Int) 1 → (.int .i64 y : Value) = .int .i64 s) := fun y hy => by rw [hy, hs]
  obtain ⟨⟨x0, x1, _, x3, x4⟩, x10, _, hlt⟩ := HC.out w t.waits h
  rw [hwt] at x10
  clear h h0 hok hE hR hN hrow hcol hrows hcols hr hc hq ha hK hs hb1 hNmn hN2 h9 hl hroom hrm hcn
  go_enter Tryz.func35, Tryz.ntmps35
  go_upto_region 1 with (fail)
  go_fit (HP.out _ (KeepW.refl _ _))
  rintro e w1 ⟨rfl, rfl⟩
  go_upto_region 1 with (fail)
  go_cut [7] from 11 (fun s7 W => s7 = .int .i64 s ∧ W = w1)
  case first =>
    go_wp2_with fail
    all_goals (go_meet; exact ⟨HSM.out _ (by omega), rfl⟩)
  case rest =>
    obtain ⟨rfl, hwc⟩ := hcut
    have hwc := hwc.symm
    subst hwc
    clear HSM HP
    go_upto_region 3 with (fail)
    go_quiet (fail)
    obtain ⟨W2, hW2⟩ : ∃ W2, w1.drewN nq = W2 := ⟨_, rfl⟩
    have hb2 : Below w1.heap.size w1 W2 := by rw [← hW2]; exact below_drewN (Below.refl _ _) nq
    try rw [hW2]
    have HS2 := Lib.hid (HS.out.next hb2)
    have HK2 : Hid (KeepW (NotBG B G) w1 W2) := keep_below _ hb2
    clear x0 x1 x3 x4 x10 hlt hb2 hW2 HS wq wa
    obtain ⟨_, x10, hf, hlt⟩ := HC.out W2 t.waits HS2.out
    have f10 := hf 10
    rw [hwt] at x10
    have H3 := Lib.hid (HW3.out W2 HS2.out HK2.out)
    clear hf HW3 HS2 HK2
    go_upto_region 3 with (fail)
    go_cut [2] from 43 (fun s2 W4 => s2 = .int .u8 75 ∧ Hid (RtS w0 W4 B G N cap T { t with waits := false } ∧ KeepW (NotBG B G) w1 W4))
    case first =>
      cases wt
      all_goals (go_wp2_with fail; go_meet; exact ⟨rfl, H3⟩)
    case rest =>
      obtain ⟨rfl, HR⟩ := hcut
      have HS4 := Lib.hid HR.out.1
      have HK4 := Lib.hid HR.out.2
      clear HR H3 x10 f10 hlt
      obtain ⟨⟨x0, x1, x2, x3, x4⟩, _, _, hlt⟩ := HC.out wc false HS4.out
      have HE2 := Lib.hid (HEr.out wc HS4.out)
      clear HC HS4 HEr
      go_wp2_with fail
      go_fit (HE2.out)
      rintro e w5 ⟨rfl, G5, c5, hg5, hS5, hK5⟩
      have HD : Hid (RtD w0 w1 B G N T R (.returned (.tuple #[])) w5) := ⟨rfl, G5, c5, rt_new HK4.out (.inl rfl) hg5, hS5, HK4.out.trans hK5⟩
      clear hg5 hS5 hK5 x0 x1 x2 x3 x4 hlt HE2
      go_wp2_with fail
      go_end0
      exact HD.out
set_option maxRecDepth 20000 in
set_option maxHeartbeats 8000000 in
theorem rtseq_753 {m n : Nat} {v : Value} {l : List Nat} (w : World) (h : RtS w0 w B G N cap T t) (hok : OkF t.f m n) (hN : NumsW (NotBG B G) w v l) (hl : l.length ≤ 1000) (h9 : ∀ x ∈ l, x ≤ 9999) (h0 : 2 < l.getD 0 0) :
    Calls Tryz.prog 35 #[.pointer (some ⟨B, 0, none⟩), v, .int .u8 75] w (RtD w0 w B G N T (seqT t l 75)) := by
  have hm := hok.hm
  have hn := hok.hn
  have hrow := hok.row
  have hcol := hok.col
  have hrows := hok.rows
  have hcols := hok.cols
  have hk0 := getd_le h9 0
  have hk1 := getd_le h9 1
  have HP : Hid (∀ W, KeepW (NotBG B G) w W → Calls Tryz.prog 69 #[v, .int .i64 0] W fun e w' => e = .returned (.int .i64 ((l.getD 0 0 : Nat) : Int)) ∧ w' = W) := fun W hW => rnumber_any 0 W (hN.keep hW) (by omega) (by omega)
  have hE : seqT t l 75 = { t with f := rowE t.f (l.getD 0 0), waits := false } := by
    unfold seqT
    dsimp only
    rfl
  rw [hE]
  obtain ⟨r, hr⟩ : ∃ r : Nat, t.f.row = (r : Int) := ⟨t.f.row.toNat, by omega⟩
  obtain ⟨c, hc⟩ : ∃ c : Nat, t.f.col = (c : Int) := ⟨t.f.col.toNat, by omega⟩
  have hrm : r < m := by omega
  have hcn : c < n := by omega
  have hroom := row_room (n := n) hrm
  have hNmn : m * n = N := by rw [← hok.len, h.len]
  have hN2 : N ≤ 20000 := by rw [← h.len]; exact hok.room
  rw [hNmn] at hroom
  obtain ⟨q, hq⟩ : ∃ q, r * n = q := ⟨_, rfl⟩
  rw [hq] at hroom
  obtain ⟨a, ha⟩ : ∃ a, q + c = a := ⟨_, rfl⟩
  have hac : a < N := by omega
  have wq : IntKind.i64.wrap ((r : Int) * (n : Int)) = (q : Int) := by rw [← Int.natCast_mul, hq]; exact IntWalk.i64_in _ (by omega)
  have wa : IntKind.i64.wrap ((q : Int) + (c : Int)) = (a : Int) := by rw [← Int.natCast_add, ha]; exact IntWalk.i64_in _ (by omega)
  obtain ⟨K, hK⟩ : ∃ K : Int, ((l.getD 0 0 : Nat) : Int) = K := ⟨_, rfl⟩
  have hKb : 0 ≤ K ∧ K ≤ 9999 := by omega
  rw [hK] at HP
  obtain ⟨s, hs⟩ : ∃ s : Int, max K 1 = s := ⟨_, rfl⟩
  have hsb : 1 ≤ s ∧ s ≤ 9999 := by omega
  obtain ⟨wt, hwt⟩ : ∃ x, t.waits = x := ⟨_, rfl⟩
  have HC : Hid (∀ W X, RtS w0 W B G N cap T { t with waits := X } → (W.cell? ⟨B, 0, none⟩ = some (.int .i64 (m : Int)) ∧ W.cell? ⟨B, 1, none⟩ = some (.int .i64 (n : Int)) ∧ W.cell? ⟨B, 2, none⟩ = some (.slice (some ⟨G, 0, none⟩) N cap) ∧ W.cell? ⟨B, 3, none⟩ = some (.int .i64 (r : Int)) ∧ W.cell? ⟨B, 4, none⟩ = some (.int .i64 (c : Int))) ∧ W.cell? ⟨B, 10, none⟩ = some (.bool X) ∧ (∀ i, W.frozen? ⟨B, i, none⟩ = false) ∧ B < W.heap.size) := fun W X hS => by
    have hb := hS.box.cells
    dsimp only at hb
    rw [hrows, hcols, hr, hc] at hb
    exact ⟨hb.1, hb.2.1.2.1, hb.2.2.2, hS.box.lt⟩
  have HW3 : Hid (∀ W, RtS w0 W B G N cap T t → KeepW (NotBG B G) w W → RtS w0 (W.setCell ⟨B, 10, none⟩ (.bool false)) B G N cap T { t with waits := false } ∧ KeepW (NotBG B G) w (W.setCell ⟨B, 10, none⟩ (.bool false))) := fun W hS hK => ⟨(hS.waits_ false).1, hK.trans (hS.waits_ false).2⟩
  have hEF : ({ t with f := rowE t.f (l.getD 0 0), waits := false } : Tm) = { t with waits := false } := by
    congr 1
    unfold rowE
    dsimp only
    rw [if_neg (by omega), if_neg (by omega), if_neg (by omega)]
  rw [hEF]
  have k0 : (K == 0) = false := by rw [beq_eq_false_iff_ne]; omega
  have k1 : (K == 1) = false := by rw [beq_eq_false_iff_ne]; omega
  have k2 : (K == 2) = false := by rw [beq_eq_false_iff_ne]; omega
  have HS := Lib.hid h
  have HSM : Hid (∀ y, y = max K 1 → (.int .i64 y : Value) = .int .i64 s) := fun y hy => by rw [hy, hs]
  obtain ⟨⟨x0, x1, _, x3, x4⟩, x10, _, hlt⟩ := HC.out w t.waits h
  rw [hwt] at x10
  clear h h0 hok hE hEF hN hrow hcol hrows hcols hr hc hq ha hK hs hNmn hN2 h9 hl hroom hrm hcn
  go_enter Tryz.func35, Tryz.ntmps35
  go_upto_region 1 with (fail)
  go_fit (HP.out _ (KeepW.refl _ _))
  rintro e w1 ⟨rfl, rfl⟩
  go_upto_region 1 with (fail)
  go_cut [7] from 11 (fun s7 W => s7 = .int .i64 s ∧ W = w1)
  case first =>
    go_wp2_with fail
    all_goals (go_meet; exact ⟨HSM.out _ (by omega), rfl⟩)
  case rest =>
    obtain ⟨rfl, hwc⟩ := hcut
    have hwc := hwc.symm
    subst hwc
    clear HSM HP
    go_upto_region 3 with (fail)
    go_quiet (fail)
    obtain ⟨W2, hW2⟩ : ∃ W2, w1.drewN nq = W2 := ⟨_, rfl⟩
    have hb2 : Below w1.heap.size w1 W2 := by rw [← hW2]; exact below_drewN (Below.refl _ _) nq
    try rw [hW2]
    have HS2 := Lib.hid (HS.out.next hb2)
    have HK2 : Hid (KeepW (NotBG B G) w1 W2) := keep_below _ hb2
    clear x0 x1 x3 x4 x10 hlt hb2 hW2 HS wq wa
    obtain ⟨_, x10, hf, hlt⟩ := HC.out W2 t.waits HS2.out
    have f10 := hf 10
    rw [hwt] at x10
    have H3 := Lib.hid (HW3.out W2 HS2.out HK2.out)
    clear hf HW3 HS2 HK2
    go_upto_region 3 with (fail)
    go_cut [2] from 43 (fun s2 W4 => s2 = .int .u8 75 ∧ Hid (RtS w0 W4 B G N cap T { t with waits := false } ∧ KeepW (NotBG B G) w1 W4))
    case first =>
      cases wt
      all_goals (go_wp2_with fail; go_meet; exact ⟨rfl, H3⟩)
    case rest =>
      obtain ⟨rfl, HR⟩ := hcut
      have HS4 := Lib.hid HR.out.1
      have HK4 := Lib.hid HR.out.2
      clear HR H3 x10 f10 hlt
      have HD : Hid (RtD w0 w1 B G N T { t with waits := false } (.returned (.tuple #[])) wc) := ⟨rfl, G, cap, .inl rfl, HS4.out, HK4.out⟩
      clear HC HS4 HK4
      go_wp2_with fail
      go_end0
      exact HD.out
end
end Go.Proofs.YtpkjaallhhjleaaGreatDoor
