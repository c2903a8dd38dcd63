/-
  Texts of this proof, one behind the other; each begins with its own remark.
-/
import Derived.Test.YtpkjaallhhjleaaGreatDoorBe38
/-
  limnerref08: sequence: C and D.
-/
namespace Go.Proofs.YtpkjaallhhjleaaGreatDoor
open Go.RowKit

section
variable {w0 : World} {B G N cap : Nat} {T : ByteArray} {t : Tm}
set_option maxRecDepth 20000 in
set_option maxHeartbeats 8000000 in
theorem rtseq_67 {m n : Nat} {v : Value} {l : List Nat} (w : World) (h : RtS w0 w B G N cap T t) (hok : OkF t.f m n) (hN : NumsW (NotBG B G) w v l) (hl : l.length ≤ 1000) (h9 : ∀ x ∈ l, x ≤ 9999) :
    Calls Tryz.prog 35 #[.pointer (some ⟨B, 0, none⟩), v, .int .u8 67] w (RtD w0 w B G N T (seqT t l 67)) := by
  have hm := hok.hm
  have hn := hok.hn
  have hrow := hok.row
  have hcol := hok.col
  have hrows := hok.rows
  have hcols := hok.cols
  have hk0 := getd_le h9 0
  have hk1 := getd_le h9 1
  have HP : Hid (∀ W, KeepW (NotBG B G) w W → Calls Tryz.prog 69 #[v, .int .i64 0] W fun e w' => e = .returned (.int .i64 ((l.getD 0 0 : Nat) : Int)) ∧ w' = W) := fun W hW => rnumber_any 0 W (hN.keep hW) (by omega) (by omega)
  have hE : seqT t l 67 = { t with f := goF t.f t.f.row (t.f.col + max 1 ((l.getD 0 0 : Nat) : Int)), waits := false } := by
    unfold seqT
    dsimp only
    rfl
  rw [hE]
  obtain ⟨r, hr⟩ : ∃ r : Nat, t.f.row = (r : Int) := ⟨t.f.row.toNat, by omega⟩
  obtain ⟨c, hc⟩ : ∃ c : Nat, t.f.col = (c : Int) := ⟨t.f.col.toNat, by omega⟩
  have hrm : r < m := by omega
  have hcn : c < n := by omega
  have hroom := row_room (n := n) hrm
  have hNmn : m * n = N := by rw [← hok.len, h.len]
  have hN2 : N ≤ 20000 := by rw [← h.len]; exact hok.room
  rw [hNmn] at hroom
  obtain ⟨q, hq⟩ : ∃ q, r * n = q := ⟨_, rfl⟩
  rw [hq] at hroom
  obtain ⟨a, ha⟩ : ∃ a, q + c = a := ⟨_, rfl⟩
  have hac : a < N := by omega
  have wq : IntKind.i64.wrap ((r : Int) * (n : Int)) = (q : Int) := by rw [← Int.natCast_mul, hq]; exact IntWalk.i64_in _ (by omega)
  have wa : IntKind.i64.wrap ((q : Int) + (c : Int)) = (a : Int) := by rw [← Int.natCast_add, ha]; exact IntWalk.i64_in _ (by omega)
  obtain ⟨K, hK⟩ : ∃ K : Int, ((l.getD 0 0 : Nat) : Int) = K := ⟨_, rfl⟩
  have hKb : 0 ≤ K ∧ K ≤ 9999 := by omega
  rw [hK] at HP
  obtain ⟨s, hs⟩ : ∃ s : Int, max K 1 = s := ⟨_, rfl⟩
  have hsb : 1 ≤ s ∧ s ≤ 9999 := by omega
  obtain ⟨wt, hwt⟩ : ∃ x, t.waits = x := ⟨_, rfl⟩
  have HC : Hid (∀ W X, RtS w0 W B G N cap T { t with waits := X } → (W.cell? ⟨B, 0, none⟩ = some (.int .i64 (m : Int)) ∧ W.cell? ⟨B, 1, none⟩ = some (.int .i64 (n : Int)) ∧ W.cell? ⟨B, 2, none⟩ = some (.slice (some ⟨G, 0, none⟩) N cap) ∧ W.cell? ⟨B, 3, none⟩ = some (.int .i64 (r : Int)) ∧ W.cell? ⟨B, 4, none⟩ = some (.int .i64 (c : Int))) ∧ W.cell? ⟨B, 10, none⟩ = some (.bool X) ∧ (∀ i, W.frozen? ⟨B, i, none⟩ = false) ∧ B < W.heap.size) := fun W X hS => by
    have hb := hS.box.cells
    dsimp only at hb
    rw [hrows, hcols, hr, hc] at hb
    exact ⟨hb.1, hb.2.1.2.1, hb.2.2.2, hS.box.lt⟩
  have HW3 : Hid (∀ W, RtS w0 W B G N cap T t → KeepW (NotBG B G) w W → RtS w0 (W.setCell ⟨B, 10, none⟩ (.bool false)) B G N cap T { t with waits := false } ∧ KeepW (NotBG B G) w (W.setCell ⟨B, 10, none⟩ (.bool false))) := fun W hS hK => ⟨(hS.waits_ false).1, hK.trans (hS.waits_ false).2⟩
  obtain ⟨z, hz⟩ : ∃ z : Int, (c : Int) + s = z := ⟨_, rfl⟩
  have wz : IntKind.i64.wrap ((c : Int) + s) = z := by rw [hz]; exact IntWalk.i64_in _ (by omega)
  obtain ⟨y, hy⟩ : ∃ y : Int, min (max 0 z) ((n : Int) - 1) = y := ⟨_, rfl⟩
  have HWi : Hid (∀ W, Calls Tryz.prog 70 #[.int .i64 z, .int .i64 (n : Int)] W fun e w' => e = .returned (.int .i64 y) ∧ w' = W) := fun W => by rw [← hy]; exact rwithin_any z (n : Int) W (by omega)
  obtain ⟨R, hR⟩ : ∃ R : Tm, { t with f := goF t.f t.f.row (t.f.col + max 1 ((l.getD 0 0 : Nat) : Int)), waits := false } = R := ⟨_, rfl⟩
  have hRe : R = { t with f := { t.f with col := y }, waits := false } := by
    have he : goF t.f t.f.row z = { t.f with col := y } := by rw [go_col hok, ← hy, ← hcols]
    rw [← hR, hK, Int.max_comm, hs, hc, hz, he]
  rw [hR]
  have HEnd : Hid (∀ W Wd, RtS w0 W B G N cap T { t with waits := false } → KeepW (NotBG B G) w W → W.drew = Wd → (Wd.cell? ⟨B, 4, none⟩ = some (.int .i64 (c : Int)) ∧ Wd.frozen? ⟨B, 4, none⟩ = false ∧ B < Wd.heap.size) ∧ Hid (RtD w0 w B G N T R (.returned (.tuple #[])) (Wd.setCell ⟨B, 4, none⟩ (.int .i64 y)))) := fun W Wd hS hK hd => by
    have hS2 := hS.next (Below.refl _ _).drew
    rw [hd] at hS2
    obtain ⟨⟨_, _, _, z3, z4⟩, _, hf, hlt⟩ := HC.out Wd false hS2
    have hk : KeepW (NotBG B G) W Wd := by rw [← hd]; exact keep_drew _ _
    rw [hRe]
    exact ⟨⟨z4, hf 4, hlt⟩, rfl, G, cap, .inl rfl, (hS2.col_ y).1, (hK.trans hk).trans (hS2.col_ y).2⟩
  have HS := Lib.hid h
  have HSM : Hid (∀ y, y = max K 1 → (.int .i64 y : Value) = .int .i64 s) := fun y hy => by rw [hy, hs]
  obtain ⟨⟨x0, x1, _, x3, x4⟩, x10, _, hlt⟩ := HC.out w t.waits h
  rw [hwt] at x10
  clear h hok hE hR hRe hz hy hN hrow hcol hrows hcols hr hc hq ha hK hs hNmn hN2 h9 hl hroom hrm hcn
  go_enter Tryz.func35, Tryz.ntmps35
  go_upto_region 1 with (fail)
  go_fit (HP.out _ (KeepW.refl _ _))
  rintro e w1 ⟨rfl, rfl⟩
  go_upto_region 1 with (fail)
  go_cut [7] from 11 (fun s7 W => s7 = .int .i64 s ∧ W = w1)
  case first =>
    go_wp2_with fail
    all_goals (go_meet; exact ⟨HSM.out _ (by omega), rfl⟩)
  case rest =>
    obtain ⟨rfl, hwc⟩ := hcut
    have hwc := hwc.symm
    subst hwc
    clear HSM HP
    go_upto_region 3 with (fail)
    go_quiet (fail)
    obtain ⟨W2, hW2⟩ : ∃ W2, w1.drewN nq = W2 := ⟨_, rfl⟩
    have hb2 : Below w1.heap.size w1 W2 := by rw [← hW2]; exact below_drewN (Below.refl _ _) nq
    try rw [hW2]
    have HS2 := Lib.hid (HS.out.next hb2)
    have HK2 : Hid (KeepW (NotBG B G) w1 W2) := keep_below _ hb2
    clear x0 x1 x3 x4 x10 hlt hb2 hW2 HS wq wa
    obtain ⟨_, x10, hf, hlt⟩ := HC.out W2 t.waits HS2.out
    have f10 := hf 10
    rw [hwt] at x10
    have H3 := Lib.hid (HW3.out W2 HS2.out HK2.out)
    clear hf HW3 HS2 HK2
    go_upto_region 3 with (fail)
    go_cut [2] from 43 (fun s2 W4 => s2 = .int .u8 67 ∧ Hid (RtS w0 W4 B G N cap T { t with waits := false } ∧ KeepW (NotBG B G) w1 W4))
    case first =>
      cases wt
      all_goals (go_wp2_with fail; go_meet; exact ⟨rfl, H3⟩)
    case rest =>
      obtain ⟨rfl, HR⟩ := hcut
      have HS4 := Lib.hid HR.out.1
      have HK4 := Lib.hid HR.out.2
      clear HR H3 x10 f10 hlt
      have HZ := Lib.hid (HEnd.out wc wc.drew HS4.out HK4.out rfl)
      obtain ⟨⟨x0, x1, _, x3, x4⟩, _, _, hlt⟩ := HC.out wc false HS4.out
      clear HEnd HS4 HK4 HC
      go_wp2_with fail
      go_still_tail 17, (by kernel_rfl)
      still_call (HWi.out _)
      repeat still_step
      try refine wpStill_nil ?_
      change wpList _ _ _ _ _ wc.drew
      obtain ⟨Wd, hWd⟩ : ∃ Wd, wc.drew = Wd := ⟨_, rfl⟩
      rw [hWd]
      rw [hWd] at HZ
      obtain ⟨⟨d3, g3, l3⟩, HD⟩ := HZ.out
      clear HZ hWd x0 x1 x3 x4 hlt HWi wz
      go_wp2_with fail
      go_end0
      exact HD.out
set_option maxRecDepth 20000 in
set_option maxHeartbeats 8000000 in
theorem rtseq_68 {m n : Nat} {v : Value} {l : List Nat} (w : World) (h : RtS w0 w B G N cap T t) (hok : OkF t.f m n) (hN : NumsW (NotBG B G) w v l) (hl : l.length ≤ 1000) (h9 : ∀ x ∈ l, x ≤ 9999) :
    Calls Tryz.prog 35 #[.pointer (some ⟨B, 0, none⟩), v, .int .u8 68] w (RtD w0 w B G N T (seqT t l 68)) := by
  have hm := hok.hm
  have hn := hok.hn
  have hrow := hok.row
  have hcol := hok.col
  have hrows := hok.rows
  have hcols := hok.cols
  have hk0 := getd_le h9 0
  have hk1 := getd_le h9 1
  have HP : Hid (∀ W, KeepW (NotBG B G) w W → Calls Tryz.prog 69 #[v, .int .i64 0] W fun e w' => e = .returned (.int .i64 ((l.getD 0 0 : Nat) : Int)) ∧ w' = W) := fun W hW => rnumber_any 0 W (hN.keep hW) (by omega) (by omega)
  have hE : seqT t l 68 = { t with f := goF t.f t.f.row (t.f.col - max 1 ((l.getD 0 0 : Nat) : Int)), waits := false } := by
    unfold seqT
    dsimp only
    rfl
  rw [hE]
  obtain ⟨r, hr⟩ : ∃ r : Nat, t.f.row = (r : Int) := ⟨t.f.row.toNat, by omega⟩
  obtain ⟨c, hc⟩ : ∃ c : Nat, t.f.col = (c : Int) := ⟨t.f.col.toNat, by omega⟩
  have hrm : r < m := by omega
  have hcn : c < n := by omega
  have hroom := row_room (n := n) hrm
  have hNmn : m * n = N := by rw [← hok.len, h.len]
  have hN2 : N ≤ 20000 := by rw [← h.len]; exact hok.room
  rw [hNmn] at hroom
  obtain ⟨q, hq⟩ : ∃ q, r * n = q := ⟨_, rfl⟩
  rw [hq] at hroom
  obtain ⟨a, ha⟩ : ∃ a, q + c = a := ⟨_, rfl⟩
  have hac : a < N := by omega
  have wq : IntKind.i64.wrap ((r : Int) * (n : Int)) = (q : Int) := by rw [← Int.natCast_mul, hq]; exact IntWalk.i64_in _ (by omega)
  have wa : IntKind.i64.wrap ((q : Int) + (c : Int)) = (a : Int) := by rw [← Int.natCast_add, ha]; exact IntWalk.i64_in _ (by omega)
  obtain ⟨K, hK⟩ : ∃ K : Int, ((l.getD 0 0 : Nat) : Int) = K := ⟨_, rfl⟩
  have hKb : 0 ≤ K ∧ K ≤ 9999 := by omega
  rw [hK] at HP
  obtain ⟨s, hs⟩ : ∃ s : Int, max K 1 = s := ⟨_, rfl⟩
  have hsb : 1 ≤ s ∧ s ≤ 9999 := by omega
  obtain ⟨wt, hwt⟩ : ∃ x, t.waits = x := ⟨_, rfl⟩
  have HC : Hid (∀ W X, RtS w0 W B G N cap T { t with waits := X } → (W.cell? ⟨B, 0, none⟩ = some (.int .i64 (m : Int)) ∧ W.cell? ⟨B, 1, none⟩ = some (.int .i64 (n : Int)) ∧ W.cell? ⟨B, 2, none⟩ = some (.slice (some ⟨G, 0, none⟩) N cap) ∧ W.cell? ⟨B, 3, none⟩ = some (.int .i64 (r : Int)) ∧ W.cell? ⟨B, 4, none⟩ = some (.int .i64 (c : Int))) ∧ W.cell? ⟨B, 10, none⟩ = some (.bool X) ∧ (∀ i, W.frozen? ⟨B, i, none⟩ = false) ∧ B < W.heap.size) := fun W X hS => by
    have hb := hS.box.cells
    dsimp only at hb
    rw [hrows, hcols, hr, hc] at hb
    exact ⟨hb.1, hb.2.1.2.1, hb.2.2.2, hS.box.lt⟩
  have HW3 : Hid (∀ W, RtS w0 W B G N cap T t → KeepW (NotBG B G) w W → RtS w0 (W.setCell ⟨B, 10, none⟩ (.bool false)) B G N cap T { t with waits := false } ∧ KeepW (NotBG B G) w (W.setCell ⟨B, 10, none⟩ (.bool false))) := fun W hS hK => ⟨(hS.waits_ false).1, hK.trans (hS.waits_ false).2⟩
  obtain ⟨z, hz⟩ : ∃ z : Int, (c : Int) - s = z := ⟨_, rfl⟩
  have wz : IntKind.i64.wrap ((c : Int) - s) = z := by rw [hz]; exact IntWalk.i64_in _ (by omega)
  obtain ⟨y, hy⟩ : ∃ y : Int, min (max 0 z) ((n : Int) - 1) = y := ⟨_, rfl⟩
  have HWi : Hid (∀ W, Calls Tryz.prog 70 #[.int .i64 z, .int .i64 (n : Int)] W fun e w' => e = .returned (.int .i64 y) ∧ w' = W) := fun W => by rw [← hy]; exact rwithin_any z (n : Int) W (by omega)
  obtain ⟨R, hR⟩ : ∃ R : Tm, { t with f := goF t.f t.f.row (t.f.col - max 1 ((l.getD 0 0 : Nat) : Int)), waits := false } = R := ⟨_, rfl⟩
  have hRe : R = { t with f := { t.f with col := y }, waits := false } := by
    have he : goF t.f t.f.row z = { t.f with col := y } := by rw [go_col hok, ← hy, ← hcols]
    rw [← hR, hK, Int.max_comm, hs, hc, hz, he]
  rw [hR]
  have HEnd : Hid (∀ W Wd, RtS w0 W B G N cap T { t with waits := false } → KeepW (NotBG B G) w W → W.drew = Wd → (Wd.cell? ⟨B, 4, none⟩ = some (.int .i64 (c : Int)) ∧ Wd.frozen? ⟨B, 4, none⟩ = false ∧ B < Wd.heap.size) ∧ Hid (RtD w0 w B G N T R (.returned (.tuple #[])) (Wd.setCell ⟨B, 4, none⟩ (.int .i64 y)))) := fun W Wd hS hK hd => by
    have hS2 := hS.next (Below.refl _ _).drew
    rw [hd] at hS2
    obtain ⟨⟨_, _, _, z3, z4⟩, _, hf, hlt⟩ := HC.out Wd false hS2
    have hk : KeepW (NotBG B G) W Wd := by rw [← hd]; exact keep_drew _ _
    rw [hRe]
    exact ⟨⟨z4, hf 4, hlt⟩, rfl, G, cap, .inl rfl, (hS2.col_ y).1, (hK.trans hk).trans (hS2.col_ y).2⟩
  have HS := Lib.hid h
  have HSM : Hid (∀ y, y = max K 1 → (.int .i64 y : Value) = .int .i64 s) := fun y hy => by rw [hy, hs]
  obtain ⟨⟨x0, x1, _, x3, x4⟩, x10, _, hlt⟩ := HC.out w t.waits h
  rw [hwt] at x10
  clear h hok hE hR hRe hz hy hN hrow hcol hrows hcols hr hc hq ha hK hs hNmn hN2 h9 hl hroom hrm hcn
  go_enter Tryz.func35, Tryz.ntmps35
  go_upto_region 1 with (fail)
  go_fit (HP.out _ (KeepW.refl _ _))
  rintro e w1 ⟨rfl, rfl⟩
  go_upto_region 1 with (fail)
  go_cut [7] from 11 (fun s7 W => s7 = .int .i64 s ∧ W = w1)
  case first =>
    go_wp2_with fail
    all_goals (go_meet; exact ⟨HSM.out _ (by omega), rfl⟩)
  case rest =>
    obtain ⟨rfl, hwc⟩ := hcut
    have hwc := hwc.symm
    subst hwc
    clear HSM HP
    go_upto_region 3 with (fail)
    go_quiet (fail)
    obtain ⟨W2, hW2⟩ : ∃ W2, w1.drewN nq = W2 := ⟨_, rfl⟩
    have hb2 : Below w1.heap.size w1 W2 := by rw [← hW2]; exact below_drewN (Below.refl _ _) nq
    try rw [hW2]
    have HS2 := Lib.hid (HS.out.next hb2)
    have HK2 : Hid (KeepW (NotBG B G) w1 W2) := keep_below _ hb2
    clear x0 x1 x3 x4 x10 hlt hb2 hW2 HS wq wa
    obtain ⟨_, x10, hf, hlt⟩ := HC.out W2 t.waits HS2.out
    have f10 := hf 10
    rw [hwt] at x10
    have H3 := Lib.hid (HW3.out W2 HS2.out HK2.out)
    clear hf HW3 HS2 HK2
    go_upto_region 3 with (fail)
    go_cut [2] from 43 (fun s2 W4 => s2 = .int .u8 68 ∧ Hid (RtS w0 W4 B G N cap T { t with waits := false } ∧ KeepW (NotBG B G) w1 W4))
    case first =>
      cases wt
      all_goals (go_wp2_with fail; go_meet; exact ⟨rfl, H3⟩)
    case rest =>
      obtain ⟨rfl, HR⟩ := hcut
      have HS4 := Lib.hid HR.out.1
      have HK4 := Lib.hid HR.out.2
      clear HR H3 x10 f10 hlt
      have HZ := Lib.hid (HEnd.out wc wc.drew HS4.out HK4.out rfl)
      obtain ⟨⟨x0, x1, _, x3, x4⟩, _, _, hlt⟩ := HC.out wc false HS4.out
      clear HEnd HS4 HK4 HC
      go_wp2_with fail
      go_still_tail 17, (by kernel_rfl)
      still_call (HWi.out _)
      repeat still_step
      try refine wpStill_nil ?_
      change wpList _ _ _ _ _ wc.drew
      obtain ⟨Wd, hWd⟩ : ∃ Wd, wc.drew = Wd := ⟨_, rfl⟩
      rw [hWd]
      rw [hWd] at HZ
      obtain ⟨⟨d3, g3, l3⟩, HD⟩ := HZ.out
      clear HZ hWd x0 x1 x3 x4 hlt HWi wz
      go_wp2_with fail
      go_end0
      exact HD.out
end
end Go.Proofs.YtpkjaallhhjleaaGreatDoor

/-
  limnerref08: sequence: H.
-/
namespace Go.Proofs.YtpkjaallhhjleaaGreatDoor
open Go.RowKit

section
variable {w0 : World} {B G N cap : Nat} {T : ByteArray} {t : Tm}
set_option maxRecDepth 20000 in
set_option maxHeartbeats 8000000 in
theorem rtseq_72 {m n : Nat} {v : Value} {l : List Nat} (w : World) (h : RtS w0 w B G N cap T t) (hok : OkF t.f m n) (hN : NumsW (NotBG B G) w v l) (hl : l.length ≤ 1000) (h9 : ∀ x ∈ l, x ≤ 9999) :
    Calls Tryz.prog 35 #[.pointer (some ⟨B, 0, none⟩), v, .int .u8 72] w (RtD w0 w B G N T (seqT t l 72)) := by
  have hm := hok.hm
  have hn := hok.hn
  have hrow := hok.row
  have hcol := hok.col
  have hrows := hok.rows
  have hcols := hok.cols
  have hk0 := getd_le h9 0
  have hk1 := getd_le h9 1
  have HP : Hid (∀ W, KeepW (NotBG B G) w W → Calls Tryz.prog 69 #[v, .int .i64 0] W fun e w' => e = .returned (.int .i64 ((l.getD 0 0 : Nat) : Int)) ∧ w' = W) := fun W hW => rnumber_any 0 W (hN.keep hW) (by omega) (by omega)
  have hE : seqT t l 72 = { t with f := goF t.f (((l.getD 0 0 : Nat) : Int) - 1) (((l.getD 1 0 : Nat) : Int) - 1), waits := false } := by
    unfold seqT
    dsimp only
    rfl
  rw [hE]
  obtain ⟨r, hr⟩ : ∃ r : Nat, t.f.row = (r : Int) := ⟨t.f.row.toNat, by omega⟩
  obtain ⟨c, hc⟩ : ∃ c : Nat, t.f.col = (c : Int) := ⟨t.f.col.toNat, by omega⟩
  have hrm : r < m := by omega
  have hcn : c < n := by omega
  have hroom := row_room (n := n) hrm
  have hNmn : m * n = N := by rw [← hok.len, h.len]
  have hN2 : N ≤ 20000 := by rw [← h.len]; exact hok.room
  rw [hNmn] at hroom
  obtain ⟨q, hq⟩ : ∃ q, r * n = q := ⟨_, rfl⟩
  rw [hq] at hroom
  obtain ⟨a, ha⟩ : ∃ a, q + c = a := ⟨_, rfl⟩
  have hac : a < N := by omega
  have wq : IntKind.i64.wrap ((r : Int) * (n : Int)) = (q : Int) := by rw [← Int.natCast_mul, hq]; exact IntWalk.i64_in _ (by omega)
  have wa : IntKind.i64.wrap ((q : Int) + (c : Int)) = (a : Int) := by rw [← Int.natCast_add, ha]; exact IntWalk.i64_in _ (by omega)
  obtain ⟨K, hK⟩ : ∃ K : Int, ((l.getD 0 0 : Nat) : Int) = K := ⟨_, rfl⟩
  have hKb : 0 ≤ K ∧ K ≤ 9999 := by omega
  rw [hK] at HP
  obtain ⟨s, hs⟩ : ∃ s : Int, max K 1 = s := ⟨_, rfl⟩
  have hsb : 1 ≤ s ∧ s ≤ 9999 := by omega
  obtain ⟨wt, hwt⟩ : ∃ x, t.waits = x := ⟨_, rfl⟩
  have HC : Hid (∀ W X, RtS w0 W B G N cap T { t with waits := X } → (W.cell? ⟨B, 0, none⟩ = some (.int .i64 (m : Int)) ∧ W.cell? ⟨B, 1, none⟩ = some (.int .i64 (n : Int)) ∧ W.cell? ⟨B, 2, none⟩ = some (.slice (some ⟨G, 0, none⟩) N cap) ∧ W.cell? ⟨B, 3, none⟩ = some (.int .i64 (r : Int)) ∧ W.cell? ⟨B, 4, none⟩ = some (.int .i64 (c : Int))) ∧ W.cell? ⟨B, 10, none⟩ = some (.bool X) ∧ (∀ i, W.frozen? ⟨B, i, none⟩ = false) ∧ B < W.heap.size) := fun W X hS => by
    have hb := hS.box.cells
    dsimp only at hb
    rw [hrows, hcols, hr, hc] at hb
    exact ⟨hb.1, hb.2.1.2.1, hb.2.2.2, hS.box.lt⟩
  have HW3 : Hid (∀ W, RtS w0 W B G N cap T t → KeepW (NotBG B G) w W → RtS w0 (W.setCell ⟨B, 10, none⟩ (.bool false)) B G N cap T { t with waits := false } ∧ KeepW (NotBG B G) w (W.setCell ⟨B, 10, none⟩ (.bool false))) := fun W hS hK => ⟨(hS.waits_ false).1, hK.trans (hS.waits_ false).2⟩
  have HP1 : Hid (∀ W, KeepW (NotBG B G) w W → Calls Tryz.prog 69 #[v, .int .i64 1] W fun e w' => e = .returned (.int .i64 ((l.getD 1 0 : Nat) : Int)) ∧ w' = W) := fun W hW => rnumber_any 1 W (hN.keep hW) (by omega) (by omega)
  obtain ⟨K1, hK1⟩ : ∃ K : Int, ((l.getD 1 0 : Nat) : Int) = K := ⟨_, rfl⟩
  have hK1b : 0 ≤ K1 ∧ K1 ≤ 9999 := by omega
  rw [hK1] at HP1
  obtain ⟨z, hz⟩ : ∃ z : Int, K - 1 = z := ⟨_, rfl⟩
  have wz : IntKind.i64.wrap (K - 1) = z := by rw [hz]; exact IntWalk.i64_in _ (by omega)
  obtain ⟨z1, hz1⟩ : ∃ z : Int, K1 - 1 = z := ⟨_, rfl⟩
  have wz1 : IntKind.i64.wrap (K1 - 1) = z1 := by rw [hz1]; exact IntWalk.i64_in _ (by omega)
  obtain ⟨y, hy⟩ : ∃ y : Int, min (max 0 z) ((m : Int) - 1) = y := ⟨_, rfl⟩
  obtain ⟨y1, hy1⟩ : ∃ y : Int, min (max 0 z1) ((n : Int) - 1) = y := ⟨_, rfl⟩
  have HWi : Hid (∀ W, Calls Tryz.prog 70 #[.int .i64 z, .int .i64 (m : Int)] W fun e w' => e = .returned (.int .i64 y) ∧ w' = W) := fun W => by rw [← hy]; exact rwithin_any z (m : Int) W (by omega)
  have HWj : Hid (∀ W, Calls Tryz.prog 70 #[.int .i64 z1, .int .i64 (n : Int)] W fun e w' => e = .returned (.int .i64 y1) ∧ w' = W) := fun W => by rw [← hy1]; exact rwithin_any z1 (n : Int) W (by omega)
  obtain ⟨R, hR⟩ : ∃ R : Tm, { t with f := goF t.f (((l.getD 0 0 : Nat) : Int) - 1) (((l.getD 1 0 : Nat) : Int) - 1), waits := false } = R := ⟨_, rfl⟩
  have hRe : R = { t with f := { t.f with row := y, col := y1 }, waits := false } := by
    have he : goF t.f z z1 = { t.f with row := y, col := y1 } := by rw [← hy, ← hy1, ← hrows, ← hcols]; rfl
    rw [← hR, hK, hK1, hz, hz1, he]
  rw [hR]
  have HEnd : Hid (∀ W Wd, RtS w0 W B G N cap T { t with waits := false } → KeepW (NotBG B G) w W → W.drew = Wd → (Wd.cell? ⟨B, 3, none⟩ = some (.int .i64 (r : Int)) ∧ Wd.cell? ⟨B, 4, none⟩ = some (.int .i64 (c : Int)) ∧ (∀ i, Wd.frozen? ⟨B, i, none⟩ = false) ∧ B < Wd.heap.size) ∧ Hid (RtD w0 w B G N T R (.returned (.tuple #[])) ((Wd.setCell ⟨B, 3, none⟩ (.int .i64 y)).setCell ⟨B, 4, none⟩ (.int .i64 y1)))) := fun W Wd hS hK hd => by
    have hS2 := hS.next (Below.refl _ _).drew
    rw [hd] at hS2
    obtain ⟨⟨_, _, _, z3, z4⟩, _, hf, hlt⟩ := HC.out Wd false hS2
    have hk : KeepW (NotBG B G) W Wd := by rw [← hd]; exact keep_drew _ _
    rw [hRe]
    obtain ⟨a1, a2⟩ := hS2.row_ y
    obtain ⟨b1, b2⟩ := a1.col_ y1
    exact ⟨⟨z3, z4, hf, hlt⟩, rfl, G, cap, .inl rfl, b1, ((hK.trans hk).trans a2).trans b2⟩
  have HS := Lib.hid h
  have HSM : Hid (∀ y, y = max K 1 → (.int .i64 y : Value) = .int .i64 s) := fun y hy => by rw [hy, hs]
  obtain ⟨⟨x0, x1, _, x3, x4⟩, x10, _, hlt⟩ := HC.out w t.waits h
  rw [hwt] at x10
  clear h hok hE hR hRe hz hy hz1 hy1 hK1 hN hrow hcol hrows hcols hr hc hq ha hK hs hNmn hN2 h9 hl hroom hrm hcn
  go_enter Tryz.func35, Tryz.ntmps35
  go_upto_region 1 with (fail)
  go_fit (HP.out _ (KeepW.refl _ _))
  rintro e w1 ⟨rfl, rfl⟩
  go_upto_region 1 with (fail)
  go_cut [7] from 11 (fun s7 W => s7 = .int .i64 s ∧ W = w1)
  case first =>
    go_wp2_with fail
    all_goals (go_meet; exact ⟨HSM.out _ (by omega), rfl⟩)
  case rest =>
    obtain ⟨rfl, hwc⟩ := hcut
    have hwc := hwc.symm
    subst hwc
    clear HSM HP
    go_upto_region 3 with (fail)
    go_quiet (fail)
    obtain ⟨W2, hW2⟩ : ∃ W2, w1.drewN nq = W2 := ⟨_, rfl⟩
    have hb2 : Below w1.heap.size w1 W2 := by rw [← hW2]; exact below_drewN (Below.refl _ _) nq
    try rw [hW2]
    have HS2 := Lib.hid (HS.out.next hb2)
    have HK2 : Hid (KeepW (NotBG B G) w1 W2) := keep_below _ hb2
    clear x0 x1 x3 x4 x10 hlt hb2 hW2 HS wq wa
    obtain ⟨_, x10, hf, hlt⟩ := HC.out W2 t.waits HS2.out
    have f10 := hf 10
    rw [hwt] at x10
    have H3 := Lib.hid (HW3.out W2 HS2.out HK2.out)
    clear hf HW3 HS2 HK2
    go_upto_region 3 with (fail)
    go_cut [2] from 43 (fun s2 W4 => s2 = .int .u8 72 ∧ Hid (RtS w0 W4 B G N cap T { t with waits := false } ∧ KeepW (NotBG B G) w1 W4))
    case first =>
      cases wt
      all_goals (go_wp2_with fail; go_meet; exact ⟨rfl, H3⟩)
    case rest =>
      obtain ⟨rfl, HR⟩ := hcut
      have HS4 := Lib.hid HR.out.1
      have HK4 := Lib.hid HR.out.2
      clear HR H3 x10 f10 hlt
      have HZ := Lib.hid (HEnd.out wc wc.drew HS4.out HK4.out rfl)
      have HP2 := Lib.hid (HP1.out wc.drew (HK4.out.trans (keep_drew _ _)))
      obtain ⟨⟨x0, x1, _, x3, x4⟩, _, _, hlt⟩ := HC.out wc false HS4.out
      clear HEnd HS4 HK4 HC HP1
      go_wp2_with fail
      go_region_law (first | (go_simp; go_at_call 69; go_must (go_fit (HP2.out)); rintro e w5 ⟨rfl, rfl⟩) | (go_simp; go_at_call 70; first | (go_fit (HWi.out _); rintro e w5 ⟨rfl, rfl⟩) | (go_fit (HWj.out _); rintro e w5 ⟨rfl, rfl⟩)))
      all_goals (go_wp2_with fail; go_end0; exact HZ.out.2.out)
end
end Go.Proofs.YtpkjaallhhjleaaGreatDoor
