/-
  limnerref08: sequence: m.
-/
import Derived.Deep.RegionLaw
import Derived.Test.YtpkjaallhhjleaaGreatDoorBe38
import Derived.Test.YtpkjaallhhjleaaGreatDoorBe20
namespace Go.Proofs.YtpkjaallhhjleaaGreatDoor
open Go.RowKit

section
variable {w0 : World} {B G N cap : Nat} {T : ByteArray} {t : Tm}
set_option maxRecDepth 20000 in
set_option maxHeartbeats 8000000 in
theorem rtseq_109e {m n : Nat} {v : Value} {l : List Nat} (w : World) (h : RtS w0 w B G N cap T t) (hok : OkF t.f m n) (hN : NumsW (NotBG B G) w v l) (hl : l.length ≤ 1000) (h9 : ∀ x ∈ l, x ≤ 9999) (h0 : l = []) :
    Calls Tryz.prog 35 #[.pointer (some ⟨B, 0, none⟩), v, .int .u8 109] w (RtD w0 w B G N T (seqT t l 109)) := by
  have hm := hok.hm
  have hn := hok.hn
  have hrow := hok.row
  have hcol := hok.col
  have hrows := hok.rows
  have hcols := hok.cols
  have hk0 := getd_le h9 0
  have hk1 := getd_le h9 1
  have HP : Hid (∀ W, KeepW (NotBG B G) w W → Calls Tryz.prog 69 #[v, .int .i64 0] W fun e w' => e = .returned (.int .i64 ((l.getD 0 0 : Nat) : Int)) ∧ w' = W) := fun W hW => rnumber_any 0 W (hN.keep hW) (by omega) (by omega)
  have hE : seqT t l 109 = { t with sty := stysN t.sty l } := by
    unfold seqT
    dsimp only
    rfl
  rw [hE]
  obtain ⟨r, hr⟩ : ∃ r : Nat, t.f.row = (r : Int) := ⟨t.f.row.toNat, by omega⟩
  obtain ⟨c, hc⟩ : ∃ c : Nat, t.f.col = (c : Int) := ⟨t.f.col.toNat, by omega⟩
  have hrm : r < m := by omega
  have hcn : c < n := by omega
  have hroom := row_room (n := n) hrm
  have hNmn : m * n = N := by rw [← hok.len, h.len]
  have hN2 : N ≤ 20000 := by rw [← h.len]; exact hok.room
  rw [hNmn] at hroom
  obtain ⟨q, hq⟩ : ∃ q, r * n = q := ⟨_, rfl⟩
  rw [hq] at hroom
  obtain ⟨a, ha⟩ : ∃ a, q + c = a := ⟨_, rfl⟩
  have hac : a < N := by omega
  have wq : IntKind.i64.wrap ((r : Int) * (n : Int)) = (q : Int) := by rw [← Int.natCast_mul, hq]; exact IntWalk.i64_in _ (by omega)
  have wa : IntKind.i64.wrap ((q : Int) + (c : Int)) = (a : Int) := by rw [← Int.natCast_add, ha]; exact IntWalk.i64_in _ (by omega)
  obtain ⟨K, hK⟩ : ∃ K : Int, ((l.getD 0 0 : Nat) : Int) = K := ⟨_, rfl⟩
  have hKb : 0 ≤ K ∧ K ≤ 9999 := by omega
  rw [hK] at HP
  obtain ⟨s, hs⟩ : ∃ s : Int, max K 1 = s := ⟨_, rfl⟩
  have hsb : 1 ≤ s ∧ s ≤ 9999 := by omega
  obtain ⟨wt, hwt⟩ : ∃ x, t.waits = x := ⟨_, rfl⟩
  have HC : Hid (∀ W X, RtS w0 W B G N cap T { t with waits := X } → (W.cell? ⟨B, 0, none⟩ = some (.int .i64 (m : Int)) ∧ W.cell? ⟨B, 1, none⟩ = some (.int .i64 (n : Int)) ∧ W.cell? ⟨B, 2, none⟩ = some (.slice (some ⟨G, 0, none⟩) N cap) ∧ W.cell? ⟨B, 3, none⟩ = some (.int .i64 (r : Int)) ∧ W.cell? ⟨B, 4, none⟩ = some (.int .i64 (c : Int))) ∧ W.cell? ⟨B, 10, none⟩ = some (.bool X) ∧ (∀ i, W.frozen? ⟨B, i, none⟩ = false) ∧ B < W.heap.size) := fun W X hS => by
    have hb := hS.box.cells
    dsimp only at hb
    rw [hrows, hcols, hr, hc] at hb
    exact ⟨hb.1, hb.2.1.2.1, hb.2.2.2, hS.box.lt⟩
  have HW3 : Hid (∀ W, RtS w0 W B G N cap T t → KeepW (NotBG B G) w W → RtS w0 (W.setCell ⟨B, 10, none⟩ (.bool wt)) B G N cap T { t with waits := wt } ∧ KeepW (NotBG B G) w (W.setCell ⟨B, 10, none⟩ (.bool wt))) := fun W hS hK => ⟨(hS.waits_ wt).1, hK.trans (hS.waits_ wt).2⟩
  have HTT : Hid (({ t with waits := wt } : Tm) = t) := by show _ = _; rw [← hwt]
  subst h0
  have hv := hN.2 rfl
  subst hv
  have HEnd : Hid (∀ W, RtS w0 W B G N cap T t → KeepW (NotBG B G) w W → ((W.cell? ⟨B, 6, none⟩ = some (.int .i64 t.sty.1) ∧ W.cell? ⟨B, 7, none⟩ = some (.bool t.sty.2.1) ∧ W.cell? ⟨B, 8, none⟩ = some (.bool t.sty.2.2.1) ∧ W.cell? ⟨B, 9, none⟩ = some (.bool t.sty.2.2.2)) ∧ (∀ i, W.frozen? ⟨B, i, none⟩ = false) ∧ B < W.heap.size) ∧ Hid (RtD w0 w B G N T { t with sty := stysN t.sty [] } (.returned (.tuple #[])) (((((W.setCell ⟨B, 6, none⟩ (.int .i64 0)).setCell ⟨B, 7, none⟩ (.bool false)).setCell ⟨B, 8, none⟩ (.bool false)).setCell ⟨B, 9, none⟩ (.bool false))))) := fun W hS hK =>
    ⟨⟨hS.box.cells.2.2.1, hS.box.cells.2.2.2, hS.box.lt⟩, rfl, G, cap, .inl rfl, (hS.sty_ sty0).1, hK.trans (hS.sty_ sty0).2⟩
  have HS := Lib.hid h
  have HSM : Hid (∀ y, y = max K 1 → (.int .i64 y : Value) = .int .i64 s) := fun y hy => by rw [hy, hs]
  obtain ⟨⟨x0, x1, _, x3, x4⟩, x10, _, hlt⟩ := HC.out w t.waits h
  rw [hwt] at x10
  clear h hok hE hN hrow hcol hrows hcols hr hc hq ha hK hs hNmn hN2 h9 hl hroom hrm hcn
  go_enter Tryz.func35, Tryz.ntmps35
  go_upto_region 1 with (fail)
  go_fit (HP.out _ (KeepW.refl _ _))
  rintro e w1 ⟨rfl, rfl⟩
  go_upto_region 1 with (fail)
  go_cut [7] from 11 (fun s7 W => s7 = .int .i64 s ∧ W = w1)
  case first =>
    go_wp2_with fail
    all_goals (go_meet; exact ⟨HSM.out _ (by omega), rfl⟩)
  case rest =>
    obtain ⟨rfl, hwc⟩ := hcut
    have hwc := hwc.symm
    subst hwc
    clear HSM HP
    go_upto_region 3 with (fail)
    go_quiet (fail)
    obtain ⟨W2, hW2⟩ : ∃ W2, w1.drewN nq = W2 := ⟨_, rfl⟩
    have hb2 : Below w1.heap.size w1 W2 := by rw [← hW2]; exact below_drewN (Below.refl _ _) nq
    try rw [hW2]
    have HS2 := Lib.hid (HS.out.next hb2)
    have HK2 : Hid (KeepW (NotBG B G) w1 W2) := keep_below _ hb2
    clear x0 x1 x3 x4 x10 hlt hb2 hW2 HS wq wa
    obtain ⟨_, x10, hf, hlt⟩ := HC.out W2 t.waits HS2.out
    have f10 := hf 10
    rw [hwt] at x10
    have H3 := Lib.hid (HW3.out W2 HS2.out HK2.out)
    clear hf HW3 HS2 HK2
    go_upto_region 3 with (fail)
    go_cut [2] from 43 (fun s2 W4 => s2 = .int .u8 109 ∧ Hid (RtS w0 W4 B G N cap T { t with waits := wt } ∧ KeepW (NotBG B G) w1 W4))
    case first =>
      cases wt
      all_goals (go_wp2_with fail; go_meet; exact ⟨rfl, H3⟩)
    case rest =>
      obtain ⟨rfl, HR⟩ := hcut
      have HS4 : Hid (RtS w0 wc B G N cap T t) := by have hx := HR.out.1; rwa [HTT.out] at hx
      have HK4 := Lib.hid HR.out.2
      clear HR H3 x10 f10 hlt
      obtain ⟨⟨⟨x6, x7, x8, x9⟩, hf, hlt⟩, HZ⟩ := HEnd.out wc HS4.out HK4.out
      have f6 := hf 6
      have f7 := hf 7
      have f8 := hf 8
      have f9 := hf 9
      clear HC HS4 HK4 HEnd HTT hf
      go_wp2_with fail
      obtain ⟨W5, hW5⟩ : ∃ W5, (((((wc.setCell ⟨B, 6, none⟩ (.int .i64 0)).setCell ⟨B, 7, none⟩ (.bool false)).setCell ⟨B, 8, none⟩ (.bool false)).setCell ⟨B, 9, none⟩ (.bool false))) = W5 := ⟨_, rfl⟩
      rw [hW5] at HZ
      try rw [hW5]
      clear hW5 x6 x7 x8 x9 f6 f7 f8 f9 hlt
      go_loopw [10] (fun s10 wr => s10 = .int .i64 0 ∧ wr = W5) (fun _ _ => 0)
      case atStart => exact ⟨rfl, rfl⟩
      case round =>
        obtain ⟨rfl, rfl⟩ := hrel
        go_wp2_with fail
        go_end0
        exact HZ.out
set_option maxRecDepth 20000 in
set_option maxHeartbeats 8000000 in
theorem rtseq_109s {m n : Nat} {v : Value} {l : List Nat} (w : World) (h : RtS w0 w B G N cap T t) (hok : OkF t.f m n) (hN : NumsW (NotBG B G) w v l) (hl : l.length ≤ 1000) (h9 : ∀ x ∈ l, x ≤ 9999) (h0 : ¬ l = []) :
    Calls Tryz.prog 35 #[.pointer (some ⟨B, 0, none⟩), v, .int .u8 109] w (RtD w0 w B G N T (seqT t l 109)) := by
  have hm := hok.hm
  have hn := hok.hn
  have hrow := hok.row
  have hcol := hok.col
  have hrows := hok.rows
  have hcols := hok.cols
  have hk0 := getd_le h9 0
  have hk1 := getd_le h9 1
  have HP : Hid (∀ W, KeepW (NotBG B G) w W → Calls Tryz.prog 69 #[v, .int .i64 0] W fun e w' => e = .returned (.int .i64 ((l.getD 0 0 : Nat) : Int)) ∧ w' = W) := fun W hW => rnumber_any 0 W (hN.keep hW) (by omega) (by omega)
  have hE : seqT t l 109 = { t with sty := stysN t.sty l } := by
    unfold seqT
    dsimp only
    rfl
  rw [hE]
  obtain ⟨r, hr⟩ : ∃ r : Nat, t.f.row = (r : Int) := ⟨t.f.row.toNat, by omega⟩
  obtain ⟨c, hc⟩ : ∃ c : Nat, t.f.col = (c : Int) := ⟨t.f.col.toNat, by omega⟩
  have hrm : r < m := by omega
  have hcn : c < n := by omega
  have hroom := row_room (n := n) hrm
  have hNmn : m * n = N := by rw [← hok.len, h.len]
  have hN2 : N ≤ 20000 := by rw [← h.len]; exact hok.room
  rw [hNmn] at hroom
  obtain ⟨q, hq⟩ : ∃ q, r * n = q := ⟨_, rfl⟩
  rw [hq] at hroom
  obtain ⟨a, ha⟩ : ∃ a, q + c = a := ⟨_, rfl⟩
  have hac : a < N := by omega
  have wq : IntKind.i64.wrap ((r : Int) * (n : Int)) = (q : Int) := by rw [← Int.natCast_mul, hq]; exact IntWalk.i64_in _ (by omega)
  have wa : IntKind.i64.wrap ((q : Int) + (c : Int)) = (a : Int) := by rw [← Int.natCast_add, ha]; exact IntWalk.i64_in _ (by omega)
  obtain ⟨K, hK⟩ : ∃ K : Int, ((l.getD 0 0 : Nat) : Int) = K := ⟨_, rfl⟩
  have hKb : 0 ≤ K ∧ K ≤ 9999 := by omega
  rw [hK] at HP
  obtain ⟨s, hs⟩ : ∃ s : Int, max K 1 = s := ⟨_, rfl⟩
  have hsb : 1 ≤ s ∧ s ≤ 9999 := by omega
  obtain ⟨wt, hwt⟩ : ∃ x, t.waits = x := ⟨_, rfl⟩
  have HC : Hid (∀ W X, RtS w0 W B G N cap T { t with waits := X } → (W.cell? ⟨B, 0, none⟩ = some (.int .i64 (m : Int)) ∧ W.cell? ⟨B, 1, none⟩ = some (.int .i64 (n : Int)) ∧ W.cell? ⟨B, 2, none⟩ = some (.slice (some ⟨G, 0, none⟩) N cap) ∧ W.cell? ⟨B, 3, none⟩ = some (.int .i64 (r : Int)) ∧ W.cell? ⟨B, 4, none⟩ = some (.int .i64 (c : Int))) ∧ W.cell? ⟨B, 10, none⟩ = some (.bool X) ∧ (∀ i, W.frozen? ⟨B, i, none⟩ = false) ∧ B < W.heap.size) := fun W X hS => by
    have hb := hS.box.cells
    dsimp only at hb
    rw [hrows, hcols, hr, hc] at hb
    exact ⟨hb.1, hb.2.1.2.1, hb.2.2.2, hS.box.lt⟩
  have HW3 : Hid (∀ W, RtS w0 W B G N cap T t → KeepW (NotBG B G) w W → RtS w0 (W.setCell ⟨B, 10, none⟩ (.bool wt)) B G N cap T { t with waits := wt } ∧ KeepW (NotBG B G) w (W.setCell ⟨B, 10, none⟩ (.bool wt))) := fun W hS hK => ⟨(hS.waits_ wt).1, hK.trans (hS.waits_ wt).2⟩
  have HTT : Hid (({ t with waits := wt } : Tm) = t) := by show _ = _; rw [← hwt]
  obtain ⟨ao, cp, rfl, hcp, _⟩ := hN.1
  obtain ⟨ln, hln⟩ : ∃ q, l.length = q := ⟨_, rfl⟩
  rw [hln] at hN HP hcp hl ⊢
  have hl2 := hl
  have hq0 : ((ln : Int) == 0) = false := by
    rw [beq_eq_false_iff_ne]
    intro e
    exact h0 (List.eq_nil_of_length_eq_zero (by omega))
  have HQ := Lib.hid hln
  have HN := Lib.hid hN
  have HT : Hid (∀ i wr, i < ln → RtS w0 wr B G N cap T { t with sty := (l.take i).foldl styN t.sty } → KeepW (NotBG B G) w wr → ∃ (g o x : Nat) (s : Sty), ao = some ⟨g, o, none⟩ ∧ wr.cell? ⟨g, o + i, none⟩ = some (.int .i64 (x : Int)) ∧ ((wr.cell? ⟨B, 6, none⟩ = some (.int .i64 s.1) ∧ wr.cell? ⟨B, 7, none⟩ = some (.bool s.2.1) ∧ wr.cell? ⟨B, 8, none⟩ = some (.bool s.2.2.1) ∧ wr.cell? ⟨B, 9, none⟩ = some (.bool s.2.2.2)) ∧ B < wr.heap.size) ∧
      Calls Tryz.prog 72 #[.agg #[.int .i64 s.1, .bool s.2.1, .bool s.2.2.1, .bool s.2.2.2], .int .i64 (x : Int)] wr.drew fun e w' => ∃ u : Sty, e = .returned (.agg #[.int .i64 u.1, .bool u.2.1, .bool u.2.2.1, .bool u.2.2.2]) ∧ (B < w'.heap.size ∧ (w'.cell? ⟨B, 6, none⟩ = some (.int .i64 s.1) ∧ w'.cell? ⟨B, 7, none⟩ = some (.bool s.2.1) ∧ w'.cell? ⟨B, 8, none⟩ = some (.bool s.2.2.1) ∧ w'.cell? ⟨B, 9, none⟩ = some (.bool s.2.2.2)) ∧ ∀ k, w'.frozen? ⟨B, k, none⟩ = false) ∧
        Hid (RtS w0 (setStyR w' B u) B G N cap T { t with sty := (l.take (i + 1)).foldl styN t.sty } ∧ KeepW (NotBG B G) w (setStyR w' B u))) := fun i wr hi hS hK => by
    obtain ⟨x, hx⟩ : ∃ x, l[i]? = some x := ⟨_, List.getElem?_eq_getElem (by rw [HQ.out]; exact hi)⟩
    have hN2 := HN.out.keep hK
    obtain ⟨g, o, cp2, he, hc⟩ := nums_at hN2 hx
    injection he with e1 e2 e3
    have hx2 := stys_take t.sty l i x hx
    obtain ⟨s, hs⟩ : ∃ s, (l.take i).foldl styN t.sty = s := ⟨_, rfl⟩
    obtain ⟨u, hu⟩ : ∃ u, (l.take (i + 1)).foldl styN t.sty = u := ⟨_, rfl⟩
    rw [hs] at hS hx2
    rw [hu] at hx2 ⊢
    have hst := hS.box.cells.2.2.1
    have hC := rlook_any s x wr.drew
    rw [hx2] at hC
    refine ⟨g, o, x, s, e1, hc, ⟨hst, hS.box.lt⟩, hC.mono fun e w' ⟨k1, k2⟩ => ⟨u, k1, ?_, ?_⟩⟩
    · have h2 := hS.next ((Below.refl _ _).drew.trans (k2.mono (Nat.le_refl _)))
      exact ⟨h2.box.lt, h2.box.cells.2.2.1, h2.box.cells.2.2.2⟩
    · have h3 : Below wr.heap.size wr w' := (Below.refl _ _).drew.trans (k2.mono (Nat.le_refl _))
      have h2 := hS.next h3
      obtain ⟨a1, a2⟩ := h2.sty_ u
      exact ⟨a1, (hK.trans (keep_below _ h3)).trans a2⟩
  have HE0 : Hid (stysN t.sty l = (l.take ln).foldl styN t.sty) := by
    show _ = _
    unfold stysN
    rw [if_neg h0, ← HQ.out, List.take_length]
  rw [HE0.out]
  have HS := Lib.hid h
  have HSM : Hid (∀ y, y = max K 1 → (.int .i64 y : Value) = .int .i64 s) := fun y hy => by rw [hy, hs]
  obtain ⟨⟨x0, x1, _, x3, x4⟩, x10, _, hlt⟩ := HC.out w t.waits h
  rw [hwt] at x10
  clear h hok hE hln h0 HN HQ HE0 hN hrow hcol hrows hcols hr hc hq ha hK hs hNmn hN2 h9 hl hroom hrm hcn
  go_enter Tryz.func35, Tryz.ntmps35
  go_upto_region 1 with (fail)
  go_fit (HP.out _ (KeepW.refl _ _))
  rintro e w1 ⟨rfl, rfl⟩
  go_upto_region 1 with (fail)
  go_cut [7] from 11 (fun s7 W => s7 = .int .i64 s ∧ W = w1)
  case first =>
    go_wp2_with fail
    all_goals (go_meet; exact ⟨HSM.out _ (by omega), rfl⟩)
  case rest =>
    obtain ⟨rfl, hwc⟩ := hcut
    have hwc := hwc.symm
    subst hwc
    clear HSM HP
    go_upto_region 3 with (fail)
    go_quiet (fail)
    obtain ⟨W2, hW2⟩ : ∃ W2, w1.drewN nq = W2 := ⟨_, rfl⟩
    have hb2 : Below w1.heap.size w1 W2 := by rw [← hW2]; exact below_drewN (Below.refl _ _) nq
    try rw [hW2]
    have HS2 := Lib.hid (HS.out.next hb2)
    have HK2 : Hid (KeepW (NotBG B G) w1 W2) := keep_below _ hb2
    clear x0 x1 x3 x4 x10 hlt hb2 hW2 HS wq wa
    obtain ⟨_, x10, hf, hlt⟩ := HC.out W2 t.waits HS2.out
    have f10 := hf 10
    rw [hwt] at x10
    have H3 := Lib.hid (HW3.out W2 HS2.out HK2.out)
    clear hf HW3 HS2 HK2
    go_upto_region 3 with (fail)
    go_cut [2] from 43 (fun s2 W4 => s2 = .int .u8 109 ∧ Hid (RtS w0 W4 B G N cap T { t with waits := wt } ∧ KeepW (NotBG B G) w1 W4))
    case first =>
      cases wt
      all_goals (go_wp2_with fail; go_meet; exact ⟨rfl, H3⟩)
    case rest =>
      obtain ⟨rfl, HR⟩ := hcut
      have H0 : Hid (RtS w0 wc B G N cap T { t with sty := (l.take 0).foldl styN t.sty } ∧ KeepW (NotBG B G) w1 wc) := by have hx := HR.out.1; rw [HTT.out] at hx; exact ⟨hx, HR.out.2⟩
      clear HR H3 x10 f10 hlt
      clear HC HTT
      go_wp2_with fail
      go_loopw [10] (fun s10 wr => ∃ i : Nat, s10 = .int .i64 (i : Int) ∧ i ≤ ln ∧ Hid (RtS w0 wr B G N cap T { t with sty := (l.take i).foldl styN t.sty } ∧ KeepW (NotBG B G) w1 wr)) (fun s10 _ => ln - (intOf s10).toNat)
      case atStart => exact ⟨0, rfl, Nat.zero_le _, H0⟩
      case round =>
        obtain ⟨i, rfl, hiq, HI⟩ := hrel
        clear H0
        rcases Nat.lt_or_ge i ln with hlt | hge
        · obtain ⟨g, o, x, s8, rfl, hx, ⟨⟨y5, y6, y7, y8⟩, hlB0⟩, hC⟩ := HT.out i wr hlt HI.out.1 HI.out.2
          have HC8 := Lib.hid hC
          have j0 : (i : Int) < (ln : Int) := by omega
          have j1 : (0 : Int) ≤ (i : Int) := by omega
          clear HT HI hC
          go_wp2_with fail
          go_region_law (first | (go_simp; go_at_call 72; go_must (go_fit (HC8.out)); rintro e w8 ⟨u, rfl, ⟨hlB, ⟨z5, z6, z7, z8⟩, hfz⟩, HX⟩; have f5 := hfz 6; have f6 := hfz 7; have f7 := hfz 8; have f8 := hfz 9; unfold setStyR at HX; clear hfz))
          all_goals (go_wp2_with fail; go_roundw; (case rel => exact ⟨i + 1, by rw [Int.natCast_add]; rfl, by omega, HX⟩); (case measure => simp only [intOf]; omega))
        · obtain rfl : i = ln := by omega
          have j0 : ¬ (i : Int) < (i : Int) := by omega
          have HD : Hid (RtD w0 w1 B G N T { t with sty := (l.take i).foldl styN t.sty, waits := wt } (.returned (.tuple #[])) wr) := ⟨rfl, G, cap, .inl rfl, by rw [← hwt]; exact HI.out.1, HI.out.2⟩
          clear HI
          go_wp2_with fail
          go_end0
          exact HD.out
end
end Go.Proofs.YtpkjaallhhjleaaGreatDoor
