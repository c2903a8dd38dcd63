/-
  undo: step: what it returns, and what it leaves: back, and forth.
-/
import Derived.Test.YtpkfmhggaiifgaaUnDo
namespace Go.Proofs.Ytpkfmhggaiifgaa
open Go.RowKit

theorem pushU_len1 (l : List St) (p : St) : (pushU l p).length ≤ l.length + 1 := by
  unfold pushU
  rw [List.length_append, List.length_drop, List.length_cons, List.length_nil]; omega

section
variable {ok : Nat → Prop} {U : Nat} {u : US} {a d : Value}
theorem ustep_back_none (w : World) (h : UndoW ok w U u a d) (h0 : u.was = []) :
    Calls Try.prog 25 #[.pointer (some ⟨U, 0, none⟩), .pointer (some ⟨U, 2, none⟩), .pointer (some ⟨U, 3, none⟩)] w fun e w' => e = .returned (.tuple #[.pointer none, .int .i64 0, .bool false]) ∧ w' = w := by
  obtain ⟨⟨_, _, c2, c3, _⟩, _⟩ := h.blk.cells
  have hr := h.was.1
  rw [h0] at hr
  obtain ⟨ao, cap, rfl, _⟩ := hr
  clear h h0
  go_enter Try.func25, Try.ntmps25
  go_wp2
  go_ret3
  exact ⟨rfl, rfl⟩

set_option maxHeartbeats 2000000 in
theorem ustep_back_some {ps : List St} {p : St} (w : World) (h : UndoW ok w U u a d) (h0 : u.was = ps ++ [p]) (hok : ∀ k, w.heap.size ≤ k → ok k) :
    Calls Try.prog 25 #[.pointer (some ⟨U, 0, none⟩), .pointer (some ⟨U, 2, none⟩), .pointer (some ⟨U, 3, none⟩)] w fun e w' => e = .returned (.tuple #[.pointer (some ⟨p.1, 0, none⟩), .int .i64 p.2.2, .bool true]) ∧ (∃ a' d', UndoW ok w' U (undoU u p) a' d') ∧ KeepW (fun k => k ≠ U) w w' := by
  have hk : blk5 w U (.pointer (some ⟨u.now.1, 0, none⟩)) (.int .i64 u.now.2.2) a d (.int .i64 u.group) := h.blk
  have hlt := hk.lt
  have hfew := h.few
  rw [h0, List.length_append, List.length_cons, List.length_nil] at hfew
  have hrow := h.was
  rw [h0] at hrow
  obtain ⟨m, hm⟩ : ∃ m, ps.length = m := ⟨_, rfl⟩
  have hm1 : (ps ++ [p]).length = m + 1 := by rw [List.length_append, hm]; rfl
  have hat := stC_at (ps ++ [p]) m p (by rw [← hm]; simp)
  obtain ⟨g, o, cap, hv, hcap, hg, hcell⟩ := hrow.1.at_ hat.1
  rw [hm1] at hv hcap
  have e0 := hcell _ _ hat.1
  have e1 := hcell _ _ hat.2
  rw [← Nat.add_assoc] at e1
  subst hv
  have hgU : g ≠ U := fun e => h.out (by rw [← e]; exact hg)
  have hps : StatesW ok w (.slice (some ⟨g, o, none⟩) m cap) ps := by
    refine ⟨?_, fun q hq => hrow.2 q (List.mem_append_left _ hq)⟩
    have h1 := hrow.1
    rw [hm1] at h1
    have h2 := RowV.take (k := m) (c2 := cap) 2 h1 (by omega)
    rw [stC_take, ← hm, List.take_left, hm] at h2
    rw [hm]
    exact h2
  have m1 : (0 : Int) ≤ (m : Int) := by omega
  have m2 : (m : Int) + 1 ≤ (cap : Int) := by omega
  have m3 : (m : Int) ≤ 100 := by omega
  obtain ⟨⟨c0, c1, c2, c3, c4⟩, f⟩ := hk.cells
  have H3 : Hid (∀ W, Below w.heap.size w W → Calls Try.prog 28 #[d, .agg #[.pointer (some ⟨u.now.1, 0, none⟩), .int .i64 u.now.2.2]] W fun e w' => ∃ v', e = .returned v' ∧ StatesW ok w' v' (pushU u.undone u.now) ∧ Below w.heap.size w w') := fun W hW =>
    (uwith_any u.now.1 u.now.2.1 u.now.2.2 W (h.und.keepW (keep_below ok hW)) (h.text.keepW (keep_below ok hW)) (by omega) (fun k hk => hok k (Nat.le_trans hW.size hk))).mono fun e w' ⟨v', h1, h2, h3⟩ => ⟨v', h1, h2, hW.trans (h3.mono hW.size)⟩
  have Y : Hid (∀ W v', Below w.heap.size w W → StatesW ok W v' (pushU u.undone u.now) → W.cell? ⟨U, 3, none⟩ = some d ∧ W.frozen? ⟨U, 3, none⟩ = false ∧
      (∀ X, W.setCell ⟨U, 3, none⟩ v' = X → (X.cell? ⟨U, 0, none⟩ = some (.pointer (some ⟨u.now.1, 0, none⟩)) ∧ X.cell? ⟨U, 1, none⟩ = some (.int .i64 u.now.2.2) ∧ X.cell? ⟨U, 2, none⟩ = some (.slice (some ⟨g, o, none⟩) (m + 1) cap) ∧ X.cell? ⟨U, 4, none⟩ = some (.int .i64 u.group)) ∧
        (X.frozen? ⟨U, 0, none⟩ = false ∧ X.frozen? ⟨U, 1, none⟩ = false ∧ X.frozen? ⟨U, 2, none⟩ = false ∧ X.frozen? ⟨U, 3, none⟩ = false ∧ X.frozen? ⟨U, 4, none⟩ = false) ∧
        (X.cell? ⟨g, o + m * 2, none⟩ = some (.pointer (some ⟨p.1, 0, none⟩)) ∧ X.cell? ⟨g, o + m * 2 + 1, none⟩ = some (.int .i64 p.2.2)) ∧
        (∀ Z, (X.setCell ⟨U, 0, none⟩ (.pointer (some ⟨p.1, 0, none⟩))).setCell ⟨U, 1, none⟩ (.int .i64 p.2.2) = Z → (Z.cell? ⟨U, 2, none⟩ = some (.slice (some ⟨g, o, none⟩) (m + 1) cap)) ∧
          Calls Try.prog 31 #[.slice (some ⟨g, o, none⟩) m cap] Z (fun e w' => ∃ v', e = .returned v' ∧ StatesW ok w' v' ps ∧ Below Z.heap.size Z w') ∧
          (∀ V v2, Below Z.heap.size Z V → StatesW ok V v2 ps →
            (V.cell? ⟨U, 0, none⟩ = some (.pointer (some ⟨p.1, 0, none⟩)) ∧ V.cell? ⟨U, 1, none⟩ = some (.int .i64 p.2.2) ∧ V.cell? ⟨U, 2, none⟩ = some (.slice (some ⟨g, o, none⟩) (m + 1) cap) ∧ V.cell? ⟨U, 4, none⟩ = some (.int .i64 u.group)) ∧
            (V.frozen? ⟨U, 2, none⟩ = false ∧ V.frozen? ⟨U, 4, none⟩ = false) ∧
            (∃ a' d', UndoW ok ((V.setCell ⟨U, 2, none⟩ v2).setCell ⟨U, 4, none⟩ (.int .i64 0)) U (undoU u p) a' d') ∧ KeepW (fun k => k ≠ U) w ((V.setCell ⟨U, 2, none⟩ v2).setCell ⟨U, 4, none⟩ (.int .i64 0)))))) := fun W v' hb hv => by
    have hkW : blk5 W U (.pointer (some ⟨u.now.1, 0, none⟩)) (.int .i64 u.now.2.2) (.slice (some ⟨g, o, none⟩) (m + 1) cap) d (.int .i64 u.group) := (hb.block U hlt).trans hk
    obtain ⟨⟨_, _, k2, k3, _⟩, fW⟩ := hkW.cells
    refine ⟨k3, fW 3, fun X hX => ?_⟩
    have hkX := hkW.set3 v'
    rw [hX] at hkX
    obtain ⟨⟨x0, x1, x2, x3, x4⟩, fX⟩ := hkX.cells
    have kX : ∀ ok : Nat → Prop, ¬ ok U → KeepW ok w X := fun ok ho => by rw [← hX]; exact (keep_below _ hb).trans (keep_set _ _ _ _ _ ho)
    have hvX : StatesW ok X v' (pushU u.undone u.now) := by rw [← hX]; exact hv.keepW (keep_set _ _ _ _ _ h.out)
    have hokX : ∀ k, X.heap.size ≤ k → ok k := fun k hk => hok k (Nat.le_trans (kX ok h.out).size hk)
    refine ⟨⟨x0, x1, x2, x4⟩, ⟨fX 0, fX 1, fX 2, fX 3, fX 4⟩, ⟨(kX ok h.out).cell e0 hg, (kX ok h.out).cell e1 hg⟩, fun Z hZ => ?_⟩
    have hkZ := (hkX.set0 (.pointer (some ⟨p.1, 0, none⟩))).set1 (.int .i64 p.2.2)
    rw [hZ] at hkZ
    obtain ⟨⟨_, _, z2, z3, _⟩, fZ⟩ := hkZ.cells
    have kZ : ∀ ok : Nat → Prop, ¬ ok U → KeepW ok X Z := fun ok ho => by rw [← hZ]; exact (keep_set _ _ _ _ _ ho).trans (keep_set _ _ _ _ _ ho)
    refine ⟨z2, uclone_any g o cap m Z (hps.keepW ((kX ok h.out).trans (kZ ok h.out))) hm (by omega) (fun k hk => hokX k (Nat.le_trans (kZ ok h.out).size hk)), fun V v2 hbV hv2 => ?_⟩
    have hkV : blk5 V U (.pointer (some ⟨p.1, 0, none⟩)) (.int .i64 p.2.2) (.slice (some ⟨g, o, none⟩) (m + 1) cap) v' (.int .i64 u.group) := (hbV.block U hkZ.lt).trans hkZ
    obtain ⟨⟨y0, y1, y2, y3, y4⟩, fV⟩ := hkV.cells
    have kV : ∀ ok : Nat → Prop, ¬ ok U → KeepW ok V ((V.setCell ⟨U, 2, none⟩ v2).setCell ⟨U, 4, none⟩ (.int .i64 0)) := fun ok ho => (keep_set _ _ _ _ _ ho).trans (keep_set _ _ _ _ _ ho)
    have hl2 := pushU_len1 u.undone u.now
    refine ⟨⟨y0, y1, y2, y4⟩, ⟨fV 2, fV 4⟩, ⟨v2, v', (hkV.set2 v2).set4 (.int .i64 0), h.out, ?_, (by show StatesW ok _ v2 (u.was.dropLast); rw [h0, List.dropLast_concat]; exact hv2.keepW (kV _ h.out)), hvX.keepW (((kZ _ h.out).trans (keep_below _ hbV)).trans (kV _ h.out)), (by show (u.was.dropLast).length + _ ≤ 100; rw [h0, List.dropLast_concat]; show _ + (pushU u.undone u.now).length ≤ 100; omega)⟩, (((kX _ fun k => k rfl).trans (kZ _ fun k => k rfl)).trans (keep_below _ hbV)).trans (kV _ fun k => k rfl)⟩
    exact (hrow.2 p (by simp)).keepW ((((kX _ h.out).trans (kZ _ h.out)).trans (keep_below _ hbV)).trans (kV _ h.out))
  obtain ⟨nb, hnb⟩ : ∃ nb, u.now.1 = nb := ⟨_, rfl⟩
  obtain ⟨nc, hnc⟩ : ∃ nc, u.now.2.2 = nc := ⟨_, rfl⟩
  obtain ⟨ug, hug⟩ : ∃ ug, u.group = ug := ⟨_, rfl⟩
  obtain ⟨pb, hpb⟩ : ∃ pb, p.1 = pb := ⟨_, rfl⟩
  obtain ⟨pc, hpc⟩ : ∃ pc, p.2.2 = pc := ⟨_, rfl⟩
  rw [hnb] at c0 H3 Y
  rw [hnc] at c1 H3 Y
  rw [hug] at c4 Y
  rw [hpb] at Y ⊢
  rw [hpc] at Y ⊢
  have f3 := f 3
  have G := Lib.hid hgU
  clear h h0 hk f hfew hrow hm hm1 hat hcell e0 e1 hps hok hnb hnc hug hpb hpc hgU hg
  go_enter Try.func25, Try.ntmps25
  go_wp2
  go_region_with
    ((go_at_call 28; go_must (go_fit (H3.out _ ?_)); exact ⟨rfl, rfl, rfl, Nat.le_refl _, fun _ _ => rfl⟩; rintro e w2 ⟨v2, rfl, hv2, hb2⟩; obtain ⟨q3, r3, Z⟩ := Y.out w2 v2 hb2 hv2; have HZ := Lib.hid Z; clear Z; obtain ⟨ao2, cp2, rfl, hq⟩ := hv2.1; clear hq hv2 hb2))
  all_goals
    clear H3 Y c0 c1 c2 c3 c4 f3 q3 r3
    obtain ⟨X, hX⟩ : ∃ X, w2.setCell ⟨U, 3, none⟩ (.slice ao2 (pushU u.undone u.now).length cp2) = X := ⟨_, rfl⟩
    obtain ⟨⟨x0, x1, x2, x4⟩, ⟨g0, g1, g2, g3, g4⟩, ⟨y0, y1⟩, Z⟩ := HZ.out X hX
    rw [hX]
    clear hX HZ
    obtain ⟨Z1, hZ1⟩ : ∃ Z1, (X.setCell ⟨U, 0, none⟩ (.pointer (some ⟨pb, 0, none⟩))).setCell ⟨U, 1, none⟩ (.int .i64 pc) = Z1 := ⟨_, rfl⟩
    obtain ⟨z2, C, V⟩ := Z _ hZ1
    have HC := Lib.hid C
    have HV := Lib.hid V
    have E1 := Lib.hid hZ1
    clear Z C V hZ1
    go_wp2_with fail
    rw [E1.out]
    go_fit HC.out
    rintro e V ⟨v3, rfl, hvV, hbV⟩
    obtain ⟨⟨k0, k1, k2, k4⟩, ⟨r2, r4⟩, D⟩ := HV.out V v3 hbV hvV
    obtain ⟨ao3, cp3, rfl, hq⟩ := hvV.1
    have HD := Lib.hid D
    clear hq hvV hbV D HV HC E1 x0 x1 x2 x4 g0 g1 g2 g3 g4 y0 y1 z2
    go_wp2_with fail
    go_quiet (fail)
    go_wp2
    go_ret3
    obtain ⟨⟨a', d', D1⟩, D2⟩ := HD.out
    exact ⟨rfl, ⟨a', d', D1.below (below_drewN _ _)⟩, D2.trans (keep_drewN _ _ _)⟩

theorem ustep_forth_none (w : World) (h : UndoW ok w U u a d) (h0 : u.undone = []) :
    Calls Try.prog 25 #[.pointer (some ⟨U, 0, none⟩), .pointer (some ⟨U, 3, none⟩), .pointer (some ⟨U, 2, none⟩)] w fun e w' => e = .returned (.tuple #[.pointer none, .int .i64 0, .bool false]) ∧ w' = w := by
  obtain ⟨⟨_, _, c2, c3, _⟩, _⟩ := h.blk.cells
  have hr := h.und.1
  rw [h0] at hr
  obtain ⟨ao, cap, rfl, _⟩ := hr
  clear h h0
  go_enter Try.func25, Try.ntmps25
  go_wp2
  go_ret3
  exact ⟨rfl, rfl⟩

set_option maxHeartbeats 2000000 in
theorem ustep_forth_some {ps : List St} {p : St} (w : World) (h : UndoW ok w U u a d) (h0 : u.undone = ps ++ [p]) (hok : ∀ k, w.heap.size ≤ k → ok k) :
    Calls Try.prog 25 #[.pointer (some ⟨U, 0, none⟩), .pointer (some ⟨U, 3, none⟩), .pointer (some ⟨U, 2, none⟩)] w fun e w' => e = .returned (.tuple #[.pointer (some ⟨p.1, 0, none⟩), .int .i64 p.2.2, .bool true]) ∧ (∃ a' d', UndoW ok w' U (redoU u p) a' d') ∧ KeepW (fun k => k ≠ U) w w' := by
  have hk : blk5 w U (.pointer (some ⟨u.now.1, 0, none⟩)) (.int .i64 u.now.2.2) a d (.int .i64 u.group) := h.blk
  have hlt := hk.lt
  have hfew := h.few
  rw [h0, List.length_append, List.length_cons, List.length_nil] at hfew
  have hrow := h.und
  rw [h0] at hrow
  obtain ⟨m, hm⟩ : ∃ m, ps.length = m := ⟨_, rfl⟩
  have hm1 : (ps ++ [p]).length = m + 1 := by rw [List.length_append, hm]; rfl
  have hat := stC_at (ps ++ [p]) m p (by rw [← hm]; simp)
  obtain ⟨g, o, cap, hv, hcap, hg, hcell⟩ := hrow.1.at_ hat.1
  rw [hm1] at hv hcap
  have e0 := hcell _ _ hat.1
  have e1 := hcell _ _ hat.2
  rw [← Nat.add_assoc] at e1
  subst hv
  have hgU : g ≠ U := fun e => h.out (by rw [← e]; exact hg)
  have hps : StatesW ok w (.slice (some ⟨g, o, none⟩) m cap) ps := by
    refine ⟨?_, fun q hq => hrow.2 q (List.mem_append_left _ hq)⟩
    have h1 := hrow.1
    rw [hm1] at h1
    have h2 := RowV.take (k := m) (c2 := cap) 2 h1 (by omega)
    rw [stC_take, ← hm, List.take_left, hm] at h2
    rw [hm]
    exact h2
  have m1 : (0 : Int) ≤ (m : Int) := by omega
  have m2 : (m : Int) + 1 ≤ (cap : Int) := by omega
  have m3 : (m : Int) ≤ 100 := by omega
  obtain ⟨⟨c0, c1, c2, c3, c4⟩, f⟩ := hk.cells
  have H3 : Hid (∀ W, Below w.heap.size w W → Calls Try.prog 28 #[a, .agg #[.pointer (some ⟨u.now.1, 0, none⟩), .int .i64 u.now.2.2]] W fun e w' => ∃ v', e = .returned v' ∧ StatesW ok w' v' (pushU u.was u.now) ∧ Below w.heap.size w w') := fun W hW =>
    (uwith_any u.now.1 u.now.2.1 u.now.2.2 W (h.was.keepW (keep_below ok hW)) (h.text.keepW (keep_below ok hW)) (by omega) (fun k hk => hok k (Nat.le_trans hW.size hk))).mono fun e w' ⟨v', h1, h2, h3⟩ => ⟨v', h1, h2, hW.trans (h3.mono hW.size)⟩
  have Y : Hid (∀ W v', Below w.heap.size w W → StatesW ok W v' (pushU u.was u.now) → W.cell? ⟨U, 2, none⟩ = some a ∧ W.frozen? ⟨U, 2, none⟩ = false ∧
      (∀ X, W.setCell ⟨U, 2, none⟩ v' = X → (X.cell? ⟨U, 0, none⟩ = some (.pointer (some ⟨u.now.1, 0, none⟩)) ∧ X.cell? ⟨U, 1, none⟩ = some (.int .i64 u.now.2.2) ∧ X.cell? ⟨U, 3, none⟩ = some (.slice (some ⟨g, o, none⟩) (m + 1) cap) ∧ X.cell? ⟨U, 4, none⟩ = some (.int .i64 u.group)) ∧
        (X.frozen? ⟨U, 0, none⟩ = false ∧ X.frozen? ⟨U, 1, none⟩ = false ∧ X.frozen? ⟨U, 2, none⟩ = false ∧ X.frozen? ⟨U, 3, none⟩ = false ∧ X.frozen? ⟨U, 4, none⟩ = false) ∧
        (X.cell? ⟨g, o + m * 2, none⟩ = some (.pointer (some ⟨p.1, 0, none⟩)) ∧ X.cell? ⟨g, o + m * 2 + 1, none⟩ = some (.int .i64 p.2.2)) ∧
        (∀ Z, (X.setCell ⟨U, 0, none⟩ (.pointer (some ⟨p.1, 0, none⟩))).setCell ⟨U, 1, none⟩ (.int .i64 p.2.2) = Z → (Z.cell? ⟨U, 3, none⟩ = some (.slice (some ⟨g, o, none⟩) (m + 1) cap)) ∧
          Calls Try.prog 31 #[.slice (some ⟨g, o, none⟩) m cap] Z (fun e w' => ∃ v', e = .returned v' ∧ StatesW ok w' v' ps ∧ Below Z.heap.size Z w') ∧
          (∀ V v2, Below Z.heap.size Z V → StatesW ok V v2 ps →
            (V.cell? ⟨U, 0, none⟩ = some (.pointer (some ⟨p.1, 0, none⟩)) ∧ V.cell? ⟨U, 1, none⟩ = some (.int .i64 p.2.2) ∧ V.cell? ⟨U, 3, none⟩ = some (.slice (some ⟨g, o, none⟩) (m + 1) cap) ∧ V.cell? ⟨U, 4, none⟩ = some (.int .i64 u.group)) ∧
            (V.frozen? ⟨U, 3, none⟩ = false ∧ V.frozen? ⟨U, 4, none⟩ = false) ∧
            (∃ a' d', UndoW ok ((V.setCell ⟨U, 3, none⟩ v2).setCell ⟨U, 4, none⟩ (.int .i64 0)) U (redoU u p) a' d') ∧ KeepW (fun k => k ≠ U) w ((V.setCell ⟨U, 3, none⟩ v2).setCell ⟨U, 4, none⟩ (.int .i64 0)))))) := fun W v' hb hv => by
    have hkW : blk5 W U (.pointer (some ⟨u.now.1, 0, none⟩)) (.int .i64 u.now.2.2) a (.slice (some ⟨g, o, none⟩) (m + 1) cap) (.int .i64 u.group) := (hb.block U hlt).trans hk
    obtain ⟨⟨_, _, k2, k3, _⟩, fW⟩ := hkW.cells
    refine ⟨k2, fW 2, fun X hX => ?_⟩
    have hkX := hkW.set2 v'
    rw [hX] at hkX
    obtain ⟨⟨x0, x1, x2, x3, x4⟩, fX⟩ := hkX.cells
    have kX : ∀ ok : Nat → Prop, ¬ ok U → KeepW ok w X := fun ok ho => by rw [← hX]; exact (keep_below _ hb).trans (keep_set _ _ _ _ _ ho)
    have hvX : StatesW ok X v' (pushU u.was u.now) := by rw [← hX]; exact hv.keepW (keep_set _ _ _ _ _ h.out)
    have hokX : ∀ k, X.heap.size ≤ k → ok k := fun k hk => hok k (Nat.le_trans (kX ok h.out).size hk)
    refine ⟨⟨x0, x1, x3, x4⟩, ⟨fX 0, fX 1, fX 2, fX 3, fX 4⟩, ⟨(kX ok h.out).cell e0 hg, (kX ok h.out).cell e1 hg⟩, fun Z hZ => ?_⟩
    have hkZ := (hkX.set0 (.pointer (some ⟨p.1, 0, none⟩))).set1 (.int .i64 p.2.2)
    rw [hZ] at hkZ
    obtain ⟨⟨_, _, z2, z3, _⟩, fZ⟩ := hkZ.cells
    have kZ : ∀ ok : Nat → Prop, ¬ ok U → KeepW ok X Z := fun ok ho => by rw [← hZ]; exact (keep_set _ _ _ _ _ ho).trans (keep_set _ _ _ _ _ ho)
    refine ⟨z3, uclone_any g o cap m Z (hps.keepW ((kX ok h.out).trans (kZ ok h.out))) hm (by omega) (fun k hk => hokX k (Nat.le_trans (kZ ok h.out).size hk)), fun V v2 hbV hv2 => ?_⟩
    have hkV : blk5 V U (.pointer (some ⟨p.1, 0, none⟩)) (.int .i64 p.2.2) v' (.slice (some ⟨g, o, none⟩) (m + 1) cap) (.int .i64 u.group) := (hbV.block U hkZ.lt).trans hkZ
    obtain ⟨⟨y0, y1, y2, y3, y4⟩, fV⟩ := hkV.cells
    have kV : ∀ ok : Nat → Prop, ¬ ok U → KeepW ok V ((V.setCell ⟨U, 3, none⟩ v2).setCell ⟨U, 4, none⟩ (.int .i64 0)) := fun ok ho => (keep_set _ _ _ _ _ ho).trans (keep_set _ _ _ _ _ ho)
    have hl2 := pushU_len1 u.was u.now
    refine ⟨⟨y0, y1, y3, y4⟩, ⟨fV 3, fV 4⟩, ⟨v', v2, (hkV.set3 v2).set4 (.int .i64 0), h.out, ?_, hvX.keepW (((kZ _ h.out).trans (keep_below _ hbV)).trans (kV _ h.out)), (by show StatesW ok _ v2 (u.undone.dropLast); rw [h0, List.dropLast_concat]; exact hv2.keepW (kV _ h.out)), (by show _ + (u.undone.dropLast).length ≤ 100; rw [h0, List.dropLast_concat]; show (pushU u.was u.now).length + _ ≤ 100; omega)⟩, (((kX _ fun k => k rfl).trans (kZ _ fun k => k rfl)).trans (keep_below _ hbV)).trans (kV _ fun k => k rfl)⟩
    exact (hrow.2 p (by simp)).keepW ((((kX _ h.out).trans (kZ _ h.out)).trans (keep_below _ hbV)).trans (kV _ h.out))
  obtain ⟨nb, hnb⟩ : ∃ nb, u.now.1 = nb := ⟨_, rfl⟩
  obtain ⟨nc, hnc⟩ : ∃ nc, u.now.2.2 = nc := ⟨_, rfl⟩
  obtain ⟨ug, hug⟩ : ∃ ug, u.group = ug := ⟨_, rfl⟩
  obtain ⟨pb, hpb⟩ : ∃ pb, p.1 = pb := ⟨_, rfl⟩
  obtain ⟨pc, hpc⟩ : ∃ pc, p.2.2 = pc := ⟨_, rfl⟩
  rw [hnb] at c0 H3 Y
  rw [hnc] at c1 H3 Y
  rw [hug] at c4 Y
  rw [hpb] at Y ⊢
  rw [hpc] at Y ⊢
  have f2 := f 2
  have G := Lib.hid hgU
  clear h h0 hk f hfew hrow hm hm1 hat hcell e0 e1 hps hok hnb hnc hug hpb hpc hgU hg
  go_enter Try.func25, Try.ntmps25
  go_wp2
  go_region_with
    ((go_at_call 28; go_must (go_fit (H3.out _ ?_)); exact ⟨rfl, rfl, rfl, Nat.le_refl _, fun _ _ => rfl⟩; rintro e w2 ⟨v2, rfl, hv2, hb2⟩; obtain ⟨q2, r2, Z⟩ := Y.out w2 v2 hb2 hv2; have HZ := Lib.hid Z; clear Z; obtain ⟨ao2, cp2, rfl, hq⟩ := hv2.1; clear hq hv2 hb2))
  all_goals
    clear H3 Y c0 c1 c2 c3 c4 f2 q2 r2
    obtain ⟨X, hX⟩ : ∃ X, w2.setCell ⟨U, 2, none⟩ (.slice ao2 (pushU u.was u.now).length cp2) = X := ⟨_, rfl⟩
    obtain ⟨⟨x0, x1, x3, x4⟩, ⟨g0, g1, g2, g3, g4⟩, ⟨y0, y1⟩, Z⟩ := HZ.out X hX
    rw [hX]
    clear hX HZ
    obtain ⟨Z1, hZ1⟩ : ∃ Z1, (X.setCell ⟨U, 0, none⟩ (.pointer (some ⟨pb, 0, none⟩))).setCell ⟨U, 1, none⟩ (.int .i64 pc) = Z1 := ⟨_, rfl⟩
    obtain ⟨z3, C, V⟩ := Z _ hZ1
    have HC := Lib.hid C
    have HV := Lib.hid V
    have E1 := Lib.hid hZ1
    clear Z C V hZ1
    go_wp2_with fail
    rw [E1.out]
    go_fit HC.out
    rintro e V ⟨v3, rfl, hvV, hbV⟩
    obtain ⟨⟨k0, k1, k3, k4⟩, ⟨r3, r4⟩, D⟩ := HV.out V v3 hbV hvV
    obtain ⟨ao3, cp3, rfl, hq⟩ := hvV.1
    have HD := Lib.hid D
    clear hq hvV hbV D HV HC E1 x0 x1 x3 x4 g0 g1 g2 g3 g4 y0 y1 z3
    go_wp2_with fail
    go_quiet (fail)
    go_wp2
    go_ret3
    obtain ⟨⟨a', d', D1⟩, D2⟩ := HD.out
    exact ⟨rfl, ⟨a', d', D1.below (below_drewN _ _)⟩, D2.trans (keep_drewN _ _ _)⟩

end
end Go.Proofs.Ytpkfmhggaiifgaa
