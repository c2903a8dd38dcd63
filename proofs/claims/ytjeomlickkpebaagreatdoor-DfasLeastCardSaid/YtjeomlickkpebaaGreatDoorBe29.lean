/-
  Texts of this proof, one behind the other; each begins with its own remark.
-/
import Derived.Lib.SliceRun
import Derived.Deep.RegionHeld3
import Derived.Deep.OwnRows
import Derived.Test.YtjeomlickkpebaaGreatDoorBe27
import Derived.Test.YtjeomlickkpebaaGreatDoorBe8
import Derived.Test.YtjeomlickkpebaaGreatDoorBe15
import Derived.Test.YtjeomlickkpebaaGreatDoorBe28
import Derived.Test.YtjeomlickkpebaaGreatDoorBe14
/-
  slices.Clone of some of a row of numbers: what it returns. No other call is walked here.
-/
namespace Go.Proofs.YtjeomlickkpebaaGreatDoor
open Go.RowKit

def segL (f : Nat → Int) (a m : Nat) : List Int := (List.range m).map fun i => f (a + i)
theorem segL_len (f : Nat → Int) (a m : Nat) : (segL f a m).length = m := by unfold segL; rw [List.length_map, List.length_range]
theorem segL_at {f : Nat → Int} {a m j : Nat} (h : j < m) : (segL f a m)[j]? = some (f (a + j)) := by
  unfold segL
  rw [List.getElem?_map, List.getElem?_range h]
  rfl
theorem segL_get {f : Nat → Int} {a m j : Nat} {x : Int} (h : (segL f a m)[j]? = some x) : j < m ∧ x = f (a + j) := by
  have hj := (List.getElem?_eq_some_iff.1 h).1
  rw [segL_len] at hj
  rw [segL_at hj] at h
  exact ⟨hj, (Option.some.inj h).symm⟩
theorem own_rowN {N : Nat} {w : World} {v : Value} {us : List Value} {T : TypeId} (h : w.ownsRow N T 1 v us.length us) : RowZ (fun k => N ≤ k) w v us.length us := by
  obtain ⟨hl, ⟨rfl, h0⟩ | ⟨g, cap, cur, rfl, h3, hg, hn, _, _, hx⟩⟩ := h
  · have : us = [] := List.eq_nil_of_length_eq_zero h0
    subst this
    exact RowZ.nil _ _
  · refine ⟨_, cap, rfl, hn, fun j u hu => ⟨g, 0, rfl, h3, ?_⟩⟩
    rw [Nat.zero_add, cell_of_row _ _ _ cur T (0, 0) hg]
    rw [← hx, List.getElem?_take] at hu
    split at hu
    · rw [← Array.getElem?_toList]; exact hu
    · cases hu
set_option maxRecDepth 100000 in
set_option maxHeartbeats 2000000 in
theorem pclone_any {w : World} {X n a m cs : Nat} {f : Nat → Int} (h : ArrF w X n f) (hm : a + m ≤ n) (hn : n ≤ 100000) :
    Calls Tryz.prog 75 #[.slice (some ⟨X, a, none⟩) m cs] w fun e w' => ∃ v, e = .returned v ∧ IntsN w.heap.size w' v (segL f a m) ∧ Below w.heap.size w w' := by
  obtain ⟨i0, hi, hz0, hz1, hz2⟩ := info_of Tryz.infoIntN
  have he : ∀ w : World, (binOp .eql 39 (.slice (some ⟨X, a, none⟩) m cs) (.slice none 0 0)).run Tryz.prog w = .ok (.bool false) w := fun _ => rfl
  have HX := Lib.hid h
  have HI := Lib.hid hi
  have H0 := Lib.hid hz0
  have H1 := Lib.hid hz1
  have H2 := Lib.hid hz2
  have HL := Lib.hid (segL_len f a m)
  clear h hi hz0 hz1 hz2
  go_enter Tryz.func75, Tryz.ntmps75
  go_wp2_with (at_builtin; refine wpList_append_own _ rfl _ _ 39 rfl w.heap.size 3 i0 (.int .i64 0) 1 8 Tryz.underlying39 HI.out H0.out H1.out H2.out rfl (by decide) _ _ _ rfl (World.ownsRow_made w #[] 0 (Nat.le_refl _) (Nat.zero_le _) rfl) ⟨X, a, none⟩ m cs (numC (segL f a m)) rfl ?qc1 ?qc2 ?qc3 ?qc4 ?qc5 ?qc6 ?_)
  case qc1 => rw [numC_len, HL.out, Nat.mul_one]
  case qc2 =>
    intro j u hj
    unfold numC at hj
    rw [List.getElem?_map] at hj
    cases hs : (segL f a m)[j]? with
    | none => rw [hs] at hj; cases hj
    | some x =>
      rw [hs] at hj
      cases hj
      obtain ⟨h1, rfl⟩ := segL_get hs
      rw [Addr.add_lit]
      refine Lib.cell?_alloc_some _ ?_
      exact HX.out.cell (by omega)
  case qc3 =>
    intro u hu
    obtain ⟨x, _, rfl⟩ := List.mem_map.1 hu
    rfl
  case qc4 => unfold maxLen; omega
  case qc5 => omega
  case qc6 => simp
  intro v' w1 hown hgrow hnil
  have hF : Hid (IntsN w.heap.size w1 v' (segL f a m) ∧ Below w.heap.size w w1) := Lib.hid (by
    refine ⟨⟨?_, by rw [HL.out]; omega⟩, ((Below.refl _ w).alloc (Nat.le_refl _) _).grown hgrow (by simp) (by intro k hk; simp [Value.ownBlock] at hk; omega)⟩
    have := own_rowN (us := numC (segL f a m)) (N := w.heap.size) (w := w1) (v := v') (T := 3) (by
      rw [numC_len, HL.out]
      simpa using hown)
    rw [numC_len] at this
    exact this)
  clear hown hgrow hnil
  go_wp2
  go_ret
  exact ⟨v', rfl, hF.out⟩
end Go.Proofs.YtjeomlickkpebaaGreatDoor

/-
  dfas.parting: partBy: what it returns, and leaves.
-/
namespace Go.Proofs.YtjeomlickkpebaaGreatDoor
open Go.RowKit

theorem wpList_app_run {w w' : World} {v u v' : Value} {ops : Array Oper} {rest : List Oper} {o : Oper} {a : Act} {Q : Exit → Act → World → Prop} (hgd : o.guard = none) (s x : Operand) (t : TypeId)
    (ho : o.op = .call { callee := .builtin .append, args := #[s, x], argTypes := #[t, t] })
    (hs : a.eval s = v) (hx : a.eval x = u) (hr : (Builtin.append_ #[t, t] o.type #[v, u]).run Tryz.prog w = .ok v' w') (h : wpList Tryz.prog ops Q rest (a.put o.dst v') w') : wpList Tryz.prog ops Q (o :: rest) a w := by
  refine wpList_plain hgd fun K hK => ?_
  unfold Oper.wp execOp
  simp only [ho, resolve, invoke, builtin, Sem.run_bind, Sem.run_pure, Result.andThen_ok, List.map_toArray, List.map_cons, List.map_nil, hs, hx, hr]
  exact hK _ _ h
theorem StepC.narrow3 {c c' : Col} {w w' : World} (h : StepC (fun a => a = 1 ∨ a = 3) c c' w w') (h3 : ∀ k, k < w.heap.size → c k ≠ 3) : StepC (fun a => a = 1) c c' w w' :=
  ⟨⟨h.keep.os, h.keep.tape, h.keep.output, h.keep.size, fun k hk hc => h.keep.same k hk fun e => e.elim hc (h3 k hk)⟩, h.same, h.fresh⟩
def natL (l : List Nat) : List Int := l.map Int.ofNat
theorem natL_len (l : List Nat) : (natL l).length = l.length := List.length_map _
theorem natL_at {l : List Nat} {i x : Nat} (h : l[i]? = some x) : (natL l)[i]? = some (x : Int) := by unfold natL; rw [List.getElem?_map, h]; rfl
theorem natL_snoc (l : List Nat) (x : Nat) : numC (natL (l ++ [x])) = numC (natL l) ++ [.int .i64 (x : Int)] := by unfold numC natL; rw [List.map_append, List.map_append]; rfl
/-- The lists of those that lead to each state, in memory. -/
structure BackW (c : Col) (w : World) (G n : Nat) (bk : Nat → Nat → List Nat) : Prop where
  col : c G = 0
  lt : G < w.heap.size
  cel : ∀ z b, z < n → b < 256 → ∃ u, w.cell? ⟨G, z * 256 + b, none⟩ = some u ∧ CelC c w u (numC (natL (bk z b)))
section
variable {Q : Nat → Prop} {c c' : Col} {w w' : World} {U S P O cs n G : Nat} {bv : Value} {Bs : List Blk} {st pl ob : Nat → Nat} {bk : Nat → Nat → List Nat}
theorem BackW.step (h : BackW c w G n bk) (hs : StepC Q c c' w w') (h0 : ¬ Q 0) : BackW c' w' G n bk :=
  ⟨by rw [hs.same G h.lt]; exact h.col, Nat.lt_of_lt_of_le h.lt hs.keep.size, fun z b hz hb => by
    obtain ⟨u, h1, h2⟩ := h.cel z b hz hb
    exact ⟨u, hs.keep.cell h1 (by rw [h.col]; exact h0), h2.step hs h0⟩⟩
/-- What lies between two bytes. -/
def PbI (c : Col) (w wr : World) (U S P O cs n G : Nat) (d : Dfa) (q0 K0 : Nat) (ob0 : Nat → Nat) (bk : Nat → Nat → List Nat) (v : Value) (ws : List Int) (B : Nat) : Prop :=
  ∃ c' bv' Bs' st' pl' ob', StepC (fun a => a = 1) c c' w wr ∧ PtC c' wr U S P O cs bv' n Bs' st' pl' ob' ∧ ParI n Bs' st' pl' ob' ∧ (∀ y, y < n → ¬ MkP Bs' pl' ob' y) ∧ ByteI d q0 K0 B ob0 ob' ∧ K0 ≤ Bs'.length ∧ CelC c' wr v (numC ws) ∧ BackW c' wr G n bk
/-- What lies while a byte marks. -/
def MarkW (c : Col) (w wr : World) (U S P O cs n G : Nat) (K0 : Nat) (ob1 : Nat → Nat) (bk : Nat → Nat → List Nat) (v : Value) (ws : List Int) (u : Value) (us : List Int) (M : Nat → Prop) (hv : Value) : Prop :=
  ∃ c' bv' Bs' st' pl' hs, StepC (fun a => a = 1) c c' w wr ∧ PtC c' wr U S P O cs bv' n Bs' st' pl' ob1 ∧ MkI n M hs Bs' st' pl' ob1 ∧ K0 ≤ Bs'.length ∧ CelC c' wr v (numC ws) ∧ BackW c' wr G n bk ∧ RowC c' 3 3 wr hv (numC (natL hs)) ∧ CelC c' wr u (numC us)
/-- What lies while the hit blocks are parted. -/
def HitW (c : Col) (w wr : World) (U S P O cs n G : Nat) (K0 K1 : Nat) (ob1 : Nat → Nat) (bk : Nat → Nat → List Nat) (v : Value) (ws : List Int) (M : Nat → Prop) (hv : Value) (hs : List Nat) (k : Nat) : Prop :=
  ∃ c' bv' Bs' st' pl' ob', StepC (fun a => a = 1) c c' w wr ∧ PtC c' wr U S P O cs bv' n Bs' st' pl' ob' ∧ ParI n Bs' st' pl' ob' ∧ PartsI n K1 M ob1 (fun j => j ∈ hs.take k) Bs' pl' ob' ∧ K0 ≤ K1 ∧ CelC c' wr v (numC ws) ∧ BackW c' wr G n bk ∧ RowC c' 3 3 wr hv (numC (natL hs))
theorem RowZ.cellN {ok : Nat → Prop} {l : List Int} {g o m cap i k : Nat} {x : Int} (h : RowZ ok w (.slice (some ⟨g, o, none⟩) m cap) k (numC l)) (hi : l[i]? = some x) : w.cell? ⟨g, o + i, none⟩ = some (.int .i64 x) := by
  obtain ⟨ao, cap', hv, _, hx⟩ := h
  obtain ⟨g', o', h1, _, h3⟩ := hx i _ (numC_at hi)
  rw [h1] at hv
  injection hv with e1
  injection e1 with e1
  injection e1 with e2 e3
  rw [e2, e3]
  exact h3
theorem RowZ.someN {ok : Nat → Prop} {l : List Int} {ao : Option Addr} {m cap i k : Nat} {x : Int} (h : RowZ ok w (.slice ao m cap) k (numC l)) (hi : l[i]? = some x) : ∃ g o, ao = some ⟨g, o, none⟩ := by
  obtain ⟨ao', cap', hv, _, hx⟩ := h
  obtain ⟨g', o', h1, _, h3⟩ := hx i _ (numC_at hi)
  injection hv with e1
  exact ⟨g', o', e1.trans h1⟩
/-- A number of a row that is nobody's. -/
theorem CelC.at_ {v : Value} {l : List Int} {i : Nat} {x : Int} (h : CelC c w v (numC l)) (hi : l[i]? = some x) : ∃ g o cap, v = .slice (some ⟨g, o, none⟩) l.length cap ∧ l.length ≤ cap ∧ w.cell? ⟨g, o + i, none⟩ = some (.int .i64 x) := by
  obtain ⟨ao, cap, hv, hn, hx⟩ := h
  obtain ⟨g, o, h1, _, h3⟩ := hx i _ (numC_at hi)
  rw [numC_len] at hv hn
  subst h1
  exact ⟨g, o, cap, hv, hn, h3⟩
theorem CelC.form {v : Value} {l : List Int} (h : CelC c w v (numC l)) : ∃ ao cap, v = .slice ao l.length cap ∧ l.length ≤ cap := by
  obtain ⟨ao, cap, hv, hn, _⟩ := h
  rw [numC_len] at hv hn
  exact ⟨ao, cap, hv, hn⟩
set_option maxRecDepth 8000 in
set_option maxHeartbeats 8000000 in
theorem pby_any {d : Dfa} {q0 gcap : Nat} (h : PtC c w U S P O cs bv n Bs st pl ob) (hp : ParI n Bs st pl ob) (hno : ∀ y, y < n → ¬ MkP Bs pl ob y) (hd : OkD d) (hn : n = d.n + 1) (hn2 : n ≤ 100000) (hb : BackW c w G n bk) (hbk : BkO d bk) (hq0 : q0 < Bs.length) (hc3 : ∀ k, k < w.heap.size → c k ≠ 3) :
    Calls Tryz.prog 59 #[.pointer (some ⟨U, 0, none⟩), .int .i64 (q0 : Int), .slice (some ⟨G, 0, none⟩) n gcap] w fun e w' => e = .returned (.tuple #[]) ∧ ∃ v ws, PbI c w w' U S P O cs n G d q0 Bs.length ob bk v ws 256 := by
  obtain ⟨⟨f, t, m0⟩, hj⟩ : ∃ b, Bs[q0]? = some b := ⟨_, List.getElem?_eq_getElem hq0⟩
  obtain ⟨b1, b2, b3, b4⟩ := hp.inb _ _ _ _ hj
  obtain ⟨x0, x1, x2, x3, x4, x5⟩ := h.boxed
  obtain ⟨g, cap, hbv, hcap, hg, ⟨c0, c1, c2⟩, hgf, hset⟩ := h.g.at_ hj
  dsimp only at c0 c1 c2
  obtain ⟨ml, hml⟩ : ∃ ml, t - f = ml := ⟨_, rfl⟩
  have HCL := Lib.hid (fun W (hb : Below w.heap.size w W) => pclone_any (X := S) (n := n) (a := f) (m := ml) (cs := cs - f) (f := natF st) (h.s.under hb) (by omega) hn2)
  have HCAP := h.cap
  have fb : (f : Int) ≤ 100000 := by omega
  have tb : (t : Int) ≤ 100000 := by omega
  have ft : (f : Int) ≤ (t : Int) := by omega
  have tc : (t : Int) ≤ (cs : Int) := by omega
  have tcn : t ≤ cs := by omega
  have ftn : f ≤ t := by omega
  obtain ⟨nb, hnb⟩ : ∃ nb, Bs.length = nb := ⟨_, rfl⟩
  have HNB := Lib.hid hnb
  have HQ0 := Lib.hid hq0
  rw [hbv, hnb] at x2
  rw [hnb] at hcap hq0
  have HP := Lib.hid hp
  have HX := Lib.hid h
  have HJ := Lib.hid hj
  have HBK := Lib.hid (And.intro hb (And.intro hbk hno))
  have HML := Lib.hid hml
  have kb := Below.refl w.heap.size w
  have kd := kb.drew
  have HS := Lib.hid (fun (W : World) (hb : Below w.heap.size w W) => show W.cell? ⟨U, 0, none⟩ = some (.slice (some ⟨S, 0, none⟩) n cs) ∧ W.cell? ⟨U, 2, none⟩ = some (.slice (some ⟨g, 0, none⟩) nb cap) ∧ W.cell? ⟨g, q0 * 3, none⟩ = some (.int .i64 (f : Int)) ∧ W.cell? ⟨g, q0 * 3 + 1, none⟩ = some (.int .i64 (t : Int)) from ⟨(keep_below (fun _ => True) hb).cell x0 trivial, (keep_below (fun _ => True) hb).cell x2 trivial, (keep_below (fun _ => True) hb).cell c0 trivial, (keep_below (fun _ => True) hb).cell c1 trivial⟩)
  have hcf : cs ≠ f := by omega
  have HN := Lib.hid hn
  have HD := Lib.hid hd
  have HC3 := Lib.hid hc3
  clear h hp hj hset hgf hb hbk hno c2 b4 hbv hnb hn hd hc3
  go_enter Tryz.func59, Tryz.ntmps59
  go_wp2
  go_region_held3 (fun W => W.cell? ⟨U, 0, none⟩ = some (.slice (some ⟨S, 0, none⟩) n cs) ∧ W.cell? ⟨U, 2, none⟩ = some (.slice (some ⟨g, 0, none⟩) nb cap) ∧ W.cell? ⟨g, q0 * 3, none⟩ = some (.int .i64 (f : Int)) ∧ W.cell? ⟨g, q0 * 3 + 1, none⟩ = some (.int .i64 (t : Int))) (first | exact HS.out _ kd | exact HS.out _ kc) (first | (go_simp; go_at_call 75; refine (HCL.out _ kd).mono ?_; rintro e w2 ⟨v, rfl, hv, hb2⟩; have kc := kd.trans (hb2.mono kd.size)))
  have kc' := kc
  obtain ⟨ws, hws⟩ : ∃ ws, segL (natF st) f ml = ws := ⟨_, rfl⟩
  rw [hws] at hv
  have hwl : ws.length = ml := by rw [← hws]; exact segL_len _ _ _
  obtain ⟨wa, hwa⟩ : ∃ wa : Nat → Nat, (fun i => st (f + i)) = wa := ⟨_, rfl⟩
  have HW : Hid ((∀ i, i < ml → ws[i]? = some ((wa i : Nat) : Int) ∧ wa i ≤ d.n) ∧ (∀ i k, i < ml → k < ml → wa i = wa k → i = k) ∧ ∀ z, z ≤ d.n → (ob z = q0 ↔ ∃ i, i < ml ∧ z = wa i)) := Lib.hid (by
    have hn1 := HN.out
    refine ⟨fun i hi => ⟨?_, ?_⟩, fun i k hi hk e => ?_, fun z hz => ?_⟩
    · rw [← hws, segL_at hi, ← hwa]; rfl
    · rw [← hwa]
      have := (HP.out.inv2 (f + i) (by omega)).1
      show st (f + i) ≤ _
      omega
    · rw [← hwa] at e
      have e' : st (f + i) = st (f + k) := e
      have h1 := (HP.out.inv2 (f + i) (by omega)).2
      rw [e', (HP.out.inv2 (f + k) (by omega)).2] at h1
      omega
    · rw [HP.out.in_iff (by omega) HJ.out, ← hwa]
      constructor
      · intro e
        refine ⟨pl z - f, by omega, ?_⟩
        show z = st (f + (pl z - f))
        rw [show f + (pl z - f) = pl z by omega, (HP.out.inv1 z (by omega)).2]
      · rintro ⟨i, hi, rfl⟩
        show f ≤ pl (st (f + i)) ∧ pl (st (f + i)) < t
        rw [(HP.out.inv2 (f + i) (by omega)).2]
        omega)
  have hcel : CelC c w2 v (numC ws) := by
    have := hv.1
    rw [← numC_len] at this
    exact this.mono fun k _ hk => HX.out.fresh k hk
  obtain ⟨vo, vcap, hve, hvc⟩ := hcel.form
  rw [hwl] at hve hvc
  have h0m : 0 < ml := by omega
  have h00 := (HW.out.1 0 h0m).1
  have HWL := Lib.hid hwl
  have mlb : (ml : Int) ≤ 100000 := by omega
  have H0 : Hid (PbI c w w2 U S P O cs n G d q0 Bs.length ob bk v ws 0) := Lib.hid ⟨c, bv, Bs, st, pl, ob, StepC.below HX.out.fresh kc', HX.out.under kc', HP.out, HBK.out.2.2, byte_start, Nat.le_refl _, hcel, HBK.out.1.step (StepC.below (S := fun a => a = 1) HX.out.fresh kc') (by decide)⟩
  subst hve
  obtain ⟨vg, vf, rfl⟩ := RowZ.someN hcel h00
  have HBO := Lib.hid HBK.out.2.1
  have HKQ : Hid (0 = 0) := Lib.hid rfl
  clear hv hb2 kc kc' hcel hws hwl h00 hwa x0 x1 x2 x3 x4 x5 hg c0 c1 HCL HS HBK HX HJ HML HP HQ0 fb tb ft tc tcn ftn b1 b2 b3 hml hcf kb kd HKQ
  clear HNB hq0 hcap
  go_wp2
  go_loopw [37] (fun s37 wr => ∃ b : Nat, s37 = .int .i64 (b : Int) ∧ b ≤ 256 ∧ Hid (PbI c w wr U S P O cs n G d q0 Bs.length ob bk (.slice (some ⟨vg, vf, none⟩) ml vcap) ws b)) (fun s37 _ => 256 - (intOf s37).toNat)
  case atStart => exact ⟨0, rfl, by decide, H0⟩
  case round =>
    clear H0
    obtain ⟨b, rfl, hb, HX1⟩ := hrel
    rcases (show b = 256 ∨ b < 256 by omega) with hb2 | hb2
    · subst hb2
      have hbi : ¬ ((256 : Nat) : Int) < 256 := by omega
      go_wp2
      go_end0
      exact ⟨rfl, _, _, HX1.out⟩
    · have hbi : (b : Int) < 256 := by omega
      obtain ⟨c1, bv1, Bs1, st1, pl1, ob1, y1, y2, y3, y4, y5, y6, y7, y8⟩ := HX1.out
      have H1 : Hid (MarkW c w wr U S P O cs n G Bs.length ob1 bk (.slice (some ⟨vg, vf, none⟩) ml vcap) ws (.slice (some ⟨vg, vf, none⟩) ml vcap) ws (MW d wa b 0 []) (.slice none 0 0)) := Lib.hid ⟨c1, bv1, Bs1, st1, pl1, [], y1, y2, (MkI.start y3 y4).congr fun y _ => ⟨fun e => e.elim, fun e => e.elim (fun ⟨k, h1, _⟩ => absurd h1 (Nat.not_lt_zero _)) fun e => absurd e List.not_mem_nil⟩, y6, y7, y8, RowC.nil _ _ _ _, y7⟩
      have HB1 := Lib.hid y5
      clear y1 y2 y3 y4 y5 y6 y7 y8 HX1
      go_wp2
      go_loopw [8, 42] (fun s8 s42 wr => ∃ i : Nat, s42 = .int .i64 (i : Int) ∧ i ≤ ml ∧ Hid (MarkW c w wr U S P O cs n G Bs.length ob1 bk (.slice (some ⟨vg, vf, none⟩) ml vcap) ws (.slice (some ⟨vg, vf, none⟩) ml vcap) ws (MW d wa b i []) s8)) (fun _ s42 _ => ml - (intOf s42).toNat)
      case atStart => exact ⟨0, rfl, Nat.zero_le _, H1⟩
      case round =>
        clear H1
        obtain ⟨i, rfl, hi, HX2⟩ := hrel
        have i0 : (0 : Int) ≤ (i : Int) := by omega
        by_cases hlt : i < ml
        · have hli : (i : Int) < (ml : Int) := by omega
          obtain ⟨hwi, hzd⟩ := HW.out.1 i hlt
          obtain ⟨z, hz⟩ : ∃ z, wa i = z := ⟨_, rfl⟩
          rw [hz] at hwi hzd
          have hzn : z < n := by have := HN.out; omega
          have hL : ∃ lk, (bk z b).length = lk := ⟨_, rfl⟩
          obtain ⟨lk, hlk⟩ := hL
          have H3 : ∃ uo ucap, lk ≤ ucap ∧ wr.cell? ⟨vg, vf + i, none⟩ = some (.int .i64 (z : Int)) ∧ wr.cell? ⟨G, z * 256 + b, none⟩ = some (.slice uo lk ucap) ∧ Hid (MarkW c w wr U S P O cs n G Bs.length ob1 bk (.slice (some ⟨vg, vf, none⟩) ml vcap) ws (.slice uo lk ucap) (natL (bk z b)) (MW d wa b i ((bk z b).take 0)) u8) := by
            obtain ⟨c2, bv2, Bs2, st2, pl2, hs2, z1, z2, z3, z4, z5, z6, z7, z8⟩ := HX2.out
            obtain ⟨u, hu1, hu2⟩ := z6.cel z b hzn hb2
            obtain ⟨uo, ucap, rfl, huc⟩ := hu2.form
            rw [natL_len, hlk] at hu1 hu2 huc
            exact ⟨uo, ucap, huc, RowZ.cellN z5 hwi, hu1, Lib.hid ⟨c2, bv2, Bs2, st2, pl2, hs2, z1, z2, z3, z4, z5, z6, z7, hu2⟩⟩
          obtain ⟨uo, ucap, huc, hx1, hx2, H3⟩ := H3
          have lkb : lk ≤ n := by
            have hnd := HBO.out.nd z b hzd hb2
            have := pig lk n (fun k => (bk z b).getD k 0) (fun k hk => ?_) fun k1 k2 h12 hk e => ?_
            · exact this
            · have hk2 : k < (bk z b).length := by omega
              have e1 : (bk z b).getD k 0 = (bk z b)[k] := by rw [List.getD_eq_getElem?_getD, List.getElem?_eq_getElem hk2]; rfl
              show (bk z b).getD k 0 < n
              rw [e1]
              have := ((HBO.out.mem z b _ hzd hb2).1 (List.getElem_mem hk2)).1
              have := HN.out
              omega
            · have hk2 : k2 < (bk z b).length := by omega
              have hk1 : k1 < (bk z b).length := by omega
              have e1 : (bk z b).getD k1 0 = (bk z b)[k1] := by rw [List.getD_eq_getElem?_getD, List.getElem?_eq_getElem hk1]; rfl
              have e2 : (bk z b).getD k2 0 = (bk z b)[k2] := by rw [List.getD_eq_getElem?_getD, List.getElem?_eq_getElem hk2]; rfl
              have e' : (bk z b).getD k1 0 = (bk z b).getD k2 0 := e
              rw [e1, e2] at e'
              exact List.pairwise_iff_getElem.1 hnd k1 k2 hk1 hk2 h12 e'
          have lkb2 : (lk : Int) ≤ 100000 := by omega
          have HLK := Lib.hid hlk
          have HZ := Lib.hid hz
          clear HX2 hwi hz hlk lkb
          go_wp2
          go_loopw [8, 53] (fun s8 s53 wr => ∃ k : Nat, s53 = .int .i64 (k : Int) ∧ k ≤ lk ∧ Hid (MarkW c w wr U S P O cs n G Bs.length ob1 bk (.slice (some ⟨vg, vf, none⟩) ml vcap) ws (.slice uo lk ucap) (natL (bk z b)) (MW d wa b i ((bk z b).take k)) s8)) (fun _ s53 _ => lk - (intOf s53).toNat)
          case atStart => exact ⟨0, rfl, Nat.zero_le _, H3⟩
          case round =>
            clear H3 hx1 hx2
            obtain ⟨k, rfl, hk, HX3⟩ := hrel
            have k0 : (0 : Int) ≤ (k : Int) := by omega
            by_cases hltk : k < lk
            · have hlki : (k : Int) < (lk : Int) := by omega
              obtain ⟨c2, bv2, Bs2, st2, pl2, hs2, z1, z2, z3, z4, z5, z6, z7, z8⟩ := HX3.out
              have hkl : k < (bk z b).length := by rw [HLK.out]; exact hltk
              have hxk : (bk z b)[k]? = some (bk z b)[k] := List.getElem?_eq_getElem hkl
              obtain ⟨x, hx⟩ : ∃ x, (bk z b)[k] = x := ⟨_, rfl⟩
              rw [hx] at hxk
              have hu := natL_at hxk
              obtain ⟨ug, uf, rfl⟩ := RowZ.someN z8 hu
              have hux := RowZ.cellN z8 hu
              have hMW := mw_not (d := d) (bk := bk) (wa := wa) (m := ml) (i := i) (k := k) (x := x) HBO.out (fun i hi => (HW.out.1 i hi).2) HW.out.2.1 hb2 hlt (by rw [HZ.out]; exact hxk)
              rw [HZ.out] at hMW
              have hxn : x < n := by have := HN.out; omega
              obtain ⟨f, t, m, hj, _⟩ := z3.par.blk x hxn
              have hnm : ¬ MkP Bs2 pl2 ob1 x := fun e => hMW.2 ((z3.mrk x hxn).1 e)
              have HMK := Lib.hid (pmark_any z2 z3.par hn2 hxn hj hnm)
              have HST := Lib.hid (z3.step hxn hj hMW.2)
              have HMW : Hid (∀ y, (MW d wa b i ((bk z b).take k) y ∨ y = x) ↔ MW d wa b i ((bk z b).take (k + 1)) y) := Lib.hid fun y => by
                have := mw_step (d := d) (bk := bk) (wa := wa) (b := b) (i := i) (k := k) (x := x) y (by rw [HZ.out]; exact hxk)
                rw [HZ.out] at this
                exact this
              have HZZ := Lib.hid (And.intro z1 (And.intro z4 (And.intro z5 (And.intro z6 (And.intro z7 z8)))))
              have HFW := Lib.hid z3.few
              clear z1 z2 z3 z4 z5 z6 z7 z8 HX3 hu hMW hnm hx hxk hkl
              go_wp2_with fail
              go_fit HMK.out
              rintro e w5 ⟨rfl, p1, p2⟩
              by_cases hm0 : m = 0
              · have hmd : decide (m = 0) = true := decide_eq_true hm0
                rw [hmd]
                obtain ⟨z1, z4, z5, z6, z7, z8⟩ := HZZ.out
                obtain ⟨x0, x1, x2, x3, x4, x5⟩ := p1.boxed
                have o1 := p1.o.cell hxn
                have lO := p1.o.lt
                obtain ⟨j, hjj⟩ : ∃ j, ob1 x = j := ⟨_, rfl⟩
                have e1 : natF ob1 x = (j : Int) := by unfold natF; rw [hjj]
                rw [e1] at o1
                have r5 := z7.step p2 (by decide)
                have hba := alloc_under w5 (.cells #[.int .i64 (j : Int)] 3)
                have hX : (w5.alloc (.cells #[.int .i64 (j : Int)] 3)).cell? ⟨w5.heap.size, 0, none⟩ = some (.int .i64 (j : Int)) := by rw [cell_of_row _ _ _ _ _ (0, 0) (heap_alloc_new w5 _)]; rfl
                obtain ⟨ao, cp, w6, c6, hrun, q1, q2⟩ := RowC.push (z := .int .i64 0) (b := 8) (X := w5.heap.size) (u := .int .i64 (j : Int)) (p1.fresh.below hba) (r5.step (StepC.below (S := fun _ => False) p1.fresh hba) (fun e => e)) 39 39 Tryz.underlying39 Tryz.infoIntN rfl (by decide) hX rfl (by rw [numC_len, natL_len]; have := HFW.out; omega)
                have H6 : Hid (MarkW c w w6 U S P O cs n G Bs.length ob1 bk (.slice (some ⟨vg, vf, none⟩) ml vcap) ws (.slice (some ⟨ug, uf, none⟩) lk ucap) (natL (bk z b)) (MW d wa b i ((bk z b).take (k + 1))) (.slice ao ((numC (natL hs2)).length + 1) cp)) := Lib.hid (by
                  have hst := HST.out
                  rw [if_pos hm0, hjj] at hst
                  have sQ : StepC (fun a => a = 3) c2 c6 w5 w6 := (StepC.below p1.fresh hba).trans q2
                  rw [← natL_snoc] at q1
                  have p1' := p1
                  rw [hjj] at p1'
                  exact ⟨c6, bv2, _, _, _, hs2 ++ [j], (((z1.trans p2).mono fun a e => .inl e).trans (sQ.mono fun a e => .inr e)).narrow3 HC3.out, p1'.step sQ (by decide), hst.congr fun y _ => HMW.out y, by rw [List.length_set]; exact z4, (z5.step p2 (by decide)).step sQ (by decide), (z6.step p2 (by decide)).step sQ (by decide), q1, (z8.step p2 (by decide)).step sQ (by decide)⟩)
                clear HZZ HST HMK p1 p2 z1 z4 z5 z6 z7 z8 r5 hba hX q1 q2 hjj e1
                go_wp2_with (at_builtin; refine wpList_app_run rfl (.tmp 60) (.tmp 68) 39 (by rfl) (by rfl) (by rfl) hrun ?_)
                go_roundw
                case rel => exact ⟨k + 1, by go_num, by omega, H6⟩
                case measure => simp [intOf] <;> omega
              · have hmd : decide (m = 0) = false := decide_eq_false hm0
                rw [hmd]
                have H5 : Hid (MarkW c w w5 U S P O cs n G Bs.length ob1 bk (.slice (some ⟨vg, vf, none⟩) ml vcap) ws (.slice (some ⟨ug, uf, none⟩) lk ucap) (natL (bk z b)) (MW d wa b i ((bk z b).take (k + 1))) u8) := Lib.hid (by
                  obtain ⟨z1, z4, z5, z6, z7, z8⟩ := HZZ.out
                  have hst := HST.out
                  rw [if_neg hm0] at hst
                  exact ⟨c2, bv2, _, _, _, hs2, z1.trans p2, p1, hst.congr fun y _ => HMW.out y, by rw [List.length_set]; exact z4, z5.step p2 (by decide), z6.step p2 (by decide), z7.step p2 (by decide), z8.step p2 (by decide)⟩)
                clear HZZ HST HMK p1 p2
                go_wp2_with fail
                go_roundw
                case rel => exact ⟨k + 1, by go_num, by omega, H5⟩
                case measure => simp [intOf] <;> omega
            · have hlki : ¬ (k : Int) < (lk : Int) := by omega
              have hkk : k = lk := by omega
              have H5 : Hid (MarkW c w wr U S P O cs n G Bs.length ob1 bk (.slice (some ⟨vg, vf, none⟩) ml vcap) ws (.slice (some ⟨vg, vf, none⟩) ml vcap) ws (MW d wa b (i + 1) []) u8) := Lib.hid (by
                obtain ⟨c2, bv2, Bs2, st2, pl2, hs2, z1, z2, z3, z4, z5, z6, z7, z8⟩ := HX3.out
                refine ⟨c2, bv2, Bs2, st2, pl2, hs2, z1, z2, z3.congr fun y hy => ?_, z4, z5, z6, z7, z5⟩
                have := mw_end (d := d) (bk := bk) (wa := wa) (m := ml) (i := i) HBO.out (fun i hi => (HW.out.1 i hi).2) hb2 hlt (y := y) (by have := HN.out; omega)
                rw [HZ.out, HLK.out] at this
                rw [hkk]
                exact this)
              clear HX3
              go_wp2
              go_roundw
              case rel => exact ⟨i + 1, by go_num, by omega, H5⟩
              case measure => simp [intOf] <;> omega
        · have hli : ¬ (i : Int) < (ml : Int) := by omega
          have hie : i = ml := by omega
          obtain ⟨c2, bv2, Bs2, st2, pl2, hs2, z1, z2, z3, z4, z5, z6, z7, z8⟩ := HX2.out
          obtain ⟨ho, hcap, rfl, hhc⟩ := z7.form
          rw [numC_len, natL_len] at hhc
          rw [numC_len, natL_len] at z7
          obtain ⟨hl, hhl⟩ : ∃ hl, hs2.length = hl := ⟨_, rfl⟩
          have hnl : ((numC (natL hs2)).length : Nat) = hl := by rw [numC_len, natL_len, hhl]
          rw [hnl]
          rw [hhl] at hhc z7
          have z9 : MkI n (fun y => ob (toN d y b) = q0) hs2 Bs2 st2 pl2 ob1 := z3.congr fun y _ => by
            rw [HW.out.2.2 _ (toN_le HD.out y b), hie]
            exact ⟨fun e => e.elim id fun e => absurd e List.not_mem_nil, .inl⟩
          have hlb := z9.few
          have hlb2 : (hl : Int) ≤ 100000 := by omega
          have H4 : Hid (HitW c w wr U S P O cs n G Bs.length Bs2.length ob1 bk (.slice (some ⟨vg, vf, none⟩) ml vcap) ws (fun y => ob (toN d y b) = q0) (.slice ho hl hcap) hs2 0) := Lib.hid ⟨c2, bv2, Bs2, st2, pl2, ob1, z1, z2, z3.par, parts_of z9, z4, z5, z6, z7⟩
          have HM := Lib.hid z9
          have HHL := Lib.hid hhl
          clear HX2 z1 z2 z3 z4 z5 z6 z7 z8 z9 hhl hnl hlb
          go_wp2
          go_loopw [74] (fun s74 wr => ∃ k : Nat, s74 = .int .i64 (k : Int) ∧ k ≤ hl ∧ Hid (HitW c w wr U S P O cs n G Bs.length Bs2.length ob1 bk (.slice (some ⟨vg, vf, none⟩) ml vcap) ws (fun y => ob (toN d y b) = q0) (.slice ho hl hcap) hs2 k)) (fun s74 _ => hl - (intOf s74).toNat)
          case atStart => exact ⟨0, rfl, Nat.zero_le _, H4⟩
          case round =>
            clear H4
            obtain ⟨k, rfl, hk, HX4⟩ := hrel
            have k0 : (0 : Int) ≤ (k : Int) := by omega
            obtain ⟨c3, bv3, Bs3, st3, pl3, ob3, g1, g2, g3, g4, g5, g6, g7, g8⟩ := HX4.out
            by_cases hltk : k < hl
            · have hlki : (k : Int) < (hl : Int) := by omega
              have hkl : k < hs2.length := by rw [HHL.out]; exact hltk
              have hjk : hs2[k]? = some hs2[k] := List.getElem?_eq_getElem hkl
              obtain ⟨j, hj⟩ : ∃ j, hs2[k] = j := ⟨_, rfl⟩
              rw [hj] at hjk
              obtain ⟨hg, hf, rfl⟩ := RowZ.someN g8.rowZ (natL_at hjk)
              have hjc := RowZ.cellN g8.rowZ (natL_at hjk)
              obtain ⟨f, t, m, e1, e2, e3, e4⟩ := parts_next HM.out hjk g4 g3
              have HPT : Hid (Calls Tryz.prog 77 #[.pointer (some ⟨U, 0, none⟩), .int .i64 (j : Int)] wr fun e w' => PartR c3 wr w' U S P O cs n j Bs3 st3 pl3 ob3 e) := Lib.hid (by
                rcases Nat.eq_or_lt_of_le e3 with h | h
                · exact ppart_all g2 g3 hn2 e1 h
                · exact ppart_new g2 g3 hn2 e1 e2 h)
              have HZZ := Lib.hid (And.intro g1 (And.intro g5 (And.intro g6 (And.intro g7 (And.intro g8 e4)))))
              clear g1 g2 g3 g4 g5 g6 g7 g8 e1 e2 e3 e4 HX4 hjk hj hkl
              go_wp2_with fail
              go_fit HPT.out
              rintro e w7 ⟨rfl, c4, bv4, Bs4, ob4, q1, q2, q3, q4⟩
              have H5 : Hid (HitW c w w7 U S P O cs n G Bs.length Bs2.length ob1 bk (.slice (some ⟨vg, vf, none⟩) ml vcap) ws (fun y => ob (toN d y b) = q0) (.slice (some ⟨hg, hf, none⟩) hl hcap) hs2 (k + 1)) := Lib.hid (by
                obtain ⟨g1, g5, g6, g7, g8, e4⟩ := HZZ.out
                exact ⟨c4, bv4, Bs4, st3, pl3, ob4, g1.trans q1, q2, q3, e4 _ _ q4, g5, g6.step q1 (by decide), g7.step q1 (by decide), g8.step q1 (by decide)⟩)
              clear HZZ HPT q1 q2 q3 q4
              go_wp2_with fail
              go_roundw
              case rel => exact ⟨k + 1, by go_num, by omega, H5⟩
              case measure => simp [intOf] <;> omega
            · have hlki : ¬ (k : Int) < (hl : Int) := by omega
              have hkk : k = hl := by omega
              have H5 : Hid (PbI c w wr U S P O cs n G d q0 Bs.length ob bk (.slice (some ⟨vg, vf, none⟩) ml vcap) ws (b + 1)) := Lib.hid (by
                have hmo := g4.more
                rw [hkk, ← HHL.out] at g4
                obtain ⟨r1, r2⟩ := parts_done HM.out g4
                rw [HN.out] at r1
                exact ⟨c3, bv3, Bs3, st3, pl3, ob3, g1, g2, g3, r2, byte_step HB1.out r1 g5, Nat.le_trans g5 hmo, g6, g7⟩)
              clear HX4 g1 g2 g3 g4 g5 g6 g7 g8
              go_wp2
              go_roundw
              case rel => exact ⟨b + 1, by go_num, by omega, H5⟩
              case measure => simp [intOf] <;> omega
end
end Go.Proofs.YtjeomlickkpebaaGreatDoor

/-
  dfas.partingBy: what lies in memory while its states are gathered. No call is walked here.
-/
namespace Go.Proofs.YtjeomlickkpebaaGreatDoor
open Go.RowKit

theorem imakeN (n : Nat) (hn : n ≤ 1000000) (w : World) : (Instr.makeSlice 39 (.int .i64 (n : Int)) (.int .i64 (n : Int))).run Tryz.prog w = .ok (.slice (some ⟨w.heap.size, 0, none⟩) n n) (w.alloc (.cells (Array.replicate n (Value.int .i64 0)) 3)) := by
  have h := run_make_row' (P := Tryz.prog) 39 3 (.int .i64 0) 8 Tryz.underlying39 Tryz.infoIntN rfl .i64 .i64 n (by omega) (by omega) w
  have e : madeCells #[Value.int .i64 0] n = Array.replicate n (Value.int .i64 0) := by
    apply Array.ext'
    rw [toList_madeCells_one, Array.toList_replicate]
  rw [← e]
  exact h
theorem ArrF.new (w : World) (n : Nat) : ArrF (w.alloc (.cells (Array.replicate n (Value.int .i64 0)) 3)) w.heap.size n (natF fun _ => 0) :=
  ⟨_, heap_alloc_new w _, by rw [Array.size_replicate]; exact Nat.le_refl _, fun i hi => by rw [Array.getElem?_replicate, if_pos hi]; rfl⟩
/-- So many states are gathered. -/
structure PreC (c : Col) (w : World) (U P O n k : Nat) (sv : Value) : Prop where
  box : w.heap[U]? = some (.cells #[sv, .slice (some ⟨P, 0, none⟩) n n, .slice none 0 0, .slice (some ⟨O, 0, none⟩) n n] 132 (0, 0))
  cU : c U = 1
  cP : c P = 1
  cO : c O = 1
  p : ArrF w P n (natF fun _ => 0)
  o : ArrF w O n (natF fun _ => 0)
  s : RowC c 3 3 w sv (numC (natL (List.range k)))
  up : U ≠ P
  uo : U ≠ O
  po : P ≠ O
  fresh : Fresh0 c w
section
variable {Q : Nat → Prop} {c c' : Col} {w w' : World} {U P O n k : Nat} {sv : Value}
theorem PreC.lt (h : PreC c w U P O n k sv) : U < w.heap.size := (Array.getElem?_eq_some_iff.1 h.box).1
theorem PreC.cells (h : PreC c w U P O n k sv) : w.cell? ⟨U, 0, none⟩ = some sv ∧ w.frozen? ⟨U, 0, none⟩ = false := by
  refine ⟨?_, frozen_of_row w U 0 _ _ h.box⟩
  rw [cell_of_row w U _ _ _ (0, 0) h.box]; rfl
theorem PreC.step (h : PreC c w U P O n k sv) (hs : StepC Q c c' w w') (h1 : ¬ Q 1) (h3 : ¬ Q 3) : PreC c' w' U P O n k sv :=
  ⟨(hs.keep.same U h.lt (by rw [h.cU]; exact h1)).trans h.box, by rw [hs.same _ h.lt]; exact h.cU, by rw [hs.same _ h.p.lt]; exact h.cP, by rw [hs.same _ h.o.lt]; exact h.cO, h.p.keep hs.keep (by rw [h.cP]; exact h1), h.o.keep hs.keep (by rw [h.cO]; exact h1), h.s.step hs h3, h.up, h.uo, h.po, hs.fresh⟩
/-- Nothing is gathered yet. -/
theorem pre_start {W : World} {RB : Nat} (hf : Fresh0 c W) (hsz : W.heap.size = RB + 1) (hPO : (P = RB + 1 ∧ O = RB + 1 + 1) ∨ (P = RB + 1 + 1 ∧ O = RB + 1)) :
    ∃ c', StepC Q c c' W (((W.alloc (.cells (Array.replicate n (Value.int .i64 0)) 3)).alloc (.cells (Array.replicate n (Value.int .i64 0)) 3)).alloc (.cells #[.slice none 0 0, .slice (some ⟨P, 0, none⟩) n n, .slice none 0 0, .slice (some ⟨O, 0, none⟩) n n] 132)).drew ∧
      PreC c' (((W.alloc (.cells (Array.replicate n (Value.int .i64 0)) 3)).alloc (.cells (Array.replicate n (Value.int .i64 0)) 3)).alloc (.cells #[.slice none 0 0, .slice (some ⟨P, 0, none⟩) n n, .slice none 0 0, .slice (some ⟨O, 0, none⟩) n n] 132)).drew (RB + 1 + 1 + 1) P O n 0 (.slice none 0 0) := by
  have a1 := ArrF.new W n
  have s1 := StepC.colAt (S := Q) (A := 1) hf (.cells (Array.replicate n (Value.int .i64 0)) 3)
  have z1 := alloc_size W (.cells (Array.replicate n (Value.int .i64 0)) 3)
  have b1 := alloc_under W (.cells (Array.replicate n (Value.int .i64 0)) 3)
  rw [hsz] at a1 s1 z1
  obtain ⟨W1, hW1⟩ : ∃ W1, W.alloc (.cells (Array.replicate n (Value.int .i64 0)) 3) = W1 := ⟨_, rfl⟩
  rw [hW1] at a1 s1 z1 b1 ⊢
  have a2 := ArrF.new W1 n
  have s2 := StepC.colAt (S := Q) (A := 1) s1.fresh (.cells (Array.replicate n (Value.int .i64 0)) 3)
  have z2 := alloc_size W1 (.cells (Array.replicate n (Value.int .i64 0)) 3)
  have b2 := alloc_under W1 (.cells (Array.replicate n (Value.int .i64 0)) 3)
  rw [z1] at a2 s2 z2
  obtain ⟨W2, hW2⟩ : ∃ W2, W1.alloc (.cells (Array.replicate n (Value.int .i64 0)) 3) = W2 := ⟨_, rfl⟩
  rw [hW2] at a2 s2 z2 b2 ⊢
  have a1' := a1.under b2
  have s3 := StepC.colAt (S := Q) (A := 1) s2.fresh (.cells #[.slice none 0 0, .slice (some ⟨P, 0, none⟩) n n, .slice none 0 0, .slice (some ⟨O, 0, none⟩) n n] 132)
  have h3 := heap_alloc_new W2 (.cells #[.slice none 0 0, .slice (some ⟨P, 0, none⟩) n n, .slice none 0 0, .slice (some ⟨O, 0, none⟩) n n] 132)
  have b3 := alloc_under W2 (.cells #[.slice none 0 0, .slice (some ⟨P, 0, none⟩) n n, .slice none 0 0, .slice (some ⟨O, 0, none⟩) n n] 132)
  rw [z2] at s3 h3
  have kd := keep_drewN (fun _ => True) (W2.alloc (.cells #[.slice none 0 0, .slice (some ⟨P, 0, none⟩) n n, .slice none 0 0, .slice (some ⟨O, 0, none⟩) n n] 132)) 1
  have hc1 : colAt (colAt (colAt c 1 (RB + 1)) 1 (RB + 1 + 1)) 1 (RB + 1 + 1 + 1) (RB + 1) = 1 := by
    rw [colAt_lt (by omega), colAt_lt (by omega)]; exact if_pos rfl
  have hc2 : colAt (colAt (colAt c 1 (RB + 1)) 1 (RB + 1 + 1)) 1 (RB + 1 + 1 + 1) (RB + 1 + 1) = 1 := by
    rw [colAt_lt (by omega)]; exact if_pos rfl
  have k1 := (a1'.under b3).keep kd trivial
  have k2 := (a2.under b3).keep kd trivial
  refine ⟨_, (s1.trans s2).trans (s3.trans ⟨keep_drewN _ _ 1, fun _ _ => rfl, s3.fresh⟩), h3, if_pos rfl, ?_, ?_, ?_, ?_, RowC.nil _ _ _ _, ?_, ?_, ?_, s3.fresh⟩
  · rcases hPO with ⟨rfl, rfl⟩ | ⟨rfl, rfl⟩
    · exact hc1
    · exact hc2
  · rcases hPO with ⟨rfl, rfl⟩ | ⟨rfl, rfl⟩
    · exact hc2
    · exact hc1
  · rcases hPO with ⟨rfl, rfl⟩ | ⟨rfl, rfl⟩
    · exact k1
    · exact k2
  · rcases hPO with ⟨rfl, rfl⟩ | ⟨rfl, rfl⟩
    · exact k2
    · exact k1
  · omega
  · omega
  · omega
/-- One state more: append, and the store into the box. -/
theorem PreC.push (h : PreC c w U P O n k sv) (hk : k ≤ 100000) :
    ∃ ao cap w2, (Builtin.append_ #[39, 39] 39 #[sv, .slice (some ⟨w.heap.size, 0, none⟩) 1 1]).run Tryz.prog (w.alloc (.cells #[.int .i64 (k : Int)] 3)) = .ok (.slice ao (k + 1) cap) w2 ∧ w2.cell? ⟨U, 0, none⟩ = some sv ∧ w2.frozen? ⟨U, 0, none⟩ = false ∧ U < w2.heap.size ∧
      Hid (∃ c', StepC (fun a => a = 1 ∨ a = 3) c c' w (w2.setCell ⟨U, 0, none⟩ (.slice ao (k + 1) cap)) ∧ PreC c' (w2.setCell ⟨U, 0, none⟩ (.slice ao (k + 1) cap)) U P O n (k + 1) (.slice ao (k + 1) cap)) := by
  have hba := alloc_under w (.cells #[.int .i64 (k : Int)] 3)
  have hX : (w.alloc (.cells #[.int .i64 (k : Int)] 3)).cell? ⟨w.heap.size, 0, none⟩ = some (.int .i64 (k : Int)) := by rw [cell_of_row _ _ _ _ _ (0, 0) (heap_alloc_new w _)]; rfl
  have sA : StepC (fun _ => False) c c w (w.alloc (.cells #[.int .i64 (k : Int)] 3)) := StepC.below h.fresh hba
  have hA := h.step sA (fun e => e) (fun e => e)
  have hlen : (numC (natL (List.range k))).length = k := by rw [numC_len, natL_len, List.length_range]
  obtain ⟨ao, cap, w2, c2, hrun, q1, q2⟩ := RowC.push (z := .int .i64 0) (b := 8) (X := w.heap.size) (u := .int .i64 (k : Int)) hA.fresh hA.s 39 39 Tryz.underlying39 Tryz.infoIntN rfl (by decide) hX rfl (by rw [hlen]; exact hk)
  rw [hlen] at hrun q1
  have hU2 := (q2.keep.same U hA.lt (by rw [hA.cU]; decide)).trans hA.box
  have cU2 : c2 U = 1 := by rw [q2.same _ hA.lt]; exact hA.cU
  have hk3 := keep_set (ok := fun k => k ≠ U) U 0 none (.slice ao (k + 1) cap) w2 fun h => h rfl
  have hp2 := hA.p.keep q2.keep (by rw [hA.cP]; decide)
  have ho2 := hA.o.keep q2.keep (by rw [hA.cO]; decide)
  have s3 : StepC (fun a => a = 1) c2 c2 w2 (w2.setCell ⟨U, 0, none⟩ (.slice ao (k + 1) cap)) := one_set q2.fresh cU2
  refine ⟨ao, cap, w2, hrun, by rw [cell_of_row w2 U _ _ _ (0, 0) hU2]; rfl, frozen_of_row w2 U 0 _ _ hU2, (Array.getElem?_eq_some_iff.1 hU2).1, Lib.hid ⟨c2, ((sA.mono fun a e => e.elim).trans (q2.mono fun a e => .inr e)).trans (s3.mono fun a e => .inl e), ?_⟩⟩
  refine ⟨by rw [heap_setCell_same w2 U 0 _ _ _ hU2]; rfl, cU2, by rw [q2.same _ hA.p.lt]; exact hA.cP, by rw [q2.same _ hA.o.lt]; exact hA.cO, hp2.keep hk3 (Ne.symm h.up), ho2.keep hk3 (Ne.symm h.uo), ?_, h.up, h.uo, h.po, s3.fresh⟩
  rw [List.range_succ, natL_snoc]
  exact q1.step s3 (by decide)
/-- All states are gathered: it is a parting with no blocks. -/
theorem PreC.all (h : PreC c w U P O n n sv) (h0 : 0 < n) : ∃ S cap, sv = .slice (some ⟨S, 0, none⟩) n cap ∧ c S = 3 ∧ PtC (colAt c 1 S) w U S P O cap (.slice none 0 0) n [] (fun i => i) (fun _ => 0) (fun _ => 0) := by
  have hlen : (numC (natL (List.range n))).length = n := by rw [numC_len, natL_len, List.length_range]
  have hown := h.s.own
  rw [hlen] at hown
  obtain ⟨hl, ⟨rfl, h1⟩ | ⟨S, cap, cur, rfl, h3, hg, hn, hsz, hfz, hx⟩⟩ := hown
  · omega
  have cS : c S = 3 := h.s.col S rfl
  have ne : ∀ B, c B = 1 → B ≠ S := fun B hB e => by rw [e, cS] at hB; cases hB
  have co : ∀ B, c B = 1 → colAt c 1 S B = 1 := fun B hB => (if_neg (ne B hB)).trans hB
  have hS : ArrF w S n (natF fun i => i) := ⟨cur, hg, by omega, fun i hi => by
    have e1 : (numC (natL (List.range n)))[i]? = some (.int .i64 (i : Int)) := numC_at (natL_at (List.getElem?_range hi))
    rw [← hx, List.getElem?_take] at e1
    split at e1
    · rw [← Array.getElem?_toList]; exact e1
    · cases e1⟩
  refine ⟨S, cap, rfl, cS, ⟨h.box, co U h.cU, if_pos rfl, co P h.cP, co O h.cO, hS, h.p, h.o, ⟨World.ownsRow_nil _ _ _ _, fun k e => (by cases e)⟩, hn, ne U h.cU, h.up, h.uo, Ne.symm (ne P h.cP), Ne.symm (ne O h.cO), h.po, fun e => (by cases e), fun e => (by cases e), fun e => (by cases e), fun e => (by cases e), fun k hk => ?_⟩⟩
  show (if k = S then 1 else c k) = 0
  rw [if_neg (by have := hS.lt; omega)]
  exact h.fresh k hk
/-- What the sorter compares by. -/
structure BxC (c : Col) (w : World) (RB RU n : Nat) (ru : Nat → Int) : Prop where
  box : w.cell? ⟨RB, 0, none⟩ = some (.slice (some ⟨RU, 0, none⟩) n n)
  row : ArrF w RU n ru
  c1 : c RB = 0
  c2 : c RU = 0
theorem BxC.step {RB RU : Nat} {ru : Nat → Int} (h : BxC c w RB RU n ru) (hs : StepC Q c c' w w') (h0 : ¬ Q 0) : BxC c' w' RB RU n ru :=
  ⟨hs.keep.cell h.box (by rw [h.c1]; exact h0), h.row.keep hs.keep (by rw [h.c2]; exact h0), by rw [hs.same _ (rlt h.box)]; exact h.c1, by rw [hs.same _ h.row.lt]; exact h.c2⟩
/-- The states are put in another order. -/
theorem PtC.resort {S cs : Nat} {bv : Value} {Bs : List Blk} {st st' pl ob : Nat → Nat} (h : PtC c w U S P O cs bv n Bs st pl ob) (hk : KeepW (fun k => k ≠ S) w w') (hs : ArrF w' S n (natF st')) : PtC c w' U S P O cs bv n Bs st' pl ob :=
  ⟨(hk.same U h.boxed.2.2.2.2.1 h.us).trans h.box, h.cU, h.cS, h.cP, h.cO, hs, h.p.keep hk (Ne.symm h.sp), h.o.keep hk (Ne.symm h.so), h.g.keep hk fun k e ek => h.gs (by rw [← ek]; exact e), h.cap, h.us, h.up, h.uo, h.sp, h.so, h.po, h.gu, h.gs, h.gp, h.go, fun k hk2 => h.fresh k (Nat.le_trans hk.size hk2)⟩
theorem perm_nat {g : Nat → Int} (h : PermB 0 n (natF fun i => i) g) : ∃ st : Nat → Nat, (∀ i, g i = (st i : Int)) ∧ (∀ i, i < n → st i < n) ∧ (∀ i j, i < n → j < n → st i = st j → i = j) ∧ ∀ x, x < n → ∃ i, i < n ∧ st i = x := by
  obtain ⟨s, t, h1, h2, h3, h4, h5⟩ := h
  refine ⟨s, fun i => h5 i, fun i hi => (h4 i (Nat.zero_le _) hi).2, fun i j _ _ e => by rw [← h2 i, e, h2], fun x hx => ⟨t x, ?_, h1 x⟩⟩
  by_cases c : t x < n
  · exact c
  · have := h3 (t x) (.inr (by omega))
    rw [h1] at this
    omega
end
end Go.Proofs.YtjeomlickkpebaaGreatDoor
