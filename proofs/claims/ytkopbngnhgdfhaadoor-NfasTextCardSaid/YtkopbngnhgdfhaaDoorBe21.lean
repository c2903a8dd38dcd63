/-
  Texts of this proof, one behind the other; each begins with its own remark.
-/
import Derived.Deep.RegionLaw
import Derived.Test.YtkopbngnhgdfhaaDoorBe9
import Derived.Test.YtkopbngnhgdfhaaDoorBe20
import Derived.Test.YtkopbngnhgdfhaaDoorBe11
/-
  nfas.NFA: add, fork: what each returns, and leaves.
-/
namespace Go.Proofs.YtkopbngnhgdfhaaDoor
open Go.RowKit

/-- append, in a region that draws its order, by what it comes to. -/
theorem napp_step {w w' : World} {v u v' : Value} {ops : Array Oper} {o : Oper} {a : Act} {K : Act → World → Prop} {Q : Exit → Act → World → Prop} {E : Prop} (hgd : o.guard = none) (s x : Operand) (t : TypeId)
    (ho : o.op = .call { callee := .builtin .append, args := #[s, x], argTypes := #[t, t] })
    (hs : a.eval s = v) (hx : a.eval x = u) (hr : (Builtin.append_ #[t, t] o.type #[v, u]).run Tryd.prog w = .ok v' w') (h : K (a.put o.dst v') w') :
    if Region.wanted o (yielded ops a.tmps) = true then Oper.wp Tryd.prog o a w K Q else E := by
  have hw : Region.wanted o (yielded ops a.tmps) = true := by simp [Region.wanted, hgd]
  rw [if_pos hw]
  unfold Oper.wp execOp
  simp only [ho, resolve, invoke, builtin, Sem.run_bind, Sem.run_pure, Result.andThen_ok, List.map_toArray, List.map_cons, List.map_nil, hs, hx, hr]
  exact h
def staV (s : Sta) : Value := .agg #[.int .i64 (s.kind : Int), .int .u64 (s.set.1 : Int), .int .u64 (s.set.2.1 : Int), .int .u64 (s.set.2.2.1 : Int), .int .u64 (s.set.2.2.2 : Int), .int .i64 (s.next : Int), .int .i64 (s.also : Int), .int .i64 (s.rule : Int)]
/-- An NFA that is built, with where its rows lie. -/
structure NfaC (P : Nat → Prop) (w : World) (B : Nat) (q : List Sta) (first : List Int) (sv fv : Value) : Prop where
  b : boxF w B sv fv
  s : OwnS w sv q
  f : OwnI 0 w fv first
  nb : ¬ P B
  ns : ∀ k, sv.ownBlock = some k → ¬ P k ∧ k ≠ B ∧ fv.ownBlock ≠ some k
  nf : ∀ k, fv.ownBlock = some k → ¬ P k ∧ k ≠ B
section
variable {P : Nat → Prop} {w w' : World} {B : Nat} {q : List Sta} {first : List Int} {sv fv : Value}
/-- The same, wherever the states lie. -/
def NfaE (P : Nat → Prop) (w : World) (B : Nat) (q : List Sta) (first : List Int) (fv : Value) : Prop := ∃ sv, NfaC P w B q first sv fv
theorem NfaE.asB (h : NfaE P w B q first fv) : NfaB P w B q first := by
  obtain ⟨sv, h⟩ := h
  exact ⟨sv, fv, h.b, h.s, h.f, h.nb, h.ns, h.nf⟩
theorem NfaE.lt (h : NfaE P w B q first fv) : B < w.heap.size := by
  obtain ⟨sv, h⟩ := h
  exact h.b.lt
theorem NfaE.mono {P' : Nat → Prop} (h : NfaE P w B q first fv) (hm : ∀ k, P' k → P k) : NfaE P' w B q first fv := by
  obtain ⟨sv, h⟩ := h
  exact ⟨sv, h.b, h.s, h.f, fun x => h.nb (hm _ x), fun k e => ⟨fun x => (h.ns k e).1 (hm _ x), (h.ns k e).2⟩, fun k e => ⟨fun x => (h.nf k e).1 (hm _ x), (h.nf k e).2⟩⟩
theorem NfaC.under (h : NfaC P w B q first sv fv) (hb : Below w.heap.size w w') : NfaC P w' B q first sv fv :=
  ⟨h.b.keep (keep_below (fun _ => True) hb) trivial, ownRow_keep h.s (keep_below (fun _ => True) hb) fun _ _ => trivial, h.f.below hb, h.nb, h.ns, h.nf⟩
theorem NfaE.under (h : NfaE P w B q first fv) (hb : Below w.heap.size w w') : NfaE P w' B q first fv := by
  obtain ⟨sv, h⟩ := h
  exact ⟨sv, h.under hb⟩
/-- A block more is to stay: one that is made behind. -/
theorem NfaE.also (h : NfaE P w B q first fv) (hb : Below w.heap.size w w') : NfaE (fun k => P k ∨ k = w.heap.size) w' B q first fv := by
  obtain ⟨sv, h⟩ := h
  have hlt := h.b.lt
  have l2 := World.ownsRow.lt h.s
  have l3 := World.ownsRow.lt h.f
  have h' := h.under hb
  refine ⟨sv, h'.b, h'.s, h'.f, fun x => x.elim h.nb fun e => by omega, fun k e => ⟨fun x => x.elim (h.ns k e).1 fun e2 => ?_, (h.ns k e).2⟩, fun k e => ⟨fun x => x.elim (h.nf k e).1 fun e2 => ?_, (h.nf k e).2⟩⟩
  · have := l2 k e; omega
  · have := l3 k e; omega
theorem ownS_form {w : World} {v : Value} {q : List Sta} (h : OwnS w v q) : ∃ ao cap, v = .slice ao q.length cap ∧ q.length ≤ cap := by
  obtain ⟨ao, cap, hv, hn, _⟩ := ownZ h
  exact ⟨ao, cap, hv, hn⟩
/-- One state more: append, and the store into the box. -/
theorem NfaC.push {X : Nat} {s : Sta} (h : NfaC P w B q first sv fv) (hP : ∀ k, w.heap.size ≤ k → ¬ P k) (t ty : TypeId) (ht : Tryd.prog.underlying t = some (.slice 86)) (hX : ∀ (j : Nat) x, (staC s)[j]? = some x → w.cell? ⟨X, j, none⟩ = some x) (hs : q.length ≤ 100000) :
    ∃ ao cap w', (Builtin.append_ #[t, t] ty #[sv, .slice (some ⟨X, 0, none⟩) 1 1]).run Tryd.prog w = .ok (.slice ao (q.length + 1) cap) w' ∧ w'.cell? ⟨B, 0, none⟩ = some sv ∧ w'.frozen? ⟨B, 0, none⟩ = false ∧ B < w'.heap.size ∧
      (w'.setCell ⟨B, 0, none⟩ (.slice ao (q.length + 1) cap)).cell? ⟨B, 0, none⟩ = some (.slice ao (q.length + 1) cap) ∧ NfaE P (w'.setCell ⟨B, 0, none⟩ (.slice ao (q.length + 1) cap)) B (q ++ [s]) first fv ∧ KeepW P w (w'.setCell ⟨B, 0, none⟩ (.slice ao (q.length + 1) cap)) := by
  obtain ⟨v', w', hr, h1, h2, h3⟩ := run_snocS t ty ht h.s hX hs
  obtain ⟨ao, cap, hv, _⟩ := ownS_form h1
  rw [List.length_append] at hv
  have hv : v' = .slice ao (q.length + 1) cap := hv
  subst hv
  have hBl := h.b.lt
  have hno : sv.ownBlock ≠ some B := fun e => (h.ns B e).2.1 rfl
  have hb := h.b.keep h2 hno
  have hf : OwnI 0 w' fv first := ownRow_keep h.f h2 fun k e e2 => (h.ns k e2).2.2 e
  have hk : KeepW (fun k => k ≠ B) w' (w'.setCell ⟨B, 0, none⟩ (.slice ao (q.length + 1) cap)) := keep_set B 0 none _ w' fun h => h rfl
  have hnew : ∀ k, (Value.slice ao (q.length + 1) cap).ownBlock = some k → ¬ P k ∧ k ≠ B ∧ fv.ownBlock ≠ some k := fun k e => by
    rcases h3 k e with e | e
    · exact h.ns k e
    · rw [e]
      refine ⟨hP _ (Nat.le_refl _), by omega, fun e2 => ?_⟩
      have := (World.ownsRow.lt h.f _ e2).2
      omega
  refine ⟨ao, cap, w', hr, hb.cells.1.1, hb.cells.2.1, hb.lt, (hb.set0 _).cells.1.1, ⟨_, hb.set0 _, ownRow_keep h1 hk fun k e => (hnew k e).2.1, ownRow_keep hf hk fun k e => (h.nf k e).2, h.nb, hnew, h.nf⟩, ?_⟩
  exact (h2.mono fun k _ hp e => (h.ns k e).1 hp).trans (hk.mono fun k _ hp e => h.nb (by rw [← e]; exact hp))
set_option maxRecDepth 4000 in
set_option maxHeartbeats 4000000 in
theorem nadd_any (h : NfaE P w B q first fv) (hP : ∀ k, w.heap.size ≤ k → ¬ P k) (s : Sta) (hlen : q.length ≤ 100000) :
    Calls Tryd.prog 35 #[.pointer (some ⟨B, 0, none⟩), staV s] w fun e w' => e = .returned (.int .i64 (q.length : Int)) ∧ NfaE P w' B (q ++ [s]) first fv ∧ KeepW P w w' := by
  have hlt := h.lt
  obtain ⟨sv, hc⟩ := h
  unfold staV
  obtain ⟨so, sc, hsv, _⟩ := ownS_form hc.s
  have hb1 := alloc_under w (.cells #[.int .i64 (s.kind : Int), .int .u64 (s.set.1 : Int), .int .u64 (s.set.2.1 : Int), .int .u64 (s.set.2.2.1 : Int), .int .u64 (s.set.2.2.2 : Int), .int .i64 (s.next : Int), .int .i64 (s.also : Int), .int .i64 (s.rule : Int)] 86)
  have HB := Lib.hid hb1
  have HC := Lib.hid (fun W (hb : Below w.heap.size w W) => (hc.under hb).b.cells)
  have HA := Lib.hid (fun W (X : Nat) ty (hb : Below w.heap.size w W) (hX : ∀ (j : Nat) x, (staC s)[j]? = some x → W.cell? ⟨X, j, none⟩ = some x) => (hc.under hb).push (fun k hk => hP k (Nat.le_trans hb.size hk)) 52 ty Tryd.underlying52 hX hlen)
  have HN := Lib.hid hlen
  have hnl : (q.length : Int) ≤ 100000 := by omega
  have hbox : ∀ W : World, ∀ (j : Nat) x, (staC s)[j]? = some x → (W.alloc (.cells (staC s).toArray 86)).cell? ⟨W.heap.size, j, none⟩ = some x := fun W j x hx => by
    rw [cell_of_row _ _ j _ _ (0, 0) (heap_alloc_new W _), List.getElem?_toArray]; exact hx
  have HX := Lib.hid hbox
  have HL := Lib.hid (fun W (hb : Below w.heap.size w W) => Nat.lt_of_lt_of_le hlt hb.size)
  subst hsv
  clear hc hP hlen hb1 hbox hlt
  go_enter Tryd.func35, Tryd.ntmps35
  go_upto_region 1 with (fail)
  obtain ⟨W1, hW1⟩ : ∃ W1, w.alloc (.cells #[.int .i64 (s.kind : Int), .int .u64 (s.set.1 : Int), .int .u64 (s.set.2.1 : Int), .int .u64 (s.set.2.2.1 : Int), .int .u64 (s.set.2.2.2 : Int), .int .i64 (s.next : Int), .int .i64 (s.also : Int), .int .i64 (s.rule : Int)] 86) = W1 := ⟨_, rfl⟩
  (try rw [hW1])
  have x0 := hW1 ▸ HX.out w
  rw [hW1] at HB
  have hXl : w.heap.size < W1.heap.size := by rw [← hW1]; rw [alloc_size]; omega
  obtain ⟨X, hXe⟩ : ∃ X, w.heap.size = X := ⟨_, rfl⟩
  (try rw [hXe])
  rw [hXe] at x0 hXl
  clear hW1
  obtain ⟨⟨b0, _⟩, g0, _⟩ := HC.out W1 HB.out
  have hBl := HL.out W1 HB.out
  have y0 := x0 0 _ rfl
  have y1 := x0 1 _ rfl
  have y2 := x0 2 _ rfl
  have y3 := x0 3 _ rfl
  have y4 := x0 4 _ rfl
  have y5 := x0 5 _ rfl
  have y6 := x0 6 _ rfl
  have y7 := x0 7 _ rfl
  have HAS := Lib.hid (fun (W : World) ty (hb : Below w.heap.size w W) => HA.out (W.alloc (.cells #[.int .i64 (s.kind : Int), .int .u64 (s.set.1 : Int), .int .u64 (s.set.2.1 : Int), .int .u64 (s.set.2.2.1 : Int), .int .u64 (s.set.2.2.2 : Int), .int .i64 (s.next : Int), .int .i64 (s.also : Int), .int .i64 (s.rule : Int)] 86)) W.heap.size ty (hb.alloc (Nat.le_trans (Nat.le_of_eq rfl) hb.size) _) (HX.out W))
  have kb := HB.out
  have kd := kb.drew
  have kb0 := Lib.hid (kb.alloc (by show w.heap.size ≤ W1.heap.size; omega) (.cells #[.int .i64 (s.kind : Int), .int .u64 (s.set.1 : Int), .int .u64 (s.set.2.1 : Int), .int .u64 (s.set.2.2.1 : Int), .int .u64 (s.set.2.2.2 : Int), .int .i64 (s.next : Int), .int .i64 (s.also : Int), .int .i64 (s.rule : Int)] 86))
  have kd0 := Lib.hid (kd.alloc (by show w.heap.size ≤ W1.heap.size; omega) (.cells #[.int .i64 (s.kind : Int), .int .u64 (s.set.1 : Int), .int .u64 (s.set.2.1 : Int), .int .u64 (s.set.2.2.1 : Int), .int .u64 (s.set.2.2.2 : Int), .int .i64 (s.next : Int), .int .i64 (s.also : Int), .int .i64 (s.rule : Int)] 86))
  have HE := Lib.hid (fun (W : World) (ao : Option Addr) (cp : Nat) (h1 : NfaE P (W.setCell ⟨B, 0, none⟩ (.slice ao (q.length + 1) cp)) B (q ++ [s]) first fv) (h2 : KeepW P w (W.setCell ⟨B, 0, none⟩ (.slice ao (q.length + 1) cp))) => And.intro h1 h2)
  clear x0
  go_region_law (first
    | (obtain ⟨ao, cp, w5, hr, d0, f0, hl5, d1, hN5, hk5⟩ := HAS.out _ 52 kb; (refine napp_step (by rfl) (.tmp 9) (.tmp 11) 52 (by rfl) (by rfl) (by rfl) hr ?_))
    | (obtain ⟨ao, cp, w5, hr, d0, f0, hl5, d1, hN5, hk5⟩ := HAS.out _ 52 kd; (refine napp_step (by rfl) (.tmp 9) (.tmp 11) 52 (by rfl) (by rfl) (by rfl) hr ?_)))
  all_goals
    obtain ⟨hE1, hE2⟩ := HE.out w5 ao cp hN5 (by first | exact (keep_below _ kb0.out).trans hk5 | exact (keep_below _ kd0.out).trans hk5)
    have HE3 := Lib.hid (And.intro hE1 hE2)
    clear HE hE1 hE2 hN5 hk5 HA HAS HC HX HL
    go_wp2_with fail
    go_ret
  all_goals exact ⟨rfl, HE3.out⟩
theorem nfork_any (h : NfaE P w B q first fv) (hP : ∀ k, w.heap.size ≤ k → ¬ P k) (a b : Nat) (hlen : q.length ≤ 100000) :
    Calls Tryd.prog 55 #[.pointer (some ⟨B, 0, none⟩), .int .i64 (a : Int), .int .i64 (b : Int)] w fun e w' => e = .returned (.int .i64 (q.length : Int)) ∧ NfaE P w' B (q ++ [forkS a b]) first fv ∧ KeepW P w w' := by
  have H := Lib.hid (show Calls Tryd.prog 35 #[.pointer (some ⟨B, 0, none⟩), .agg #[.int .i64 1, .int .u64 0, .int .u64 0, .int .u64 0, .int .u64 0, .int .i64 (a : Int), .int .i64 (b : Int), .int .i64 0]] w fun e w' => e = .returned (.int .i64 (q.length : Int)) ∧ NfaE P w' B (q ++ [forkS a b]) first fv ∧ KeepW P w w' from nadd_any h hP (forkS a b) hlen)
  clear h hP hlen
  go_enter Tryd.func55, Tryd.ntmps55
  go_wp2_with fail
  go_fit H.out
  rintro e w2 ⟨rfl, h1, h2⟩
  have HX := Lib.hid (And.intro h1 h2)
  clear h1 h2
  go_wp2_with fail
  go_ret
  exact ⟨rfl, HX.out⟩
end
end Go.Proofs.YtkopbngnhgdfhaaDoor

/-
  limnerref11.Rule.Step: what it returns.
-/
namespace Go.Proofs.YtkopbngnhgdfhaaDoor
open Go.RowKit

/-- The row that is made: what it holds. -/
structure OutG (w0 w : World) (G m : Nat) (h : Nat → Bool) : Prop where
  m : ∃ M, blkM w G M ∧ M.length = m ∧ ∀ j, j < m → M.getD j false = h j
  b : Below w0.heap.size w0 w
  g : w0.heap.size ≤ G
section
variable {w0 w w' : World} {G m i : Nat} {h : Nat → Bool}
theorem OutG.row (hW : OutG w0 w G m h) (hm : 0 < m) : BolR w (.slice (some ⟨G, 0, none⟩) m m) m h := by
  obtain ⟨⟨M, h1, h2, h3⟩, _, _⟩ := hW
  exact BolO.of_blk h1 h2 hm (fun e => e) h3
theorem OutG.under (hW : OutG w0 w G m h) (hb : Below w.heap.size w w') : OutG w0 w' G m h := by
  obtain ⟨⟨M, h1, h2, h3⟩, h4, h5⟩ := hW
  exact ⟨⟨M, h1.keep (keep_below (fun _ => True) hb) trivial, h2, h3⟩, h4.trans (hb.mono h4.size), h5⟩
theorem OutG.congr {f : Nat → Bool} (hW : OutG w0 w G m h) (he : ∀ j, j < m → h j = f j) : OutG w0 w G m f := by
  obtain ⟨⟨M, h1, h2, h3⟩, h4, h5⟩ := hW
  exact ⟨⟨M, h1, h2, fun j hj => by rw [h3 j hj, he j hj]⟩, h4, h5⟩
theorem OutG.store (hW : OutG w0 w G m h) (hi : i < m) (b : Bool) : (w.cell? ⟨G, i, none⟩ = some (.bool (h i))) ∧ w.frozen? ⟨G, i, none⟩ = false ∧ G < w.heap.size ∧ OutG w0 (w.setCell ⟨G, i, none⟩ (.bool b)) G m (fun j => if j = i then b else h j) := by
  obtain ⟨⟨M, h1, h2, h3⟩, h4, h5⟩ := hW
  have hk : KeepW (fun k => k ≠ G) w (w.setCell ⟨G, i, none⟩ (.bool b)) := keep_set G i none _ w fun h => h rfl
  refine ⟨by rw [h1.at_ (by omega) false, h3 i hi], h1.frozen i, h1.lt, ⟨M.set i b, h1.set i b, by rw [List.length_set]; exact h2, fun j hj => ?_⟩, KeepW.below h4 hk h4.size fun k hk => by omega, h5⟩
  rw [getD_set2 b (by omega)]
  split
  · rfl
  · exact h3 j hj
end
/-- The first q of them are done. -/
def midG (r : RuN) (f : Nat → Bool) (b q : Nat) : Nat → Bool := fun j => if j < q then stepG r f b j else orsG r f r.m j
theorem mid_next (r : RuN) (f : Nat → Bool) (b q : Nat) (y : Bool) (h : y = stepG r f b q) (j : Nat) : (if j = q then y else midG r f b q j) = midG r f b (q + 1) j := by
  unfold midG
  by_cases e : j = q
  · subst e; rw [if_pos rfl, if_pos (by omega), h]
  · rw [if_neg e]
    by_cases e2 : j < q
    · rw [if_pos e2, if_pos (by omega)]
    · rw [if_neg e2, if_neg (by omega)]
section
variable {w : World} {v u : Value} {r : RuN} {f : Nat → Bool}
theorem RuO.rowAt {old : Nat → Prop} (h : RuO old w v r) {k : Nat} (hk : k < r.m) : ∃ R g cap y, v = .pointer (some ⟨R, 0, none⟩) ∧ w.cell? ⟨R, 1, none⟩ = some (.slice (some ⟨g, 0, none⟩) r.m cap) ∧ r.m ≤ cap ∧ w.cell? ⟨g, k, none⟩ = some y ∧ BolR w y r.m (r.behind k) := by
  obtain ⟨_, _, _, R, sv, bv, lv, hv, _, c1, _, _, _, ⟨g, cap, rfl, hc, _, hr⟩, _⟩ := h
  obtain ⟨y, h4, h5⟩ := hr k hk
  exact ⟨R, g, cap, y, hv, c1, hc, h4, h5.read⟩
theorem RuO.setAt {old : Nat → Prop} (h : RuO old w v r) {k : Nat} {s : St4} (hk : r.sets[k]? = some s) : ∃ R g o cap, v = .pointer (some ⟨R, 0, none⟩) ∧ w.cell? ⟨R, 0, none⟩ = some (.slice (some ⟨g, o, none⟩) r.m cap) ∧ r.m ≤ cap ∧ ∀ (j : Nat) x, j < 4 → (set4C s)[j]? = some x → w.cell? ⟨g, o + (k * 4 + j), none⟩ = some x := by
  obtain ⟨_, _, _, R, sv, bv, lv, hv, c0, _, _, ⟨ao, cap, rfl, hn, hc⟩, _⟩ := h
  obtain ⟨g, o, rfl, _⟩ := hc (k * 4 + 0) _ (by rw [setsC_at r.sets k s hk 0 (by decide)]; rfl)
  refine ⟨R, g, o, cap, hv, c0, hn, fun j x hj hx => ?_⟩
  obtain ⟨g', o', e, _, hg⟩ := hc (k * 4 + j) x (by rw [setsC_at r.sets k s hk j hj]; exact hx)
  cases e
  exact hg
set_option maxRecDepth 4000 in
set_option maxHeartbeats 8000000 in
theorem rstep_any (h : RuR w v r) (hs : ∀ s, s ∈ r.sets → OkR s) (hu : BolR w u r.m f) (b : Nat) (hb : b < 256) :
    Calls Tryd.prog 42 #[v, u, .int .u8 (b : Int)] w fun e w' => ∃ G, e = .returned (.slice (some ⟨G, 0, none⟩) r.m r.m) ∧ BolR w' (.slice (some ⟨G, 0, none⟩) r.m r.m) r.m (stepG r f b) ∧ Below w.heap.size w w' := by
  have HV := Lib.hid h
  have HU := Lib.hid (fun (W : World) (hb : Below w.heap.size w W) => hu.below hb)
  have HS := Lib.hid hs
  have HH := Lib.hid (fun (s : St4) (hs : OkR s) (W : World) => rhas_any s b W hs hb)
  have hpos := h.pos
  have hfew := h.few
  have HLN := Lib.hid h.len
  obtain ⟨_, gu, cu, rfl, hcu, _, _⟩ := hu
  obtain ⟨_, _, _, R, _, _, _, rfl, _⟩ := h
  have hmk := nmake r.m (by omega) w
  have H0 : Hid (OutG w (w.alloc (.cells (boolC (noneB r.m)).toArray 4)) w.heap.size r.m (orsG r f 0)) := Lib.hid ⟨⟨noneB r.m, blkM_new w r.m, noneB_len r.m, fun j _ => noneB_get r.m j⟩, alloc_under _ _, Nat.le_refl _⟩
  obtain ⟨m, hm⟩ : ∃ m, r.m = m := ⟨_, rfl⟩
  have HM := Lib.hid hm
  rw [hm] at hpos hfew hcu hmk H0 ⊢
  clear hm hs
  go_enter Tryd.func42, Tryd.ntmps42
  go_wp2_with fail
  obtain ⟨W1, hW1⟩ : ∃ W1, w.alloc (.cells (boolC (noneB m)).toArray 4) = W1 := ⟨_, rfl⟩
  (try rw [hW1])
  rw [hW1] at H0
  clear hW1 hmk
  obtain ⟨G0, hG0⟩ : ∃ G0, w.heap.size = G0 := ⟨_, rfl⟩
  (try rw [hG0])
  have H1 : Hid (OutG w W1 G0 m (orsG r f 0)) := Lib.hid (by rw [← hG0]; exact H0.out)
  clear hG0 H0
  go_loopw [7, 8] (fun s7 s8 wr => ∃ p G : Nat, s8 = .int .i64 (p : Int) ∧ p ≤ m ∧ s7 = .slice (some ⟨G, 0, none⟩) m m ∧ Hid (OutG w wr G m (orsG r f p))) (fun _ s8 _ => m - (intOf s8).toNat)
  case atStart => exact ⟨0, G0, rfl, Nat.zero_le _, rfl, H1⟩
  case round =>
    obtain ⟨p, G, rfl, hp, rfl, HQ⟩ := hrel
    clear H1
    have i0 : (0 : Int) ≤ (p : Int) := by omega
    have ib : (p : Int) ≤ 1000 := by omega
    by_cases hlt : p < m
    · have hli : (p : Int) < (m : Int) := by omega
      obtain ⟨_, gu', cu', hue, _, _, huc⟩ := HU.out wr HQ.out.b
      injection hue with e1 e2 e3
      injection e1 with e1
      injection e1 with e1
      subst e1
      have x0 := huc p (by rw [HM.out]; exact hlt)
      clear huc e2 e3
      rcases hf : f p with _ | _
      · rw [hf] at x0
        have H2 : Hid (OutG w wr G m (orsG r f (p + 1))) := Lib.hid (HQ.out.congr fun j _ => by rw [orsG, if_neg (by rw [hf]; decide)])
        clear hf
        go_wp2_with fail
        go_roundw
        case rel => exact ⟨p + 1, G, by go_num, hlt, rfl, H2⟩
        case measure => simp [intOf] <;> omega
      · rw [hf] at x0
        obtain ⟨R', g, cap, y, hv, c1, hcap, c2, hy⟩ := (HV.out.below HQ.out.b).rowAt (k := p) (by rw [HM.out]; exact hlt)
        cases hv
        rw [HM.out] at c1 hcap hy
        have HO := Lib.hid (rorM_any (HQ.out.row hpos) hy (by omega))
        have HE : Hid (∀ j, orF (orsG r f p) (r.behind p) j = orsG r f (p + 1) j) := Lib.hid fun j => by rw [orsG, if_pos hf]
        clear hf hy
        go_wp2_with fail
        go_fit HO.out
        rintro e w2 ⟨G2, rfl, hg2, hM2, hb2⟩
        have H2 : Hid (OutG w w2 G2 m (orsG r f (p + 1))) := Lib.hid (OutG.congr ⟨hM2, HQ.out.b.trans (hb2.mono HQ.out.b.size), Nat.le_trans HQ.out.b.size hg2⟩ fun j _ => HE.out j)
        clear hg2 hM2 hb2 HO
        go_wp2_with fail
        go_roundw
        case rel => exact ⟨p + 1, G2, by go_num, hlt, rfl, H2⟩
        case measure => simp [intOf] <;> omega
    · have hli : ¬ (p : Int) < (m : Int) := by omega
      have hpm : p = m := by omega
      have H2 : Hid (OutG w wr G m (midG r f b 0)) := Lib.hid (HQ.out.congr fun j _ => by unfold midG; rw [if_neg (by omega), HM.out, hpm])
      clear hpm HQ
      go_wp2_with fail
      obtain ⟨wo, hwo⟩ : ∃ wo : World, wr = wo := ⟨_, rfl⟩
      rw [hwo] at H2
      (try rw [hwo])
      clear hwo hp hlt hli i0 ib
      go_loopw [9] (fun s9 wr => ∃ q : Nat, s9 = .int .i64 (q : Int) ∧ q ≤ m ∧ Hid (OutG w wr G m (midG r f b q))) (fun s9 _ => m - (intOf s9).toNat)
      case atStart => exact ⟨0, rfl, Nat.zero_le _, H2⟩
      case round =>
        obtain ⟨q, rfl, hq, HQ⟩ := hrel
        clear H2
        have i0 : (0 : Int) ≤ (q : Int) := by omega
        have ib : (q : Int) ≤ 1000 := by omega
        by_cases hlt : q < m
        · have hli : (q : Int) < (m : Int) := by omega
          have hmid : midG r f b q q = orsG r f r.m q := by unfold midG; rw [if_neg (by omega)]
          have HST : Hid (stepG r f b q = (orsG r f r.m q && (decide (0 < q) && hasR (setAt r.sets q) b))) := Lib.hid rfl
          obtain ⟨x0, x1, x2, hst⟩ := HQ.out.store hlt false
          rw [hmid] at x0
          obtain ⟨a, ha⟩ : ∃ a, orsG r f r.m q = a := ⟨_, rfl⟩
          rw [ha] at x0 HST
          by_cases hno : a = false ∨ q = 0
          · have H3 : Hid (OutG w (wr.setCell ⟨G, q, none⟩ (.bool false)) G m (midG r f b (q + 1))) := Lib.hid (hst.congr fun j _ => mid_next r f b q false (by
              rw [HST.out]
              rcases hno with e | e
              · rw [e]; rfl
              · rw [e]; simp) j)
            clear hmid ha hst HST
            rcases a with _ | _
            · clear hno
              go_wp2_with fail
              go_roundw
              case rel => exact ⟨q + 1, by go_num, hlt, H3⟩
              case measure => simp [intOf] <;> omega
            · have hq0 : q = 0 := hno.resolve_left (by decide)
              subst hq0
              clear hno
              go_wp2_with fail
              go_roundw
              case rel => exact ⟨0 + 1, by go_num, hlt, H3⟩
              case measure => simp [intOf] <;> omega
          · have hat : a = true := by
              rcases a with _ | _
              · exact absurd (.inl rfl) hno
              · rfl
            have hqp : 0 < q := by omega
            subst hat
            obtain ⟨s, hs⟩ : ∃ s, r.sets[q]? = some s := ⟨_, List.getElem?_eq_getElem (by rw [HLN.out, HM.out]; exact hlt)⟩
            obtain ⟨R', g, o, cap, hv, c0, hcap, hcell⟩ := (HV.out.below HQ.out.b).setAt hs
            cases hv
            rw [HM.out] at c0 hcap
            have d0 := hcell 0 _ (by decide) rfl
            have d1 := hcell 1 _ (by decide) rfl
            have d2 := hcell 2 _ (by decide) rfl
            have d3 := hcell 3 _ (by decide) rfl
            simp only [Nat.add_zero, ← Nat.add_assoc] at d0 d1 d2 d3
            have HA := Lib.hid (HH.out s (HS.out s (List.mem_of_getElem? hs)) wr)
            have hsa : Hid (stepG r f b q = hasR s b) := Lib.hid (by
              rw [HST.out, decide_eq_true hqp]
              have e : setAt r.sets q = s := by unfold setAt; rw [List.getD_eq_getElem?_getD, hs]; rfl
              rw [e]; simp)
            obtain ⟨y, hy⟩ : ∃ y, hasR s b = y := ⟨_, rfl⟩
            rw [hy] at HA hsa
            have hqi : (q : Int) > 0 := by omega
            have hqi2 : (0 : Int) < (q : Int) := by omega
            unfold setV at HA
            clear hmid ha hst HST hno hcell hs hy x1 x2
            go_wp2_with fail
            go_fit HA.out
            rintro e w2 ⟨rfl, hb2⟩
            have H2 := Lib.hid (HQ.out.under hb2)
            obtain ⟨z0, z1, z2, hst⟩ := H2.out.store hlt y
            have H3 : Hid (OutG w (w2.setCell ⟨G, q, none⟩ (.bool y)) G m (midG r f b (q + 1))) := Lib.hid (hst.congr fun j _ => mid_next r f b q y hsa.out.symm j)
            clear hst hb2 HA H2
            go_wp2_with fail
            go_roundw
            case rel => exact ⟨q + 1, by go_num, hlt, H3⟩
            case measure => simp [intOf] <;> omega
        · have hli : ¬ (q : Int) < (m : Int) := by omega
          have HF := Lib.hid (show BolR wr (.slice (some ⟨G, 0, none⟩) m m) m (stepG r f b) ∧ Below w.heap.size w wr from ⟨(HQ.out.congr (f := stepG r f b) fun j hj => by unfold midG; rw [if_pos (by omega)]).row hpos, HQ.out.b⟩)
          clear HQ
          go_wp2_with fail
          go_ret
          exact ⟨G, rfl, HF.out⟩
end
end Go.Proofs.YtkopbngnhgdfhaaDoor
