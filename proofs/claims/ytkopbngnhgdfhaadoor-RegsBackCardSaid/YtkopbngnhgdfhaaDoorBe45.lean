/-
  Texts of this proof, one behind the other; each begins with its own remark.
-/
import Derived.Deep.RegionLaw
import Derived.Test.YtkopbngnhgdfhaaDoorBe44
import Derived.Test.YtkopbngnhgdfhaaDoorBe36
/-
  regs.Same: one pair more, and what stays as it is; what lies in memory while a node's kids are added. No call is walked here.
-/
namespace Go.Proofs.YtkopbngnhgdfhaaDoor
open Go.RowKit

theorem PrW.pushK {N X : Nat} {w : World} {x u v : Value} {c : Nd} {l : List Nd} (h : PrW N w x l) (t ty : TypeId) (ht : Tryd.prog.underlying t = some (.slice 64))
    (hX : ∀ (j : Nat) y, (nodeC c u ++ nodeC c v)[j]? = some y → w.cell? ⟨X, j, none⟩ = some y) (hs : OkR c.set) (hu : KidsF (fun k => k < N) w c.kids u) (hv : KidsF (fun k => k < N) w c.kids v) (hN : N + 3 ≤ w.heap.size) (hl : l.length ≤ 100000) :
    ∃ x' w', (Builtin.append_ #[t, t] ty #[x, .slice (some ⟨X, 0, none⟩) 1 1]).run Tryd.prog w = .ok x' w' ∧ PrW N w' x' (c :: l) ∧ Below (N + 3) w w' ∧ KeepW (fun k => x.ownBlock ≠ some k) w w' ∧ ∀ k, x'.ownBlock = some k → x.ownBlock = some k ∨ k = w.heap.size := by
  obtain ⟨i0, z, hi, hz0, hzl, hz1, hz2⟩ := infoP2
  obtain ⟨us, vs, h0, h1⟩ := h
  obtain ⟨x', w', hr, hown', hgr, _, hat⟩ := run_append_own_at (P := Tryd.prog) w (N + 3) t ty 64 i0 z 12 128 ht hi hz0 hz1 hz2 hzl (by decide) x l.length (prC l us vs) h1 ⟨X, 0, none⟩ 1 1 (nodeC c u ++ nodeC c v) rfl
    (fun j y hy => by rw [rlit, Nat.zero_add]; exact hX j y hy) (pr_one hu hv) (by unfold maxLen; omega) (by omega) hN
  have hb := (Below.refl (N + 3) w).grown hgr hN fun k hk => (World.ownsRow.lt h1 k hk).1
  have hk : KeepW (fun k => k < N + 3) w w' := ⟨hgr.os, hgr.tape, hgr.output, hgr.size, fun k _ hk => hb.block k hk⟩
  refine ⟨x', w', hr, ⟨u :: us, v :: vs, ⟨⟨hs, hu.keep hk (fun k _ h => by omega), hv.keep hk (fun k _ h => by omega)⟩, h0.keep hk (fun k h => by omega)⟩, hown'⟩, hb, ⟨hgr.os, hgr.tape, hgr.output, hgr.size, fun k hk hne => hgr.block k hk fun e => hne e.symm⟩, fun k e => ?_⟩
  rcases hat with hat | hat
  · exact .inl (hat ▸ e)
  · rw [hat] at e; cases e; exact .inr rfl
theorem PrW.ownlt {N : Nat} {w : World} {x : Value} {l : List Nd} (h : PrW N w x l) : ∀ k, x.ownBlock = some k → N + 3 ≤ k ∧ k < w.heap.size := by
  obtain ⟨us, vs, _, h1⟩ := h
  exact fun k hk => World.ownsRow.lt h1 k hk
theorem wtL_rev : ∀ l : List Nd, wtL l.reverse = wtL l
  | [] => rfl
  | c :: l => by rw [List.reverse_cons, wtL_app, wtL_rev l, wtL_one, wtL]; omega
theorem take_rev {l : List Nd} {i : Nat} {d : Nd} (h : l[i]? = some d) (r : List Nd) : (l.take (i + 1)).reverse ++ r = d :: ((l.take i).reverse ++ r) := by
  rw [take_next h, List.reverse_append]
  rfl
end Go.Proofs.YtkopbngnhgdfhaaDoor

/-
  regs.Same of one tree twice: what lies in memory. No call is walked here.
-/
namespace Go.Proofs.YtkopbngnhgdfhaaDoor
open Go.RowKit

abbrev kpP (p : Kp × Kp) : Value := kp2V p.1 p.2
/-- A key's list lies below N, unfrozen. -/
def KpB (N : Nat) (w : World) (k : Kp) : Prop := ∀ a, k.1 = some a → a.block < N ∧ FrZ w a.block
theorem KpB.F {N : Nat} {w : World} {k : Kp} (h : KpB N w k) : KpF w k := fun a ha => (h a ha).2
theorem KpB.keep {N : Nat} {ok : Nat → Prop} {w w' : World} {k : Kp} (h : KpB N w k) (hk : KeepW ok w w') (ho : ∀ i, i < N → ok i) : KpB N w' k := fun a ha => ⟨(h a ha).1, (h a ha).2.keep hk (ho _ (h a ha).1)⟩
theorem KpB.under {N : Nat} {w w' : World} {k : Kp} (h : KpB N w k) (hb : Below w.heap.size w w') : KpB N w' k := fun a ha => ⟨(h a ha).1, (h a ha).2.under hb⟩
theorem kpB_of {N : Nat} {w : World} {l : List Nd} {u : Value} (h : KidsF (fun k => k < N) w l u) : KpB N w (kpK u) := fun a ha => by
  refine ⟨?_, kpF_of h a ha⟩
  obtain ⟨ao, c, rfl, _⟩ := h.form
  by_cases h0 : l.length = 0
  · rw [show kpK (.slice ao l.length c) = (none, 0) from if_pos h0] at ha
    cases ha
  · rw [show kpK (.slice ao l.length c) = (ao, l.length) from if_neg h0] at ha
    obtain ⟨g, o, c2, x, hv, _, _, _, _, hg, _⟩ := h.at_ (i := 0) (n := l[0]'(by omega)) (List.getElem?_eq_getElem (by omega))
    injection hv with e1 _ _
    have h2 : ao = some a := ha
    rw [e1] at h2
    cases h2
    exact hg
/-- What lies in memory while Same goes on. -/
structure SmW (w0 : World) (N : Nat) (w : World) (x : Value) (l : List Nd) (ks : List (Kp × Kp)) : Prop where
  prs : PrW N w x l
  set : SetM kpP w (N + 2) ks
  keys : ∀ k, k ∈ ks → KpB N w k.1 ∧ KpB N w k.2
  bel : Below N w0 w
  sz : N + 4 ≤ w.heap.size
theorem SmW.under {w0 w w' : World} {N : Nat} {x : Value} {l : List Nd} {ks : List (Kp × Kp)} (h : SmW w0 N w x l ks) (hb : Below w.heap.size w w') : SmW w0 N w' x l ks :=
  ⟨h.prs.below hb, h.set.under hb, fun k hk => ⟨(h.keys k hk).1.under hb, (h.keys k hk).2.under hb⟩, h.bel.trans (hb.mono (by have := h.sz; omega)), Nat.le_trans h.sz hb.size⟩
/-- How much is left: the least weight of a list that serves. -/
def SmP (w0 : World) (N : Nat) (w : World) (x : Value) (n : Nat) : Prop := ∃ l ks, SmW w0 N w x l ks ∧ wtL l = n
theorem least {P : Nat → Prop} : ∀ n, P n → ∃ m, P m ∧ ∀ k, P k → m ≤ k := by
  intro n
  induction n using Nat.strongRecOn with
  | ind n ih =>
    intro h
    by_cases hx : ∃ k, k < n ∧ P k
    · obtain ⟨k, hk, hp⟩ := hx
      exact ih k hk hp
    · exact ⟨n, h, fun k hk => Classical.byContradiction fun hn => hx ⟨k, by omega, hk⟩⟩
open Classical in
noncomputable def smM (w0 : World) (N : Nat) (x : Value) (w : World) : Nat := if h : ∃ m, SmP w0 N w x m ∧ ∀ k, SmP w0 N w x k → m ≤ k then Classical.choose h else 0
theorem smM_le {w0 w : World} {N n : Nat} {x : Value} (h : SmP w0 N w x n) : smM w0 N x w ≤ n := by
  have hl := least n h
  unfold smM
  rw [dif_pos hl]
  exact (Classical.choose_spec hl).2 n h
theorem smM_is {w0 w : World} {N n : Nat} {x : Value} (h : SmP w0 N w x n) : SmP w0 N w x (smM w0 N x w) := by
  have hl := least n h
  unfold smM
  rw [dif_pos hl]
  exact (Classical.choose_spec hl).1
/-- A key's box, still empty. -/
def KeyZ (K : Nat) (w : World) : Prop := w.heap[K]? = some (.cells #[.pointer none, .int .i64 0, .pointer none, .int .i64 0] 71 (0, 0))
theorem key_kept {V U : World} (h : Below (V.alloc (.cells #[.pointer none, .int .i64 0, .pointer none, .int .i64 0] 71)).heap.size (V.alloc (.cells #[.pointer none, .int .i64 0, .pointer none, .int .i64 0] 71)) U) : KeyZ V.heap.size U :=
  (h.block _ (by rw [alloc_size]; exact Nat.lt_succ_self _)).trans (heap_alloc_new V _)
theorem key_kept2 {V U : World} (h : Below (V.alloc (.cells #[.pointer none, .int .i64 0, .pointer none, .int .i64 0] 71)).drew.heap.size (V.alloc (.cells #[.pointer none, .int .i64 0, .pointer none, .int .i64 0] 71)).drew U) : KeyZ V.heap.size U :=
  (h.block _ (by show _ < (V.alloc _).heap.size; rw [alloc_size]; exact Nat.lt_succ_self _)).trans (heap_alloc_new V _)
theorem below_al {w W : World} {o : Obj} (h : Below w.heap.size w W) : Below w.heap.size w (W.alloc o) := h.alloc h.size _
theorem below_ald {w W : World} {o : Obj} (h : Below w.heap.size w W) : Below w.heap.size w (W.alloc o).drew := (h.alloc h.size _).drew
theorem KeyZ.below {K : Nat} {V U : World} (h : KeyZ K V) (hb : Below V.heap.size V U) : KeyZ K U := (hb.block K (Array.getElem?_eq_some_iff.1 h).1).trans h
theorem KeyZ.facts {K : Nat} {w : World} (h : KeyZ K w) : (w.cell? ⟨K, 0, none⟩ = some (.pointer none) ∧ w.cell? ⟨K, 1, none⟩ = some (.int .i64 0) ∧ w.cell? ⟨K, 2, none⟩ = some (.pointer none) ∧ w.cell? ⟨K, 3, none⟩ = some (.int .i64 0)) ∧
    (w.frozen? ⟨K, 0, none⟩ = false ∧ w.frozen? ⟨K, 1, none⟩ = false ∧ w.frozen? ⟨K, 2, none⟩ = false ∧ w.frozen? ⟨K, 3, none⟩ = false) ∧ K < w.heap.size := by
  unfold KeyZ at h
  refine ⟨⟨?_, ?_, ?_, ?_⟩, ⟨?_, ?_, ?_, ?_⟩, (Array.getElem?_eq_some_iff.1 h).1⟩ <;> first | (unfold World.cell?; rw [h]; rfl) | (unfold World.frozen?; rw [h]; simp)
/-- A key's box, filled. -/
def KeyF (K : Nat) (p1 p2 : Option Addr) (n1 n2 : Nat) (w : World) : Prop := w.heap[K]? = some (.cells #[.pointer p1, .int .i64 (n1 : Int), .pointer p2, .int .i64 (n2 : Int)] 71 (0, 0))
theorem KeyZ.fill {K B : Nat} {w : World} {p1 p2 : Option Addr} {n1 n2 : Nat} (h : KeyZ K w) (hB : B ≤ K) :
    KeyF K p1 p2 n1 n2 ((((w.setCell ⟨K, 0, none⟩ (.pointer p1)).setCell ⟨K, 1, none⟩ (.int .i64 (n1 : Int))).setCell ⟨K, 2, none⟩ (.pointer p2)).setCell ⟨K, 3, none⟩ (.int .i64 (n2 : Int))) ∧
    Below B w ((((w.setCell ⟨K, 0, none⟩ (.pointer p1)).setCell ⟨K, 1, none⟩ (.int .i64 (n1 : Int))).setCell ⟨K, 2, none⟩ (.pointer p2)).setCell ⟨K, 3, none⟩ (.int .i64 (n2 : Int))) := by
  constructor
  · unfold KeyZ at h
    unfold KeyF
    simp only [World.setCell, Array.getElem?_modify, if_true, h, Option.map_some]
    rfl
  · have one : ∀ (V : World) (o : Nat) (x : Value), Below B V (V.setCell ⟨K, o, none⟩ x) := fun V o x =>
      ⟨rfl, rfl, rfl, by show _ ≤ (V.heap.modify _ _).size; rw [Array.size_modify]; exact Nat.le_refl _, fun k hk => Below.heap_setCell V _ _ k fun e => by have : k = K := e; omega⟩
    exact (((one _ _ _).trans (one _ _ _)).trans (one _ _ _)).trans (one _ _ _)
/-- A pair's box. -/
def PrX (X : Nat) (c : Nd) (po qo : Option Addr) (kn pc qc : Nat) (w : World) : Prop := w.heap[X]? = some (.cells #[.int .i64 c.kind, .int .u64 (c.set.1 : Int), .int .u64 (c.set.2.1 : Int), .int .u64 (c.set.2.2.1 : Int), .int .u64 (c.set.2.2.2 : Int), .slice po kn pc, .int .i64 c.kind, .int .u64 (c.set.1 : Int), .int .u64 (c.set.2.1 : Int), .int .u64 (c.set.2.2.1 : Int), .int .u64 (c.set.2.2.2 : Int), .slice qo kn qc] 64 (0, 0))
theorem PrX.cells {X : Nat} {c : Nd} {po qo : Option Addr} {kn pc qc : Nat} {w : World} (h : PrX X c po qo kn pc qc w) : w.cell? ⟨X, 0, none⟩ = some (.int .i64 c.kind) ∧ w.cell? ⟨X, 1, none⟩ = some (.int .u64 (c.set.1 : Int)) ∧ w.cell? ⟨X, 2, none⟩ = some (.int .u64 (c.set.2.1 : Int)) ∧ w.cell? ⟨X, 3, none⟩ = some (.int .u64 (c.set.2.2.1 : Int)) ∧ w.cell? ⟨X, 4, none⟩ = some (.int .u64 (c.set.2.2.2 : Int)) ∧ w.cell? ⟨X, 5, none⟩ = some (.slice po kn pc) ∧ w.cell? ⟨X, 6, none⟩ = some (.int .i64 c.kind) ∧ w.cell? ⟨X, 7, none⟩ = some (.int .u64 (c.set.1 : Int)) ∧ w.cell? ⟨X, 8, none⟩ = some (.int .u64 (c.set.2.1 : Int)) ∧ w.cell? ⟨X, 9, none⟩ = some (.int .u64 (c.set.2.2.1 : Int)) ∧ w.cell? ⟨X, 10, none⟩ = some (.int .u64 (c.set.2.2.2 : Int)) ∧ w.cell? ⟨X, 11, none⟩ = some (.slice qo kn qc) := by
  unfold PrX at h
  refine ⟨?_, ?_, ?_, ?_, ?_, ?_, ?_, ?_, ?_, ?_, ?_, ?_⟩ <;> simp [World.cell?, h]
theorem PrX.lt {X : Nat} {c : Nd} {po qo : Option Addr} {kn pc qc : Nat} {w : World} (h : PrX X c po qo kn pc qc w) : X < w.heap.size := (Array.getElem?_eq_some_iff.1 h).1
theorem PrX.keep {ok : Nat → Prop} {X : Nat} {c : Nd} {po qo : Option Addr} {kn pc qc : Nat} {w w' : World} (h : PrX X c po qo kn pc qc w) (hk : KeepW ok w w') (ho : ok X) : PrX X c po qo kn pc qc w' := (hk.same X (Array.getElem?_eq_some_iff.1 h).1 ho).trans h
theorem PrX.below {X : Nat} {c : Nd} {po qo : Option Addr} {kn pc qc : Nat} {w w' : World} (h : PrX X c po qo kn pc qc w) (hb : Below w.heap.size w w') : PrX X c po qo kn pc qc w' := (hb.block X (Array.getElem?_eq_some_iff.1 h).1).trans h
/-- What lies in memory while a pair's kids are added. -/
structure InW (w0 : World) (N X : Nat) (W : World) (x : Value) (c : Nd) (l : List Nd) (i : Nat) (po qo : Option Addr) (kn pc qc : Nat) (ks : List (Kp × Kp)) : Prop where
  sm : SmW w0 N W x ((c.kids.take i).reverse ++ l) ks
  px : PrX X c po qo kn pc qc W
  ku : KidsF (fun k => k < N) W c.kids (.slice po kn pc)
  kv : KidsF (fun k => k < N) W c.kids (.slice qo kn qc)
  own : ∀ k, x.ownBlock = some k → k ≠ X
theorem InW.under {w0 W W' : World} {N X : Nat} {x : Value} {c : Nd} {l : List Nd} {i : Nat} {po qo : Option Addr} {kn pc qc : Nat} {ks : List (Kp × Kp)} (h : InW w0 N X W x c l i po qo kn pc qc ks) (hb : Below W.heap.size W W') : InW w0 N X W' x c l i po qo kn pc qc ks :=
  ⟨h.sm.under hb, h.px.below hb, h.ku.under hb, h.kv.under hb, h.own⟩
abbrev pairO (d : Nd) (u v : Value) : Obj := .cells #[.int .i64 d.kind, .int .u64 (d.set.1 : Int), .int .u64 (d.set.2.1 : Int), .int .u64 (d.set.2.2.1 : Int), .int .u64 (d.set.2.2.2 : Int), u, .int .i64 d.kind, .int .u64 (d.set.1 : Int), .int .u64 (d.set.2.1 : Int), .int .u64 (d.set.2.2.1 : Int), .int .u64 (d.set.2.2.2 : Int), v] 64
theorem InW.push {w0 W : World} {N X : Nat} {x : Value} {c d : Nd} {l : List Nd} {i : Nat} {po qo : Option Addr} {kn pc qc : Nat} {ks : List (Kp × Kp)} {u v : Value} (h : InW w0 N X W x c l i po qo kn pc qc ks) (hi : c.kids[i]? = some d)
    (hs : OkR d.set) (hu : KidsF (fun k => k < N) W d.kids u) (hv : KidsF (fun k => k < N) W d.kids v) (hl : ((c.kids.take i).reverse ++ l).length ≤ 100000) :
    ∃ x' w', (Builtin.append_ #[65, 65] 65 #[x, .slice (some ⟨W.heap.size, 0, none⟩) 1 1]).run Tryd.prog (W.alloc (pairO d u v)) = .ok x' w' ∧ InW w0 N X w' x' c l (i + 1) po qo kn pc qc ks := by
  have hb := alloc_under W (pairO d u v)
  have hsz := h.sm.sz
  have hz := hb.size
  have hx1 := h.sm.prs.below hb
  obtain ⟨x', w', hr, hp, hb2, hk, hn⟩ := hx1.pushK 65 65 Tryd.underlying65 (X := W.heap.size) (u := u) (v := v) (c := d) (fun j y hy => by
    rw [cell_of_row _ _ j _ _ (0, 0) (heap_alloc_new W _), List.getElem?_toArray]
    exact hy) hs (hu.under hb) (hv.under hb) (by omega) hl
  have hXl := h.px.lt
  have hoX : ∀ k, k < N + 3 ∨ k = X → x.ownBlock ≠ some k := fun k hk e => by
    have h1 := (PrW.ownlt h.sm.prs k e).1
    rcases hk with hk | hk
    · omega
    · exact h.own k e hk
  refine ⟨x', w', hr, ⟨by rw [take_rev hi]; exact hp, (h.sm.set.under hb).keep hk (hoX _ (.inl (by omega))), fun k hkm => ?_, (h.sm.bel.trans (hb.mono (by omega))).trans (hb2.mono (by omega)), by have := hb2.size; omega⟩, ?_, ?_, ?_, fun k e => ?_⟩
  · exact ⟨((h.sm.keys k hkm).1.under hb).keep hk fun i hi => hoX i (.inl (by omega)), ((h.sm.keys k hkm).2.under hb).keep hk fun i hi => hoX i (.inl (by omega))⟩
  · exact (hk.same X (by omega) (hoX X (.inr rfl))).trans ((hb.block X hXl).trans h.px)
  · exact (h.ku.under hb).keep hk fun k _ hk => hoX k (.inl (by omega))
  · exact (h.kv.under hb).keep hk fun k _ hk => hoX k (.inl (by omega))
  · rcases hn k e with e | e
    · exact h.own k e
    · rw [e]; omega
/-- What stands behind the region that builds the key, in its two orders. -/
theorem closeA {w3 vv : World} {X : Nat} {c : Nd} {po qo p1 p2 : Option Addr} {kn pc qc n1 n2 : Nat} (HC : Hid (∀ V, Below w3.heap.size w3 V → PrX X c po qo kn pc qc V)) (kk : Below w3.heap.size w3 vv) :
    ∃ K, Value.pointer (some ⟨vv.heap.size, 0, none⟩) = .pointer (some ⟨K, 0, none⟩) ∧ Hid (KeyF K p1 p2 n1 n2 (vv.alloc (.cells #[.pointer p1, .int .i64 (n1 : Int), .pointer p2, .int .i64 (n2 : Int)] 71)) ∧ PrX X c po qo kn pc qc (vv.alloc (.cells #[.pointer p1, .int .i64 (n1 : Int), .pointer p2, .int .i64 (n2 : Int)] 71)) ∧ Below w3.heap.size w3 (vv.alloc (.cells #[.pointer p1, .int .i64 (n1 : Int), .pointer p2, .int .i64 (n2 : Int)] 71))) :=
  ⟨_, rfl, heap_alloc_new _ _, HC.out _ (below_al kk), below_al kk⟩
theorem closeB {w3 vv : World} {X K : Nat} {c : Nd} {po qo p1 p2 : Option Addr} {kn pc qc n1 n2 : Nat} (HC : Hid (∀ V, Below w3.heap.size w3 V → PrX X c po qo kn pc qc V)) (zk : KeyZ K vv) (zB : w3.heap.size ≤ K) (kk : Below w3.heap.size w3 vv) :
    ∃ K', Value.pointer (some ⟨K, 0, none⟩) = .pointer (some ⟨K', 0, none⟩) ∧ Hid (KeyF K' p1 p2 n1 n2 ((((vv.setCell ⟨K, 0, none⟩ (.pointer p1)).setCell ⟨K, 1, none⟩ (.int .i64 (n1 : Int))).setCell ⟨K, 2, none⟩ (.pointer p2)).setCell ⟨K, 3, none⟩ (.int .i64 (n2 : Int))) ∧ PrX X c po qo kn pc qc ((((vv.setCell ⟨K, 0, none⟩ (.pointer p1)).setCell ⟨K, 1, none⟩ (.int .i64 (n1 : Int))).setCell ⟨K, 2, none⟩ (.pointer p2)).setCell ⟨K, 3, none⟩ (.int .i64 (n2 : Int))) ∧ Below w3.heap.size w3 ((((vv.setCell ⟨K, 0, none⟩ (.pointer p1)).setCell ⟨K, 1, none⟩ (.int .i64 (n1 : Int))).setCell ⟨K, 2, none⟩ (.pointer p2)).setCell ⟨K, 3, none⟩ (.int .i64 (n2 : Int)))) :=
  ⟨_, rfl, (KeyZ.fill zk zB).1, HC.out _ (kk.trans (KeyZ.fill zk zB).2), kk.trans (KeyZ.fill zk zB).2⟩
theorem KeyF.cells {K : Nat} {p1 p2 : Option Addr} {n1 n2 : Nat} {w : World} (h : KeyF K p1 p2 n1 n2 w) : (w.cell? ⟨K, 0, none⟩ = some (.pointer p1) ∧ w.cell? ⟨K, 1, none⟩ = some (.int .i64 (n1 : Int)) ∧ w.cell? ⟨K, 2, none⟩ = some (.pointer p2) ∧ w.cell? ⟨K, 3, none⟩ = some (.int .i64 (n2 : Int))) ∧ K < w.heap.size := by
  unfold KeyF at h
  refine ⟨⟨?_, ?_, ?_, ?_⟩, (Array.getElem?_eq_some_iff.1 h).1⟩ <;> (unfold World.cell?; rw [h]; rfl)
theorem KeyF.below {K : Nat} {p1 p2 : Option Addr} {n1 n2 : Nat} {w w' : World} (h : KeyF K p1 p2 n1 n2 w) (hb : Below w.heap.size w w') : KeyF K p1 p2 n1 n2 w' := (hb.block K (Array.getElem?_eq_some_iff.1 h).1).trans h
theorem KeyF.keep {K : Nat} {ok : Nat → Prop} {p1 p2 : Option Addr} {n1 n2 : Nat} {w w' : World} (h : KeyF K p1 p2 n1 n2 w) (hk : KeepW ok w w') (ho : ok K) : KeyF K p1 p2 n1 n2 w' := (hk.same K (Array.getElem?_eq_some_iff.1 h).1 ho).trans h
/-- The append in a region that draws its order. -/
theorem papp_step {w w' : World} {v u v' : Value} {ops : Array Oper} {o : Oper} {a : Act} {K : Act → World → Prop} {Q : Exit → Act → World → Prop} {E : Prop} (hgd : o.guard = none) (s x : Operand) (t : TypeId)
    (ho : o.op = .call { callee := .builtin .append, args := #[s, x], argTypes := #[t, t] })
    (hs : a.eval s = v) (hx : a.eval x = u) (hr : (Builtin.append_ #[t, t] o.type #[v, u]).run Tryd.prog w = .ok v' w') (h : K (a.put o.dst v') w') :
    if Region.wanted o (yielded ops a.tmps) = true then Oper.wp Tryd.prog o a w K Q else E := by
  have hw : Region.wanted o (yielded ops a.tmps) = true := by simp [Region.wanted, hgd]
  rw [if_pos hw]
  unfold Oper.wp execOp
  simp only [ho, resolve, invoke, builtin, Sem.run_bind, Sem.run_pure, Result.andThen_ok, List.map_toArray, List.map_cons, List.map_nil, hs, hx, hr]
  exact h
end Go.Proofs.YtkopbngnhgdfhaaDoor
