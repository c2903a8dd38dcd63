/-
  Texts of this proof, one behind the other; each begins with its own remark.
-/
import Derived.Test.YtkopbngnhgdfhaaDoorBe11
import Derived.Test.YtkopbngnhgdfhaaDoorBe14
/-
  A box that holds a node: its cells, stores into it; where a letter's rest stands.
-/
namespace Go.Proofs.YtkopbngnhgdfhaaDoor
open Go.RowKit

/-- A box of a node (T: its type). -/
def boxN (T : TypeId) (w : World) (B : Nat) (k : Int) (s : St4) (u : Value) : Prop := w.heap[B]? = some (.cells #[.int .i64 k, .int .u64 (s.1 : Int), .int .u64 (s.2.1 : Int), .int .u64 (s.2.2.1 : Int), .int .u64 (s.2.2.2 : Int), u] T (0, 0))
/-- A set stored into it. -/
def set4N (w : World) (B : Nat) (t : St4) : World := (((w.setCell ⟨B, 1, none⟩ (.int .u64 (t.1 : Int))).setCell ⟨B, 2, none⟩ (.int .u64 (t.2.1 : Int))).setCell ⟨B, 3, none⟩ (.int .u64 (t.2.2.1 : Int))).setCell ⟨B, 4, none⟩ (.int .u64 (t.2.2.2 : Int))
/-- A node stored into it. -/
def set6N (w : World) (B : Nat) (k : Int) (t : St4) (u : Value) : World := (set4N (w.setCell ⟨B, 0, none⟩ (.int .i64 k)) B t).setCell ⟨B, 5, none⟩ u
section
variable {T : TypeId} {w w' : World} {B : Nat} {k : Int} {s : St4} {u : Value}
theorem boxN.lt (h : boxN T w B k s u) : B < w.heap.size := (Array.getElem?_eq_some_iff.1 h).1
theorem boxN.cells (h : boxN T w B k s u) : (w.cell? ⟨B, 0, none⟩ = some (.int .i64 k) ∧ w.cell? ⟨B, 1, none⟩ = some (.int .u64 (s.1 : Int)) ∧ w.cell? ⟨B, 2, none⟩ = some (.int .u64 (s.2.1 : Int)) ∧ w.cell? ⟨B, 3, none⟩ = some (.int .u64 (s.2.2.1 : Int)) ∧ w.cell? ⟨B, 4, none⟩ = some (.int .u64 (s.2.2.2 : Int)) ∧ w.cell? ⟨B, 5, none⟩ = some u) ∧ w.frozen? ⟨B, 0, none⟩ = false ∧ w.frozen? ⟨B, 1, none⟩ = false ∧ w.frozen? ⟨B, 2, none⟩ = false ∧ w.frozen? ⟨B, 3, none⟩ = false ∧ w.frozen? ⟨B, 4, none⟩ = false ∧ w.frozen? ⟨B, 5, none⟩ = false := by
  unfold boxN at h
  refine ⟨⟨?_, ?_, ?_, ?_, ?_, ?_⟩, ?_, ?_, ?_, ?_, ?_, ?_⟩ <;> first | (unfold World.cell?; rw [h]; rfl) | (unfold World.frozen?; rw [h]; simp)
theorem boxN.below (h : boxN T w B k s u) (hb : Below w.heap.size w w') : boxN T w' B k s u := (hb.block B h.lt).trans h
theorem boxN.keep {ok : Nat → Prop} (h : boxN T w B k s u) (hk : KeepW ok w w') (ho : ok B) : boxN T w' B k s u := (hk.same B h.lt ho).trans h
theorem boxN.set4 (h : boxN T w B k s u) (t : St4) : boxN T (set4N w B t) B k t u := by
  unfold boxN at h ⊢
  unfold set4N
  simp only [World.setCell, Array.getElem?_modify, if_true, h, Option.map_some]
  rfl
theorem boxN.set6 (h : boxN T w B k s u) (j : Int) (t : St4) (v : Value) : boxN T (set6N w B j t v) B j t v := by
  unfold boxN at h ⊢
  unfold set6N set4N
  simp only [World.setCell, Array.getElem?_modify, if_true, h, Option.map_some]
  rfl
end
theorem boxN.new (T : TypeId) (w : World) (k : Int) (s : St4) (u : Value) : boxN T (w.alloc (.cells #[.int .i64 k, .int .u64 (s.1 : Int), .int .u64 (s.2.1 : Int), .int .u64 (s.2.2.1 : Int), .int .u64 (s.2.2.2 : Int), u] T)) w.heap.size k s u := heap_alloc_new _ _
theorem keep_set4N (w : World) (B : Nat) (t : St4) : KeepW (fun k => k ≠ B) w (set4N w B t) :=
  (((keep_set B 1 none _ w (fun h => h rfl)).trans (keep_set B 2 none _ _ (fun h => h rfl))).trans (keep_set B 3 none _ _ (fun h => h rfl))).trans (keep_set B 4 none _ _ (fun h => h rfl))
theorem keep_set6N (w : World) (B : Nat) (k : Int) (t : St4) (u : Value) : KeepW (fun k => k ≠ B) w (set6N w B k t u) :=
  ((keep_set B 0 none _ w (fun h => h rfl)).trans (keep_set4N _ B t)).trans (keep_set B 5 none _ _ (fun h => h rfl))

/-! ### What a letter leaves is a rest of the text -/
theorem esc_drop {l r : List Nat} {b : Nat} (h : escR l = some (b, r)) : ∃ k, r = l.drop k := by
  match l, h with
  | d :: t, h =>
    simp only [escR] at h
    split at h
    · cases h; exact ⟨1, rfl⟩
    split at h
    · cases h; exact ⟨1, rfl⟩
    split at h
    · cases h; exact ⟨1, rfl⟩
    split at h
    · match t, h with
      | a :: e :: q, h =>
        simp only [hexR] at h
        split at h
        · cases h; exact ⟨3, rfl⟩
        · cases h
    split at h
    · cases h; exact ⟨1, rfl⟩
    · cases h
theorem let_drop {br : Bool} {l r : List Nat} {b : Nat} (h : letR br l = some (b, r)) : ∃ k, r = l.drop k := by
  match l, h with
  | c :: t, h =>
    simp only [letR] at h
    split at h
    · obtain ⟨k, hk⟩ := esc_drop h
      exact ⟨k + 1, hk⟩
    split at h
    · cases h
    · cases h; exact ⟨1, rfl⟩
/-- Where the rest begins. -/
theorem let_at {s : ByteArray} {i b : Nat} {br : Bool} {r : List Nat} (h : letR br (restR s i) = some (b, r)) : ∃ k, i < k ∧ k ≤ s.size ∧ r = restR s k ∧ letV s i br = .tuple #[.int .u8 (b : Int), .int .i64 (k : Int)] ∧ b < 256 := by
  have h1 := let_len h
  rw [rest_len] at h1
  refine ⟨s.size - r.length, by omega, by omega, rest_of s i (let_drop h), ?_, let_lt (rest_lt s i) h⟩
  unfold letV
  rw [h]
theorem let_not {s : ByteArray} {i : Nat} {br : Bool} (h : letR br (restR s i) = none) : letV s i br = .tuple #[.int .u8 0, .int .i64 (-1)] := by
  unfold letV
  rw [h]
theorem rest_head (s : ByteArray) (i : Nat) (c : Nat) : (restR s i).head? = some c ↔ atI s i = (c : Int) := by
  unfold atI
  by_cases h : i < s.size
  · rw [rest_cons s i h, if_pos h]
    simp only [List.head?_cons, Option.some.injEq]
    omega
  · rw [rest_nil s i (by omega), if_neg h]
    simp
theorem rest_tail (s : ByteArray) (i : Nat) : (restR s i).tail = restR s (i + 1) := by
  unfold restR
  rw [List.tail_drop]
end Go.Proofs.YtkopbngnhgdfhaaDoor

/-
  What lies in memory while rows works: the result's box, the rows that are done, the row at hand; one piece more; a row joined. No call is walked here.
-/
namespace Go.Proofs.YtkopbngnhgdfhaaDoor
open Go.RowKit

/-- All nodes of such a row, behind a slice. -/
theorem OutP.kids {T : TypeId} {N : Nat} {P ok : Nat → Prop} {w : World} {v : Value} {l : List Nd} (h : OutP T N P w v l) (hl : l.length ≤ 1000000) (hP : ∀ k, P k → ok k) (ho : ∀ k, v.ownBlock = some k → ok k) : KidsW ok w l v := by
  obtain ⟨us, h1, h2, h3⟩ := h
  refine ⟨l, us, v, by omega, h1, ?_, (fun i n hi => ?_), fun i n u hi hu => (h3 i n u hi hu).2.mono fun k _ hk => hP k hk.1⟩
  · obtain ⟨hlen, ⟨rfl, h0⟩ | ⟨g, cap, cur, rfl, h4, hg, hn, _, _, hx⟩⟩ := h2
    · rw [h0]
      rw [h0, Nat.zero_mul] at hlen
      rw [List.eq_nil_of_length_eq_zero hlen]
      exact RowZ.nil _ _
    · refine ⟨_, cap, rfl, hn, fun j u hu => ⟨g, 0, rfl, ho g rfl, ?_⟩⟩
      rw [Nat.zero_add, cell_of_row _ _ _ cur T (0, 0) hg]
      rw [← hx, List.getElem?_take] at hu
      split at hu
      · rw [← Array.getElem?_toList]; exact hu
      · cases hu
  · obtain ⟨u, hu⟩ : ∃ u, us[i]? = some u := ⟨_, List.getElem?_eq_getElem (by rw [h1]; exact (List.getElem?_eq_some_iff.1 hi).1)⟩
    exact (h3 i n u hi hu).1
/-- A law of append in a plain region. -/
theorem wpList_runR {w w' : World} {v u v' : Value} {ops : Array Oper} {rest : List Oper} {o : Oper} {a : Act} {Q : Exit → Act → World → Prop} (hgd : o.guard = none) (s x : Operand) (t : TypeId)
    (ho : o.op = .call { callee := .builtin .append, args := #[s, x], argTypes := #[t, t] })
    (hs : a.eval s = v) (hx : a.eval x = u) (hr : (Builtin.append_ #[t, t] o.type #[v, u]).run Tryd.prog w = .ok v' w') (h : wpList Tryd.prog ops Q rest (a.put o.dst v') w') : wpList Tryd.prog ops Q (o :: rest) a w := by
  refine wpList_plain hgd fun K hK => ?_
  unfold Oper.wp execOp
  simp only [ho, resolve, invoke, builtin, Sem.run_bind, Sem.run_pure, Result.andThen_ok, List.map_toArray, List.map_cons, List.map_nil, hs, hx, hr]
  exact hK _ _ h
theorem boxN_node {T : TypeId} {w : World} {B : Nat} {n : Nd} {u : Value} (h : boxN T w B n.kind n.set u) : ∀ (j : Nat) x, (nodeC n u)[j]? = some x → w.cell? ⟨B, j, none⟩ = some x := by
  obtain ⟨⟨c0, c1, c2, c3, c4, c5⟩, _⟩ := h.cells
  intro j x hx
  have hj : j < 6 := (List.getElem?_eq_some_iff.1 hx).1
  have h6 : j = 0 ∨ j = 1 ∨ j = 2 ∨ j = 3 ∨ j = 4 ∨ j = 5 := by omega
  rcases h6 with rfl | rfl | rfl | rfl | rfl | rfl <;> (cases hx; assumption)
/-- The result's box at A, the rows that are done, the row at hand. -/
structure RwsW (w0 w : World) (A : Nat) (v6 v7 : Value) (all row : List Nd) : Prop where
  res : boxN 90 w A 0 noR (.slice none 0 0)
  a : OutP 90 (A + 1) (fun k => A + 1 ≤ k ∧ v7.ownBlock ≠ some k) w v6 all
  r : OutP 90 (A + 1) (fun k => A + 1 ≤ k ∧ v6.ownBlock ≠ some k) w v7 row
  ne : ∀ k, v6.ownBlock = some k → v7.ownBlock ≠ some k
  bel : Below A w0 w
  sz : A + 1 ≤ w.heap.size
section
variable {w0 w w' : World} {A : Nat} {v6 v7 : Value} {all row : List Nd}
theorem RwsW.under (h : RwsW w0 w A v6 v7 all row) (hb : Below w.heap.size w w') : RwsW w0 w' A v6 v7 all row :=
  ⟨h.res.below hb, h.a.under hb, h.r.under hb, h.ne, h.bel.trans (hb.mono (by have := h.sz; omega)), Nat.le_trans h.sz hb.size⟩
/-- The row at hand, as a slice of kids. -/
theorem RwsW.rowK (h : RwsW w0 w A v6 v7 all row) (hl : row.length ≤ 1000000) : KidsW (fun k => A + 1 ≤ k ∧ v6.ownBlock ≠ some k) w row v7 :=
  h.r.kids hl (fun _ hk => hk) fun k e => ⟨(h.r.lt k e).1, fun e6 => h.ne k e6 e⟩
theorem RwsW.allK (h : RwsW w0 w A v6 v7 all row) (hl : all.length ≤ 1000000) : KidsW (fun k => A + 1 ≤ k) w all v6 :=
  h.a.kids hl (fun _ hk => hk.1) fun k e => (h.a.lt k e).1
theorem Tryd.infoNode10 : (Tryd.prog.info? 90).map (fun i => (i.zero.map fun z => z.cells.size, i.size, i.bytes)) = some (some 6, 6, 64) := by kernel_rfl
theorem info10 : ∃ i z, Tryd.prog.info? 90 = some i ∧ i.zero = some z ∧ z.cells.size = 6 ∧ i.size = 6 ∧ i.bytes = 64 := by
  have h := Tryd.infoNode10
  obtain ⟨i, hi⟩ : ∃ i, Tryd.prog.info? 90 = some i := by
    rcases hx : Tryd.prog.info? 90 with _ | i
    · rw [hx] at h; cases h
    · exact ⟨i, rfl⟩
  rw [hi] at h
  simp only [Option.map_some, Option.some.injEq, Prod.mk.injEq] at h
  obtain ⟨h1, h2, h3⟩ := h
  rcases hz : i.zero with _ | z
  · rw [hz] at h1; cases h1
  · rw [hz] at h1
    simp only [Option.map_some, Option.some.injEq] at h1
    exact ⟨i, z, hi, hz, h1, h2, h3⟩
/-- One piece more in the row at hand. -/
theorem RwsW.piece {n : Nd} {u : Value} {X : Nat} {ok : Nat → Prop} (h : RwsW w0 w A v6 v7 all row) (t ty : TypeId) (ht : Tryd.prog.underlying t = some (.slice 90)) (hX : ∀ (j : Nat) x, (nodeC n u)[j]? = some x → w.cell? ⟨X, j, none⟩ = some x) (hs : OkR n.set) (hu : KidsW ok w n.kids u)
    (ho : ∀ k, k < w.heap.size → ok k → A + 1 ≤ k ∧ v6.ownBlock ≠ some k ∧ v7.ownBlock ≠ some k) (hl : row.length ≤ 100000) :
    ∃ v' w1, (Builtin.append_ #[t, t] ty #[v7, .slice (some ⟨X, 0, none⟩) 1 1]).run Tryd.prog w = .ok v' w1 ∧ RwsW w0 w1 A v6 v' all (row ++ [n]) := by
  obtain ⟨i0, z, hi, hz0, hzl, hz1, hz2⟩ := info10
  obtain ⟨v', w1, hr, hO, hk, hor⟩ := run_outP t ty i0 z ht hi hz0 hzl hz1 hz2 h.r hX hs hu (fun k hlt hk => ⟨⟨(ho k hlt hk).1, (ho k hlt hk).2.1⟩, (ho k hlt hk).2.2⟩) h.sz hl
  have hAlt := h.res.lt
  have hne : ∀ k, k < w.heap.size → v7.ownBlock ≠ some k → v'.ownBlock ≠ some k := fun k hlt h7 e => by
    rcases hor k e with h5 | h5
    · exact h7 h5
    · omega
  have hA7 : v7.ownBlock ≠ some A := fun e => by have := (h.r.lt A e).1; omega
  refine ⟨v', w1, hr, h.res.keep hk hA7, ?_, hO, fun k e6 => hne k (h.a.lt k e6).2 (h.ne k e6), KeepW.below h.bel hk (by omega) (fun k hlt e => by have := (h.r.lt k e).1; omega), Nat.le_trans h.sz hk.size⟩
  have h1 := h.a.mono (P' := fun k => (A + 1 ≤ k ∧ v'.ownBlock ≠ some k) ∧ v7.ownBlock ≠ some k) fun k hlt hp => ⟨⟨hp.1, hne k hlt hp.2⟩, hp.2⟩
  exact (h1.keep hk (fun k e => h.ne k e) fun k _ hp => hp.2).mono fun k _ hp => hp.1
/-- The row at hand is done. -/
theorem RwsW.line {n : Nd} {u : Value} {X : Nat} {ok : Nat → Prop} (h : RwsW w0 w A v6 v7 all row) (t ty : TypeId) (ht : Tryd.prog.underlying t = some (.slice 90)) (hX : ∀ (j : Nat) x, (nodeC n u)[j]? = some x → w.cell? ⟨X, j, none⟩ = some x) (hs : OkR n.set) (hu : KidsW ok w n.kids u)
    (ho : ∀ k, k < w.heap.size → ok k → A + 1 ≤ k ∧ v6.ownBlock ≠ some k) (hl : all.length ≤ 100000) :
    ∃ v' w1, (Builtin.append_ #[t, t] ty #[v6, .slice (some ⟨X, 0, none⟩) 1 1]).run Tryd.prog w = .ok v' w1 ∧ RwsW w0 w1 A v' (.slice none 0 0) (all ++ [n]) [] := by
  obtain ⟨i0, z, hi, hz0, hzl, hz1, hz2⟩ := info10
  obtain ⟨v', w1, hr, hO, hk, hor⟩ := run_outP (P := fun k => A + 1 ≤ k) t ty i0 z ht hi hz0 hzl hz1 hz2 (h.a.mono fun k _ hp => hp.1) hX hs hu ho h.sz hl
  have hAlt := h.res.lt
  have hA6 : v6.ownBlock ≠ some A := fun e => by have := (h.a.lt A e).1; omega
  exact ⟨v', w1, hr, h.res.keep hk hA6, hO.mono fun k _ hp => ⟨hp, fun e => by cases e⟩, OutP.nil _ _ _ _, (fun k _ e => by cases e), KeepW.below h.bel hk (by omega) (fun k hlt e => by have := (h.a.lt k e).1; omega), Nat.le_trans h.sz hk.size⟩
end
end Go.Proofs.YtkopbngnhgdfhaaDoor

/-
  Nodes whose kids lie in blocks without any frozen range: so two addresses of them are told apart. No call is walked here.
-/
namespace Go.Proofs.YtkopbngnhgdfhaaDoor
open Go.RowKit

/-- A block of cells of which none is frozen, nor what stands behind them. -/
def FrZ (w : World) (k : Nat) : Prop := ∃ c t, w.heap[k]? = some (.cells c t (0, 0))
theorem FrZ.lt {w : World} {k : Nat} (h : FrZ w k) : k < w.heap.size := by
  obtain ⟨c, t, h⟩ := h
  exact (Array.getElem?_eq_some_iff.1 h).1
theorem FrZ.keep {ok : Nat → Prop} {w w' : World} {k : Nat} (h : FrZ w k) (hk : KeepW ok w w') (ho : ok k) : FrZ w' k := by
  have hl := h.lt
  obtain ⟨c, t, h⟩ := h
  exact ⟨c, t, (hk.same k hl ho).trans h⟩
theorem FrZ.under {w w' : World} {k : Nat} (h : FrZ w k) (hb : Below w.heap.size w w') : FrZ w' k := h.keep (keep_below (fun _ => True) hb) trivial
def KidsF (P : Nat → Prop) (w : World) (l : List Nd) (v : Value) : Prop := KidsW (fun k => P k ∧ FrZ w k) w l v
def NodeF (P : Nat → Prop) (w : World) (n : Nd) (x : Value) : Prop := OkR n.set ∧ ∃ u, x = nodeV n u ∧ KidsF P w n.kids u
section
variable {ok ok' : Nat → Prop} {w w' : World} {l : List Nd} {v : Value} {n : Nd} {x : Value}
theorem KidsF.keep (h : KidsF ok w l v) (hk : KeepW ok' w w') (hm : ∀ k, k < w.heap.size → ok k → ok' k) : KidsF ok w' l v := by
  have h1 := KidsW.keep h hk fun k hl hp => hm k hl hp.1
  exact h1.mono fun k _ hp => ⟨hp.1, hp.2.keep hk (hm k hp.2.lt hp.1)⟩
theorem KidsF.mono (h : KidsF ok w l v) (hm : ∀ k, k < w.heap.size → ok k → ok' k) : KidsF ok' w l v := KidsW.mono h fun k hl hp => ⟨hm k hl hp.1, hp.2⟩
theorem KidsF.under (h : KidsF ok w l v) (hb : Below w.heap.size w w') : KidsF ok w' l v := h.keep (keep_below (fun _ => True) hb) fun _ _ _ => trivial
theorem KidsF.nil (ok : Nat → Prop) (w : World) : KidsF ok w [] (.slice none 0 0) := KidsW.nil _ _
theorem KidsF.form (h : KidsF ok w l v) : ∃ ao cap, v = .slice ao l.length cap ∧ l.length ≤ cap ∧ l.length ≤ 9223372036854775807 := KidsW.form h
theorem KidsF.W (h : KidsF ok w l v) : KidsW ok w l v := KidsW.mono h fun _ _ hp => hp.1
/-- Told at an elder world, as of now. -/
theorem kidsF_of {w0 : World} (h : KidsW (fun k => ok k ∧ FrZ w0 k) w l v) (hb : Below w0.heap.size w0 w) : KidsF ok w l v := h.mono fun _ _ hp => ⟨hp.1, hp.2.under hb⟩
theorem KidsF.at_ {i : Nat} (h : KidsF ok w l v) (hi : l[i]? = some n) :
    ∃ g o cap u, v = .slice (some ⟨g, o, none⟩) l.length cap ∧ l.length ≤ cap ∧ OkR n.set ∧ KidsF ok w n.kids u ∧ (∀ (j : Nat) x, j < 6 → (nodeC n u)[j]? = some x → w.cell? ⟨g, o + (i * 6 + j), none⟩ = some x) ∧ ok g ∧ FrZ w g := by
  obtain ⟨_, us, _, hb, hlen, ⟨ao, cap, hv, hn, hc⟩, hs, hk⟩ := h
  obtain ⟨u, hu⟩ : ∃ u, us[i]? = some u := ⟨_, List.getElem?_eq_getElem (by rw [hlen]; exact (List.getElem?_eq_some_iff.1 hi).1)⟩
  have h1 := hs i n hi
  have h2 := hk i n u hi hu
  obtain ⟨g, o, ha, hg0, _⟩ := hc (i * 6 + 0) (.int .i64 n.kind) (by rw [nodesC_get l us i n u hi hu 0 (by decide)]; rfl)
  refine ⟨g, o, cap, u, by rw [hv, ha], hn, h1, h2, fun j x hj hx => ?_, hg0.1, hg0.2⟩
  obtain ⟨g', o', ha', _, hg⟩ := hc (i * 6 + j) x (by rw [nodesC_get l us i n u hi hu j hj]; exact hx)
  rw [ha] at ha'
  cases ha'
  exact hg
theorem NodeF.keep (h : NodeF ok w n x) (hk : KeepW ok' w w') (hm : ∀ k, k < w.heap.size → ok k → ok' k) : NodeF ok w' n x := by
  obtain ⟨h1, u, rfl, h2⟩ := h
  exact ⟨h1, u, rfl, h2.keep hk hm⟩
theorem NodeF.mono (h : NodeF ok w n x) (hm : ∀ k, k < w.heap.size → ok k → ok' k) : NodeF ok' w n x := by
  obtain ⟨h1, u, rfl, h2⟩ := h
  exact ⟨h1, u, rfl, h2.mono hm⟩
theorem NodeF.below (h : NodeF ok w n x) (hb : Below w.heap.size w w') : NodeF ok w' n x := h.keep (keep_below (fun _ => True) hb) fun _ _ _ => trivial
theorem NodeF.leaf (k : Int) (s : St4) (hs : OkR s) : NodeF ok w (.mk k s []) (.agg #[.int .i64 k, .int .u64 (s.1 : Int), .int .u64 (s.2.1 : Int), .int .u64 (s.2.2.1 : Int), .int .u64 (s.2.2.2 : Int), .slice none 0 0]) := ⟨hs, .slice none 0 0, rfl, KidsF.nil _ _⟩
theorem NodeF.W (h : NodeF ok w n x) : NodeW ok w n x := by
  obtain ⟨h1, u, rfl, h2⟩ := h
  exact ⟨h1, u, rfl, h2.W⟩
end
/-- A row of nodes of the call's own, from a block N on, in such blocks. -/
def OutF (T : TypeId) (N : Nat) (w : World) (v : Value) (l : List Nd) : Prop := OutP T N (fun k => N ≤ k ∧ FrZ w k) w v l
theorem OutF.nil (T : TypeId) (N : Nat) (w : World) : OutF T N w (.slice none 0 0) [] := OutP.nil _ _ _ _
theorem OutF.lt {T : TypeId} {N : Nat} {w : World} {v : Value} {l : List Nd} (h : OutF T N w v l) : ∀ k, v.ownBlock = some k → N ≤ k ∧ k < w.heap.size := OutP.lt h
theorem OutF.keep {T : TypeId} {N : Nat} {ok : Nat → Prop} {w w' : World} {v : Value} {l : List Nd} (h : OutF T N w v l) (hk : KeepW ok w w') (ho : ∀ k, N ≤ k → ok k) : OutF T N w' v l := by
  have h1 := OutP.keep h hk (fun k e => ho k (OutP.lt h k e).1) fun k _ hp => ho k hp.1
  exact h1.mono fun k _ hp => ⟨hp.1, hp.2.keep hk (ho k hp.1)⟩
theorem OutF.below {T : TypeId} {N : Nat} {w w' : World} {v : Value} {l : List Nd} (h : OutF T N w v l) (hb : Below w.heap.size w w') : OutF T N w' v l := h.keep (keep_below (fun _ => True) hb) fun _ _ => trivial
theorem OutF.kids {T : TypeId} {N : Nat} {w : World} {v : Value} {l : List Nd} (h : OutF T N w v l) (hl : l.length ≤ 1000000) : KidsF (fun k => N ≤ k) w l v := by
  refine OutP.kids h hl (fun k hp => hp) fun k e => ⟨(OutP.lt h k e).1, ?_⟩
  obtain ⟨us, _, ⟨_, h2⟩, _⟩ := h
  rcases h2 with ⟨rfl, _⟩ | ⟨g, cap, cur, rfl, _, hg, _⟩
  · cases e
  · cases e
    exact ⟨cur, T, hg⟩
/-- One node more. -/
theorem run_outF {T : TypeId} {N m : Nat} {w : World} {v u : Value} {l : List Nd} {n : Nd} {X : Nat} (t ty : TypeId) (i0 : TypeInfo) (z : Value) (ht : Tryd.prog.underlying t = some (.slice T)) (hi : Tryd.prog.info? T = some i0) (hz0 : i0.zero = some z) (hzl : z.cells.size = 6) (hz1 : i0.size = 6) (hz2 : i0.bytes = 64)
    (hv : OutF T N w v l) (hX : ∀ (j : Nat) x, (nodeC n u)[j]? = some x → w.cell? ⟨X, j, none⟩ = some x) (hs : OkR n.set) (hu : KidsF (fun k => m ≤ k) w n.kids u) (ho : ∀ k, k < w.heap.size → m ≤ k → N ≤ k ∧ v.ownBlock ≠ some k) (hN : N ≤ w.heap.size) (hl : l.length ≤ 100000) :
    ∃ v' w', (Builtin.append_ #[t, t] ty #[v, .slice (some ⟨X, 0, none⟩) 1 1]).run Tryd.prog w = .ok v' w' ∧ OutF T N w' v' (l ++ [n]) ∧ KeepW (fun k => v.ownBlock ≠ some k) w w' := by
  -- the kids' blocks are not the row's own: said ahead
  have hv2 : OutP T N (fun k => (N ≤ k ∧ FrZ w k) ∧ v.ownBlock ≠ some k) w v l := by
    obtain ⟨us, h0, h1, h3⟩ := hv
    exact ⟨us, h0, h1, fun i m x hm hx => ⟨(h3 i m x hm hx).1, (h3 i m x hm hx).2.mono fun k _ hp => ⟨⟨hp.1, hp.2⟩, hp.2⟩⟩⟩
  obtain ⟨v', w', hr, hO, hk, _⟩ := run_outP t ty i0 z ht hi hz0 hzl hz1 hz2 hv2 hX hs (KidsW.mono hu (ok' := fun k => m ≤ k ∧ FrZ w k) fun k _ hp => hp) (fun k hlt hp => ⟨⟨⟨(ho k hlt hp.1).1, hp.2⟩, (ho k hlt hp.1).2⟩, (ho k hlt hp.1).2⟩) hN hl
  exact ⟨v', w', hr, hO.mono fun k _ hp => ⟨hp.1.1, hp.1.2.keep hk hp.2⟩, hk⟩
end Go.Proofs.YtkopbngnhgdfhaaDoor
