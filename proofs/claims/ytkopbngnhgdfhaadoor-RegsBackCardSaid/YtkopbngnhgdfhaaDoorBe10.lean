/-
  Texts of this proof, one behind the other; each begins with its own remark.
-/
import Derived.Laws.StructEq
import Derived.ChangeKeysEq
import Derived.Test.YtkopbngnhgdfhaaDoorBe9
import Derived.Test.YtkopbngnhgdfhaaDoorBe3
import Derived.Test.YtkopbngnhgdfhaaDoorBe6
/-
  What lies in memory while rows works: the result's box, the rows that are done, the row at hand; one piece more; a row joined. No call is walked here.
-/
namespace Go.Proofs.YtkopbngnhgdfhaaDoor
open Go.RowKit

/-- All nodes of such a row, behind a slice. -/
theorem OutP.kids {T : TypeId} {N : Nat} {P ok : Nat → Prop} {w : World} {v : Value} {l : List Nd} (h : OutP T N P w v l) (hl : l.length ≤ 1000000) (hP : ∀ k, P k → ok k) (ho : ∀ k, v.ownBlock = some k → ok k) : KidsW ok w l v := by
  obtain ⟨us, h1, h2, h3⟩ := h
  refine ⟨l, us, v, by omega, h1, ?_, (fun i n hi => ?_), fun i n u hi hu => (h3 i n u hi hu).2.mono fun k _ hk => hP k hk.1⟩
  · obtain ⟨hlen, ⟨rfl, h0⟩ | ⟨g, cap, cur, rfl, h4, hg, hn, _, _, hx⟩⟩ := h2
    · rw [h0]
      rw [h0, Nat.zero_mul] at hlen
      rw [List.eq_nil_of_length_eq_zero hlen]
      exact RowZ.nil _ _
    · refine ⟨_, cap, rfl, hn, fun j u hu => ⟨g, 0, rfl, ho g rfl, ?_⟩⟩
      rw [Nat.zero_add, cell_of_row _ _ _ cur T (0, 0) hg]
      rw [← hx, List.getElem?_take] at hu
      split at hu
      · rw [← Array.getElem?_toList]; exact hu
      · cases hu
  · obtain ⟨u, hu⟩ : ∃ u, us[i]? = some u := ⟨_, List.getElem?_eq_getElem (by rw [h1]; exact (List.getElem?_eq_some_iff.1 hi).1)⟩
    exact (h3 i n u hi hu).1
/-- A law of append in a plain region. -/
theorem wpList_runR {w w' : World} {v u v' : Value} {ops : Array Oper} {rest : List Oper} {o : Oper} {a : Act} {Q : Exit → Act → World → Prop} (hgd : o.guard = none) (s x : Operand) (t : TypeId)
    (ho : o.op = .call { callee := .builtin .append, args := #[s, x], argTypes := #[t, t] })
    (hs : a.eval s = v) (hx : a.eval x = u) (hr : (Builtin.append_ #[t, t] o.type #[v, u]).run Tryd.prog w = .ok v' w') (h : wpList Tryd.prog ops Q rest (a.put o.dst v') w') : wpList Tryd.prog ops Q (o :: rest) a w := by
  refine wpList_plain hgd fun K hK => ?_
  unfold Oper.wp execOp
  simp only [ho, resolve, invoke, builtin, Sem.run_bind, Sem.run_pure, Result.andThen_ok, List.map_toArray, List.map_cons, List.map_nil, hs, hx, hr]
  exact hK _ _ h
theorem boxN_node {T : TypeId} {w : World} {B : Nat} {n : Nd} {u : Value} (h : boxN T w B n.kind n.set u) : ∀ (j : Nat) x, (nodeC n u)[j]? = some x → w.cell? ⟨B, j, none⟩ = some x := by
  obtain ⟨⟨c0, c1, c2, c3, c4, c5⟩, _⟩ := h.cells
  intro j x hx
  have hj : j < 6 := (List.getElem?_eq_some_iff.1 hx).1
  have h6 : j = 0 ∨ j = 1 ∨ j = 2 ∨ j = 3 ∨ j = 4 ∨ j = 5 := by omega
  rcases h6 with rfl | rfl | rfl | rfl | rfl | rfl <;> (cases hx; assumption)
/-- The result's box at A, the rows that are done, the row at hand. -/
structure RwsW (w0 w : World) (A : Nat) (v6 v7 : Value) (all row : List Nd) : Prop where
  res : boxN 90 w A 0 noR (.slice none 0 0)
  a : OutP 90 (A + 1) (fun k => A + 1 ≤ k ∧ v7.ownBlock ≠ some k) w v6 all
  r : OutP 90 (A + 1) (fun k => A + 1 ≤ k ∧ v6.ownBlock ≠ some k) w v7 row
  ne : ∀ k, v6.ownBlock = some k → v7.ownBlock ≠ some k
  bel : Below A w0 w
  sz : A + 1 ≤ w.heap.size
section
variable {w0 w w' : World} {A : Nat} {v6 v7 : Value} {all row : List Nd}
theorem RwsW.under (h : RwsW w0 w A v6 v7 all row) (hb : Below w.heap.size w w') : RwsW w0 w' A v6 v7 all row :=
  ⟨h.res.below hb, h.a.under hb, h.r.under hb, h.ne, h.bel.trans (hb.mono (by have := h.sz; omega)), Nat.le_trans h.sz hb.size⟩
/-- The row at hand, as a slice of kids. -/
theorem RwsW.rowK (h : RwsW w0 w A v6 v7 all row) (hl : row.length ≤ 1000000) : KidsW (fun k => A + 1 ≤ k ∧ v6.ownBlock ≠ some k) w row v7 :=
  h.r.kids hl (fun _ hk => hk) fun k e => ⟨(h.r.lt k e).1, fun e6 => h.ne k e6 e⟩
theorem RwsW.allK (h : RwsW w0 w A v6 v7 all row) (hl : all.length ≤ 1000000) : KidsW (fun k => A + 1 ≤ k) w all v6 :=
  h.a.kids hl (fun _ hk => hk.1) fun k e => (h.a.lt k e).1
theorem Tryd.infoNode10 : (Tryd.prog.info? 90).map (fun i => (i.zero.map fun z => z.cells.size, i.size, i.bytes)) = some (some 6, 6, 64) := by kernel_rfl
theorem info10 : ∃ i z, Tryd.prog.info? 90 = some i ∧ i.zero = some z ∧ z.cells.size = 6 ∧ i.size = 6 ∧ i.bytes = 64 := by
  have h := Tryd.infoNode10
  obtain ⟨i, hi⟩ : ∃ i, Tryd.prog.info? 90 = some i := by
    rcases hx : Tryd.prog.info? 90 with _ | i
    · rw [hx] at h; cases h
    · exact ⟨i, rfl⟩
  rw [hi] at h
  simp only [Option.map_some, Option.some.injEq, Prod.mk.injEq] at h
  obtain ⟨h1, h2, h3⟩ := h
  rcases hz : i.zero with _ | z
  · rw [hz] at h1; cases h1
  · rw [hz] at h1
    simp only [Option.map_some, Option.some.injEq] at h1
    exact ⟨i, z, hi, hz, h1, h2, h3⟩
/-- One piece more in the row at hand. -/
theorem RwsW.piece {n : Nd} {u : Value} {X : Nat} {ok : Nat → Prop} (h : RwsW w0 w A v6 v7 all row) (t ty : TypeId) (ht : Tryd.prog.underlying t = some (.slice 90)) (hX : ∀ (j : Nat) x, (nodeC n u)[j]? = some x → w.cell? ⟨X, j, none⟩ = some x) (hs : OkR n.set) (hu : KidsW ok w n.kids u)
    (ho : ∀ k, k < w.heap.size → ok k → A + 1 ≤ k ∧ v6.ownBlock ≠ some k ∧ v7.ownBlock ≠ some k) (hl : row.length ≤ 100000) :
    ∃ v' w1, (Builtin.append_ #[t, t] ty #[v7, .slice (some ⟨X, 0, none⟩) 1 1]).run Tryd.prog w = .ok v' w1 ∧ RwsW w0 w1 A v6 v' all (row ++ [n]) := by
  obtain ⟨i0, z, hi, hz0, hzl, hz1, hz2⟩ := info10
  obtain ⟨v', w1, hr, hO, hk, hor⟩ := run_outP t ty i0 z ht hi hz0 hzl hz1 hz2 h.r hX hs hu (fun k hlt hk => ⟨⟨(ho k hlt hk).1, (ho k hlt hk).2.1⟩, (ho k hlt hk).2.2⟩) h.sz hl
  have hAlt := h.res.lt
  have hne : ∀ k, k < w.heap.size → v7.ownBlock ≠ some k → v'.ownBlock ≠ some k := fun k hlt h7 e => by
    rcases hor k e with h5 | h5
    · exact h7 h5
    · omega
  have hA7 : v7.ownBlock ≠ some A := fun e => by have := (h.r.lt A e).1; omega
  refine ⟨v', w1, hr, h.res.keep hk hA7, ?_, hO, fun k e6 => hne k (h.a.lt k e6).2 (h.ne k e6), KeepW.below h.bel hk (by omega) (fun k hlt e => by have := (h.r.lt k e).1; omega), Nat.le_trans h.sz hk.size⟩
  have h1 := h.a.mono (P' := fun k => (A + 1 ≤ k ∧ v'.ownBlock ≠ some k) ∧ v7.ownBlock ≠ some k) fun k hlt hp => ⟨⟨hp.1, hne k hlt hp.2⟩, hp.2⟩
  exact (h1.keep hk (fun k e => h.ne k e) fun k _ hp => hp.2).mono fun k _ hp => hp.1
/-- The row at hand is done. -/
theorem RwsW.line {n : Nd} {u : Value} {X : Nat} {ok : Nat → Prop} (h : RwsW w0 w A v6 v7 all row) (t ty : TypeId) (ht : Tryd.prog.underlying t = some (.slice 90)) (hX : ∀ (j : Nat) x, (nodeC n u)[j]? = some x → w.cell? ⟨X, j, none⟩ = some x) (hs : OkR n.set) (hu : KidsW ok w n.kids u)
    (ho : ∀ k, k < w.heap.size → ok k → A + 1 ≤ k ∧ v6.ownBlock ≠ some k) (hl : all.length ≤ 100000) :
    ∃ v' w1, (Builtin.append_ #[t, t] ty #[v6, .slice (some ⟨X, 0, none⟩) 1 1]).run Tryd.prog w = .ok v' w1 ∧ RwsW w0 w1 A v' (.slice none 0 0) (all ++ [n]) [] := by
  obtain ⟨i0, z, hi, hz0, hzl, hz1, hz2⟩ := info10
  obtain ⟨v', w1, hr, hO, hk, hor⟩ := run_outP (P := fun k => A + 1 ≤ k) t ty i0 z ht hi hz0 hzl hz1 hz2 (h.a.mono fun k _ hp => hp.1) hX hs hu ho h.sz hl
  have hAlt := h.res.lt
  have hA6 : v6.ownBlock ≠ some A := fun e => by have := (h.a.lt A e).1; omega
  exact ⟨v', w1, hr, h.res.keep hk hA6, hO.mono fun k _ hp => ⟨hp, fun e => by cases e⟩, OutP.nil _ _ _ _, (fun k _ e => by cases e), KeepW.below h.bel hk (by omega) (fun k hlt e => by have := (h.a.lt k e).1; omega), Nat.le_trans h.sz hk.size⟩
end
end Go.Proofs.YtkopbngnhgdfhaaDoor

/-
  Two sets held against each other: what '==' and '!=' come to; when two nodes are the same. No call is walked here.
-/
namespace Go.Proofs.YtkopbngnhgdfhaaDoor
open Go.RowKit

theorem Tryd.cellsU64 : Tryd.prog.cellsOf 22 = 1 := by kernel_rfl
theorem Tryd.infoU64 : (Tryd.prog.info? 22).isSome = true := by kernel_rfl
theorem part_u64 (xs : Array Value) (o : Nat) (x : Value) (w : World) (h : xs[o]? = some x) : (part 22 xs o).run Tryd.prog w = .ok x w := by
  unfold part
  simp only [Sem.run_bind, Tryd.isAgg22, Result.andThen_ok]
  simp [h]
theorem eqI_step (d : Nat) (xs ys : Array Value) (i : Nat) (is : List Nat) (x y : Nat) (w : World) (hx : xs[i]? = some (.int .u64 (x : Int))) (hy : ys[i]? = some (.int .u64 (y : Int))) :
    (Op.eqItems (d + 1) 22 1 xs ys (i :: is)).run Tryd.prog w = if x = y then (Op.eqItems (d + 1) 22 1 xs ys is).run Tryd.prog w else .ok false w := by
  simp only [Op.eqItems, Sem.run_bind, Nat.mul_one, part_u64 xs i _ w hx, part_u64 ys i _ w hy, Result.andThen_ok, run_equalIn_int w d 22 .u64 .u64 (x : Int) (y : Int) Tryd.underlying22]
  by_cases e : x = y
  · simp [e]
  · have e2 : ¬ (x : Int) = (y : Int) := by omega
    simp [e, e2]
theorem set_eqIn (s t : St4) (w : World) : (Op.equalIn 10000 23 (setV s) (setV t)).run Tryd.prog w = .ok (decide (s = t)) w := by
  unfold setV
  obtain ⟨i, hi⟩ := Option.isSome_iff_exists.1 Tryd.infoU64
  rw [show (10000 : Nat) = 9998 + 1 + 1 from rfl, run_equalIn_array w (9998 + 1) _ _ Tryd.underlying23 hi, Tryd.cellsU64, show List.range 4 = [0, 1, 2, 3] from rfl]
  rw [eqI_step 9998 _ _ 0 _ _ _ w rfl rfl, eqI_step 9998 _ _ 1 _ _ _ w rfl rfl, eqI_step 9998 _ _ 2 _ _ _ w rfl rfl, eqI_step 9998 _ _ 3 _ _ _ w rfl rfl]
  obtain ⟨a, b, c, d⟩ := s
  obtain ⟨a', b', c', d'⟩ := t
  by_cases h1 : a = a' <;> by_cases h2 : b = b' <;> by_cases h3 : c = c' <;> by_cases h4 : d = d' <;> simp [h1, h2, h3, h4, Op.eqItems]
theorem set_eql (s t : St4) (w : World) : (binOp .eql 23 (setV s) (setV t)).run Tryd.prog w = .ok (.bool (decide (s = t))) w := by
  have h := set_eqIn s t w
  unfold setV at h ⊢
  rw [run_eql_struct, h]; rfl
theorem set_neq (s t : St4) (w : World) : (binOp .neq 23 (setV s) (setV t)).run Tryd.prog w = .ok (.bool (!decide (s = t))) w := by
  have h := set_eqIn s t w
  unfold setV at h ⊢
  rw [run_neq_struct, h]; rfl
mutual
/-- Are two nodes the same? -/
def sameR : Nd → Nd → Bool
  | .mk k s l, .mk k' s' l' => decide (k = k') && decide (s = s') && sameL l l'
def sameL : List Nd → List Nd → Bool
  | [], [] => true
  | a :: l, b :: m => sameR a b && sameL l m
  | _, _ => false
end
mutual
theorem sameR_iff : ∀ (a b : Nd), sameR a b = true ↔ a = b
  | .mk k s l, .mk k' s' l' => by
    simp only [sameR, Bool.and_eq_true, decide_eq_true_eq, Nd.mk.injEq, sameL_iff l l', and_assoc]
theorem sameL_iff : ∀ (l m : List Nd), sameL l m = true ↔ l = m
  | [], [] => by simp [sameL]
  | a :: l, b :: m => by simp only [sameL, Bool.and_eq_true, List.cons.injEq, sameR_iff a b, sameL_iff l m]
  | [], b :: m => by simp [sameL]
  | a :: l, [] => by simp [sameL]
end
theorem sameR_self (a : Nd) : sameR a a = true := (sameR_iff a a).2 rfl
theorem sameL_len : ∀ (l m : List Nd), l.length ≠ m.length → sameL l m = false
  | [], [], h => absurd rfl h
  | a :: l, b :: m, h => by
    rw [sameL, sameL_len l m (fun e => h (by simp [e])), Bool.and_false]
  | [], b :: m, _ => rfl
  | a :: l, [], _ => rfl
theorem sameR_parts (a b : Nd) : sameR a b = (decide (a.kind = b.kind) && decide (a.set = b.set) && sameL a.kids b.kids) := by
  cases a with
  | mk k s l => cases b with
    | mk k' s' l' => rw [sameR]; rfl
theorem sameL_drop (l m : List Nd) (i : Nat) (h1 : i < l.length) (h2 : i < m.length) : sameL (l.drop i) (m.drop i) = (sameR l[i] m[i] && sameL (l.drop (i + 1)) (m.drop (i + 1))) := by
  rw [List.drop_eq_getElem_cons h1, List.drop_eq_getElem_cons h2, sameL]
theorem deep_kid : ∀ (l : List Nd) (n : Nd), n ∈ l → deepR n ≤ deepL l
  | m :: l, n, h => by
    rw [deepL]
    rcases List.mem_cons.1 h with rfl | h
    · exact Nat.le_max_left _ _
    · exact Nat.le_trans (deep_kid l n h) (Nat.le_max_right _ _)
theorem deep_kids (n : Nd) : deepR n = deepL n.kids + 1 := by
  cases n with
  | mk k s l => rw [deepR]; rfl
end Go.Proofs.YtkopbngnhgdfhaaDoor
