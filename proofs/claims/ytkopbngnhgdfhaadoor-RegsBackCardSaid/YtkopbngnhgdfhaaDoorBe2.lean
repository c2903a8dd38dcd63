/-
  Texts of this proof, one behind the other; each begins with its own remark.
-/
import Derived.Test.YtkopbngnhgdfhaaDoorRows
import Derived.WalkKit
import Derived.WalkSpells
import Derived.WalkLawsBesides
import Derived.Lib.OthersKept
import Derived.Lib.Hide
import Derived.Deep.QuietTactic
import Derived.Deep.RegionHeld3
import Derived.BigQuiet
import Derived.WalkSmall
import Derived.Deep.DeepFit
import Derived.Deep.AppendSrc
import Derived.Maps.AppendAt
/-
  Rows of cells behind a slice, whatever their elements: what a row holds, in which blocks; that it stays while those blocks stay; append onto one without room. No call is walked here.
-/
namespace Go.Proofs.YtkopbngnhgdfhaaDoor
open Go.RowKit

theorem rlit (g o k : Nat) : (⟨g, o, none⟩ : Addr).add k = ⟨g, o + k, none⟩ := by unfold Addr.add; split <;> simp_all
theorem rlt {w : World} {p : Addr} {v : Value} (h : w.cell? p = some v) : p.block < w.heap.size := World.block_lt_of_cell? w p h

/-- The blocks that may stay do stay. -/
structure KeepW (ok : Nat → Prop) (w w' : World) : Prop where
  os : w'.os = w.os
  tape : w'.tape = w.tape
  output : w'.output = w.output
  size : w.heap.size ≤ w'.heap.size
  same : ∀ k, k < w.heap.size → ok k → w'.heap[k]? = w.heap[k]?
theorem KeepW.refl (ok : Nat → Prop) (w : World) : KeepW ok w w := ⟨rfl, rfl, rfl, Nat.le_refl _, fun _ _ _ => rfl⟩
theorem KeepW.trans {ok : Nat → Prop} {a b c : World} (h : KeepW ok a b) (g : KeepW ok b c) : KeepW ok a c :=
  ⟨g.os.trans h.os, g.tape.trans h.tape, g.output.trans h.output, Nat.le_trans h.size g.size, fun k hk ho => (g.same k (Nat.lt_of_lt_of_le hk h.size) ho).trans (h.same k hk ho)⟩
theorem KeepW.mono {ok ok' : Nat → Prop} {a b : World} (h : KeepW ok a b) (hm : ∀ k, k < a.heap.size → ok' k → ok k) : KeepW ok' a b :=
  ⟨h.os, h.tape, h.output, h.size, fun k hk ho => h.same k hk (hm k hk ho)⟩
theorem keep_below {w w' : World} (ok : Nat → Prop) (h : Below w.heap.size w w') : KeepW ok w w' := ⟨h.os, h.tape, h.output, h.size, fun k hk _ => h.block k hk⟩
theorem keep_drewN (ok : Nat → Prop) (w : World) (n : Nat) : KeepW ok w (w.drewN n) := ⟨rfl, rfl, rfl, Nat.le_refl _, fun _ _ _ => rfl⟩
theorem keep_drew (ok : Nat → Prop) (w : World) : KeepW ok w w.drew := ⟨rfl, rfl, rfl, Nat.le_refl _, fun _ _ _ => rfl⟩
theorem keep_set {ok : Nat → Prop} (B o : Nat) (x : Option Nat) (v : Value) (w : World) (hB : ¬ ok B) : KeepW ok w (w.setCell ⟨B, o, x⟩ v) :=
  ⟨rfl, rfl, rfl, by show _ ≤ (w.heap.modify _ _).size; rw [Array.size_modify]; exact Nat.le_refl _, fun k _ ho => Below.heap_setCell w _ v k fun e => hB (by rw [show k = B from e] at ho; exact ho)⟩
theorem KeepW.cell {ok : Nat → Prop} {w w' : World} (h : KeepW ok w w') {g o : Nat} {v : Value} (hc : w.cell? ⟨g, o, none⟩ = some v) (hg : ok g) : w'.cell? ⟨g, o, none⟩ = some v :=
  (World.cell?_of_block (a := ⟨g, o, none⟩) (h.same g (rlt hc) hg)).trans hc
/-- What was below all that may turn is as it was. -/
theorem KeepW.below {ok : Nat → Prop} {n : Nat} {a b c : World} (h : Below n a b) (g : KeepW ok b c) (hn : n ≤ b.heap.size) (ho : ∀ k, k < n → ok k) : Below n a c :=
  ⟨g.os.trans h.os, g.tape.trans h.tape, g.output.trans h.output, Nat.le_trans h.size g.size, fun k hk => (g.same k (by omega) (ho k hk)).trans (h.block k hk)⟩

/-- A slice of n elements that begins with these cells; its block is one of those. -/
def RowV (ok : Nat → Prop) (w : World) (v : Value) (n : Nat) (cs : List Value) : Prop :=
  ∃ ao cap, v = .slice ao n cap ∧ n ≤ cap ∧ (∀ a, ao = some a → ok a.block) ∧ ∀ (j : Nat) u, cs[j]? = some u → ∃ g o, ao = some ⟨g, o, none⟩ ∧ w.cell? ⟨g, o + j, none⟩ = some u
theorem RowV.keep {ok : Nat → Prop} {w w' : World} {v : Value} {n : Nat} {cs : List Value} (h : RowV ok w v n cs) (hk : KeepW ok w w') : RowV ok w' v n cs := by
  obtain ⟨ao, cap, hv, hn, ho, hc⟩ := h
  refine ⟨ao, cap, hv, hn, ho, fun j u hu => ?_⟩
  obtain ⟨g, o, ha, hg⟩ := hc j u hu
  exact ⟨g, o, ha, hk.cell hg (ho _ ha)⟩
theorem RowV.mono {ok ok' : Nat → Prop} {w : World} {v : Value} {n : Nat} {cs : List Value} (h : RowV ok w v n cs) (hm : ∀ k, k < w.heap.size → ok k → ok' k) (hn : 0 < cs.length) : RowV ok' w v n cs := by
  obtain ⟨ao, cap, hv, hnc, ho, hc⟩ := h
  obtain ⟨g, o, ha, hg⟩ := hc 0 _ (List.getElem?_eq_getElem hn)
  refine ⟨ao, cap, hv, hnc, fun a e => ?_, hc⟩
  have e2 : a = ⟨g, o, none⟩ := Option.some.inj (e.symm.trans ha)
  subst e2
  exact hm g (rlt hg) (ho _ e)
theorem RowV.cap {ok : Nat → Prop} {w : World} {a : Option Addr} {n c : Nat} {cs : List Value} (h : RowV ok w (.slice a n c) n cs) : n ≤ c := by
  obtain ⟨ao, cap, hv, hn, _⟩ := h
  cases hv; exact hn
theorem RowV.nil (ok : Nat → Prop) (w : World) : RowV ok w (.slice none 0 0) 0 [] := ⟨none, 0, rfl, Nat.le_refl _, (fun a e => by cases e), fun j u h => by simp at h⟩
theorem RowV.take {ok : Nat → Prop} {w : World} {ao : Option Addr} {n cap k c2 : Nat} {cs : List Value} (m : Nat) (h : RowV ok w (.slice ao n cap) n cs) (hk : k ≤ c2) : RowV ok w (.slice ao k c2) k (cs.take (k * m)) := by
  obtain ⟨ao', cap', he, hn, ho, hc⟩ := h
  cases he
  refine ⟨ao, c2, rfl, hk, ho, fun j u hu => ?_⟩
  rw [List.getElem?_take] at hu
  split at hu
  · exact hc j u hu
  · cases hu
theorem RowV.drop {ok : Nat → Prop} {w : World} {g o n cap i c2 : Nat} {cs : List Value} (m : Nat) (h : RowV ok w (.slice (some ⟨g, o, none⟩) n cap) n cs) (hc2 : n - i ≤ c2) : RowV ok w (.slice (some ⟨g, o + i * m, none⟩) (n - i) c2) (n - i) (cs.drop (i * m)) := by
  obtain ⟨ao', cap', he, hn, ho, hc⟩ := h
  cases he
  refine ⟨_, c2, rfl, hc2, fun a e => by cases e; exact ho ⟨g, o, none⟩ rfl, fun j u hu => ?_⟩
  rw [List.getElem?_drop] at hu
  obtain ⟨g', o', e, hg⟩ := hc _ u hu
  cases e
  exact ⟨g, o + i * m, rfl, by rw [Nat.add_assoc]; exact hg⟩
/-- What stands at one place of it. -/
theorem RowV.at_ {ok : Nat → Prop} {w : World} {v : Value} {n j : Nat} {u : Value} {cs : List Value} (h : RowV ok w v n cs) (hu : cs[j]? = some u) : ∃ g o cap, v = .slice (some ⟨g, o, none⟩) n cap ∧ n ≤ cap ∧ ok g ∧ ∀ (k : Nat) x, cs[k]? = some x → w.cell? ⟨g, o + k, none⟩ = some x := by
  obtain ⟨ao, cap, rfl, hn, ho, hc⟩ := h
  obtain ⟨g, o, rfl, _⟩ := hc j u hu
  refine ⟨g, o, cap, rfl, hn, ho _ rfl, fun k x hx => ?_⟩
  obtain ⟨g', o', e, hg⟩ := hc k x hx
  cases e
  exact hg
/-- A row that a literal lays, or an append. -/
theorem row_new {w : World} {n cap : Nat} {cs zs : List Value} {e : TypeId} (hn : n ≤ cap) : RowV (fun k => k = w.heap.size) (w.alloc (.cells (cs ++ zs).toArray e)) (.slice (some ⟨w.heap.size, 0, none⟩) n cap) n cs := by
  refine ⟨_, cap, rfl, hn, fun a h => by cases h; rfl, fun j u hu => ⟨_, 0, rfl, ?_⟩⟩
  rw [cell_of_row _ _ _ _ e (0, 0) (heap_alloc_new w _), Nat.zero_add, List.getElem?_toArray, List.getElem?_append_left (List.getElem?_eq_some_iff.1 hu).1]
  exact hu


set_option maxRecDepth 40000 in
/-- append onto a row that is full: a new row, whatever was there. -/
theorem run_app_full {ok ok2 : Nat → Prop} {w : World} {ao : Option Addr} {u : Value} {n k m : Nat} {cs ds : List Value} (t ty e : TypeId) (i : TypeInfo) (z : Value) (bytes : Nat) (ht : Tryd.prog.underlying t = some (.slice e)) (hi : Tryd.prog.info? e = some i) (hz0 : i.zero = some z) (hz1 : i.size = m) (hz2 : i.bytes = bytes)
    (hv : RowV ok w (.slice ao n n) n cs) (hl : cs.length = n * m) (hu : RowV ok2 w u k ds) (hl2 : ds.length = k * m) (hk : 0 < k) (hm : 0 < m) (h1 : ∀ x ∈ ds, x.oneCell' = true) (hb : (n + k) * bytes ≤ 140737488355328) (hn : n + k ≤ 1000000) :
    ∃ cap zs, (Builtin.append_ #[t, t] ty #[.slice ao n n, u]).run Tryd.prog w = .ok (.slice (some ⟨w.heap.size, 0, none⟩) (n + k) cap) (w.drew.alloc (.cells (cs ++ ds ++ zs).toArray e)) ∧ n + k ≤ cap := by
  obtain ⟨g2, o2, c2, rfl, hc2, _, hcell2⟩ := hu.at_ (j := 0) (u := ds[0]'(by rw [hl2]; exact Nat.mul_pos hk hm)) (List.getElem?_eq_getElem _)
  have hsrc : Src Tryd.prog i.size t (.slice (some ⟨g2, o2, none⟩) k c2) k ds w := Src.ofSlice w ht _ _ _ _ (by rw [hl2, hz1]) (fun j x hx => by rw [rlit]; exact hcell2 j x hx) h1
  have hold : (Builtin.firstCells i.size n (.slice ao n n)).run Tryd.prog w.drew = .ok cs.toArray w.drew := by
    obtain ⟨ao', cap', he, _, _, hc⟩ := hv
    cases he
    cases ao with
    | none =>
      have hx : cs = [] := by
        cases cs with
        | nil => rfl
        | cons x r => obtain ⟨_, _, hh, _⟩ := hc 0 x rfl; cases hh
      subst hx
      exact run_firstCells_none w.drew i.size n n n
    | some a =>
      refine run_firstCells_some w.drew i.size n a n n cs (by rw [hl, hz1]) (fun j x hx => ?_)
      obtain ⟨g, o, he, hg⟩ := hc j x hx
      cases he
      rw [rlit]; exact hg
  have hr := run_append_grow_src w t t ty e i z ht hi hz0 ao n n cs hold _ k ds hsrc (by omega) (by omega) (growslice_fits (by omega) (by rw [hz2]; exact hb))
  refine ⟨_, (Builtin.zeroCells z.cells (grownCap w (n + k) n e - (n + k))).toList, ?_, grownCap_ge w (n + k) n e⟩
  rw [hr]
  congr 2
  simp
end Go.Proofs.YtkopbngnhgdfhaaDoor

/-
  append onto a full row, as a law of the walk: at a step of a region that draws its order; in a plain region. No call is walked here.
-/
namespace Go.Proofs.YtkopbngnhgdfhaaDoor
open Go.RowKit

/-- append onto a full row, at a step of a region that draws its order. -/
theorem step_full {ok ok2 : Nat → Prop} {W : World} {ao : Option Addr} {u : Value} {n k m : Nat} {cs ds : List Value} {ops : Array Oper} {o : Oper} {a : Act} {K : Act → World → Prop} {Q : Exit → Act → World → Prop} {E : Prop} (t e : TypeId) (i : TypeInfo) (z : Value) (bytes : Nat) (ht : Tryd.prog.underlying t = some (.slice e)) (hi : Tryd.prog.info? e = some i) (hz0 : i.zero = some z) (hz1 : i.size = m) (hz2 : i.bytes = bytes)
    (hgd : o.guard = none) (s x : Operand) (ho : o.op = .call { callee := .builtin .append, args := #[s, x], argTypes := #[t, t] })
    (hs : a.eval s = .slice ao n n) (hx : a.eval x = u) (hv : RowV ok W (.slice ao n n) n cs) (hl : cs.length = n * m) (hu : RowV ok2 W u k ds) (hl2 : ds.length = k * m) (hk : 0 < k) (hm : 0 < m) (h1 : ∀ x ∈ ds, x.oneCell' = true) (hb : (n + k) * bytes ≤ 140737488355328) (hn : n + k ≤ 1000000)
    (h : ∀ cap zs, n + k ≤ cap → K (a.put o.dst (.slice (some ⟨W.heap.size, 0, none⟩) (n + k) cap)) (W.drew.alloc (.cells (cs ++ ds ++ zs).toArray e))) :
    if Region.wanted o (yielded ops a.tmps) = true then Oper.wp Tryd.prog o a W K Q else E := by
  have hw : Region.wanted o (yielded ops a.tmps) = true := by simp [Region.wanted, hgd]
  rw [if_pos hw]
  obtain ⟨cap, zs, hr, hc⟩ := run_app_full t o.type e i z bytes ht hi hz0 hz1 hz2 hv hl hu hl2 hk hm h1 hb hn
  unfold Oper.wp execOp
  simp only [ho, resolve, invoke, builtin, Sem.run_bind, Sem.run_pure, Result.andThen_ok, List.map_toArray, List.map_cons, List.map_nil, hs, hx, hr]
  exact h cap zs hc

/-- append onto a full row, in a plain region. -/
theorem wpList_full {ok ok2 : Nat → Prop} {W : World} {ao : Option Addr} {u : Value} {n k m : Nat} {cs ds : List Value} {ops : Array Oper} {rest : List Oper} {o : Oper} {a : Act} {Q : Exit → Act → World → Prop} (t e : TypeId) (i : TypeInfo) (z : Value) (bytes : Nat) (ht : Tryd.prog.underlying t = some (.slice e)) (hi : Tryd.prog.info? e = some i) (hz0 : i.zero = some z) (hz1 : i.size = m) (hz2 : i.bytes = bytes)
    (hgd : o.guard = none) (s x : Operand) (ho : o.op = .call { callee := .builtin .append, args := #[s, x], argTypes := #[t, t] })
    (hs : a.eval s = .slice ao n n) (hx : a.eval x = u) (hv : RowV ok W (.slice ao n n) n cs) (hl : cs.length = n * m) (hu : RowV ok2 W u k ds) (hl2 : ds.length = k * m) (hk : 0 < k) (hm : 0 < m) (h1 : ∀ x ∈ ds, x.oneCell' = true) (hb : (n + k) * bytes ≤ 140737488355328) (hn : n + k ≤ 1000000)
    (h : ∀ cap zs, n + k ≤ cap → wpList Tryd.prog ops Q rest (a.put o.dst (.slice (some ⟨W.heap.size, 0, none⟩) (n + k) cap)) (W.drew.alloc (.cells (cs ++ ds ++ zs).toArray e))) :
    wpList Tryd.prog ops Q (o :: rest) a W := by
  obtain ⟨cap, zs, hr, hc⟩ := run_app_full t o.type e i z bytes ht hi hz0 hz1 hz2 hv hl hu hl2 hk hm h1 hb hn
  refine wpList_plain hgd fun K hK => ?_
  unfold Oper.wp execOp
  simp only [ho, resolve, invoke, builtin, Sem.run_bind, Sem.run_pure, Result.andThen_ok, List.map_toArray, List.map_cons, List.map_nil, hs, hx, hr]
  exact hK _ _ (h cap zs hc)

end Go.Proofs.YtkopbngnhgdfhaaDoor
