/-
  append onto a full row, as a law of the walk: at a step of a region that draws its order; in a plain region. No call is walked here.
-/
import Derived.Test.YthokamikejnbeaaDoorBe3
namespace Go.Proofs.YthokamikejnbeaaDoor
open Go.RowKit

/-- append onto a full row, at a step of a region that draws its order. -/
theorem step_full {ok ok2 : Nat → Prop} {W : World} {ao : Option Addr} {u : Value} {n k m : Nat} {cs ds : List Value} {ops : Array Oper} {o : Oper} {a : Act} {K : Act → World → Prop} {Q : Exit → Act → World → Prop} {E : Prop} (t e : TypeId) (i : TypeInfo) (z : Value) (bytes : Nat) (ht : Tryd.prog.underlying t = some (.slice e)) (hi : Tryd.prog.info? e = some i) (hz0 : i.zero = some z) (hz1 : i.size = m) (hz2 : i.bytes = bytes)
    (hgd : o.guard = none) (s x : Operand) (ho : o.op = .call { callee := .builtin .append, args := #[s, x], argTypes := #[t, t] })
    (hs : a.eval s = .slice ao n n) (hx : a.eval x = u) (hv : RowV ok W (.slice ao n n) n cs) (hl : cs.length = n * m) (hu : RowV ok2 W u k ds) (hl2 : ds.length = k * m) (hk : 0 < k) (hm : 0 < m) (h1 : ∀ x ∈ ds, x.oneCell' = true) (hb : (n + k) * bytes ≤ 140737488355328) (hn : n + k ≤ 1000000)
    (h : ∀ cap zs, n + k ≤ cap → K (a.put o.dst (.slice (some ⟨W.heap.size, 0, none⟩) (n + k) cap)) (W.drew.alloc (.cells (cs ++ ds ++ zs).toArray e))) :
    if Region.wanted o (yielded ops a.tmps) = true then Oper.wp Tryd.prog o a W K Q else E := by
  have hw : Region.wanted o (yielded ops a.tmps) = true := by simp [Region.wanted, hgd]
  rw [if_pos hw]
  obtain ⟨cap, zs, hr, hc⟩ := run_app_full t o.type e i z bytes ht hi hz0 hz1 hz2 hv hl hu hl2 hk hm h1 hb hn
  unfold Oper.wp execOp
  simp only [ho, resolve, invoke, builtin, Sem.run_bind, Sem.run_pure, Result.andThen_ok, List.map_toArray, List.map_cons, List.map_nil, hs, hx, hr]
  exact h cap zs hc

/-- append onto a full row, in a plain region. -/
theorem wpList_full {ok ok2 : Nat → Prop} {W : World} {ao : Option Addr} {u : Value} {n k m : Nat} {cs ds : List Value} {ops : Array Oper} {rest : List Oper} {o : Oper} {a : Act} {Q : Exit → Act → World → Prop} (t e : TypeId) (i : TypeInfo) (z : Value) (bytes : Nat) (ht : Tryd.prog.underlying t = some (.slice e)) (hi : Tryd.prog.info? e = some i) (hz0 : i.zero = some z) (hz1 : i.size = m) (hz2 : i.bytes = bytes)
    (hgd : o.guard = none) (s x : Operand) (ho : o.op = .call { callee := .builtin .append, args := #[s, x], argTypes := #[t, t] })
    (hs : a.eval s = .slice ao n n) (hx : a.eval x = u) (hv : RowV ok W (.slice ao n n) n cs) (hl : cs.length = n * m) (hu : RowV ok2 W u k ds) (hl2 : ds.length = k * m) (hk : 0 < k) (hm : 0 < m) (h1 : ∀ x ∈ ds, x.oneCell' = true) (hb : (n + k) * bytes ≤ 140737488355328) (hn : n + k ≤ 1000000)
    (h : ∀ cap zs, n + k ≤ cap → wpList Tryd.prog ops Q rest (a.put o.dst (.slice (some ⟨W.heap.size, 0, none⟩) (n + k) cap)) (W.drew.alloc (.cells (cs ++ ds ++ zs).toArray e))) :
    wpList Tryd.prog ops Q (o :: rest) a W := by
  obtain ⟨cap, zs, hr, hc⟩ := run_app_full t o.type e i z bytes ht hi hz0 hz1 hz2 hv hl hu hl2 hk hm h1 hb hn
  refine wpList_plain hgd fun K hK => ?_
  unfold Oper.wp execOp
  simp only [ho, resolve, invoke, builtin, Sem.run_bind, Sem.run_pure, Result.andThen_ok, List.map_toArray, List.map_cons, List.map_nil, hs, hx, hr]
  exact hK _ _ (h cap zs hc)

end Go.Proofs.YthokamikejnbeaaDoor
