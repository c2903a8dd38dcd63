/-
  append of actions onto a row that is full, or the call's own: what it makes. No call is walked here.
-/
import Derived.Test.YtbpnnnjbddjboaaDoorPsParams
import Derived.Test.YtbpnnnjbddjboaaDoorRowFull
namespace Go.Proofs.YtbpnnnjbddjboaaDoor
open Go.RowKit

def zeroAct : Value := .agg #[.int .i64 0, .int .i32 0, .slice none 0 0, .int .u8 0]
theorem Tryd.infoAct : (Tryd.prog.info? 34).map (fun i => (i.zero, i.size, i.bytes)) = some (some zeroAct, 4, 48) := by kernel_rfl
theorem Tryd.infoActR : (Tryd.prog.info? 35).map (fun i => (i.zero, i.size, i.bytes)) = some (some zeroAct, 4, 48) := by kernel_rfl

theorem NumsW.one {ok : Nat → Prop} {w : World} {v : Value} {l : List Nat} (h : NumsW ok w v l) : v.oneCell' = true := by
  obtain ⟨ao, cap, rfl, _⟩ := h.1
  rfl
theorem acts_cells_one {ok : Nat → Prop} {w : World} {xs : List (Ac × Value)} (h : ∀ x ∈ xs, NumsW ok w x.2 x.1.2.2.1) : ∀ u ∈ xs.flatMap actC, u.oneCell' = true := by
  intro u hu
  obtain ⟨x, hx, hux⟩ := List.mem_flatMap.1 hu
  simp only [actC, List.mem_cons, List.not_mem_nil, or_false] at hux
  rcases hux with rfl | rfl | rfl | rfl
  · rfl
  · rfl
  · exact (h x hx).one
  · rfl
/-- What an append of these yields. -/
theorem acts_src {ok : Nat → Prop} {w : World} {t e : TypeId} {u : Value} {l : List Ac} {xs : List (Ac × Value)} (ht : Tryd.prog.underlying t = some (.slice e)) (h1 : xs.map Prod.fst = l) (h2 : RowV ok w u l.length (xs.flatMap actC)) (h3 : ∀ x ∈ xs, NumsW ok w x.2 x.1.2.2.1) : Src Tryd.prog 4 t u l.length (xs.flatMap actC) w := by
  obtain ⟨ao, cap, rfl, hc, ho, hcell⟩ := h2
  have hl : (xs.flatMap actC).length = l.length * 4 := by rw [flat4_len, ← h1, List.length_map]
  cases ao with
  | none =>
    have hx : xs.flatMap actC = [] := by
      cases hq : xs.flatMap actC with
      | nil => rfl
      | cons x r => obtain ⟨_, _, hh, _⟩ := hcell 0 x (by rw [hq]; rfl); cases hh
    have hl0 : l.length = 0 := by rw [hx] at hl; have : 0 = l.length * 4 := hl; omega
    rw [hx, hl0]
    exact Src.ofNil w ht cap
  | some a =>
    refine Src.ofSlice w ht a _ _ _ hl (fun j v hv => ?_) (acts_cells_one h3)
    obtain ⟨g, o, e, hg⟩ := hcell j v hv
    cases e
    rw [rlit]; exact hg

theorem join_cells {ok : Nat → Prop} {w : World} {xs ys : List (Ac × Value)} (h : ∀ x ∈ xs, NumsW ok w x.2 x.1.2.2.1) (k : ∀ x ∈ ys, NumsW ok w x.2 x.1.2.2.1) : ∀ x ∈ xs ++ ys, NumsW ok w x.2 x.1.2.2.1 := fun x hx => by
  rcases List.mem_append.1 hx with hx | hx
  · exact h x hx
  · exact k x hx

/-- append onto a full row. -/
theorem run_acts {n : Nat} {w : World} {ao : Option Addr} {u : Value} {l l2 : List Ac} (t ty e : TypeId) (ht : Tryd.prog.underlying t = some (.slice e)) (hinfo : (Tryd.prog.info? e).map (fun i => (i.zero, i.size, i.bytes)) = some (some zeroAct, 4, 48))
    (hv : ActsW (FromP n) w (.slice ao l.length l.length) l) (hu : ActsW (FromP n) w u l2) (hn : n ≤ w.heap.size) (hs : l.length + l2.length ≤ 1000000) :
    ∃ v' w', (Builtin.append_ #[t, t] ty #[.slice ao l.length l.length, u]).run Tryd.prog w = .ok v' w' ∧ ActsW (FromP n) w' v' (l ++ l2) ∧ Below w.heap.size w w' := by
  obtain ⟨i0, hi, hz0, hz1, hz2⟩ := info_parts hinfo
  obtain ⟨xs, x1, x2, x3⟩ := hv
  obtain ⟨ys, y1, y2, y3⟩ := hu
  by_cases h0 : l2 = []
  · subst h0
    refine ⟨.slice ao l.length l.length, w, ?_, by rw [List.append_nil]; exact ⟨xs, x1, x2, x3⟩, Below.refl _ _⟩
    obtain ⟨ao2, c2, rfl, _, _⟩ := y2
    cases ao <;> cases ao2 <;> simp [Builtin.append_, run_underlying ht, sizeOf, typeInfo, hi, Builtin.lenOf, Builtin.firstCells, loadCells, loadCellsFrom, storeCells]
  · have hpos : 0 < l2.length := List.length_pos_iff.2 h0
    obtain ⟨cap, zs, hr, hc⟩ := run_app_full (m := 4) t ty e i0 zeroAct 48 ht hi hz0 hz1 hz2 x2 (by rw [flat4_len, ← x1, List.length_map]) y2 (by rw [flat4_len, ← y1, List.length_map]) hpos (by decide) (acts_cells_one y3) (by omega) hs
    have hb : Below w.heap.size w (w.drew.alloc (.cells (xs.flatMap actC ++ ys.flatMap actC ++ zs).toArray e)) := ((Below.refl _ w).drew).alloc (Nat.le_refl _) _
    refine ⟨_, _, hr, ⟨xs ++ ys, by rw [List.map_append, x1, y1], ?_, fun x hx => (join_cells x3 y3 x hx).keep (keep_below _ hb)⟩, hb⟩
    rw [List.length_append, List.flatMap_append]
    exact RowV.any (row_new (w := w.drew) (cs := xs.flatMap actC ++ ys.flatMap actC) (zs := zs) (e := e) hc) fun j hj => by rw [hj]; exact hn

/-- A law of append at a step of a region that draws its order. -/
theorem step_run {w w' : World} {v u v' : Value} {ops : Array Oper} {o : Oper} {a : Act} {K : Act → World → Prop} {Q : Exit → Act → World → Prop} {E : Prop} (hgd : o.guard = none) (s x : Operand) (t : TypeId)
    (ho : o.op = .call { callee := .builtin .append, args := #[s, x], argTypes := #[t, t] })
    (hs : a.eval s = v) (hx : a.eval x = u) (hr : (Builtin.append_ #[t, t] o.type #[v, u]).run Tryd.prog w = .ok v' w') (h : K (a.put o.dst v') w') :
    if Region.wanted o (yielded ops a.tmps) = true then Oper.wp Tryd.prog o a w K Q else E := by
  have hw : Region.wanted o (yielded ops a.tmps) = true := by simp [Region.wanted, hgd]
  rw [if_pos hw]
  unfold Oper.wp execOp
  simp only [ho, resolve, invoke, builtin, Sem.run_bind, Sem.run_pure, Result.andThen_ok, List.map_toArray, List.map_cons, List.map_nil, hs, hx, hr]
  exact h
/-- The same in a plain region. -/
theorem wpList_run {w w' : World} {v u v' : Value} {ops : Array Oper} {rest : List Oper} {o : Oper} {a : Act} {Q : Exit → Act → World → Prop} (hgd : o.guard = none) (s x : Operand) (t : TypeId)
    (ho : o.op = .call { callee := .builtin .append, args := #[s, x], argTypes := #[t, t] })
    (hs : a.eval s = v) (hx : a.eval x = u) (hr : (Builtin.append_ #[t, t] o.type #[v, u]).run Tryd.prog w = .ok v' w') (h : wpList Tryd.prog ops Q rest (a.put o.dst v') w') : wpList Tryd.prog ops Q (o :: rest) a w := by
  refine wpList_plain hgd fun K hK => ?_
  unfold Oper.wp execOp
  simp only [ho, resolve, invoke, builtin, Sem.run_bind, Sem.run_pure, Result.andThen_ok, List.map_toArray, List.map_cons, List.map_nil, hs, hx, hr]
  exact hK _ _ h

/-- A row of actions that is the call's own; their numbers lie in other blocks. -/
def OutW (B : Nat) (e : TypeId) (w : World) (v : Value) (l : List Ac) : Prop :=
  ∃ xs : List (Ac × Value), xs.map Prod.fst = l ∧ w.ownsRow B e 4 v l.length (xs.flatMap actC) ∧ ∀ x ∈ xs, NumsW (fun k => B ≤ k ∧ v.ownBlock ≠ some k) w x.2 x.1.2.2.1
theorem OutW.nil (B : Nat) (e : TypeId) (w : World) : OutW B e w (.slice none 0 0) [] := ⟨[], rfl, World.ownsRow_nil _ _ _ _, fun _ h => by cases h⟩
theorem OutW.below {B : Nat} {e : TypeId} {w w' : World} {v : Value} {l : List Ac} (h : OutW B e w v l) (hb : Below w.heap.size w w') : OutW B e w' v l := by
  obtain ⟨xs, h1, h2, h3⟩ := h
  exact ⟨xs, h1, ownsRow_below h2 hb, fun x hx => (h3 x hx).keep (keep_below _ hb)⟩
theorem OutW.acts {B : Nat} {e : TypeId} {w : World} {v : Value} {l : List Ac} (h : OutW B e w v l) : ActsW (FromP B) w v l := by
  obtain ⟨xs, h1, h2, h3⟩ := h
  exact ⟨xs, h1, own_row h2, fun x hx => (h3 x hx).mono fun _ _ h => h.1⟩
theorem OutW.lt {B : Nat} {e : TypeId} {w : World} {v : Value} {l : List Ac} (h : OutW B e w v l) : ∀ k, v.ownBlock = some k → B ≤ k ∧ k < w.heap.size := by
  obtain ⟨xs, h1, h2, h3⟩ := h
  exact h2.lt

theorem run_out {n B : Nat} {w : World} {v u : Value} {l l2 : List Ac} (t ty e : TypeId) (ht : Tryd.prog.underlying t = some (.slice e)) (hinfo : (Tryd.prog.info? e).map (fun i => (i.zero, i.size, i.bytes)) = some (some zeroAct, 4, 48))
    (hv : OutW B e w v l) (hu : ActsW (FromP n) w u l2) (hB : B ≤ w.heap.size) (hBn : B ≤ n) (hn : ∀ k, v.ownBlock = some k → k < n) (hs : l.length + l2.length ≤ 1000000) :
    ∃ v' w', (Builtin.append_ #[t, t] ty #[v, u]).run Tryd.prog w = .ok v' w' ∧ OutW B e w' v' (l ++ l2) ∧ Below B w w' := by
  obtain ⟨i0, hi, hz0, hz1, hz2⟩ := info_parts hinfo
  obtain ⟨xs, x1, x2, x3⟩ := hv
  obtain ⟨ys, y1, y2, y3⟩ := hu
  by_cases h0 : l2 = []
  · subst h0
    refine ⟨v, w, ?_, by rw [List.append_nil]; exact ⟨xs, x1, x2, x3⟩, Below.refl _ _⟩
    obtain ⟨ao, cap, rfl, hcap, _⟩ := own_row x2
    obtain ⟨ao2, c2, rfl, _, _⟩ := y2
    cases ao <;> cases ao2 <;> simp [Builtin.append_, run_underlying ht, sizeOf, typeInfo, hi, Builtin.lenOf, Builtin.firstCells, loadCells, loadCellsFrom, storeCells, hcap]
  · have hpos : 0 < l2.length := List.length_pos_iff.2 h0
    have hyl : (ys.flatMap actC).length = l2.length * 4 := by rw [flat4_len, ← y1, List.length_map]
    obtain ⟨g2, o2, c2, rfl, hc2, ho2, hcell2⟩ := y2.at_ (j := 0) (u := (ys.flatMap actC)[0]'(by omega)) (List.getElem?_eq_getElem _)
    obtain ⟨v', w', hr, hown', hgr, _, hat⟩ := run_append_own_at (P := Tryd.prog) w B t ty e i0 zeroAct 4 48 ht hi hz0 hz1 hz2 rfl (by decide) v l.length (xs.flatMap actC) x2 ⟨g2, o2, none⟩ l2.length c2 (ys.flatMap actC) hyl (fun j x hx => by rw [rlit]; exact hcell2 j x hx) (acts_cells_one y3) (by unfold maxLen; omega) (by omega) hB
    refine ⟨v', w', hr, ⟨xs ++ ys, by rw [List.map_append, x1, y1], by rw [List.length_append, List.flatMap_append]; exact hown', fun x hx => ?_⟩, (Below.refl B w).grown hgr hB fun k hk => (x2.lt k hk).1⟩
    have hk : KeepW (fun k => v.ownBlock ≠ some k) w w' := ⟨hgr.os, hgr.tape, hgr.output, hgr.size, fun k hk hne => hgr.block k hk fun e => hne e.symm⟩
    have h1 : NumsW (fun k => (B ≤ k ∧ v.ownBlock ≠ some k) ∧ k < w.heap.size) w x.2 x.1.2.2.1 := by
      rcases List.mem_append.1 hx with hx | hx
      · exact (x3 x hx).mono fun k hl hk => ⟨hk, hl⟩
      · refine (y3 x hx).mono fun k hl hk => ⟨⟨Nat.le_trans hBn hk, fun e => ?_⟩, hl⟩
        have h5 := hn k e
        have h6 : n ≤ k := hk
        omega
    refine (h1.keep (hk.mono fun k _ h => h.1.2)).mono fun k _ h => ⟨h.1.1, ?_⟩
    rcases hat with hat | hat
    · rw [hat]; exact h.1.2
    · rw [hat]; intro e; cases e; exact absurd h.2 (Nat.lt_irrefl _)
/-- It stays while blocks ahead of it turn. -/
theorem OutW.ahead {B : Nat} {e : TypeId} {w w' : World} {v : Value} {l : List Ac} (h : OutW B e w v l) (hk : KeepW (fun k => B ≤ k) w w') : OutW B e w' v l := by
  obtain ⟨xs, h1, ⟨h2, h2'⟩, h3⟩ := h
  refine ⟨xs, h1, ⟨h2, ?_⟩, fun x hx => (h3 x hx).keep (hk.mono fun k _ h => h.1)⟩
  rcases h2' with h0 | ⟨g, cap, cur, hv, hg0, hg, rest⟩
  · exact .inl h0
  · exact .inr ⟨g, cap, cur, hv, hg0, (hk.same g (Array.getElem?_eq_some_iff.1 hg).1 hg0).trans hg, rest⟩
end Go.Proofs.YtbpnnnjbddjboaaDoor
