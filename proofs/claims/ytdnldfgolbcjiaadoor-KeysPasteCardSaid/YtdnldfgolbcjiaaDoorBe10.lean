/-
  append of one byte onto a row of the call's own, of bytes onto none, of keys onto a row of the call's own: what it makes. No call is walked here.
-/
import Derived.Test.YtdnldfgolbcjiaaDoorBe9
namespace Go.Proofs.YtdnldfgolbcjiaaDoor
open Go.RowKit

def zeroKey : Value := .agg #[.int .i64 0, .int .i32 0, .string ⟨#[]⟩]
theorem Tryd.infoKey : (Tryd.prog.info? 40).map (fun i => (i.zero, i.size, i.bytes)) = some (some zeroKey, 3, 32) := by kernel_rfl
theorem Tryd.infoByte : (Tryd.prog.info? 5).map (fun i => (i.zero, i.size, i.bytes)) = some (some (.int .u8 0), 1, 1) := by kernel_rfl

/-- A row of keys of the call's own. -/
def OutK (N : Nat) (w : World) (v : Value) (l : List Ke) : Prop := w.ownsRow N 40 3 v l.length (kesC l)
theorem OutK.nil (N : Nat) (w : World) : OutK N w (.slice none 0 0) [] := World.ownsRow_nil _ _ _ _
theorem OutK.keep {N : Nat} {ok : Nat → Prop} {w w' : World} {v : Value} {l : List Ke} (h : OutK N w v l) (hk : KeepW ok w w') (ho : ∀ k, v.ownBlock = some k → ok k) : OutK N w' v l := by
  obtain ⟨h1, h2 | ⟨g, cap, cur, rfl, h3, h4, h5⟩⟩ := h
  · exact ⟨h1, .inl h2⟩
  · exact ⟨h1, .inr ⟨g, cap, cur, rfl, h3, (hk.same g (Array.getElem?_eq_some_iff.1 h4).1 (ho g rfl)).trans h4, h5⟩⟩
theorem OutK.below {N : Nat} {w w' : World} {v : Value} {l : List Ke} (h : OutK N w v l) (hb : Below w.heap.size w w') : OutK N w' v l := h.keep (keep_below AnyK hb) fun _ _ => trivial
theorem OutK.lt {N : Nat} {w : World} {v : Value} {l : List Ke} (h : OutK N w v l) : ∀ k, v.ownBlock = some k → N ≤ k ∧ k < w.heap.size := World.ownsRow.lt h
theorem own_row {N m n : Nat} {e : TypeId} {w : World} {v : Value} {cs : List Value} (h : w.ownsRow N e m v n cs) : RowV (FromK N) w v n cs := by
  obtain ⟨hl, ⟨rfl, h0⟩ | ⟨g, cap, cur, rfl, h3, hg, hn, _, _, hx⟩⟩ := h
  · subst h0
    rw [Nat.zero_mul] at hl
    rw [List.eq_nil_of_length_eq_zero hl]
    exact RowV.nil _ _
  · refine ⟨_, cap, rfl, hn, fun a ha => by cases ha; exact h3, fun j u hu => ⟨g, 0, rfl, ?_⟩⟩
    rw [Nat.zero_add, cell_of_row _ _ _ cur e (0, 0) hg]
    rw [← hx, List.getElem?_take] at hu
    split at hu
    · rw [← Array.getElem?_toList]; exact hu
    · cases hu
theorem OutK.keys {N : Nat} {w : World} {v : Value} {l : List Ke} (h : OutK N w v l) : KeysW (FromK N) w v l := own_row h
theorem OutK.one {N : Nat} {w : World} {k : Ke} (hN : N ≤ w.heap.size) : OutK N (w.alloc (.cells #[.int .i64 (k.1 : Int), .int .i32 (k.2.1 : Int), .string k.2.2] 40)) (.slice (some ⟨w.heap.size, 0, none⟩) 1 1) [k] :=
  ⟨rfl, .inr ⟨w.heap.size, 1, _, rfl, hN, heap_alloc_new w _, Nat.le_refl _, by unfold maxLen; decide, rfl, rfl⟩⟩

theorem run_outK {N : Nat} {ok : Nat → Prop} {w : World} {v u : Value} {l l2 : List Ke} (t ty : TypeId) (ht : Tryd.prog.underlying t = some (.slice 40)) (hv : OutK N w v l) (hu : KeysW ok w u l2) (hN : N ≤ w.heap.size) (hs : l.length + l2.length ≤ 1000000) :
    ∃ v' w', (Builtin.append_ #[t, t] ty #[v, u]).run Tryd.prog w = .ok v' w' ∧ OutK N w' v' (l ++ l2) ∧ KeepW (fun k => v.ownBlock ≠ some k) w w' ∧ ∀ k, v'.ownBlock = some k → v.ownBlock = some k ∨ k = w.heap.size := by
  obtain ⟨i0, hi, hz0, hz1, hz2⟩ := info_parts Tryd.infoKey
  by_cases h0 : l2 = []
  · subst h0
    refine ⟨v, w, ?_, by rw [List.append_nil]; exact hv, KeepW.refl _ _, fun k e => .inl e⟩
    obtain ⟨ao, cap, rfl, hcap, _⟩ := own_row hv
    obtain ⟨ao2, c2, rfl, _, _⟩ := hu
    cases ao <;> cases ao2 <;> simp [Builtin.append_, run_underlying ht, sizeOf, typeInfo, hi, Builtin.lenOf, Builtin.firstCells, loadCells, loadCellsFrom, storeCells, hcap]
  · have hpos : 0 < l2.length := List.length_pos_iff.2 h0
    obtain ⟨g2, o2, c2, rfl, hc2, _, hcell2⟩ := RowV.at_ hu (j := 0) (u := (kesC l2)[0]'(by rw [kesC_len]; omega)) (List.getElem?_eq_getElem _)
    obtain ⟨v', w', hr, hown', hgr, _, hat⟩ := run_append_own_at (P := Tryd.prog) w N t ty 40 i0 zeroKey 3 32 ht hi hz0 hz1 hz2 rfl (by decide) v l.length (kesC l) hv ⟨g2, o2, none⟩ l2.length c2 (kesC l2) (kesC_len l2) (fun j x hx => by rw [rlit]; exact hcell2 j x hx) (kesC_one l2) (by unfold maxLen; omega) (by omega) hN
    refine ⟨v', w', hr, by unfold OutK; rw [List.length_append, kesC_app]; exact hown', ⟨hgr.os, hgr.tape, hgr.output, hgr.size, fun k hk hne => hgr.block k hk fun e => hne e.symm⟩, fun k e => ?_⟩
    rcases hat with hat | hat
    · exact .inl (hat ▸ e)
    · rw [hat] at e; cases e; exact .inr rfl

/-- One byte more. -/
theorem run_snocB {N : Nat} {w : World} {v : Value} {s : ByteArray} {X b : Nat} (t ty : TypeId) (ht : Tryd.prog.underlying t = some (.slice 5)) (hv : OwnB N w v s) (hX : w.cell? ⟨X, 0, none⟩ = some (.int .u8 (b : Int))) (hb : b < 256) (hN : N ≤ w.heap.size) (hs : s.size ≤ 100000) :
    ∃ v' w', (Builtin.append_ #[t, t] ty #[v, .slice (some ⟨X, 0, none⟩) 1 1]).run Tryd.prog w = .ok v' w' ∧ OwnB N w' v' (s ++ oneS b) ∧ BytesW w' v s ∧ KeepW (fun k => v.ownBlock ≠ some k) w w' ∧ (∀ k, v'.ownBlock = some k → v.ownBlock = some k ∨ k = w.heap.size) := by
  obtain ⟨i0, hi, hz0, hz1, hz2⟩ := info_parts Tryd.infoByte
  have hn : ∀ (j : Nat) (u : Value), [Value.int .u8 (b : Int)][j]? = some u → w.cell? ((⟨X, 0, none⟩ : Addr).add j) = some u := fun j u hu => by
    have hj := (List.getElem?_eq_some_iff.1 hu).1
    have : j = 0 := by simpa using hj
    subst this
    rw [rlit]
    simp at hu
    rw [← hu]
    exact hX
  obtain ⟨v', w', hr, hown', hgr, _, hat⟩ := run_append_own_at (P := Tryd.prog) w N t ty 5 i0 (.int .u8 0) 1 1 ht hi hz0 hz1 hz2 rfl (by decide) v s.size (bytesC s) hv ⟨X, 0, none⟩ 1 1 [.int .u8 (b : Int)] rfl hn (fun u hu => by rw [List.mem_singleton.1 hu]; rfl) (by unfold maxLen; omega) (by omega) hN
  have hO : OwnB N w' v' (s ++ oneS b) := by unfold OwnB; rw [snoc_size, bytesC_snoc s b hb]; exact hown'
  refine ⟨v', w', hr, hO, ?_, ⟨hgr.os, hgr.tape, hgr.output, hgr.size, fun k hk hne => hgr.block k hk fun e => hne e.symm⟩, fun k e => ?_⟩
  · have hvb := OwnB.bytes hv
    rcases hat with hat | hat
    · obtain ⟨hl, ⟨rfl, h0⟩ | ⟨g, cap, cur, rfl, h3, hg, hcn, hcm, hcs, hx⟩⟩ := hv
      · obtain ⟨ao, c, he, hnc, ho, hcc⟩ := hvb
        have e1 : ao = none := (Value.slice.inj he).1.symm
        subst e1
        refine ⟨_, _, he, hnc, ho, fun j u hu => ?_⟩
        obtain ⟨_, _, hh, _⟩ := hcc j u hu
        cases hh
      · have hc2 := World.ownsRow.cells hown' (g := g) (hat.trans rfl)
        refine ⟨_, cap, rfl, hcn, fun _ _ => trivial, fun j u hu => ⟨g, 0, rfl, ?_⟩⟩
        rw [← rlit]
        exact hc2 j u (by rw [List.getElem?_append_left (List.getElem?_eq_some_iff.1 hu).1]; exact hu)
    · obtain ⟨hl, ⟨rfl, h0⟩ | ⟨g, cap, cur, rfl, h3, hg, hcn, hcm, hcs, hx⟩⟩ := hv
      · obtain ⟨ao, c, he, hnc, ho, hcc⟩ := hvb
        have e1 : ao = none := (Value.slice.inj he).1.symm
        subst e1
        refine ⟨_, _, he, hnc, ho, fun j u hu => ?_⟩
        obtain ⟨_, _, hh, _⟩ := hcc j u hu
        cases hh
      · have hglt : g < w.heap.size := (Array.getElem?_eq_some_iff.1 hg).1
        by_cases hroom : s.size + 1 ≤ cap
        · exfalso
          have := run_append_room (P := Tryd.prog) w t ty 5 i0 ht hi g s.size cap cur hg ⟨X, 0, none⟩ 1 1 [.int .u8 (b : Int)] (by rw [hz1]; rfl) hn (fun u hu => by rw [List.mem_singleton.1 hu]; rfl) hroom (by rw [hz1, hcs]; simp; omega)
          rw [hr] at this
          injection this with e1 e2
          rw [e1] at hat
          have : g = w.heap.size := by simpa [Value.ownBlock] using hat
          omega
        · have hcap : cap = s.size := by omega
          subst hcap
          have hsrc : Src Tryd.prog i0.size t (.slice (some ⟨X, 0, none⟩) 1 1) 1 [.int .u8 (b : Int)] w := Src.ofSlice w ht _ _ _ _ (by rw [hz1]; rfl) hn (fun u hu => by rw [List.mem_singleton.1 hu]; rfl)
          have hold : (Builtin.firstCells i0.size s.size (.slice (some ⟨g, 0, none⟩) s.size s.size)).run Tryd.prog w.drew = .ok (bytesC s).toArray w.drew := by
            refine run_firstCells_some w.drew i0.size s.size ⟨g, 0, none⟩ s.size s.size (bytesC s) (by rw [bytesC_len, hz1, Nat.mul_one]) (fun j x hx => ?_)
            obtain ⟨ao, c, he, hnc, ho, hcc⟩ := hvb
            cases he
            obtain ⟨g', o', he2, hg2⟩ := hcc j x hx
            cases he2
            rw [rlit]
            exact hg2
          have hr2 := run_append_grow_src w t t ty 5 i0 (.int .u8 0) ht hi hz0 (some ⟨g, 0, none⟩) s.size s.size (bytesC s) hold _ 1 [.int .u8 (b : Int)] hsrc (by omega) (by omega) (growslice_fits (by omega) (by rw [hz2]; omega))
          rw [hr] at hr2
          injection hr2 with e1 e2
          rw [e2]
          exact hvb.below (((Below.refl _ w).drew).alloc (Nat.le_refl _) _)
  · rcases hat with hat | hat
    · exact .inl (hat ▸ e)
    · rw [hat] at e; cases e; exact .inr rfl
/-- A copy of bytes. -/
theorem run_copyB {w : World} {u : Value} {s : ByteArray} (t ty : TypeId) (ht : Tryd.prog.underlying t = some (.slice 5)) (hu : BytesW w u s) (hs : s.size ≤ 100000) :
    ∃ v' w', (Builtin.append_ #[t, t] ty #[.slice none 0 0, u]).run Tryd.prog w = .ok v' w' ∧ OwnB w.heap.size w' v' s ∧ Below w.heap.size w w' := by
  obtain ⟨i0, hi, hz0, hz1, hz2⟩ := info_parts Tryd.infoByte
  by_cases h0 : s.size = 0
  · refine ⟨.slice none 0 0, w, ?_, ?_, Below.refl _ _⟩
    · obtain ⟨ao2, c2, rfl, _, _⟩ := hu
      rw [h0]
      cases ao2 <;> simp [Builtin.append_, run_underlying ht, sizeOf, typeInfo, hi, Builtin.lenOf, Builtin.firstCells, loadCells, loadCellsFrom]
    · exact ⟨by rw [bytesC_len, Nat.mul_one], .inl ⟨rfl, h0⟩⟩
  · obtain ⟨g2, o2, c2, rfl, hc2, hcell2⟩ := hu.cells (by omega)
    obtain ⟨v', w', hr, hown', hgr, _, hat⟩ := run_append_own_at (P := Tryd.prog) w w.heap.size t ty 5 i0 (.int .u8 0) 1 1 ht hi hz0 hz1 hz2 rfl (by decide) (.slice none 0 0) 0 [] (World.ownsRow_nil _ _ _ _) ⟨g2, o2, none⟩ s.size c2 (bytesC s) (by rw [bytesC_len, Nat.mul_one])
      (fun j x hx => by
        have hj : j < s.size := by have := (List.getElem?_eq_some_iff.1 hx).1; rwa [bytesC_len] at this
        rw [bytesC_at s j hj] at hx
        cases hx
        rw [rlit]; exact hcell2 j hj) (bytesC_one s) (by unfold maxLen; omega) (by omega) (Nat.le_refl _)
    rw [Nat.zero_add, List.nil_append] at hown'
    exact ⟨v', w', hr, hown', ⟨hgr.os, hgr.tape, hgr.output, hgr.size, fun k hk => hgr.block k hk fun e => by cases e⟩⟩

/-- A law of append at a step of a region that draws its order. -/
theorem step_run {w w' : World} {v u v' : Value} {ops : Array Oper} {o : Oper} {a : Act} {K : Act → World → Prop} {Q : Exit → Act → World → Prop} {E : Prop} (hgd : o.guard = none) (s x : Operand) (t : TypeId)
    (ho : o.op = .call { callee := .builtin .append, args := #[s, x], argTypes := #[t, t] })
    (hs : a.eval s = v) (hx : a.eval x = u) (hr : (Builtin.append_ #[t, t] o.type #[v, u]).run Tryd.prog w = .ok v' w') (h : K (a.put o.dst v') w') :
    if Region.wanted o (yielded ops a.tmps) = true then Oper.wp Tryd.prog o a w K Q else E := by
  have hw : Region.wanted o (yielded ops a.tmps) = true := by simp [Region.wanted, hgd]
  rw [if_pos hw]
  unfold Oper.wp execOp
  simp only [ho, resolve, invoke, builtin, Sem.run_bind, Sem.run_pure, Result.andThen_ok, List.map_toArray, List.map_cons, List.map_nil, hs, hx, hr]
  exact h
/-- The same in a plain region. -/
theorem wpList_run {w w' : World} {v u v' : Value} {ops : Array Oper} {rest : List Oper} {o : Oper} {a : Act} {Q : Exit → Act → World → Prop} (hgd : o.guard = none) (s x : Operand) (t : TypeId)
    (ho : o.op = .call { callee := .builtin .append, args := #[s, x], argTypes := #[t, t] })
    (hs : a.eval s = v) (hx : a.eval x = u) (hr : (Builtin.append_ #[t, t] o.type #[v, u]).run Tryd.prog w = .ok v' w') (h : wpList Tryd.prog ops Q rest (a.put o.dst v') w') : wpList Tryd.prog ops Q (o :: rest) a w := by
  refine wpList_plain hgd fun K hK => ?_
  unfold Oper.wp execOp
  simp only [ho, resolve, invoke, builtin, Sem.run_bind, Sem.run_pure, Result.andThen_ok, List.map_toArray, List.map_cons, List.map_nil, hs, hx, hr]
  exact hK _ _ h
end Go.Proofs.YtdnldfgolbcjiaaDoor
