/-
  append onto a slice of strings that has no room, or is the call's own: what it makes. No call is walked here.
-/
import Derived.Test.YtpkfmhggaiifgaaPcsW
import Derived.Deep.AppendSrc
import Derived.Maps.AppendAt
namespace Go.Proofs.Ytpkfmhggaiifgaa
open Go.RowKit

theorem Try.infoStr : (Try.prog.info? 9).map (fun i => (i.zero, i.size, i.bytes)) = some (some (.string ⟨#[]⟩), 1, 16) := by kernel_rfl

def strL (xs : List ByteArray) : List Value := xs.map Value.string
theorem strL_len (xs : List ByteArray) : (strL xs).length = xs.length := by unfold strL; rw [List.length_map]
theorem strL_get (xs : List ByteArray) (i : Nat) (u : Value) (h : (strL xs)[i]? = some u) : ∃ x, xs[i]? = some x ∧ u = .string x := by
  unfold strL at h
  rw [List.getElem?_map] at h
  cases hx : xs[i]? with
  | none => rw [hx] at h; simp at h
  | some x => rw [hx] at h; simp at h; exact ⟨x, rfl, h.symm⟩
theorem strL_at (xs : List ByteArray) (i : Nat) (x : ByteArray) (h : xs[i]? = some x) : (strL xs)[i]? = some (.string x) := by
  unfold strL; rw [List.getElem?_map, h]; rfl

theorem own_strs {w : World} {B : Nat} {v : Value} {xs : List ByteArray} (h : w.ownsRow B 9 1 v xs.length (strL xs)) : StrsW w v xs := by
  rcases h.2 with ⟨rfl, h0⟩ | ⟨g, cap, cur, rfl, hB, hg, hn, _⟩
  · obtain rfl := List.eq_nil_of_length_eq_zero h0
    exact StrsW.nil w
  · refine ⟨_, cap, rfl, hn, fun i x hx => ⟨g, 0, rfl, ?_⟩⟩
    have := h.cells (g := g) rfl i _ (strL_at xs i x hx)
    rw [Nat.zero_add]
    rwa [show (⟨g, 0, none⟩ : Addr).add i = ⟨g, i, none⟩ by unfold Addr.add; split <;> simp_all] at this
theorem own_below {w w' : World} {B e size n : Nat} {v : Value} {xs : List Value} (h : w.ownsRow B e size v n xs) (hb : Below w.heap.size w w') : w'.ownsRow B e size v n xs := by
  refine ⟨h.1, ?_⟩
  rcases h.2 with h0 | ⟨g, cap, cur, hv, hg0, hg, rest⟩
  · exact .inl h0
  · exact .inr ⟨g, cap, cur, hv, hg0, (hb.block g (Array.getElem?_eq_some_iff.1 hg).1).trans hg, rest⟩

/-- A slice of strings that has no room, or is the call's own from block B on. -/
def FitW (ok : Nat → Prop) (B : Nat) (w : World) (v : Value) (xs : List ByteArray) : Prop :=
  StrsW w v xs ∧ ((∃ ao, v = .slice ao xs.length xs.length ∧ OkV ok v) ∨ w.ownsRow B 9 1 v xs.length (strL xs))
theorem FitW.below {ok : Nat → Prop} {B : Nat} {w w' : World} {v : Value} {xs : List ByteArray} (h : FitW ok B w v xs) (hb : Below w.heap.size w w') : FitW ok B w' v xs :=
  ⟨h.1.below hb, h.2.imp id fun k => own_below k hb⟩
theorem FitW.ok {ok : Nat → Prop} {B : Nat} {w : World} {v : Value} {xs : List ByteArray} (h : FitW ok B w v xs) (hok : ∀ k, B ≤ k → ok k) : OkV ok v := by
  rcases h.2 with ⟨_, _, ho⟩ | hown
  · exact ho
  · intro a n c e _
    exact hok _ (hown.lt a.block (by rw [e]; rfl)).1

theorem add_lit (g o k : Nat) : (⟨g, o, none⟩ : Addr).add k = ⟨g, o + k, none⟩ := by unfold Addr.add; split <;> simp_all

set_option maxHeartbeats 1000000 in
theorem run_app {ok : Nat → Prop} {B : Nat} {w : World} {v u : Value} {xs ys : List ByteArray} (ty : TypeId) (hf : FitW ok B w v xs) (hB : B ≤ w.heap.size) (hs : StrsW w u ys) (hle : xs.length + ys.length ≤ 1000000) :
    ∃ v' w', (Builtin.append_ #[69, 69] ty #[v, u]).run Try.prog w = .ok v' w' ∧ FitW ok B w' v' (xs ++ ys) ∧ Below B w w' := by
  obtain ⟨i0, hi, hz0, hz1, hz2⟩ := info_parts Try.infoStr
  have ht : Try.prog.underlying 69 = some (.slice 9) := Try.underlying69
  by_cases h0 : ys = []
  · subst h0
    refine ⟨v, w, ?_, by rw [List.append_nil]; exact hf, Below.refl _ _⟩
    obtain ⟨ao, cap, rfl, hcap, hcell⟩ := hf.1
    obtain ⟨ao2, c2, rfl, _, _⟩ := hs
    cases ao <;> cases ao2 <;> simp [Builtin.append_, run_underlying ht, sizeOf, typeInfo, hi, Builtin.lenOf, Builtin.firstCells, loadCells, loadCellsFrom, hcap, storeCells]
  · obtain ⟨ao2, c2, rfl, hc2, hcell2⟩ := hs
    obtain ⟨y, hy⟩ : ∃ y, ys[0]? = some y := by
      cases ys with
      | nil => exact absurd rfl h0
      | cons y r => exact ⟨y, rfl⟩
    obtain ⟨g2, o2, rfl, _⟩ := hcell2 0 y hy
    have hnews : ∀ j u, (strL ys)[j]? = some u → w.cell? ((⟨g2, o2, none⟩ : Addr).add j) = some u := by
      intro j u hu
      obtain ⟨x, hx, rfl⟩ := strL_get ys j u hu
      obtain ⟨g, o, he, hc⟩ := hcell2 j x hx
      cases he
      rw [add_lit]; exact hc
    have h1 : ∀ u ∈ strL ys, u.oneCell' = true := by
      intro u hu
      obtain ⟨x, _, rfl⟩ := List.mem_map.1 hu
      rfl
    have hl : (strL ys).length = ys.length * 1 := by rw [strL_len, Nat.mul_one]
    have happ : strL xs ++ strL ys = strL (xs ++ ys) := by unfold strL; rw [List.map_append]
    rcases hf.2 with ⟨ao, hv, _⟩ | hown
    · subst hv
      obtain ⟨ao', cap', he, hcap, hcell⟩ := hf.1
      cases he
      have hold : (Builtin.firstCells i0.size xs.length (.slice ao xs.length xs.length)).run Try.prog w.drew = .ok (strL xs).toArray w.drew := by
        cases ao with
        | none =>
          have hx : xs = [] := by
            cases xs with
            | nil => rfl
            | cons x r => obtain ⟨_, _, hh, _⟩ := hcell 0 x rfl; cases hh
          subst hx
          exact run_firstCells_none w.drew i0.size 0 0 0
        | some a =>
          refine run_firstCells_some w.drew i0.size xs.length a xs.length xs.length (strL xs) (by rw [strL_len, hz1, Nat.mul_one]) (fun j u hu => ?_)
          obtain ⟨x, hx, rfl⟩ := strL_get xs j u hu
          obtain ⟨g, o, he, hc⟩ := hcell j x hx
          cases he
          rw [add_lit]; exact hc
      have hy1 : 0 < ys.length := List.length_pos_iff.2 h0
      have hsrc : Src Try.prog i0.size 69 (.slice (some ⟨g2, o2, none⟩) ys.length c2) ys.length (strL ys) w := Src.ofSlice w ht _ _ _ _ (by rw [hl, hz1]) hnews h1
      have hr := run_append_grow_src w 69 69 ty 9 i0 _ ht hi hz0 ao xs.length xs.length (strL xs) hold _ ys.length (strL ys) hsrc (by omega) (by omega) (growslice_fits (by omega) (by rw [hz2]; omega))
      rw [happ] at hr
      have hge := grownCap_ge w (xs.length + ys.length) xs.length 9
      have hcm : grownCap w (xs.length + ys.length) xs.length 9 ≤ maxLen := grownCap_le_maxLen w _ _ _ (by unfold maxLen; omega)
      have hown' : (w.drew.alloc (.cells ((strL (xs ++ ys)).toArray ++ Builtin.zeroCells (Value.string ⟨#[]⟩).cells (grownCap w (xs.length + ys.length) xs.length 9 - (xs.length + ys.length))) 9)).ownsRow B 9 1 (.slice (some ⟨w.heap.size, 0, none⟩) (xs.length + ys.length) (grownCap w (xs.length + ys.length) xs.length 9)) (xs ++ ys).length (strL (xs ++ ys)) := by
        refine ⟨by rw [strL_len, Nat.mul_one], .inr ⟨w.heap.size, _, _, by rw [List.length_append], hB, heap_alloc_new w.drew _, by rw [List.length_append]; exact hge, hcm, ?_, ?_⟩⟩
        · rw [Array.size_append, size_zeroCells, List.size_toArray, strL_len, List.length_append]
          show _ + _ * 1 = _
          omega
        · rw [Array.toList_append, Nat.mul_one, ← strL_len (xs ++ ys)]
          exact List.take_left
      rw [← List.length_append] at hown' hr
      exact ⟨_, _, hr, ⟨own_strs hown', .inr hown'⟩, ((Below.refl B w).drew).alloc hB _⟩
    · obtain ⟨v', w', hr, hown', hgr, _⟩ := run_append_own (P := Try.prog) w B 69 ty 9 i0 _ 1 16 ht hi hz0 hz1 hz2 rfl (by decide) v xs.length (strL xs) hown ⟨g2, o2, none⟩ ys.length c2 (strL ys) hl hnews h1 (by unfold maxLen; omega) (by omega) hB
      rw [happ, ← List.length_append] at hown'
      exact ⟨v', w', hr, ⟨own_strs hown', .inr hown'⟩, (Below.refl B w).grown hgr hB fun k hk => (hown.lt k hk).1⟩

theorem wp_app {w w' : World} {v u v' : Value} {o : Oper} {a : Act} {K : Act → World → Prop} {Q : Exit → Act → World → Prop} (s x : Operand) (t : TypeId)
    (ho : o.op = .call { callee := .builtin .append, args := #[s, x], argTypes := #[t, t] })
    (hs : a.eval s = v) (hx : a.eval x = u) (hr : (Builtin.append_ #[t, t] o.type #[v, u]).run Try.prog w = .ok v' w') (h : K (a.put o.dst v') w') : o.wp Try.prog a w K Q := by
  unfold Oper.wp execOp
  simp only [ho, resolve, invoke, builtin, Sem.run_bind, Sem.run_pure, Result.andThen_ok, List.map_toArray, List.map_cons, List.map_nil, hs, hx, hr]
  exact h
theorem wpList_app {w w' : World} {v u v' : Value} {ops : Array Oper} {rest : List Oper} {o : Oper} {a : Act} {Q : Exit → Act → World → Prop} (hgd : o.guard = none) (s x : Operand) (t : TypeId)
    (ho : o.op = .call { callee := .builtin .append, args := #[s, x], argTypes := #[t, t] })
    (hs : a.eval s = v) (hx : a.eval x = u) (hr : (Builtin.append_ #[t, t] o.type #[v, u]).run Try.prog w = .ok v' w') (h : wpList Try.prog ops Q rest (a.put o.dst v') w') : wpList Try.prog ops Q (o :: rest) a w :=
  wpList_plain hgd fun _ hK => wp_app s x t ho hs hx hr (hK _ _ h)

/-- The same at a step of a region that draws its order. -/
theorem step_app {ok : Nat → Prop} {w : World} {B : Nat} {v u : Value} {xs ys : List ByteArray} {ops : Array Oper} {o : Oper} {a : Act} {K : Act → World → Prop} {Q : Exit → Act → World → Prop} {E : Prop} (hgd : o.guard = none) (s x : Operand)
    (ho : o.op = .call { callee := .builtin .append, args := #[s, x], argTypes := #[69, 69] })
    (hs : a.eval s = v) (hx : a.eval x = u) (hf : FitW ok B w v xs) (hB : B ≤ w.heap.size) (hsrc : StrsW w u ys) (hle : xs.length + ys.length ≤ 1000000)
    (h : ∀ v' w', FitW ok B w' v' (xs ++ ys) → Below B w w' → K (a.put o.dst v') w') :
    if Region.wanted o (yielded ops a.tmps) = true then Oper.wp Try.prog o a w K Q else E := by
  have hw : Region.wanted o (yielded ops a.tmps) = true := by simp [Region.wanted, hgd]
  rw [if_pos hw]
  obtain ⟨v', w', hr, h1, h2⟩ := run_app o.type hf hB hsrc hle
  exact wp_app s x _ ho hs hx hr (h v' w' h1 h2)

theorem strs_drop {w : World} {ao : Option Addr} {cap i n : Nat} {A : Option Addr} {xs : List ByteArray} (h : StrsW w (.slice ao xs.length cap) xs) (hi : i ≤ xs.length) (hn : xs.length - i ≤ n)
    (hA : ∀ g o, ao = some ⟨g, o, none⟩ → i < xs.length → A = some ⟨g, o + i, none⟩) : StrsW w (.slice A (xs.length - i) n) (xs.drop i) := by
  obtain ⟨ao', cap', he, hc, hs⟩ := h
  cases he
  refine ⟨A, n, by rw [List.length_drop], by rw [List.length_drop]; exact hn, fun j x hx => ?_⟩
  rw [List.getElem?_drop] at hx
  obtain ⟨g, o, ha, hg⟩ := hs (i + j) x hx
  exact ⟨g, o + i, hA g o ha (by have := (List.getElem?_eq_some_iff.1 hx).1; omega), by rw [Nat.add_assoc]; exact hg⟩

theorem fit_take {ok : Nat → Prop} {B : Nat} {w : World} {ao : Option Addr} {cap i : Nat} {xs : List ByteArray} (h : StrsW w (.slice ao xs.length cap) xs) (ho : OkV ok (.slice ao xs.length cap)) (hi : i ≤ xs.length) : FitW ok B w (.slice ao i i) (xs.take i) := by
  obtain ⟨ao', cap', he, hc, hs⟩ := h
  cases he
  have hl : (xs.take i).length = i := by rw [List.length_take]; omega
  refine ⟨⟨ao, i, by rw [hl], by omega, fun j x hx => ?_⟩, .inl ⟨ao, by rw [hl], fun a n c e hn => by cases e; exact ho _ _ _ rfl (by omega)⟩⟩
  rw [List.getElem?_take] at hx
  split at hx
  · exact hs j x hx
  · cases hx
/-- The one string that a literal of one has laid. -/
theorem strs_one (w : World) (x : ByteArray) : StrsW (w.alloc (.cells #[.string x] 9)) (.slice (some ⟨w.heap.size, 0, none⟩) 1 1) [x] := by
  refine ⟨_, 1, rfl, Nat.le_refl _, fun i y hy => ⟨w.heap.size, 0, rfl, ?_⟩⟩
  have := cell_one_new w (.string x) 9 i (.string y) (by
    cases i with
    | zero => simp at hy; subst hy; rfl
    | succ i => simp at hy)
  rwa [add_lit] at this
theorem fit_one {ok : Nat → Prop} {B : Nat} {w : World} (x : ByteArray) (ho : ok w.heap.size) : FitW ok B (w.alloc (.cells #[.string x] 9)) (.slice (some ⟨w.heap.size, 0, none⟩) 1 1) [x] :=
  ⟨strs_one w x, .inl ⟨_, rfl, fun a n c e _ => by cases e; exact ho⟩⟩
end Go.Proofs.Ytpkfmhggaiifgaa
