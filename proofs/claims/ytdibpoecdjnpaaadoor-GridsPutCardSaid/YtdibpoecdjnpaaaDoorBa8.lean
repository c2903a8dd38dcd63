/-
  Texts of this proof, one behind the other; each begins with its own remark.
-/
import Derived.Test.YtdibpoecdjnpaaaDoorBa7
import Derived.Test.YtdibpoecdjnpaaaDoorBa1
/-
  grids: sized, within, sameSize, styled, rightOf; limnerref06: may, Blank, Style: what each call returns.
-/
namespace Go.Proofs.YtdibpoecdjnpaaaDoor
open Go.RowKit

theorem sizedB_no {a b : Int} (h : ¬ (2 ≤ a ∧ a ≤ 100 ∧ 8 ≤ b ∧ b ≤ 200)) : sizedB a b = false := Bool.eq_false_iff.2 fun k => h ((sizedB_iff a b).1 k)
theorem withinB_no {a b c d : Int} (h : ¬ (0 ≤ c ∧ c < a ∧ 0 ≤ d ∧ d < b)) : withinB a b c d = false := Bool.eq_false_iff.2 fun k => h ((withinB_iff a b c d).1 k)
theorem styB_no {s : Sty} (h : ¬ (0 ≤ s.1 ∧ s.1 ≤ 8)) : styB s = false := Bool.eq_false_iff.2 fun k => h ((styB_iff s).1 k)

theorem sized_any (r c : Int) (w : World) :
    Calls Tryd.prog 29 #[.int .i64 r, .int .i64 c] w fun e w' => e = .returned (.bool (sizedB r c)) ∧ w = w' := by
  go_enter Tryd.func29, Tryd.ntmps29
  go_wp2
  all_goals (go_ret; refine ⟨?_, rfl⟩; first | (rw [(sizedB_iff r c).2 (by omega)]; rfl) | (rw [sizedB_no (by omega)]; rfl) | (show Ending.returned (.bool (decide _)) = .returned (.bool _); congr 2; rw [Bool.eq_iff_iff, sizedB_iff]; simp only [decide_eq_true_eq]; omega))
theorem may_any (r c : Int) (w : World) :
    Calls Tryd.prog 31 #[.int .i64 r, .int .i64 c] w fun e w' => e = .returned (.bool (sizedB r c)) ∧ w = w' := by
  go_enter Tryd.func31, Tryd.ntmps31
  go_wp2
  all_goals (go_ret; refine ⟨?_, rfl⟩; first | (rw [(sizedB_iff r c).2 (by omega)]; rfl) | (rw [sizedB_no (by omega)]; rfl) | (show Ending.returned (.bool (decide _)) = .returned (.bool _); congr 2; rw [Bool.eq_iff_iff, sizedB_iff]; simp only [decide_eq_true_eq]; omega))
theorem blank_any (w : World) :
    Calls Tryd.prog 32 #[] w fun e w' => e = .returned (.agg #[.int .i32 32, .int .i64 1, .int .i64 0, .bool false, .bool false, .bool false]) ∧ Below w.heap.size w w' := by
  go_enter Tryd.func32, Tryd.ntmps32
  go_wp2
  refine bodyPost_ret (v := .agg #[.int .i32 32, .int .i64 1, .int .i64 0, .bool false, .bool false, .bool false]) (by simp [results, Tryd.results32, go_sem]) rfl ⟨rfl, (Below.refl _ w).alloc (Nat.le_refl _) _⟩
theorem within_any {ao : Option Addr} {n cap : Nat} (R C a b r c : Int) (w : World) :
    Calls Tryd.prog 36 #[.agg #[.int .i64 R, .int .i64 C, .slice ao n cap, .int .i64 a, .int .i64 b], .int .i64 r, .int .i64 c] w fun e w' => e = .returned (.bool (withinB R C r c)) ∧ Below w.heap.size w w' := by
  go_enter Tryd.func36, Tryd.ntmps36
  go_wp2
  all_goals (go_ret; refine ⟨?_, (Below.refl _ w).alloc (Nat.le_refl _) _⟩; first | (rw [(withinB_iff R C r c).2 (by omega)]; rfl) | (rw [withinB_no (by omega)]; rfl) | (show Ending.returned (.bool (decide _)) = .returned (.bool _); congr 2; rw [Bool.eq_iff_iff, withinB_iff]; simp only [decide_eq_true_eq]; omega))
theorem styled_any (s : Sty) (w : World) :
    Calls Tryd.prog 37 #[.agg #[.int .i64 s.1, .bool s.2.1, .bool s.2.2.1, .bool s.2.2.2]] w fun e w' => e = .returned (.bool (styB s)) ∧ Below w.heap.size w w' := by
  go_enter Tryd.func37, Tryd.ntmps37
  go_wp2
  all_goals (go_ret; refine ⟨?_, (Below.refl _ w).alloc (Nat.le_refl _) _⟩; first | (rw [(styB_iff s).2 (by omega)]; rfl) | (rw [styB_no (by omega)]; rfl) | (show Ending.returned (.bool (decide _)) = .returned (.bool _); congr 2; rw [Bool.eq_iff_iff, styB_iff]; simp only [decide_eq_true_eq]; omega))
theorem style_any (s : Sty) (w : World) :
    Calls Tryd.prog 41 #[.agg #[.int .i64 s.1, .bool s.2.1, .bool s.2.2.1, .bool s.2.2.2]] w fun e w' => e = .returned (.bool (styB s)) ∧ Below w.heap.size w w' := by
  go_enter Tryd.func41, Tryd.ntmps41
  go_wp2
  all_goals (go_ret; refine ⟨?_, (Below.refl _ w).alloc (Nat.le_refl _) _⟩; first | (rw [(styB_iff s).2 (by omega)]; rfl) | (rw [styB_no (by omega)]; rfl) | (show Ending.returned (.bool (decide _)) = .returned (.bool _); congr 2; rw [Bool.eq_iff_iff, styB_iff]; simp only [decide_eq_true_eq]; omega))
theorem sameSize_any {ao ao2 : Option Addr} {n cap n2 cap2 : Nat} (R C a b R2 C2 a2 b2 : Int) (w : World) :
    Calls Tryd.prog 33 #[.agg #[.int .i64 R, .int .i64 C, .slice ao n cap, .int .i64 a, .int .i64 b], .agg #[.int .i64 R2, .int .i64 C2, .slice ao2 n2 cap2, .int .i64 a2, .int .i64 b2]] w fun e w' => e = .returned (.bool (decide (R = R2) && decide (C = C2))) ∧ Below w.heap.size w w' := by
  by_cases h1 : R = R2
  · subst h1
    by_cases h2 : C = C2
    · subst h2
      go_enter Tryd.func33, Tryd.ntmps33
      go_wp2
      go_ret
      exact ⟨by simp, ((Below.refl _ w).alloc (Nat.le_refl _) _).alloc (by simp) _⟩
    · have h2' : (C == C2) = false := by simpa using h2
      rw [decide_eq_true (rfl : R = R), decide_eq_false h2]
      have H2 := Lib.hid h2
      clear h2
      go_enter Tryd.func33, Tryd.ntmps33
      go_wp2
      go_ret
      exact ⟨by simp, ((Below.refl _ w).alloc (Nat.le_refl _) _).alloc (by simp) _⟩
  · have h1' : (R == R2) = false := by simpa using h1
    rw [decide_eq_false h1, Bool.false_and]
    clear h1
    go_enter Tryd.func33, Tryd.ntmps33
    go_wp2
    all_goals go_ret
    all_goals exact ⟨by simp, ((Below.refl _ w).alloc (Nat.le_refl _) _).alloc (by simp) _⟩
end Go.Proofs.YtdibpoecdjnpaaaDoor

/-
  A block of cells of a frame, known whole: what a store of one cell makes of it. No call is walked here.
-/
namespace Go.Proofs.YtdibpoecdjnpaaaDoor
open Go.RowKit

/-- A block that holds these cells, and behind them what an append left spare. -/
def blkL (w : World) (B : Nat) (L : List Cel) (zs : List Value) : Prop := w.heap[B]? = some (.cells (celC L ++ zs).toArray 52 (0, 0))
/-- The six stores of one cell. -/
def set6 (w : World) (B p : Nat) (c : Cel) : World :=
  (((((w.setCell ⟨B, p, none⟩ (.int .i32 c.1)).setCell ⟨B, p + 1, none⟩ (.int .i64 c.2.1)).setCell ⟨B, p + 2, none⟩ (.int .i64 c.2.2.1)).setCell ⟨B, p + 3, none⟩ (.bool c.2.2.2.1)).setCell ⟨B, p + 4, none⟩ (.bool c.2.2.2.2.1)).setCell ⟨B, p + 5, none⟩ (.bool c.2.2.2.2.2)

theorem blkL.lt {w : World} {B : Nat} {L : List Cel} {zs : List Value} (h : blkL w B L zs) : B < w.heap.size := (Array.getElem?_eq_some_iff.1 h).1
theorem heap_set {w : World} {B p : Nat} {v : Value} {cs : Array Value} {T : TypeId} (h : w.heap[B]? = some (.cells cs T (0, 0))) : (w.setCell ⟨B, p, none⟩ v).heap[B]? = some (.cells (cs.modify p fun _ => v) T (0, 0)) := by
  show (w.heap.modify B _)[B]? = _
  have hlt := (Array.getElem?_eq_some_iff.1 h).1
  obtain ⟨_, he⟩ := Array.getElem?_eq_some_iff.1 h
  rw [Array.getElem?_eq_getElem (by rw [Array.size_modify]; exact hlt), Array.getElem_modify_self, he]
  rfl
theorem set_six (a b : List Value) (c d : Cel) : ((((((a ++ celV d ++ b).set a.length (.int .i32 c.1)).set (a.length + 1) (.int .i64 c.2.1)).set (a.length + 2) (.int .i64 c.2.2.1)).set (a.length + 3) (.bool c.2.2.2.1)).set (a.length + 4) (.bool c.2.2.2.2.1)).set (a.length + 5) (.bool c.2.2.2.2.2) = a ++ celV c ++ b := by
  simp only [List.append_assoc]
  rw [List.set_append_right _ _ (by omega), List.set_append_right _ _ (by omega), List.set_append_right _ _ (by omega), List.set_append_right _ _ (by omega), List.set_append_right _ _ (by omega), List.set_append_right _ _ (by omega)]
  simp [celV, show ∀ k, a.length + k - a.length = k by omega]
theorem celC_set (L : List Cel) (zs : List Value) (i : Nat) (c : Cel) (hi : i < L.length) :
    (((((((celC L ++ zs).set (i * 6) (.int .i32 c.1)).set (i * 6 + 1) (.int .i64 c.2.1)).set (i * 6 + 2) (.int .i64 c.2.2.1)).set (i * 6 + 3) (.bool c.2.2.2.1)).set (i * 6 + 4) (.bool c.2.2.2.2.1)).set (i * 6 + 5) (.bool c.2.2.2.2.2)) = celC (L.set i c) ++ zs := by
  have e : celC L ++ zs = celC (L.take i) ++ celV (L[i]'hi) ++ (celC (L.drop (i + 1)) ++ zs) := by
    conv => lhs; rw [← List.take_append_drop i L, List.drop_eq_getElem_cons hi, celC_app, celC_cons]
    simp [List.append_assoc]
  have e2 : celC (L.set i c) ++ zs = celC (L.take i) ++ celV c ++ (celC (L.drop (i + 1)) ++ zs) := by
    rw [List.set_eq_take_append_cons_drop, if_pos hi, celC_app, celC_cons]
    simp [List.append_assoc]
  have hl : (celC (L.take i)).length = i * 6 := by rw [celC_len, List.length_take]; omega
  rw [e, e2, ← hl]
  exact set_six _ _ c _
theorem mod_set (cs : List Value) (p : Nat) (v : Value) : (cs.toArray.modify p fun _ => v) = (cs.set p v).toArray := by
  apply Array.ext'
  rw [Array.toList_modify]
  simp
  exact List.modify_eq_set ..
theorem blkL.set {w : World} {B : Nat} {L : List Cel} {zs : List Value} (h : blkL w B L zs) (i : Nat) (c : Cel) (hi : i < L.length) : blkL (set6 w B (i * 6) c) B (L.set i c) zs := by
  unfold blkL at h ⊢
  rw [← celC_set L zs i c hi]
  unfold set6
  simp only [← mod_set]
  exact heap_set (heap_set (heap_set (heap_set (heap_set (heap_set h)))))
theorem set6_keep {ok : Nat → Prop} (w : World) (B p : Nat) (c : Cel) (hB : ¬ ok B) : KeepW ok w (set6 w B p c) :=
  (((((keep_set _ _ _ _ _ hB).trans (keep_set _ _ _ _ _ hB)).trans (keep_set _ _ _ _ _ hB)).trans (keep_set _ _ _ _ _ hB)).trans (keep_set _ _ _ _ _ hB)).trans (keep_set _ _ _ _ _ hB)
theorem blkL.cells {w : World} {B : Nat} {L : List Cel} {zs : List Value} (h : blkL w B L zs) {i : Nat} {c : Cel} (hc : L[i]? = some c) : cell6 w B (i * 6) c := by
  have a := fun k (hk : k < 6) => celC_at L i c hc k hk
  have hlt : i * 6 + 6 ≤ (celC L).length := by
    have := (List.getElem?_eq_some_iff.1 hc).1
    rw [celC_len]; omega
  have b : ∀ k x, k < 6 → (celV c)[k]? = some x → w.cell? ⟨B, i * 6 + k, none⟩ = some x := fun k x hk hx => by
    rw [cell_of_row _ _ _ _ _ (0, 0) h, List.getElem?_toArray, List.getElem?_append_left (by omega), a k hk]
    exact hx
  exact ⟨b 0 _ (by omega) rfl, b 1 _ (by omega) rfl, b 2 _ (by omega) rfl, b 3 _ (by omega) rfl, b 4 _ (by omega) rfl, b 5 _ (by omega) rfl⟩
theorem blkL.frozen {w : World} {B : Nat} {L : List Cel} {zs : List Value} (h : blkL w B L zs) (p : Nat) : w.frozen? ⟨B, p, none⟩ = false := by
  unfold World.frozen?
  unfold blkL at h
  rw [h]; simp
theorem blkL.keep {w w' : World} {ok : Nat → Prop} {B : Nat} {L : List Cel} {zs : List Value} (h : blkL w B L zs) (hk : KeepW ok w w') (hB : ok B) : blkL w' B L zs := (hk.same B h.lt hB).trans h
theorem blkL.below {w w' : World} {n B : Nat} {L : List Cel} {zs : List Value} (h : blkL w B L zs) (hb : Below n w w') (hB : B < n) : blkL w' B L zs := (hb.block B hB).trans h
/-- The whole block as a slice; a part of it. -/
theorem blkL.slice {w : World} {ok : Nat → Prop} {B n cap : Nat} {L : List Cel} {zs : List Value} (h : blkL w B L zs) (hB : ok B) (hn : L.length = n) (hc : n ≤ cap) : CelsW ok w (.slice (some ⟨B, 0, none⟩) n cap) L := by
  unfold CelsW
  rw [hn]
  refine ⟨_, cap, rfl, hc, fun a e => by cases e; exact hB, fun j u hu => ⟨B, 0, rfl, ?_⟩⟩
  rw [Nat.zero_add, cell_of_row _ _ _ _ _ (0, 0) h, List.getElem?_toArray, List.getElem?_append_left (List.getElem?_eq_some_iff.1 hu).1]
  exact hu
theorem blkL.part {w : World} {ok : Nat → Prop} {B a n cap : Nat} {L : List Cel} {zs : List Value} (h : blkL w B L zs) (hB : ok B) (hn : a + n ≤ L.length) (hc : n ≤ cap) : CelsW ok w (.slice (some ⟨B, a * 6, none⟩) n cap) ((L.drop a).take n) := by
  have hl : ((L.drop a).take n).length = n := by rw [List.length_take, List.length_drop]; omega
  unfold CelsW
  rw [hl]
  refine ⟨_, cap, rfl, hc, fun a e => by cases e; exact hB, fun j u hu => ⟨B, a * 6, rfl, ?_⟩⟩
  rw [← celC_take, ← celC_drop, List.getElem?_take] at hu
  split at hu
  · rw [List.getElem?_drop] at hu
    rw [cell_of_row _ _ _ _ _ (0, 0) h, List.getElem?_toArray, List.getElem?_append_left (List.getElem?_eq_some_iff.1 hu).1]
    exact hu
  · cases hu
end Go.Proofs.YtdibpoecdjnpaaaDoor

/-
  append onto a full row, as a law of the walk: at a step of a region that draws its order; in a plain region. No call is walked here.
-/
namespace Go.Proofs.YtdibpoecdjnpaaaDoor
open Go.RowKit

/-- append onto a full row, at a step of a region that draws its order. -/
theorem step_full {ok ok2 : Nat → Prop} {W : World} {ao : Option Addr} {u : Value} {n k m : Nat} {cs ds : List Value} {ops : Array Oper} {o : Oper} {a : Act} {K : Act → World → Prop} {Q : Exit → Act → World → Prop} {E : Prop} (t e : TypeId) (i : TypeInfo) (z : Value) (bytes : Nat) (ht : Tryd.prog.underlying t = some (.slice e)) (hi : Tryd.prog.info? e = some i) (hz0 : i.zero = some z) (hz1 : i.size = m) (hz2 : i.bytes = bytes)
    (hgd : o.guard = none) (s x : Operand) (ho : o.op = .call { callee := .builtin .append, args := #[s, x], argTypes := #[t, t] })
    (hs : a.eval s = .slice ao n n) (hx : a.eval x = u) (hv : RowV ok W (.slice ao n n) n cs) (hl : cs.length = n * m) (hu : RowV ok2 W u k ds) (hl2 : ds.length = k * m) (hk : 0 < k) (hm : 0 < m) (h1 : ∀ x ∈ ds, x.oneCell' = true) (hb : (n + k) * bytes ≤ 140737488355328) (hn : n + k ≤ 1000000)
    (h : ∀ cap zs, n + k ≤ cap → K (a.put o.dst (.slice (some ⟨W.heap.size, 0, none⟩) (n + k) cap)) (W.drew.alloc (.cells (cs ++ ds ++ zs).toArray e))) :
    if Region.wanted o (yielded ops a.tmps) = true then Oper.wp Tryd.prog o a W K Q else E := by
  have hw : Region.wanted o (yielded ops a.tmps) = true := by simp [Region.wanted, hgd]
  rw [if_pos hw]
  obtain ⟨cap, zs, hr, hc⟩ := run_app_full t o.type e i z bytes ht hi hz0 hz1 hz2 hv hl hu hl2 hk hm h1 hb hn
  unfold Oper.wp execOp
  simp only [ho, resolve, invoke, builtin, Sem.run_bind, Sem.run_pure, Result.andThen_ok, List.map_toArray, List.map_cons, List.map_nil, hs, hx, hr]
  exact h cap zs hc

/-- append onto a full row, in a plain region. -/
theorem wpList_full {ok ok2 : Nat → Prop} {W : World} {ao : Option Addr} {u : Value} {n k m : Nat} {cs ds : List Value} {ops : Array Oper} {rest : List Oper} {o : Oper} {a : Act} {Q : Exit → Act → World → Prop} (t e : TypeId) (i : TypeInfo) (z : Value) (bytes : Nat) (ht : Tryd.prog.underlying t = some (.slice e)) (hi : Tryd.prog.info? e = some i) (hz0 : i.zero = some z) (hz1 : i.size = m) (hz2 : i.bytes = bytes)
    (hgd : o.guard = none) (s x : Operand) (ho : o.op = .call { callee := .builtin .append, args := #[s, x], argTypes := #[t, t] })
    (hs : a.eval s = .slice ao n n) (hx : a.eval x = u) (hv : RowV ok W (.slice ao n n) n cs) (hl : cs.length = n * m) (hu : RowV ok2 W u k ds) (hl2 : ds.length = k * m) (hk : 0 < k) (hm : 0 < m) (h1 : ∀ x ∈ ds, x.oneCell' = true) (hb : (n + k) * bytes ≤ 140737488355328) (hn : n + k ≤ 1000000)
    (h : ∀ cap zs, n + k ≤ cap → wpList Tryd.prog ops Q rest (a.put o.dst (.slice (some ⟨W.heap.size, 0, none⟩) (n + k) cap)) (W.drew.alloc (.cells (cs ++ ds ++ zs).toArray e))) :
    wpList Tryd.prog ops Q (o :: rest) a W := by
  obtain ⟨cap, zs, hr, hc⟩ := run_app_full t o.type e i z bytes ht hi hz0 hz1 hz2 hv hl hu hl2 hk hm h1 hb hn
  refine wpList_plain hgd fun K hK => ?_
  unfold Oper.wp execOp
  simp only [ho, resolve, invoke, builtin, Sem.run_bind, Sem.run_pure, Result.andThen_ok, List.map_toArray, List.map_cons, List.map_nil, hs, hx, hr]
  exact hK _ _ (h cap zs hc)

end Go.Proofs.YtdibpoecdjnpaaaDoor
