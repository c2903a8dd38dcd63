/-
  undo: with: the states, as many as may be kept, with one more; slices.Clip and slices.Clone of states: what each call returns.
-/
import Derived.Test.YtpkfmhggaiifgaaUnW
namespace Go.Proofs.Ytpkfmhggaiifgaa
open Go.RowKit

/-- append onto a full row, at a step of a region that draws its order. -/
theorem step_full {ok ok2 : Nat → Prop} {W : World} {ao : Option Addr} {u : Value} {n k m : Nat} {cs ds : List Value} {ops : Array Oper} {o : Oper} {a : Act} {K : Act → World → Prop} {Q : Exit → Act → World → Prop} {E : Prop} (t e : TypeId) (i : TypeInfo) (z : Value) (bytes : Nat) (ht : Try.prog.underlying t = some (.slice e)) (hi : Try.prog.info? e = some i) (hz0 : i.zero = some z) (hz1 : i.size = m) (hz2 : i.bytes = bytes)
    (hgd : o.guard = none) (s x : Operand) (ho : o.op = .call { callee := .builtin .append, args := #[s, x], argTypes := #[t, t] })
    (hs : a.eval s = .slice ao n n) (hx : a.eval x = u) (hv : RowV ok W (.slice ao n n) n cs) (hl : cs.length = n * m) (hu : RowV ok2 W u k ds) (hl2 : ds.length = k * m) (hk : 0 < k) (hm : 0 < m) (h1 : ∀ x ∈ ds, x.oneCell' = true) (hb : (n + k) * bytes ≤ 140737488355328) (hn : n + k ≤ 1000000)
    (h : ∀ cap zs, n + k ≤ cap → K (a.put o.dst (.slice (some ⟨W.heap.size, 0, none⟩) (n + k) cap)) (W.drew.alloc (.cells (cs ++ ds ++ zs).toArray e))) :
    if Region.wanted o (yielded ops a.tmps) = true then Oper.wp Try.prog o a W K Q else E := by
  have hw : Region.wanted o (yielded ops a.tmps) = true := by simp [Region.wanted, hgd]
  rw [if_pos hw]
  obtain ⟨cap, zs, hr, hc⟩ := run_app_full t o.type e i z bytes ht hi hz0 hz1 hz2 hv hl hu hl2 hk hm h1 hb hn
  unfold Oper.wp execOp
  simp only [ho, resolve, invoke, builtin, Sem.run_bind, Sem.run_pure, Result.andThen_ok, List.map_toArray, List.map_cons, List.map_nil, hs, hx, hr]
  exact h cap zs hc

theorem uclip_any {ao : Option Addr} {n cap : Nat} (w : World) (h : n ≤ cap) :
    Calls Try.prog 34 #[.slice ao n cap] w fun e w' => e = .returned (.slice ao n n) ∧ w = w' := by
  have h1 : (n : Int) ≤ (cap : Int) := by omega
  go_enter Try.func34, Try.ntmps34
  go_wp2
  go_ret
  exact ⟨rfl, rfl⟩

theorem row_two {w W : World} {g : Nat} {x y : Value} {e : TypeId} (hg : w.heap.size = g) (hb : Below (g + 1) (w.alloc (.cells #[x, y] e)) W) : RowV (fun _ => True) W (.slice (some ⟨g, 0, none⟩) 1 1) 1 [x, y] := by
  subst hg
  refine ⟨_, 1, rfl, Nat.le_refl _, fun _ _ => trivial, fun j u hu => ⟨_, 0, rfl, ?_⟩⟩
  rw [hb.cell (p := ⟨w.heap.size, 0 + j, none⟩) (Nat.lt_succ_self _), cell_of_row _ _ _ _ e (0, 0) (heap_alloc_new w _), Nat.zero_add]
  rw [← Array.getElem?_toList]
  exact hu

/-- What with leaves: its new row. -/
theorem uwith_done {ok : Nat → Prop} {w W : World} {ps : List St} {p : St} {n cap g : Nat} {zs : List Value} (hg : W.heap.size = g) (hb : Below w.heap.size w W) (hn : ps.length + 1 = n) (hcap : n ≤ cap) (hP : ∀ q ∈ ps, TextP ok w q.1 q.2.1) (hT : TextP ok w p.1 p.2.1) (hok : ∀ k, w.heap.size ≤ k → ok k) :
    StatesW ok (W.drew.alloc (.cells (stC ps ++ stV p ++ zs).toArray 52)) (.slice (some ⟨g, 0, none⟩) n cap) (ps ++ [p]) ∧ Below w.heap.size w (W.drew.alloc (.cells (stC ps ++ stV p ++ zs).toArray 52)) := by
  subst hg
  have hb2 : Below w.heap.size w (W.drew.alloc (.cells (stC ps ++ stV p ++ zs).toArray 52)) := hb.drew.alloc hb.size _
  refine ⟨⟨?_, fun q hq => ?_⟩, hb2⟩
  · rw [stC_app, stC_one, List.length_append, List.length_cons, List.length_nil, hn]
    have h := row_new (w := W.drew) (n := n) (cs := stC ps ++ stV p) (zs := zs) (e := 52) hcap
    obtain ⟨ao, cp, he, hc, ho, hcell⟩ := h
    refine ⟨ao, cp, he, hc, fun a ha => hok _ ?_, hcell⟩
    have := ho a ha
    rw [this]
    exact hb.size
  · rcases List.mem_append.1 hq with h | h
    · exact (hP q h).keepW (keep_below ok hb2)
    · rw [List.mem_singleton.1 h]
      exact hT.keepW (keep_below ok hb2)

set_option maxHeartbeats 1000000 in
theorem uwith_few {ok : Nat → Prop} {v : Value} {ps : List St} (b : Nat) (s : ByteArray) (c : Int) (w : World) (hS : StatesW ok w v ps) (hT : TextP ok w b s) (hl : ps.length ≤ 99) (hok : ∀ k, w.heap.size ≤ k → ok k) :
    Calls Try.prog 28 #[v, .agg #[.pointer (some ⟨b, 0, none⟩), .int .i64 c]] w fun e w' => ∃ v', e = .returned v' ∧ StatesW ok w' v' (pushU ps (b, s, c)) ∧ Below w.heap.size w w' := by
  obtain ⟨i0, hi, hz0, hz1, hz2⟩ := info_parts Try.infoState
  have hR := hS.1
  obtain ⟨ao, cap, rfl, hcap, _⟩ := hS.1
  have hpush : pushU ps (b, s, c) = ps ++ [(b, s, c)] := by unfold pushU; rw [show ps.length + 1 - 100 = 0 by omega]; rfl
  rw [hpush]
  obtain ⟨n, hn⟩ : ∃ n, ps.length = n := ⟨_, rfl⟩
  have hlen := stC_len ps
  have hP := hS.2
  rw [hn] at hR hl hcap hlen ⊢
  have l1 : (n : Int) ≤ 99 := by omega
  have l2 : (n : Int) ≤ (cap : Int) := by omega
  have l3 : (n : Int) + 1 - 100 ≤ 0 := by omega
  have hbB : Below w.heap.size w (w.alloc (.cells #[.pointer (some ⟨b, 0, none⟩), .int .i64 c] 52)) := (Below.refl _ _).alloc (Nat.le_refl _) _
  have hbC : Below w.heap.size w ((w.alloc (.cells #[.pointer (some ⟨b, 0, none⟩), .int .i64 c] 52)).alloc (.cells #[.pointer (some ⟨b, 0, none⟩), .int .i64 c] 52)) := hbB.alloc (by simp) _
  have HO : Hid (∀ W, Below (w.heap.size + 2) ((w.alloc (.cells #[.pointer (some ⟨b, 0, none⟩), .int .i64 c] 52)).alloc (.cells #[.pointer (some ⟨b, 0, none⟩), .int .i64 c] 52)) W → RowV (fun _ => True) W (.slice (some ⟨w.heap.size + 1, 0, none⟩) 1 1) 1 (stV (b, s, c))) := fun W hW => row_two (by simp) hW
  have HBX : Hid (∀ W, Below (w.heap.size + 1) (w.alloc (.cells #[.pointer (some ⟨b, 0, none⟩), .int .i64 c] 52)) W → W.cell? ⟨w.heap.size, 0, none⟩ = some (.pointer (some ⟨b, 0, none⟩)) ∧ W.cell? ⟨w.heap.size, 1, none⟩ = some (.int .i64 c)) := fun W hW => by
    have e := heap_alloc_new w (.cells #[.pointer (some ⟨b, 0, none⟩), .int .i64 c] 52)
    exact ⟨by rw [hW.cell (p := ⟨w.heap.size, 0, none⟩) (Nat.lt_succ_self _), cell_of_row _ _ _ _ _ _ e]; rfl, by rw [hW.cell (p := ⟨w.heap.size, 1, none⟩) (Nat.lt_succ_self _), cell_of_row _ _ _ _ _ _ e]; rfl⟩
  have HR : Hid (∀ W, Below w.heap.size w W → RowV ok W (.slice ao n n) n (stC ps)) := fun W hW => by
    have := RowV.take (k := n) (c2 := n) 2 hR (Nat.le_refl _)
    rw [List.take_of_length_le (by omega)] at this
    exact this.keep (keep_below ok hW)
  have HD := Lib.hid (fun W cp zs g (hg : W.heap.size = g) (hb : Below w.heap.size w W) (hc : n + 1 ≤ cp) => uwith_done hg (p := (b, s, c)) (W := W) (zs := zs) hb (by rw [hn]) hc hP hT hok)
  have HC := Lib.hid (fun W => uclip_any (ao := ao) W hcap)
  have HI := Lib.hid hi
  have H0 := Lib.hid hz0
  have H1 := Lib.hid hz1
  have H2 := Lib.hid hz2
  have HL := Lib.hid hlen
  clear hpush hR hS hP hT hok hi hz0 hz1 hz2 hlen hn
  go_enter Try.func28, Try.ntmps28
  go_wp2
  go_region_held3 (fun W => W.cell? ⟨w.heap.size, 0, none⟩ = some (.pointer (some ⟨b, 0, none⟩)) ∧ W.cell? ⟨w.heap.size, 1, none⟩ = some (.int .i64 c)) (first | go_keep | exact HBX.out _ ⟨rfl, rfl, rfl, Nat.le_refl _, fun _ _ => rfl⟩)
    (first
      | (go_at_call 34; go_must (go_fit (HC.out _)); rintro e w2 ⟨rfl, rfl⟩)
      | (refine step_full 53 52 i0 _ 16 Try.underlying53 HI.out H0.out H1.out H2.out (by rfl) _ _ (by rfl) (by rfl) (by rfl) (HR.out _ (hbC.trans ⟨rfl, rfl, rfl, Nat.le_refl _, fun _ _ => rfl⟩)) HL.out (HO.out _ ⟨rfl, rfl, rfl, Nat.le_refl _, fun _ _ => rfl⟩) (by rfl) (by omega) (by omega) (fun x hx => stC_cell [(b, s, c)] x (by rw [stC_one]; exact hx)) (by omega) (by omega) ?_; intro cp zs hcp))
  all_goals go_wp2
  all_goals go_ret
  all_goals
    obtain ⟨k1, k2⟩ := HD.out _ cp zs (w.heap.size + 1 + 1) (by simp) hbC.drew hcp
    exact ⟨_, rfl, k1, k2⟩
set_option maxHeartbeats 1000000 in
theorem uwith_full {ok : Nat → Prop} {v : Value} {ps : List St} (b : Nat) (s : ByteArray) (c : Int) (w : World) (hS : StatesW ok w v ps) (hT : TextP ok w b s) (hl : ps.length = 100) (hok : ∀ k, w.heap.size ≤ k → ok k) :
    Calls Try.prog 28 #[v, .agg #[.pointer (some ⟨b, 0, none⟩), .int .i64 c]] w fun e w' => ∃ v', e = .returned v' ∧ StatesW ok w' v' (pushU ps (b, s, c)) ∧ Below w.heap.size w w' := by
  obtain ⟨i0, hi, hz0, hz1, hz2⟩ := info_parts Try.infoState
  have hR := hS.1
  have hat := stC_at ps 0 (ps[0]'(by omega)) (List.getElem?_eq_getElem _)
  obtain ⟨g, o, cap, rfl, hcap, _⟩ := hR.at_ hat.1
  have hpush : pushU ps (b, s, c) = ps.drop 1 ++ [(b, s, c)] := by unfold pushU; rw [show ps.length + 1 - 100 = 1 by omega]
  rw [hpush]
  have hlen := stC_len (ps.drop 1)
  rw [List.length_drop, hl] at hlen
  have hP : ∀ q ∈ ps.drop 1, TextP ok w q.1 q.2.1 := fun q hq => hS.2 q (List.mem_of_mem_drop hq)
  have hn : (ps.drop 1).length = 99 := by rw [List.length_drop, hl]
  rw [hl] at hR hcap ⊢
  have l2 : (100 : Int) ≤ (cap : Int) := by omega
  have hbB : Below w.heap.size w (w.alloc (.cells #[.pointer (some ⟨b, 0, none⟩), .int .i64 c] 52)) := (Below.refl _ _).alloc (Nat.le_refl _) _
  have hbC : Below w.heap.size w ((w.alloc (.cells #[.pointer (some ⟨b, 0, none⟩), .int .i64 c] 52)).alloc (.cells #[.pointer (some ⟨b, 0, none⟩), .int .i64 c] 52)) := hbB.alloc (by simp) _
  have HO : Hid (∀ W, Below (w.heap.size + 2) ((w.alloc (.cells #[.pointer (some ⟨b, 0, none⟩), .int .i64 c] 52)).alloc (.cells #[.pointer (some ⟨b, 0, none⟩), .int .i64 c] 52)) W → RowV (fun _ => True) W (.slice (some ⟨w.heap.size + 1, 0, none⟩) 1 1) 1 (stV (b, s, c))) := fun W hW => row_two (by simp) hW
  have HBX : Hid (∀ W, Below (w.heap.size + 1) (w.alloc (.cells #[.pointer (some ⟨b, 0, none⟩), .int .i64 c] 52)) W → W.cell? ⟨w.heap.size, 0, none⟩ = some (.pointer (some ⟨b, 0, none⟩)) ∧ W.cell? ⟨w.heap.size, 1, none⟩ = some (.int .i64 c)) := fun W hW => by
    have e := heap_alloc_new w (.cells #[.pointer (some ⟨b, 0, none⟩), .int .i64 c] 52)
    exact ⟨by rw [hW.cell (p := ⟨w.heap.size, 0, none⟩) (Nat.lt_succ_self _), cell_of_row _ _ _ _ _ _ e]; rfl, by rw [hW.cell (p := ⟨w.heap.size, 1, none⟩) (Nat.lt_succ_self _), cell_of_row _ _ _ _ _ _ e]; rfl⟩
  have HR : Hid (∀ W, Below w.heap.size w W → RowV ok W (.slice (some ⟨g, o + 1 * 2, none⟩) 99 99) 99 (stC (ps.drop 1))) := fun W hW => by
    have h1 := RowV.drop (i := 1) (c2 := 99) 2 hR (by decide)
    have h2 := RowV.take (k := 99) (c2 := 99) 2 h1 (Nat.le_refl _)
    have this : RowV ok w (.slice (some ⟨g, o + 1 * 2, none⟩) 99 99) 99 (stC (ps.drop 1)) := by rw [← stC_drop]; rwa [List.take_of_length_le (by rw [stC_drop]; omega)] at h2
    exact this.keep (keep_below ok hW)
  have HD := Lib.hid (fun W cp zs g (hg : W.heap.size = g) (hb : Below w.heap.size w W) (hc : 100 ≤ cp) => uwith_done hg (p := (b, s, c)) (W := W) (zs := zs) hb (by rw [hn]) hc hP hT hok)
  have HC := Lib.hid (fun W => uclip_any (n := 99) (cap := cap - 1) (ao := some ⟨g, o + 1 * 2, none⟩) W (by omega))
  have HI := Lib.hid hi
  have H0 := Lib.hid hz0
  have H1 := Lib.hid hz1
  have H2 := Lib.hid hz2
  have HL := Lib.hid hlen
  clear hpush hR hS hP hT hok hi hz0 hz1 hz2 hlen hn hat hl
  go_enter Try.func28, Try.ntmps28
  go_wp2
  go_region_held3 (fun W => W.cell? ⟨w.heap.size, 0, none⟩ = some (.pointer (some ⟨b, 0, none⟩)) ∧ W.cell? ⟨w.heap.size, 1, none⟩ = some (.int .i64 c)) (first | go_keep | exact HBX.out _ ⟨rfl, rfl, rfl, Nat.le_refl _, fun _ _ => rfl⟩)
    (first
      | (go_at_call 34; go_must (go_fit (HC.out _)); rintro e w2 ⟨rfl, rfl⟩)
      | (refine step_full 53 52 i0 _ 16 Try.underlying53 HI.out H0.out H1.out H2.out (by rfl) _ _ (by rfl) (by rfl) (by rfl) (HR.out _ (hbC.trans ⟨rfl, rfl, rfl, Nat.le_refl _, fun _ _ => rfl⟩)) HL.out (HO.out _ ⟨rfl, rfl, rfl, Nat.le_refl _, fun _ _ => rfl⟩) (by rfl) (by omega) (by omega) (fun x hx => stC_cell [(b, s, c)] x (by rw [stC_one]; exact hx)) (by omega) (by omega) ?_; intro cp zs hcp))
  all_goals go_wp2
  all_goals go_ret
  all_goals
    obtain ⟨k1, k2⟩ := HD.out _ cp zs (w.heap.size + 1 + 1) (by simp) hbC.drew hcp
    exact ⟨_, rfl, k1, k2⟩
theorem uwith_any {ok : Nat → Prop} {v : Value} {ps : List St} (b : Nat) (s : ByteArray) (c : Int) (w : World) (hS : StatesW ok w v ps) (hT : TextP ok w b s) (hl : ps.length ≤ 100) (hok : ∀ k, w.heap.size ≤ k → ok k) :
    Calls Try.prog 28 #[v, .agg #[.pointer (some ⟨b, 0, none⟩), .int .i64 c]] w fun e w' => ∃ v', e = .returned v' ∧ StatesW ok w' v' (pushU ps (b, s, c)) ∧ Below w.heap.size w w' := by
  by_cases h : ps.length ≤ 99
  · exact uwith_few b s c w hS hT h hok
  · exact uwith_full b s c w hS hT (by omega) hok

/-- append onto a full row, in a plain region. -/
theorem wpList_full {ok ok2 : Nat → Prop} {W : World} {ao : Option Addr} {u : Value} {n k m : Nat} {cs ds : List Value} {ops : Array Oper} {rest : List Oper} {o : Oper} {a : Act} {Q : Exit → Act → World → Prop} (t e : TypeId) (i : TypeInfo) (z : Value) (bytes : Nat) (ht : Try.prog.underlying t = some (.slice e)) (hi : Try.prog.info? e = some i) (hz0 : i.zero = some z) (hz1 : i.size = m) (hz2 : i.bytes = bytes)
    (hgd : o.guard = none) (s x : Operand) (ho : o.op = .call { callee := .builtin .append, args := #[s, x], argTypes := #[t, t] })
    (hs : a.eval s = .slice ao n n) (hx : a.eval x = u) (hv : RowV ok W (.slice ao n n) n cs) (hl : cs.length = n * m) (hu : RowV ok2 W u k ds) (hl2 : ds.length = k * m) (hk : 0 < k) (hm : 0 < m) (h1 : ∀ x ∈ ds, x.oneCell' = true) (hb : (n + k) * bytes ≤ 140737488355328) (hn : n + k ≤ 1000000)
    (h : ∀ cap zs, n + k ≤ cap → wpList Try.prog ops Q rest (a.put o.dst (.slice (some ⟨W.heap.size, 0, none⟩) (n + k) cap)) (W.drew.alloc (.cells (cs ++ ds ++ zs).toArray e))) :
    wpList Try.prog ops Q (o :: rest) a W := by
  obtain ⟨cap, zs, hr, hc⟩ := run_app_full t o.type e i z bytes ht hi hz0 hz1 hz2 hv hl hu hl2 hk hm h1 hb hn
  refine wpList_plain hgd fun K hK => ?_
  unfold Oper.wp execOp
  simp only [ho, resolve, invoke, builtin, Sem.run_bind, Sem.run_pure, Result.andThen_ok, List.map_toArray, List.map_cons, List.map_nil, hs, hx, hr]
  exact hK _ _ (h cap zs hc)

theorem uclone_none {ok : Nat → Prop} (g o cap : Nat) (w : World) (hok : ∀ k, w.heap.size ≤ k → ok k) :
    Calls Try.prog 31 #[.slice (some ⟨g, o, none⟩) 0 cap] w fun e w' => ∃ v', e = .returned v' ∧ StatesW ok w' v' [] ∧ Below w.heap.size w w' := by
  have he : ∀ w : World, (binOp .eql 53 (.slice (some ⟨g, o, none⟩) 0 cap) (.slice none 0 0)).run Try.prog w = .ok (.bool false) w := fun _ => rfl
  have hr : ∀ (ty : TypeId) (g2 : Nat) (w : World), (Builtin.append_ #[53, 53] ty #[.slice (some ⟨g2, 0, none⟩) 0 0, .slice (some ⟨g, o, none⟩) 0 cap]).run Try.prog w = .ok (.slice (some ⟨g2, 0, none⟩) 0 0) w := fun ty g2 w => by
    obtain ⟨i0, hi, hz0, hz1, hz2⟩ := info_parts Try.infoState
    have ht : Try.prog.underlying 53 = some (.slice 52) := Try.underlying53
    simp [Builtin.append_, run_underlying ht, sizeOf, typeInfo, hi, Builtin.lenOf, Builtin.firstCells, loadCells, loadCellsFrom, storeCells]
  go_enter Try.func31, Try.ntmps31
  go_wp2
  go_ret
  refine ⟨_, rfl, ⟨⟨_, 0, rfl, Nat.le_refl _, fun a h => ?_, fun j u hu => ?_⟩, fun p hp => by cases hp⟩, (Below.refl _ w).alloc (Nat.le_refl _) _⟩
  · cases h; exact hok _ (Nat.le_refl _)
  · simp [stC] at hu

set_option maxHeartbeats 1000000 in
theorem uclone_some {ok : Nat → Prop} {ps : List St} (g o cap n : Nat) (w : World) (hS : StatesW ok w (.slice (some ⟨g, o, none⟩) n cap) ps) (hn : ps.length = n) (h0 : 0 < n) (hl : n ≤ 100) (hok : ∀ k, w.heap.size ≤ k → ok k) :
    Calls Try.prog 31 #[.slice (some ⟨g, o, none⟩) n cap] w fun e w' => ∃ v', e = .returned v' ∧ StatesW ok w' v' ps ∧ Below w.heap.size w w' := by
  obtain ⟨i0, hi, hz0, hz1, hz2⟩ := info_parts Try.infoState
  have he : ∀ w : World, (binOp .eql 53 (.slice (some ⟨g, o, none⟩) n cap) (.slice none 0 0)).run Try.prog w = .ok (.bool false) w := fun _ => rfl
  have HR : Hid (∀ W, Below w.heap.size w W → RowV ok W (.slice (some ⟨g, o, none⟩) n cap) n (stC ps)) := fun W hW => by
    have := hS.1.keep (keep_below ok hW)
    rwa [hn] at this
  have hP := hS.2
  have HL : Hid ((stC ps).length = n * 2) := by show _ = _; rw [stC_len, hn]
  have HI := Lib.hid hi
  have H0 := Lib.hid hz0
  have H1 := Lib.hid hz1
  have H2 := Lib.hid hz2
  have HN := Lib.hid hn
  have hb1 : Below w.heap.size w (w.alloc (.cells #[] 52)) := (Below.refl _ _).alloc (Nat.le_refl _) _
  have HE : Hid (RowV (fun _ => True) (w.alloc (.cells #[] 52)) (.slice (some ⟨w.heap.size, 0, none⟩) 0 0) 0 []) := ⟨_, 0, rfl, Nat.le_refl _, fun _ _ => trivial, fun j u hu => by simp at hu⟩
  clear hS hi hz0 hz1 hz2 hn
  go_enter Try.func31, Try.ntmps31
  go_wp2_with (at_builtin; refine wpList_full 53 52 i0 _ 16 Try.underlying53 HI.out H0.out H1.out H2.out rfl _ _ rfl (by rfl) (by rfl) HE.out (by simp) (HR.out _ hb1) HL.out h0 (by omega) (stC_cell ps) (by omega) (by omega) ?_; intro cp zs hcp)
  go_ret
  have hb2 : Below w.heap.size w ((w.alloc (.cells #[] 52)).alloc (.cells (stC ps ++ zs).toArray 52)) := hb1.alloc (by simp) _
  refine ⟨_, rfl, ⟨?_, fun p hp => (hP p hp).keepW (keep_below ok hb2.drew)⟩, hb2.drew⟩
  have h := row_new (w := w.alloc (.cells #[] 52)) (n := n) (cap := cp) (cs := stC ps) (zs := zs) (e := 52) (by omega)
  rw [HN.out]
  obtain ⟨ao, c2, he2, hc, ho, hcell⟩ := h
  simp only [World.size_alloc] at he2
  exact ⟨ao, c2, he2, hc, fun a ha => hok _ (by rw [ho a ha, World.size_alloc]; omega), hcell⟩
/-- A front of a row, cloned. -/
theorem uclone_any {ok : Nat → Prop} {ps : List St} (g o cap n : Nat) (w : World) (hS : StatesW ok w (.slice (some ⟨g, o, none⟩) n cap) ps) (hn : ps.length = n) (hl : n ≤ 100) (hok : ∀ k, w.heap.size ≤ k → ok k) :
    Calls Try.prog 31 #[.slice (some ⟨g, o, none⟩) n cap] w fun e w' => ∃ v', e = .returned v' ∧ StatesW ok w' v' ps ∧ Below w.heap.size w w' := by
  by_cases h : n = 0
  · subst h
    obtain rfl := List.eq_nil_of_length_eq_zero hn
    exact uclone_none g o cap w hok
  · exact uclone_some g o cap n w hS hn (by omega) hl hok
end Go.Proofs.Ytpkfmhggaiifgaa
