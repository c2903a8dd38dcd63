/-
  Maps whose keys tell where a list of kids lies, or where two do: a key looked for, a key put in. No call is walked here.
-/
import Derived.Laws.StructEq
import Derived.LaidEqlPtr
import Derived.WideKeyRuns
import Derived.MapKept
import Derived.WideMake
import Derived.Test.YtkopbngnhgdfhaaDoorBe11
namespace Go.Proofs.YtkopbngnhgdfhaaDoor
open Go.RowKit

theorem Tryd.fieldsList : Tryd.prog.underlying 68 = some (.struct (Tryd.prog.fieldsOf 68)) := by kernel_rfl
theorem Tryd.fieldsLists : Tryd.prog.underlying 71 = some (.struct (Tryd.prog.fieldsOf 71)) := by kernel_rfl
theorem Tryd.heldList : Tryd.prog.stoodInHeld 68 = false := by kernel_rfl
theorem Tryd.heldLists : Tryd.prog.stoodInHeld 71 = false := by kernel_rfl
theorem Tryd.infoNodeS : (Tryd.prog.info? 26).map (·.size) = some 6 := by kernel_rfl
theorem infoS : ∃ j, Tryd.prog.info? 26 = some j ∧ j.size ≠ 0 := by
  rcases h : Tryd.prog.info? 26 with _ | j
  · have := Tryd.infoNodeS; rw [h] at this; cases this
  · have h2 := Tryd.infoNodeS
    rw [h] at h2
    simp only [Option.map_some, Option.some.injEq] at h2
    exact ⟨j, rfl, by omega⟩
theorem list_fields : (Tryd.prog.fieldsOf 68).toList = [{ name := "first", type := 66, offset := 0, embedded := false, tag := "", pkgPath := "limner/regs", byteOffset := 0 }, { name := "n", type := 3, offset := 1, embedded := false, tag := "", pkgPath := "limner/regs", byteOffset := 8 }] := by
  unfold Program.fieldsOf
  rw [Tryd.underlying68]
theorem lists_fields : (Tryd.prog.fieldsOf 71).toList = [{ name := "a", type := 68, offset := 0, embedded := false, tag := "", pkgPath := "limner/regs", byteOffset := 0 }, { name := "b", type := 68, offset := 2, embedded := false, tag := "", pkgPath := "limner/regs", byteOffset := 16 }] := by
  unfold Program.fieldsOf
  rw [Tryd.underlying71]
/-- Where a list lies. -/
abbrev Kp := Option Addr × Nat
def kpV (k : Kp) : Value := .agg #[.pointer k.1, .int .i64 (k.2 : Int)]
def kp2V (a b : Kp) : Value := .agg #[.pointer a.1, .int .i64 (a.2 : Int), .pointer b.1, .int .i64 (b.2 : Int)]
/-- It can be told from others. -/
def KpF (w : World) (k : Kp) : Prop := ∀ a, k.1 = some a → FrZ w a.block
theorem eqL_step (d : Nat) (xs ys : Array Value) (nm : String) (T : TypeId) (o : Nat) (em : Bool) (tg pk : String) (bo : Nat) (fs : List Field) (x y : Value) (r : Bool) (w : World) (hn : nm ≠ "_") (hx : (part T xs o).run Tryd.prog w = .ok x w) (hy : (part T ys o).run Tryd.prog w = .ok y w) (hr : (Op.equalIn d T x y).run Tryd.prog w = .ok r w) :
    (Op.eqFields d xs ys ({ name := nm, type := T, offset := o, embedded := em, tag := tg, pkgPath := pk, byteOffset := bo } :: fs)).run Tryd.prog w = if r = true then (Op.eqFields d xs ys fs).run Tryd.prog w else .ok false w := by
  rw [Op.eqFields, if_pos hn]
  simp only [Sem.run_bind, hx, hy, hr, Result.andThen_ok]
  cases r
  · simp only [Bool.not_false, if_true, Sem.run_pure]; rfl
  · simp only [Bool.not_true, Bool.false_eq_true, if_false, if_true]
theorem part_ptr (xs : Array Value) (o : Nat) (x : Value) (w : World) (h : xs[o]? = some x) : (part 66 xs o).run Tryd.prog w = .ok x w := by
  unfold part
  simp only [Sem.run_bind, Tryd.isAgg66, Result.andThen_ok]
  simp [h]
theorem part_intR (xs : Array Value) (o : Nat) (x : Value) (w : World) (h : xs[o]? = some x) : (part 3 xs o).run Tryd.prog w = .ok x w := by
  unfold part
  simp only [Sem.run_bind, Tryd.isAgg3, Result.andThen_ok]
  simp [h]
theorem ptr_eqIn (d : Nat) (p q : Option Addr) (w : World) (hp : ∀ a, p = some a → FrZ w a.block) (hq : ∀ a, q = some a → FrZ w a.block) : (Op.equalIn (d + 1) 66 (.pointer p) (.pointer q)).run Tryd.prog w = .ok (decide (p = q)) w := by
  obtain ⟨j, hj, hs⟩ := infoS
  cases p with
  | none => cases q <;> simp [Op.equalIn, run_underlying Tryd.underlying66]
  | some a =>
    cases q with
    | none => simp [Op.equalIn, run_underlying Tryd.underlying66]
    | some b =>
      by_cases e : a = b
      · subst e
        simp [Op.equalIn, run_underlying Tryd.underlying66, sizeOf, typeInfo, hj, run_sameAddr_same]
      · obtain ⟨ca, ta, ha⟩ := hp a rfl
        obtain ⟨cb, tb, hb⟩ := hq b rfl
        simp [Op.equalIn, run_underlying Tryd.underlying66, sizeOf, typeInfo, hj, hs, run_sameAddr_other w e ha hb, e]
theorem kp_eqIn (d : Nat) (a b : Kp) (w : World) (ha : KpF w a) (hb : KpF w b) : (Op.equalIn (d + 2) 68 (kpV a) (kpV b)).run Tryd.prog w = .ok (decide (a = b)) w := by
  unfold kpV
  rw [run_equalIn_agg _ _ _ _ _ Tryd.fieldsList Tryd.heldList, list_fields]
  obtain ⟨p, n⟩ := a
  obtain ⟨q, m⟩ := b
  rw [eqL_step _ _ _ _ _ _ _ _ _ _ _ _ _ _ _ (by decide) (part_ptr _ 0 _ w rfl) (part_ptr _ 0 _ w rfl) (ptr_eqIn d p q w ha hb)]
  rw [eqL_step _ _ _ _ _ _ _ _ _ _ _ _ _ _ _ (by decide) (part_intR _ 1 _ w rfl) (part_intR _ 1 _ w rfl) (run_equalIn_int w d 3 .i64 .i64 (n : Int) (m : Int) Tryd.underlying3)]
  unfold Op.eqFields
  by_cases h1 : p = q <;> by_cases h2 : n = m
  · simp [h1, h2, Sem.run_pure]
  · have : ¬ (n : Int) = (m : Int) := by omega
    simp [h1, h2, this]
  · simp [h1, h2]
  · simp [h1, h2]
theorem part_list (a b : Kp) (o : Nat) (x : Kp) (w : World) (h : (o = 0 ∧ x = a) ∨ (o = 2 ∧ x = b)) : (part 68 #[.pointer a.1, .int .i64 (a.2 : Int), .pointer b.1, .int .i64 (b.2 : Int)] o).run Tryd.prog w = .ok (kpV x) w := by
  unfold part
  simp only [Sem.run_bind, Tryd.isAgg68, Result.andThen_ok, if_true, Tryd.sizeOf68]
  rcases h with ⟨rfl, rfl⟩ | ⟨rfl, rfl⟩ <;> simp [kpV]
theorem kp2_eqIn (d : Nat) (a b a' b' : Kp) (w : World) (ha : KpF w a) (hb : KpF w b) (ha' : KpF w a') (hb' : KpF w b') : (Op.equalIn (d + 3) 71 (kp2V a b) (kp2V a' b')).run Tryd.prog w = .ok (decide ((a, b) = (a', b'))) w := by
  unfold kp2V
  rw [run_equalIn_agg _ _ _ _ _ Tryd.fieldsLists Tryd.heldLists, lists_fields]
  rw [eqL_step _ _ _ _ _ _ _ _ _ _ _ _ _ _ _ (by decide) (part_list a b 0 a w (.inl ⟨rfl, rfl⟩)) (part_list a' b' 0 a' w (.inl ⟨rfl, rfl⟩)) (kp_eqIn d a a' w ha ha')]
  rw [eqL_step _ _ _ _ _ _ _ _ _ _ _ _ _ _ _ (by decide) (part_list a b 2 b w (.inr ⟨rfl, rfl⟩)) (part_list a' b' 2 b' w (.inr ⟨rfl, rfl⟩)) (kp_eqIn d b b' w hb hb')]
  unfold Op.eqFields
  by_cases h1 : a = a' <;> by_cases h2 : b = b' <;> simp [h1, h2, Sem.run_pure]
theorem kp_check (em : Bool) (d : Nat) (a : Kp) (w : World) : (Instr.checkKey em (d + 2) 68 (kpV a)).run Tryd.prog w = .ok () w := by
  unfold kpV
  rw [Instr.checkKey]
  simp only [Sem.run_bind, run_underlying Tryd.fieldsList, Result.andThen_ok]
  rw [← Array.forIn_toList, list_fields]
  simp [part_ptr _ 0 _ w, part_intR _ 1 _ w, Instr.checkKey, run_underlying Tryd.underlying66, run_underlying Tryd.underlying3]
theorem kp2_check (em : Bool) (d : Nat) (a b : Kp) (w : World) : (Instr.checkKey em (d + 3) 71 (kp2V a b)).run Tryd.prog w = .ok () w := by
  unfold kp2V
  rw [Instr.checkKey]
  simp only [Sem.run_bind, run_underlying Tryd.fieldsLists, Result.andThen_ok]
  rw [← Array.forIn_toList, lists_fields]
  simp [part_list a b 0 a w (.inl ⟨rfl, rfl⟩), part_list a b 2 b w (.inr ⟨rfl, rfl⟩), kp_check]
/-! ### A map as a set of keys -/
/-- The map in block b has just these keys, one by one. -/
def SetM {K : Type} (kv : K → Value) (w : World) (b : Nat) (ks : List K) : Prop :=
  ∃ es clock, w.heap[b]? = some (.map es clock) ∧ es.toList.map (·.key) = ks.map kv ∧ ∀ e, e ∈ es.toList → e.val = .agg #[]
section
variable {K : Type} {kv : K → Value} {w w' : World} {b : Nat} {ks : List K}
theorem SetM.new (w : World) : SetM kv (w.alloc (.map #[] 0)) w.heap.size [] := ⟨#[], 0, heap_alloc_new _ _, rfl, fun e h => by simp at h⟩
theorem SetM.lt (h : SetM kv w b ks) : b < w.heap.size := by
  obtain ⟨_, _, h, _⟩ := h
  exact (Array.getElem?_eq_some_iff.1 h).1
theorem SetM.keep {ok : Nat → Prop} (h : SetM kv w b ks) (hk : KeepW ok w w') (ho : ok b) : SetM kv w' b ks := by
  have hl := h.lt
  obtain ⟨es, clock, h, h2⟩ := h
  exact ⟨es, clock, (hk.same b hl ho).trans h, h2⟩
theorem SetM.under (h : SetM kv w b ks) (hb : Below w.heap.size w w') : SetM kv w' b ks := h.keep (keep_below (fun _ => True) hb) trivial
variable [DecidableEq K]
theorem asking (t : TypeId) (w : World) (x : K) : ∀ (es : List MapEntry) (ks : List K) (i : Nat), es.map (·.key) = ks.map kv → (∀ e, e ∈ es → e.val = .agg #[]) → (∀ k, k ∈ ks → (Op.equal t (kv x) (kv k)).run Tryd.prog w = .ok (decide (x = k)) w) →
    (x ∉ ks → (Instr.findAsking t (kv x) es i).run Tryd.prog w = .ok none w) ∧ (x ∈ ks → ∃ j, (Instr.findAsking t (kv x) es i).run Tryd.prog w = .ok (some (j, .agg #[])) w)
  | [], [], i, _, _, _ => ⟨fun _ => by simp [Instr.findAsking], fun h => by cases h⟩
  | e :: es, k :: ks, i, hk, hv, hq => by
    rw [List.map_cons, List.map_cons, List.cons.injEq] at hk
    have h1 := hq k (by simp)
    rw [← hk.1] at h1
    obtain ⟨a1, a2⟩ := asking t w x es ks (i + 1) hk.2 (fun y hy => hv y (by simp [hy])) (fun y hy => hq y (by simp [hy]))
    have hve := hv e (by simp)
    by_cases hx : x = k
    · rw [decide_eq_true hx] at h1
      exact ⟨fun h => absurd (by simp [hx]) h, fun _ => ⟨i, by simp [Instr.findAsking, h1, hve]⟩⟩
    · rw [decide_eq_false hx] at h1
      refine ⟨fun h => ?_, fun h => ?_⟩
      · simp [Instr.findAsking, h1, a1 (fun h2 => h (by simp [h2]))]
      · rcases List.mem_cons.1 h with h | h
        · exact absurd h hx
        · obtain ⟨j, hj⟩ := a2 h
          exact ⟨j, by simp [Instr.findAsking, h1, hj]⟩
theorem zero_unit (w : World) : (zeroValue 72).run Tryd.prog w = .ok (.agg #[]) w := by kernel_rfl
set_option maxRecDepth 100000 in
theorem set_look (mt kt : TypeId) (hm : Tryd.prog.underlying mt = some (.map kt 72)) (hwide : (match Tryd.prog.underlying kt with | some (.array _ _) | some (.struct _) => true | _ => false) = true)
    (h : SetM kv w b ks) (x : K) (hc : ∀ em, (Instr.checkKey em 10000 kt (kv x)).run Tryd.prog w = .ok () w) (hq : ∀ k, k ∈ ks → (Op.equal kt (kv x) (kv k)).run Tryd.prog w = .ok (decide (x = k)) w) :
    (Instr.lookup mt (.map (some b)) (kv x) true).run Tryd.prog w = .ok (.tuple #[.agg #[], .bool (decide (x ∈ ks))]) w := by
  obtain ⟨es, clock, hb, hk, hv⟩ := h
  obtain ⟨a1, a2⟩ := asking kt w x es.toList ks 0 hk hv hq
  unfold Instr.lookup
  simp only [Sem.run_bind, run_underlying hm, Result.andThen_ok, MapKept.run_getObj_map hb, Sem.run_pure, hc, run_findKey_eq w hwide]
  by_cases hx : x ∈ ks
  · obtain ⟨j, hj⟩ := a2 hx
    simp [hj, hx]
  · simp [a1 hx, hx]
theorem set_look_yes (mt kt : TypeId) (hm : Tryd.prog.underlying mt = some (.map kt 72)) (hwide : (match Tryd.prog.underlying kt with | some (.array _ _) | some (.struct _) => true | _ => false) = true)
    (h : SetM kv w b ks) (x : K) (hx : x ∈ ks) (hc : ∀ em, (Instr.checkKey em 10000 kt (kv x)).run Tryd.prog w = .ok () w) (hq : ∀ k, k ∈ ks → (Op.equal kt (kv x) (kv k)).run Tryd.prog w = .ok (decide (x = k)) w) :
    (Instr.lookup mt (.map (some b)) (kv x) true).run Tryd.prog w = .ok (.tuple #[.agg #[], .bool true]) w := by
  have := set_look mt kt hm hwide h x hc hq
  rw [decide_eq_true hx] at this
  exact this
theorem set_look_no (mt kt : TypeId) (hm : Tryd.prog.underlying mt = some (.map kt 72)) (hwide : (match Tryd.prog.underlying kt with | some (.array _ _) | some (.struct _) => true | _ => false) = true)
    (h : SetM kv w b ks) (x : K) (hx : x ∉ ks) (hc : ∀ em, (Instr.checkKey em 10000 kt (kv x)).run Tryd.prog w = .ok () w) (hq : ∀ k, k ∈ ks → (Op.equal kt (kv x) (kv k)).run Tryd.prog w = .ok (decide (x = k)) w) :
    (Instr.lookup mt (.map (some b)) (kv x) true).run Tryd.prog w = .ok (.tuple #[.agg #[], .bool false]) w := by
  have := set_look mt kt hm hwide h x hc hq
  rw [decide_eq_false hx] at this
  exact this
set_option maxRecDepth 100000 in
theorem set_put (mt kt et : TypeId) (hm : Tryd.prog.underlying mt = some (.map kt et)) (hwide : (match Tryd.prog.underlying kt with | some (.array _ _) | some (.struct _) => true | _ => false) = true)
    (h : SetM kv w b ks) (x : K) (hx : x ∉ ks) (hc : ∀ em, (Instr.checkKey em 10000 kt (kv x)).run Tryd.prog w = .ok () w) (hq : ∀ k, k ∈ ks → (Op.equal kt (kv x) (kv k)).run Tryd.prog w = .ok (decide (x = k)) w) :
    ∃ w', (Instr.mapUpdate mt (.map (some b)) (kv x) (.agg #[])).run Tryd.prog w = .ok () w' ∧ SetM kv w' b (ks ++ [x]) ∧ KeepW (fun k => k ≠ b) w w' := by
  obtain ⟨es, clock, hb, hk, hv⟩ := h
  obtain ⟨a1, _⟩ := asking kt w x es.toList ks 0 hk hv hq
  have hlt : b < w.heap.size := (Array.getElem?_eq_some_iff.1 hb).1
  refine ⟨{ w with heap := w.heap.setIfInBounds b (.map (es.push { key := kv x, val := .agg #[], born := clock }) (clock + 1)) }, ?_, ?_, ?_⟩
  · unfold Instr.mapUpdate
    simp only [Sem.run_bind, run_underlying hm, Result.andThen_ok, MapKept.run_getObj_map hb, hc, run_findKey_eq w hwide, a1 hx, MapKept.run_setObj_map _ hb]
  · refine ⟨_, clock + 1, (MapKept.heap_set hb).1, ?_, fun e he => ?_⟩
    · simp [hk]
    · rw [Array.toList_push] at he
      rcases List.mem_append.1 he with he | he
      · exact hv e he
      · rw [List.mem_singleton.1 he]
  · exact ⟨rfl, rfl, rfl, by show _ ≤ (w.heap.setIfInBounds _ _).size; rw [Array.size_setIfInBounds]; exact Nat.le_refl _, fun k _ hk => (MapKept.heap_set hb).2 k hk⟩
end
end Go.Proofs.YtkopbngnhgdfhaaDoor
