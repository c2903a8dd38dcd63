/-
  Texts of this proof, one behind the other; each begins with its own remark.
-/
import Derived.Great.BuildSlice
import Derived.Test.YtjeomlickkpebaaGreatDoorBe29
import Derived.Test.YtjeomlickkpebaaGreatDoorBe19
import Derived.Test.YtjeomlickkpebaaGreatDoorBe14
import Derived.Test.YtjeomlickkpebaaGreatDoorBe33
/-
  dfas.parted: the lists of those that lead to each state, in memory, each a row of its own, as they grow. No call is walked here.
-/
namespace Go.Proofs.YtjeomlickkpebaaGreatDoor
open Go.RowKit

def updK (bk : Nat → Nat → List Nat) (z b : Nat) (l : List Nat) : Nat → Nat → List Nat := fun z' b' => if z' = z ∧ b' = b then l else bk z' b'
/-- Whose a list's block is. -/
def colK (z b : Nat) : Nat := 10 + (z * 256 + b)
theorem colK_ne {z b z' b' : Nat} (hb : b < 256) (hb' : b' < 256) (h : ¬ (z' = z ∧ b' = b)) : colK z' b' ≠ colK z b := by
  unfold colK
  omega
structure BkC (c : Col) (w : World) (G N : Nat) (bk : Nat → Nat → List Nat) : Prop where
  col : c G = 4
  cel : ∃ (cur : Array Value) (T : TypeId), w.heap[G]? = some (.cells cur T (0, 0)) ∧ ∀ z b, z < N → b < 256 → ∃ u, cur[z * 256 + b]? = some u ∧ RowC c (colK z b) 3 w u (numC (natL (bk z b)))
section
variable {Q : Nat → Prop} {c c' : Col} {w w' : World} {G N z b : Nat} {bk bk' : Nat → Nat → List Nat} {v : Value} {l : List Nat}
theorem BkC.lt (h : BkC c w G N bk) : G < w.heap.size := by
  obtain ⟨cur, T, h1, _⟩ := h.cel
  exact (Array.getElem?_eq_some_iff.1 h1).1
theorem BkC.frozen (h : BkC c w G N bk) (i : Nat) : w.frozen? ⟨G, i, none⟩ = false := by
  obtain ⟨cur, T, h1, _⟩ := h.cel
  exact frozen_of_row w G i cur _ h1
theorem BkC.at_ (h : BkC c w G N bk) (hz : z < N) (hb : b < 256) : ∃ u, w.cell? ⟨G, z * 256 + b, none⟩ = some u ∧ RowC c (colK z b) 3 w u (numC (natL (bk z b))) := by
  obtain ⟨cur, T, h1, h2⟩ := h.cel
  obtain ⟨u, h3, h4⟩ := h2 z b hz hb
  exact ⟨u, by rw [cell_of_row w G _ cur _ (0, 0) h1]; exact h3, h4⟩
theorem BkC.congr (h : BkC c w G N bk) (he : ∀ z b, z < N → b < 256 → bk z b = bk' z b) : BkC c w G N bk' := by
  obtain ⟨cur, T, h1, h2⟩ := h.cel
  refine ⟨h.col, cur, T, h1, fun z b hz hb => ?_⟩
  obtain ⟨u, h3, h4⟩ := h2 z b hz hb
  exact ⟨u, h3, by rw [← he z b hz hb]; exact h4⟩
theorem BkC.step (h : BkC c w G N bk) (hs : StepC Q c c' w w') (h4 : ¬ Q 4) (hK : ∀ z b, ¬ Q (colK z b)) : BkC c' w' G N bk := by
  have hl := h.lt
  obtain ⟨cur, T, h1, h2⟩ := h.cel
  refine ⟨by rw [hs.same G hl]; exact h.col, cur, T, (hs.keep.same G hl (by rw [h.col]; exact h4)).trans h1, fun z b hz hb => ?_⟩
  obtain ⟨u, h5, h6⟩ := h2 z b hz hb
  exact ⟨u, h5, h6.step hs (hK z b)⟩
/-- Another list is laid at one place. -/
theorem BkC.put (hf : Fresh0 c w) (h : BkC c w G N bk) (hb : b < 256) (hv : RowC c (colK z b) 3 w v (numC (natL l))) :
    StepC (fun a => a = 4) c c w (w.setCell ⟨G, z * 256 + b, none⟩ v) ∧ BkC c (w.setCell ⟨G, z * 256 + b, none⟩ v) G N (updK bk z b l) := by
  have hs : StepC (fun a => a = 4) c c w (w.setCell ⟨G, z * 256 + b, none⟩ v) := by
    have := stepc_set (B := G) (i := z * 256 + b) (y := v) hf
    rwa [h.col] at this
  have hk : ∀ z b, ¬ colK z b = 4 := fun z b => by unfold colK; omega
  refine ⟨hs, h.col, ?_⟩
  obtain ⟨cur, T, h1, h2⟩ := h.cel
  refine ⟨cur.setIfInBounds (z * 256 + b) v, T, heap_setCell_same w G _ cur _ _ h1, fun z' b' hz' hb' => ?_⟩
  obtain ⟨u, h5, h6⟩ := h2 z' b' hz' hb'
  have hlt := (Array.getElem?_eq_some_iff.1 h5).1
  unfold updK
  rw [Array.getElem?_setIfInBounds]
  by_cases e : z' = z ∧ b' = b
  · obtain ⟨rfl, rfl⟩ := e
    rw [if_pos rfl, if_pos hlt, if_pos ⟨rfl, rfl⟩]
    exact ⟨v, rfl, hv.step hs (hk _ _)⟩
  · rw [if_neg (fun q => e (by omega)), if_neg e]
    exact ⟨u, h5, h6.step hs (hk _ _)⟩
/-- A list of one. -/
theorem BkC.one (hf : Fresh0 c w) (h : BkC c w G N bk) (hb : b < 256) (x : Nat) :
    ∃ c', StepC (fun a => a = 4) c c' w ((w.alloc (.cells #[.int .i64 (x : Int)] 3)).setCell ⟨G, z * 256 + b, none⟩ (.slice (some ⟨w.heap.size, 0, none⟩) 1 1)) ∧ BkC c' ((w.alloc (.cells #[.int .i64 (x : Int)] 3)).setCell ⟨G, z * 256 + b, none⟩ (.slice (some ⟨w.heap.size, 0, none⟩) 1 1)) G N (updK bk z b [x]) := by
  have s1 : StepC (fun a => a = 4) c (colAt c (colK z b) w.heap.size) w (w.alloc (.cells #[.int .i64 (x : Int)] 3)) := StepC.colAt hf _
  have s0 : StepC (fun _ => False) c (colAt c (colK z b) w.heap.size) w (w.alloc (.cells #[.int .i64 (x : Int)] 3)) := StepC.colAt hf _
  have h1 := h.step s0 (fun e => e) (fun _ _ e => e)
  obtain ⟨s2, h2⟩ := h1.put (z := z) (b := b) (l := [x]) s1.fresh hb (RowC.one (c := c) (w := w) (A := colK z b) (T := 3) (u := .int .i64 (x : Int)))
  exact ⟨_, s1.trans s2, h2⟩
/-- A list grows by one. -/
theorem BkC.push (hf : Fresh0 c w) (h : BkC c w G N bk) (hz : z < N) (hb : b < 256) (k : Nat) (hl : (bk z b).length ≤ 100000) :
    ∃ ao0 cap0, w.cell? ⟨G, z * 256 + b, none⟩ = some (.slice ao0 (bk z b).length cap0) ∧ ∃ ao cap w2, (Builtin.append_ #[39, 39] 39 #[.slice ao0 (bk z b).length cap0, .slice (some ⟨w.heap.size, 0, none⟩) 1 1]).run Tryz.prog (w.alloc (.cells #[.int .i64 (k : Int)] 3)) = .ok (.slice ao ((bk z b).length + 1) cap) w2 ∧
      w2.frozen? ⟨G, z * 256 + b, none⟩ = false ∧ G < w2.heap.size ∧ w2.cell? ⟨G, z * 256 + b, none⟩ = some (.slice ao0 (bk z b).length cap0) ∧
      ∃ c', StepC (fun a => 4 ≤ a ∧ a ≠ 5) c c' w (w2.setCell ⟨G, z * 256 + b, none⟩ (.slice ao ((bk z b).length + 1) cap)) ∧ BkC c' (w2.setCell ⟨G, z * 256 + b, none⟩ (.slice ao ((bk z b).length + 1) cap)) G N (updK bk z b (bk z b ++ [k])) := by
  obtain ⟨u, hu, hr⟩ := h.at_ hz hb
  have hlen : (numC (natL (bk z b))).length = (bk z b).length := by rw [numC_len, natL_len]
  obtain ⟨ao0, cap0, rfl, _⟩ := hr.form
  rw [hlen] at hu
  obtain ⟨ao, cap, w2, c2, h1, h2, h3⟩ := RowC.pushA (z := .int .i64 0) (b := 8) (u := .int .i64 (k : Int)) hf hr 39 39 Tryz.underlying39 Tryz.infoIntN rfl (by decide) rfl (by rw [hlen]; exact hl)
  rw [hlen] at h1 h2
  rw [← natL_snoc] at h2
  have hG := h.lt
  obtain ⟨cur, T, e1, e2⟩ := h.cel
  have hG2 : w2.heap[G]? = some (.cells cur T (0, 0)) := (h3.keep.same G hG (by rw [h.col]; unfold colK; omega)).trans e1
  have cG2 : c2 G = 4 := by rw [h3.same G hG]; exact h.col
  have hs2 : StepC (fun a => a = 4) c2 c2 w2 (w2.setCell ⟨G, z * 256 + b, none⟩ (.slice ao ((bk z b).length + 1) cap)) := by
    have := stepc_set (B := G) (i := z * 256 + b) (y := .slice ao ((bk z b).length + 1) cap) h3.fresh
    rwa [cG2] at this
  have hk : ∀ z b, ¬ colK z b = 4 := fun z b => by unfold colK; omega
  obtain ⟨u0, hu0, hr0⟩ := e2 z b hz hb
  refine ⟨ao0, cap0, hu, ao, cap, w2, h1, frozen_of_row w2 G _ cur _ hG2, (Array.getElem?_eq_some_iff.1 hG2).1, ?_, c2, (h3.mono fun a e => by subst e; unfold colK; omega).trans (hs2.mono fun a e => by subst e; omega), cG2, cur.setIfInBounds (z * 256 + b) (.slice ao ((bk z b).length + 1) cap), T, heap_setCell_same w2 G _ cur _ _ hG2, fun z' b' hz' hb' => ?_⟩
  · rw [cell_of_row w2 G _ cur _ (0, 0) hG2]
    rw [cell_of_row w G _ cur _ (0, 0) e1] at hu
    exact hu
  obtain ⟨u, h5, h6⟩ := e2 z' b' hz' hb'
  have hlt := (Array.getElem?_eq_some_iff.1 h5).1
  unfold updK
  rw [Array.getElem?_setIfInBounds]
  by_cases e : z' = z ∧ b' = b
  · obtain ⟨rfl, rfl⟩ := e
    rw [if_pos rfl, if_pos hlt, if_pos ⟨rfl, rfl⟩]
    exact ⟨_, rfl, h2.step hs2 (hk _ _)⟩
  · rw [if_neg (fun q => e (by omega)), if_neg e]
    exact ⟨u, h5, (h6.step h3 (colK_ne hb hb' e)).step hs2 (hk _ _)⟩
/-- All lists are made: they are nobody's. -/
theorem BkC.done (h : BkC c w G N bk) : BackW (fun _ => 0) w G N bk := by
  refine ⟨rfl, h.lt, fun z b hz hb => ?_⟩
  obtain ⟨u, h1, h2⟩ := h.at_ hz hb
  exact ⟨u, h1, h2.rowZ.mono fun _ _ _ => rfl⟩
end
def zeroW : List Value := List.replicate 256 (.slice none 0 0)
theorem Tryz.infoWays : (Tryz.prog.info? 127).map (fun i => (i.zero, i.size, i.bytes)) = some (some (.agg zeroW.toArray), 256, 6144) := by kernel_rfl
end Go.Proofs.YtjeomlickkpebaaGreatDoor

/-
  dfas.DFA as it is built, in memory: a row of states that grows. No call is walked here.
-/
namespace Go.Proofs.YtjeomlickkpebaaGreatDoor
open Go.RowKit

/-- A slice of one state. -/
theorem run_buildD {arr : Array Value} (h : arr.size = 257) (W : World) : (Instr.buildSlice 61 1 #[(0, .agg arr)]).run Tryz.prog W = .ok (.slice (some ⟨W.heap.size, 0, none⟩) 1 1) (W.alloc (.cells arr 92)) := by
  obtain ⟨ie, h1, h2, h3, _⟩ := info_of Tryz.infoStD
  refine run_buildSlice W 61 92 1 #[(0, .agg arr)] arr ie _ Tryz.underlying61 h1 h2 (by rw [h3]; decide) (by rw [h3]; decide) ?_
  rw [h3]
  have hz : ((Value.agg zeroD.toArray).cells).size = 257 := by show zeroD.toArray.size = 257; rw [List.size_toArray, zeroD_len]
  have := Great.fill_whole (s := 257) (by decide) [.agg arr] ((Array.range (1 * 257)).map ((Value.agg zeroD.toArray).cells[· % (Value.agg zeroD.toArray).cells.size]!)) (fun v hv => by rw [List.mem_singleton.1 hv]; exact h) (by rw [Array.size_map, Array.size_range]; rfl)
  have e : ([Value.agg arr].flatMap fun v => v.cells.toList).toArray = arr := by
    show (arr.toList ++ []).toArray = arr
    rw [List.append_nil]
  rw [e] at this
  exact this
theorem dbuild_step {w : World} {arr : Array Value} {ops : Array Oper} {o : Oper} {a : Act} {K : Act → World → Prop} {Q : Exit → Act → World → Prop} {E : Prop} (h : arr.size = 257) (hgd : o.guard = none) (x : Operand)
    (ho : o.op = .buildSlice 61 1 #[(0, x)]) (hx : a.eval x = .agg arr) (hk : K (a.put o.dst (.slice (some ⟨w.heap.size, 0, none⟩) 1 1)) (w.alloc (.cells arr 92))) :
    if Region.wanted o (yielded ops a.tmps) = true then Oper.wp Tryz.prog o a w K Q else E := by
  have hw : Region.wanted o (yielded ops a.tmps) = true := by simp [Region.wanted, hgd]
  rw [if_pos hw]
  unfold Oper.wp execOp
  simp only [ho, Sem.run_bind, Sem.run_pure, Result.andThen_ok, List.map_toArray, List.map_cons, List.map_nil, hx, run_buildD h]
  exact hk
structure DfC (c : Col) (w : World) (D : Nat) (sv : Value) (q : List (List Int × Int)) : Prop where
  box : w.heap[D]? = some (.cells #[sv] 63 (0, 0))
  cD : c D = 2
  own : w.ownsRow 0 92 257 sv q.length (stasD q)
  col : ∀ k, sv.ownBlock = some k → c k = 2
  ne : sv.ownBlock ≠ some D
  wide : W256 q
section
variable {S : Nat → Prop} {c c' : Col} {w w' : World} {D : Nat} {sv : Value} {q : List (List Int × Int)} {s : List Int × Int}
theorem DfC.lt (h : DfC c w D sv q) : D < w.heap.size := (Array.getElem?_eq_some_iff.1 h.box).1
theorem DfC.cell (h : DfC c w D sv q) : w.cell? ⟨D, 0, none⟩ = some sv ∧ w.frozen? ⟨D, 0, none⟩ = false := by
  have := h.box
  exact ⟨by rw [cell_of_row w D 0 _ _ (0, 0) this]; rfl, frozen_of_row w D 0 _ _ this⟩
theorem DfC.form (h : DfC c w D sv q) : ∃ ao cap, sv = .slice ao q.length cap ∧ q.length ≤ cap := by
  obtain ⟨ao, cap, hv, hn, _⟩ := ownZ h.own
  exact ⟨ao, cap, hv, hn⟩
theorem DfC.step (h : DfC c w D sv q) (hs : StepC S c c' w w') (h2 : ¬ S 2) : DfC c' w' D sv q :=
  ⟨(hs.keep.same D h.lt (by rw [h.cD]; exact h2)).trans h.box, by rw [hs.same _ h.lt]; exact h.cD, ownRow_keep h.own hs.keep fun k e => by rw [h.col k e]; exact h2, fun k e => by rw [hs.same k (World.ownsRow.lt h.own k e).2]; exact h.col k e, h.ne, h.wide⟩
/-- A state more: the row, the box. -/
theorem DfC.push (hf : Fresh0 c w) (h : DfC c w D sv q) (hs : s.1.length = 256) (hq : q.length ≤ 100000) :
    ∃ ao cap w2, (Builtin.append_ #[61, 61] 61 #[sv, .slice (some ⟨w.heap.size, 0, none⟩) 1 1]).run Tryz.prog (w.alloc (.cells (staD s).toArray 92)) = .ok (.slice ao (q.length + 1) cap) w2 ∧ D < w2.heap.size ∧ w2.frozen? ⟨D, 0, none⟩ = false ∧ w2.cell? ⟨D, 0, none⟩ = some sv ∧
      ∃ c', StepC (fun a => a = 2) c c' w (w2.setCell ⟨D, 0, none⟩ (.slice ao (q.length + 1) cap)) ∧ DfC c' (w2.setCell ⟨D, 0, none⟩ (.slice ao (q.length + 1) cap)) D (.slice ao (q.length + 1) cap) (q ++ [s]) := by
  have hba := alloc_under w (.cells (staD s).toArray 92)
  have hsa := alloc_size w (.cells (staD s).toArray 92)
  have hcx : ∀ (j : Nat) x, (staD s)[j]? = some x → (w.alloc (.cells (staD s).toArray 92)).cell? ⟨w.heap.size, j, none⟩ = some x := fun j x hx => by
    rw [cell_of_row _ _ j _ _ (0, 0) (heap_alloc_new w _), List.getElem?_toArray]
    exact hx
  have hA := h.step (S := fun _ => False) (StepC.below hf hba) (fun e => e)
  obtain ⟨W, hW⟩ : ∃ W, w.alloc (.cells (staD s).toArray 92) = W := ⟨_, rfl⟩
  rw [hW] at hba hsa hcx hA ⊢
  obtain ⟨i0, hi1, hz0, hz1, hz2⟩ := info_of Tryz.infoStD
  obtain ⟨v', w2, hr, hown', hgr, _, hat⟩ := run_append_own_at (P := Tryz.prog) W 0 61 61 92 i0 (.agg zeroD.toArray) 257 2056 Tryz.underlying61 hi1 hz0 hz1 hz2 (by show zeroD.toArray.size = 257; rw [List.size_toArray, zeroD_len]) (by decide) sv q.length (stasD q) hA.own ⟨w.heap.size, 0, none⟩ 1 1 (staD s) (by rw [staD_len hs]) (fun j x hx => by
    rw [rlit, Nat.zero_add]
    exact hcx j x hx) staD_one (by unfold maxLen; omega) (by omega) (Nat.zero_le _)
  have hkeep : KeepW (fun k => sv.ownBlock ≠ some k) W w2 := ⟨hgr.os, hgr.tape, hgr.output, hgr.size, fun k hk hne => hgr.block k hk fun e => hne e.symm⟩
  obtain ⟨ao, cap, rfl, _⟩ := ownZ hown'
  have hbox2 : w2.heap[D]? = some (.cells #[sv] 63 (0, 0)) := (hkeep.same D hA.lt hA.ne).trans hA.box
  have hD2 : D < w2.heap.size := Nat.lt_of_lt_of_le hA.lt hkeep.size
  have hneD : (Value.slice ao (q.length + 1) cap).ownBlock ≠ some D := fun e => by
    rcases hat with hat | hat
    · exact h.ne (by rw [← hat]; exact e)
    · rw [hat] at e
      have := hA.lt
      have e2 : W.heap.size = D := Option.some.inj e
      omega
  obtain ⟨c2, hc2⟩ : ∃ c2 : Col, c2 = fun k => if k = W.heap.size ∧ (Value.slice ao (q.length + 1) cap).ownBlock = some k then 2 else c k := ⟨_, rfl⟩
  have hold : ∀ k, k < W.heap.size → c2 k = c k := fun k hk => by rw [hc2]; exact if_neg (by omega)
  have hs2 : StepC (fun a => a = 2) c c2 W w2 := ⟨hkeep.mono fun k _ hk e => hk (h.col k e), hold, fun k hk => by
    rw [hc2]
    show (if _ then 2 else c k) = 0
    rw [if_neg ?_]
    · exact hf k (by have := hkeep.size; have := hba.size; omega)
    · rintro ⟨rfl, e⟩
      have := (World.ownsRow.lt hown' _ e).2
      omega⟩
  have hset := stepc_set (B := D) (i := 0) (y := .slice ao (q.length + 1) cap) hs2.fresh
  have hcD2 : c2 D = 2 := by rw [hold D hA.lt]; exact h.cD
  rw [hcD2] at hset
  refine ⟨ao, cap, w2, hr, hD2, frozen_of_row w2 D 0 _ _ hbox2, by rw [cell_of_row w2 D 0 _ _ (0, 0) hbox2]; rfl, c2, ((StepC.below hf hba).trans hs2).trans hset, ?_⟩
  refine ⟨?_, hcD2, ?_, fun k e => ?_, hneD, fun t ht => ?_⟩
  · rw [heap_setCell_same w2 D 0 _ _ _ hbox2]
    rfl
  · rw [List.length_append, stasD_app]
    show (w2.setCell _ _).ownsRow 0 _ 257 _ _ (stasD q ++ (staD s ++ []))
    rw [List.append_nil]
    exact ownRow_keep hown' (keep_set (ok := fun k => k ≠ D) D 0 none _ w2 fun h => h rfl) fun k e ek => hneD (by rw [← ek]; exact e)
  · rcases hat with hat | hat
    · have h2 : sv.ownBlock = some k := by rw [← hat]; exact e
      rw [hold k (by have := (World.ownsRow.lt hA.own k h2).2; exact this)]
      exact h.col k h2
    · have e2 : k = W.heap.size := by rw [hat] at e; exact (Option.some.inj e).symm
      rw [hc2]
      exact if_pos ⟨e2, e⟩
  · rcases List.mem_append.1 ht with ht | ht
    · exact h.wide t ht
    · rw [List.mem_singleton.1 ht]; exact hs
theorem zip_maps : ∀ (q : List (List Int × Int)), (q.map (·.1)).zip (q.map (·.2)) = q
  | [] => rfl
  | s :: q => by rw [List.map_cons, List.map_cons, List.zip_cons_cons, zip_maps q]
/-- A table that is built is read. -/
theorem DfC.read (h : DfC c w D sv q) (hq : q.length ≤ 2000) (hlow : ∀ s, s ∈ q → (∀ x, x ∈ s.1 → -1 ≤ x) ∧ -1 ≤ s.2) : DfV w (.pointer (some ⟨D, 0, none⟩)) ⟨q.map (·.1), q.map (·.2)⟩ := by
  have hn : (⟨q.map (·.1), q.map (·.2)⟩ : Dfa).n = q.length := List.length_map _
  refine ⟨by rw [hn]; exact hq, by rw [hn]; exact List.length_map _, fun r hr => ?_, fun r hr x hx => ?_, fun x hx => ?_, .inr ⟨D, sv, rfl, h.cell.1, ?_⟩⟩
  · obtain ⟨s, hs, rfl⟩ := List.mem_map.1 hr
    exact h.wide s hs
  · obtain ⟨s, hs, rfl⟩ := List.mem_map.1 hr
    exact (hlow s hs).1 x hx
  · obtain ⟨s, hs, rfl⟩ := List.mem_map.1 hx
    exact (hlow s hs).2
  · rw [hn]
    show RowZ _ w sv q.length (stasD ((q.map (·.1)).zip (q.map (·.2))))
    rw [zip_maps]
    exact (ownZ h.own).mono fun _ _ _ => trivial
end
end Go.Proofs.YtjeomlickkpebaaGreatDoor

/-
  limnerref12: a square of truths, in memory as it is made and filled. No call is walked here.
-/
namespace Go.Proofs.YtjeomlickkpebaaGreatDoor
open Go.RowKit

/-! ### How many are left -/
/-! ### The square -/
/-- A square of N rows; m of them are made; what stands in them. -/
structure MatP (w0 w : World) (N O : Nat) (us : List Value) (m : Nat) (A : Nat → Nat → Bool) : Prop where
  bel : Below w0.heap.size w0 w
  new : w0.heap.size ≤ O
  ob : w.heap[O]? = some (.cells us.toArray 46 (0, 0))
  len : us.length = N
  row : ∀ i, i < m → ∃ G M, us[i]? = some (.slice (some ⟨G, 0, none⟩) N N) ∧ blkM w G M ∧ M.length = N ∧ G ≠ O ∧ w0.heap.size ≤ G ∧ ∀ k, k < N → M.getD k false = A i k
  inj : ∀ i j G, i < m → j < m → us[i]? = some (.slice (some ⟨G, 0, none⟩) N N) → us[j]? = some (.slice (some ⟨G, 0, none⟩) N N) → i = j
section
variable {w0 w w' : World} {N O m : Nat} {us : List Value} {A : Nat → Nat → Bool}
theorem MatP.lt (h : MatP w0 w N O us m A) : O < w.heap.size := (Array.getElem?_eq_some_iff.1 h.ob).1
theorem MatP.under (h : MatP w0 w N O us m A) (hb : Below w.heap.size w w') : MatP w0 w' N O us m A := by
  refine ⟨h.bel.trans (hb.mono h.bel.size), h.new, (hb.block O h.lt).trans h.ob, h.len, fun i hi => ?_, h.inj⟩
  obtain ⟨G, M, h1, h2, h3⟩ := h.row i hi
  exact ⟨G, M, h1, h2.keep (keep_below (fun _ => True) hb) trivial, h3⟩
/-- The cells on the way to one of them. -/
theorem MatP.at_ (h : MatP w0 w N O us m A) {i k : Nat} (hi : i < m) (hk : k < N) : ∃ G, w.cell? ⟨O, i, none⟩ = some (.slice (some ⟨G, 0, none⟩) N N) ∧ w.cell? ⟨G, k, none⟩ = some (.bool (A i k)) ∧ w.frozen? ⟨G, k, none⟩ = false ∧ G < w.heap.size := by
  obtain ⟨G, M, h1, h2, h3, h4, h5, h6⟩ := h.row i hi
  refine ⟨G, ?_, ?_, h2.frozen k, h2.lt⟩
  · rw [cell_of_row w O i _ _ (0, 0) h.ob, List.getElem?_toArray]
    exact h1
  · rw [h2.at_ (by omega) false, h6 k hk]
/-- One is written. -/
theorem MatP.set (h : MatP w0 w N O us m A) {i k G : Nat} (hi : i < m) (hk : k < N) (hG : w.cell? ⟨O, i, none⟩ = some (.slice (some ⟨G, 0, none⟩) N N)) (b : Bool) : MatP w0 (w.setCell ⟨G, k, none⟩ (.bool b)) N O us m (fun i' k' => if i' = i ∧ k' = k then b else A i' k') := by
  rw [cell_of_row w O i _ _ (0, 0) h.ob, List.getElem?_toArray] at hG
  obtain ⟨G2, M, h1, h2, h3, h4, h5, h6⟩ := h.row i hi
  rw [hG] at h1
  have e : G = G2 := by
    injection h1 with h1
    injection h1 with h1
    injection h1 with h1
    injection h1
  subst e
  have hkp : KeepW (fun x => x ≠ G) w (w.setCell ⟨G, k, none⟩ (.bool b)) := keep_set G k none _ w fun h => h rfl
  refine ⟨KeepW.below h.bel hkp h.bel.size fun x hx e => by omega, h.new, (hkp.same O h.lt h4.symm).trans h.ob, h.len, fun i' hi' => ?_, h.inj⟩
  by_cases c : i' = i
  · subst c
    refine ⟨G, M.set k b, hG, h2.set k b, by rw [List.length_set]; exact h3, h4, h5, fun k' hk' => ?_⟩
    rw [List.getD_eq_getElem?_getD, List.getElem?_set]
    by_cases c2 : k = k'
    · subst c2
      rw [if_pos rfl, if_pos (by omega)]
      simp
    · rw [if_neg c2, if_neg (fun e => c2 e.2.symm), ← List.getD_eq_getElem?_getD]
      exact h6 k' hk'
  · obtain ⟨G', M', g1, g2, g3, g4, g5, g6⟩ := h.row i' hi'
    have hne : G' ≠ G := fun e => c (h.inj i' i G hi' hi (by rw [← e]; exact g1) hG)
    exact ⟨G', M', g1, g2.keep hkp hne, g3, g4, g5, fun k' hk' => by rw [if_neg (fun e => c e.1)]; exact g6 k' hk'⟩
end
/-- A square that is read. -/
def MatR (w : World) (O N : Nat) (A : Nat → Nat → Bool) : Prop := ∀ i, i < N → ∃ G, w.cell? ⟨O, i, none⟩ = some (.slice (some ⟨G, 0, none⟩) N N) ∧ ∀ k, k < N → w.cell? ⟨G, k, none⟩ = some (.bool (A i k))
theorem MatR.below {w w' : World} {O N : Nat} {A : Nat → Nat → Bool} (h : MatR w O N A) (hb : Below w.heap.size w w') : MatR w' O N A := fun i hi => by
  obtain ⟨G, h1, h2⟩ := h i hi
  have hk := keep_below (fun _ => True) hb
  exact ⟨G, hk.cell h1 trivial, fun k hk2 => hk.cell (h2 k hk2) trivial⟩
theorem MatP.read {w0 w : World} {N O : Nat} {us : List Value} {A : Nat → Nat → Bool} (h : MatP w0 w N O us N A) : MatR w O N A := fun i hi => by
  obtain ⟨G, M, h1, h2, h3, _, _, h6⟩ := h.row i hi
  refine ⟨G, ?_, fun k hk => ?_⟩
  · rw [cell_of_row w O i _ _ (0, 0) h.ob, List.getElem?_toArray]
    exact h1
  · rw [h2.at_ (by omega) false, h6 k hk]
end Go.Proofs.YtjeomlickkpebaaGreatDoor

/-
  What lies in memory while limnerref11.lay goes over kids: the part so far, and a kid's. No call is walked here.
-/
namespace Go.Proofs.YtjeomlickkpebaaGreatDoor
open Go.RowKit

/-- The part so far, in its box. -/
structure PaI (X : Nat → Prop) (w0 w : World) (R : Nat) (sv0 sv bv lv : Value) (S : List St4) (m : Nat) (E : Nat → Nat → Bool) (b : Nat) (n : Nd) (u : Value) (z : Bool) (fV lV : Value) (gf gl : Nat → Bool) : Prop where
  l : LayF (fun k => X k ∨ k = b + 3) w0 w R sv0 sv bv lv S m E b n u
  bx : boxP w (b + 3) (.bool z) fV lV
  f : BolO (AccO R sv bv b) w fV m gf
  la : BolO (AccO R sv bv b) w lV m gl
  no : ¬ OwnR R sv bv (b + 3)
/-- A kid's part, in its box. -/
structure KiI (w : World) (R : Nat) (sv bv : Value) (b m c : Nat) (z : Bool) (fV lV : Value) (gf gl : Nat → Bool) : Prop where
  bx : boxP w c (.bool z) fV lV
  f : BolO (AccO R sv bv b) w fV m gf
  la : BolO (AccO R sv bv b) w lV m gl
  no : ¬ OwnR R sv bv c
  ne : b + 3 < c
section
variable {X : Nat → Prop} {w0 w w' : World} {R m b c : Nat} {sv0 sv sv' bv lv u fV lV kf kl : Value} {S S' : List St4} {E E' : Nat → Nat → Bool} {n : Nd} {z kz : Bool} {gf gl qf ql : Nat → Bool}
theorem PaI.go (h : PaI X w0 w R sv0 sv bv lv S m E b n u z fV lV gf gl) (hr : RulW (fun k => (X k ∨ k = b + 3) ∨ b ≤ k ∧ k < b + 3) w' R sv' bv lv S' m E') (hg : Gone (OwnR R sv bv) (OwnR R sv' bv) w w') : PaI X w0 w' R sv0 sv' bv lv S' m E' b n u z fV lV gf gl :=
  ⟨h.l.go hr hg, (h.bx.go h.no hg).1, h.f.acc hg, h.la.acc hg, (h.bx.go h.no hg).2⟩
theorem PaI.under (h : PaI X w0 w R sv0 sv bv lv S m E b n u z fV lV gf gl) (hb : Below w.heap.size w w') : PaI X w0 w' R sv0 sv bv lv S m E b n u z fV lV gf gl := h.go (h.l.r.under hb) (Gone.of_below hb)
theorem KiI.go (h : KiI w R sv bv b m c z fV lV gf gl) (hg : Gone (OwnR R sv bv) (OwnR R sv' bv) w w') : KiI w' R sv' bv b m c z fV lV gf gl :=
  ⟨(h.bx.go h.no hg).1, h.f.acc hg, h.la.acc hg, (h.bx.go h.no hg).2, h.ne⟩
theorem KiI.under (h : KiI w R sv bv b m c z fV lV gf gl) (hb : Below w.heap.size w w') : KiI w' R sv bv b m c z fV lV gf gl := h.go (Gone.of_below hb)
/-- A kid's answer, as its box is laid. -/
theorem KiI.new (hw : PaI X w0 w R sv0 sv bv lv S m E b n u z fV lV gf gl) (hf : BolO (AccO R sv bv b) w kf m qf) (hl : BolO (AccO R sv bv b) w kl m ql) : KiI (w.alloc (.cells #[.bool kz, kf, kl] 109)) R sv bv b m w.heap.size kz kf kl qf ql :=
  have hb := alloc_under w (.cells #[.bool kz, kf, kl] 109)
  ⟨box3.new _ _ _ _ _, hf.under hb, hl.under hb, hw.l.r.ownlt _ (Nat.le_refl _), hw.bx.lt⟩
end
end Go.Proofs.YtjeomlickkpebaaGreatDoor
