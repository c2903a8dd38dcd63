/-
  limnerref11 in memory: rows of truths; a rule as it is made. No call is walked here.
-/
import Derived.Test.YtkopbngnhgdfhaaDoorBe13
import Derived.Test.YtkopbngnhgdfhaaDoorBe9
import Derived.Test.YtkopbngnhgdfhaaDoorBe15
namespace Go.Proofs.YtkopbngnhgdfhaaDoor
open Go.RowKit

/-- A row's truths. -/
def bolL (f : Nat → Bool) : Nat → List Bool
  | 0 => []
  | m + 1 => bolL f m ++ [f m]
theorem bol_len (f : Nat → Bool) : ∀ m, (bolL f m).length = m
  | 0 => rfl
  | m + 1 => by rw [bolL, List.length_append, bol_len f m]; rfl
theorem bol_at (f : Nat → Bool) : ∀ m i, i < m → (bolL f m).getD i false = f i
  | m + 1, i, h => by
    rw [bolL, List.getD_eq_getElem?_getD]
    by_cases e : i < m
    · rw [List.getElem?_append_left (by rw [bol_len]; exact e), ← List.getD_eq_getElem?_getD, bol_at f m i e]
    · have : i = m := by omega
      subst this
      rw [List.getElem?_append_right (by rw [bol_len]; exact Nat.le_refl _), bol_len, Nat.sub_self]; rfl
theorem bol_ext {l : List Bool} {f : Nat → Bool} {m : Nat} (hl : l.length = m) (h : ∀ i, i < m → l.getD i false = f i) : l = bolL f m := by
  apply List.ext_getElem?
  intro i
  by_cases hi : i < m
  · have h1 := h i hi
    have h2 := bol_at f m i hi
    rw [List.getD_eq_getElem?_getD, List.getElem?_eq_getElem (by omega)] at h1
    rw [List.getD_eq_getElem?_getD, List.getElem?_eq_getElem (by rw [bol_len]; exact hi)] at h2
    rw [List.getElem?_eq_getElem (by omega), List.getElem?_eq_getElem (by rw [bol_len]; exact hi)]
    simp only [Option.getD_some] at h1 h2
    rw [h1, h2]
  · rw [List.getElem?_eq_none (by omega), List.getElem?_eq_none (by rw [bol_len]; omega)]
theorem bol_none (m : Nat) : noneB m = bolL noF m := bol_ext (noneB_len m) fun i _ => noneB_get m i
theorem bol_congr {f g : Nat → Bool} {m : Nat} (h : ∀ i, i < m → f i = g i) : bolL f m = bolL g m := bol_ext (bol_len f m) fun i hi => by rw [bol_at f m i hi, h i hi]

/-- A slice of m truths, in a block that is not of 'own'. -/
def BolO (own : Nat → Prop) (w : World) (v : Value) (m : Nat) (f : Nat → Bool) : Prop :=
  0 < m ∧ ∃ g cap, v = .slice (some ⟨g, 0, none⟩) m cap ∧ m ≤ cap ∧ ¬ own g ∧ ∀ j, j < m → w.cell? ⟨g, j, none⟩ = some (.bool (f j))
/-- What may have changed: blocks of 'own'; what is own now was so, or is new. -/
structure Gone (own own' : Nat → Prop) (w w' : World) : Prop where
  keep : KeepW (fun k => ¬ own k) w w'
  new : ∀ k, own' k → own k ∨ w.heap.size ≤ k
section
variable {own own' own'' : Nat → Prop} {w w' w'' : World} {v : Value} {m : Nat} {f g : Nat → Bool}
theorem Gone.refl (own : Nat → Prop) (w : World) : Gone own own w w := ⟨KeepW.refl _ _, fun _ h => .inl h⟩
theorem Gone.of_below (h : Below w.heap.size w w') : Gone own own w w' := ⟨keep_below _ h, fun _ h => .inl h⟩
theorem Gone.still (h : Gone own own' w w') {k : Nat} (hk : k < w.heap.size) (ho : ¬ own k) : ¬ own' k := fun e => by
  rcases h.new k e with h | h
  · exact ho h
  · omega
theorem Gone.trans (h : Gone own own' w w') (g : Gone own' own'' w' w'') : Gone own own'' w w'' :=
  ⟨⟨g.keep.os.trans h.keep.os, g.keep.tape.trans h.keep.tape, g.keep.output.trans h.keep.output, Nat.le_trans h.keep.size g.keep.size, fun k hk ho => (g.keep.same k (Nat.lt_of_lt_of_le hk h.keep.size) (h.still hk ho)).trans (h.keep.same k hk ho)⟩,
   fun k e => by
    rcases g.new k e with e | e
    · exact h.new k e
    · have := h.keep.size; right; omega⟩
theorem Gone.wide (h : Gone own own' w w') (X : Nat → Prop) : Gone (fun k => own k ∨ X k) (fun k => own' k ∨ X k) w w' :=
  ⟨h.keep.mono fun _ _ ho e => ho (.inl e), fun k e => by
    rcases e with e | e
    · rcases h.new k e with h1 | h1
      · exact .inl (.inl h1)
      · exact .inr h1
    · exact .inl (.inr e)⟩
theorem BolO.mono {own2 : Nat → Prop} (h : BolO own w v m f) (hm : ∀ k, k < w.heap.size → own2 k → own k) : BolO own2 w v m f := by
  obtain ⟨h0, b, cap, hv, hn, ho, hc⟩ := h
  exact ⟨h0, b, cap, hv, hn, fun e => ho (hm b (rlt (hc 0 h0)) e), hc⟩
theorem BolO.lt (h : BolO own w v m f) : ∃ g cap, v = .slice (some ⟨g, 0, none⟩) m cap ∧ m ≤ cap ∧ ¬ own g ∧ g < w.heap.size ∧ ∀ j, j < m → w.cell? ⟨g, j, none⟩ = some (.bool (f j)) := by
  obtain ⟨h0, g, cap, hv, hn, ho, hc⟩ := h
  exact ⟨g, cap, hv, hn, ho, rlt (hc 0 h0), hc⟩
theorem BolO.go (h : BolO own w v m f) (hg : Gone own own' w w') : BolO own' w' v m f := by
  obtain ⟨g, cap, hv, hn, ho, hl, hc⟩ := h.lt
  exact ⟨h.1, g, cap, hv, hn, hg.still hl ho, fun j hj => hg.keep.cell (hc j hj) ho⟩
theorem BolO.under (h : BolO own w v m f) (hb : Below w.heap.size w w') : BolO own w' v m f := h.go (Gone.of_below hb)
theorem BolO.congr (h : BolO own w v m f) (he : ∀ i, i < m → f i = g i) : BolO own w v m g := by
  obtain ⟨h0, b, cap, hv, hn, ho, hc⟩ := h
  exact ⟨h0, b, cap, hv, hn, ho, fun j hj => by rw [← he j hj]; exact hc j hj⟩
theorem BolO.of_blk {G : Nat} {l : List Bool} (h : blkM w G l) (hl : l.length = m) (hm : 0 < m) (ho : ¬ own G) (he : ∀ i, i < m → l.getD i false = f i) : BolO own w (.slice (some ⟨G, 0, none⟩) m m) m f :=
  ⟨hm, G, m, rfl, Nat.le_refl _, ho, fun j hj => by rw [h.at_ (by omega) false, he j hj]⟩
theorem BolO.one {w : World} (h : BolO own w v m f) : v.oneCell' = true := by
  obtain ⟨_, g, cap, rfl, _⟩ := h
  rfl
end

/-! ### A rule as it is made -/
theorem setV_cells (s : St4) : setV s = .agg #[.int .u64 (s.1 : Int), .int .u64 (s.2.1 : Int), .int .u64 (s.2.2.1 : Int), .int .u64 (s.2.2.2 : Int)] := rfl
def set4C (s : St4) : List Value := [.int .u64 (s.1 : Int), .int .u64 (s.2.1 : Int), .int .u64 (s.2.2.1 : Int), .int .u64 (s.2.2.2 : Int)]
def setsC : List St4 → List Value
  | [] => []
  | s :: l => set4C s ++ setsC l
theorem setsC_len : ∀ l, (setsC l).length = l.length * 4
  | [] => rfl
  | s :: l => by rw [setsC, List.length_append, setsC_len l, List.length_cons]; show 4 + _ = _; omega
theorem setsC_app : ∀ l r, setsC (l ++ r) = setsC l ++ setsC r
  | [], r => rfl
  | s :: l, r => by rw [List.cons_append, setsC, setsC, setsC_app l r, List.append_assoc]
theorem setsC_at : ∀ (l : List St4) (i : Nat) (s : St4), l[i]? = some s → ∀ j, j < 4 → (setsC l)[i * 4 + j]? = (set4C s)[j]?
  | t :: l, 0, s, h, j, hj => by
    cases h
    rw [setsC, Nat.zero_mul, Nat.zero_add, List.getElem?_append_left (by show j < 4; exact hj)]
  | t :: l, i + 1, s, h, j, hj => by
    rw [setsC, List.getElem?_append_right (by show 4 ≤ _; omega), show (i + 1) * 4 + j - (set4C t).length = i * 4 + j from by show (i + 1) * 4 + j - 4 = _; omega]
    exact setsC_at l i s h j hj
theorem setsC_one : ∀ (l : List St4) (x : Value), x ∈ setsC l → x.oneCell' = true
  | s :: l, x, h => by
    rw [setsC, List.mem_append] at h
    rcases h with h | h
    · simp only [set4C, List.mem_cons, List.not_mem_nil, or_false] at h
      rcases h with rfl | rfl | rfl | rfl <;> rfl
    · exact setsC_one l x h
def OwnR (R : Nat) (sv bv : Value) : Nat → Prop := fun k => k = R ∨ sv.ownBlock = some k ∨ bv.ownBlock = some k
def box3 (T : TypeId) (w : World) (R : Nat) (a b c : Value) : Prop := w.heap[R]? = some (.cells #[a, b, c] T (0, 0))
section
variable {T : TypeId} {w w' : World} {R : Nat} {a b c : Value}
theorem box3.lt (h : box3 T w R a b c) : R < w.heap.size := (Array.getElem?_eq_some_iff.1 h).1
theorem box3.cells (h : box3 T w R a b c) : (w.cell? ⟨R, 0, none⟩ = some a ∧ w.cell? ⟨R, 1, none⟩ = some b ∧ w.cell? ⟨R, 2, none⟩ = some c) ∧ w.frozen? ⟨R, 0, none⟩ = false ∧ w.frozen? ⟨R, 1, none⟩ = false ∧ w.frozen? ⟨R, 2, none⟩ = false := by
  unfold box3 at h
  refine ⟨⟨?_, ?_, ?_⟩, ?_, ?_, ?_⟩ <;> first | (unfold World.cell?; rw [h]; rfl) | (unfold World.frozen?; rw [h]; simp)
theorem box3.keep {ok : Nat → Prop} (h : box3 T w R a b c) (hk : KeepW ok w w') (ho : ok R) : box3 T w' R a b c := (hk.same R h.lt ho).trans h
theorem box3.under (h : box3 T w R a b c) (hb : Below w.heap.size w w') : box3 T w' R a b c := h.keep (keep_below (fun _ => True) hb) trivial
theorem box3.set0 (h : box3 T w R a b c) (v : Value) : box3 T (w.setCell ⟨R, 0, none⟩ v) R v b c := by
  unfold box3 at h ⊢
  unfold World.setCell
  simp only [Array.getElem?_modify, if_true, h, Option.map_some]
  rfl
theorem box3.set1 (h : box3 T w R a b c) (v : Value) : box3 T (w.setCell ⟨R, 1, none⟩ v) R a v c := by
  unfold box3 at h ⊢
  unfold World.setCell
  simp only [Array.getElem?_modify, if_true, h, Option.map_some]
  rfl
theorem box3.set2 (h : box3 T w R a b c) (v : Value) : box3 T (w.setCell ⟨R, 2, none⟩ v) R a b v := by
  unfold box3 at h ⊢
  unfold World.setCell
  simp only [Array.getElem?_modify, if_true, h, Option.map_some]
  rfl
theorem box3.new (T : TypeId) (w : World) (a b c : Value) : box3 T (w.alloc (.cells #[a, b, c] T)) w.heap.size a b c := heap_alloc_new w _
end
/-- A rule: its sets so far, and m rows of truths; X: blocks in which none of it lies. -/
structure RulW (X : Nat → Prop) (w : World) (R : Nat) (sv bv lv : Value) (S : List St4) (m : Nat) (E : Nat → Nat → Bool) : Prop where
  b : box3 126 w R sv bv lv
  s : w.ownsRow 0 23 4 sv S.length (setsC S)
  r : ∃ us : List Value, us.length = m ∧ w.ownsRow 0 95 1 bv m us ∧ ∀ k, k < m → ∃ u, us[k]? = some u ∧ BolO (fun k => OwnR R sv bv k ∨ X k) w u m (E k)
  sR : sv.ownBlock ≠ some R
  bR : bv.ownBlock ≠ some R
  sb : ∀ k, sv.ownBlock = some k → bv.ownBlock ≠ some k
  aX : ∀ k, OwnR R sv bv k → ¬ X k
section
variable {X : Nat → Prop} {w w' : World} {R m : Nat} {sv bv lv : Value} {S : List St4} {E : Nat → Nat → Bool}
theorem RulW.under (h : RulW X w R sv bv lv S m E) (hb : Below w.heap.size w w') : RulW X w' R sv bv lv S m E := by
  obtain ⟨us, h1, h2, h3⟩ := h.r
  refine ⟨h.b.under hb, ownRow_keep h.s (keep_below (fun _ => True) hb) fun _ _ => trivial, ⟨us, h1, ownRow_keep h2 (keep_below (fun _ => True) hb) fun _ _ => trivial, fun k hk => ?_⟩, h.sR, h.bR, h.sb, h.aX⟩
  obtain ⟨u, h4, h5⟩ := h3 k hk
  exact ⟨u, h4, h5.under hb⟩
theorem RulW.sform (h : RulW X w R sv bv lv S m E) : ∃ ao cap, sv = .slice ao S.length cap ∧ S.length ≤ cap := by
  obtain ⟨ao, cap, hv, hn, _⟩ := ownZ h.s
  exact ⟨ao, cap, hv, hn⟩
/-- One of the rows: where it lies. -/
theorem RulW.row (h : RulW X w R sv bv lv S m E) {k : Nat} (hk : k < m) : ∃ g cap u, bv = .slice (some ⟨g, 0, none⟩) m cap ∧ m ≤ cap ∧ w.cell? ⟨g, k, none⟩ = some u ∧ w.frozen? ⟨g, k, none⟩ = false ∧ g < w.heap.size ∧ BolO (fun k => OwnR R sv bv k ∨ X k) w u m (E k) := by
  obtain ⟨us, h1, h2, h3⟩ := h.r
  obtain ⟨u, h4, h5⟩ := h3 k hk
  have h2' := h2
  obtain ⟨_, ⟨_, h0⟩ | ⟨g, cap, cur, rfl, _, h6, hn, _⟩⟩ := h2'
  · omega
  · exact ⟨g, cap, u, rfl, hn, by rw [h2.cellAt k (by omega)]; exact h4, h2.frozenAt k, (Array.getElem?_eq_some_iff.1 h6).1, h5⟩
/-- A row is another one now. -/
theorem RulW.setRow (h : RulW X w R sv bv lv S m E) {k g cap : Nat} (hk : k < m) (hbv : bv = .slice (some ⟨g, 0, none⟩) m cap) {u : Value} {f : Nat → Bool} (hu : BolO (fun k => OwnR R sv bv k ∨ X k) w u m f) :
    RulW X (w.setCell ⟨g, k, none⟩ u) R sv bv lv S m (fun i => if i = k then f else E i) ∧ Gone (OwnR R sv bv) (OwnR R sv bv) w (w.setCell ⟨g, k, none⟩ u) := by
  subst hbv
  obtain ⟨us, h1, h2, h3⟩ := h.r
  have hst := h2.stored k u
  have hkeep : KeepW (fun x => x ≠ g) w (w.setCell ⟨g, k, none⟩ u) := keep_set g k none u w fun h => h rfl
  have hg : Gone (OwnR R sv (.slice (some ⟨g, 0, none⟩) m cap)) (OwnR R sv (.slice (some ⟨g, 0, none⟩) m cap)) w (w.setCell ⟨g, k, none⟩ u) := ⟨hkeep.mono fun x _ ho e => ho (.inr (.inr (by rw [e]; rfl))), fun _ h => .inl h⟩
  refine ⟨⟨h.b.keep hkeep fun e => h.bR (by rw [e]; rfl), ownRow_keep h.s hkeep fun x e e2 => h.sb x e (by rw [e2]; rfl), ⟨us.set k u, by rw [List.length_set]; exact h1, hst.1, fun i hi => ?_⟩, h.sR, h.bR, h.sb, h.aX⟩, hg⟩
  by_cases e : i = k
  · subst e
    refine ⟨u, by rw [List.getElem?_set_self (by omega)], ?_⟩
    simp only [if_true]
    exact hu.go (hg.wide X)
  · obtain ⟨y, h4, h5⟩ := h3 i hi
    refine ⟨y, by rw [List.getElem?_set_ne (fun x => e x.symm)]; exact h4, ?_⟩
    simp only [if_neg e]
    exact h5.go (hg.wide X)
theorem RulW.congr {F : Nat → Nat → Bool} (h : RulW X w R sv bv lv S m E) (he : ∀ i, i < m → ∀ j, j < m → E i j = F i j) : RulW X w R sv bv lv S m F := by
  obtain ⟨us, h1, h2, h3⟩ := h.r
  refine ⟨h.b, h.s, ⟨us, h1, h2, fun k hk => ?_⟩, h.sR, h.bR, h.sb, h.aX⟩
  obtain ⟨u, h4, h5⟩ := h3 k hk
  exact ⟨u, h4, h5.congr fun j hj => he k hk j hj⟩
theorem RulW.ownlt (h : RulW X w R sv bv lv S m E) : ∀ k, w.heap.size ≤ k → ¬ OwnR R sv bv k := fun k hk e => by
  obtain ⟨us, _, h2, _⟩ := h.r
  have h3 := h.b.lt
  rcases e with e | e | e
  · omega
  · have := (World.ownsRow.lt h.s k e).2; omega
  · have := (World.ownsRow.lt h2 k e).2; omega
/-- A store into a block of X. -/
theorem RulW.aside {c i : Nat} {y : Value} (h : RulW X w R sv bv lv S m E) (hc : X c) : RulW X (w.setCell ⟨c, i, none⟩ y) R sv bv lv S m E := by
  have hk : KeepW (fun k => k ≠ c) w (w.setCell ⟨c, i, none⟩ y) := keep_set c i none y w fun h => h rfl
  have hno : ∀ k, OwnR R sv bv k → k ≠ c := fun k e e2 => h.aX k e (by rw [e2]; exact hc)
  have hg : Gone (fun k => OwnR R sv bv k ∨ X k) (fun k => OwnR R sv bv k ∨ X k) w (w.setCell ⟨c, i, none⟩ y) := ⟨hk.mono fun k _ ho e => ho (.inr (by rw [e]; exact hc)), fun _ e => .inl e⟩
  obtain ⟨us, h1, h2, h3⟩ := h.r
  refine ⟨h.b.keep hk (hno R (.inl rfl)), ownRow_keep h.s hk fun k e => hno k (.inr (.inl e)), ⟨us, h1, ownRow_keep h2 hk fun k e => hno k (.inr (.inr e)), fun k hk2 => ?_⟩, h.sR, h.bR, h.sb, h.aX⟩
  obtain ⟨u, h4, h5⟩ := h3 k hk2
  exact ⟨u, h4, h5.go hg⟩
/-- Fewer, or more that are newer. -/
theorem RulW.mono {X' : Nat → Prop} (h : RulW X w R sv bv lv S m E) (hm : ∀ k, k < w.heap.size → X' k → X k) : RulW X' w R sv bv lv S m E := by
  have hlt := h.ownlt
  obtain ⟨us, h1, h2, h3⟩ := h.r
  refine ⟨h.b, h.s, ⟨us, h1, h2, fun k hk => ?_⟩, h.sR, h.bR, h.sb, fun k e e2 => ?_⟩
  · obtain ⟨u, h4, h5⟩ := h3 k hk
    exact ⟨u, h4, h5.mono fun k hk e => e.imp id (hm k hk)⟩
  · by_cases hk : k < w.heap.size
    · exact h.aX k e (hm k hk e2)
    · exact hlt k (by omega) e
end
end Go.Proofs.YtkopbngnhgdfhaaDoor
