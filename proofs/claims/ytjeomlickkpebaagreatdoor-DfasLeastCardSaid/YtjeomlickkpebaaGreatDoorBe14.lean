/-
  Texts of this proof, one behind the other; each begins with its own remark.
-/
import Derived.Shelf.Strconv.Itoa0
import Derived.Shelf.Strconv.Itoa1
import Derived.Shelf.LaysM
import Derived.Shelf.Strconv.Itoa2
import Derived.Shelf.Strconv.Clone
import Derived.Shelf.Strconv.SyntaxError
import Derived.Shelf.LaysC
import Derived.Shelf.Strconv.ToError
import Derived.Shelf.Strconv.Lower
import Derived.Shelf.Strconv.AppendUint10
import Derived.Shelf.Strconv.AppendInt10
import Derived.Shelf.Strconv.AppendIntPublic10
import Derived.Test.YtjeomlickkpebaaGreatDoorProg
import Derived.Laws.IdiomStrings
import Derived.Laws.BytesArg
import Derived.Lib.ItoaLen
import Derived.Deep.RegionLaw
import Derived.Test.YtjeomlickkpebaaGreatDoorBe3
import Derived.Test.YtjeomlickkpebaaGreatDoorBe13
import Derived.Test.YtjeomlickkpebaaGreatDoorBe11
import Derived.Test.YtjeomlickkpebaaGreatDoorBe9
/-
  limnerref11 in memory: rows of truths; a rule as it is made. No call is walked here.
-/
namespace Go.Proofs.YtjeomlickkpebaaGreatDoor
open Go.RowKit

/-- A slice of m truths, in a block that is not of 'own'. -/
def BolO (own : Nat → Prop) (w : World) (v : Value) (m : Nat) (f : Nat → Bool) : Prop :=
  0 < m ∧ ∃ g cap, v = .slice (some ⟨g, 0, none⟩) m cap ∧ m ≤ cap ∧ ¬ own g ∧ ∀ j, j < m → w.cell? ⟨g, j, none⟩ = some (.bool (f j))
/-- What may have changed: blocks of 'own'; what is own now was so, or is new. -/
structure Gone (own own' : Nat → Prop) (w w' : World) : Prop where
  keep : KeepW (fun k => ¬ own k) w w'
  new : ∀ k, own' k → own k ∨ w.heap.size ≤ k
section
variable {own own' own'' : Nat → Prop} {w w' w'' : World} {v : Value} {m : Nat} {f g : Nat → Bool}
theorem Gone.of_below (h : Below w.heap.size w w') : Gone own own w w' := ⟨keep_below _ h, fun _ h => .inl h⟩
theorem Gone.still (h : Gone own own' w w') {k : Nat} (hk : k < w.heap.size) (ho : ¬ own k) : ¬ own' k := fun e => by
  rcases h.new k e with h | h
  · exact ho h
  · omega
theorem Gone.trans (h : Gone own own' w w') (g : Gone own' own'' w' w'') : Gone own own'' w w'' :=
  ⟨⟨g.keep.os.trans h.keep.os, g.keep.tape.trans h.keep.tape, g.keep.output.trans h.keep.output, Nat.le_trans h.keep.size g.keep.size, fun k hk ho => (g.keep.same k (Nat.lt_of_lt_of_le hk h.keep.size) (h.still hk ho)).trans (h.keep.same k hk ho)⟩,
   fun k e => by
    rcases g.new k e with e | e
    · exact h.new k e
    · have := h.keep.size; right; omega⟩
theorem Gone.wide (h : Gone own own' w w') (X : Nat → Prop) : Gone (fun k => own k ∨ X k) (fun k => own' k ∨ X k) w w' :=
  ⟨h.keep.mono fun _ _ ho e => ho (.inl e), fun k e => by
    rcases e with e | e
    · rcases h.new k e with h1 | h1
      · exact .inl (.inl h1)
      · exact .inr h1
    · exact .inl (.inr e)⟩
theorem BolO.mono {own2 : Nat → Prop} (h : BolO own w v m f) (hm : ∀ k, k < w.heap.size → own2 k → own k) : BolO own2 w v m f := by
  obtain ⟨h0, b, cap, hv, hn, ho, hc⟩ := h
  exact ⟨h0, b, cap, hv, hn, fun e => ho (hm b (rlt (hc 0 h0)) e), hc⟩
theorem BolO.lt (h : BolO own w v m f) : ∃ g cap, v = .slice (some ⟨g, 0, none⟩) m cap ∧ m ≤ cap ∧ ¬ own g ∧ g < w.heap.size ∧ ∀ j, j < m → w.cell? ⟨g, j, none⟩ = some (.bool (f j)) := by
  obtain ⟨h0, g, cap, hv, hn, ho, hc⟩ := h
  exact ⟨g, cap, hv, hn, ho, rlt (hc 0 h0), hc⟩
theorem BolO.go (h : BolO own w v m f) (hg : Gone own own' w w') : BolO own' w' v m f := by
  obtain ⟨g, cap, hv, hn, ho, hl, hc⟩ := h.lt
  exact ⟨h.1, g, cap, hv, hn, hg.still hl ho, fun j hj => hg.keep.cell (hc j hj) ho⟩
theorem BolO.under (h : BolO own w v m f) (hb : Below w.heap.size w w') : BolO own w' v m f := h.go (Gone.of_below hb)
theorem BolO.of_blk {G : Nat} {l : List Bool} (h : blkM w G l) (hl : l.length = m) (hm : 0 < m) (ho : ¬ own G) (he : ∀ i, i < m → l.getD i false = f i) : BolO own w (.slice (some ⟨G, 0, none⟩) m m) m f :=
  ⟨hm, G, m, rfl, Nat.le_refl _, ho, fun j hj => by rw [h.at_ (by omega) false, he j hj]⟩
theorem BolO.one {w : World} (h : BolO own w v m f) : v.oneCell' = true := by
  obtain ⟨_, g, cap, rfl, _⟩ := h
  rfl
end

/-! ### A rule as it is made -/
def set4C (s : St4) : List Value := [.int .u64 (s.1 : Int), .int .u64 (s.2.1 : Int), .int .u64 (s.2.2.1 : Int), .int .u64 (s.2.2.2 : Int)]
def setsC : List St4 → List Value
  | [] => []
  | s :: l => set4C s ++ setsC l
def OwnR (R : Nat) (sv bv : Value) : Nat → Prop := fun k => k = R ∨ sv.ownBlock = some k ∨ bv.ownBlock = some k
def box3 (T : TypeId) (w : World) (R : Nat) (a b c : Value) : Prop := w.heap[R]? = some (.cells #[a, b, c] T (0, 0))
section
variable {T : TypeId} {w w' : World} {R : Nat} {a b c : Value}
theorem box3.lt (h : box3 T w R a b c) : R < w.heap.size := (Array.getElem?_eq_some_iff.1 h).1
theorem box3.cells (h : box3 T w R a b c) : (w.cell? ⟨R, 0, none⟩ = some a ∧ w.cell? ⟨R, 1, none⟩ = some b ∧ w.cell? ⟨R, 2, none⟩ = some c) ∧ w.frozen? ⟨R, 0, none⟩ = false ∧ w.frozen? ⟨R, 1, none⟩ = false ∧ w.frozen? ⟨R, 2, none⟩ = false := by
  unfold box3 at h
  refine ⟨⟨?_, ?_, ?_⟩, ?_, ?_, ?_⟩ <;> first | (unfold World.cell?; rw [h]; rfl) | (unfold World.frozen?; rw [h]; simp)
theorem box3.keep {ok : Nat → Prop} (h : box3 T w R a b c) (hk : KeepW ok w w') (ho : ok R) : box3 T w' R a b c := (hk.same R h.lt ho).trans h
theorem box3.under (h : box3 T w R a b c) (hb : Below w.heap.size w w') : box3 T w' R a b c := h.keep (keep_below (fun _ => True) hb) trivial
theorem box3.set0 (h : box3 T w R a b c) (v : Value) : box3 T (w.setCell ⟨R, 0, none⟩ v) R v b c := by
  unfold box3 at h ⊢
  unfold World.setCell
  simp only [Array.getElem?_modify, if_true, h, Option.map_some]
  rfl
theorem box3.set1 (h : box3 T w R a b c) (v : Value) : box3 T (w.setCell ⟨R, 1, none⟩ v) R a v c := by
  unfold box3 at h ⊢
  unfold World.setCell
  simp only [Array.getElem?_modify, if_true, h, Option.map_some]
  rfl
theorem box3.new (T : TypeId) (w : World) (a b c : Value) : box3 T (w.alloc (.cells #[a, b, c] T)) w.heap.size a b c := heap_alloc_new w _
end
/-- A rule: its sets so far, and m rows of truths; X: blocks in which none of it lies. -/
structure RulW (X : Nat → Prop) (w : World) (R : Nat) (sv bv lv : Value) (S : List St4) (m : Nat) (E : Nat → Nat → Bool) : Prop where
  b : box3 48 w R sv bv lv
  s : w.ownsRow 0 51 4 sv S.length (setsC S)
  r : ∃ us : List Value, us.length = m ∧ w.ownsRow 0 46 1 bv m us ∧ ∀ k, k < m → ∃ u, us[k]? = some u ∧ BolO (fun k => OwnR R sv bv k ∨ X k) w u m (E k)
  sR : sv.ownBlock ≠ some R
  bR : bv.ownBlock ≠ some R
  sb : ∀ k, sv.ownBlock = some k → bv.ownBlock ≠ some k
  aX : ∀ k, OwnR R sv bv k → ¬ X k
section
variable {X : Nat → Prop} {w w' : World} {R m : Nat} {sv bv lv : Value} {S : List St4} {E : Nat → Nat → Bool}
theorem RulW.under (h : RulW X w R sv bv lv S m E) (hb : Below w.heap.size w w') : RulW X w' R sv bv lv S m E := by
  obtain ⟨us, h1, h2, h3⟩ := h.r
  refine ⟨h.b.under hb, ownRow_keep h.s (keep_below (fun _ => True) hb) fun _ _ => trivial, ⟨us, h1, ownRow_keep h2 (keep_below (fun _ => True) hb) fun _ _ => trivial, fun k hk => ?_⟩, h.sR, h.bR, h.sb, h.aX⟩
  obtain ⟨u, h4, h5⟩ := h3 k hk
  exact ⟨u, h4, h5.under hb⟩
/-- One of the rows: where it lies. -/
theorem RulW.row (h : RulW X w R sv bv lv S m E) {k : Nat} (hk : k < m) : ∃ g cap u, bv = .slice (some ⟨g, 0, none⟩) m cap ∧ m ≤ cap ∧ w.cell? ⟨g, k, none⟩ = some u ∧ w.frozen? ⟨g, k, none⟩ = false ∧ g < w.heap.size ∧ BolO (fun k => OwnR R sv bv k ∨ X k) w u m (E k) := by
  obtain ⟨us, h1, h2, h3⟩ := h.r
  obtain ⟨u, h4, h5⟩ := h3 k hk
  have h2' := h2
  obtain ⟨_, ⟨_, h0⟩ | ⟨g, cap, cur, rfl, _, h6, hn, _⟩⟩ := h2'
  · omega
  · exact ⟨g, cap, u, rfl, hn, by rw [h2.cellAt k (by omega)]; exact h4, h2.frozenAt k, (Array.getElem?_eq_some_iff.1 h6).1, h5⟩
theorem RulW.ownlt (h : RulW X w R sv bv lv S m E) : ∀ k, w.heap.size ≤ k → ¬ OwnR R sv bv k := fun k hk e => by
  obtain ⟨us, _, h2, _⟩ := h.r
  have h3 := h.b.lt
  rcases e with e | e | e
  · omega
  · have := (World.ownsRow.lt h.s k e).2; omega
  · have := (World.ownsRow.lt h2 k e).2; omega
/-- Fewer, or more that are newer. -/
theorem RulW.mono {X' : Nat → Prop} (h : RulW X w R sv bv lv S m E) (hm : ∀ k, k < w.heap.size → X' k → X k) : RulW X' w R sv bv lv S m E := by
  have hlt := h.ownlt
  obtain ⟨us, h1, h2, h3⟩ := h.r
  refine ⟨h.b, h.s, ⟨us, h1, h2, fun k hk => ?_⟩, h.sR, h.bR, h.sb, fun k e e2 => ?_⟩
  · obtain ⟨u, h4, h5⟩ := h3 k hk
    exact ⟨u, h4, h5.mono fun k hk e => e.imp id (hm k hk)⟩
  · by_cases hk : k < w.heap.size
    · exact h.aX k e (hm k hk e2)
    · exact hlt k (by omega) e
end
end Go.Proofs.YtjeomlickkpebaaGreatDoor

/-
  Memory by colors: whose each block is (0: nobody's, it stays as it is); rows of one's own, and what lies in blocks that are nobody's. No call is walked here.
-/
namespace Go.Proofs.YtjeomlickkpebaaGreatDoor
open Go.RowKit

abbrev Col := Nat → Nat
def Fresh0 (c : Col) (w : World) : Prop := ∀ k, w.heap.size ≤ k → c k = 0
/-- What may have changed: blocks of these owners; blocks that were there are whose they were. -/
structure StepC (S : Nat → Prop) (c c' : Col) (w w' : World) : Prop where
  keep : KeepW (fun k => ¬ S (c k)) w w'
  same : ∀ k, k < w.heap.size → c' k = c k
  fresh : Fresh0 c' w'
section
variable {S S' : Nat → Prop} {c c' c'' : Col} {w w' w'' : World} {A B : Nat} {T : TypeId} {v : Value} {us : List Value}
theorem Fresh0.below (h : Fresh0 c w) (hb : Below w.heap.size w w') : Fresh0 c w' := fun k hk => h k (Nat.le_trans hb.size hk)
theorem StepC.below (hf : Fresh0 c w) (hb : Below w.heap.size w w') : StepC S c c w w' := ⟨keep_below _ hb, fun _ _ => rfl, hf.below hb⟩
theorem StepC.trans (h : StepC S c c' w w') (g : StepC S c' c'' w' w'') : StepC S c c'' w w'' where
  keep := ⟨g.keep.os.trans h.keep.os, g.keep.tape.trans h.keep.tape, g.keep.output.trans h.keep.output, Nat.le_trans h.keep.size g.keep.size, fun k hk ho =>
    (g.keep.same k (Nat.lt_of_lt_of_le hk h.keep.size) (by rw [h.same k hk]; exact ho)).trans (h.keep.same k hk ho)⟩
  same := fun k hk => (g.same k (Nat.lt_of_lt_of_le hk h.keep.size)).trans (h.same k hk)
  fresh := g.fresh
theorem StepC.mono (h : StepC S c c' w w') (hm : ∀ a, S a → S' a) : StepC S' c c' w w' := ⟨h.keep.mono fun _ _ hk hs => hk (hm _ hs), h.same, h.fresh⟩
/-- A call that only makes memory, as far as older blocks are nobody's. -/
theorem StepC.under {n : Nat} (h : StepC S c c' w w') {w0 : World} (hb : Below n w0 w) (hn : n ≤ w.heap.size) (hc : ∀ k, k < n → ¬ S (c k)) : Below n w0 w' := KeepW.below hb h.keep hn hc
/-- A row of one's own, of elements of one cell. -/
structure RowC (c : Col) (A : Nat) (T : TypeId) (w : World) (v : Value) (us : List Value) : Prop where
  own : w.ownsRow 0 T 1 v us.length us
  col : ∀ k, v.ownBlock = some k → c k = A
theorem RowC.nil (c : Col) (A : Nat) (T : TypeId) (w : World) : RowC c A T w (.slice none 0 0) [] := ⟨World.ownsRow_nil _ _ _ _, fun k e => by cases e⟩
theorem RowC.lt (h : RowC c A T w v us) : ∀ k, v.ownBlock = some k → k < w.heap.size := fun k e => (World.ownsRow.lt h.own k e).2
theorem RowC.step (h : RowC c A T w v us) (hs : StepC S c c' w w') (hA : ¬ S A) : RowC c' A T w' v us :=
  ⟨ownRow_keep h.own hs.keep fun k e => by rw [h.col k e]; exact hA, fun k e => by rw [hs.same k (h.lt k e)]; exact h.col k e⟩
theorem RowC.form (h : RowC c A T w v us) : ∃ ao cap, v = .slice ao us.length cap ∧ us.length ≤ cap := by
  obtain ⟨ao, cap, hv, hn, _⟩ := ownZ h.own
  exact ⟨ao, cap, hv, hn⟩
theorem RowC.rowZ (h : RowC c A T w v us) : RowZ (fun k => c k = A) w v us.length us := by
  obtain ⟨hl, ⟨rfl, h0⟩ | ⟨g, cap, cur, rfl, h3, hg, hn, _, _, hx⟩⟩ := h.own
  · have : us = [] := List.eq_nil_of_length_eq_zero h0
    subst this
    exact RowZ.nil _ _
  · refine ⟨_, cap, rfl, hn, fun j u hu => ⟨g, 0, rfl, h.col g rfl, ?_⟩⟩
    rw [Nat.zero_add, cell_of_row _ _ _ cur T (0, 0) hg]
    rw [← hx, List.getElem?_take] at hu
    split at hu
    · rw [← Array.getElem?_toList]; exact hu
    · cases hu
theorem RowC.push {z : Value} {b X : Nat} {u : Value} (hf : Fresh0 c w) (h : RowC c A T w v us) (t ty : TypeId) (ht : Tryz.prog.underlying t = some (.slice T)) (hi : (Tryz.prog.info? T).map (fun i => (i.zero, i.size, i.bytes)) = some (some z, 1, b)) (hz : z.cells.size = 1) (hb : b ≤ 1000)
    (hX : w.cell? ⟨X, 0, none⟩ = some u) (hu : u.oneCell' = true) (hs : us.length ≤ 100000) :
    ∃ ao cap w' c', (Builtin.append_ #[t, t] ty #[v, .slice (some ⟨X, 0, none⟩) 1 1]).run Tryz.prog w = .ok (.slice ao (us.length + 1) cap) w' ∧ RowC c' A T w' (.slice ao (us.length + 1) cap) (us ++ [u]) ∧ StepC (fun a => a = A) c c' w w' := by
  obtain ⟨i0, hi1, hz0, hz1, hz2⟩ := info_of hi
  have hn : ∀ (j : Nat) (x : Value), [u][j]? = some x → w.cell? ((⟨X, 0, none⟩ : Addr).add j) = some x := fun j x hx => by
    have hj := (List.getElem?_eq_some_iff.1 hx).1
    have : j = 0 := by simpa using hj
    subst this
    rw [rlit]
    simp at hx
    rw [← hx]
    exact hX
  obtain ⟨v', w', hr, hown', hgr, _, hat⟩ := run_append_own_at (P := Tryz.prog) w 0 t ty T i0 z 1 b ht hi1 hz0 hz1 hz2 hz (by decide) v us.length us h.own ⟨X, 0, none⟩ 1 1 [u] rfl hn (fun x hx => by rw [List.mem_singleton.1 hx]; exact hu) (by unfold maxLen; omega) (by
    have : (us.length + 1) * b ≤ 100001 * 1000 := Nat.mul_le_mul (by omega) hb
    omega) (Nat.zero_le _)
  have hkeep : KeepW (fun k => ¬ c k = A) w w' := ⟨hgr.os, hgr.tape, hgr.output, hgr.size, fun k hk hne => hgr.block k hk fun e => hne (h.col k (by rw [← e]))⟩
  have hlen : (us ++ [u]).length = us.length + 1 := by rw [List.length_append]; rfl
  obtain ⟨ao, cap, rfl, _⟩ := ownZ hown'
  refine ⟨ao, cap, w', fun k => if k = w.heap.size ∧ (Value.slice ao (us.length + 1) cap).ownBlock = some k then A else c k, hr, ⟨by rw [hlen]; exact hown', fun k e => ?_⟩, hkeep, fun k hk => if_neg (by omega), fun k hk => ?_⟩
  · rcases hat with hat | hat
    · have h2 := h.col k (by rw [← hat]; exact e)
      have h3 := h.lt k (by rw [← hat]; exact e)
      rw [if_neg (by omega)]
      exact h2
    · have : k = w.heap.size := by rw [hat] at e; exact (Option.some.inj e).symm
      exact if_pos ⟨this, e⟩
  · rw [if_neg]
    · exact hf k (Nat.le_trans hgr.size hk)
    · rintro ⟨rfl, e⟩
      have := (World.ownsRow.lt hown' _ e).2
      omega
/-- What was somebody's is nobody's from now on. -/
def pale (c : Col) (A : Nat) : Col := fun k => if c k = A then 0 else c k
theorem pale_zero {k : Nat} (h : c k = 0) : pale c A k = 0 := by unfold pale; split <;> simp [h]
theorem pale_own {k : Nat} (h : c k = A) : pale c A k = 0 := if_pos h
theorem pale_other {k : Nat} (h : c k = B) (hB : B ≠ A) : pale c A k = B := by unfold pale; rw [if_neg (by omega)]; exact h
theorem Fresh0.pale (h : Fresh0 c w) : Fresh0 (pale c A) w := fun k hk => pale_zero (h k hk)
theorem RowC.pale (h : RowC c B T w v us) (hB : B ≠ A) : RowC (pale c A) B T w v us := ⟨h.own, fun k e => pale_other (h.col k e) hB⟩
theorem RowC.done (h : RowC c A T w v us) : RowZ (fun k => Go.Proofs.YtjeomlickkpebaaGreatDoor.pale c A k = 0) w v us.length us := h.rowZ.mono fun _ _ e => pale_own e
/-- Truths in a block that is nobody's. -/
def BolC (c : Col) (w : World) (v : Value) (m : Nat) (f : Nat → Bool) : Prop := BolO (fun k => c k ≠ 0) w v m f
variable {m : Nat} {f : Nat → Bool}
theorem BolC.step (h : BolC c w v m f) (hs : StepC S c c' w w') (h0 : ¬ S 0) : BolC c' w' v m f :=
  BolO.go h ⟨hs.keep.mono fun k _ hk e => by
    have : c k = 0 := Classical.byContradiction hk
    rw [this] at e
    exact h0 e, fun k e => by
    by_cases hk : k < w.heap.size
    · left; rw [← hs.same k hk]; exact e
    · right; omega⟩
theorem BolC.pale (h : BolC c w v m f) : BolC (pale c A) w v m f := BolO.mono h fun _ _ e e2 => e (pale_zero e2)
theorem BolC.read (h : BolC c w v m f) : BolO (fun _ => False) w v m f := BolO.mono h fun _ _ e => e.elim
/-- Cells in a block that is nobody's. -/
def CelC (c : Col) (w : World) (v : Value) (cs : List Value) : Prop := RowZ (fun k => c k = 0) w v cs.length cs
theorem CelC.step {cs : List Value} (h : CelC c w v cs) (hs : StepC S c c' w w') (h0 : ¬ S 0) : CelC c' w' v cs := by
  obtain ⟨ao, cap, hv, hn, hc⟩ := h
  refine ⟨ao, cap, hv, hn, fun j u hu => ?_⟩
  obtain ⟨g, o, ha, ho, hg⟩ := hc j u hu
  exact ⟨g, o, ha, by show c' g = 0; rw [hs.same g (rlt hg)]; exact ho, hs.keep.cell hg (by rw [ho]; exact h0)⟩
theorem CelC.pale {cs : List Value} (h : CelC c w v cs) : CelC (pale c A) w v cs := RowZ.mono h fun _ _ e => pale_zero e
theorem RowC.cel (h : RowC c A T w v us) : CelC (Go.Proofs.YtjeomlickkpebaaGreatDoor.pale c A) w v us := h.done
theorem CelC.read {cs : List Value} (h : CelC c w v cs) : RowZ (fun _ => True) w v cs.length cs := RowZ.mono h fun _ _ _ => trivial
end
end Go.Proofs.YtjeomlickkpebaaGreatDoor

/-
  Library contracts at this seat's program: each is one application of the library's own theorem. Made by wip/tools/shelf.py.
-/
namespace Go.Proofs
open Go.Shelf
def Tryz.laysM176_ren : Go.Shelf.Ren := ⟨fun | 176 => 78 | 249 => 87 | 288 => 95 | 283 => 100 | 284 => 101 | 285 => 102 | 286 => 103 | 129 => 108 | 317 => 107 | 318 => 109 | 319 => 110 | 320 => 111 | 337 => 115 | 338 => 116 | n => n, fun | 37 => 152 | 2 => 2 | 3 => 3 | 53 => 50 | 4 => 4 | 9 => 9 | 171 => 178 | 0 => 0 | 173 => 181 | 212 => 184 | 51 => 159 | 5 => 5 | 20 => 20 | 213 => 185 | 46 => 145 | 232 => 193 | 233 => 194 | n => n, fun | 17 => 0 | 18 => 1 | 19 => 2 | n => n⟩
theorem Tryz.laysM176 : Go.Proofs.LaysM.n176 Tryz.prog Tryz.laysM176_ren := {
  mixed := by kernel_rfl
  f129 := Tryz.func108.trans (congrArg some (by kernel_rfl))
  f176 := Tryz.func78.trans (congrArg some (by kernel_rfl))
  f249 := Tryz.func87.trans (congrArg some (by kernel_rfl))
  f283 := Tryz.func100.trans (congrArg some (by kernel_rfl))
  f284 := Tryz.func101.trans (congrArg some (by kernel_rfl))
  f285 := Tryz.func102.trans (congrArg some (by kernel_rfl))
  f286 := Tryz.func103.trans (congrArg some (by kernel_rfl))
  f288 := Tryz.func95.trans (congrArg some (by kernel_rfl))
  f317 := Tryz.func107.trans (congrArg some (by kernel_rfl))
  f318 := Tryz.func109.trans (congrArg some (by kernel_rfl))
  f319 := Tryz.func110.trans (congrArg some (by kernel_rfl))
  f320 := Tryz.func111.trans (congrArg some (by kernel_rfl))
  f337 := Tryz.func115.trans (congrArg some (by kernel_rfl))
  f338 := Tryz.func116.trans (congrArg some (by kernel_rfl))
  t0 := Tryz.underlying0
  a0 := Tryz.isAgg0
  z0 := Tryz.sizeOf0
  v0 := Tryz.zeroValue0
  t2 := Tryz.underlying2
  a2 := Tryz.isAgg2
  z2 := Tryz.sizeOf2
  v2 := Tryz.zeroValue2
  t3 := Tryz.underlying3
  a3 := Tryz.isAgg3
  z3 := Tryz.sizeOf3
  v3 := Tryz.zeroValue3
  t4 := Tryz.underlying4
  a4 := Tryz.isAgg4
  z4 := Tryz.sizeOf4
  v4 := Tryz.zeroValue4
  t5 := Tryz.underlying5
  a5 := Tryz.isAgg5
  z5 := Tryz.sizeOf5
  v5 := Tryz.zeroValue5
  t9 := Tryz.underlying9
  a9 := Tryz.isAgg9
  z9 := Tryz.sizeOf9
  v9 := Tryz.zeroValue9
  t20 := Tryz.underlying20
  a20 := Tryz.isAgg20
  z20 := Tryz.sizeOf20
  v20 := Tryz.zeroValue20
  t37 := Tryz.underlying152
  a37 := Tryz.isAgg152
  z37 := Tryz.sizeOf152
  v37 := Tryz.zeroValue152
  t46 := Tryz.underlying145
  a46 := Tryz.isAgg145
  z46 := Tryz.sizeOf145
  v46 := Tryz.zeroValue145
  t51 := Tryz.underlying159
  a51 := Tryz.isAgg159
  z51 := Tryz.sizeOf159
  v51 := Tryz.zeroValue159
  t53 := Tryz.underlying50
  a53 := Tryz.isAgg50
  z53 := Tryz.sizeOf50
  v53 := Tryz.zeroValue50
  t171 := Tryz.underlying178
  a171 := Tryz.isAgg178
  z171 := Tryz.sizeOf178
  v171 := Tryz.zeroValue178
  t173 := Tryz.underlying181
  a173 := Tryz.isAgg181
  z173 := Tryz.sizeOf181
  v173 := Tryz.zeroValue181
  t212 := Tryz.underlying184
  a212 := Tryz.isAgg184
  z212 := Tryz.sizeOf184
  v212 := Tryz.zeroValue184
  t213 := Tryz.underlying185
  a213 := Tryz.isAgg185
  z213 := Tryz.sizeOf185
  t232 := Tryz.underlying193
  a232 := Tryz.isAgg193
  z232 := Tryz.sizeOf193
  v232 := Tryz.zeroValue193
  t233 := Tryz.underlying194
  a233 := Tryz.isAgg194
  z233 := Tryz.sizeOf194
  v233 := Tryz.zeroValue194
  g17 := by kernel_rfl
  g18 := by kernel_rfl
  g19 := by kernel_rfl
  i0 := by kernel_rfl
  i2 := by kernel_rfl
  i3 := by kernel_rfl
  i4 := by kernel_rfl
  i5 := by kernel_rfl
  i9 := by kernel_rfl
  i20 := by kernel_rfl
  i37 := by kernel_rfl
  i46 := by kernel_rfl
  i51 := by kernel_rfl
  i53 := by kernel_rfl
  i171 := by kernel_rfl
  i173 := by kernel_rfl
  i212 := by kernel_rfl
  i232 := by kernel_rfl
  i233 := by kernel_rfl
  m17 := by kernel_rfl
  m18 := by kernel_rfl
  m19 := by kernel_rfl }
open Go.RowKit Go.Sort Go.Lib in
theorem Tryz.strconv_AppendInt_10 (B n : Nat) (i : Int) (h0 : -9223372036854775808 ≤ i) (h1 : i ≤ 9223372036854775807) (sv : Value) (xs : List Value) (w : World) (hown : w.ownsRow B 5 1 sv n xs) (hBw : B ≤ w.heap.size) (hlim : n + 21 ≤ 140737488355328) (htab : Lib.TabBelow Tryz.prog B w "internal/strconv.uint64pow10" .u64 Lib.pow10Tab) :
    Calls Tryz.prog 78 #[sv, .int .i64 i, .int .i64 10] w fun e w' => ∃ v', e = .returned v' ∧ w'.ownsRow B 5 1 v' (n + (Lib.itoa i).length) (xs ++ Lib.byteCells (Lib.itoa i)) ∧ Below B w w' ∧ Lib.OthersKept 5 none w w' := Any.strconv_AppendInt_10 Tryz.laysM176 B n i h0 h1 sv xs w hown hBw hlim htab
end Go.Proofs

/-
  dfas.textOf: what it returns: a list's numbers as a text that no other list has.
-/
namespace Go.Proofs.YtjeomlickkpebaaGreatDoor
open Go.RowKit

/-- The table of the powers of ten, as its initialiser lays it. -/
def PowW (w : World) : Prop := Lib.TabBelow Tryz.prog w.heap.size w "internal/strconv.uint64pow10" .u64 Lib.pow10Tab
theorem PowW.below {w w' : World} (h : PowW w) (hb : Below w.heap.size w w') : PowW w' := fun w2 h2 => h w2 (hb.trans (h2.mono hb.size))
/-- A list as a text. -/
def txtI : List Int → List UInt8
  | [] => []
  | a :: l => Lib.itoa a ++ 32 :: txtI l
theorem txt_snoc : ∀ (l : List Int) (a : Int), txtI (l ++ [a]) = txtI l ++ (Lib.itoa a ++ [32])
  | [], a => by simp [txtI]
  | b :: l, a => by rw [List.cons_append, txtI, txtI, txt_snoc l a, List.append_assoc, List.cons_append]
def valD (s : List UInt8) : Nat := s.foldl (fun n c => n * 10 + (c.toNat - 48)) 0
theorem digit_val {u : Nat} (h : u < 10) : (UInt8.ofNat (48 + u)).toNat = 48 + u := by
  rw [UInt8.toNat_ofNat']
  omega
theorem val_digits (u : Nat) : valD (Lib.decDigits u) = u ∧ ∀ c, c ∈ Lib.decDigits u → 48 ≤ c.toNat := by
  induction u using Nat.strongRecOn with
  | ind u ih =>
    rw [Lib.decDigits]
    by_cases h : u < 10
    · rw [dif_pos h]
      refine ⟨?_, fun c hc => ?_⟩
      · show 0 * 10 + ((UInt8.ofNat (48 + u)).toNat - 48) = u
        rw [digit_val h]; omega
      · rw [List.mem_singleton.1 hc, digit_val h]; omega
    · rw [dif_neg h]
      obtain ⟨h1, h2⟩ := ih (u / 10) (by omega)
      refine ⟨?_, fun c hc => ?_⟩
      · unfold valD at h1 ⊢
        rw [List.foldl_append, h1]
        show u / 10 * 10 + ((UInt8.ofNat (48 + u % 10)).toNat - 48) = u
        rw [digit_val (by omega)]; omega
      · rcases List.mem_append.1 hc with hc | hc
        · exact h2 c hc
        · rw [List.mem_singleton.1 hc, digit_val (by omega)]; omega
theorem digits_inj {u v : Nat} (h : Lib.decDigits u = Lib.decDigits v) : u = v := by rw [← (val_digits u).1, h, (val_digits v).1]
theorem itoa_no (a : Int) : ∀ c, c ∈ Lib.itoa a → c ≠ 32 := fun c hc => by
  unfold Lib.itoa at hc
  split at hc
  · rcases List.mem_cons.1 hc with rfl | hc
    · decide
    · have := (val_digits _).2 c hc
      intro e
      rw [e] at this
      exact absurd this (by decide)
  · have := (val_digits _).2 c hc
    intro e
    rw [e] at this
    exact absurd this (by decide)
theorem itoa_inj {a b : Int} (ha : 0 ≤ a) (hb : 0 ≤ b) (h : Lib.itoa a = Lib.itoa b) : a = b := by
  unfold Lib.itoa at h
  rw [if_neg (by omega), if_neg (by omega)] at h
  have := digits_inj h
  omega
theorem cut_same {s t : List UInt8} : ∀ {p q : List UInt8}, (∀ c, c ∈ p → c ≠ 32) → (∀ c, c ∈ q → c ≠ 32) → p ++ 32 :: s = q ++ 32 :: t → p = q ∧ s = t
  | [], [], _, _, h => ⟨rfl, by rw [List.nil_append, List.nil_append] at h; exact (List.cons.inj h).2⟩
  | [], c :: q, _, hq, h => by
    rw [List.nil_append, List.cons_append] at h
    exact absurd (List.cons.inj h).1.symm (hq c (by simp))
  | c :: p, [], hp, _, h => by
    rw [List.nil_append, List.cons_append] at h
    exact absurd (List.cons.inj h).1 (hp c (by simp))
  | c :: p, d :: q, hp, hq, h => by
    rw [List.cons_append, List.cons_append] at h
    obtain ⟨h1, h2⟩ := List.cons.inj h
    obtain ⟨h3, h4⟩ := cut_same (fun x hx => hp x (by simp [hx])) (fun x hx => hq x (by simp [hx])) h2
    exact ⟨by rw [h1, h3], h4⟩
/-- No other list has that text. -/
theorem txt_inj : ∀ {l m : List Int}, (∀ a, a ∈ l → 0 ≤ a) → (∀ a, a ∈ m → 0 ≤ a) → txtI l = txtI m → l = m
  | [], [], _, _, _ => rfl
  | [], b :: m, _, _, h => by
    rw [txtI, txtI] at h
    have := congrArg List.length h
    rw [List.length_append, List.length_cons, List.length_nil] at this
    omega
  | a :: l, [], _, _, h => by
    rw [txtI, txtI] at h
    have := congrArg List.length h
    rw [List.length_append, List.length_cons, List.length_nil] at this
    omega
  | a :: l, b :: m, hl, hm, h => by
    rw [txtI, txtI] at h
    obtain ⟨h1, h2⟩ := cut_same (itoa_no a) (itoa_no b) h
    rw [itoa_inj (hl a (by simp)) (hm b (by simp)) h1, txt_inj (fun x hx => hl x (by simp [hx])) (fun x hx => hm x (by simp [hx])) h2]
theorem Tryz.infoU8D : (Tryz.prog.info? 5).map (fun i => (i.zero, i.size, i.bytes)) = some (some (.int .u8 0), 1, 1) := by kernel_rfl
/-- Bytes in a row of the call's own. -/
def OwnT (N : Nat) (w : World) (v : Value) (s : List UInt8) : Prop := w.ownsRow N 5 1 v s.length (Lib.byteCells s)
theorem OwnT.nil (N : Nat) (w : World) : OwnT N w (.slice none 0 0) [] := World.ownsRow_nil _ _ _ _
theorem OwnT.form {N : Nat} {w : World} {v : Value} {s : List UInt8} (h : OwnT N w v s) : ∃ ao cap, v = .slice ao s.length cap ∧ s.length ≤ cap := by
  obtain ⟨ao, cap, hv, hn, _⟩ := ownZ h
  exact ⟨ao, cap, hv, hn⟩
theorem run_snocT {N : Nat} {w : World} {v : Value} {s : List UInt8} {X : Nat} {a : UInt8} (t ty : TypeId) (ht : Tryz.prog.underlying t = some (.slice 5)) (hv : OwnT N w v s) (hX : w.cell? ⟨X, 0, none⟩ = some (.int .u8 (a.toNat : Int))) (hN : N ≤ w.heap.size) (hs : s.length ≤ 100000000) :
    ∃ v' w', (Builtin.append_ #[t, t] ty #[v, .slice (some ⟨X, 0, none⟩) 1 1]).run Tryz.prog w = .ok v' w' ∧ OwnT N w' v' (s ++ [a]) ∧ Below N w w' := by
  obtain ⟨i0, hi, hz0, hz1, hz2⟩ := info_of Tryz.infoU8D
  have hn : ∀ (j : Nat) (u : Value), [Value.int .u8 (a.toNat : Int)][j]? = some u → w.cell? ((⟨X, 0, none⟩ : Addr).add j) = some u := fun j u hu => by
    have hj := (List.getElem?_eq_some_iff.1 hu).1
    have : j = 0 := by simpa using hj
    subst this
    rw [rlit]
    simp at hu
    rw [← hu]
    exact hX
  obtain ⟨v', w', hr, hown', hgr, _, hat⟩ := run_append_own_at (P := Tryz.prog) w N t ty 5 i0 (.int .u8 0) 1 1 ht hi hz0 hz1 hz2 rfl (by decide) v s.length (Lib.byteCells s) hv ⟨X, 0, none⟩ 1 1 [.int .u8 (a.toNat : Int)] rfl hn (fun u hu => by rw [List.mem_singleton.1 hu]; rfl) (by unfold maxLen; omega) (by omega) hN
  refine ⟨v', w', hr, ?_, ⟨hgr.os, hgr.tape, hgr.output, hgr.size, fun k hk => hgr.block k (by omega) fun e => ?_⟩⟩
  · unfold OwnT Lib.byteCells
    rw [List.length_append, List.map_append]
    exact hown'
  · have := (World.ownsRow.lt hv k e.symm).1
    omega
theorem bytesT_conv {N : Nat} {w : World} {v : Value} {s : List UInt8} (t : TypeId) (ht : Tryz.prog.underlying t = some (.slice 5)) (h : OwnT N w v s) : (convert t 9 v).run Tryz.prog w = .ok (.string ⟨s.toArray⟩) w := by
  obtain ⟨ao, cap, rfl, hn, hc⟩ := ownZ h
  cases ao with
  | none =>
    have h0 : s = [] := by
      cases s with
      | nil => rfl
      | cons c s =>
        obtain ⟨_, _, he, _⟩ := hc 0 (.int .u8 (c.toNat : Int)) rfl
        cases he
    rw [h0]
    exact run_convert_bytes_nil w t 5 ht Tryz.underlying5 _ _ 9 Tryz.underlying9
  | some a =>
    refine run_convert_bytes_back w t 9 5 a cap s ht Tryz.underlying5 Tryz.underlying9 (fun j hj => ?_)
    obtain ⟨g, o, he, _, hg⟩ := hc j (.int .u8 ((s[j]).toNat : Int)) (by unfold Lib.byteCells; rw [List.getElem?_map, List.getElem?_eq_getElem hj]; rfl)
    cases he
    rw [rlit]
    exact hg
section
variable {w : World} {v : Value} {l : List Int}
theorem itoa_few (a : Int) (h0 : 0 ≤ a) (h1 : a ≤ 1000000) : (Lib.itoa a).length ≤ 21 := by
  exact Lib.itoa_length_le a (by omega) (by omega)
theorem txt_few : ∀ {l : List Int}, (∀ a, a ∈ l → 0 ≤ a ∧ a ≤ 1000000) → (txtI l).length ≤ l.length * 22
  | [], _ => Nat.le_refl _
  | a :: l, h => by
    have h1 := itoa_few a (h a (by simp)).1 (h a (by simp)).2
    have h2 := txt_few (l := l) fun b hb => h b (by simp [hb])
    rw [txtI, List.length_append, List.length_cons, List.length_cons]
    omega
set_option maxRecDepth 8000 in
theorem ptext_any (h : IntsW w v l) (hp : PowW w) (hr : ∀ a, a ∈ l → 0 ≤ a ∧ a ≤ 1000000) (hl : l.length ≤ 100000) :
    Calls Tryz.prog 63 #[v] w fun e w' => e = .returned (.string ⟨(txtI l).toArray⟩) ∧ Below w.heap.size w w' := by
  have HI := Lib.hid (fun (W : World) (hb : Below w.heap.size w W) => h.below hb)
  have HR := Lib.hid hr
  obtain ⟨n, hn⟩ : ∃ n, l.length = n := ⟨_, rfl⟩
  have HN := Lib.hid hn
  obtain ⟨N, hN⟩ : ∃ N, w.heap.size = N := ⟨_, rfl⟩
  have HNN := Lib.hid hN
  have HA := Lib.hid (fun (W : World) (hb : Below N w W) (u : Value) (s : List UInt8) (a : Int) (ho : OwnT N W u s) (hs : s.length ≤ 3000000) (ha : 0 ≤ a ∧ a ≤ 1000000) =>
    Tryz.strconv_AppendInt_10 N s.length a (by omega) (by omega) u (Lib.byteCells s) W ho (by have := hb.size; omega) (by omega) (by rw [← hN] at hb ⊢; exact (show Lib.TabBelow _ _ _ _ _ _ from hp).on hb))
  have hform := h.form
  rw [hn] at hform hl
  obtain ⟨ao, cap, rfl, hcap⟩ := hform
  have H0 : Hid (∃ u, u = Value.slice none 0 0 ∧ OwnT N w u (txtI (l.take 0)) ∧ Below N w w) := Lib.hid ⟨_, rfl, OwnT.nil N w, Below.refl _ _⟩
  clear h hp hr hn hN
  go_enter Tryz.func63, Tryz.ntmps63
  go_wp2_with fail
  go_loopw [3, 8] (fun s3 s8 wr => ∃ i : Nat, s8 = .int .i64 (i : Int) ∧ i ≤ n ∧ Hid (∃ u, u = s3 ∧ OwnT N wr u (txtI (l.take i)) ∧ Below N w wr)) (fun _ s8 _ => n - (intOf s8).toNat)
  case atStart => exact ⟨0, rfl, Nat.zero_le _, H0⟩
  case round =>
    clear H0
    obtain ⟨i, rfl, hi, HX⟩ := hrel
    obtain ⟨u, hu, hX⟩ := HX.out
    subst hu
    have HY := Lib.hid hX
    clear HX hX
    obtain ⟨uo, uc, hu, huc⟩ := HY.out.1.form
    subst hu
    obtain ⟨m, hm⟩ : ∃ m, (txtI (l.take i)).length = m := ⟨_, rfl⟩
    rw [hm] at HY huc ⊢
    have i0 : (0 : Int) ≤ (i : Int) := by omega
    have i1 : (i : Int) ≤ 100000 := by omega
    by_cases hlt : i < n
    · have hli : (i : Int) < (n : Int) := by omega
      obtain ⟨a, ha⟩ : ∃ a, l[i]? = some a := ⟨_, List.getElem?_eq_getElem (by rw [HN.out]; exact hlt)⟩
      obtain ⟨g, o, cp, hv, _, c1⟩ := (HI.out wr (by rw [HNN.out]; exact HY.out.2)).at_ ha
      cases hv
      have hra := HR.out a (List.mem_of_getElem? ha)
      have hfew : (txtI (l.take i)).length ≤ 3000000 := by
        have := txt_few (l := l.take i) fun b hb => HR.out b (List.mem_of_mem_take hb)
        rw [List.length_take] at this
        omega
      have HC := Lib.hid (HA.out wr HY.out.2 _ _ a HY.out.1 hfew hra)
      have HT : Hid (l.take (i + 1) = l.take i ++ [a]) := Lib.hid (by rw [List.take_add_one, ha]; rfl)
      have hfew2 : (txtI (l.take i) ++ Lib.itoa a).length ≤ 4000000 := by
        have := itoa_few a hra.1 hra.2
        rw [List.length_append]; omega
      have HF := Lib.hid hfew2
      have hA : ∀ (W : World) u, OwnT N W u (txtI (l.take i) ++ Lib.itoa a) → N ≤ W.heap.size → ∃ v' w', (Builtin.append_ #[152, 152] 152 #[u, .slice (some ⟨W.heap.size, 0, none⟩) 1 1]).run Tryz.prog (W.alloc (.cells #[.int .u8 32] 5)) = .ok v' w' ∧ OwnT N w' v' (txtI (l.take (i + 1))) ∧ Below N (W.alloc (.cells #[.int .u8 32] 5)) w' := fun W u ho hN => by
        rw [HT.out, txt_snoc, ← List.append_assoc]
        exact run_snocT (a := 32) 152 152 Tryz.underlying152 (ownRow_keep ho (keep_below (fun _ => True) (alloc_under W _)) fun _ _ => trivial) (by
          rw [cell_of_row _ _ _ _ _ (0, 0) (heap_alloc_new W _)]; rfl) (by rw [alloc_size]; omega) (by rw [List.length_append] at hfew2 ⊢; omega)
      have HAA := Lib.hid hA
      have HB := Lib.hid HY.out.2
      clear hra hfew hfew2 hA ha HY huc hm
      go_wp2_with fail
      go_fit HC.out
      rintro e w2 ⟨v2, rfl, ho2, hb2, _⟩
      have ho3 : OwnT N w2 v2 (txtI (l.take i) ++ Lib.itoa a) := by
        unfold OwnT
        rw [List.length_append, Lib.byteCells_append]
        exact ho2
      obtain ⟨o2, p2, rfl, _⟩ := ho3.form
      obtain ⟨m2, hm2⟩ : ∃ m2, (txtI (l.take i) ++ Lib.itoa a).length = m2 := ⟨_, rfl⟩
      rw [hm2] at ho2 ho3 ⊢
      have hw2 : N ≤ w2.heap.size := by have := HB.out.size; have := hb2.size; have := HNN.out; omega
      obtain ⟨v3, w3, hr3, ho4, hb4⟩ := HAA.out w2 _ ho3 hw2
      have H3 : Hid (OwnT N w3 v3 (txtI (l.take (i + 1))) ∧ Below N w w3) := Lib.hid ⟨ho4, (HB.out.trans hb2).trans (((alloc_under w2 _).mono hw2).trans hb4)⟩
      clear ho2 hb2 ho3 ho4 hb4 HC HAA hm2
      go_wp2_with (at_builtin; refine napp_list (by rfl) _ _ 152 (by rfl) (by rfl) (by rfl) hr3 ?_)
      go_roundw
      case rel => exact ⟨i + 1, by go_num, hlt, Lib.hid ⟨_, rfl, H3.out⟩⟩
      case measure => simp [intOf] <;> omega
    · have hli : ¬ (i : Int) < (n : Int) := by omega
      have hin : l.take i = l := List.take_of_length_le (by rw [HN.out]; omega)
      have hcv := bytesT_conv 152 Tryz.underlying152 HY.out.1
      rw [hin] at hcv
      rw [hin] at HY
      obtain ⟨T, hT⟩ : ∃ T, (txtI l).toArray = T := ⟨_, rfl⟩
      rw [hT] at hcv
      have HZ : Hid (⟨(txtI l).toArray⟩ = (⟨T⟩ : ByteArray) ∧ Below N w wr) := Lib.hid ⟨by rw [hT], HY.out.2⟩
      clear HY hin hT huc hm
      go_wp2_with fail
      go_ret
      exact ⟨by rw [HZ.out.1]; rfl, by rw [HNN.out]; exact HZ.out.2⟩
end
end Go.Proofs.YtjeomlickkpebaaGreatDoor

/-
  limnerref11: a rule that is read; or, of a row of one's own; Start, Any, Ends: what each returns.
-/
namespace Go.Proofs.YtjeomlickkpebaaGreatDoor
open Go.RowKit

section
variable {o1 o2 : Nat → Prop} {w : World} {u v : Value} {m : Nat} {f g : Nat → Bool}
end
abbrev BolR : World → Value → Nat → (Nat → Bool) → Prop := BolO fun _ => False
theorem BolO.read {own : Nat → Prop} {w : World} {v : Value} {m : Nat} {f : Nat → Bool} (h : BolO own w v m f) : BolR w v m f := h.mono fun _ _ e => e.elim
theorem BolR.below {w w' : World} {v : Value} {m : Nat} {f : Nat → Bool} (h : BolR w v m f) (hb : Below w.heap.size w w') : BolR w' v m f := BolO.under h hb
/-- A rule that is read; nothing of it lies in blocks of 'old'. -/
structure RuO (old : Nat → Prop) (w : World) (v : Value) (r : RuN) : Prop where
  pos : 0 < r.m
  few : r.m ≤ 1000
  len : r.sets.length = r.m
  at_ : ∃ R sv bv lv, v = .pointer (some ⟨R, 0, none⟩) ∧ w.cell? ⟨R, 0, none⟩ = some sv ∧ w.cell? ⟨R, 1, none⟩ = some bv ∧ w.cell? ⟨R, 2, none⟩ = some lv ∧ RowZ (fun k => ¬ old k) w sv r.m (setsC r.sets) ∧ BolO old w lv r.m r.last ∧
    (∃ g cap, bv = .slice (some ⟨g, 0, none⟩) r.m cap ∧ r.m ≤ cap ∧ ¬ old g ∧ ∀ k, k < r.m → ∃ u, w.cell? ⟨g, k, none⟩ = some u ∧ BolO old w u r.m (r.behind k)) ∧ ¬ old R
abbrev RuR : World → Value → RuN → Prop := RuO fun _ => False
theorem RuO.keep {old : Nat → Prop} {w w' : World} {v : Value} {r : RuN} (h : RuO old w v r) (hk : KeepW (fun k => ¬ old k) w w') : RuO old w' v r := by
  obtain ⟨h1, h2, h3, R, sv, bv, lv, hv, c0, c1, c2, hs, hl, ⟨g, cap, hbv, hc, hg, hr⟩, hR⟩ := h
  have hgo : Gone old old w w' := ⟨hk, fun _ e => .inl e⟩
  refine ⟨h1, h2, h3, R, sv, bv, lv, hv, hk.cell c0 hR, hk.cell c1 hR, hk.cell c2 hR, hs.keep hk fun _ _ h => h, hl.go hgo, ⟨g, cap, hbv, hc, hg, fun k hk2 => ?_⟩, hR⟩
  obtain ⟨u, h4, h5⟩ := hr k hk2
  exact ⟨u, hk.cell h4 hg, h5.go hgo⟩
theorem RuO.mono {old old2 : Nat → Prop} {w : World} {v : Value} {r : RuN} (h : RuO old w v r) (hm : ∀ k, k < w.heap.size → old2 k → old k) : RuO old2 w v r := by
  obtain ⟨h1, h2, h3, R, sv, bv, lv, hv, c0, c1, c2, hs, hl, ⟨g, cap, hbv, hc, hg, hr⟩, hR⟩ := h
  obtain ⟨u0, h4, _⟩ := hr 0 h1
  refine ⟨h1, h2, h3, R, sv, bv, lv, hv, c0, c1, c2, hs.mono fun k hk ho e => ho (hm k hk e), hl.mono hm, ⟨g, cap, hbv, hc, fun e => hg (hm g (rlt h4) e), fun k hk2 => ?_⟩, fun e => hR (hm R (rlt c0) e)⟩
  obtain ⟨u, h5, h6⟩ := hr k hk2
  exact ⟨u, h5, h6.mono hm⟩
theorem RuO.read {old : Nat → Prop} {w : World} {v : Value} {r : RuN} (h : RuO old w v r) : RuR w v r := h.mono fun _ _ e => e.elim
theorem RuO.below {old : Nat → Prop} {w w' : World} {v : Value} {r : RuN} (h : RuO old w v r) (hb : Below w.heap.size w w') : RuO old w' v r := h.keep (keep_below _ hb)
section
variable {w : World} {v u : Value} {r : RuN} {f : Nat → Bool} {m : Nat}
end
end Go.Proofs.YtjeomlickkpebaaGreatDoor

/-
  limnerref11.Rule.Step: what it returns.
-/
namespace Go.Proofs.YtjeomlickkpebaaGreatDoor
open Go.RowKit

/-- The row that is made: what it holds. -/
structure OutG (w0 w : World) (G m : Nat) (h : Nat → Bool) : Prop where
  m : ∃ M, blkM w G M ∧ M.length = m ∧ ∀ j, j < m → M.getD j false = h j
  b : Below w0.heap.size w0 w
  g : w0.heap.size ≤ G
section
variable {w0 w w' : World} {G m i : Nat} {h : Nat → Bool}
theorem OutG.row (hW : OutG w0 w G m h) (hm : 0 < m) : BolR w (.slice (some ⟨G, 0, none⟩) m m) m h := by
  obtain ⟨⟨M, h1, h2, h3⟩, _, _⟩ := hW
  exact BolO.of_blk h1 h2 hm (fun e => e) h3
theorem OutG.under (hW : OutG w0 w G m h) (hb : Below w.heap.size w w') : OutG w0 w' G m h := by
  obtain ⟨⟨M, h1, h2, h3⟩, h4, h5⟩ := hW
  exact ⟨⟨M, h1.keep (keep_below (fun _ => True) hb) trivial, h2, h3⟩, h4.trans (hb.mono h4.size), h5⟩
end
section
variable {w : World} {v u : Value} {r : RuN} {f : Nat → Bool}
theorem RuO.rowAt {old : Nat → Prop} (h : RuO old w v r) {k : Nat} (hk : k < r.m) : ∃ R g cap y, v = .pointer (some ⟨R, 0, none⟩) ∧ w.cell? ⟨R, 1, none⟩ = some (.slice (some ⟨g, 0, none⟩) r.m cap) ∧ r.m ≤ cap ∧ w.cell? ⟨g, k, none⟩ = some y ∧ BolR w y r.m (r.behind k) := by
  obtain ⟨_, _, _, R, sv, bv, lv, hv, _, c1, _, _, _, ⟨g, cap, rfl, hc, _, hr⟩, _⟩ := h
  obtain ⟨y, h4, h5⟩ := hr k hk
  exact ⟨R, g, cap, y, hv, c1, hc, h4, h5.read⟩
end
end Go.Proofs.YtjeomlickkpebaaGreatDoor

/-
  limnerref11 in memory: a slice of rules, as they are read. No call is walked here.
-/
namespace Go.Proofs.YtjeomlickkpebaaGreatDoor
open Go.RowKit

/-- A slice of rules. -/
def RusW (w : World) (v : Value) (rs : List RuN) : Prop :=
  ∃ us : List Value, us.length = rs.length ∧ RowZ (fun _ => True) w v rs.length us ∧ ∀ (i : Nat) (r : RuN) (u : Value), rs[i]? = some r → us[i]? = some u → ∃ p, u = .pointer p ∧ RuR w u r
theorem RusW.below {w w' : World} {v : Value} {rs : List RuN} (h : RusW w v rs) (hb : Below w.heap.size w w') : RusW w' v rs := by
  obtain ⟨us, h1, h2, h3⟩ := h
  refine ⟨us, h1, h2.keep (keep_below _ hb) fun _ _ h => h, fun i r u hr hu => ?_⟩
  obtain ⟨p, h4, h5⟩ := h3 i r u hr hu
  exact ⟨p, h4, h5.below hb⟩
end Go.Proofs.YtjeomlickkpebaaGreatDoor

/-
  limnerref12 in memory: places; small functions over them: same, any, rule.
-/
namespace Go.Proofs.YtjeomlickkpebaaGreatDoor
open Go.RowKit

/-- A place, in blocks that are nobody's. -/
def PlcC (c : Col) (w : World) (v : Value) (rs : List RuN) (x : List (Nat → Bool)) : Prop :=
  ∃ us : List Value, us.length = rs.length ∧ x.length = rs.length ∧ CelC c w v us ∧ ∀ (i : Nat) (r : RuN) (a : Nat → Bool) (u : Value), rs[i]? = some r → x[i]? = some a → us[i]? = some u → BolC c w u r.m a
/-- A place that is read. -/
def PlcR (w : World) (v : Value) (rs : List RuN) (x : List (Nat → Bool)) : Prop :=
  x.length = rs.length ∧ ∃ ao cap, v = .slice ao rs.length cap ∧ rs.length ≤ cap ∧ ∀ (i : Nat) (r : RuN) (a : Nat → Bool), rs[i]? = some r → x[i]? = some a → ∃ g o u, ao = some ⟨g, o, none⟩ ∧ w.cell? ⟨g, o + i, none⟩ = some u ∧ BolR w u r.m a
section
variable {S : Nat → Prop} {c c' : Col} {w w' : World} {A : Nat} {v u : Value} {rs : List RuN} {x y : List (Nat → Bool)}
theorem PlcC.step (h : PlcC c w v rs x) (hs : StepC S c c' w w') (h0 : ¬ S 0) : PlcC c' w' v rs x := by
  obtain ⟨us, h1, h2, h3, h4⟩ := h
  exact ⟨us, h1, h2, h3.step hs h0, fun i r a u hr ha hu => (h4 i r a u hr ha hu).step hs h0⟩
theorem PlcC.pale (h : PlcC c w v rs x) : PlcC (pale c A) w v rs x := by
  obtain ⟨us, h1, h2, h3, h4⟩ := h
  exact ⟨us, h1, h2, h3.pale, fun i r a u hr ha hu => (h4 i r a u hr ha hu).pale⟩
theorem PlcC.read (h : PlcC c w v rs x) : PlcR w v rs x := by
  obtain ⟨us, h1, h2, ⟨ao, cap, hv, hn, hc⟩, h4⟩ := h
  refine ⟨h2, ao, cap, by rw [← h1]; exact hv, by omega, fun i r a hr ha => ?_⟩
  obtain ⟨u, hu⟩ : ∃ u, us[i]? = some u := ⟨_, List.getElem?_eq_getElem (by rw [h1]; exact (List.getElem?_eq_some_iff.1 hr).1)⟩
  obtain ⟨g, o, hao, _, hg⟩ := hc i u hu
  exact ⟨g, o, u, hao, hg, (h4 i r a u hr ha hu).read⟩
theorem PlcR.below (h : PlcR w v rs x) (hb : Below w.heap.size w w') : PlcR w' v rs x := by
  obtain ⟨h1, ao, cap, hv, hn, hc⟩ := h
  refine ⟨h1, ao, cap, hv, hn, fun i r a hr ha => ?_⟩
  obtain ⟨g, o, u, h2, h3, h4⟩ := hc i r a hr ha
  exact ⟨g, o, u, h2, (keep_below (fun _ => True) hb).cell h3 trivial, h4.below hb⟩
end
end Go.Proofs.YtjeomlickkpebaaGreatDoor

/-
  limnerref12.all in memory: the places that there are, the row that is made, the table as it grows. No call is walked here.
-/
namespace Go.Proofs.YtjeomlickkpebaaGreatDoor
open Go.RowKit

section
variable {S : Nat → Prop} {c c' : Col} {w w' : World} {A : Nat} {T : TypeId} {v u : Value} {us : List Value}
/-- An append of one element that lies in a block made for it. -/
theorem RowC.pushA {z : Value} {b : Nat} (hf : Fresh0 c w) (h : RowC c A T w v us) (t ty : TypeId) (ht : Tryz.prog.underlying t = some (.slice T)) (hi : (Tryz.prog.info? T).map (fun i => (i.zero, i.size, i.bytes)) = some (some z, 1, b)) (hz : z.cells.size = 1) (hb : b ≤ 1000)
    (hu : u.oneCell' = true) (hs : us.length ≤ 100000) :
    ∃ ao cap w' c', (Builtin.append_ #[t, t] ty #[v, .slice (some ⟨w.heap.size, 0, none⟩) 1 1]).run Tryz.prog (w.alloc (.cells #[u] T)) = .ok (.slice ao (us.length + 1) cap) w' ∧ RowC c' A T w' (.slice ao (us.length + 1) cap) (us ++ [u]) ∧ StepC (fun a => a = A) c c' w w' := by
  have hba := alloc_under w (.cells #[u] T)
  have hcell := cell_one_new w u T 0 _ rfl
  rw [rlit] at hcell
  obtain ⟨ao, cap, w', c', h1, h2, h3⟩ := (h.step (S := fun _ => False) (StepC.below hf hba) (fun e => e)).push (hf.below hba) t ty ht hi hz hb hcell hu hs
  exact ⟨ao, cap, w', c', h1, h2, (StepC.below hf hba).trans h3⟩
/-- A block made for one element is somebody's row of one. -/
def colAt (c : Col) (A g : Nat) : Col := fun k => if k = g then A else c k
theorem colAt_lt {g k : Nat} (h : k < g) : colAt c A g k = c k := if_neg (by omega)
theorem StepC.colAt (hf : Fresh0 c w) (o : Obj) : StepC S c (colAt c A w.heap.size) w (w.alloc o) where
  keep := keep_below _ (alloc_under w o)
  same := fun _ hk => colAt_lt hk
  fresh := fun k hk => by
    rw [alloc_size] at hk
    unfold Go.Proofs.YtjeomlickkpebaaGreatDoor.colAt
    rw [if_neg (by omega)]
    exact hf k (by omega)
theorem RowC.one : RowC (Go.Proofs.YtjeomlickkpebaaGreatDoor.colAt c A w.heap.size) A T (w.alloc (.cells #[u] T)) (.slice (some ⟨w.heap.size, 0, none⟩) 1 1) [u] where
  own := World.ownsRow_lit (base := 0) (e := T) (size := 1) w #[u] 1 (Nat.zero_le _) (by unfold maxLen; decide) (by simp)
  col := fun k e => by
    have : w.heap.size = k := Option.some.inj e
    subst this
    exact if_pos rfl
end
abbrev Plc := List (Nat → Bool)
/-- A table's box. -/
def boxD (w : World) (D : Nat) (dn dr : Value) : Prop := w.heap[D]? = some (.cells #[dn, dr] 41 (0, 0))
section
variable {w w' : World} {D : Nat} {dn dr : Value}
theorem boxD.lt (h : boxD w D dn dr) : D < w.heap.size := (Array.getElem?_eq_some_iff.1 h).1
theorem boxD.keep {ok : Nat → Prop} (h : boxD w D dn dr) (hk : KeepW ok w w') (ho : ok D) : boxD w' D dn dr := (hk.same D h.lt ho).trans h
end
/-- What lies in memory while all goes on: places 1, the row 2, the next place 3, the table's rows 4, its rules 5, its box 6. -/
structure AllW (w0 : World) (rs : List RuN) (c : Col) (w : World) (D : Nat) (pv dn dr : Value) (xs : List Plc) (rows : List (List Int)) (rl : List Int) : Prop where
  bel : Below w0.heap.size w0 w
  fr : Fresh0 c w
  old : ∀ k, k < w0.heap.size → c k = 0
  dcol : c D = 6
  box : boxD w D dn dr
  pp : ∃ us : List Value, us.length = xs.length ∧ RowC c 1 119 w pv us ∧ ∀ (i : Nat) x u, xs[i]? = some x → us[i]? = some u → PlcC c w u rs x
  dd : ∃ us : List Value, us.length = rows.length ∧ RowC c 4 39 w dn us ∧ ∀ (i : Nat) l u, rows[i]? = some l → us[i]? = some u → CelC c w u (numC l)
  rr : RowC c 5 3 w dr (numC rl)
section
variable {S : Nat → Prop} {w0 w w' : World} {rs : List RuN} {c c' : Col} {D : Nat} {pv dn dr u : Value} {xs : List Plc} {rows : List (List Int)} {rl row : List Int} {x : Plc}
theorem AllW.step (h : AllW w0 rs c w D pv dn dr xs rows rl) (hs : StepC S c c' w w') (hS : ∀ a, S a → a = 2 ∨ a = 3) : AllW w0 rs c' w' D pv dn dr xs rows rl := by
  have h0 : ¬ S 0 := fun e => by have := hS 0 e; omega
  have hD := h.box.lt
  obtain ⟨us, p1, p2, p3⟩ := h.pp
  obtain ⟨vs, d1, d2, d3⟩ := h.dd
  exact ⟨hs.under h.bel h.bel.size fun k hk e => h0 (by rw [h.old k hk] at e; exact e), hs.fresh, fun k hk => by rw [hs.same k (Nat.lt_of_lt_of_le hk h.bel.size)]; exact h.old k hk,
    by rw [hs.same D hD]; exact h.dcol, h.box.keep hs.keep (by rw [h.dcol]; exact fun e => by have := hS 6 e; omega),
    ⟨us, p1, p2.step hs fun e => by have := hS 1 e; omega, fun i x u hx hu => (p3 i x u hx hu).step hs h0⟩,
    ⟨vs, d1, d2.step hs fun e => by have := hS 4 e; omega, fun i l u hl hu => (d3 i l u hl hu).step hs h0⟩,
    h.rr.step hs fun e => by have := hS 5 e; omega⟩
theorem AllW.under (h : AllW w0 rs c w D pv dn dr xs rows rl) (hb : Below w.heap.size w w') : AllW w0 rs c w' D pv dn dr xs rows rl := h.step (S := fun _ => False) (StepC.below h.fr hb) fun _ e => e.elim
theorem AllW.pale {A : Nat} (h : AllW w0 rs c w D pv dn dr xs rows rl) (hA : A = 2 ∨ A = 3) : AllW w0 rs (pale c A) w D pv dn dr xs rows rl := by
  obtain ⟨us, p1, p2, p3⟩ := h.pp
  obtain ⟨vs, d1, d2, d3⟩ := h.dd
  exact ⟨h.bel, h.fr.pale, fun k hk => pale_zero (h.old k hk), pale_other h.dcol (by omega), h.box, ⟨us, p1, p2.pale (by omega), fun i x u hx hu => (p3 i x u hx hu).pale⟩, ⟨vs, d1, d2.pale (by omega), fun i l u hl hu => (d3 i l u hl hu).pale⟩, h.rr.pale (by omega)⟩
/-- The first place. -/
theorem AllW.first (h : AllW w0 rs c w D (.slice none 0 0) dn dr [] rows rl) (hx : PlcC c w u rs x) : AllW w0 rs (colAt c 1 w.heap.size) (w.alloc (.cells #[u] 119)) D (.slice (some ⟨w.heap.size, 0, none⟩) 1 1) dn dr [x] rows rl := by
  have hs := StepC.colAt (S := fun _ => False) (A := 1) h.fr (.cells #[u] 119)
  obtain ⟨vs, d1, d2, d3⟩ := h.dd
  have hno : ∀ a, ¬ (fun _ : Nat => False) a := fun _ e => e
  exact ⟨hs.under h.bel h.bel.size fun _ _ e => e, hs.fresh, fun k hk => by rw [hs.same k (Nat.lt_of_lt_of_le hk h.bel.size)]; exact h.old k hk, by rw [hs.same D h.box.lt]; exact h.dcol, h.box.keep hs.keep (fun e => e),
    ⟨[u], rfl, RowC.one, fun i y v hy hv => by
      match i, hy, hv with
      | 0, hy, hv => cases hy; cases hv; exact hx.step hs (fun e => e)⟩,
    ⟨vs, d1, d2.step hs (fun e => e), fun i l v hl hv => (d3 i l v hl hv).step hs (fun e => e)⟩, h.rr.step hs (fun e => e)⟩
end
section
variable {w0 w : World} {rs : List RuN} {c : Col} {D : Nat} {pv dn dr rv : Value} {xs : List Plc} {rows : List (List Int)} {rl row : List Int}
end
/-- A place as it is gathered. -/
def GatC (c : Col) (w : World) (v : Value) (rs : List RuN) (x : Plc) : Prop :=
  x.length ≤ rs.length ∧ ∃ us : List Value, us.length = x.length ∧ RowC c 3 46 w v us ∧ ∀ (i : Nat) (r : RuN) (a : Nat → Bool) (u : Value), rs[i]? = some r → x[i]? = some a → us[i]? = some u → BolC c w u r.m a
section
variable {S : Nat → Prop} {w w' : World} {rs : List RuN} {c c' : Col} {v u : Value} {x : Plc} {r : RuN} {a : Nat → Bool}
theorem GatC.step (h : GatC c w v rs x) (hs : StepC S c c' w w') (h0 : ¬ S 0) (h3 : ¬ S 3) : GatC c' w' v rs x := by
  obtain ⟨h1, us, h2, h4, h5⟩ := h
  exact ⟨h1, us, h2, h4.step hs h3, fun i r a u hr ha hu => (h5 i r a u hr ha hu).step hs h0⟩
/-- A whole place: nobody's from now on. -/
theorem GatC.done (h : GatC c w v rs x) (hl : x.length = rs.length) : PlcC (pale c 3) w v rs x := by
  obtain ⟨_, us, h2, h4, h5⟩ := h
  exact ⟨us, by omega, hl, h4.cel, fun i r a u hr ha hu => (h5 i r a u hr ha hu).pale⟩
theorem GatC.read (h : GatC c w v rs x) (hl : x.length = rs.length) : PlcR w v rs x := (h.done hl).read
end
/-- The append in a region that draws its order. -/
theorem dapp_step {w w' : World} {v u v' : Value} {ops : Array Oper} {o : Oper} {a : Act} {K : Act → World → Prop} {Q : Exit → Act → World → Prop} {E : Prop} (hgd : o.guard = none) (s x : Operand) (t : TypeId)
    (ho : o.op = .call { callee := .builtin .append, args := #[s, x], argTypes := #[t, t] })
    (hs : a.eval s = v) (hx : a.eval x = u) (hr : (Builtin.append_ #[t, t] o.type #[v, u]).run Tryz.prog w = .ok v' w') (h : K (a.put o.dst v') w') :
    if Region.wanted o (yielded ops a.tmps) = true then Oper.wp Tryz.prog o a w K Q else E := by
  have hw : Region.wanted o (yielded ops a.tmps) = true := by simp [Region.wanted, hgd]
  rw [if_pos hw]
  unfold Oper.wp execOp
  simp only [ho, resolve, invoke, builtin, Sem.run_bind, Sem.run_pure, Result.andThen_ok, List.map_toArray, List.map_cons, List.map_nil, hs, hx, hr]
  exact h
end Go.Proofs.YtjeomlickkpebaaGreatDoor

/-
  limnerref12.all: what it returns.
-/
namespace Go.Proofs.YtjeomlickkpebaaGreatDoor
open Go.RowKit

/-- A table that is read. -/
structure DfaR (w : World) (v : Value) (d : Dfa) : Prop where
  few : d.n ≤ 2000
  same : d.rule.length = d.n
  at_ : ∃ B ao cap ro rc, v = .pointer (some ⟨B, 0, none⟩) ∧ w.cell? ⟨B, 0, none⟩ = some (.slice ao d.n cap) ∧ w.cell? ⟨B, 1, none⟩ = some (.slice ro d.n rc) ∧ d.n ≤ cap ∧ IntsW w (.slice ro d.n rc) d.rule ∧
    ∀ (i : Nat) l, d.next[i]? = some l → ∃ g o u, ao = some ⟨g, o, none⟩ ∧ w.cell? ⟨g, o + i, none⟩ = some u ∧ IntsW w u l
theorem DfaR.below {w w' : World} {v : Value} {d : Dfa} (h : DfaR w v d) (hb : Below w.heap.size w w') : DfaR w' v d := by
  obtain ⟨h1, h2, B, ao, cap, ro, rc, hv, c0, c1, hn, hr, hl⟩ := h
  have hk := keep_below (fun _ => True) hb
  refine ⟨h1, h2, B, ao, cap, ro, rc, hv, hk.cell c0 trivial, hk.cell c1 trivial, hn, hr.below hb, fun i l hi => ?_⟩
  obtain ⟨g, o, u, h3, h4, h5⟩ := hl i l hi
  exact ⟨g, o, u, h3, hk.cell h4 trivial, h5.below hb⟩
end Go.Proofs.YtjeomlickkpebaaGreatDoor

/-
  What lies in memory while limnerref11.lay works. No call is walked here.
-/
namespace Go.Proofs.YtjeomlickkpebaaGreatDoor
open Go.RowKit

/-- A part's box. -/
abbrev boxP (w : World) (b : Nat) (a f l : Value) : Prop := box3 109 w b a f l
/-- X: what was there ahead in which nothing of the rule lies; c: a part's box, stored into. -/
structure LayF (X : Nat → Prop) (w0 w : World) (R : Nat) (sv0 sv bv lv : Value) (S : List St4) (m : Nat) (E : Nat → Nat → Bool) (b : Nat) (n : Nd) (u : Value) : Prop where
  r : RulW (fun k => X k ∨ b ≤ k ∧ k < b + 3) w R sv bv lv S m E
  x : boxN 77 w b n.kind n.set u
  p : boxP w (b + 1) (.bool false) (.slice none 0 0) (.slice none 0 0)
  nv : blkM w (b + 2) (noneB m)
  pos : 0 < m
  ks : KidsW (fun k => k < b ∧ ¬ OwnR R sv bv k) w n.kids u
  g : Gone (OwnR R sv0 bv) (OwnR R sv bv) w0 w
  at_ : b = w0.heap.size
  nb : ∀ k, b ≤ k → k < b + 3 → ¬ OwnR R sv bv k
section
variable {X : Nat → Prop} {w0 w w' : World} {R m b c : Nat} {sv0 sv bv lv sv' u a f l : Value} {S S' : List St4} {E E' : Nat → Nat → Bool} {n : Nd}
/-- A box that is not own. -/
theorem box3.go {T : TypeId} {own own' : Nat → Prop} (h : box3 T w c a f l) (ho : ¬ own c) (hg : Gone own own' w w') : box3 T w' c a f l ∧ ¬ own' c := ⟨h.keep hg.keep ho, hg.still h.lt ho⟩
theorem KidsW.goN {N : Nat} {own own' : Nat → Prop} {ks : List Nd} (h : KidsW (fun k => k < N ∧ ¬ own k) w ks u) (hN : N ≤ w.heap.size) (hg : Gone own own' w w') : KidsW (fun k => k < N ∧ ¬ own' k) w' ks u := by
  have h1 := KidsW.keep (ok' := fun k => k < N ∧ ¬ own k) h (hg.keep.mono fun _ _ ho => ho.2) fun _ _ hp => hp
  exact h1.mono fun k _ hp => ⟨hp.1, hg.still (by omega) hp.2⟩
theorem LayF.sz (h : LayF X w0 w R sv0 sv bv lv S m E b n u) : b + 3 ≤ w.heap.size := h.nv.lt
theorem LayF.go (h : LayF X w0 w R sv0 sv bv lv S m E b n u) (hr : RulW (fun k => X k ∨ b ≤ k ∧ k < b + 3) w' R sv' bv lv S' m E') (hg : Gone (OwnR R sv bv) (OwnR R sv' bv) w w') : LayF X w0 w' R sv0 sv' bv lv S' m E' b n u :=
  ⟨hr, h.x.keep hg.keep (h.nb b (Nat.le_refl _) (by omega)), (h.p.go (h.nb (b + 1) (by omega) (by omega)) hg).1, h.nv.keep hg.keep (h.nb (b + 2) (by omega) (by omega)), h.pos, h.ks.goN (by have := h.sz; omega) hg, h.g.trans hg, h.at_, fun k h1 h2 => hg.still (by have := h.sz; omega) (h.nb k h1 h2)⟩
theorem LayF.under (h : LayF X w0 w R sv0 sv bv lv S m E b n u) (hb : Below w.heap.size w w') : LayF X w0 w' R sv0 sv bv lv S m E b n u := h.go (h.r.under hb) (Gone.of_below hb)
/-- Where the parts' rows lie. -/
def AccO (R : Nat) (sv bv : Value) (b : Nat) : Nat → Prop := fun k => OwnR R sv bv k ∨ k ≤ b + 1 ∨ k = b + 3
theorem BolO.acc {g : Nat → Bool} (h : BolO (AccO R sv bv b) w a m g) (hg : Gone (OwnR R sv bv) (OwnR R sv' bv) w w') : BolO (AccO R sv' bv b) w' a m g := h.go (hg.wide _)
/-- The end: three stores into the result's box. -/
def setP (w : World) (c : Nat) (x f l : Value) : World := ((w.setCell ⟨c, 0, none⟩ x).setCell ⟨c, 1, none⟩ f).setCell ⟨c, 2, none⟩ l
end
end Go.Proofs.YtjeomlickkpebaaGreatDoor
