/-
  What lies in memory where an undo lies: the state that is now, those that were, those that were undone, its group; that it stays while its blocks stay. No call is walked here.
-/
import Derived.Test.YtpkfmhggaiifgaaRow
import Derived.Test.YtpkfmhggaiifgaaPcsW
namespace Go.Proofs.Ytpkfmhggaiifgaa
open Go.RowKit

theorem Try.infoState : (Try.prog.info? 52).map (fun i => (i.zero, i.size, i.bytes)) = some (some (.agg #[.pointer none, .int .i64 0]), 2, 16) := by kernel_rfl

theorem TextO.keepW {ok : Nat → Prop} {w w' : World} {v : Value} {s : ByteArray} {xs : List ByteArray} (h : TextO ok w v s xs) (hk : KeepW ok w w') : TextO ok w' v s xs := by
  obtain ⟨b, sl, hv, c0, c1, c2, hs, hf, hc, hb, ho⟩ := h
  refine ⟨b, sl, hv, hk.cell c0 hb, hk.cell c1 hb, hk.cell c2 hb, ?_, hf, hc, hb, ho⟩
  obtain ⟨ao, cap, he, hcap, hcell⟩ := hs
  refine ⟨ao, cap, he, hcap, fun i x hx => ?_⟩
  obtain ⟨g, o, ha, hgc⟩ := hcell i x hx
  subst ha
  have hi := (List.getElem?_eq_some_iff.1 hx).1
  exact ⟨g, o, rfl, hk.cell hgc (ho _ _ _ he (by omega))⟩

/-- A text of these bytes at this block. -/
def TextP (ok : Nat → Prop) (w : World) (b : Nat) (s : ByteArray) : Prop := (∃ xs, TextO ok w (.pointer (some ⟨b, 0, none⟩)) s xs) ∧ s.size ≤ 16384
theorem TextP.keepW {ok : Nat → Prop} {w w' : World} {b : Nat} {s : ByteArray} (h : TextP ok w b s) (hk : KeepW ok w w') : TextP ok w' b s := by
  obtain ⟨⟨xs, hx⟩, hs⟩ := h
  exact ⟨⟨xs, hx.keepW hk⟩, hs⟩
theorem TextP.mono {ok ok' : Nat → Prop} {w : World} {b : Nat} {s : ByteArray} (h : TextP ok w b s) (hm : ∀ k, k < w.heap.size → ok k → ok' k) : TextP ok' w b s := by
  obtain ⟨⟨xs, hx⟩, hs⟩ := h
  exact ⟨⟨xs, hx.mono hm⟩, hs⟩
theorem TextP.text {ok : Nat → Prop} {w : World} {b : Nat} {s : ByteArray} (h : TextP ok w b s) : ∃ n, TextW w (.pointer (some ⟨b, 0, none⟩)) s n ∧ s.size ≤ 16384 := by
  obtain ⟨⟨xs, hx⟩, hs⟩ := h
  exact ⟨_, hx.text, hs⟩

/-- A state: its text's block, the text's bytes, the cursor. -/
abbrev St := Nat × ByteArray × Int
def stV (p : St) : List Value := [.pointer (some ⟨p.1, 0, none⟩), .int .i64 p.2.2]
def stC (ps : List St) : List Value := ps.flatMap stV
theorem stC_len (ps : List St) : (stC ps).length = ps.length * 2 := by
  unfold stC
  induction ps with
  | nil => rfl
  | cons p ps ih => rw [List.flatMap_cons, List.length_append, ih, List.length_cons]; show 2 + _ = _; omega
theorem stC_app (ps qs : List St) : stC (ps ++ qs) = stC ps ++ stC qs := by unfold stC; rw [List.flatMap_append]
theorem stC_drop (ps : List St) (i : Nat) : (stC ps).drop (i * 2) = stC (ps.drop i) := by
  unfold stC
  induction ps generalizing i with
  | nil => simp
  | cons p ps ih =>
    cases i with
    | zero => simp
    | succ i => rw [List.flatMap_cons, List.drop_succ_cons, ← ih i, show (i + 1) * 2 = (i * 2 + 1) + 1 by omega]; rfl
theorem stC_take (ps : List St) (i : Nat) : (stC ps).take (i * 2) = stC (ps.take i) := by
  unfold stC
  induction ps generalizing i with
  | nil => simp
  | cons p ps ih =>
    cases i with
    | zero => simp
    | succ i => rw [List.flatMap_cons, List.take_succ_cons, List.flatMap_cons, ← ih i, show (i + 1) * 2 = (i * 2 + 1) + 1 by omega]; rfl
theorem stC_one (p : St) : stC [p] = stV p := by unfold stC; simp
theorem stC_cell (ps : List St) : ∀ u ∈ stC ps, u.oneCell' = true := by
  intro u hu
  unfold stC at hu
  obtain ⟨p, _, hp⟩ := List.mem_flatMap.1 hu
  unfold stV at hp
  simp only [List.mem_cons, List.not_mem_nil, or_false] at hp
  rcases hp with rfl | rfl <;> rfl
theorem stC_at (ps : List St) (i : Nat) (p : St) (h : ps[i]? = some p) : (stC ps)[i * 2]? = some (.pointer (some ⟨p.1, 0, none⟩)) ∧ (stC ps)[i * 2 + 1]? = some (.int .i64 p.2.2) := by
  have e : (stC ps).drop (i * 2) = stV p ++ stC (ps.drop (i + 1)) := by
    have hlt := (List.getElem?_eq_some_iff.1 h).1
    rw [stC_drop, List.drop_eq_getElem_cons hlt, (List.getElem?_eq_some_iff.1 h).2]
    unfold stC
    rw [List.flatMap_cons]
  constructor
  · have := congrArg (fun l : List Value => l[0]?) e
    simpa [List.getElem?_drop, stV] using this
  · have := congrArg (fun l : List Value => l[1]?) e
    simpa [List.getElem?_drop, stV] using this

/-- A row of states. -/
def StatesW (ok : Nat → Prop) (w : World) (v : Value) (ps : List St) : Prop := RowV ok w v ps.length (stC ps) ∧ ∀ p ∈ ps, TextP ok w p.1 p.2.1
theorem StatesW.keepW {ok : Nat → Prop} {w w' : World} {v : Value} {ps : List St} (h : StatesW ok w v ps) (hk : KeepW ok w w') : StatesW ok w' v ps :=
  ⟨h.1.keep hk, fun p hp => (h.2 p hp).keepW hk⟩
theorem StatesW.nil (ok : Nat → Prop) (w : World) : StatesW ok w (.slice none 0 0) [] := ⟨RowV.nil ok w, fun p hp => by cases hp⟩

/-- An undo, as the document has it. -/
structure US where
  now : St
  was : List St
  undone : List St
  group : Int

def pushU (l : List St) (p : St) : List St := l.drop (l.length + 1 - 100) ++ [p]
theorem pushU_len (l : List St) (p : St) (h : l.length ≤ 100) : (pushU l p).length ≤ 100 := by
  unfold pushU
  rw [List.length_append, List.length_drop, List.length_cons, List.length_nil]; omega
theorem pushU_mem {l : List St} {p q : St} (h : q ∈ pushU l p) : q ∈ l ∨ q = p := by
  unfold pushU at h
  rcases List.mem_append.1 h with h | h
  · exact .inl (List.mem_of_mem_drop h)
  · exact .inr (List.mem_singleton.1 h)
def doU (u : US) (p : St) (g : Int) : US := if 0 < g ∧ g = u.group then ⟨p, u.was, [], g⟩ else ⟨p, pushU u.was u.now, [], g⟩
def moveU (u : US) (c : Int) : US := { u with now := (u.now.1, u.now.2.1, c) }
def undoU (u : US) (p : St) : US := ⟨p, u.was.dropLast, pushU u.undone u.now, 0⟩
def redoU (u : US) (p : St) : US := ⟨p, pushU u.was u.now, u.undone.dropLast, 0⟩

/-- Its block. -/
def undoB (w : World) (U : Nat) (n : St) (a d : Value) (g : Int) : Prop := w.heap[U]? = some (.cells #[.pointer (some ⟨n.1, 0, none⟩), .int .i64 n.2.2, a, d, .int .i64 g] 55 (0, 0))
theorem undoB.cells {w : World} {U : Nat} {n : St} {a d : Value} {g : Int} (h : undoB w U n a d g) :
    (w.cell? ⟨U, 0, none⟩ = some (.pointer (some ⟨n.1, 0, none⟩)) ∧ w.cell? ⟨U, 1, none⟩ = some (.int .i64 n.2.2) ∧ w.cell? ⟨U, 2, none⟩ = some a ∧ w.cell? ⟨U, 3, none⟩ = some d ∧ w.cell? ⟨U, 4, none⟩ = some (.int .i64 g)) ∧
    ∀ o, w.frozen? ⟨U, o, none⟩ = false := by
  unfold undoB at h
  refine ⟨⟨?_, ?_, ?_, ?_, ?_⟩, fun o => ?_⟩ <;> first | (unfold World.cell?; rw [h]; rfl) | (unfold World.frozen?; rw [h]; simp)
structure UndoW (ok : Nat → Prop) (w : World) (U : Nat) (u : US) (a d : Value) : Prop where
  blk : undoB w U u.now a d u.group
  out : ¬ ok U
  text : TextP ok w u.now.1 u.now.2.1
  was : StatesW ok w a u.was
  und : StatesW ok w d u.undone
  few : u.was.length + u.undone.length ≤ 100
theorem UndoW.keepW {ok : Nat → Prop} {w w' : World} {U : Nat} {u : US} {a d : Value} (h : UndoW ok w U u a d) (hk : KeepW ok w w') (hU : w'.heap[U]? = w.heap[U]?) : UndoW ok w' U u a d :=
  ⟨hU.trans h.blk, h.out, h.text.keepW hk, h.was.keepW hk, h.und.keepW hk, h.few⟩
theorem UndoW.lt {ok : Nat → Prop} {w : World} {U : Nat} {u : US} {a d : Value} (h : UndoW ok w U u a d) : U < w.heap.size := (Array.getElem?_eq_some_iff.1 h.blk).1
theorem UndoW.below {ok : Nat → Prop} {w w' : World} {U : Nat} {u : US} {a d : Value} (h : UndoW ok w U u a d) (hb : Below w.heap.size w w') : UndoW ok w' U u a d :=
  h.keepW (keep_below ok hb) (hb.block _ h.lt)
end Go.Proofs.Ytpkfmhggaiifgaa
