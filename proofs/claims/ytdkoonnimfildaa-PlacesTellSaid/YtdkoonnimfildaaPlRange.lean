/-
  A loop over strings.Lines: what is owed of its body is one walk, from any line on; the loop's own book is kept here. The body is left at its end, or by a break.
-/
import Derived.Test.YtdkoonnimfildaaPlIter
import Derived.RangeFuncLeaves
import Derived.RangeFuncCalls
namespace Go.Proofs.Ytdkoonnimfildaa
open Go.RowKit Go.Shelf

/-- What lies below n, but for one place, is as it was. -/
structure FarX (n B : Nat) (W W' : World) : Prop where
  os : W'.os = W.os
  tape : W'.tape = W.tape
  output : W'.output = W.output
  size : W.heap.size ≤ W'.heap.size
  same : ∀ k, k < n → k ≠ B → W'.heap[k]? = W.heap[k]?
theorem NearX.far {B : Nat} {W W' : World} (n : Nat) (h : NearX B W W') : FarX n B W W' := ⟨h.os, h.tape, h.output, by rw [h.size]; exact Nat.le_refl _, fun k _ hk => h.same k hk⟩
theorem farX_put {n : Nat} (B k : Nat) (o : Obj) (W : World) (h : n ≤ k) : FarX n B W (W.putObj k o) := ⟨rfl, rfl, rfl, by rw [World.putObj_size]; exact Nat.le_refl _, fun j hj _ => World.putObj_heap_other (by omega)⟩
theorem farX_alloc {n : Nat} (B : Nat) (o : Obj) (W : World) (h : n ≤ W.heap.size) : FarX n B W (W.alloc o) :=
  ⟨rfl, rfl, rfl, by rw [World.size_alloc]; omega, fun j hj _ => Below.heap_alloc W o j (by omega)⟩
theorem FarX.trans {n B : Nat} {W V U : World} (h : FarX n B W V) (g : FarX n B V U) : FarX n B W U :=
  ⟨g.os.trans h.os, g.tape.trans h.tape, g.output.trans h.output, Nat.le_trans h.size g.size, fun k h1 h2 => (g.same k h1 h2).trans (h.same k h1 h2)⟩
theorem FarX.box {n B k : Nat} {W W' : World} {v : Value} {t : TypeId} (h : BoxV W k v t) (g : FarX n B W W') (h1 : k < n) (h2 : k ≠ B) : BoxV W' k v t := (g.same k h1 h2).trans h
theorem FarX.below {n B m : Nat} {w W W' : World} (h : Below m w W) (g : FarX n B W W') (hn : m ≤ n) (hB : m ≤ B) : Below m w W' :=
  ⟨g.os.trans h.os, g.tape.trans h.tape, g.output.trans h.output, Nat.le_trans h.size g.size, fun k hk => (g.same k (by omega) (by omega)).trans (h.block k hk)⟩
/-- The body leaves the loop's own book alone. -/
def StaysX (n B : Nat) (W W' : World) : Prop := ∀ k o, (k = B ∨ n ≤ k) → W.heap[k]? = some o → W'.heap[k]? = some o

/-- How the body is left: at its end, or by a break. -/
def bodyX (n B : Nat) (I : World → Prop) (Ix : Nat → World → Prop) (W : World) : Exit → Act → World → Prop
  | .normal, _, W' => StaysX n B W W' ∧ I W'
  | .exit id, _, W' => StaysX n B W W' ∧ Ix id W'
  | _, _, _ => False

theorem rangeLines_in {n : Nat} (hn : 3 ≤ n) (s : ByteArray) (hs : s.size ≤ 1000000) {g : Operand} {ps : Array Tmp} {assign body : Code} {Q : Exit → Act → World → Prop} {a : Act} {w : World} (B : Nat)
    (hg : a.eval g = .func (.func 39) #[] #[.pointer (some ⟨B, 0, none⟩)]) (hp : ps.size = 1) (hB : LeftS s B w 0) (I : Nat → World → Prop) (Ix : Nat → World → Prop)
    (hI : ∀ p W W', I p W → FarX w.heap.size B W W' → I p W') (hIx : ∀ i W W', Ix i W → FarX w.heap.size B W W' → Ix i W') (h0 : I 0 w) (a₁ : ByteArray → Act)
    (hassign : ∀ (l : Nat) (x : ByteArray) (W : World) (K : Act → World → Prop), K (a₁ x) W →
      assign.wpIn (Fence.wide.inRound l) (n - 1 - 1) Try.prog (Exit.then K (fun _ _ _ => False)) { tmps := (ps.zip #[.string x]).foldl (fun t (p, v) => t.setIfInBounds p v) a.tmps, defers := [] } W)
    (hbody : ∀ (l p : Nat) (W : World), p < s.size → I p W →
      body.wpIn (Fence.wide.inRound l) (n - 1 - 1) Try.prog (bodyX w.heap.size B (I (nextN s.data.toList p)) Ix W) (a₁ (s.extract p (nextN s.data.toList p))) W)
    (hdone : ∀ (D : Nat) (W : World), w.heap.size ≤ D → I s.size W → W.heap[D]? = some (.deferred (some [])) → Q .normal { a with defers := { target := .collected D, args := #[] } :: a.defers } W)
    (hstop : ∀ (D i : Nat) (W : World), w.heap.size ≤ D → Ix i W → W.heap[D]? = some (.deferred (some [])) → (Code.exit i).wpIn Fence.wide n Try.prog Q { a with defers := { target := .collected D, args := #[] } :: a.defers } W) :
    (Code.rangeFunc g ps assign body).wpIn Fence.wide n Try.prog Q a w := by
  have hBlt := BoxV.lt hB
  refine wpIn_rangeFunc ?_
  intro fn hfn
  obtain ⟨book, hbook⟩ : ∃ book : LoopState → Option Code → Loop, ∀ st pe, book st pe = { state := st, pending := pe, fn, tmps := a.tmps, params := ps, assign, body, defers := w.heap.size } := ⟨_, fun _ _ => rfl⟩
  obtain ⟨V, hV⟩ : ∃ V, (w.alloc (.deferred (some []))).alloc (.loop (book .ready none)) = V := ⟨_, rfl⟩
  have v1 : V.heap[w.heap.size + 1]? = some (.loop (book .ready none)) := by
    rw [← hV]
    have := World.alloc_heap_new (w.alloc (.deferred (some []))) (.loop (book .ready none))
    rwa [World.size_alloc] at this
  have v0 : V.heap[w.heap.size]? = some (.deferred (some [])) := by
    rw [← hV]
    exact (Below.heap_alloc _ _ _ (by rw [World.size_alloc]; omega)).trans (World.alloc_heap_new w _)
  have vB : LeftS s B V 0 := by
    rw [← hV]
    unfold LeftS BoxV
    exact ((Below.heap_alloc _ _ _ (by rw [World.size_alloc]; omega)).trans (Below.heap_alloc _ _ _ hBlt)).trans hB
  have vI : I 0 V := by
    rw [← hV]
    exact hI _ _ _ h0 ((farX_alloc B _ w (Nat.le_refl _)).trans (farX_alloc B _ _ (by rw [World.size_alloc]; omega)))
  refine ⟨w.heap.size + 1, [{ target := .collected w.heap.size, args := #[] }], V, { target := .fn (.func 39) #[.pointer (some ⟨B, 0, none⟩)], args := #[.func (.yield (w.heap.size + 1)) #[] #[]] }, V, 39,
    #[.func (.yield (w.heap.size + 1)) #[] #[]] ++ #[.pointer (some ⟨B, 0, none⟩)], V, ?_, ?_, fun _ _ => trivial, ?_, (fun h => by cases h), ?_⟩
  · rw [← hV, hbook]; exact run_enterLoop_outer _ _ _ _ _
  · simp only [resolve, hg]
    simp [go_sem]
  · simp [invoke, go_sem]
  · refine (linesIter_in (n - 1) (by omega) s (w.heap.size + 1) B
      (fun p W => I p W ∧ W.heap[w.heap.size]? = some (.deferred (some [])) ∧ W.heap[w.heap.size + 1]? = some (.loop (book .ready none)))
      (fun W => ∃ i, Ix i W ∧ W.heap[w.heap.size]? = some (.deferred (some [])) ∧ W.heap[w.heap.size + 1]? = some (.loop (book .done (some (.exit i))))) hs
      (fun p W W' h g => ⟨hI _ _ _ h.1 (g.far _), (g.same _ (by omega)).trans h.2.1, (g.same _ (by omega)).trans h.2.2⟩) ?_ V vB ⟨vI, v0, v1⟩).mono ?_
    · rintro p W hps ⟨hi, hd, hl⟩ hL
      have hlt : w.heap.size + 1 < W.heap.size := (Array.getElem?_eq_some_iff.1 hl).1
      have hy := run_yield (P := Try.prog) (args := #[.string (s.extract p (nextN s.data.toList p))]) hl (by rw [hbook]; exact hp.symm)
      rw [hbook] at hy
      refine ⟨fn, _, assign, body, hy, roundIn_of_wpIn trivial (hassign _ _ W _ ⟨_, run_beginRound hl (by rw [hbook]), ?_⟩)⟩
      obtain ⟨U, hU⟩ : ∃ U, W.putObj (w.heap.size + 1) (.loop { book .ready none with state := .busy }) = U := ⟨_, rfl⟩
      have u1 : U.heap[w.heap.size + 1]? = some (.loop { book .ready none with state := .busy }) := by rw [← hU]; exact World.putObj_heap_same hlt
      have u0 : U.heap[w.heap.size]? = some (.deferred (some [])) := by rw [← hU]; exact (World.putObj_heap_other (by omega)).trans hd
      have uB : LeftS s B U (nextN s.data.toList p) := by rw [← hU]; exact (World.putObj_heap_other (by omega)).trans hL
      have uI : I p U := by rw [← hU]; exact hI _ _ _ hi (farX_put B _ _ W (by omega))
      rw [hU]
      refine wpIn_mono (hbody _ p U hps uI) ?_
      rintro e c X hx
      cases e with
      | normal =>
        obtain ⟨st, hi2⟩ := hx
        have x1 := st _ _ (.inr (by omega)) u1
        have hr := run_endRound (P := Try.prog) none x1
        refine ⟨_, _, hr, .inl ⟨rfl, ⟨hI _ _ _ hi2 (farX_put B _ _ X (by omega)), (World.putObj_heap_other (by omega)).trans (st _ _ (.inr (Nat.le_refl _)) u0), ?_⟩, (World.putObj_heap_other (by omega)).trans (st _ _ (.inl rfl) uB)⟩⟩
        rw [World.putObj_heap_same (Array.getElem?_eq_some_iff.1 x1).1, hbook]
        rfl
      | exit i =>
        obtain ⟨st, hi2⟩ := hx
        have x1 := st _ _ (.inr (by omega)) u1
        have hr := run_endRound (P := Try.prog) (some (.exit i)) x1
        refine ⟨_, _, hr, .inr ⟨rfl, i, hIx _ _ _ hi2 (farX_put B _ _ X (by omega)), (World.putObj_heap_other (by omega)).trans (st _ _ (.inr (Nat.le_refl _)) u0), ?_⟩⟩
        rw [World.putObj_heap_same (Array.getElem?_eq_some_iff.1 x1).1, hbook, hbook]
        rfl
      | ret => exact hx.elim
      | goto t => exact hx.elim
      | panic t => exact hx.elim
      | outgrown => exact hx.elim
    · rintro e X ⟨⟨v, rfl⟩, ⟨hi, hd, hl⟩ | ⟨i, hi, hd, hl⟩⟩
      · exact ⟨_, _, run_endLoop (P := Try.prog) hl (by rw [hbook]; simp), by
          rw [hbook]
          exact hdone _ _ (Nat.le_refl _) (hI _ _ _ hi (farX_put B _ _ X (by omega))) ((World.putObj_heap_other (by omega)).trans hd)⟩
      · exact ⟨_, _, run_endLoop (P := Try.prog) hl (by rw [hbook]; simp), by
          rw [hbook]
          exact hstop _ i _ (Nat.le_refl _) (hIx _ _ _ hi (farX_put B _ _ X (by omega))) ((World.putObj_heap_other (by omega)).trans hd)⟩
end Go.Proofs.Ytdkoonnimfildaa
