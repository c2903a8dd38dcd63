/-
  slices.Chunk of cells, as many rows of one length as there are: the function that it hands back goes through them one by one; a loop over it: what is owed of its body is one walk, from any row on; the loop's own book is kept here. The body is left at its end, or by a return.
-/
import Derived.RangeFuncLeaves
import Derived.RangeFuncCalls
import Derived.RangeFuncRecord
import Derived.RangeFuncBound
import Derived.Shelf.Abstract
import Derived.OwnWalkIn
import Derived.TacticsInMore
import Derived.LoopNIn
import Derived.LoopIn
import Derived.Shelf.RegionOpen
import Derived.Test.YtdibpoecdjnpaaaDoorBa8
namespace Go.Proofs.YtdibpoecdjnpaaaDoor
open Go.RowKit Go.Shelf

set_option maxHeartbeats 1000000 in
theorem chunk_any {ao : Option Addr} {N cap : Nat} (n : Nat) (w : World) (hn : 1 ≤ n) :
    Calls Tryd.prog 43 #[.slice ao N cap, .int .i64 (n : Int)] w fun e w' => e = .returned (.func (.func 51) #[] #[.pointer (some ⟨w.heap.size, 0, none⟩), .pointer (some ⟨w.heap.size + 1, 0, none⟩)]) ∧ w' = (w.alloc (.cells #[.slice ao N cap] 26)).alloc (.cells #[.int .i64 (n : Int)] 3) := by
  have h1 : (1 : Int) ≤ (n : Int) := by omega
  go_enter Tryd.func43, Tryd.ntmps43
  go_wp2
  go_ret
  exact ⟨rfl, rfl⟩

attribute [local go_sem] Oper.semAt_some

/-- The two variables that the function has caught. -/
def TwoB (Bs Bn g o N cap n : Nat) (W : World) : Prop := W.cell? ⟨Bs, 0, none⟩ = some (.slice (some ⟨g, o, none⟩) N cap) ∧ W.cell? ⟨Bn, 0, none⟩ = some (.int .i64 (n : Int))
theorem keep_rfl {ok : Nat → Prop} {W W' : World} (h1 : W'.os = W.os) (h2 : W'.tape = W.tape) (h3 : W'.output = W.output) (h4 : W'.heap = W.heap) : KeepW ok W W' := ⟨h1, h2, h3, by rw [h4]; exact Nat.le_refl _, fun _ _ _ => by rw [h4]⟩

set_option maxRecDepth 100000 in
set_option maxHeartbeats 4000000 in
theorem chunkIter_in (F : Nat) (hF : 1 ≤ F) (l Bs Bn g o N cap m n : Nat) (hN : N = m * n) (hcap : N ≤ cap) (hn : 8 ≤ n ∧ n ≤ 200) (hm : m ≤ 100) (J : Nat → World → Prop) (Jx : World → Prop)
    (hJ : ∀ k W W', J k W → KeepW (fun _ => True) W W' → J k W') (hB : ∀ k W, J k W → TwoB Bs Bn g o N cap n W)
    (hY : ∀ k W, k < m → J k W → YieldAt Fence.wide (F - 1) Tryd.prog l #[.slice (some ⟨g, o + k * n * 6, none⟩) n n] W fun e W' =>
      (e = .returned (.bool true) ∧ J (k + 1) W') ∨ (e = .returned (.bool false) ∧ Jx W'))
    (W : World) (h0 : J 0 W) :
    CallsIn Fence.wide F Tryd.prog 51 #[.func (.yield l) #[] #[], .pointer (some ⟨Bs, 0, none⟩), .pointer (some ⟨Bn, 0, none⟩)] W fun e W' => (∃ v, e = .returned v) ∧ (J m W' ∨ Jx W') := by
  have HY := Lib.hid hY
  have HJ := Lib.hid hJ
  have HB := Lib.hid hB
  have HN := Lib.hid hN
  clear hY hJ hB hN
  refine callsIn_of_wp Tryd.func51 rfl trivial ?_ rfl
  simp only [Tryd.ntmps51, List.size_toArray, List.length_cons, List.length_nil, Nat.reduceAdd, Nat.reduceSub, Array.replicate_succ, Array.replicate_zero, List.push_toArray, List.append_toArray, List.nil_append, List.cons_append]
  gi_wp2
  gi_loopw [4, 5] (fun s4 _ wr => ∃ k i : Nat, s4 = .int .i64 (i : Int) ∧ Hid (i = k * n) ∧ k ≤ m ∧ Hid (J k wr)) (fun s4 _ _ => N - (intOf s4).toNat)
  case atStart => exact ⟨0, 0, rfl, (by show 0 = 0 * n; omega), Nat.zero_le _, h0⟩
  case round =>
    obtain ⟨k, i, rfl, HI, hk, HJk⟩ := hrel
    obtain ⟨c1, c2⟩ := HB.out k wr HJk.out
    by_cases hlt : k < m
    · have hr := row_room (n := n) hlt
      rw [← HN.out, ← HI.out] at hr
      have hb : i ≤ 20000 := by rw [HI.out]; exact Nat.mul_le_mul (show k ≤ 100 by omega) hn.2
      obtain ⟨y, hy⟩ : ∃ y, i + n = y := ⟨_, rfl⟩
      have i1 : (i : Int) < (N : Int) := by omega
      have i2 : (0 : Int) ≤ (i : Int) := by omega
      have i3 : (n : Int) ≤ ((N - i : Nat) : Int) := by omega
      have i4 : (i : Int) + (n : Int) = (y : Int) := by omega
      have i5 : (y : Int) ≤ (cap : Int) := by omega
      have i6 : (i : Int) ≤ (y : Int) := by omega
      have i7 : (i : Int) < (cap : Int) := by omega
      have i8 : y - i = n := by omega
      have i9 : (y : Int) ≤ 20200 := by omega
      have i10 : (0 : Int) ≤ (y : Int) := by omega
      have HYy := Lib.hid hy
      clear hb hr hy
      gi_wp2
      gi_region
      obtain ⟨W2, hW2⟩ : ∃ W2, wr.drew = W2 := ⟨_, rfl⟩
      have hj2 : J k W2 := by rw [← hW2]; exact HJ.out _ _ _ HJk.out (keep_drew _ _)
      obtain ⟨c3, c4⟩ := HB.out k W2 hj2
      obtain ⟨fn, tmps, assign, body, hyy, hR⟩ := HY.out k W2 hlt hj2
      rw [← HI.out] at hyy
      have HR := Lib.hid hR
      rw [hW2]
      clear hW2 hR hj2 c1 c2
      gi_wp2
      refine HR.out.mono ?_
      rintro e W3 (⟨rfl, hj3⟩ | ⟨rfl, hx⟩)
      · obtain ⟨c5, c6⟩ := HB.out _ W3 hj3
        have HJ3 := Lib.hid hj3
        clear hj3 HR hyy
        gi_wp2
        go_roundw
        case rel => exact ⟨k + 1, y, rfl, (by show y = _; rw [← HYy.out, HI.out, Nat.add_mul, Nat.one_mul]), hlt, HJ3.out⟩
        case measure => simp [intOf]; have := HYy.out; omega
      · clear HR hyy
        gi_wp2
        refine bodyPost_ret (results_none rfl _ _ _) rfl ?_
        exact ⟨⟨_, rfl⟩, .inr hx⟩
    · obtain rfl : k = m := by omega
      have i1 : ¬ (i : Int) < (N : Int) := by have := HI.out; have := HN.out; omega
      gi_wp2
      go_end0
      exact ⟨⟨_, rfl⟩, .inl HJk.out⟩

/-- The body leaves the loop's own book alone. -/
def StaysC (n : Nat) (W W' : World) : Prop := ∀ k o, (k = n ∨ k = n + 1) → W.heap[k]? = some o → W'.heap[k]? = some o
def NotB (n : Nat) : Nat → Prop := fun k => k ≠ n ∧ k ≠ n + 1
/-- How the body is left: at its end, or by a return. -/
def bodyC (n : Nat) (I : World → Prop) (Ix : World → Prop) (W : World) : Exit → Act → World → Prop
  | .normal, _, W' => StaysC n W W' ∧ I W'
  | .ret, _, W' => StaysC n W W' ∧ Ix W'
  | _, _, _ => False
theorem keep_put (n k : Nat) (o : Obj) (W : World) (h : k = n ∨ k = n + 1) : KeepW (NotB n) W (W.putObj k o) := ⟨rfl, rfl, rfl, by rw [World.putObj_size]; exact Nat.le_refl _, fun j _ hj => World.putObj_heap_other (fun e => by subst e; unfold NotB at hj; omega)⟩
theorem keep_alloc {ok : Nat → Prop} (o : Obj) (W : World) : KeepW ok W (W.alloc o) := ⟨rfl, rfl, rfl, by rw [World.size_alloc]; omega, fun j hj _ => Below.heap_alloc W o j hj⟩

theorem rangeChunk_in {F : Nat} (hF : 3 ≤ F) {gf : Operand} {ps : Array Tmp} {assign body : Code} {Q : Exit → Act → World → Prop} {a : Act} {w : World} (Bs Bn g o N cap m n : Nat) (hN : N = m * n) (hcap : N ≤ cap) (hn : 8 ≤ n ∧ n ≤ 200) (hm : m ≤ 100)
    (hg : a.eval gf = .func (.func 51) #[] #[.pointer (some ⟨Bs, 0, none⟩), .pointer (some ⟨Bn, 0, none⟩)]) (hp : ps.size = 1) (I : Nat → World → Prop) (Ix : World → Prop)
    (hI : ∀ k W W', I k W → KeepW (NotB w.heap.size) W W' → I k W') (hIx : ∀ W W', Ix W → KeepW (NotB w.heap.size) W W' → Ix W') (hIB : ∀ k W, I k W → TwoB Bs Bn g o N cap n W) (h0 : I 0 w) (a₁ : Value → Act)
    (hassign : ∀ (l : Nat) (x : Value) (W : World) (K : Act → World → Prop), K (a₁ x) W →
      assign.wpIn (Fence.wide.inRound l) (F - 1 - 1) Tryd.prog (Exit.then K (fun _ _ _ => False)) { tmps := (ps.zip #[x]).foldl (fun t (p, v) => t.setIfInBounds p v) a.tmps, defers := [] } W)
    (hbody : ∀ (l k : Nat) (W : World), k < m → w.heap.size + 1 < W.heap.size → I k W →
      body.wpIn (Fence.wide.inRound l) (F - 1 - 1) Tryd.prog (bodyC w.heap.size (I (k + 1)) Ix W) (a₁ (.slice (some ⟨g, o + k * n * 6, none⟩) n n)) W)
    (hdone : ∀ (D : Nat) (W : World), w.heap.size = D → I m W → W.heap[D]? = some (.deferred (some [])) → Q .normal { a with defers := { target := .collected D, args := #[] } :: a.defers } W)
    (hstop : ∀ (D : Nat) (W : World), w.heap.size = D → Ix W → W.heap[D]? = some (.deferred (some [])) → Code.ret.wpIn Fence.wide F Tryd.prog Q { a with defers := { target := .collected D, args := #[] } :: a.defers } W) :
    (Code.rangeFunc gf ps assign body).wpIn Fence.wide F Tryd.prog Q a w := by
  refine wpIn_rangeFunc ?_
  intro fn hfn
  obtain ⟨book, hbook⟩ : ∃ book : LoopState → Option Code → Loop, ∀ st pe, book st pe = { state := st, pending := pe, fn, tmps := a.tmps, params := ps, assign, body, defers := w.heap.size } := ⟨_, fun _ _ => rfl⟩
  obtain ⟨V, hV⟩ : ∃ V, (w.alloc (.deferred (some []))).alloc (.loop (book .ready none)) = V := ⟨_, rfl⟩
  have v1 : V.heap[w.heap.size + 1]? = some (.loop (book .ready none)) := by
    rw [← hV]
    have := World.alloc_heap_new (w.alloc (.deferred (some []))) (.loop (book .ready none))
    rwa [World.size_alloc] at this
  have v0 : V.heap[w.heap.size]? = some (.deferred (some [])) := by
    rw [← hV]
    exact (Below.heap_alloc _ _ _ (by rw [World.size_alloc]; omega)).trans (World.alloc_heap_new w _)
  have vI : I 0 V := by
    rw [← hV]
    exact hI _ _ _ h0 ((keep_alloc _ w).trans (keep_alloc _ _))
  refine ⟨w.heap.size + 1, [{ target := .collected w.heap.size, args := #[] }], V, { target := .fn (.func 51) #[.pointer (some ⟨Bs, 0, none⟩), .pointer (some ⟨Bn, 0, none⟩)], args := #[.func (.yield (w.heap.size + 1)) #[] #[]] }, V, 51,
    #[.func (.yield (w.heap.size + 1)) #[] #[]] ++ #[.pointer (some ⟨Bs, 0, none⟩), .pointer (some ⟨Bn, 0, none⟩)], V, ?_, ?_, fun _ _ => trivial, ?_, (fun h => by cases h), ?_⟩
  · rw [← hV, hbook]; exact run_enterLoop_outer _ _ _ _ _
  · simp only [resolve, hg]
    simp [go_sem]
  · simp [invoke, go_sem]
  · refine (chunkIter_in (F - 1) (by omega) (w.heap.size + 1) Bs Bn g o N cap m n hN hcap hn hm
      (fun k W => I k W ∧ W.heap[w.heap.size]? = some (.deferred (some [])) ∧ W.heap[w.heap.size + 1]? = some (.loop (book .ready none)))
      (fun W => Ix W ∧ W.heap[w.heap.size]? = some (.deferred (some [])) ∧ W.heap[w.heap.size + 1]? = some (.loop (book .done (some .ret))))
      (fun k W W' h g => ⟨hI _ _ _ h.1 (g.mono fun _ _ _ => trivial), (g.same _ (Array.getElem?_eq_some_iff.1 h.2.1).1 trivial).trans h.2.1, (g.same _ (Array.getElem?_eq_some_iff.1 h.2.2).1 trivial).trans h.2.2⟩) (fun k W h => hIB k W h.1) ?_ V ⟨vI, v0, v1⟩).mono ?_
    · rintro k W hk ⟨hi, hd, hl⟩
      have hlt : w.heap.size + 1 < W.heap.size := (Array.getElem?_eq_some_iff.1 hl).1
      have hy := run_yield (P := Tryd.prog) (args := #[.slice (some ⟨g, o + k * n * 6, none⟩) n n]) hl (by rw [hbook]; exact hp.symm)
      rw [hbook] at hy
      refine ⟨fn, _, assign, body, hy, roundIn_of_wpIn trivial (hassign _ _ W _ ⟨_, run_beginRound hl (by rw [hbook]), ?_⟩)⟩
      obtain ⟨U, hU⟩ : ∃ U, W.putObj (w.heap.size + 1) (.loop { book .ready none with state := .busy }) = U := ⟨_, rfl⟩
      have u1 : U.heap[w.heap.size + 1]? = some (.loop { book .ready none with state := .busy }) := by rw [← hU]; exact World.putObj_heap_same hlt
      have u0 : U.heap[w.heap.size]? = some (.deferred (some [])) := by rw [← hU]; exact (World.putObj_heap_other (by omega)).trans hd
      have uI : I k U := by rw [← hU]; exact hI _ _ _ hi (keep_put _ _ _ W (.inr rfl))
      rw [hU]
      refine wpIn_mono (hbody _ k U hk (Array.getElem?_eq_some_iff.1 u1).1 uI) ?_
      rintro e c X hx
      cases e with
      | normal =>
        obtain ⟨st, hi2⟩ := hx
        have x1 := st _ _ (.inr rfl) u1
        have hr := run_endRound (P := Tryd.prog) none x1
        refine ⟨_, _, hr, .inl ⟨rfl, hI _ _ _ hi2 (keep_put _ _ _ X (.inr rfl)), (World.putObj_heap_other (by omega)).trans (st _ _ (.inl rfl) u0), ?_⟩⟩
        rw [World.putObj_heap_same (Array.getElem?_eq_some_iff.1 x1).1, hbook]
        rfl
      | ret =>
        obtain ⟨st, hi2⟩ := hx
        have x1 := st _ _ (.inr rfl) u1
        have hr := run_endRound (P := Tryd.prog) (some .ret) x1
        refine ⟨_, _, hr, .inr ⟨rfl, hIx _ _ hi2 (keep_put _ _ _ X (.inr rfl)), (World.putObj_heap_other (by omega)).trans (st _ _ (.inl rfl) u0), ?_⟩⟩
        rw [World.putObj_heap_same (Array.getElem?_eq_some_iff.1 x1).1, hbook, hbook]
        rfl
      | exit i => exact hx.elim
      | goto t => exact hx.elim
      | panic t => exact hx.elim
      | outgrown => exact hx.elim
    · rintro e X ⟨⟨v, rfl⟩, ⟨hi, hd, hl⟩ | ⟨hi, hd, hl⟩⟩
      · exact ⟨_, _, run_endLoop (P := Tryd.prog) hl (by rw [hbook]; simp), by
          rw [hbook]
          exact hdone _ _ rfl (hI _ _ _ hi (keep_put _ _ _ X (.inr rfl))) ((World.putObj_heap_other (by omega)).trans hd)⟩
      · exact ⟨_, _, run_endLoop (P := Tryd.prog) hl (by rw [hbook]; simp), by
          rw [hbook]
          exact hstop _ _ rfl (hIx _ _ hi (keep_put _ _ _ X (.inr rfl))) ((World.putObj_heap_other (by omega)).trans hd)⟩
end Go.Proofs.YtdibpoecdjnpaaaDoor
