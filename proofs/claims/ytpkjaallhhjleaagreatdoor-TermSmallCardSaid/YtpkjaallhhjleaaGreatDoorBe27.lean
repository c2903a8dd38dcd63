/-
  Texts of this proof, one behind the other; each begins with its own remark.
-/
import Derived.RangeFuncLeaves
import Derived.RangeFuncCalls
import Derived.RangeFuncRecord
import Derived.RangeFuncBound
import Derived.Shelf.Abstract
import Derived.OwnWalkIn
import Derived.TacticsInMore
import Derived.LoopNIn
import Derived.LoopIn
import Derived.Shelf.RegionOpen
import Derived.Test.YtpkjaallhhjleaaGreatDoorBe13
import Derived.Test.YtpkjaallhhjleaaGreatDoorBe26
import Derived.Test.YtpkjaallhhjleaaGreatDoorBe14
import Derived.Test.YtpkjaallhhjleaaGreatDoorBe22
/-
  slices.Chunk of cells, as many rows of one length as there are: the function that it hands back goes through them one by one; a loop over it: what is owed of its body is one walk, from any row on; the loop's own book is kept here. The body is left at its end, or by a return.
-/
namespace Go.Proofs.YtpkjaallhhjleaaGreatDoor
open Go.RowKit Go.Shelf

set_option maxHeartbeats 1000000 in
theorem chunk_any {ao : Option Addr} {N cap : Nat} (n : Nat) (w : World) (hn : 1 ≤ n) :
    Calls Tryz.prog 42 #[.slice ao N cap, .int .i64 (n : Int)] w fun e w' => e = .returned (.func (.func 74) #[] #[.pointer (some ⟨w.heap.size, 0, none⟩), .pointer (some ⟨w.heap.size + 1, 0, none⟩)]) ∧ w' = (w.alloc (.cells #[.slice ao N cap] 33)).alloc (.cells #[.int .i64 (n : Int)] 3) := by
  have h1 : (1 : Int) ≤ (n : Int) := by omega
  go_enter Tryz.func42, Tryz.ntmps42
  go_wp2
  go_ret
  exact ⟨rfl, rfl⟩

attribute [local go_sem] Oper.semAt_some

/-- The two variables that the function has caught. -/
def TwoB (Bs Bn g o N cap n : Nat) (W : World) : Prop := W.cell? ⟨Bs, 0, none⟩ = some (.slice (some ⟨g, o, none⟩) N cap) ∧ W.cell? ⟨Bn, 0, none⟩ = some (.int .i64 (n : Int))
theorem keep_rfl {ok : Nat → Prop} {W W' : World} (h1 : W'.os = W.os) (h2 : W'.tape = W.tape) (h3 : W'.output = W.output) (h4 : W'.heap = W.heap) : KeepW ok W W' := ⟨h1, h2, h3, by rw [h4]; exact Nat.le_refl _, fun _ _ _ => by rw [h4]⟩

set_option maxRecDepth 100000 in
set_option maxHeartbeats 4000000 in
theorem chunkIter_in (F : Nat) (hF : 1 ≤ F) (l Bs Bn g o N cap m n : Nat) (hN : N = m * n) (hcap : N ≤ cap) (hn : 8 ≤ n ∧ n ≤ 200) (hm : m ≤ 100) (J : Nat → World → Prop) (Jx : World → Prop)
    (hJ : ∀ k W W', J k W → KeepW (fun _ => True) W W' → J k W') (hB : ∀ k W, J k W → TwoB Bs Bn g o N cap n W)
    (hY : ∀ k W, k < m → J k W → YieldAt Fence.wide (F - 1) Tryz.prog l #[.slice (some ⟨g, o + k * n * 6, none⟩) n n] W fun e W' =>
      (e = .returned (.bool true) ∧ J (k + 1) W') ∨ (e = .returned (.bool false) ∧ Jx W'))
    (W : World) (h0 : J 0 W) :
    CallsIn Fence.wide F Tryz.prog 74 #[.func (.yield l) #[] #[], .pointer (some ⟨Bs, 0, none⟩), .pointer (some ⟨Bn, 0, none⟩)] W fun e W' => (∃ v, e = .returned v) ∧ (J m W' ∨ Jx W') := by
  have HY := Lib.hid hY
  have HJ := Lib.hid hJ
  have HB := Lib.hid hB
  have HN := Lib.hid hN
  clear hY hJ hB hN
  refine callsIn_of_wp Tryz.func74 rfl trivial ?_ rfl
  simp only [Tryz.ntmps74, List.size_toArray, List.length_cons, List.length_nil, Nat.reduceAdd, Nat.reduceSub, Array.replicate_succ, Array.replicate_zero, List.push_toArray, List.append_toArray, List.nil_append, List.cons_append]
  gi_wp2
  gi_loopw [4, 5] (fun s4 _ wr => ∃ k i : Nat, s4 = .int .i64 (i : Int) ∧ Hid (i = k * n) ∧ k ≤ m ∧ Hid (J k wr)) (fun s4 _ _ => N - (intOf s4).toNat)
  case atStart => exact ⟨0, 0, rfl, (by show 0 = 0 * n; omega), Nat.zero_le _, h0⟩
  case round =>
    obtain ⟨k, i, rfl, HI, hk, HJk⟩ := hrel
    obtain ⟨c1, c2⟩ := HB.out k wr HJk.out
    by_cases hlt : k < m
    · have hr := row_room (n := n) hlt
      rw [← HN.out, ← HI.out] at hr
      have hb : i ≤ 20000 := by rw [HI.out]; exact Nat.mul_le_mul (show k ≤ 100 by omega) hn.2
      obtain ⟨y, hy⟩ : ∃ y, i + n = y := ⟨_, rfl⟩
      have i1 : (i : Int) < (N : Int) := by omega
      have i2 : (0 : Int) ≤ (i : Int) := by omega
      have i3 : (n : Int) ≤ ((N - i : Nat) : Int) := by omega
      have i4 : (i : Int) + (n : Int) = (y : Int) := by omega
      have i5 : (y : Int) ≤ (cap : Int) := by omega
      have i6 : (i : Int) ≤ (y : Int) := by omega
      have i7 : (i : Int) < (cap : Int) := by omega
      have i8 : y - i = n := by omega
      have i9 : (y : Int) ≤ 20200 := by omega
      have i10 : (0 : Int) ≤ (y : Int) := by omega
      have HYy := Lib.hid hy
      clear hb hr hy
      gi_wp2
      gi_region
      obtain ⟨W2, hW2⟩ : ∃ W2, wr.drew = W2 := ⟨_, rfl⟩
      have hj2 : J k W2 := by rw [← hW2]; exact HJ.out _ _ _ HJk.out (keep_drew _ _)
      obtain ⟨c3, c4⟩ := HB.out k W2 hj2
      obtain ⟨fn, tmps, assign, body, hyy, hR⟩ := HY.out k W2 hlt hj2
      rw [← HI.out] at hyy
      have HR := Lib.hid hR
      rw [hW2]
      clear hW2 hR hj2 c1 c2
      gi_wp2
      refine HR.out.mono ?_
      rintro e W3 (⟨rfl, hj3⟩ | ⟨rfl, hx⟩)
      · obtain ⟨c5, c6⟩ := HB.out _ W3 hj3
        have HJ3 := Lib.hid hj3
        clear hj3 HR hyy
        gi_wp2
        go_roundw
        case rel => exact ⟨k + 1, y, rfl, (by show y = _; rw [← HYy.out, HI.out, Nat.add_mul, Nat.one_mul]), hlt, HJ3.out⟩
        case measure => simp [intOf]; have := HYy.out; omega
      · clear HR hyy
        gi_wp2
        refine bodyPost_ret (results_none rfl _ _ _) rfl ?_
        exact ⟨⟨_, rfl⟩, .inr hx⟩
    · obtain rfl : k = m := by omega
      have i1 : ¬ (i : Int) < (N : Int) := by have := HI.out; have := HN.out; omega
      gi_wp2
      go_end0
      exact ⟨⟨_, rfl⟩, .inl HJk.out⟩

/-- The body leaves the loop's own book alone. -/
def StaysC (n : Nat) (W W' : World) : Prop := ∀ k o, (k = n ∨ k = n + 1) → W.heap[k]? = some o → W'.heap[k]? = some o
def NotB (n : Nat) : Nat → Prop := fun k => k ≠ n ∧ k ≠ n + 1
/-- How the body is left: at its end, or by a return. -/
def bodyC (n : Nat) (I : World → Prop) (Ix : World → Prop) (W : World) : Exit → Act → World → Prop
  | .normal, _, W' => StaysC n W W' ∧ I W'
  | .ret, _, W' => StaysC n W W' ∧ Ix W'
  | _, _, _ => False
theorem keep_put (n k : Nat) (o : Obj) (W : World) (h : k = n ∨ k = n + 1) : KeepW (NotB n) W (W.putObj k o) := ⟨rfl, rfl, rfl, by rw [World.putObj_size]; exact Nat.le_refl _, fun j _ hj => World.putObj_heap_other (fun e => by subst e; unfold NotB at hj; omega)⟩
theorem keep_alloc {ok : Nat → Prop} (o : Obj) (W : World) : KeepW ok W (W.alloc o) := ⟨rfl, rfl, rfl, by rw [World.size_alloc]; omega, fun j hj _ => Below.heap_alloc W o j hj⟩

theorem rangeChunk_in {F : Nat} (hF : 3 ≤ F) {gf : Operand} {ps : Array Tmp} {assign body : Code} {Q : Exit → Act → World → Prop} {a : Act} {w : World} (Bs Bn g o N cap m n : Nat) (hN : N = m * n) (hcap : N ≤ cap) (hn : 8 ≤ n ∧ n ≤ 200) (hm : m ≤ 100)
    (hg : a.eval gf = .func (.func 74) #[] #[.pointer (some ⟨Bs, 0, none⟩), .pointer (some ⟨Bn, 0, none⟩)]) (hp : ps.size = 1) (I : Nat → World → Prop) (Ix : World → Prop)
    (hI : ∀ k W W', I k W → KeepW (NotB w.heap.size) W W' → I k W') (hIx : ∀ W W', Ix W → KeepW (NotB w.heap.size) W W' → Ix W') (hIB : ∀ k W, I k W → TwoB Bs Bn g o N cap n W) (h0 : I 0 w) (a₁ : Value → Act)
    (hassign : ∀ (l : Nat) (x : Value) (W : World) (K : Act → World → Prop), K (a₁ x) W →
      assign.wpIn (Fence.wide.inRound l) (F - 1 - 1) Tryz.prog (Exit.then K (fun _ _ _ => False)) { tmps := (ps.zip #[x]).foldl (fun t (p, v) => t.setIfInBounds p v) a.tmps, defers := [] } W)
    (hbody : ∀ (l k : Nat) (W : World), k < m → w.heap.size + 1 < W.heap.size → I k W →
      body.wpIn (Fence.wide.inRound l) (F - 1 - 1) Tryz.prog (bodyC w.heap.size (I (k + 1)) Ix W) (a₁ (.slice (some ⟨g, o + k * n * 6, none⟩) n n)) W)
    (hdone : ∀ (D : Nat) (W : World), w.heap.size = D → I m W → W.heap[D]? = some (.deferred (some [])) → Q .normal { a with defers := { target := .collected D, args := #[] } :: a.defers } W)
    (hstop : ∀ (D : Nat) (W : World), w.heap.size = D → Ix W → W.heap[D]? = some (.deferred (some [])) → Code.ret.wpIn Fence.wide F Tryz.prog Q { a with defers := { target := .collected D, args := #[] } :: a.defers } W) :
    (Code.rangeFunc gf ps assign body).wpIn Fence.wide F Tryz.prog Q a w := by
  refine wpIn_rangeFunc ?_
  intro fn hfn
  obtain ⟨book, hbook⟩ : ∃ book : LoopState → Option Code → Loop, ∀ st pe, book st pe = { state := st, pending := pe, fn, tmps := a.tmps, params := ps, assign, body, defers := w.heap.size } := ⟨_, fun _ _ => rfl⟩
  obtain ⟨V, hV⟩ : ∃ V, (w.alloc (.deferred (some []))).alloc (.loop (book .ready none)) = V := ⟨_, rfl⟩
  have v1 : V.heap[w.heap.size + 1]? = some (.loop (book .ready none)) := by
    rw [← hV]
    have := World.alloc_heap_new (w.alloc (.deferred (some []))) (.loop (book .ready none))
    rwa [World.size_alloc] at this
  have v0 : V.heap[w.heap.size]? = some (.deferred (some [])) := by
    rw [← hV]
    exact (Below.heap_alloc _ _ _ (by rw [World.size_alloc]; omega)).trans (World.alloc_heap_new w _)
  have vI : I 0 V := by
    rw [← hV]
    exact hI _ _ _ h0 ((keep_alloc _ w).trans (keep_alloc _ _))
  refine ⟨w.heap.size + 1, [{ target := .collected w.heap.size, args := #[] }], V, { target := .fn (.func 74) #[.pointer (some ⟨Bs, 0, none⟩), .pointer (some ⟨Bn, 0, none⟩)], args := #[.func (.yield (w.heap.size + 1)) #[] #[]] }, V, 74,
    #[.func (.yield (w.heap.size + 1)) #[] #[]] ++ #[.pointer (some ⟨Bs, 0, none⟩), .pointer (some ⟨Bn, 0, none⟩)], V, ?_, ?_, fun _ _ => trivial, ?_, (fun h => by cases h), ?_⟩
  · rw [← hV, hbook]; exact run_enterLoop_outer _ _ _ _ _
  · simp only [resolve, hg]
    simp [go_sem]
  · simp [invoke, go_sem]
  · refine (chunkIter_in (F - 1) (by omega) (w.heap.size + 1) Bs Bn g o N cap m n hN hcap hn hm
      (fun k W => I k W ∧ W.heap[w.heap.size]? = some (.deferred (some [])) ∧ W.heap[w.heap.size + 1]? = some (.loop (book .ready none)))
      (fun W => Ix W ∧ W.heap[w.heap.size]? = some (.deferred (some [])) ∧ W.heap[w.heap.size + 1]? = some (.loop (book .done (some .ret))))
      (fun k W W' h g => ⟨hI _ _ _ h.1 (g.mono fun _ _ _ => trivial), (g.same _ (Array.getElem?_eq_some_iff.1 h.2.1).1 trivial).trans h.2.1, (g.same _ (Array.getElem?_eq_some_iff.1 h.2.2).1 trivial).trans h.2.2⟩) (fun k W h => hIB k W h.1) ?_ V ⟨vI, v0, v1⟩).mono ?_
    · rintro k W hk ⟨hi, hd, hl⟩
      have hlt : w.heap.size + 1 < W.heap.size := (Array.getElem?_eq_some_iff.1 hl).1
      have hy := run_yield (P := Tryz.prog) (args := #[.slice (some ⟨g, o + k * n * 6, none⟩) n n]) hl (by rw [hbook]; exact hp.symm)
      rw [hbook] at hy
      refine ⟨fn, _, assign, body, hy, roundIn_of_wpIn trivial (hassign _ _ W _ ⟨_, run_beginRound hl (by rw [hbook]), ?_⟩)⟩
      obtain ⟨U, hU⟩ : ∃ U, W.putObj (w.heap.size + 1) (.loop { book .ready none with state := .busy }) = U := ⟨_, rfl⟩
      have u1 : U.heap[w.heap.size + 1]? = some (.loop { book .ready none with state := .busy }) := by rw [← hU]; exact World.putObj_heap_same hlt
      have u0 : U.heap[w.heap.size]? = some (.deferred (some [])) := by rw [← hU]; exact (World.putObj_heap_other (by omega)).trans hd
      have uI : I k U := by rw [← hU]; exact hI _ _ _ hi (keep_put _ _ _ W (.inr rfl))
      rw [hU]
      refine wpIn_mono (hbody _ k U hk (Array.getElem?_eq_some_iff.1 u1).1 uI) ?_
      rintro e c X hx
      cases e with
      | normal =>
        obtain ⟨st, hi2⟩ := hx
        have x1 := st _ _ (.inr rfl) u1
        have hr := run_endRound (P := Tryz.prog) none x1
        refine ⟨_, _, hr, .inl ⟨rfl, hI _ _ _ hi2 (keep_put _ _ _ X (.inr rfl)), (World.putObj_heap_other (by omega)).trans (st _ _ (.inl rfl) u0), ?_⟩⟩
        rw [World.putObj_heap_same (Array.getElem?_eq_some_iff.1 x1).1, hbook]
        rfl
      | ret =>
        obtain ⟨st, hi2⟩ := hx
        have x1 := st _ _ (.inr rfl) u1
        have hr := run_endRound (P := Tryz.prog) (some .ret) x1
        refine ⟨_, _, hr, .inr ⟨rfl, hIx _ _ hi2 (keep_put _ _ _ X (.inr rfl)), (World.putObj_heap_other (by omega)).trans (st _ _ (.inl rfl) u0), ?_⟩⟩
        rw [World.putObj_heap_same (Array.getElem?_eq_some_iff.1 x1).1, hbook, hbook]
        rfl
      | exit i => exact hx.elim
      | goto t => exact hx.elim
      | panic t => exact hx.elim
      | outgrown => exact hx.elim
    · rintro e X ⟨⟨v, rfl⟩, ⟨hi, hd, hl⟩ | ⟨hi, hd, hl⟩⟩
      · exact ⟨_, _, run_endLoop (P := Tryz.prog) hl (by rw [hbook]; simp), by
          rw [hbook]
          exact hdone _ _ rfl (hI _ _ _ hi (keep_put _ _ _ X (.inr rfl))) ((World.putObj_heap_other (by omega)).trans hd)⟩
      · exact ⟨_, _, run_endLoop (P := Tryz.prog) hl (by rw [hbook]; simp), by
          rw [hbook]
          exact hstop _ _ rfl (hIx _ _ hi (keep_put _ _ _ X (.inr rfl))) ((World.putObj_heap_other (by omega)).trans hd)⟩
end Go.Proofs.YtpkjaallhhjleaaGreatDoor

/-
  grids.Valid: what it returns: for every frame.
-/
namespace Go.Proofs.YtpkjaallhhjleaaGreatDoor
open Go.RowKit Go.Shelf

theorem validB_head {f : Frm} (h1 : sizedB f.rows f.cols = true) (h2 : (f.cells.length : Int) = f.rows * f.cols) (h3 : withinB f.rows f.cols f.row f.col = true) : validB f = rowsB f.cells f.cols.toNat f.rows.toNat := by
  unfold validB
  rw [h1, h3, decide_eq_true h2]
  rfl
theorem mul_room {a b : Int} (h : sizedB a b = true) : 0 ≤ a * b ∧ a * b ≤ 20000 := by
  obtain ⟨h1, h2, h3, h4⟩ := (sizedB_iff a b).1 h
  obtain ⟨m, rfl⟩ : ∃ m : Nat, a = (m : Int) := ⟨a.toNat, by omega⟩
  obtain ⟨n, rfl⟩ : ∃ n : Nat, b = (n : Int) := ⟨b.toNat, by omega⟩
  rw [← Int.natCast_mul]
  have := Nat.mul_le_mul (show m ≤ 100 by omega) (show n ≤ 200 by omega)
  omega

section
variable {ok : Nat → Prop} {ao : Option Addr} {N cap : Nat}
/-- What stands ahead of the rows refuses it. -/
theorem valid_size (f : Frm) (w : World) (h : sizedB f.rows f.cols = false) :
    Calls Tryz.prog 19 #[.agg #[.int .i64 f.rows, .int .i64 f.cols, .slice ao N cap, .int .i64 f.row, .int .i64 f.col]] w fun e w' => e = .returned (.bool false) ∧ Below w.heap.size w w' := by
  have H := Lib.hid (fun w => sized_any f.rows f.cols w)
  rw [h] at H
  clear h
  go_enter Tryz.func19, Tryz.ntmps19
  go_wp2_with fail
  go_fit (H.out _)
  rintro e w2 ⟨rfl, rfl⟩
  go_wp2
  exact bodyPost_ret (v := .bool false) (by simp [results, Tryz.results19, go_sem]) rfl ⟨rfl, ((Below.refl _ w).alloc (Nat.le_refl _) _).alloc (by simp) _⟩
theorem valid_len (f : Frm) (w : World) (h : sizedB f.rows f.cols = true) (h2 : (N : Int) ≠ f.rows * f.cols) :
    Calls Tryz.prog 19 #[.agg #[.int .i64 f.rows, .int .i64 f.cols, .slice ao N cap, .int .i64 f.row, .int .i64 f.col]] w fun e w' => e = .returned (.bool false) ∧ Below w.heap.size w w' := by
  have H := Lib.hid (fun w => sized_any f.rows f.cols w)
  rw [h] at H
  have hr := mul_room h
  obtain ⟨P, hP⟩ : ∃ P, f.rows * f.cols = P := ⟨_, rfl⟩
  rw [hP] at h2 hr
  have b2 : ((N : Int) != P) = true := by simpa using h2
  obtain ⟨r1, r2⟩ := hr
  clear h h2
  go_enter Tryz.func19, Tryz.ntmps19
  go_wp2_with fail
  go_fit (H.out _)
  rintro e w2 ⟨rfl, rfl⟩
  go_wp2
  exact bodyPost_ret (v := .bool false) (by simp [results, Tryz.results19, go_sem]) rfl ⟨rfl, ((Below.refl _ w).alloc (Nat.le_refl _) _).alloc (by simp) _⟩
theorem valid_cursor (f : Frm) (w : World) (h : sizedB f.rows f.cols = true) (h2 : (N : Int) = f.rows * f.cols) (h3 : withinB f.rows f.cols f.row f.col = false) :
    Calls Tryz.prog 19 #[.agg #[.int .i64 f.rows, .int .i64 f.cols, .slice ao N cap, .int .i64 f.row, .int .i64 f.col]] w fun e w' => e = .returned (.bool false) ∧ Below w.heap.size w w' := by
  have H := Lib.hid (fun w => sized_any f.rows f.cols w)
  rw [h] at H
  have H2 := Lib.hid (fun w => within_any (ao := ao) (n := N) (cap := cap) f.rows f.cols f.row f.col f.row f.col w)
  rw [h3] at H2
  have hr := mul_room h
  obtain ⟨P, hP⟩ : ∃ P, f.rows * f.cols = P := ⟨_, rfl⟩
  rw [hP] at h2 hr
  have b2 : ((N : Int) != P) = false := by simpa using h2
  obtain ⟨r1, r2⟩ := hr
  have hB0 := (boxW.new (w.alloc (.cells #[.int .i64 f.rows, .int .i64 f.cols, .slice ao N cap, .int .i64 f.row, .int .i64 f.col] 35)) (.bool false) 4)
  rw [World.size_alloc] at hB0
  have HB0 := Lib.hid hB0
  clear h h2 h3 hB0
  go_enter Tryz.func19, Tryz.ntmps19
  go_wp2_with fail
  go_fit (H.out _)
  rintro e w2 ⟨rfl, rfl⟩
  go_wp2_with fail
  go_fit (H2.out _)
  rintro e w3 ⟨rfl, hb3⟩
  have hB1 := HB0.out.below hb3 (by simp)
  have HS : Hid (boxW (w3.setCell ⟨w.heap.size + 1, 0, none⟩ (.bool false)) (w.heap.size + 1) (.bool false) 4) := hB1.set
  have HK : Hid (Below w.heap.size w (w3.setCell ⟨w.heap.size + 1, 0, none⟩ (.bool false))) :=
    ((((Below.refl _ w).alloc (Nat.le_refl _) _).alloc (by simp) _).trans (hb3.mono (by simp; omega))).setCell (p := ⟨w.heap.size + 1, 0, none⟩) (by show _ ≤ w.heap.size + 1; omega) _
  obtain ⟨c0, f0⟩ := hB1.cell
  have hlt := hB1.lt
  clear H H2 HB0 hB1 hb3
  go_wp2
  obtain ⟨y0, _⟩ := HS.out.cell
  exact bodyPost_ret (v := .bool false) (by simp [results, Tryz.results19, go_sem, y0]) rfl ⟨rfl, HK.out⟩
end

attribute [local go_sem] Oper.semAt_some

/-- Between two rows. -/
structure VdI (w : World) (L : List Cel) (m n g o N cap D : Nat) (k : Nat) (W : World) : Prop where
  below : Below w.heap.size w W
  two : TwoB D (D + 1) g o N cap n W
  box : boxW W (w.heap.size + 1) (.bool false) 4
  upto : ∀ j, j < k → rowB (rowK L n j) = true
structure VdX (w : World) (L : List Cel) (m n : Nat) (W : World) : Prop where
  below : Below w.heap.size w W
  box : boxW W (w.heap.size + 1) (.bool false) 4
  bad : rowsB L n m = false
theorem TwoB.keep {Bs Bn g o N cap n : Nat} {W W' : World} {ok : Nat → Prop} (h : TwoB Bs Bn g o N cap n W) (hk : KeepW ok W W') (h1 : ok Bs) (h2 : ok Bn) : TwoB Bs Bn g o N cap n W' := ⟨hk.cell h.1 h1, hk.cell h.2 h2⟩
theorem rows_at {ok : Nat → Prop} {w : World} {g o N cap m n k : Nat} {L : List Cel} (h : CelsW ok w (.slice (some ⟨g, o, none⟩) N cap) L) (hl : L.length = N) (hN : N = m * n) (hk : k < m) : CelsW ok w (.slice (some ⟨g, o + k * n * 6, none⟩) n n) (rowK L n k) := by
  have hr := row_room (n := n) hk
  have hlen := rowK_len (hl.trans hN) hk
  unfold CelsW at h ⊢
  rw [hl] at h
  rw [hlen]
  have h1 := RowV.drop (i := k * n) (c2 := N - k * n) 6 h (Nat.le_refl _)
  rw [celC_drop] at h1
  have h2 := RowV.take (k := n) (c2 := n) 6 h1 (Nat.le_refl _)
  rwa [celC_take] at h2

/-- The way out: the loop's mark is taken off, the result is read out of its box. -/
theorem valid_leave {w W : World} {b b2 : Bool} (e : b = b2) (D : Nat) (a : Act) (hB : boxW W (w.heap.size + 1) (.bool b) 4) (hb : Below w.heap.size w W) (hD : w.heap.size + 2 ≤ D) (hK : W.heap[D]? = some (.deferred (some [])))
    (hd : a.defers = [{ target := .collected D, args := #[] }]) (h2 : a.tmps[2]?.getD undef = .pointer (some ⟨w.heap.size + 1, 0, none⟩)) :
    bodyPostM Fence.wide 5 Tryz.prog Tryz.f19 (fun e w' => e = .returned (.bool b2) ∧ Below w.heap.size w w') .ret a W := by
  subst e
  show LeavesInM _ _ _ _ _ _ _ _ _
  rw [hd]
  refine ⟨by simp, .inl ⟨_, _, rfl, run_takeDeferred hK, ?_⟩⟩
  have hk : KeepW (fun k => k ≠ D) W (W.putObj D (.deferred none)) := ⟨rfl, rfl, rfl, by rw [World.putObj_size]; exact Nat.le_refl _, fun k _ hk => World.putObj_heap_other hk⟩
  have y1 := (hB.keep hk (by show _ ≠ _; omega)).cell
  have yb : Below w.heap.size w (W.putObj D (.deferred none)) := KeepW.below hb hk hb.size (fun k hk => by show _ ≠ _; omega)
  obtain ⟨Y, hY⟩ : ∃ Y, W.putObj D (.deferred none) = Y := ⟨_, rfl⟩
  rw [hY] at y1 yb ⊢
  refine ⟨.bool b, ?_, rfl, yb⟩
  simp [results, Tryz.f19, Sem.run_bind, Result.andThen, h2, asAddr, loadVar, go_sem, y1.1]

set_option maxRecDepth 100000 in
set_option maxHeartbeats 4000000 in
theorem valid_rows {ok : Nat → Prop} {g o N cap : Nat} (f : Frm) (m n : Nat) (w : World) (hr : f.rows = (m : Int)) (hc : f.cols = (n : Int)) (hm : 2 ≤ m ∧ m ≤ 100) (hn : 8 ≤ n ∧ n ≤ 200) (hN : N = m * n) (hS : CelsW ok w (.slice (some ⟨g, o, none⟩) N cap) f.cells) (hlen : f.cells.length = N) (hcap : N ≤ cap) (h3 : withinB f.rows f.cols f.row f.col = true) (hL : LaidW w) :
    Calls Tryz.prog 19 #[.agg #[.int .i64 f.rows, .int .i64 f.cols, .slice (some ⟨g, o, none⟩) N cap, .int .i64 f.row, .int .i64 f.col]] w fun e w' => e = .returned (.bool (rowsB f.cells n m)) ∧ Below w.heap.size w w' := by
  rw [hr, hc] at h3 ⊢
  have H := Lib.hid (fun w => sized_any (m : Int) (n : Int) w)
  rw [(sizedB_iff _ _).2 (by omega)] at H
  have H2 := Lib.hid (fun w => within_any (ao := some ⟨g, o, none⟩) (n := N) (cap := cap) (m : Int) (n : Int) f.row f.col f.row f.col w)
  rw [h3] at H2
  have H3 := Lib.hid (fun w => chunk_any (ao := some ⟨g, o, none⟩) (N := N) (cap := cap) n w (by omega))
  have hmul : (m : Int) * (n : Int) = (N : Int) := by rw [hN, Int.natCast_mul]
  have hle : N ≤ 20000 := by rw [hN]; exact Nat.mul_le_mul hm.2 hn.2
  have i1 : (m : Int) ≤ 100 := by omega
  have i2 : (n : Int) ≤ 200 := by omega
  have i3 : (0 : Int) ≤ (m : Int) := by omega
  have i4 : (0 : Int) ≤ (n : Int) := by omega
  have i5 : (N : Int) ≤ 20000 := by omega
  have b2 : ((N : Int) != (N : Int)) = false := by simp
  have hb0 := boxW.new (w.alloc (.cells #[.int .i64 (m : Int), .int .i64 (n : Int), .slice (some ⟨g, o, none⟩) N cap, .int .i64 f.row, .int .i64 f.col] 35)) (.bool false) 4
  rw [World.size_alloc] at hb0
  have hf0 := (frB.new (r := (m : Int)) (c := (n : Int)) (v := .slice (some ⟨g, o, none⟩) N cap) (a := f.row) (b := f.col) w)
  have HX : Hid (∀ W, Below (w.heap.size + 2) ((w.alloc (.cells #[.int .i64 (m : Int), .int .i64 (n : Int), .slice (some ⟨g, o, none⟩) N cap, .int .i64 f.row, .int .i64 f.col] 35)).alloc (.cells #[.bool false] 4)) W →
      Below w.heap.size w W ∧ boxW W (w.heap.size + 1) (.bool false) 4 ∧ frB W w.heap.size (m : Int) (n : Int) (.slice (some ⟨g, o, none⟩) N cap) f.row f.col) := fun W hW => by
    refine ⟨(((Below.refl _ w).alloc (Nat.le_refl _) _).alloc (by simp) _).trans (hW.mono (by omega)), hb0.below hW (by omega), ?_⟩
    exact frB.below (n := w.heap.size + 2) ((Below.heap_alloc _ _ _ (by rw [World.size_alloc]; omega)).trans hf0) hW (by omega)
  have HS := Lib.hid hS
  have HN := Lib.hid hN
  have HLn := Lib.hid hlen
  have HLW := Lib.hid hL
  have hcp := hcap
  have hRB : Hid (∀ k, k < m → rowB (rowK f.cells n k) = false → rowsB f.cells n m = false) := fun k hk hb => by
    refine Bool.eq_false_iff.2 fun h => ?_
    have := (rowB_iff _).2 ((rowsB_iff _ _ _).1 h k hk)
    rw [hb] at this; cases this
  have hRT : Hid ((∀ j, j < m → rowB (rowK f.cells n j) = true) → rowsB f.cells n m = true) := fun h => (rowsB_iff _ _ _).2 fun k hk => (rowB_iff _).1 (h k hk)
  clear hS hN hlen hL hb0 hf0 h3
  refine (callsIn_wide (n := 5)).1 ?_
  refine callsIn_of_wp_marks Tryz.func19 rfl trivial ?_ rfl
  simp only [Tryz.ntmps19, List.size_toArray, List.length_cons, List.length_nil, Nat.reduceAdd, Nat.reduceSub, Array.replicate_succ, Array.replicate_zero, List.push_toArray, List.append_toArray, List.nil_append, List.cons_append]
  gi_wp2_with (first
    | (refine ⟨trivial, ?_⟩; gi_at_call 40; refine (callsIn_wide.2 (H.out _)).mono ?_; rintro e w' ⟨rfl, rfl⟩)
    | (refine ⟨trivial, ?_⟩; gi_at_call 41; refine (callsIn_wide.2 (H2.out _)).mono ?_; rintro e w3 ⟨rfl, hb3⟩; obtain ⟨kb, kx, kf⟩ := HX.out _ (by simpa using hb3); obtain ⟨⟨d0, d1, d2, d3, d4⟩, _⟩ := kf.cells; have hlt3 := kf.lt)
    | (refine ⟨trivial, ?_⟩; gi_at_call 42; refine (callsIn_wide.2 (H3.out _)).mono ?_; rintro e w4 ⟨rfl, hw4⟩))
  have hz3 : w.heap.size + 2 ≤ w3.heap.size := by have := hb3.size; simpa using this
  obtain ⟨V, hV⟩ : ∃ V, (w3.alloc (.cells #[.slice (some ⟨g, o, none⟩) N cap] 33)).alloc (.cells #[.int .i64 (n : Int)] 3) = V := ⟨_, rfl⟩
  have hz : V.heap.size = w3.heap.size + 2 := by rw [← hV]; simp
  have h0 : VdI w f.cells m n g o N cap w3.heap.size 0 V := by
    have q : Below w3.heap.size w3 V := by rw [← hV]; exact ((Below.refl _ w3).alloc (Nat.le_refl _) _).alloc (by simp) _
    refine ⟨kb.trans (q.mono (by omega)), ⟨?_, ?_⟩, kx.below q (by omega), fun j hj => by omega⟩
    · have e := boxW.new w3 (.slice (some ⟨g, o, none⟩) N cap) 33
      have e2 : boxW V w3.heap.size (.slice (some ⟨g, o, none⟩) N cap) 33 := by rw [← hV]; exact (Below.heap_alloc _ _ _ (by rw [World.size_alloc]; omega)).trans e
      exact e2.cell.1
    · have e := boxW.new (w3.alloc (.cells #[.slice (some ⟨g, o, none⟩) N cap] 33)) (.int .i64 (n : Int)) 3
      rw [World.size_alloc, hV] at e
      exact e.cell.1
  rw [hV]
  have HH0 := Lib.hid h0
  clear hV H H2 H3 HX hb3 kb kx kf d0 d1 d2 d3 d4 h0
  have ok0 : ∀ k, k < w.heap.size + 2 → NotB V.heap.size k := fun k hk => by unfold NotB; omega
  refine rangeChunk_in (F := 5) (by omega) w3.heap.size (w3.heap.size + 1) g o N cap m n HN.out hcp hn hm.2 rfl rfl (VdI w f.cells m n g o N cap w3.heap.size) (VdX w f.cells m n) ?_ ?_ (fun k W h => h.two) HH0.out
    (fun x => { tmps := #[.agg #[.int .i64 (m : Int), .int .i64 (n : Int), .slice (some ⟨g, o, none⟩) N cap, .int .i64 f.row, .int .i64 f.col], .pointer (some ⟨w.heap.size, 0, none⟩), .pointer (some ⟨w.heap.size + 1, 0, none⟩), x, .pointer (some ⟨w.heap.size, 0, none⟩), .int .i64 (m : Int), .pointer (some ⟨w.heap.size, 1, none⟩), .int .i64 (n : Int), .bool true, .bool false, .bool false, .pointer (some ⟨w.heap.size, 2, none⟩), .slice (some ⟨g, o, none⟩) N cap, .int .i64 (N : Int), .pointer (some ⟨w.heap.size, 0, none⟩), .int .i64 (m : Int), .pointer (some ⟨w.heap.size, 1, none⟩), .int .i64 (n : Int), .int .i64 (N : Int), .bool false, .bool false, .bool false, .agg #[.int .i64 (m : Int), .int .i64 (n : Int), .slice (some ⟨g, o, none⟩) N cap, .int .i64 f.row, .int .i64 f.col], .pointer (some ⟨w.heap.size, 3, none⟩), .int .i64 f.row, .pointer (some ⟨w.heap.size, 4, none⟩), .int .i64 f.col, .bool true, .bool false, .bool false, .pointer (some ⟨w.heap.size, 2, none⟩), .slice (some ⟨g, o, none⟩) N cap, .pointer (some ⟨w.heap.size, 1, none⟩), .int .i64 (n : Int), .func (.func 74) #[] #[.pointer (some ⟨w3.heap.size, 0, none⟩), .pointer (some ⟨w3.heap.size + 1, 0, none⟩)], x, undef, undef, undef], defers := [] }) ?assign ?body ?done ?stop
  · intro k W W' h hk
    exact ⟨KeepW.below h.below hk h.below.size (fun k hk => ok0 k (by omega)), h.two.keep hk (by unfold NotB; omega) (by unfold NotB; omega), h.box.keep hk (ok0 _ (by omega)), h.upto⟩
  · intro W W' h hk
    exact ⟨KeepW.below h.below hk h.below.size (fun k hk => ok0 k (by omega)), h.box.keep hk (ok0 _ (by omega)), h.bad⟩
  case assign =>
    intro l x W K hK
    gi_wp2
    exact hK
  case body =>
    intro l k W hk hlt hI
    have HO := Lib.hid (ofRunes_any (rowK f.cells n k) W (rows_at (HS.out.below hI.below) HLn.out HN.out hk) (rowK_len (HLn.out.trans HN.out) hk).symm (by omega) (HLW.out.below hI.below))
    have HBX : Hid (∀ W2, Below W.heap.size W W2 → boxW W2 (w.heap.size + 1) (.bool false) 4 ∧ StaysC V.heap.size W W2 ∧ Below w.heap.size w W2 ∧ TwoB w3.heap.size (w3.heap.size + 1) g o N cap n W2) := fun W2 hb =>
      ⟨hI.box.below hb hI.box.lt, fun j oo _ ho => (hb.block j (Array.getElem?_eq_some_iff.1 ho).1).trans ho, hI.below.trans (hb.mono hI.below.size), hI.two.keep (keep_below (fun _ => True) hb) trivial trivial⟩
    have HU := Lib.hid hI.upto
    have hRBk := hRB.out k hk
    obtain ⟨b, hb⟩ : ∃ b, rowB (rowK f.cells n k) = b := ⟨_, rfl⟩
    rw [hb] at HO hRBk
    obtain ⟨OF, hOF⟩ : ∃ OF, o + k * n * 6 = OF := ⟨_, rfl⟩
    rw [hOF] at HO ⊢
    have HBb := Lib.hid hb
    clear hb hOF hI
    cases b with
    | false =>
      have HR := Lib.hid (hRBk rfl)
      clear hRBk
      gi_wp2_with (refine ⟨trivial, ?_⟩; gi_at_call 43; refine (CallsIn.inRound l (callsIn_wide.2 HO.out)).mono ?_; rintro e w' ⟨rfl, hb⟩; obtain ⟨kx, ks, kb, kt⟩ := HBX.out _ hb; obtain ⟨c0, f0⟩ := kx.cell)
      have g1 := keep_set (ok := fun k => k ≠ w.heap.size + 1) (w.heap.size + 1) 0 none (.bool false) w' (fun k => k rfl)
      refine ⟨fun j oo hj ho => (g1.same j (Array.getElem?_eq_some_iff.1 (ks j oo hj ho)).1 (by show _ ≠ _; omega)).trans (ks j oo hj ho), ⟨KeepW.below kb g1 kb.size (fun k hk => by show _ ≠ _; omega), kx.set, HR.out⟩⟩
    | true =>
      clear hRBk
      gi_wp2_with (refine ⟨trivial, ?_⟩; gi_at_call 43; refine (CallsIn.inRound l (callsIn_wide.2 HO.out)).mono ?_; rintro e w' ⟨rfl, hb⟩; obtain ⟨kx, ks, kb, kt⟩ := HBX.out _ hb)
      refine ⟨ks, ⟨kb, kt, kx, fun j hj => ?_⟩⟩
      by_cases e : j = k
      · subst e; exact HBb.out
      · exact HU.out j (by omega)
  case done =>
    rintro D W hD hI hK
    have HR := Lib.hid (hRT.out hI.upto)
    obtain ⟨c0, f0⟩ := hI.box.cell
    have kx := Lib.hid hI.box
    have kb := Lib.hid hI.below
    clear hI
    gi_wp2
    have g1 := keep_set (ok := fun k => k ≠ w.heap.size + 1) (w.heap.size + 1) 0 none (.bool true) W (fun k => k rfl)
    exact valid_leave HR.out.symm D _ kx.out.set (KeepW.below kb.out g1 kb.out.size (fun k hk => by show _ ≠ _; omega)) (by omega) ((g1.same D (Array.getElem?_eq_some_iff.1 hK).1 (by show _ ≠ _; omega)).trans hK) rfl rfl
  case stop =>
    rintro D W hD hX hK
    gi_wp2
    exact valid_leave hX.bad.symm D _ hX.box hX.below (by omega) hK rfl rfl

theorem gvalid_any {ok : Nat → Prop} {v : Value} {f : Frm} (w : World) (h : FrameW ok w v f) (hL : LaidW w) :
    Calls Tryz.prog 19 #[v] w fun e w' => e = .returned (.bool (validB f)) ∧ Below w.heap.size w w' := by
  obtain ⟨ao, N, cap, rfl, hn, hcap, hS⟩ := h
  cases h1 : sizedB f.rows f.cols with
  | false =>
    rw [show validB f = false by unfold validB; rw [h1]; rfl]
    exact valid_size f w h1
  | true =>
    by_cases h2 : (N : Int) = f.rows * f.cols
    · cases h3 : withinB f.rows f.cols f.row f.col with
      | false =>
        rw [show validB f = false by unfold validB; rw [h1, h3, Bool.and_false, Bool.false_and]]
        exact valid_cursor f w h1 h2 h3
      | true =>
        rw [validB_head h1 (by rw [← hn]; exact h2) h3]
        obtain ⟨k1, k2, k3, k4⟩ := (sizedB_iff _ _).1 h1
        obtain ⟨m, hm⟩ : ∃ m : Nat, f.rows = (m : Int) := ⟨f.rows.toNat, by omega⟩
        obtain ⟨n, hn2⟩ : ∃ n : Nat, f.cols = (n : Int) := ⟨f.cols.toNat, by omega⟩
        have hN : N = m * n := by
          rw [hm, hn2, ← Int.natCast_mul] at h2; omega
        have hpos : 0 < N := by rw [hN]; exact Nat.mul_pos (by omega) (by omega)
        obtain ⟨g, o, rfl, _⟩ := hS.ptr (i := 0) (List.getElem?_eq_getElem (show 0 < f.cells.length by omega))
        rw [hm, hn2, Int.toNat_natCast, Int.toNat_natCast, ← hm, ← hn2]
        exact valid_rows f m n w hm hn2 (by omega) (by omega) hN hS hn.symm hcap h3 hL
    · rw [show validB f = false by unfold validB; rw [h1, decide_eq_false (by rw [← hn]; exact h2), Bool.and_false, Bool.false_and, Bool.false_and]]
      exact valid_len f w h1 h2
end Go.Proofs.YtpkjaallhhjleaaGreatDoor

/-
  grids.Put: what it returns, and lays: a frame that may be: nothing is put in.
-/
namespace Go.Proofs.YtpkjaallhhjleaaGreatDoor
open Go.RowKit

theorem canB_no {f : Frm} {row col r : Int} {s : Sty} (h : ¬ (0 < ofN r ∧ (0 ≤ row ∧ row < f.rows ∧ 0 ≤ col ∧ col < f.cols) ∧ col + (ofN r : Int) ≤ f.cols ∧ styB s = true)) : canB f row col r s = false := Bool.eq_false_iff.2 fun k => h ((canB_iff f row col r s).1 k)

section
variable {ok : Nat → Prop} {ao : Option Addr} {N cap : Nat}
theorem put_bad (f : Frm) (row col r : Int) (s : Sty) (w : World) (hS : CelsW ok w (.slice ao N cap) f.cells) (hn : N = f.cells.length) (hcap : N ≤ cap) (hv : validB f = false) (hL : LaidW w) :
    Calls Tryz.prog 117 #[.agg #[.int .i64 f.rows, .int .i64 f.cols, .slice ao N cap, .int .i64 f.row, .int .i64 f.col], .int .i64 row, .int .i64 col, .int .i32 r, .agg #[.int .i64 s.1, .bool s.2.1, .bool s.2.2.1, .bool s.2.2.2]] w fun e w' => e = .returned (.agg #[.int .i64 0, .int .i64 0, .slice none 0 0, .int .i64 0, .int .i64 0]) ∧ Below w.heap.size w w' := by
  have HV : Hid (∀ W, Below w.heap.size w W → Calls Tryz.prog 19 #[.agg #[.int .i64 f.rows, .int .i64 f.cols, .slice ao N cap, .int .i64 f.row, .int .i64 f.col]] W fun e w' => e = .returned (.bool false) ∧ Below W.heap.size W w') := fun W hW => by
    have := gvalid_any W (FrameW.below ⟨ao, N, cap, rfl, hn, hcap, hS⟩ hW) (hL.below hW)
    rwa [hv] at this
  have H0 := put0_is w f s ao N cap
  obtain ⟨hz, hb, _, _, hres⟩ := H0
  have HZ := Lib.hid hz
  have HR := Lib.hid hres
  have HB := Lib.hid hb
  unfold put0 at HZ HR HB
  clear hS hn hcap hv hL hz hb hres
  go_enter Tryz.func117, Tryz.ntmps117
  go_wp2_with fail
  go_fit (HV.out _ HB.out)
  rintro e w2 ⟨rfl, hb2⟩
  have hr := HR.out.below hb2 HR.out.lt
  have HE : Hid (frB (set5 w2 (w.heap.size + 1 + 1) 0 0 (.slice none 0 0) 0 0) (w.heap.size + 1 + 1) 0 0 (.slice none 0 0) 0 0 ∧ Below w.heap.size w (set5 w2 (w.heap.size + 1 + 1) 0 0 (.slice none 0 0) 0 0)) := by
    have b := HB.out.trans (hb2.mono HB.out.size)
    have hk := set5_keep (ok := fun k => k ≠ w.heap.size + 1 + 1) w2 (w.heap.size + 1 + 1) 0 0 (.slice none 0 0) 0 0 (fun k => k rfl)
    exact ⟨hr.all, KeepW.below b hk b.size (fun k hk => by show _ ≠ _; omega)⟩
  obtain ⟨⟨d0, d1, d2, d3, d4⟩, f0, f1, f2, f3, f4⟩ := hr.cells
  have hlt := hr.lt
  clear hr hb2 HR HB HV HZ
  go_wp2
  obtain ⟨⟨y0, y1, y2, y3, y4⟩, _⟩ := HE.out.1.cells
  unfold set5 at y0 y1 y2 y3 y4
  exact bodyPost_ret (v := .agg #[.int .i64 0, .int .i64 0, .slice none 0 0, .int .i64 0, .int .i64 0]) (by simp [results, Tryz.results117, go_sem, y0, y1, y2, y3, y4]) rfl ⟨rfl, HE.out.2⟩
end
end Go.Proofs.YtpkjaallhhjleaaGreatDoor

/-
  grids.Put: what it returns, and lays: a frame that may be.
-/
namespace Go.Proofs.YtpkjaallhhjleaaGreatDoor
open Go.RowKit

section
variable {ok : Nat → Prop} {g0 o0 N cap : Nat} {f : Frm} {m n : Nat}

/-- What the calls on the way give, whatever the world that they are made in. -/
theorem put_calls (row col r : Int) (s : Sty) (w : World) (hf : OkF f m n) (hN : N = f.cells.length) (hcap : N ≤ cap) (hS : CelsW ok w (.slice (some ⟨g0, o0, none⟩) N cap) f.cells) (hL : LaidW w) :
    Hid (∀ W, Below w.heap.size w W → Calls Tryz.prog 19 #[.agg #[.int .i64 f.rows, .int .i64 f.cols, .slice (some ⟨g0, o0, none⟩) N cap, .int .i64 f.row, .int .i64 f.col]] W fun e w' => e = .returned (.bool true) ∧ Below W.heap.size W w') ∧
    Hid (∀ W, Below w.heap.size w W → Calls Tryz.prog 36 #[.slice (some ⟨g0, o0, none⟩) N cap] W fun e w' => ∃ g' c', e = .returned (.slice (some ⟨g', 0, none⟩) N c') ∧ N ≤ c' ∧ NewL W w' g' f.cells ∧ Below W.heap.size W w') ∧
    Hid (∀ W, Below w.heap.size w W → Calls Tryz.prog 22 #[.int .i32 r] W fun e w' => e = .returned (.int .i64 (ofN r : Int)) ∧ Below W.heap.size W w') ∧
    Hid (∀ (g c : Nat) W, Calls Tryz.prog 41 #[.agg #[.int .i64 f.rows, .int .i64 f.cols, .slice (some ⟨g, 0, none⟩) N c, .int .i64 f.row, .int .i64 f.col], .int .i64 row, .int .i64 col] W fun e w' => e = .returned (.bool (withinB f.rows f.cols row col)) ∧ Below W.heap.size W w') ∧
    Hid (∀ W, Calls Tryz.prog 105 #[.agg #[.int .i64 s.1, .bool s.2.1, .bool s.2.2.1, .bool s.2.2.2]] W fun e w' => e = .returned (.bool (styB s)) ∧ Below W.heap.size W w') := by
  have hroom := hf.room
  have hpos : 0 < N := by
    have h1 := hf.len; have h2 := hf.hm; have h3 := hf.hn
    rw [hN, h1]; exact Nat.mul_pos (by omega) (by omega)
  refine ⟨fun W hW => ?_, fun W hW => ?_, fun W hW => ?_, fun g c W => ?_, fun W => ?_⟩
  · have := gvalid_any W (FrameW.below ⟨_, N, cap, rfl, hN, hcap, hS⟩ hW) (hL.below hW)
    rwa [hf.valid] at this
  · exact clone_any g0 o0 cap N W (hS.below hW) hN.symm hpos (by omega)
  · exact of_any r W (hL.1.below hW)
  · exact within_any f.rows f.cols f.row f.col row col W
  · exact styled_any s W
/-- The frame's cells are of its own now. -/
theorem put_own {w W3 : World} {s : Sty} {g c : Nat} {zs : List Value} {W2 : World} (hN : N = f.cells.length) (hc : N ≤ c) (h2 : Below (put0 w f s (some ⟨g0, o0, none⟩) N cap).heap.size (put0 w f s (some ⟨g0, o0, none⟩) N cap) W2) (h3 : Below W2.heap.size W2 W3) (hg : W2.heap.size ≤ g) (hb : blkL W3 g f.cells zs) :
    PutS w (W3.setCell ⟨w.heap.size, 2, none⟩ (.slice (some ⟨g, 0, none⟩) N c)) f s N g c f.cells zs ∧ W3.cell? ⟨w.heap.size, 2, none⟩ = some (.slice (some ⟨g0, o0, none⟩) N cap) ∧ W3.frozen? ⟨w.heap.size, 2, none⟩ = false ∧ w.heap.size < W3.heap.size := by
  obtain ⟨hz, q0, q1, q2, q3⟩ := put0_is w f s (some ⟨g0, o0, none⟩) N cap
  have h := h2.trans (h3.mono h2.size)
  rw [hz] at h h2
  have hsz := h2.size
  have r1 := q1.below h (by omega)
  have r2 := (h.block (w.heap.size + 1) (by omega)).trans q2
  have r3 := q3.below h (by omega)
  have hk := keep_set (ok := fun k => k ≠ w.heap.size) w.heap.size 2 none (.slice (some ⟨g, 0, none⟩) N c) W3 (fun k => k rfl)
  have hb1 : Below w.heap.size w W3 := q0.trans (h.mono (by omega))
  refine ⟨⟨KeepW.below hb1 hk hb1.size (fun k hk => by show _ ≠ _; omega), r1.set2 _, (hk.same _ (Array.getElem?_eq_some_iff.1 r2).1 (by show _ ≠ _; omega)).trans r2, r3.keep hk (by show _ ≠ _; omega), by omega, hb.keep hk (by show _ ≠ _; omega), hN.symm, hc⟩, r1.cells.1.2.2.1, r1.cells.2.2.2.1, r1.lt⟩

set_option maxHeartbeats 4000000 in
theorem put_no0 (row col r : Int) (s : Sty) (w : World) (hf : OkF f m n) (hN : N = f.cells.length) (hcap : N ≤ cap) (hS : CelsW ok w (.slice (some ⟨g0, o0, none⟩) N cap) f.cells) (hL : LaidW w) (h0 : ofN r = 0) :
    Calls Tryz.prog 117 #[.agg #[.int .i64 f.rows, .int .i64 f.cols, .slice (some ⟨g0, o0, none⟩) N cap, .int .i64 f.row, .int .i64 f.col], .int .i64 row, .int .i64 col, .int .i32 r, .agg #[.int .i64 s.1, .bool s.2.1, .bool s.2.2.1, .bool s.2.2.2]] w fun e w' => ∃ v', e = .returned v' ∧ FrameW AnyB w' v' f ∧ Below w.heap.size w w' := by
  obtain ⟨HV, HC, HO, HW, HY⟩ := put_calls row col r s w hf hN hcap hS hL
  obtain ⟨d, hd⟩ : ∃ d, ofN r = d := ⟨_, rfl⟩
  rw [hd] at HO h0
  have b0 : ((d : Int) == 0) = true := by rw [beq_iff_eq]; omega
  have HPO := Lib.hid (fun W2 W3 g c zs hc h2 h3 hg hb => put_own (w := w) (f := f) (s := s) (g0 := g0) (o0 := o0) (cap := cap) (zs := zs) (g := g) (c := c) (W2 := W2) (W3 := W3) hN hc h2 h3 hg hb)
  have H0 := Lib.hid (put0_is w f s (some ⟨g0, o0, none⟩) N cap).2.1
  have H0f := Lib.hid (put0_is w f s (some ⟨g0, o0, none⟩) N cap).2.2.1
  unfold put0 at HPO H0 H0f
  clear hS hL hN hcap hd hf h0
  go_enter Tryz.func117, Tryz.ntmps117
  go_wp2_with fail
  go_fit (HV.out _ H0.out)
  rintro e w2 ⟨rfl, hb2⟩
  obtain ⟨⟨x0, x1, x2, x3, x4⟩, _⟩ := (H0f.out.below hb2 H0f.out.lt).cells
  go_wp2_with fail
  go_fit (HC.out _ (H0.out.trans (hb2.mono H0.out.size)))
  rintro e w3 ⟨g, c, rfl, hc, ⟨zs, hg, hbk⟩, hb3⟩
  obtain ⟨P4, z2, f2, hlt⟩ := HPO.out w2 w3 g c zs hc hb2 hb3 hg hbk
  have HP4 := Lib.hid P4
  clear P4 HV HC HPO H0 H0f hb2 hb3 hbk x0 x1 x2 x3 x4
  go_wp2_with fail
  go_fit (HO.out _ HP4.out.below)
  rintro e w5 ⟨rfl, hb5⟩
  have HP5 := Lib.hid (HP4.out.next hb5)
  obtain ⟨⟨x0, x1, x2, x3, x4⟩, _⟩ := HP5.out.fr.cells
  clear HO hb5 z2 f2 hlt HP4
  clear HW HY
  obtain ⟨⟨r0, r1, r2, r3, r4⟩, g0', g1, g2, g3, g4⟩ := HP5.out.res.cells
  have HD := Lib.hid HP5.out.done
  have hlt := HP5.out.res.lt
  clear HP5
  go_wp2
  obtain ⟨⟨y0, y1, y2, y3, y4⟩, _⟩ := HD.out.1.cells
  unfold set5 at y0 y1 y2 y3 y4
  exact bodyPost_ret (v := .agg #[.int .i64 f.rows, .int .i64 f.cols, .slice (some ⟨g, 0, none⟩) N c, .int .i64 f.row, .int .i64 f.col]) (by simp [results, Tryz.results117, go_sem, y0, y1, y2, y3, y4]) rfl ⟨_, rfl, HD.out.2.1, HD.out.2.2⟩

set_option maxHeartbeats 4000000 in
theorem put_no1 (row col r : Int) (s : Sty) (w : World) (hf : OkF f m n) (hN : N = f.cells.length) (hcap : N ≤ cap) (hS : CelsW ok w (.slice (some ⟨g0, o0, none⟩) N cap) f.cells) (hL : LaidW w) (h0 : ofN r ≠ 0) (h1 : withinB f.rows f.cols row col = false) :
    Calls Tryz.prog 117 #[.agg #[.int .i64 f.rows, .int .i64 f.cols, .slice (some ⟨g0, o0, none⟩) N cap, .int .i64 f.row, .int .i64 f.col], .int .i64 row, .int .i64 col, .int .i32 r, .agg #[.int .i64 s.1, .bool s.2.1, .bool s.2.2.1, .bool s.2.2.2]] w fun e w' => ∃ v', e = .returned v' ∧ FrameW AnyB w' v' f ∧ Below w.heap.size w w' := by
  obtain ⟨HV, HC, HO, HW, HY⟩ := put_calls row col r s w hf hN hcap hS hL
  rw [h1] at HW
  obtain ⟨d, hd⟩ : ∃ d, ofN r = d := ⟨_, rfl⟩
  rw [hd] at HO h0
  have b0 : ((d : Int) == 0) = false := by have h00 := h0; rw [beq_eq_false_iff_ne]; omega
  have HPO := Lib.hid (fun W2 W3 g c zs hc h2 h3 hg hb => put_own (w := w) (f := f) (s := s) (g0 := g0) (o0 := o0) (cap := cap) (zs := zs) (g := g) (c := c) (W2 := W2) (W3 := W3) hN hc h2 h3 hg hb)
  have H0 := Lib.hid (put0_is w f s (some ⟨g0, o0, none⟩) N cap).2.1
  have H0f := Lib.hid (put0_is w f s (some ⟨g0, o0, none⟩) N cap).2.2.1
  unfold put0 at HPO H0 H0f
  clear hS hL hN hcap hd hf h0 h1
  go_enter Tryz.func117, Tryz.ntmps117
  go_wp2_with fail
  go_fit (HV.out _ H0.out)
  rintro e w2 ⟨rfl, hb2⟩
  obtain ⟨⟨x0, x1, x2, x3, x4⟩, _⟩ := (H0f.out.below hb2 H0f.out.lt).cells
  go_wp2_with fail
  go_fit (HC.out _ (H0.out.trans (hb2.mono H0.out.size)))
  rintro e w3 ⟨g, c, rfl, hc, ⟨zs, hg, hbk⟩, hb3⟩
  obtain ⟨P4, z2, f2, hlt⟩ := HPO.out w2 w3 g c zs hc hb2 hb3 hg hbk
  have HP4 := Lib.hid P4
  clear P4 HV HC HPO H0 H0f hb2 hb3 hbk x0 x1 x2 x3 x4
  go_wp2_with fail
  go_fit (HO.out _ HP4.out.below)
  rintro e w5 ⟨rfl, hb5⟩
  have HP5 := Lib.hid (HP4.out.next hb5)
  obtain ⟨⟨x0, x1, x2, x3, x4⟩, _⟩ := HP5.out.fr.cells
  clear HO hb5 z2 f2 hlt HP4
  clear HY
  go_wp2_with fail
  go_fit (HW.out g c _)
  rintro e w6 ⟨rfl, hb6⟩
  have HP6 := Lib.hid (HP5.out.next hb6)
  obtain ⟨⟨x0, x1, x2, x3, x4⟩, _⟩ := HP6.out.fr.cells
  clear HW hb6 HP5
  obtain ⟨⟨r0, r1, r2, r3, r4⟩, g0', g1, g2, g3, g4⟩ := HP6.out.res.cells
  have HD := Lib.hid HP6.out.done
  have hlt := HP6.out.res.lt
  clear HP6
  go_wp2
  obtain ⟨⟨y0, y1, y2, y3, y4⟩, _⟩ := HD.out.1.cells
  unfold set5 at y0 y1 y2 y3 y4
  exact bodyPost_ret (v := .agg #[.int .i64 f.rows, .int .i64 f.cols, .slice (some ⟨g, 0, none⟩) N c, .int .i64 f.row, .int .i64 f.col]) (by simp [results, Tryz.results117, go_sem, y0, y1, y2, y3, y4]) rfl ⟨_, rfl, HD.out.2.1, HD.out.2.2⟩

set_option maxHeartbeats 4000000 in
theorem put_no2 (row col r : Int) (s : Sty) (w : World) (hf : OkF f m n) (hN : N = f.cells.length) (hcap : N ≤ cap) (hS : CelsW ok w (.slice (some ⟨g0, o0, none⟩) N cap) f.cells) (hL : LaidW w) (h1 : withinB f.rows f.cols row col = true) (h2 : f.cols < col + (ofN r : Int)) :
    Calls Tryz.prog 117 #[.agg #[.int .i64 f.rows, .int .i64 f.cols, .slice (some ⟨g0, o0, none⟩) N cap, .int .i64 f.row, .int .i64 f.col], .int .i64 row, .int .i64 col, .int .i32 r, .agg #[.int .i64 s.1, .bool s.2.1, .bool s.2.2.1, .bool s.2.2.2]] w fun e w' => ∃ v', e = .returned v' ∧ FrameW AnyB w' v' f ∧ Below w.heap.size w w' := by
  obtain ⟨HV, HC, HO, HW, HY⟩ := put_calls row col r s w hf hN hcap hS hL
  rw [h1] at HW
  have hdl := ofN_le r
  obtain ⟨w1, w2', w3', w4'⟩ := (withinB_iff _ _ _ _).1 h1
  have hcl := hf.cols
  have hrl := hf.rows
  have hm2 := hf.hm
  have hn2 := hf.hn
  have k1 : f.cols ≤ 200 := by omega
  have k3 : (0 : Int) ≤ col := by omega
  have k4 : col < 200 := by omega
  obtain ⟨d, hd⟩ : ∃ d, ofN r = d := ⟨_, rfl⟩
  rw [hd] at HO h2 hdl
  have b0 : ((d : Int) == 0) = false := by rw [beq_eq_false_iff_ne]; omega
  have k5 : (d : Int) ≤ 2 := by omega
  have k6 : (0 : Int) ≤ (d : Int) := by omega
  have HPO := Lib.hid (fun W2 W3 g c zs hc h2 h3 hg hb => put_own (w := w) (f := f) (s := s) (g0 := g0) (o0 := o0) (cap := cap) (zs := zs) (g := g) (c := c) (W2 := W2) (W3 := W3) hN hc h2 h3 hg hb)
  have H0 := Lib.hid (put0_is w f s (some ⟨g0, o0, none⟩) N cap).2.1
  have H0f := Lib.hid (put0_is w f s (some ⟨g0, o0, none⟩) N cap).2.2.1
  unfold put0 at HPO H0 H0f
  clear hS hL hN hcap hd hf h1 w1 w2' w3' w4' hcl hrl hm2 hn2 hdl
  go_enter Tryz.func117, Tryz.ntmps117
  go_wp2_with fail
  go_fit (HV.out _ H0.out)
  rintro e w2 ⟨rfl, hb2⟩
  obtain ⟨⟨x0, x1, x2, x3, x4⟩, _⟩ := (H0f.out.below hb2 H0f.out.lt).cells
  go_wp2_with fail
  go_fit (HC.out _ (H0.out.trans (hb2.mono H0.out.size)))
  rintro e w3 ⟨g, c, rfl, hc, ⟨zs, hg, hbk⟩, hb3⟩
  obtain ⟨P4, z2, f2, hlt⟩ := HPO.out w2 w3 g c zs hc hb2 hb3 hg hbk
  have HP4 := Lib.hid P4
  clear P4 HV HC HPO H0 H0f hb2 hb3 hbk x0 x1 x2 x3 x4
  go_wp2_with fail
  go_fit (HO.out _ HP4.out.below)
  rintro e w5 ⟨rfl, hb5⟩
  have HP5 := Lib.hid (HP4.out.next hb5)
  obtain ⟨⟨x0, x1, x2, x3, x4⟩, _⟩ := HP5.out.fr.cells
  clear HO hb5 z2 f2 hlt HP4
  clear HY
  go_wp2_with fail
  go_fit (HW.out g c _)
  rintro e w6 ⟨rfl, hb6⟩
  have HP6 := Lib.hid (HP5.out.next hb6)
  obtain ⟨⟨x0, x1, x2, x3, x4⟩, _⟩ := HP6.out.fr.cells
  clear HW hb6 HP5
  obtain ⟨⟨r0, r1, r2, r3, r4⟩, g0', g1, g2, g3, g4⟩ := HP6.out.res.cells
  have HD := Lib.hid HP6.out.done
  have hlt := HP6.out.res.lt
  clear HP6
  go_wp2
  obtain ⟨⟨y0, y1, y2, y3, y4⟩, _⟩ := HD.out.1.cells
  unfold set5 at y0 y1 y2 y3 y4
  exact bodyPost_ret (v := .agg #[.int .i64 f.rows, .int .i64 f.cols, .slice (some ⟨g, 0, none⟩) N c, .int .i64 f.row, .int .i64 f.col]) (by simp [results, Tryz.results117, go_sem, y0, y1, y2, y3, y4]) rfl ⟨_, rfl, HD.out.2.1, HD.out.2.2⟩

set_option maxHeartbeats 4000000 in
theorem put_no3 (row col r : Int) (s : Sty) (w : World) (hf : OkF f m n) (hN : N = f.cells.length) (hcap : N ≤ cap) (hS : CelsW ok w (.slice (some ⟨g0, o0, none⟩) N cap) f.cells) (hL : LaidW w) (h0 : ofN r ≠ 0) (h1 : withinB f.rows f.cols row col = true) (h2 : col + (ofN r : Int) ≤ f.cols) (h3 : styB s = false) :
    Calls Tryz.prog 117 #[.agg #[.int .i64 f.rows, .int .i64 f.cols, .slice (some ⟨g0, o0, none⟩) N cap, .int .i64 f.row, .int .i64 f.col], .int .i64 row, .int .i64 col, .int .i32 r, .agg #[.int .i64 s.1, .bool s.2.1, .bool s.2.2.1, .bool s.2.2.2]] w fun e w' => ∃ v', e = .returned v' ∧ FrameW AnyB w' v' f ∧ Below w.heap.size w w' := by
  obtain ⟨HV, HC, HO, HW, HY⟩ := put_calls row col r s w hf hN hcap hS hL
  rw [h1] at HW
  rw [h3] at HY
  have hdl := ofN_le r
  obtain ⟨w1, w2', w3', w4'⟩ := (withinB_iff _ _ _ _).1 h1
  have hcl := hf.cols
  have hrl := hf.rows
  have hm2 := hf.hm
  have hn2 := hf.hn
  have k1 : f.cols ≤ 200 := by omega
  have k3 : (0 : Int) ≤ col := by omega
  have k4 : col < 200 := by omega
  obtain ⟨d, hd⟩ : ∃ d, ofN r = d := ⟨_, rfl⟩
  rw [hd] at HO h0 h2 hdl
  have b0 : ((d : Int) == 0) = false := by rw [beq_eq_false_iff_ne]; omega
  have k5 : (d : Int) ≤ 2 := by omega
  have k6 : (0 : Int) ≤ (d : Int) := by omega
  have HPO := Lib.hid (fun W2 W3 g c zs hc h2 h3 hg hb => put_own (w := w) (f := f) (s := s) (g0 := g0) (o0 := o0) (cap := cap) (zs := zs) (g := g) (c := c) (W2 := W2) (W3 := W3) hN hc h2 h3 hg hb)
  have H0 := Lib.hid (put0_is w f s (some ⟨g0, o0, none⟩) N cap).2.1
  have H0f := Lib.hid (put0_is w f s (some ⟨g0, o0, none⟩) N cap).2.2.1
  unfold put0 at HPO H0 H0f
  clear hS hL hN hcap hd hf h0 h1 h3 w1 w2' w3' w4' hcl hrl hm2 hn2 hdl
  go_enter Tryz.func117, Tryz.ntmps117
  go_wp2_with fail
  go_fit (HV.out _ H0.out)
  rintro e w2 ⟨rfl, hb2⟩
  obtain ⟨⟨x0, x1, x2, x3, x4⟩, _⟩ := (H0f.out.below hb2 H0f.out.lt).cells
  go_wp2_with fail
  go_fit (HC.out _ (H0.out.trans (hb2.mono H0.out.size)))
  rintro e w3 ⟨g, c, rfl, hc, ⟨zs, hg, hbk⟩, hb3⟩
  obtain ⟨P4, z2, f2, hlt⟩ := HPO.out w2 w3 g c zs hc hb2 hb3 hg hbk
  have HP4 := Lib.hid P4
  clear P4 HV HC HPO H0 H0f hb2 hb3 hbk x0 x1 x2 x3 x4
  go_wp2_with fail
  go_fit (HO.out _ HP4.out.below)
  rintro e w5 ⟨rfl, hb5⟩
  have HP5 := Lib.hid (HP4.out.next hb5)
  obtain ⟨⟨x0, x1, x2, x3, x4⟩, _⟩ := HP5.out.fr.cells
  clear HO hb5 z2 f2 hlt HP4
  go_wp2_with fail
  go_fit (HW.out g c _)
  rintro e w6 ⟨rfl, hb6⟩
  have HP6 := Lib.hid (HP5.out.next hb6)
  obtain ⟨⟨x0, x1, x2, x3, x4⟩, _⟩ := HP6.out.fr.cells
  clear HW hb6 HP5
  obtain ⟨t0, t1, t2, t3⟩ := HP6.out.styc
  go_wp2_with fail
  go_fit (HY.out _)
  rintro e w7 ⟨rfl, hb7⟩
  have HP7 := Lib.hid (HP6.out.next hb7)
  obtain ⟨⟨x0, x1, x2, x3, x4⟩, _⟩ := HP7.out.fr.cells
  clear HY hb7 HP6 t0 t1 t2 t3
  obtain ⟨⟨r0, r1, r2, r3, r4⟩, g0', g1, g2, g3, g4⟩ := HP7.out.res.cells
  have HD := Lib.hid HP7.out.done
  have hlt := HP7.out.res.lt
  clear HP7
  go_wp2
  obtain ⟨⟨y0, y1, y2, y3, y4⟩, _⟩ := HD.out.1.cells
  unfold set5 at y0 y1 y2 y3 y4
  exact bodyPost_ret (v := .agg #[.int .i64 f.rows, .int .i64 f.cols, .slice (some ⟨g, 0, none⟩) N c, .int .i64 f.row, .int .i64 f.col]) (by simp [results, Tryz.results117, go_sem, y0, y1, y2, y3, y4]) rfl ⟨_, rfl, HD.out.2.1, HD.out.2.2⟩
end
end Go.Proofs.YtpkjaallhhjleaaGreatDoor
