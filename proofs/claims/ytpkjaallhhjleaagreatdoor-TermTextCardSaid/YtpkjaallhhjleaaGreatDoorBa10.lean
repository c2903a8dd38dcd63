/-
  Texts of this proof, one behind the other; each begins with its own remark.
-/
import Derived.RangeFuncLeaves
import Derived.RangeFuncCalls
import Derived.RangeFuncRecord
import Derived.RangeFuncBound
import Derived.Shelf.Abstract
import Derived.OwnWalkIn
import Derived.TacticsInMore
import Derived.LoopNIn
import Derived.LoopIn
import Derived.Shelf.RegionOpen
import Derived.Laws.StructEq
import Derived.Test.YtpkjaallhhjleaaGreatDoorBa9
import Derived.Test.YtpkjaallhhjleaaGreatDoorBa5
import Derived.Test.YtpkjaallhhjleaaGreatDoorBa2
import Derived.Test.YtpkjaallhhjleaaGreatDoorBa1
/-
  slices.Chunk of cells, as many rows of one length as there are: the function that it hands back goes through them one by one; a loop over it: what is owed of its body is one walk, from any row on; the loop's own book is kept here. The body is left at its end, or by a return.
-/
namespace Go.Proofs.YtpkjaallhhjleaaGreatDoor
open Go.RowKit Go.Shelf

set_option maxHeartbeats 1000000 in
theorem chunk_any {ao : Option Addr} {N cap : Nat} (n : Nat) (w : World) (hn : 1 ≤ n) :
    Calls Tryz.prog 42 #[.slice ao N cap, .int .i64 (n : Int)] w fun e w' => e = .returned (.func (.func 74) #[] #[.pointer (some ⟨w.heap.size, 0, none⟩), .pointer (some ⟨w.heap.size + 1, 0, none⟩)]) ∧ w' = (w.alloc (.cells #[.slice ao N cap] 33)).alloc (.cells #[.int .i64 (n : Int)] 3) := by
  have h1 : (1 : Int) ≤ (n : Int) := by omega
  go_enter Tryz.func42, Tryz.ntmps42
  go_wp2
  go_ret
  exact ⟨rfl, rfl⟩

attribute [local go_sem] Oper.semAt_some

/-- The two variables that the function has caught. -/
def TwoB (Bs Bn g o N cap n : Nat) (W : World) : Prop := W.cell? ⟨Bs, 0, none⟩ = some (.slice (some ⟨g, o, none⟩) N cap) ∧ W.cell? ⟨Bn, 0, none⟩ = some (.int .i64 (n : Int))
theorem keep_rfl {ok : Nat → Prop} {W W' : World} (h1 : W'.os = W.os) (h2 : W'.tape = W.tape) (h3 : W'.output = W.output) (h4 : W'.heap = W.heap) : KeepW ok W W' := ⟨h1, h2, h3, by rw [h4]; exact Nat.le_refl _, fun _ _ _ => by rw [h4]⟩

set_option maxRecDepth 100000 in
set_option maxHeartbeats 4000000 in
theorem chunkIter_in (F : Nat) (hF : 1 ≤ F) (l Bs Bn g o N cap m n : Nat) (hN : N = m * n) (hcap : N ≤ cap) (hn : 8 ≤ n ∧ n ≤ 200) (hm : m ≤ 100) (J : Nat → World → Prop) (Jx : World → Prop)
    (hJ : ∀ k W W', J k W → KeepW (fun _ => True) W W' → J k W') (hB : ∀ k W, J k W → TwoB Bs Bn g o N cap n W)
    (hY : ∀ k W, k < m → J k W → YieldAt Fence.wide (F - 1) Tryz.prog l #[.slice (some ⟨g, o + k * n * 6, none⟩) n n] W fun e W' =>
      (e = .returned (.bool true) ∧ J (k + 1) W') ∨ (e = .returned (.bool false) ∧ Jx W'))
    (W : World) (h0 : J 0 W) :
    CallsIn Fence.wide F Tryz.prog 74 #[.func (.yield l) #[] #[], .pointer (some ⟨Bs, 0, none⟩), .pointer (some ⟨Bn, 0, none⟩)] W fun e W' => (∃ v, e = .returned v) ∧ (J m W' ∨ Jx W') := by
  have HY := Lib.hid hY
  have HJ := Lib.hid hJ
  have HB := Lib.hid hB
  have HN := Lib.hid hN
  clear hY hJ hB hN
  refine callsIn_of_wp Tryz.func74 rfl trivial ?_ rfl
  simp only [Tryz.ntmps74, List.size_toArray, List.length_cons, List.length_nil, Nat.reduceAdd, Nat.reduceSub, Array.replicate_succ, Array.replicate_zero, List.push_toArray, List.append_toArray, List.nil_append, List.cons_append]
  gi_wp2
  gi_loopw [4, 5] (fun s4 _ wr => ∃ k i : Nat, s4 = .int .i64 (i : Int) ∧ Hid (i = k * n) ∧ k ≤ m ∧ Hid (J k wr)) (fun s4 _ _ => N - (intOf s4).toNat)
  case atStart => exact ⟨0, 0, rfl, (by show 0 = 0 * n; omega), Nat.zero_le _, h0⟩
  case round =>
    obtain ⟨k, i, rfl, HI, hk, HJk⟩ := hrel
    obtain ⟨c1, c2⟩ := HB.out k wr HJk.out
    by_cases hlt : k < m
    · have hr := row_room (n := n) hlt
      rw [← HN.out, ← HI.out] at hr
      have hb : i ≤ 20000 := by rw [HI.out]; exact Nat.mul_le_mul (show k ≤ 100 by omega) hn.2
      obtain ⟨y, hy⟩ : ∃ y, i + n = y := ⟨_, rfl⟩
      have i1 : (i : Int) < (N : Int) := by omega
      have i2 : (0 : Int) ≤ (i : Int) := by omega
      have i3 : (n : Int) ≤ ((N - i : Nat) : Int) := by omega
      have i4 : (i : Int) + (n : Int) = (y : Int) := by omega
      have i5 : (y : Int) ≤ (cap : Int) := by omega
      have i6 : (i : Int) ≤ (y : Int) := by omega
      have i7 : (i : Int) < (cap : Int) := by omega
      have i8 : y - i = n := by omega
      have i9 : (y : Int) ≤ 20200 := by omega
      have i10 : (0 : Int) ≤ (y : Int) := by omega
      have HYy := Lib.hid hy
      clear hb hr hy
      gi_wp2
      gi_region
      obtain ⟨W2, hW2⟩ : ∃ W2, wr.drew = W2 := ⟨_, rfl⟩
      have hj2 : J k W2 := by rw [← hW2]; exact HJ.out _ _ _ HJk.out (keep_drew _ _)
      obtain ⟨c3, c4⟩ := HB.out k W2 hj2
      obtain ⟨fn, tmps, assign, body, hyy, hR⟩ := HY.out k W2 hlt hj2
      rw [← HI.out] at hyy
      have HR := Lib.hid hR
      rw [hW2]
      clear hW2 hR hj2 c1 c2
      gi_wp2
      refine HR.out.mono ?_
      rintro e W3 (⟨rfl, hj3⟩ | ⟨rfl, hx⟩)
      · obtain ⟨c5, c6⟩ := HB.out _ W3 hj3
        have HJ3 := Lib.hid hj3
        clear hj3 HR hyy
        gi_wp2
        go_roundw
        case rel => exact ⟨k + 1, y, rfl, (by show y = _; rw [← HYy.out, HI.out, Nat.add_mul, Nat.one_mul]), hlt, HJ3.out⟩
        case measure => simp [intOf]; have := HYy.out; omega
      · clear HR hyy
        gi_wp2
        refine bodyPost_ret (results_none rfl _ _ _) rfl ?_
        exact ⟨⟨_, rfl⟩, .inr hx⟩
    · obtain rfl : k = m := by omega
      have i1 : ¬ (i : Int) < (N : Int) := by have := HI.out; have := HN.out; omega
      gi_wp2
      go_end0
      exact ⟨⟨_, rfl⟩, .inl HJk.out⟩

/-- The body leaves the loop's own book alone. -/
def StaysC (n : Nat) (W W' : World) : Prop := ∀ k o, (k = n ∨ k = n + 1) → W.heap[k]? = some o → W'.heap[k]? = some o
def NotB (n : Nat) : Nat → Prop := fun k => k ≠ n ∧ k ≠ n + 1
/-- How the body is left: at its end, or by a return. -/
def bodyC (n : Nat) (I : World → Prop) (Ix : World → Prop) (W : World) : Exit → Act → World → Prop
  | .normal, _, W' => StaysC n W W' ∧ I W'
  | .ret, _, W' => StaysC n W W' ∧ Ix W'
  | _, _, _ => False
theorem keep_put (n k : Nat) (o : Obj) (W : World) (h : k = n ∨ k = n + 1) : KeepW (NotB n) W (W.putObj k o) := ⟨rfl, rfl, rfl, by rw [World.putObj_size]; exact Nat.le_refl _, fun j _ hj => World.putObj_heap_other (fun e => by subst e; unfold NotB at hj; omega)⟩
theorem keep_alloc {ok : Nat → Prop} (o : Obj) (W : World) : KeepW ok W (W.alloc o) := ⟨rfl, rfl, rfl, by rw [World.size_alloc]; omega, fun j hj _ => Below.heap_alloc W o j hj⟩

theorem rangeChunk_in {F : Nat} (hF : 3 ≤ F) {gf : Operand} {ps : Array Tmp} {assign body : Code} {Q : Exit → Act → World → Prop} {a : Act} {w : World} (Bs Bn g o N cap m n : Nat) (hN : N = m * n) (hcap : N ≤ cap) (hn : 8 ≤ n ∧ n ≤ 200) (hm : m ≤ 100)
    (hg : a.eval gf = .func (.func 74) #[] #[.pointer (some ⟨Bs, 0, none⟩), .pointer (some ⟨Bn, 0, none⟩)]) (hp : ps.size = 1) (I : Nat → World → Prop) (Ix : World → Prop)
    (hI : ∀ k W W', I k W → KeepW (NotB w.heap.size) W W' → I k W') (hIx : ∀ W W', Ix W → KeepW (NotB w.heap.size) W W' → Ix W') (hIB : ∀ k W, I k W → TwoB Bs Bn g o N cap n W) (h0 : I 0 w) (a₁ : Value → Act)
    (hassign : ∀ (l : Nat) (x : Value) (W : World) (K : Act → World → Prop), K (a₁ x) W →
      assign.wpIn (Fence.wide.inRound l) (F - 1 - 1) Tryz.prog (Exit.then K (fun _ _ _ => False)) { tmps := (ps.zip #[x]).foldl (fun t (p, v) => t.setIfInBounds p v) a.tmps, defers := [] } W)
    (hbody : ∀ (l k : Nat) (W : World), k < m → w.heap.size + 1 < W.heap.size → I k W →
      body.wpIn (Fence.wide.inRound l) (F - 1 - 1) Tryz.prog (bodyC w.heap.size (I (k + 1)) Ix W) (a₁ (.slice (some ⟨g, o + k * n * 6, none⟩) n n)) W)
    (hdone : ∀ (D : Nat) (W : World), w.heap.size = D → I m W → W.heap[D]? = some (.deferred (some [])) → Q .normal { a with defers := { target := .collected D, args := #[] } :: a.defers } W)
    (hstop : ∀ (D : Nat) (W : World), w.heap.size = D → Ix W → W.heap[D]? = some (.deferred (some [])) → Code.ret.wpIn Fence.wide F Tryz.prog Q { a with defers := { target := .collected D, args := #[] } :: a.defers } W) :
    (Code.rangeFunc gf ps assign body).wpIn Fence.wide F Tryz.prog Q a w := by
  refine wpIn_rangeFunc ?_
  intro fn hfn
  obtain ⟨book, hbook⟩ : ∃ book : LoopState → Option Code → Loop, ∀ st pe, book st pe = { state := st, pending := pe, fn, tmps := a.tmps, params := ps, assign, body, defers := w.heap.size } := ⟨_, fun _ _ => rfl⟩
  obtain ⟨V, hV⟩ : ∃ V, (w.alloc (.deferred (some []))).alloc (.loop (book .ready none)) = V := ⟨_, rfl⟩
  have v1 : V.heap[w.heap.size + 1]? = some (.loop (book .ready none)) := by
    rw [← hV]
    have := World.alloc_heap_new (w.alloc (.deferred (some []))) (.loop (book .ready none))
    rwa [World.size_alloc] at this
  have v0 : V.heap[w.heap.size]? = some (.deferred (some [])) := by
    rw [← hV]
    exact (Below.heap_alloc _ _ _ (by rw [World.size_alloc]; omega)).trans (World.alloc_heap_new w _)
  have vI : I 0 V := by
    rw [← hV]
    exact hI _ _ _ h0 ((keep_alloc _ w).trans (keep_alloc _ _))
  refine ⟨w.heap.size + 1, [{ target := .collected w.heap.size, args := #[] }], V, { target := .fn (.func 74) #[.pointer (some ⟨Bs, 0, none⟩), .pointer (some ⟨Bn, 0, none⟩)], args := #[.func (.yield (w.heap.size + 1)) #[] #[]] }, V, 74,
    #[.func (.yield (w.heap.size + 1)) #[] #[]] ++ #[.pointer (some ⟨Bs, 0, none⟩), .pointer (some ⟨Bn, 0, none⟩)], V, ?_, ?_, fun _ _ => trivial, ?_, (fun h => by cases h), ?_⟩
  · rw [← hV, hbook]; exact run_enterLoop_outer _ _ _ _ _
  · simp only [resolve, hg]
    simp [go_sem]
  · simp [invoke, go_sem]
  · refine (chunkIter_in (F - 1) (by omega) (w.heap.size + 1) Bs Bn g o N cap m n hN hcap hn hm
      (fun k W => I k W ∧ W.heap[w.heap.size]? = some (.deferred (some [])) ∧ W.heap[w.heap.size + 1]? = some (.loop (book .ready none)))
      (fun W => Ix W ∧ W.heap[w.heap.size]? = some (.deferred (some [])) ∧ W.heap[w.heap.size + 1]? = some (.loop (book .done (some .ret))))
      (fun k W W' h g => ⟨hI _ _ _ h.1 (g.mono fun _ _ _ => trivial), (g.same _ (Array.getElem?_eq_some_iff.1 h.2.1).1 trivial).trans h.2.1, (g.same _ (Array.getElem?_eq_some_iff.1 h.2.2).1 trivial).trans h.2.2⟩) (fun k W h => hIB k W h.1) ?_ V ⟨vI, v0, v1⟩).mono ?_
    · rintro k W hk ⟨hi, hd, hl⟩
      have hlt : w.heap.size + 1 < W.heap.size := (Array.getElem?_eq_some_iff.1 hl).1
      have hy := run_yield (P := Tryz.prog) (args := #[.slice (some ⟨g, o + k * n * 6, none⟩) n n]) hl (by rw [hbook]; exact hp.symm)
      rw [hbook] at hy
      refine ⟨fn, _, assign, body, hy, roundIn_of_wpIn trivial (hassign _ _ W _ ⟨_, run_beginRound hl (by rw [hbook]), ?_⟩)⟩
      obtain ⟨U, hU⟩ : ∃ U, W.putObj (w.heap.size + 1) (.loop { book .ready none with state := .busy }) = U := ⟨_, rfl⟩
      have u1 : U.heap[w.heap.size + 1]? = some (.loop { book .ready none with state := .busy }) := by rw [← hU]; exact World.putObj_heap_same hlt
      have u0 : U.heap[w.heap.size]? = some (.deferred (some [])) := by rw [← hU]; exact (World.putObj_heap_other (by omega)).trans hd
      have uI : I k U := by rw [← hU]; exact hI _ _ _ hi (keep_put _ _ _ W (.inr rfl))
      rw [hU]
      refine wpIn_mono (hbody _ k U hk (Array.getElem?_eq_some_iff.1 u1).1 uI) ?_
      rintro e c X hx
      cases e with
      | normal =>
        obtain ⟨st, hi2⟩ := hx
        have x1 := st _ _ (.inr rfl) u1
        have hr := run_endRound (P := Tryz.prog) none x1
        refine ⟨_, _, hr, .inl ⟨rfl, hI _ _ _ hi2 (keep_put _ _ _ X (.inr rfl)), (World.putObj_heap_other (by omega)).trans (st _ _ (.inl rfl) u0), ?_⟩⟩
        rw [World.putObj_heap_same (Array.getElem?_eq_some_iff.1 x1).1, hbook]
        rfl
      | ret =>
        obtain ⟨st, hi2⟩ := hx
        have x1 := st _ _ (.inr rfl) u1
        have hr := run_endRound (P := Tryz.prog) (some .ret) x1
        refine ⟨_, _, hr, .inr ⟨rfl, hIx _ _ hi2 (keep_put _ _ _ X (.inr rfl)), (World.putObj_heap_other (by omega)).trans (st _ _ (.inl rfl) u0), ?_⟩⟩
        rw [World.putObj_heap_same (Array.getElem?_eq_some_iff.1 x1).1, hbook, hbook]
        rfl
      | exit i => exact hx.elim
      | goto t => exact hx.elim
      | panic t => exact hx.elim
      | outgrown => exact hx.elim
    · rintro e X ⟨⟨v, rfl⟩, ⟨hi, hd, hl⟩ | ⟨hi, hd, hl⟩⟩
      · exact ⟨_, _, run_endLoop (P := Tryz.prog) hl (by rw [hbook]; simp), by
          rw [hbook]
          exact hdone _ _ rfl (hI _ _ _ hi (keep_put _ _ _ X (.inr rfl))) ((World.putObj_heap_other (by omega)).trans hd)⟩
      · exact ⟨_, _, run_endLoop (P := Tryz.prog) hl (by rw [hbook]; simp), by
          rw [hbook]
          exact hstop _ _ rfl (hIx _ _ hi (keep_put _ _ _ X (.inr rfl))) ((World.putObj_heap_other (by omega)).trans hd)⟩
end Go.Proofs.YtpkjaallhhjleaaGreatDoor

/-
  Two styles, two cells held against each other: what '==' and '!=' come to.
-/
namespace Go.Proofs.YtpkjaallhhjleaaGreatDoor
open Go.RowKit

theorem Tryz.fieldsCell : Tryz.prog.underlying 82 = some (.struct (Tryz.prog.fieldsOf 82)) := by kernel_rfl
theorem Tryz.fieldsStyle : Tryz.prog.underlying 38 = some (.struct (Tryz.prog.fieldsOf 38)) := by kernel_rfl
theorem Tryz.heldCell : Tryz.prog.stoodInHeld 82 = false := by kernel_rfl
theorem Tryz.heldStyle : Tryz.prog.stoodInHeld 38 = false := by kernel_rfl


theorem eqF_step (d : Nat) (xs ys : Array Value) (nm : String) (T : TypeId) (o : Nat) (em : Bool) (tg pk : String) (bo : Nat) (fs : List Field) (x y : Value) (r : Bool) (w : World) (hn : nm ≠ "_") (hx : (part T xs o).run Tryz.prog w = .ok x w) (hy : (part T ys o).run Tryz.prog w = .ok y w) (hr : (Op.equalIn d T x y).run Tryz.prog w = .ok r w) :
    (Op.eqFields d xs ys ({ name := nm, type := T, offset := o, embedded := em, tag := tg, pkgPath := pk, byteOffset := bo } :: fs)).run Tryz.prog w = if r = true then (Op.eqFields d xs ys fs).run Tryz.prog w else .ok false w := by
  rw [Op.eqFields, if_pos hn]
  simp only [Sem.run_bind, hx, hy, hr, Result.andThen_ok]
  cases r
  · simp only [Bool.not_false, if_true, Sem.run_pure]; rfl
  · simp only [Bool.not_true, Bool.false_eq_true, if_false, if_true]
theorem part_int (xs : Array Value) (o : Nat) (x : Value) (w : World) (h : xs[o]? = some x) : (part 3 xs o).run Tryz.prog w = .ok x w := by
  unfold part
  simp only [Sem.run_bind, Tryz.isAgg3, Result.andThen_ok]
  simp [h]
theorem part_bool (xs : Array Value) (o : Nat) (x : Value) (w : World) (h : xs[o]? = some x) : (part 4 xs o).run Tryz.prog w = .ok x w := by
  unfold part
  simp only [Sem.run_bind, Tryz.isAgg4, Result.andThen_ok]
  simp [h]
theorem sty_fields : (Tryz.prog.fieldsOf 38).toList = [{ name := "Fg", type := 3, offset := 0, embedded := false, tag := "", pkgPath := "", byteOffset := 0 }, { name := "Bold", type := 4, offset := 1, embedded := false, tag := "", pkgPath := "", byteOffset := 8 }, { name := "Under", type := 4, offset := 2, embedded := false, tag := "", pkgPath := "", byteOffset := 9 }, { name := "Inverse", type := 4, offset := 3, embedded := false, tag := "", pkgPath := "", byteOffset := 10 }] := by
  unfold Program.fieldsOf
  rw [Tryz.underlying38]
theorem sty_eqIn (n : Nat) (a b : Sty) (w : World) : (Op.equalIn (n + 2) 38 (.agg #[.int .i64 a.1, .bool a.2.1, .bool a.2.2.1, .bool a.2.2.2]) (.agg #[.int .i64 b.1, .bool b.2.1, .bool b.2.2.1, .bool b.2.2.2])).run Tryz.prog w = .ok (decide (a = b)) w := by
  rw [run_equalIn_agg _ _ _ _ _ Tryz.fieldsStyle Tryz.heldStyle, sty_fields]
  obtain ⟨a1, a2, a3, a4⟩ := a
  obtain ⟨b1, b2, b3, b4⟩ := b
  rw [eqF_step _ _ _ _ _ _ _ _ _ _ _ _ _ _ _ (by decide) (part_int _ 0 _ w rfl) (part_int _ 0 _ w rfl) (run_equalIn_int w n 3 .i64 .i64 a1 b1 Tryz.underlying3)]
  rw [eqF_step _ _ _ _ _ _ _ _ _ _ _ _ _ _ _ (by decide) (part_bool _ 1 _ w rfl) (part_bool _ 1 _ w rfl) (run_equalIn_bool' w n 4 a2 b2 Tryz.underlying4)]
  rw [eqF_step _ _ _ _ _ _ _ _ _ _ _ _ _ _ _ (by decide) (part_bool _ 2 _ w rfl) (part_bool _ 2 _ w rfl) (run_equalIn_bool' w n 4 a3 b3 Tryz.underlying4)]
  rw [eqF_step _ _ _ _ _ _ _ _ _ _ _ _ _ _ _ (by decide) (part_bool _ 3 _ w rfl) (part_bool _ 3 _ w rfl) (run_equalIn_bool' w n 4 a4 b4 Tryz.underlying4)]
  unfold Op.eqFields
  by_cases h1 : a1 = b1 <;> by_cases h2 : a2 = b2 <;> by_cases h3 : a3 = b3 <;> by_cases h4 : a4 = b4 <;> simp [h1, h2, h3, h4, Sem.run_pure]
theorem sty_eqIn' (d : Nat) (hd : 2 ≤ d) (a b : Sty) (w : World) : (Op.equalIn d 38 (.agg #[.int .i64 a.1, .bool a.2.1, .bool a.2.2.1, .bool a.2.2.2]) (.agg #[.int .i64 b.1, .bool b.2.1, .bool b.2.2.1, .bool b.2.2.2])).run Tryz.prog w = .ok (decide (a = b)) w := by
  obtain ⟨n, rfl⟩ : ∃ n, d = n + 2 := ⟨d - 2, by omega⟩
  exact sty_eqIn n a b w
theorem sty_eql (a b : Sty) (w : World) : (binOp .eql 38 (.agg #[.int .i64 a.1, .bool a.2.1, .bool a.2.2.1, .bool a.2.2.2]) (.agg #[.int .i64 b.1, .bool b.2.1, .bool b.2.2.1, .bool b.2.2.2])).run Tryz.prog w = .ok (.bool (decide (a = b))) w := by
  rw [run_eql_struct, sty_eqIn' 10000 (by decide)]; rfl
theorem sty_neq (a b : Sty) (w : World) : (binOp .neq 38 (.agg #[.int .i64 a.1, .bool a.2.1, .bool a.2.2.1, .bool a.2.2.2]) (.agg #[.int .i64 b.1, .bool b.2.1, .bool b.2.2.1, .bool b.2.2.2])).run Tryz.prog w = .ok (.bool (!decide (a = b))) w := by
  rw [run_neq_struct, sty_eqIn' 10000 (by decide)]; rfl

theorem cel_fields : (Tryz.prog.fieldsOf 82).toList = [{ name := "R", type := 21, offset := 0, embedded := false, tag := "", pkgPath := "", byteOffset := 0 }, { name := "W", type := 3, offset := 1, embedded := false, tag := "", pkgPath := "", byteOffset := 8 }, { name := "Style", type := 38, offset := 2, embedded := false, tag := "", pkgPath := "", byteOffset := 16 }] := by
  unfold Program.fieldsOf
  rw [Tryz.underlying82]
theorem part_rune (xs : Array Value) (o : Nat) (x : Value) (w : World) (h : xs[o]? = some x) : (part 21 xs o).run Tryz.prog w = .ok x w := by
  unfold part
  simp only [Sem.run_bind, Tryz.isAgg21, Result.andThen_ok]
  simp [h]
theorem part_style (c : Cel) (w : World) : (part 38 #[.int .i32 c.1, .int .i64 c.2.1, .int .i64 c.2.2.1, .bool c.2.2.2.1, .bool c.2.2.2.2.1, .bool c.2.2.2.2.2] 2).run Tryz.prog w = .ok (.agg #[.int .i64 c.2.2.1, .bool c.2.2.2.1, .bool c.2.2.2.2.1, .bool c.2.2.2.2.2]) w := by
  unfold part
  simp only [Sem.run_bind, Tryz.isAgg38, Result.andThen_ok, if_true, Tryz.sizeOf38]
  simp
theorem cel_eqIn (n : Nat) (a b : Cel) (w : World) : (Op.equalIn (n + 3) 82 (.agg #[.int .i32 a.1, .int .i64 a.2.1, .int .i64 a.2.2.1, .bool a.2.2.2.1, .bool a.2.2.2.2.1, .bool a.2.2.2.2.2]) (.agg #[.int .i32 b.1, .int .i64 b.2.1, .int .i64 b.2.2.1, .bool b.2.2.2.1, .bool b.2.2.2.2.1, .bool b.2.2.2.2.2])).run Tryz.prog w = .ok (decide (a = b)) w := by
  rw [run_equalIn_agg _ _ _ _ _ Tryz.fieldsCell Tryz.heldCell, cel_fields]
  rw [eqF_step _ _ _ _ _ _ _ _ _ _ _ _ _ _ _ (by decide) (part_rune _ 0 _ w rfl) (part_rune _ 0 _ w rfl) (run_equalIn_int w (n + 1) 21 .i32 .i32 a.1 b.1 Tryz.underlying21)]
  rw [eqF_step _ _ _ _ _ _ _ _ _ _ _ _ _ _ _ (by decide) (part_int _ 1 _ w rfl) (part_int _ 1 _ w rfl) (run_equalIn_int w (n + 1) 3 .i64 .i64 a.2.1 b.2.1 Tryz.underlying3)]
  rw [eqF_step _ _ _ _ _ _ _ _ _ _ _ _ _ _ _ (by decide) (part_style a w) (part_style b w) (sty_eqIn n a.2.2 b.2.2 w)]
  unfold Op.eqFields
  obtain ⟨a1, a2, a3⟩ := a
  obtain ⟨b1, b2, b3⟩ := b
  by_cases h1 : a1 = b1 <;> by_cases h2 : a2 = b2 <;> by_cases h3 : a3 = b3 <;> simp [h1, h2, h3, Sem.run_pure]
theorem cel_eqIn' (d : Nat) (hd : 3 ≤ d) (a b : Cel) (w : World) : (Op.equalIn d 82 (.agg #[.int .i32 a.1, .int .i64 a.2.1, .int .i64 a.2.2.1, .bool a.2.2.2.1, .bool a.2.2.2.2.1, .bool a.2.2.2.2.2]) (.agg #[.int .i32 b.1, .int .i64 b.2.1, .int .i64 b.2.2.1, .bool b.2.2.2.1, .bool b.2.2.2.2.1, .bool b.2.2.2.2.2])).run Tryz.prog w = .ok (decide (a = b)) w := by
  obtain ⟨n, rfl⟩ : ∃ n, d = n + 3 := ⟨d - 3, by omega⟩
  exact cel_eqIn n a b w
theorem cel_eql (a b : Cel) (w : World) : (binOp .eql 82 (.agg #[.int .i32 a.1, .int .i64 a.2.1, .int .i64 a.2.2.1, .bool a.2.2.2.1, .bool a.2.2.2.2.1, .bool a.2.2.2.2.2]) (.agg #[.int .i32 b.1, .int .i64 b.2.1, .int .i64 b.2.2.1, .bool b.2.2.2.1, .bool b.2.2.2.2.1, .bool b.2.2.2.2.2])).run Tryz.prog w = .ok (.bool (decide (a = b))) w := by
  rw [run_eql_struct, cel_eqIn' 10000 (by decide)]; rfl
theorem cel_neq (a b : Cel) (w : World) : (binOp .neq 82 (.agg #[.int .i32 a.1, .int .i64 a.2.1, .int .i64 a.2.2.1, .bool a.2.2.2.1, .bool a.2.2.2.2.1, .bool a.2.2.2.2.2]) (.agg #[.int .i32 b.1, .int .i64 b.2.1, .int .i64 b.2.2.1, .bool b.2.2.2.1, .bool b.2.2.2.2.1, .bool b.2.2.2.2.2])).run Tryz.prog w = .ok (.bool (!decide (a = b))) w := by
  rw [run_neq_struct, cel_eqIn' 10000 (by decide)]; rfl
end Go.Proofs.YtpkjaallhhjleaaGreatDoor

/-
  grids.rightOf: what it returns: for every two cells.
-/
namespace Go.Proofs.YtpkjaallhhjleaaGreatDoor
open Go.RowKit

set_option maxHeartbeats 1000000 in
theorem rightOf_any (l c : Cel) (w : World) :
    Calls Tryz.prog 106 #[.agg #[.int .i32 l.1, .int .i64 l.2.1, .int .i64 l.2.2.1, .bool l.2.2.2.1, .bool l.2.2.2.2.1, .bool l.2.2.2.2.2], .agg #[.int .i32 c.1, .int .i64 c.2.1, .int .i64 c.2.2.1, .bool c.2.2.2.1, .bool c.2.2.2.2.1, .bool c.2.2.2.2.2]] w fun e w' => e = .returned (.bool (decide (c = halfC l.2.2))) ∧ Below w.heap.size w w' := by
  have hs := fun w => sty_eql c.2.2 l.2.2 w
  have hd : decide (c = halfC l.2.2) = (decide (c.1 = 0) && (decide (c.2.1 = 0) && decide (c.2.2 = l.2.2))) := by
    rw [Bool.eq_iff_iff]
    simp only [decide_eq_true_eq, Bool.and_eq_true, halfC, Prod.ext_iff]
  rw [hd]
  clear hd
  generalize decide (c.2.2 = l.2.2) = B at *
  by_cases h1 : c.1 = 0
  · have b1 : (c.1 == 0) = true := by simpa using h1
    rw [decide_eq_true h1, Bool.true_and]
    clear h1
    by_cases h2 : c.2.1 = 0
    · have b2 : (c.2.1 == 0) = true := by simpa using h2
      rw [decide_eq_true h2, Bool.true_and]
      clear h2
      go_enter Tryz.func106, Tryz.ntmps106
      go_wp2
      go_ret
      exact ⟨rfl, ((Below.refl _ w).alloc (Nat.le_refl _) _).alloc (by simp) _⟩
    · have b2 : (c.2.1 == 0) = false := by simpa using h2
      rw [decide_eq_false h2, Bool.false_and]
      clear h2 hs
      go_enter Tryz.func106, Tryz.ntmps106
      go_wp2
      go_ret
      exact ⟨rfl, ((Below.refl _ w).alloc (Nat.le_refl _) _).alloc (by simp) _⟩
  · have b1 : (c.1 == 0) = false := by simpa using h1
    rw [decide_eq_false h1, Bool.false_and]
    clear h1 hs
    go_enter Tryz.func106, Tryz.ntmps106
    go_wp2
    go_ret
    exact ⟨rfl, ((Below.refl _ w).alloc (Nat.le_refl _) _).alloc (by simp) _⟩
end Go.Proofs.YtpkjaallhhjleaaGreatDoor

/-
  sort.Find over a function value that only makes memory: what it returns: whether one of the places answers 0.
-/
namespace Go.Proofs.YtpkjaallhhjleaaGreatDoor
open Go.RowKit Go.Shelf

set_option maxHeartbeats 2000000 in
theorem find_any (g : Nat) (cb : Array Value) (n : Nat) (p : Nat → Int) (w : World) (hn : n ≤ 1000) (eg : ∀ args w, (callFunc g args).run Tryz.prog w = .ok (.enter g args) w)
    (hf : ∀ (w1 : World) (i : Nat), Below w.heap.size w w1 → i < n → Calls Tryz.prog g (#[.int .i64 (i : Int)] ++ cb) w1 fun e w2 => e = .returned (.int .i64 (p i)) ∧ Below w1.heap.size w1 w2)
    (hpos : ∀ a b, a ≤ b → b < n → 0 < p b → 0 < p a) (hneg : ∀ a b, a ≤ b → b < n → p a < 0 → p b < 0) :
    Calls Tryz.prog 76 #[.int .i64 (n : Int), .func (.func g) #[] cb] w fun e w' => (∃ i : Int, e = .returned (.tuple #[.int .i64 i, .bool (foundB n p)])) ∧ Below w.heap.size w w' := by
  have HF := Lib.hid hf
  have HP := Lib.hid hpos
  have HG := Lib.hid (found_iff n p)
  have HM := Lib.hid hneg
  clear hf hpos hneg
  obtain ⟨F, hF⟩ : ∃ F, foundB n p = F := ⟨_, rfl⟩
  rw [hF]
  rw [hF] at HG
  clear hF
  go_enter Tryz.func76, Tryz.ntmps76
  go_wp2
  go_loopw [4, 6] (fun s4 s6 wr => ∃ lo hi : Nat, s4 = .int .i64 (lo : Int) ∧ s6 = .int .i64 (hi : Int) ∧ lo ≤ hi ∧ hi ≤ n ∧ Below w.heap.size w wr ∧ Hid ((∀ t, t < lo → 0 < p t) ∧ (∀ t, hi ≤ t → t < n → p t ≤ 0))) (fun s4 s6 _ => (intOf s6).toNat - (intOf s4).toNat)
  case atStart => exact ⟨0, n, rfl, rfl, Nat.zero_le _, Nat.le_refl _, Below.refl _ _, ⟨fun t ht => absurd ht (Nat.not_lt_zero _), fun t h1 h2 => by omega⟩⟩
  case round =>
    obtain ⟨lo, hi, rfl, rfl, hlh, hin, hbw, I⟩ := hrel
    by_cases hlt : lo < hi
    · have hc := HF.out wr ((lo + hi) / 2) hbw (by omega)
      rw [show (((lo + hi) / 2 : Nat) : Int) = ((lo : Int) + (hi : Int)) / 2 by omega] at hc
      have hsz := hbw.size
      by_cases hp : 0 < p ((lo + hi) / 2)
      · have I2 : Hid ((∀ t, t < (lo + hi) / 2 + 1 → 0 < p t) ∧ (∀ t, hi ≤ t → t < n → p t ≤ 0)) := ⟨fun t ht => HP.out t ((lo + hi) / 2) (by omega) (by omega) hp, I.out.2⟩
        obtain ⟨x, hx⟩ : ∃ x, p ((lo + hi) / 2) = x := ⟨_, rfl⟩
        rw [hx] at hc hp
        have HC := Lib.hid hc
        clear hc hx
        go_wp2_with (go_at_fn g; refine HC.out.mono ?_; rintro e w' ⟨rfl, hb⟩)
        go_roundw
        case rel => exact ⟨(lo + hi) / 2 + 1, hi, by rw [show ((lo : Int) + (hi : Int)) / 2 + 1 = (((lo + hi) / 2 + 1 : Nat) : Int) by omega], rfl, by omega, hin, hbw.trans (hb.mono hsz), I2⟩
        case measure => simp [intOf]; omega
      · have hp2 : p ((lo + hi) / 2) ≤ 0 := by omega
        have I2 : Hid ((∀ t, t < lo → 0 < p t) ∧ (∀ t, (lo + hi) / 2 ≤ t → t < n → p t ≤ 0)) := ⟨I.out.1, fun t h1 h2 => by
          by_cases h : 0 < p t
          · exact absurd (HP.out ((lo + hi) / 2) t h1 h2 h) hp
          · omega⟩
        obtain ⟨x, hx⟩ : ∃ x, p ((lo + hi) / 2) = x := ⟨_, rfl⟩
        rw [hx] at hc hp hp2
        have HC := Lib.hid hc
        clear hc hx hp
        go_wp2_with (go_at_fn g; refine HC.out.mono ?_; rintro e w' ⟨rfl, hb⟩)
        go_roundw
        case rel => exact ⟨lo, (lo + hi) / 2, rfl, by rw [show ((lo : Int) + (hi : Int)) / 2 = (((lo + hi) / 2 : Nat) : Int) by omega], by omega, by omega, hbw.trans (hb.mono hsz), I2⟩
        case measure => simp [intOf]; omega
    · obtain rfl : hi = lo := by omega
      have hg := HG.out hi hin I.out.1 I.out.2 HM.out
      by_cases hlt2 : hi < n
      · have hc := HF.out wr hi hbw hlt2
        rw [decide_eq_true hlt2, Bool.true_and] at hg
        have hsz := hbw.size
        obtain ⟨x, hx⟩ : ∃ x, p hi = x := ⟨_, rfl⟩
        rw [hx] at hc hg
        have HC := Lib.hid hc
        have HG2 := Lib.hid hg
        clear hc hx hg
        go_wp2_with (go_at_fn g; refine HC.out.mono ?_; rintro e w' ⟨rfl, hb⟩)
        go_ret2
        exact ⟨⟨(hi : Int), by rw [HG2.out]; rfl⟩, hbw.trans (hb.mono hsz)⟩
      · rw [decide_eq_false hlt2, Bool.false_and] at hg
        have HG2 := Lib.hid hg
        clear hg
        go_wp2
        go_ret2
        exact ⟨⟨(hi : Int), by rw [HG2.out]; rfl⟩, hbw⟩
end Go.Proofs.YtpkjaallhhjleaaGreatDoor

/-
  codes.Put and utf8.ValidRune: what each call returns: for every number. No condition.
-/
namespace Go.Proofs.YtpkjaallhhjleaaGreatDoor
open Go.RowKit

set_option maxHeartbeats 1000000 in
theorem validRune_any (r : Int) (w : World) :
    Calls Tryz.prog 47 #[.int .i32 r] w fun e w' => e = .returned (.bool (Lib.validRune r)) ∧ w' = w := by
  go_enter Tryz.func47, Tryz.ntmps47
  go_wp2
  all_goals (go_ret; refine ⟨?_, rfl⟩; first | (rw [show Lib.validRune r = true from decide_eq_true (by omega)]; rfl) | (rw [show Lib.validRune r = false from decide_eq_false (by omega)]; rfl))

set_option maxHeartbeats 1000000 in
theorem put_any (r : Int) (w : World) :
    Calls Tryz.prog 23 #[.int .i32 r] w fun e w' => e = .returned (.string (if Lib.validRune r then Utf8.encode r else ⟨#[]⟩)) ∧ w' = w := by
  cases hv : Lib.validRune r
  all_goals
    go_enter Tryz.func23, Tryz.ntmps23
    go_wp2_with (go_at_call 47; refine (validRune_any _ _).mono ?_; rintro e w' ⟨rfl, rfl⟩)
    go_ret
    exact ⟨rfl, rfl⟩

set_option maxHeartbeats 1000000 in
theorem putB_any (r : Int) (w : World) :
    Calls Tryz.prog 23 #[.int .i32 r] w fun e w' => e = .returned (.string (putB r)) ∧ w' = w := put_any r w

end Go.Proofs.YtpkjaallhhjleaaGreatDoor
