/-
  places: skip: how many lines were gone over, and where the next one begins.
-/
import Derived.Test.YtdkoonnimfildaaPlRange
import Derived.Shelf.RegionOpen
namespace Go.Proofs.Ytdkoonnimfildaa
open Go.RowKit Go.Shelf

theorem lines_any (s : ByteArray) (w : World) :
    Calls Try.prog 31 #[.string s] w fun e w' => e = .returned (.func (.func 39) #[] #[.pointer (some ⟨w.heap.size, 0, none⟩)]) ∧ w' = w.alloc (.cells #[.string s] 9) := by
  go_enter Try.func31, Try.ntmps31
  go_wp2
  go_ret
  exact ⟨rfl, rfl⟩

attribute [local go_sem] Oper.semAt_some

/-- Between two lines: the three variables of the call. -/
structure SkipW (w : World) (l : Int) (n p : Nat) (W : World) : Prop where
  lines : BoxV W w.heap.size (.int .i64 l) 3
  gone : BoxV W (w.heap.size + 1) (.int .i64 (n : Int)) 3
  at_ : BoxV W (w.heap.size + 2) (.int .i64 (p : Int)) 3
  below : Below w.heap.size w W
theorem SkipW.far {w : World} {l : Int} {n p : Nat} {W W' : World} (h : SkipW w l n p W) (g : FarX (w.heap.size + 4) (w.heap.size + 3) W W') : SkipW w l n p W' :=
  ⟨g.box h.lines (by omega) (by omega), g.box h.gone (by omega) (by omega), g.box h.at_ (by omega) (by omega), g.below h.below (by omega) (by omega)⟩

/-- A line ends with a line feed, but perhaps the last one. -/
theorem endsB_next (s : ByteArray) (p : Nat) (h : p < s.size) : endsB (s.extract p (nextN s.data.toList p)) = decide (endN s.data.toList p < s.data.toList.length) := by
  have hl := len_bytes s
  have hg := nextN_gt s.data.toList p (by omega)
  have hle := nextN_le s.data.toList p
  have hz := ex_size s p (nextN s.data.toList p) (by omega)
  have h1 := endsB_iff (s.extract p (nextN s.data.toList p)) (by omega)
  have h2 : nlAt (s.extract p (nextN s.data.toList p)).data.toList ((s.extract p (nextN s.data.toList p)).size - 1) ↔ nlAt s.data.toList (nextN s.data.toList p - 1) := by
    unfold nlAt
    rw [ex_data, hz, List.getElem?_take_of_lt (by omega), List.getElem?_drop, show p + (nextN s.data.toList p - p - 1) = nextN s.data.toList p - 1 by omega]
  rw [h2] at h1
  by_cases he : endN s.data.toList p < s.data.toList.length
  · rw [decide_eq_true he, h1]
    have e : nextN s.data.toList p - 1 = endN s.data.toList p := by unfold nextN; omega
    rw [e]
    exact (endN_stop s.data.toList p (by omega)).resolve_left (by omega)
  · rw [decide_eq_false he]
    refine Bool.eq_false_iff.2 fun hb => ?_
    have hn := h1.1 hb
    have h3 := endN_le s.data.toList p (by omega)
    have h4 := endN_ge s.data.toList p
    have e : nextN s.data.toList p = s.data.toList.length := by unfold nextN; omega
    rw [e] at hn
    exact endN_gap s.data.toList p _ (by omega) (by omega) hn

/-- As far as one may come. -/
def DoneN (b : List UInt8) (l : Int) (n p : Nat) : Prop := AtN b l n p ∧ (l ≤ (n : Int) ∨ endN b p = b.length)
def SkipX (s : ByteArray) (w : World) (l : Int) (i : Nat) (W : World) : Prop := i = 0 ∧ ∃ n p, SkipW w l n p W ∧ Hid (DoneN s.data.toList l n p)
def SkipI (s : ByteArray) (w : World) (l : Int) (p : Nat) (W : World) : Prop := ∃ n, SkipW w l n p W ∧ Hid (AtN s.data.toList l n p)

/-- The way out: the loop's mark is taken off; the two results are read out of their boxes. -/
theorem skip_leave (s : ByteArray) (l : Int) (w W : World) (n p D : Nat) (a : Act) (hW : SkipW w l n p W) (HD : Hid (DoneN s.data.toList l n p)) (hD : w.heap.size + 4 ≤ D) (hK : W.heap[D]? = some (.deferred (some [])))
    (hd : a.defers = [{ target := .collected D, args := #[] }]) (h4 : a.tmps[4]?.getD undef = .pointer (some ⟨w.heap.size + 1, 0, none⟩)) (h5 : a.tmps[5]?.getD undef = .pointer (some ⟨w.heap.size + 1 + 1, 0, none⟩)) :
    bodyPostM Fence.wide 5 Try.prog Try.f25 (fun e w' => (∃ n p : Nat, Hid (DoneN s.data.toList l n p) ∧ e = .returned (.tuple #[.int .i64 (n : Int), .int .i64 (p : Int)])) ∧ Below w.heap.size w w') .ret a
      ((W.setCell ⟨w.heap.size + 1, 0, none⟩ (.int .i64 (n : Int))).setCell ⟨w.heap.size + 1 + 1, 0, none⟩ (.int .i64 (p : Int))).drew := by
  have g1 := nearX_set (w.heap.size + 1) 0 none (.int .i64 (n : Int)) W
  have g2 := (nearX_set (w.heap.size + 2) 0 none (.int .i64 (p : Int)) (W.setCell ⟨w.heap.size + 1, 0, none⟩ (.int .i64 (n : Int)))).trans (nearX_drew _ _)
  obtain ⟨X, hX⟩ : ∃ X, ((W.setCell ⟨w.heap.size + 1, 0, none⟩ (.int .i64 (n : Int))).setCell ⟨w.heap.size + 1 + 1, 0, none⟩ (.int .i64 (p : Int))).drew = X := ⟨_, rfl⟩
  have x1 : BoxV X (w.heap.size + 1) (.int .i64 (n : Int)) 3 := by rw [← hX]; exact (hW.gone.set _).near g2 (by omega)
  have x2 : BoxV X (w.heap.size + 1 + 1) (.int .i64 (p : Int)) 3 := by
    rw [← hX]
    exact BoxV.near (C := w.heap.size) ((hW.at_.near g1 (by omega)).set _) (nearX_drew _ _) (by omega)
  have xK : X.heap[D]? = some (.deferred (some [])) := by rw [← hX]; exact (g2.same D (by omega)).trans ((g1.same D (by omega)).trans hK)
  have xb : Below w.heap.size w X := by rw [← hX]; exact g2.below (g1.below hW.below (by omega)) (by omega)
  rw [hX]
  show LeavesInM _ _ _ _ _ _ _ _ _
  rw [hd]
  refine ⟨by simp, .inl ⟨_, _, rfl, run_takeDeferred xK, ?_⟩⟩
  have y1 := BoxV.cell (BoxV.near (C := D) x1 ⟨rfl, rfl, rfl, World.putObj_size, fun k hk => World.putObj_heap_other hk⟩ (by omega) (W' := X.putObj D (.deferred none)))
  have y2 := BoxV.cell (BoxV.near (C := D) x2 ⟨rfl, rfl, rfl, World.putObj_size, fun k hk => World.putObj_heap_other hk⟩ (by omega) (W' := X.putObj D (.deferred none)))
  obtain ⟨Y, hY⟩ : ∃ Y, X.putObj D (.deferred none) = Y := ⟨_, rfl⟩
  have yb : Below w.heap.size w Y := by rw [← hY]; exact NearX.below xb ⟨rfl, rfl, rfl, World.putObj_size, fun k hk => World.putObj_heap_other hk⟩ (B := D) (by omega)
  rw [hY] at y1 y2 ⊢
  refine ⟨.tuple #[.int .i64 (n : Int), .int .i64 (p : Int)], ?_, ⟨n, p, HD, rfl⟩, yb⟩
  simp [results, Try.f25, Sem.run_bind, Result.andThen, h4, h5, asAddr, loadVar, go_sem, y1.1, y2.1]

set_option maxRecDepth 100000 in
set_option maxHeartbeats 2000000 in
theorem skip_any (s : ByteArray) (l : Int) (w : World) (hs : s.size ≤ 1000000) :
    Calls Try.prog 25 #[.string s, .int .i64 l] w fun e w' => (∃ n p : Nat, Hid (DoneN s.data.toList l n p) ∧ e = .returned (.tuple #[.int .i64 (n : Int), .int .i64 (p : Int)])) ∧ Below w.heap.size w w' := by
  refine (callsIn_wide (n := 5)).1 ?_
  refine callsIn_of_wp_marks Try.func25 rfl trivial ?_ rfl
  simp only [Try.ntmps25, List.size_toArray, List.length_cons, List.length_nil, Nat.reduceAdd, Nat.reduceSub, Array.replicate_succ, Array.replicate_zero, List.push_toArray, List.append_toArray, List.nil_append, List.cons_append]
  gi_wp2_with (refine ⟨trivial, ?_⟩; gi_at_call 31; refine (callsIn_wide.2 (lines_any s _)).mono ?_; rintro e w' ⟨rfl, rfl⟩)
  have hbl := len_bytes s
  obtain ⟨V, hV⟩ : ∃ V, ((((w.alloc (.cells #[.int .i64 l] 3)).alloc (.cells #[.int .i64 0] 3)).alloc (.cells #[.int .i64 0] 3)).alloc (.cells #[.string s] 9)) = V := ⟨_, rfl⟩
  have hz : V.heap.size = w.heap.size + 4 := by rw [← hV]; simp
  have hS : SkipW w l 0 0 V := by
    rw [← hV]
    refine ⟨?_, ?_, ?_, ((((Below.refl _ w).alloc (Nat.le_refl _) _).alloc (by simp) _).alloc (by simp; omega) _).alloc (by simp; omega) _⟩
    · unfold BoxV
      rw [Below.heap_alloc _ _ _ (by simp only [World.size_alloc]; omega), Below.heap_alloc _ _ _ (by simp only [World.size_alloc]; omega), Below.heap_alloc _ _ _ (by simp only [World.size_alloc]; omega)]
      exact World.alloc_heap_new w _
    · unfold BoxV
      rw [Below.heap_alloc _ _ _ (by simp only [World.size_alloc]; omega), Below.heap_alloc _ _ _ (by simp only [World.size_alloc]; omega)]
      have := World.alloc_heap_new (w.alloc (.cells #[.int .i64 l] 3)) (.cells #[.int .i64 0] 3)
      rwa [World.size_alloc] at this
    · unfold BoxV
      rw [Below.heap_alloc _ _ _ (by simp only [World.size_alloc]; omega)]
      have := World.alloc_heap_new ((w.alloc (.cells #[.int .i64 l] 3)).alloc (.cells #[.int .i64 0] 3)) (.cells #[.int .i64 0] 3)
      rwa [World.size_alloc, World.size_alloc] at this
  have hL : LeftS s (w.heap.size + 3) V 0 := by
    rw [← hV]
    unfold LeftS BoxV
    have := World.alloc_heap_new (((w.alloc (.cells #[.int .i64 l] 3)).alloc (.cells #[.int .i64 0] 3)).alloc (.cells #[.int .i64 0] 3)) (.cells #[.string s] 9)
    rw [World.size_alloc, World.size_alloc, World.size_alloc] at this
    have e : s.extract 0 s.size = s := by
      apply ba_ext
      rw [ex_data, List.drop_zero, List.take_of_length_le (by omega)]
    rw [e]
    exact this
  rw [hV]
  clear hV
  refine rangeLines_in (n := 5) (by omega) s hs (w.heap.size + 3) rfl rfl hL (SkipI s w l) (SkipX s w l) ?_ ?_ ⟨0, hS, atN_zero _ _⟩
    (fun x => { tmps := #[.string s, .int .i64 l, undef, .pointer (some ⟨w.heap.size, 0, none⟩), .pointer (some ⟨w.heap.size + 1, 0, none⟩), .pointer (some ⟨w.heap.size + 1 + 1, 0, none⟩), .string x, .string s,
      .func (.func 39) #[] #[.pointer (some ⟨w.heap.size + 1 + 1 + 1, 0, none⟩)], .string x, undef, undef, undef, undef, undef, undef, undef, undef, undef, undef, undef, undef, undef, undef, undef, undef], defers := [] }) ?assign ?body ?done ?stop
  · rintro p W W' ⟨n, h1, h2⟩ g
    rw [hz] at g
    exact ⟨n, h1.far g, h2⟩
  · rintro i W W' ⟨rfl, n, p, h1, h2⟩ g
    rw [hz] at g
    exact ⟨rfl, n, p, h1.far g, h2⟩
  case assign =>
    intro l x W K hK
    gi_wp2
    exact hK
  case body =>
    rintro bl p W hp ⟨n, hW, HA⟩
    obtain ⟨c0, f0⟩ := BoxV.cell hW.lines
    obtain ⟨c1, f1⟩ := BoxV.cell hW.gone
    obtain ⟨c2, f2⟩ := BoxV.cell hW.at_
    have hA := HA.out
    have hnp : n ≤ p := by
      rw [← hA.line]
      have := List.count_le_length (a := (10 : UInt8)) (l := s.data.toList.take p)
      rw [List.length_take] at this
      unfold lineN; omega
    have hx := ex_size s p (nextN s.data.toList p) (by have := nextN_le s.data.toList p; omega)
    have hgt := nextN_gt s.data.toList p (by omega)
    have hle := nextN_le s.data.toList p
    have hE := endsB_next s p hp
    by_cases hln : l ≤ (n : Int)
    · have HD : Hid (DoneN s.data.toList l n p) := ⟨hA, .inl hln⟩
      clear hE hA HA hx hgt hle
      gi_wp2
      refine ⟨trivial, ?_⟩
      gi_wp2
      exact ⟨fun _ _ _ h => h, rfl, n, p, hW, HD⟩
    · obtain ⟨x, hxx⟩ : ∃ x, s.extract p (nextN s.data.toList p) = x := ⟨_, rfl⟩
      rw [hxx] at hE hx ⊢
      have H := Lib.hid (hasSuf_any x W (by omega) (by omega))
      rw [hE] at H
      have hlt : (n : Int) < l := by omega
      by_cases he : endN s.data.toList p < s.data.toList.length
      · rw [decide_eq_true he] at H
        have HD : Hid (AtN s.data.toList l (n + 1) (nextN s.data.toList p)) := hA.step he hlt
        obtain ⟨N, hN⟩ : ∃ N, nextN s.data.toList p = N := ⟨_, rfl⟩
        rw [hN] at HD hx hgt hle ⊢
        have hxz : (x.size : Int) = (N : Int) - (p : Int) := by omega
        have hle2 : N ≤ 1000000 := by omega
        clear hE hA HA hx hle hxx hN he hln
        gi_wp2_with (refine ⟨trivial, ?_⟩; gi_at_call 32; refine (CallsIn.inRound bl (callsIn_wide.2 H.out)).mono ?_; rintro e w' ⟨rfl, rfl⟩)
        have g1 := nearX_set (w.heap.size + 1) 0 none (.int .i64 ((n : Int) + 1)) w'
        have g2 := nearX_set (w.heap.size + 2) 0 none (.int .i64 ((p : Int) + ((N : Int) - (p : Int)))) (w'.setCell ⟨w.heap.size + 1, 0, none⟩ (.int .i64 ((n : Int) + 1)))
        refine ⟨fun k o hk ho => ?_, n + 1, ⟨(hW.lines.near g1 (by omega)).near g2 (by omega), (hW.gone.set _).near g2 (by omega), ?_, (g1.below hW.below (by omega) |> fun b => g2.below b (by omega))⟩, HD⟩
        · rw [hz] at hk
          exact (g2.same k (by omega)).trans ((g1.same k (by omega)).trans ho)
        · have := (hW.at_.near g1 (by omega)).set (.int .i64 ((p : Int) + ((N : Int) - (p : Int))))
          rwa [show (p : Int) + ((N : Int) - (p : Int)) = (N : Int) by omega] at this ⊢
      · rw [decide_eq_false he] at H
        have HD : Hid (DoneN s.data.toList l n p) := ⟨hA, .inr (by have := endN_le s.data.toList p (by omega); omega)⟩
        clear hE hA HA hx hgt hle hxx he
        gi_wp2_with (refine ⟨trivial, ?_⟩; gi_at_call 32; refine (CallsIn.inRound bl (callsIn_wide.2 H.out)).mono ?_; rintro e w' ⟨rfl, rfl⟩)
        exact ⟨fun _ _ _ h => h, rfl, n, p, hW, HD⟩
  case done =>
    rintro D W hD ⟨n, hW, HA⟩ hK
    have HD : Hid (DoneN s.data.toList l n s.size) := ⟨HA.out, .inr (by
      have h1 := endN_ge s.data.toList s.size
      have h2 := endN_le s.data.toList s.size (by omega)
      omega)⟩
    obtain ⟨c1, f1⟩ := BoxV.cell hW.gone
    obtain ⟨c2, f2⟩ := BoxV.cell hW.at_
    gi_wp2
    gi_region
    all_goals gi_wp2
    exact skip_leave s l w W n _ D _ hW HD (by omega) hK rfl rfl rfl
  case stop =>
    rintro D i W hD ⟨rfl, n, p, hW, HD⟩ hK
    obtain ⟨c1, f1⟩ := BoxV.cell hW.gone
    obtain ⟨c2, f2⟩ := BoxV.cell hW.at_
    gi_wp2
    gi_region
    all_goals gi_wp2
    exact skip_leave s l w W n _ D _ hW HD (by omega) hK rfl rfl rfl
end Go.Proofs.Ytdkoonnimfildaa
