/-
  Texts of this proof, one behind the other; each begins with its own remark.
-/
import Derived.Test.YtpkjaallhhjleaaGreatDoorBa10
import Derived.Test.YtpkjaallhhjleaaGreatDoorBa11
import Derived.Test.YtpkjaallhhjleaaGreatDoorBa5
import Derived.Test.YtpkjaallhhjleaaGreatDoorBa1
import Derived.Test.YtpkjaallhhjleaaGreatDoorBa9
/-
  grids.Valid: what it returns: for every frame.
-/
namespace Go.Proofs.YtpkjaallhhjleaaGreatDoor
open Go.RowKit Go.Shelf

theorem validB_head {f : Frm} (h1 : sizedB f.rows f.cols = true) (h2 : (f.cells.length : Int) = f.rows * f.cols) (h3 : withinB f.rows f.cols f.row f.col = true) : validB f = rowsB f.cells f.cols.toNat f.rows.toNat := by
  unfold validB
  rw [h1, h3, decide_eq_true h2]
  rfl
theorem mul_room {a b : Int} (h : sizedB a b = true) : 0 ≤ a * b ∧ a * b ≤ 20000 := by
  obtain ⟨h1, h2, h3, h4⟩ := (sizedB_iff a b).1 h
  obtain ⟨m, rfl⟩ : ∃ m : Nat, a = (m : Int) := ⟨a.toNat, by omega⟩
  obtain ⟨n, rfl⟩ : ∃ n : Nat, b = (n : Int) := ⟨b.toNat, by omega⟩
  rw [← Int.natCast_mul]
  have := Nat.mul_le_mul (show m ≤ 100 by omega) (show n ≤ 200 by omega)
  omega

section
variable {ok : Nat → Prop} {ao : Option Addr} {N cap : Nat}
/-- What stands ahead of the rows refuses it. -/
theorem valid_size (f : Frm) (w : World) (h : sizedB f.rows f.cols = false) :
    Calls Tryz.prog 19 #[.agg #[.int .i64 f.rows, .int .i64 f.cols, .slice ao N cap, .int .i64 f.row, .int .i64 f.col]] w fun e w' => e = .returned (.bool false) ∧ Below w.heap.size w w' := by
  have H := Lib.hid (fun w => sized_any f.rows f.cols w)
  rw [h] at H
  clear h
  go_enter Tryz.func19, Tryz.ntmps19
  go_wp2_with fail
  go_fit (H.out _)
  rintro e w2 ⟨rfl, rfl⟩
  go_wp2
  exact bodyPost_ret (v := .bool false) (by simp [results, Tryz.results19, go_sem]) rfl ⟨rfl, ((Below.refl _ w).alloc (Nat.le_refl _) _).alloc (by simp) _⟩
theorem valid_len (f : Frm) (w : World) (h : sizedB f.rows f.cols = true) (h2 : (N : Int) ≠ f.rows * f.cols) :
    Calls Tryz.prog 19 #[.agg #[.int .i64 f.rows, .int .i64 f.cols, .slice ao N cap, .int .i64 f.row, .int .i64 f.col]] w fun e w' => e = .returned (.bool false) ∧ Below w.heap.size w w' := by
  have H := Lib.hid (fun w => sized_any f.rows f.cols w)
  rw [h] at H
  have hr := mul_room h
  obtain ⟨P, hP⟩ : ∃ P, f.rows * f.cols = P := ⟨_, rfl⟩
  rw [hP] at h2 hr
  have b2 : ((N : Int) != P) = true := by simpa using h2
  obtain ⟨r1, r2⟩ := hr
  clear h h2
  go_enter Tryz.func19, Tryz.ntmps19
  go_wp2_with fail
  go_fit (H.out _)
  rintro e w2 ⟨rfl, rfl⟩
  go_wp2
  exact bodyPost_ret (v := .bool false) (by simp [results, Tryz.results19, go_sem]) rfl ⟨rfl, ((Below.refl _ w).alloc (Nat.le_refl _) _).alloc (by simp) _⟩
theorem valid_cursor (f : Frm) (w : World) (h : sizedB f.rows f.cols = true) (h2 : (N : Int) = f.rows * f.cols) (h3 : withinB f.rows f.cols f.row f.col = false) :
    Calls Tryz.prog 19 #[.agg #[.int .i64 f.rows, .int .i64 f.cols, .slice ao N cap, .int .i64 f.row, .int .i64 f.col]] w fun e w' => e = .returned (.bool false) ∧ Below w.heap.size w w' := by
  have H := Lib.hid (fun w => sized_any f.rows f.cols w)
  rw [h] at H
  have H2 := Lib.hid (fun w => within_any (ao := ao) (n := N) (cap := cap) f.rows f.cols f.row f.col f.row f.col w)
  rw [h3] at H2
  have hr := mul_room h
  obtain ⟨P, hP⟩ : ∃ P, f.rows * f.cols = P := ⟨_, rfl⟩
  rw [hP] at h2 hr
  have b2 : ((N : Int) != P) = false := by simpa using h2
  obtain ⟨r1, r2⟩ := hr
  have hB0 := (boxW.new (w.alloc (.cells #[.int .i64 f.rows, .int .i64 f.cols, .slice ao N cap, .int .i64 f.row, .int .i64 f.col] 35)) (.bool false) 4)
  rw [World.size_alloc] at hB0
  have HB0 := Lib.hid hB0
  clear h h2 h3 hB0
  go_enter Tryz.func19, Tryz.ntmps19
  go_wp2_with fail
  go_fit (H.out _)
  rintro e w2 ⟨rfl, rfl⟩
  go_wp2_with fail
  go_fit (H2.out _)
  rintro e w3 ⟨rfl, hb3⟩
  have hB1 := HB0.out.below hb3 (by simp)
  have HS : Hid (boxW (w3.setCell ⟨w.heap.size + 1, 0, none⟩ (.bool false)) (w.heap.size + 1) (.bool false) 4) := hB1.set
  have HK : Hid (Below w.heap.size w (w3.setCell ⟨w.heap.size + 1, 0, none⟩ (.bool false))) :=
    ((((Below.refl _ w).alloc (Nat.le_refl _) _).alloc (by simp) _).trans (hb3.mono (by simp; omega))).setCell (p := ⟨w.heap.size + 1, 0, none⟩) (by show _ ≤ w.heap.size + 1; omega) _
  obtain ⟨c0, f0⟩ := hB1.cell
  have hlt := hB1.lt
  clear H H2 HB0 hB1 hb3
  go_wp2
  obtain ⟨y0, _⟩ := HS.out.cell
  exact bodyPost_ret (v := .bool false) (by simp [results, Tryz.results19, go_sem, y0]) rfl ⟨rfl, HK.out⟩
end

attribute [local go_sem] Oper.semAt_some

/-- Between two rows. -/
structure VdI (w : World) (L : List Cel) (m n g o N cap D : Nat) (k : Nat) (W : World) : Prop where
  below : Below w.heap.size w W
  two : TwoB D (D + 1) g o N cap n W
  box : boxW W (w.heap.size + 1) (.bool false) 4
  upto : ∀ j, j < k → rowB (rowK L n j) = true
structure VdX (w : World) (L : List Cel) (m n : Nat) (W : World) : Prop where
  below : Below w.heap.size w W
  box : boxW W (w.heap.size + 1) (.bool false) 4
  bad : rowsB L n m = false
theorem TwoB.keep {Bs Bn g o N cap n : Nat} {W W' : World} {ok : Nat → Prop} (h : TwoB Bs Bn g o N cap n W) (hk : KeepW ok W W') (h1 : ok Bs) (h2 : ok Bn) : TwoB Bs Bn g o N cap n W' := ⟨hk.cell h.1 h1, hk.cell h.2 h2⟩
theorem rows_at {ok : Nat → Prop} {w : World} {g o N cap m n k : Nat} {L : List Cel} (h : CelsW ok w (.slice (some ⟨g, o, none⟩) N cap) L) (hl : L.length = N) (hN : N = m * n) (hk : k < m) : CelsW ok w (.slice (some ⟨g, o + k * n * 6, none⟩) n n) (rowK L n k) := by
  have hr := row_room (n := n) hk
  have hlen := rowK_len (hl.trans hN) hk
  unfold CelsW at h ⊢
  rw [hl] at h
  rw [hlen]
  have h1 := RowV.drop (i := k * n) (c2 := N - k * n) 6 h (Nat.le_refl _)
  rw [celC_drop] at h1
  have h2 := RowV.take (k := n) (c2 := n) 6 h1 (Nat.le_refl _)
  rwa [celC_take] at h2

/-- The way out: the loop's mark is taken off, the result is read out of its box. -/
theorem valid_leave {w W : World} {b b2 : Bool} (e : b = b2) (D : Nat) (a : Act) (hB : boxW W (w.heap.size + 1) (.bool b) 4) (hb : Below w.heap.size w W) (hD : w.heap.size + 2 ≤ D) (hK : W.heap[D]? = some (.deferred (some [])))
    (hd : a.defers = [{ target := .collected D, args := #[] }]) (h2 : a.tmps[2]?.getD undef = .pointer (some ⟨w.heap.size + 1, 0, none⟩)) :
    bodyPostM Fence.wide 5 Tryz.prog Tryz.f19 (fun e w' => e = .returned (.bool b2) ∧ Below w.heap.size w w') .ret a W := by
  subst e
  show LeavesInM _ _ _ _ _ _ _ _ _
  rw [hd]
  refine ⟨by simp, .inl ⟨_, _, rfl, run_takeDeferred hK, ?_⟩⟩
  have hk : KeepW (fun k => k ≠ D) W (W.putObj D (.deferred none)) := ⟨rfl, rfl, rfl, by rw [World.putObj_size]; exact Nat.le_refl _, fun k _ hk => World.putObj_heap_other hk⟩
  have y1 := (hB.keep hk (by show _ ≠ _; omega)).cell
  have yb : Below w.heap.size w (W.putObj D (.deferred none)) := KeepW.below hb hk hb.size (fun k hk => by show _ ≠ _; omega)
  obtain ⟨Y, hY⟩ : ∃ Y, W.putObj D (.deferred none) = Y := ⟨_, rfl⟩
  rw [hY] at y1 yb ⊢
  refine ⟨.bool b, ?_, rfl, yb⟩
  simp [results, Tryz.f19, Sem.run_bind, Result.andThen, h2, asAddr, loadVar, go_sem, y1.1]

set_option maxRecDepth 100000 in
set_option maxHeartbeats 4000000 in
theorem valid_rows {ok : Nat → Prop} {g o N cap : Nat} (f : Frm) (m n : Nat) (w : World) (hr : f.rows = (m : Int)) (hc : f.cols = (n : Int)) (hm : 2 ≤ m ∧ m ≤ 100) (hn : 8 ≤ n ∧ n ≤ 200) (hN : N = m * n) (hS : CelsW ok w (.slice (some ⟨g, o, none⟩) N cap) f.cells) (hlen : f.cells.length = N) (hcap : N ≤ cap) (h3 : withinB f.rows f.cols f.row f.col = true) (hL : LaidW w) :
    Calls Tryz.prog 19 #[.agg #[.int .i64 f.rows, .int .i64 f.cols, .slice (some ⟨g, o, none⟩) N cap, .int .i64 f.row, .int .i64 f.col]] w fun e w' => e = .returned (.bool (rowsB f.cells n m)) ∧ Below w.heap.size w w' := by
  rw [hr, hc] at h3 ⊢
  have H := Lib.hid (fun w => sized_any (m : Int) (n : Int) w)
  rw [(sizedB_iff _ _).2 (by omega)] at H
  have H2 := Lib.hid (fun w => within_any (ao := some ⟨g, o, none⟩) (n := N) (cap := cap) (m : Int) (n : Int) f.row f.col f.row f.col w)
  rw [h3] at H2
  have H3 := Lib.hid (fun w => chunk_any (ao := some ⟨g, o, none⟩) (N := N) (cap := cap) n w (by omega))
  have hmul : (m : Int) * (n : Int) = (N : Int) := by rw [hN, Int.natCast_mul]
  have hle : N ≤ 20000 := by rw [hN]; exact Nat.mul_le_mul hm.2 hn.2
  have i1 : (m : Int) ≤ 100 := by omega
  have i2 : (n : Int) ≤ 200 := by omega
  have i3 : (0 : Int) ≤ (m : Int) := by omega
  have i4 : (0 : Int) ≤ (n : Int) := by omega
  have i5 : (N : Int) ≤ 20000 := by omega
  have b2 : ((N : Int) != (N : Int)) = false := by simp
  have hb0 := boxW.new (w.alloc (.cells #[.int .i64 (m : Int), .int .i64 (n : Int), .slice (some ⟨g, o, none⟩) N cap, .int .i64 f.row, .int .i64 f.col] 35)) (.bool false) 4
  rw [World.size_alloc] at hb0
  have hf0 := (frB.new (r := (m : Int)) (c := (n : Int)) (v := .slice (some ⟨g, o, none⟩) N cap) (a := f.row) (b := f.col) w)
  have HX : Hid (∀ W, Below (w.heap.size + 2) ((w.alloc (.cells #[.int .i64 (m : Int), .int .i64 (n : Int), .slice (some ⟨g, o, none⟩) N cap, .int .i64 f.row, .int .i64 f.col] 35)).alloc (.cells #[.bool false] 4)) W →
      Below w.heap.size w W ∧ boxW W (w.heap.size + 1) (.bool false) 4 ∧ frB W w.heap.size (m : Int) (n : Int) (.slice (some ⟨g, o, none⟩) N cap) f.row f.col) := fun W hW => by
    refine ⟨(((Below.refl _ w).alloc (Nat.le_refl _) _).alloc (by simp) _).trans (hW.mono (by omega)), hb0.below hW (by omega), ?_⟩
    exact frB.below (n := w.heap.size + 2) ((Below.heap_alloc _ _ _ (by rw [World.size_alloc]; omega)).trans hf0) hW (by omega)
  have HS := Lib.hid hS
  have HN := Lib.hid hN
  have HLn := Lib.hid hlen
  have HLW := Lib.hid hL
  have hcp := hcap
  have hRB : Hid (∀ k, k < m → rowB (rowK f.cells n k) = false → rowsB f.cells n m = false) := fun k hk hb => by
    refine Bool.eq_false_iff.2 fun h => ?_
    have := (rowB_iff _).2 ((rowsB_iff _ _ _).1 h k hk)
    rw [hb] at this; cases this
  have hRT : Hid ((∀ j, j < m → rowB (rowK f.cells n j) = true) → rowsB f.cells n m = true) := fun h => (rowsB_iff _ _ _).2 fun k hk => (rowB_iff _).1 (h k hk)
  clear hS hN hlen hL hb0 hf0 h3
  refine (callsIn_wide (n := 5)).1 ?_
  refine callsIn_of_wp_marks Tryz.func19 rfl trivial ?_ rfl
  simp only [Tryz.ntmps19, List.size_toArray, List.length_cons, List.length_nil, Nat.reduceAdd, Nat.reduceSub, Array.replicate_succ, Array.replicate_zero, List.push_toArray, List.append_toArray, List.nil_append, List.cons_append]
  gi_wp2_with (first
    | (refine ⟨trivial, ?_⟩; gi_at_call 40; refine (callsIn_wide.2 (H.out _)).mono ?_; rintro e w' ⟨rfl, rfl⟩)
    | (refine ⟨trivial, ?_⟩; gi_at_call 41; refine (callsIn_wide.2 (H2.out _)).mono ?_; rintro e w3 ⟨rfl, hb3⟩; obtain ⟨kb, kx, kf⟩ := HX.out _ (by simpa using hb3); obtain ⟨⟨d0, d1, d2, d3, d4⟩, _⟩ := kf.cells; have hlt3 := kf.lt)
    | (refine ⟨trivial, ?_⟩; gi_at_call 42; refine (callsIn_wide.2 (H3.out _)).mono ?_; rintro e w4 ⟨rfl, hw4⟩))
  have hz3 : w.heap.size + 2 ≤ w3.heap.size := by have := hb3.size; simpa using this
  obtain ⟨V, hV⟩ : ∃ V, (w3.alloc (.cells #[.slice (some ⟨g, o, none⟩) N cap] 33)).alloc (.cells #[.int .i64 (n : Int)] 3) = V := ⟨_, rfl⟩
  have hz : V.heap.size = w3.heap.size + 2 := by rw [← hV]; simp
  have h0 : VdI w f.cells m n g o N cap w3.heap.size 0 V := by
    have q : Below w3.heap.size w3 V := by rw [← hV]; exact ((Below.refl _ w3).alloc (Nat.le_refl _) _).alloc (by simp) _
    refine ⟨kb.trans (q.mono (by omega)), ⟨?_, ?_⟩, kx.below q (by omega), fun j hj => by omega⟩
    · have e := boxW.new w3 (.slice (some ⟨g, o, none⟩) N cap) 33
      have e2 : boxW V w3.heap.size (.slice (some ⟨g, o, none⟩) N cap) 33 := by rw [← hV]; exact (Below.heap_alloc _ _ _ (by rw [World.size_alloc]; omega)).trans e
      exact e2.cell.1
    · have e := boxW.new (w3.alloc (.cells #[.slice (some ⟨g, o, none⟩) N cap] 33)) (.int .i64 (n : Int)) 3
      rw [World.size_alloc, hV] at e
      exact e.cell.1
  rw [hV]
  have HH0 := Lib.hid h0
  clear hV H H2 H3 HX hb3 kb kx kf d0 d1 d2 d3 d4 h0
  have ok0 : ∀ k, k < w.heap.size + 2 → NotB V.heap.size k := fun k hk => by unfold NotB; omega
  refine rangeChunk_in (F := 5) (by omega) w3.heap.size (w3.heap.size + 1) g o N cap m n HN.out hcp hn hm.2 rfl rfl (VdI w f.cells m n g o N cap w3.heap.size) (VdX w f.cells m n) ?_ ?_ (fun k W h => h.two) HH0.out
    (fun x => { tmps := #[.agg #[.int .i64 (m : Int), .int .i64 (n : Int), .slice (some ⟨g, o, none⟩) N cap, .int .i64 f.row, .int .i64 f.col], .pointer (some ⟨w.heap.size, 0, none⟩), .pointer (some ⟨w.heap.size + 1, 0, none⟩), x, .pointer (some ⟨w.heap.size, 0, none⟩), .int .i64 (m : Int), .pointer (some ⟨w.heap.size, 1, none⟩), .int .i64 (n : Int), .bool true, .bool false, .bool false, .pointer (some ⟨w.heap.size, 2, none⟩), .slice (some ⟨g, o, none⟩) N cap, .int .i64 (N : Int), .pointer (some ⟨w.heap.size, 0, none⟩), .int .i64 (m : Int), .pointer (some ⟨w.heap.size, 1, none⟩), .int .i64 (n : Int), .int .i64 (N : Int), .bool false, .bool false, .bool false, .agg #[.int .i64 (m : Int), .int .i64 (n : Int), .slice (some ⟨g, o, none⟩) N cap, .int .i64 f.row, .int .i64 f.col], .pointer (some ⟨w.heap.size, 3, none⟩), .int .i64 f.row, .pointer (some ⟨w.heap.size, 4, none⟩), .int .i64 f.col, .bool true, .bool false, .bool false, .pointer (some ⟨w.heap.size, 2, none⟩), .slice (some ⟨g, o, none⟩) N cap, .pointer (some ⟨w.heap.size, 1, none⟩), .int .i64 (n : Int), .func (.func 74) #[] #[.pointer (some ⟨w3.heap.size, 0, none⟩), .pointer (some ⟨w3.heap.size + 1, 0, none⟩)], x, undef, undef, undef], defers := [] }) ?assign ?body ?done ?stop
  · intro k W W' h hk
    exact ⟨KeepW.below h.below hk h.below.size (fun k hk => ok0 k (by omega)), h.two.keep hk (by unfold NotB; omega) (by unfold NotB; omega), h.box.keep hk (ok0 _ (by omega)), h.upto⟩
  · intro W W' h hk
    exact ⟨KeepW.below h.below hk h.below.size (fun k hk => ok0 k (by omega)), h.box.keep hk (ok0 _ (by omega)), h.bad⟩
  case assign =>
    intro l x W K hK
    gi_wp2
    exact hK
  case body =>
    intro l k W hk hlt hI
    have HO := Lib.hid (ofRunes_any (rowK f.cells n k) W (rows_at (HS.out.below hI.below) HLn.out HN.out hk) (rowK_len (HLn.out.trans HN.out) hk).symm (by omega) (HLW.out.below hI.below))
    have HBX : Hid (∀ W2, Below W.heap.size W W2 → boxW W2 (w.heap.size + 1) (.bool false) 4 ∧ StaysC V.heap.size W W2 ∧ Below w.heap.size w W2 ∧ TwoB w3.heap.size (w3.heap.size + 1) g o N cap n W2) := fun W2 hb =>
      ⟨hI.box.below hb hI.box.lt, fun j oo _ ho => (hb.block j (Array.getElem?_eq_some_iff.1 ho).1).trans ho, hI.below.trans (hb.mono hI.below.size), hI.two.keep (keep_below (fun _ => True) hb) trivial trivial⟩
    have HU := Lib.hid hI.upto
    have hRBk := hRB.out k hk
    obtain ⟨b, hb⟩ : ∃ b, rowB (rowK f.cells n k) = b := ⟨_, rfl⟩
    rw [hb] at HO hRBk
    obtain ⟨OF, hOF⟩ : ∃ OF, o + k * n * 6 = OF := ⟨_, rfl⟩
    rw [hOF] at HO ⊢
    have HBb := Lib.hid hb
    clear hb hOF hI
    cases b with
    | false =>
      have HR := Lib.hid (hRBk rfl)
      clear hRBk
      gi_wp2_with (refine ⟨trivial, ?_⟩; gi_at_call 43; refine (CallsIn.inRound l (callsIn_wide.2 HO.out)).mono ?_; rintro e w' ⟨rfl, hb⟩; obtain ⟨kx, ks, kb, kt⟩ := HBX.out _ hb; obtain ⟨c0, f0⟩ := kx.cell)
      have g1 := keep_set (ok := fun k => k ≠ w.heap.size + 1) (w.heap.size + 1) 0 none (.bool false) w' (fun k => k rfl)
      refine ⟨fun j oo hj ho => (g1.same j (Array.getElem?_eq_some_iff.1 (ks j oo hj ho)).1 (by show _ ≠ _; omega)).trans (ks j oo hj ho), ⟨KeepW.below kb g1 kb.size (fun k hk => by show _ ≠ _; omega), kx.set, HR.out⟩⟩
    | true =>
      clear hRBk
      gi_wp2_with (refine ⟨trivial, ?_⟩; gi_at_call 43; refine (CallsIn.inRound l (callsIn_wide.2 HO.out)).mono ?_; rintro e w' ⟨rfl, hb⟩; obtain ⟨kx, ks, kb, kt⟩ := HBX.out _ hb)
      refine ⟨ks, ⟨kb, kt, kx, fun j hj => ?_⟩⟩
      by_cases e : j = k
      · subst e; exact HBb.out
      · exact HU.out j (by omega)
  case done =>
    rintro D W hD hI hK
    have HR := Lib.hid (hRT.out hI.upto)
    obtain ⟨c0, f0⟩ := hI.box.cell
    have kx := Lib.hid hI.box
    have kb := Lib.hid hI.below
    clear hI
    gi_wp2
    have g1 := keep_set (ok := fun k => k ≠ w.heap.size + 1) (w.heap.size + 1) 0 none (.bool true) W (fun k => k rfl)
    exact valid_leave HR.out.symm D _ kx.out.set (KeepW.below kb.out g1 kb.out.size (fun k hk => by show _ ≠ _; omega)) (by omega) ((g1.same D (Array.getElem?_eq_some_iff.1 hK).1 (by show _ ≠ _; omega)).trans hK) rfl rfl
  case stop =>
    rintro D W hD hX hK
    gi_wp2
    exact valid_leave hX.bad.symm D _ hX.box hX.below (by omega) hK rfl rfl

theorem gvalid_any {ok : Nat → Prop} {v : Value} {f : Frm} (w : World) (h : FrameW ok w v f) (hL : LaidW w) :
    Calls Tryz.prog 19 #[v] w fun e w' => e = .returned (.bool (validB f)) ∧ Below w.heap.size w w' := by
  obtain ⟨ao, N, cap, rfl, hn, hcap, hS⟩ := h
  cases h1 : sizedB f.rows f.cols with
  | false =>
    rw [show validB f = false by unfold validB; rw [h1]; rfl]
    exact valid_size f w h1
  | true =>
    by_cases h2 : (N : Int) = f.rows * f.cols
    · cases h3 : withinB f.rows f.cols f.row f.col with
      | false =>
        rw [show validB f = false by unfold validB; rw [h1, h3, Bool.and_false, Bool.false_and]]
        exact valid_cursor f w h1 h2 h3
      | true =>
        rw [validB_head h1 (by rw [← hn]; exact h2) h3]
        obtain ⟨k1, k2, k3, k4⟩ := (sizedB_iff _ _).1 h1
        obtain ⟨m, hm⟩ : ∃ m : Nat, f.rows = (m : Int) := ⟨f.rows.toNat, by omega⟩
        obtain ⟨n, hn2⟩ : ∃ n : Nat, f.cols = (n : Int) := ⟨f.cols.toNat, by omega⟩
        have hN : N = m * n := by
          rw [hm, hn2, ← Int.natCast_mul] at h2; omega
        have hpos : 0 < N := by rw [hN]; exact Nat.mul_pos (by omega) (by omega)
        obtain ⟨g, o, rfl, _⟩ := hS.ptr (i := 0) (List.getElem?_eq_getElem (show 0 < f.cells.length by omega))
        rw [hm, hn2, Int.toNat_natCast, Int.toNat_natCast, ← hm, ← hn2]
        exact valid_rows f m n w hm hn2 (by omega) (by omega) hN hS hn.symm hcap h3 hL
    · rw [show validB f = false by unfold validB; rw [h1, decide_eq_false (by rw [← hn]; exact h2), Bool.and_false, Bool.false_and, Bool.false_and]]
      exact valid_len f w h1 h2
end Go.Proofs.YtpkjaallhhjleaaGreatDoor

/-
  append onto a full row, as a law of the walk: at a step of a region that draws its order; in a plain region. No call is walked here.
-/
namespace Go.Proofs.YtpkjaallhhjleaaGreatDoor
open Go.RowKit

/-- append onto a full row, at a step of a region that draws its order. -/
theorem step_full {ok ok2 : Nat → Prop} {W : World} {ao : Option Addr} {u : Value} {n k m : Nat} {cs ds : List Value} {ops : Array Oper} {o : Oper} {a : Act} {K : Act → World → Prop} {Q : Exit → Act → World → Prop} {E : Prop} (t e : TypeId) (i : TypeInfo) (z : Value) (bytes : Nat) (ht : Tryz.prog.underlying t = some (.slice e)) (hi : Tryz.prog.info? e = some i) (hz0 : i.zero = some z) (hz1 : i.size = m) (hz2 : i.bytes = bytes)
    (hgd : o.guard = none) (s x : Operand) (ho : o.op = .call { callee := .builtin .append, args := #[s, x], argTypes := #[t, t] })
    (hs : a.eval s = .slice ao n n) (hx : a.eval x = u) (hv : RowV ok W (.slice ao n n) n cs) (hl : cs.length = n * m) (hu : RowV ok2 W u k ds) (hl2 : ds.length = k * m) (hk : 0 < k) (hm : 0 < m) (h1 : ∀ x ∈ ds, x.oneCell' = true) (hb : (n + k) * bytes ≤ 140737488355328) (hn : n + k ≤ 1000000)
    (h : ∀ cap zs, n + k ≤ cap → K (a.put o.dst (.slice (some ⟨W.heap.size, 0, none⟩) (n + k) cap)) (W.drew.alloc (.cells (cs ++ ds ++ zs).toArray e))) :
    if Region.wanted o (yielded ops a.tmps) = true then Oper.wp Tryz.prog o a W K Q else E := by
  have hw : Region.wanted o (yielded ops a.tmps) = true := by simp [Region.wanted, hgd]
  rw [if_pos hw]
  obtain ⟨cap, zs, hr, hc⟩ := run_app_full t o.type e i z bytes ht hi hz0 hz1 hz2 hv hl hu hl2 hk hm h1 hb hn
  unfold Oper.wp execOp
  simp only [ho, resolve, invoke, builtin, Sem.run_bind, Sem.run_pure, Result.andThen_ok, List.map_toArray, List.map_cons, List.map_nil, hs, hx, hr]
  exact h cap zs hc

/-- append onto a full row, in a plain region. -/
theorem wpList_full {ok ok2 : Nat → Prop} {W : World} {ao : Option Addr} {u : Value} {n k m : Nat} {cs ds : List Value} {ops : Array Oper} {rest : List Oper} {o : Oper} {a : Act} {Q : Exit → Act → World → Prop} (t e : TypeId) (i : TypeInfo) (z : Value) (bytes : Nat) (ht : Tryz.prog.underlying t = some (.slice e)) (hi : Tryz.prog.info? e = some i) (hz0 : i.zero = some z) (hz1 : i.size = m) (hz2 : i.bytes = bytes)
    (hgd : o.guard = none) (s x : Operand) (ho : o.op = .call { callee := .builtin .append, args := #[s, x], argTypes := #[t, t] })
    (hs : a.eval s = .slice ao n n) (hx : a.eval x = u) (hv : RowV ok W (.slice ao n n) n cs) (hl : cs.length = n * m) (hu : RowV ok2 W u k ds) (hl2 : ds.length = k * m) (hk : 0 < k) (hm : 0 < m) (h1 : ∀ x ∈ ds, x.oneCell' = true) (hb : (n + k) * bytes ≤ 140737488355328) (hn : n + k ≤ 1000000)
    (h : ∀ cap zs, n + k ≤ cap → wpList Tryz.prog ops Q rest (a.put o.dst (.slice (some ⟨W.heap.size, 0, none⟩) (n + k) cap)) (W.drew.alloc (.cells (cs ++ ds ++ zs).toArray e))) :
    wpList Tryz.prog ops Q (o :: rest) a W := by
  obtain ⟨cap, zs, hr, hc⟩ := run_app_full t o.type e i z bytes ht hi hz0 hz1 hz2 hv hl hu hl2 hk hm h1 hb hn
  refine wpList_plain hgd fun K hK => ?_
  unfold Oper.wp execOp
  simp only [ho, resolve, invoke, builtin, Sem.run_bind, Sem.run_pure, Result.andThen_ok, List.map_toArray, List.map_cons, List.map_nil, hs, hx, hr]
  exact hK _ _ (h cap zs hc)

end Go.Proofs.YtpkjaallhhjleaaGreatDoor

/-
  slices.Clone of cells, limnerref06.Copy: what each call returns, and lays.
-/
namespace Go.Proofs.YtpkjaallhhjleaaGreatDoor
open Go.RowKit

/-- A block of one's own that holds these cells. -/
def NewL (w w' : World) (g : Nat) (l : List Cel) : Prop := ∃ zs, w.heap.size ≤ g ∧ blkL w' g l zs
set_option maxRecDepth 100000 in
set_option maxHeartbeats 1000000 in
theorem clone_any {ok : Nat → Prop} {l : List Cel} (g o cap n : Nat) (w : World) (hS : CelsW ok w (.slice (some ⟨g, o, none⟩) n cap) l) (hn : l.length = n) (h0 : 0 < n) (hl : n ≤ 100000) :
    Calls Tryz.prog 36 #[.slice (some ⟨g, o, none⟩) n cap] w fun e w' => ∃ g' c', e = .returned (.slice (some ⟨g', 0, none⟩) n c') ∧ n ≤ c' ∧ NewL w w' g' l ∧ Below w.heap.size w w' := by
  obtain ⟨i0, hi, hz0, hz1, hz2⟩ := info_parts Tryz.infoCell
  have he : ∀ w : World, (binOp .eql 33 (.slice (some ⟨g, o, none⟩) n cap) (.slice none 0 0)).run Tryz.prog w = .ok (.bool false) w := fun _ => rfl
  have HR : Hid (∀ W, Below w.heap.size w W → RowV ok W (.slice (some ⟨g, o, none⟩) n cap) n (celC l)) := fun W hW => by
    have := RowV.keep hS (keep_below ok hW)
    rwa [hn] at this
  have HL : Hid ((celC l).length = n * 6) := by show _ = _; rw [celC_len, hn]
  have HI := Lib.hid hi
  have H0 := Lib.hid hz0
  have H1 := Lib.hid hz1
  have H2 := Lib.hid hz2
  have hb1 : Below w.heap.size w (w.alloc (.cells #[] 82)) := (Below.refl _ _).alloc (Nat.le_refl _) _
  have HE : Hid (RowV (fun _ => True) (w.alloc (.cells #[] 82)) (.slice (some ⟨w.heap.size, 0, none⟩) 0 0) 0 []) := ⟨_, 0, rfl, Nat.le_refl _, fun _ _ => trivial, fun j u hu => by simp at hu⟩
  clear hS hi hz0 hz1 hz2 hn
  go_enter Tryz.func36, Tryz.ntmps36
  go_wp2_with (at_builtin; refine wpList_full 33 82 i0 _ 32 Tryz.underlying33 HI.out H0.out H1.out H2.out rfl _ _ rfl (by rfl) (by rfl) HE.out (by simp) (HR.out _ hb1) HL.out h0 (by omega) (celC_cell l) (by omega) (by omega) ?_; intro cp zs hcp)
  go_ret
  have hb2 : Below w.heap.size w ((w.alloc (.cells #[] 82)).drew.alloc (.cells (celC l ++ zs).toArray 82)) := hb1.drew.alloc (by simp) _
  refine ⟨w.heap.size + 1, cp, rfl, by omega, ⟨zs, by omega, ?_⟩, hb2⟩
  have := heap_alloc_new (w.alloc (.cells #[] 82)).drew (.cells (celC l ++ zs).toArray 82)
  rw [show (w.alloc (.cells #[] 82)).drew.heap.size = w.heap.size + 1 by show (w.alloc _).heap.size = _; rw [World.size_alloc]] at this
  exact this
set_option maxHeartbeats 1000000 in
theorem copy_any {ok : Nat → Prop} {l : List Cel} (g o cap n : Nat) (r c a b : Int) (w : World) (hS : CelsW ok w (.slice (some ⟨g, o, none⟩) n cap) l) (hn : l.length = n) (h0 : 0 < n) (hl : n ≤ 100000) :
    Calls Tryz.prog 102 #[.agg #[.int .i64 r, .int .i64 c, .slice (some ⟨g, o, none⟩) n cap, .int .i64 a, .int .i64 b]] w fun e w' => ∃ g' c', e = .returned (.agg #[.int .i64 r, .int .i64 c, .slice (some ⟨g', 0, none⟩) n c', .int .i64 a, .int .i64 b]) ∧ n ≤ c' ∧ NewL w w' g' l ∧ Below w.heap.size w w' := by
  obtain ⟨i0, hi, hz0, hz1, hz2⟩ := info_parts Tryz.infoCell
  have HR : Hid (∀ W, Below w.heap.size w W → RowV ok W (.slice (some ⟨g, o, none⟩) n cap) n (celC l)) := fun W hW => by
    have := RowV.keep hS (keep_below ok hW)
    rwa [hn] at this
  have HL : Hid ((celC l).length = n * 6) := by show _ = _; rw [celC_len, hn]
  have HI := Lib.hid hi
  have H0 := Lib.hid hz0
  have H1 := Lib.hid hz1
  have H2 := Lib.hid hz2
  have HE : Hid (∀ W, RowV (fun _ => True) W (.slice none 0 0) 0 []) := fun W => RowV.nil _ W
  have hb1 : Below w.heap.size w ((w.alloc (.cells #[.int .i64 r, .int .i64 c, .slice (some ⟨g, o, none⟩) n cap, .int .i64 a, .int .i64 b] 35)).alloc (.cells #[.int .i64 0, .int .i64 0, .slice none 0 0, .int .i64 0, .int .i64 0] 35)) := ((Below.refl _ _).alloc (Nat.le_refl _) _).alloc (by simp) _
  clear hS hi hz0 hz1 hz2 hn
  go_enter Tryz.func102, Tryz.ntmps102
  go_wp2_with (at_builtin; refine wpList_full 33 82 i0 _ 32 Tryz.underlying33 HI.out H0.out H1.out H2.out rfl _ _ rfl (by rfl) (by rfl) (HE.out _) (by simp) (HR.out _ hb1) HL.out h0 (by omega) (celC_cell l) (by omega) (by omega) ?_; intro cp zs hcp)
  obtain ⟨W, hW⟩ : ∃ W, (((w.alloc (.cells #[.int .i64 r, .int .i64 c, .slice (some ⟨w.heap.size + 1 + 1, 0, none⟩) n cp, .int .i64 a, .int .i64 b] 35)).alloc (.cells #[.int .i64 r, .int .i64 c, .slice (some ⟨w.heap.size + 1 + 1, 0, none⟩) n cp, .int .i64 a, .int .i64 b] 35)).alloc (.cells (celC l ++ zs).toArray 82)).drew = W := ⟨_, rfl⟩
  have p1 : W.heap[w.heap.size + 1]? = some (.cells #[.int .i64 r, .int .i64 c, .slice (some ⟨w.heap.size + 1 + 1, 0, none⟩) n cp, .int .i64 a, .int .i64 b] 35 (0, 0)) := by
    rw [← hW]
    have e := heap_alloc_new (w.alloc (.cells #[.int .i64 r, .int .i64 c, .slice (some ⟨w.heap.size + 1 + 1, 0, none⟩) n cp, .int .i64 a, .int .i64 b] 35)) (.cells #[.int .i64 r, .int .i64 c, .slice (some ⟨w.heap.size + 1 + 1, 0, none⟩) n cp, .int .i64 a, .int .i64 b] 35)
    rw [World.size_alloc] at e
    exact (Below.heap_alloc _ _ _ (by rw [World.size_alloc, World.size_alloc]; omega)).trans e
  have p2 : W.heap[w.heap.size + 1 + 1]? = some (.cells (celC l ++ zs).toArray 82 (0, 0)) := by
    rw [← hW]
    have e := heap_alloc_new ((w.alloc (.cells #[.int .i64 r, .int .i64 c, .slice (some ⟨w.heap.size + 1 + 1, 0, none⟩) n cp, .int .i64 a, .int .i64 b] 35)).alloc (.cells #[.int .i64 r, .int .i64 c, .slice (some ⟨w.heap.size + 1 + 1, 0, none⟩) n cp, .int .i64 a, .int .i64 b] 35)) (.cells (celC l ++ zs).toArray 82)
    rw [World.size_alloc, World.size_alloc] at e
    exact e
  have q : Below w.heap.size w W := by
    rw [← hW]
    exact ((((Below.refl _ w).alloc (Nat.le_refl _) _).alloc (by simp) _).alloc (by simp; omega) _).drew
  rw [hW]
  clear hW
  have c0 : W.cell? ⟨w.heap.size + 1, 0, none⟩ = some (.int .i64 r) := by rw [cell_of_row _ _ _ _ _ _ p1]; rfl
  have c1 : W.cell? ⟨w.heap.size + 1, 1, none⟩ = some (.int .i64 c) := by rw [cell_of_row _ _ _ _ _ _ p1]; rfl
  have c2 : W.cell? ⟨w.heap.size + 1, 2, none⟩ = some (.slice (some ⟨w.heap.size + 1 + 1, 0, none⟩) n cp) := by rw [cell_of_row _ _ _ _ _ _ p1]; rfl
  have c3 : W.cell? ⟨w.heap.size + 1, 3, none⟩ = some (.int .i64 a) := by rw [cell_of_row _ _ _ _ _ _ p1]; rfl
  have c4 : W.cell? ⟨w.heap.size + 1, 4, none⟩ = some (.int .i64 b) := by rw [cell_of_row _ _ _ _ _ _ p1]; rfl
  exact bodyPost_ret (v := .agg #[.int .i64 r, .int .i64 c, .slice (some ⟨w.heap.size + 1 + 1, 0, none⟩) n cp, .int .i64 a, .int .i64 b]) (by simp [results, Tryz.results102, go_sem, c0, c1, c2, c3, c4]) rfl ⟨_, cp, rfl, by omega, ⟨zs, by omega, p2⟩, q⟩
end Go.Proofs.YtpkjaallhhjleaaGreatDoor
