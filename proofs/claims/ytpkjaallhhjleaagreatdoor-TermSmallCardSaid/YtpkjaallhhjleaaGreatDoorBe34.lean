/-
  Texts of this proof, one behind the other; each begins with its own remark.
-/
import Derived.RegionTactic
import Derived.RangeFuncCalls
import Derived.RangeFuncLeaves
import Derived.OwnWalkIn
import Derived.Maps.AppendAt
import Derived.Test.YtpkjaallhhjleaaGreatDoorBe6
import Derived.Test.YtpkjaallhhjleaaGreatDoorBe32
import Derived.Test.YtpkjaallhhjleaaGreatDoorBe33
import Derived.Test.YtpkjaallhhjleaaGreatDoorBe14
import Derived.Test.YtpkjaallhhjleaaGreatDoorBe27
/-
  A region that draws its order, in a round of a loop over a function: what is owed of it is what is owed of it anywhere. No call of the program is walked here.
-/
namespace Go.Proofs.YtpkjaallhhjleaaGreatDoor
open Go.RowKit

theorem upon_round {P : Program} {o : Oper} {a : Act} {K : Act → World → Prop} {Q : Exit → Act → World → Prop} (l n : Nat) {r : Result Next} (h : o.upon P a K Q r) : o.uponIn (Fence.wide.inRound l) n P a K Q r := by
  cases r with
  | ok x w' =>
    cases x with
    | value v => exact h
    | skip => exact h
    | defer d => exact h
    | enter f args => exact ⟨fun h => (by cases h), CallsIn.inRound l ((callsIn_wide.2 h).mono fun e w'' he => by cases e <;> exact he)⟩
    | row row args =>
      refine ⟨fun h => (by cases h), fun c cs _ => ?_⟩
      obtain ⟨v, w', hr, hs⟩ := h c cs
      exact ⟨v, w', hr, stepsIn_wide.2 hs⟩
    | _ => exact h.elim
  | halt x w' => cases x <;> first | exact h | exact h.elim
theorem wp_round {P : Program} {o : Oper} {a : Act} {w : World} {K : Act → World → Prop} {Q : Exit → Act → World → Prop} (l n : Nat) (hd : ∀ c, o.op ≠ .defer c) (h : o.wp P a w K Q) : o.wpIn (Fence.wide.inRound l) n P a w K Q := by
  refine ⟨fun _ _ => trivial, ?_⟩
  rw [Oper.semAt_plain _ _ _ hd]
  exact upon_round l n h
theorem wpOps_round {P : Program} {ops : Array Oper} {Q : Exit → Act → World → Prop} (l n : Nat) (hL : ¬ LetsOut Q) (hd : ∀ (i : Nat) (o : Oper), ops[i]? = some o → ∀ c, o.op ≠ .defer c) :
    ∀ (is : List Nat) (a : Act) (w : World), wpOps P ops Q is a w → wpOpsIn (Fence.wide.inRound l) n P ops Q is a w
  | [], a, w, h => h
  | i :: rest, a, w, h => by
    simp only [wpOps, wpOpsIn] at h ⊢
    cases ho : ops[i]? with
    | none =>
      simp only [ho] at h ⊢
      exact wpOps_round l n hL hd rest a w h
    | some o =>
      simp only [ho] at h ⊢
      split
      · rename_i hw
        simp only [hw, if_true] at h
        exact wp_round l n (hd i o ho) (Oper.wp_mono (fun a w => wpOps_round l n hL hd rest a w) (h.resolve_right fun k => hL k.2))
      · rename_i hw
        simp only [hw, if_false, Bool.false_eq_true] at h
        exact ⟨fun _ _ => trivial, wpOps_round l n hL hd rest _ w h⟩
theorem wpRound_any {P : Program} {id : Nat} {ops : Array Oper} {Q : Exit → Act → World → Prop} {a : Act} {w : World} {l n : Nat} (hm : P.follows .mixedOrders = true) (hL : ¬ LetsOut Q) (hd : ∀ (i : Nat) (o : Oper), ops[i]? = some o → ∀ c, o.op ≠ .defer c)
    (h : wpAny P .any ops Q ops.size (Array.replicate ops.size false) a w.drew) : (Code.region id ops true).wpIn (Fence.wide.inRound l) n P Q a w :=
  wpIn_region_draw fun t => by
    simp only [Region.schedule, hm, Bool.true_or, if_true]
    exact wpOps_round l n hL hd _ _ _ (wpAny_sound ops.size t _ a _ h)
end Go.Proofs.YtpkjaallhhjleaaGreatDoor

/-
  What the first rows of a frame show, as byte strings; the box of a frame as a call begins. No call is walked here.
-/
namespace Go.Proofs.YtpkjaallhhjleaaGreatDoor
open Go.RowKit

theorem frb_below {w W : World} {r c a b : Int} {v : Value} (hW : Below (w.heap.size + 1) (w.alloc (.cells #[.int .i64 r, .int .i64 c, v, .int .i64 a, .int .i64 b] 35)) W) : frB W w.heap.size r c v a b ∧ Below w.heap.size w W :=
  ⟨(frB.new w).below hW (by omega), ((Below.refl _ w).alloc (Nat.le_refl _) _).trans (hW.mono (by omega))⟩
theorem frb_start {w : World} {r c a b : Int} {v : Value} : Below w.heap.size w (w.alloc (.cells #[.int .i64 r, .int .i64 c, v, .int .i64 a, .int .i64 b] 35)) := (Below.refl _ w).alloc (Nat.le_refl _) _

/-- What the first k rows show. -/
def rowsU (f : Frm) (n k : Nat) : List ByteArray := (List.range k).map fun j => shownS (rowK f.cells n j)
theorem rowsU_len (f : Frm) (n k : Nat) : (rowsU f n k).length = k := by unfold rowsU; rw [List.length_map, List.length_range]
theorem rowsU_step (f : Frm) (n k : Nat) : rowsU f n (k + 1) = rowsU f n k ++ [shownS (rowK f.cells n k)] := by unfold rowsU; rw [List.range_succ, List.map_append]; rfl
theorem rowsF_ok {f : Frm} {m n : Nat} (h : OkF f m n) : rowsF f = rowsU f n m := by
  unfold rowsF rowsU
  rw [if_pos h.valid, h.nat.1, h.nat.2]
end Go.Proofs.YtpkjaallhhjleaaGreatDoor

/-
  grids.Rows: what it returns: for every frame.
-/
namespace Go.Proofs.YtpkjaallhhjleaaGreatDoor
open Go.RowKit Go.Shelf

section
variable {ok : Nat → Prop} {ao : Option Addr} {N cap : Nat} {f : Frm}
theorem grows_bad (w : World) (hS : CelsW ok w (.slice ao N cap) f.cells) (hn : N = f.cells.length) (hcap : N ≤ cap) (hv : validB f = false) (hL : LaidW w) :
    Calls Tryz.prog 24 #[.agg #[.int .i64 f.rows, .int .i64 f.cols, .slice ao N cap, .int .i64 f.row, .int .i64 f.col]] w fun e w' => e = .returned (.slice none 0 0) ∧ Below w.heap.size w w' := by
  have HV : Hid (∀ W, Below w.heap.size w W → Calls Tryz.prog 19 #[.agg #[.int .i64 f.rows, .int .i64 f.cols, .slice ao N cap, .int .i64 f.row, .int .i64 f.col]] W fun e w' => e = .returned (.bool false) ∧ Below W.heap.size W w') := fun W hW => by
    have := gvalid_any W (FrameW.below ⟨ao, N, cap, rfl, hn, hcap, hS⟩ hW) (hL.below hW)
    rwa [hv] at this
  have HB := Lib.hid (frb_start (w := w) (r := f.rows) (c := f.cols) (v := .slice ao N cap) (a := f.row) (b := f.col))
  clear hS hn hcap hv hL
  go_enter Tryz.func24, Tryz.ntmps24
  go_wp2_with fail
  go_fit (HV.out _ HB.out)
  rintro e w2 ⟨rfl, hb2⟩
  go_wp2
  go_ret
  exact ⟨rfl, HB.out.trans (hb2.mono HB.out.size)⟩
end

attribute [local go_sem] Oper.semAt_some

/-- Between two rows. -/
structure RwI (w : World) (f : Frm) (n g o N cap X : Nat) (k : Nat) (W : World) : Prop where
  below : Below w.heap.size w W
  two : TwoB (X + 1) (X + 2) g o N cap n W
  box : ∃ v, boxW W X v 57 ∧ W.ownsRow (X + 5) 9 1 v k (strC (rowsU f n k))
  far : w.heap.size + 1 ≤ X
theorem RwI.keep {w : World} {f : Frm} {n g o N cap X k : Nat} {W W' : World} (h : RwI w f n g o N cap X k W) (hk : KeepW (NotB (X + 3)) W W') : RwI w f n g o N cap X k W' := by
  have hx := h.far
  obtain ⟨v, hb, hr⟩ := h.box
  exact ⟨KeepW.below h.below hk h.below.size (fun j hj => by unfold NotB; omega), h.two.keep hk (by unfold NotB; omega) (by unfold NotB; omega), ⟨v, hb.keep hk (by unfold NotB; omega), own_keep hr hk (fun j hj => by have := (hr.lt j hj).1; unfold NotB; omega)⟩, hx⟩
/-- The way out: the loop's mark is taken off. -/
theorem rows_leave {w W : World} {v : Value} {xs : List ByteArray} (D : Nat) (a : Act) (hb : Below w.heap.size w W) (hD : w.heap.size ≤ D) (hK : W.heap[D]? = some (.deferred (some [])))
    (hd : a.defers = [{ target := .collected D, args := #[] }]) (h2 : a.tmps[2]?.getD undef = v) (hrow : ∀ W', KeepW (fun k => k ≠ D) W W' → StrsV AnyB W' v xs) :
    bodyPostM Fence.wide 5 Tryz.prog Tryz.f24 (fun e w' => ∃ v, e = .returned v ∧ StrsV AnyB w' v xs ∧ Below w.heap.size w w') .ret a W := by
  show LeavesInM _ _ _ _ _ _ _ _ _
  rw [hd]
  refine ⟨by simp, .inl ⟨_, _, rfl, run_takeDeferred hK, ?_⟩⟩
  have hk : KeepW (fun k => k ≠ D) W (W.putObj D (.deferred none)) := ⟨rfl, rfl, rfl, by rw [World.putObj_size]; exact Nat.le_refl _, fun k _ hk => World.putObj_heap_other hk⟩
  refine ⟨v, ?_, _, rfl, hrow _ hk, KeepW.below hb hk hb.size (fun k hk => by show _ ≠ _; omega)⟩
  simp [results, Tryz.f24, h2, go_sem]

set_option maxRecDepth 100000 in
set_option maxHeartbeats 4000000 in
theorem grows_yes {ok : Nat → Prop} {g o N cap m n : Nat} {f : Frm} (w : World) (hf : OkF f m n) (hN0 : N = f.cells.length) (hcap : N ≤ cap) (hS : CelsW ok w (.slice (some ⟨g, o, none⟩) N cap) f.cells) (hL : LaidW w) :
    Calls Tryz.prog 24 #[.agg #[.int .i64 f.rows, .int .i64 f.cols, .slice (some ⟨g, o, none⟩) N cap, .int .i64 f.row, .int .i64 f.col]] w fun e w' => ∃ v, e = .returned v ∧ StrsV AnyB w' v (rowsU f n m) ∧ Below w.heap.size w w' := by
  have HV : Hid (∀ W, Below w.heap.size w W → Calls Tryz.prog 19 #[.agg #[.int .i64 f.rows, .int .i64 f.cols, .slice (some ⟨g, o, none⟩) N cap, .int .i64 f.row, .int .i64 f.col]] W fun e w' => e = .returned (.bool true) ∧ Below W.heap.size W w') := fun W hW => by
    have := gvalid_any W (FrameW.below ⟨_, N, cap, rfl, hN0, hcap, hS⟩ hW) (hL.below hW)
    rwa [hf.valid] at this
  have hN : N = m * n := hN0.trans hf.len
  have hm := hf.hm
  have hn := hf.hn
  rw [hf.rows, hf.cols] at HV ⊢
  have H3 := Lib.hid (fun w => chunk_any (ao := some ⟨g, o, none⟩) (N := N) (cap := cap) n w (by omega))
  have i1 : (m : Int) ≤ 100 := by omega
  have i2 : (n : Int) ≤ 200 := by omega
  have i3 : (0 : Int) ≤ (m : Int) := by omega
  have i4 : (0 : Int) ≤ (n : Int) := by omega
  have HB := Lib.hid (frb_start (w := w) (r := (m : Int)) (c := (n : Int)) (v := .slice (some ⟨g, o, none⟩) N cap) (a := f.row) (b := f.col))
  have HFr := Lib.hid (fun W hW => frb_below (w := w) (W := W) (r := (m : Int)) (c := (n : Int)) (v := .slice (some ⟨g, o, none⟩) N cap) (a := f.row) (b := f.col) hW)
  have HS := Lib.hid hS
  have HN := Lib.hid hN
  have HLn := Lib.hid (hN0.symm)
  obtain ⟨i0, hi0, hz0, hz1, hz2⟩ := info_parts Tryz.infoStrG
  have HI0 := Lib.hid hi0
  have HZ0 := Lib.hid hz0
  have HZ1 := Lib.hid hz1
  have HZ2 := Lib.hid hz2
  clear hS hN hN0 hL hf hi0 hz0 hz1 hz2
  refine (callsIn_wide (n := 5)).1 ?_
  refine callsIn_of_wp_marks Tryz.func24 rfl trivial ?_ rfl
  simp only [Tryz.ntmps24, List.size_toArray, List.length_cons, List.length_nil, Nat.reduceAdd, Nat.reduceSub, Array.replicate_succ, Array.replicate_zero, List.push_toArray, List.append_toArray, List.nil_append, List.cons_append]
  gi_wp2_with (first
    | (refine ⟨trivial, ?_⟩; gi_at_call 19; refine (callsIn_wide.2 (HV.out _ HB.out)).mono ?_; rintro e w2 ⟨rfl, hb2⟩; obtain ⟨kf, kb⟩ := HFr.out _ (by simpa using hb2); obtain ⟨⟨d0, d1, d2, d3, d4⟩, _⟩ := kf.cells; have hlt2 := kf.lt)
    | (refine ⟨trivial, ?_⟩; gi_at_call 42; refine (callsIn_wide.2 (H3.out _)).mono ?_; rintro e w4 ⟨rfl, hw4⟩))
  obtain ⟨X, hX⟩ : ∃ X, w2.heap.size = X := ⟨_, rfl⟩
  have hXw : w.heap.size + 1 ≤ X := by omega
  obtain ⟨V, hV⟩ : ∃ V, ((w2.alloc (.cells #[.slice none 0 0] 57)).alloc (.cells #[.slice (some ⟨g, o, none⟩) N cap] 33)).alloc (.cells #[.int .i64 (n : Int)] 3) = V := ⟨_, rfl⟩
  have hz : V.heap.size = X + 3 := by rw [← hV, ← hX]; simp
  have h0 : RwI w f n g o N cap X 0 V := by
    have q : Below X w2 V := by rw [← hV, ← hX]; exact (((Below.refl _ w2).alloc (Nat.le_refl _) _).alloc (by simp) _).alloc (by simp; omega) _
    refine ⟨kb.trans (q.mono (by omega)), ⟨?_, ?_⟩, ⟨.slice none 0 0, ?_, World.ownsRow_nil _ _ _ _⟩, hXw⟩
    · have e := boxW.new (w2.alloc (.cells #[.slice none 0 0] 57)) (.slice (some ⟨g, o, none⟩) N cap) 33
      rw [World.size_alloc, hX] at e
      have e2 : boxW V (X + 1) (.slice (some ⟨g, o, none⟩) N cap) 33 := by rw [← hV]; exact (Below.heap_alloc _ _ _ (by rw [World.size_alloc, World.size_alloc]; omega)).trans e
      exact e2.cell.1
    · have e := boxW.new ((w2.alloc (.cells #[.slice none 0 0] 57)).alloc (.cells #[.slice (some ⟨g, o, none⟩) N cap] 33)) (.int .i64 (n : Int)) 3
      rw [World.size_alloc, World.size_alloc, hV, hX] at e
      exact e.cell.1
    · have e := boxW.new w2 (.slice none 0 0) 57
      rw [hX] at e
      rw [← hV]
      exact (Below.heap_alloc _ _ _ (by rw [World.size_alloc, World.size_alloc]; omega)).trans ((Below.heap_alloc _ _ _ (by rw [World.size_alloc]; omega)).trans e)
  rw [hV]
  have HH0 := Lib.hid h0
  rw [hX]
  clear hV HV H3 HFr hb2 kf d0 d1 d2 d3 d4 h0
  refine rangeChunk_in (F := 5) (by omega) (X + 1) (X + 2) g o N cap m n HN.out hcap hn hm.2 rfl rfl (RwI w f n g o N cap X) (fun _ => False) (fun k W W' h hk => h.keep (by rw [← hz]; exact hk)) (fun _ _ h _ => h) (fun k W h => h.two) HH0.out
    (fun x => { tmps := #[.agg #[.int .i64 (m : Int), .int .i64 (n : Int), .slice (some ⟨g, o, none⟩) N cap, .int .i64 f.row, .int .i64 f.col], .pointer (some ⟨w.heap.size, 0, none⟩), .slice none 0 0, .pointer (some ⟨X, 0, none⟩), x, .agg #[.int .i64 (m : Int), .int .i64 (n : Int), .slice (some ⟨g, o, none⟩) N cap, .int .i64 f.row, .int .i64 f.col], .bool true, .bool false, .pointer (some ⟨w.heap.size, 2, none⟩), .slice (some ⟨g, o, none⟩) N cap, .pointer (some ⟨w.heap.size, 1, none⟩), .int .i64 (n : Int), .func (.func 74) #[] #[.pointer (some ⟨X + 1, 0, none⟩), .pointer (some ⟨X + 2, 0, none⟩)], x, undef, undef, undef, undef, undef, undef], defers := [] }) ?assign ?body ?done ?stop
  case assign =>
    intro l x W K hK
    gi_wp2
    exact hK
  case body =>
    intro l k W hk hlt hI
    rw [hz] at hlt ⊢
    obtain ⟨S, hSd⟩ : ∃ S, shownS (rowK f.cells n k) = S := ⟨_, rfl⟩
    obtain ⟨OF, hOF⟩ : ∃ OF, o + k * n * 6 = OF := ⟨_, rfl⟩
    have HSh : Hid (Calls Tryz.prog 48 #[.slice (some ⟨g, OF, none⟩) n n] W.drew fun e w' => e = .returned (.string S) ∧ Below W.drew.heap.size W.drew w') := by
      have hb : Below w.heap.size w W.drew := hI.below.trans ⟨rfl, rfl, rfl, Nat.le_refl _, fun _ _ => rfl⟩
      have hrow := rows_at (HS.out.below hb) HLn.out HN.out hk
      rw [hOF] at hrow
      have := gshown_any (rowK f.cells n k) W.drew hrow (rowK_len (HLn.out.trans HN.out) hk) (by omega)
      rwa [hSd] at this
    obtain ⟨v, hbx, hown⟩ := hI.box
    obtain ⟨c0, f0⟩ := hbx.cell
    have hXl := hbx.lt
    have HU : Hid (strC (rowsU f n (k + 1)) = strC (rowsU f n k) ++ [.string S]) := by
      show _ = _
      rw [rowsU_step, hSd, strC_app]; rfl
    have HY : Hid (∀ w3, Below W.drew.heap.size W.drew w3 → (w3.alloc (.cells #[.string S] 9)).ownsRow (X + 5) 9 1 v k (strC (rowsU f n k)) ∧ Hid (∀ j u, [Value.string S][j]? = some u → (w3.alloc (.cells #[.string S] 9)).cell? ((⟨w3.heap.size, 0, none⟩ : Addr).add j) = some u) ∧ X + 5 ≤ (w3.alloc (.cells #[.string S] 9)).heap.size ∧ w3.cell? ⟨X, 0, none⟩ = some v ∧ X < w3.heap.size ∧
        Hid (∀ w4 g3 cap3, w4.ownsRow (X + 5) 9 1 (.slice (some ⟨g3, 0, none⟩) (k + 1) cap3) (k + 1) (strC (rowsU f n k) ++ [.string S]) → (w3.alloc (.cells #[.string S] 9)).grownBy w4 v.ownBlock →
          w4.cell? ⟨X, 0, none⟩ = some v ∧ w4.frozen? ⟨X, 0, none⟩ = false ∧ X < w4.heap.size ∧ Hid (StaysC (X + 3) W (w4.setCell ⟨X, 0, none⟩ (.slice (some ⟨g3, 0, none⟩) (k + 1) cap3)) ∧ RwI w f n g o N cap X (k + 1) (w4.setCell ⟨X, 0, none⟩ (.slice (some ⟨g3, 0, none⟩) (k + 1) cap3))))) := fun w3 hb3 => by
      have hb : Below W.heap.size W w3 := ⟨hb3.os, hb3.tape, hb3.output, hb3.size, hb3.block⟩
      have hs := hb.size
      have hbU : Below W.heap.size W (w3.alloc (.cells #[.string S] 9)) := hb.alloc hs _
      have o1 := own_below hown hbU
      refine ⟨o1, cell_one_new _ _ _, by rw [World.size_alloc]; omega, (hbx.below hb hXl).cell.1, by omega, fun w4 g3 cap3 h4 hg4 => ?_⟩
      have hne : ∀ j, j < X + 5 → some j ≠ v.ownBlock := fun j hj e => by have := (hown.lt j e.symm).1; omega
      have hbl : ∀ j, j < X + 5 → j < W.heap.size → w4.heap[j]? = W.heap[j]? := fun j hj hjl => (hg4.block j (by rw [World.size_alloc]; omega) (hne j hj)).trans (hbU.block j hjl)
      have hx4 : boxW w4 X v 57 := (hbl X (by omega) hXl).trans hbx
      have hk := keep_set (ok := fun k => k ≠ X) X 0 none (.slice (some ⟨g3, 0, none⟩) (k + 1) cap3) w4 (fun k => k rfl)
      have hb4 : Below w.heap.size w w4 := (hI.below.trans (hbU.mono hI.below.size)).grown hg4 (by have := hI.below.size; rw [World.size_alloc]; omega) (fun j e => by have := (hown.lt j e).1; omega)
      have hg3 := h4.lt g3 rfl
      refine ⟨hx4.cell.1, hx4.cell.2, hx4.lt, fun j oo hj ho => ?_, ⟨KeepW.below hb4 hk hb4.size (fun j hj => by show _ ≠ _; omega), ⟨?_, ?_⟩, ⟨_, hx4.set, ?_⟩, hXw⟩⟩
      · have hjl := (Array.getElem?_eq_some_iff.1 ho).1
        have e4 : w4.heap[j]? = some oo := (hbl j (by omega) hjl).trans ho
        exact (hk.same j (Array.getElem?_eq_some_iff.1 e4).1 (by show _ ≠ _; omega)).trans e4
      · have h1 := hI.two.1
        have e4 : w4.cell? ⟨X + 1, 0, none⟩ = some (.slice (some ⟨g, o, none⟩) N cap) := (World.cell?_of_block (a := ⟨X + 1, 0, none⟩) (hbl (X + 1) (by omega) (rlt h1))).trans h1
        exact hk.cell e4 (by show _ ≠ _; omega)
      · have h1 := hI.two.2
        have e4 : w4.cell? ⟨X + 2, 0, none⟩ = some (.int .i64 (n : Int)) := (World.cell?_of_block (a := ⟨X + 2, 0, none⟩) (hbl (X + 2) (by omega) (rlt h1))).trans h1
        exact hk.cell e4 (by show _ ≠ _; omega)
      · rw [HU.out]
        exact own_keep h4 hk (fun j hj => by have h5 := hg3.1; cases hj; show g3 ≠ X; omega)
    have hk100 : k < 100 := by omega
    rw [hOF]
    clear hSd hOF hbx hown hI HU
    gi_wp2
    refine wpRound_any (by kernel_rfl) (by rintro ⟨_, _, h⟩; exact h) ?_ ?_
    · intro i op ho c hc
      rcases i with _ | _ | _ | _ | _ | _ | i <;> simp at ho <;> subst ho <;> cases hc
    · try (change wpAny _ _ _ _ _ _ _ (World.drew _))
      refine wpAny_take (i := 1) (v := .slice (some ⟨g, OF, none⟩) n n) rfl (by kernel_rfl) (by kernel_rfl) (by kernel_rfl) (fun _ _ _ h => h) (Or.inl ⟨by rfl, ?_⟩) ?_
      · intro w; go_simp; try with_reducible rfl
      refine wpAny_ready (rs := [0, 2]) (by kernel_rfl) (by simp) ?_
      refine AllReady.cons rfl (fun K hK => ?_) (AllReady.cons rfl (fun K hK => ?_) AllReady.nil)
      · go_simp
        (try (refine hK _ _ ?_))
        (try clear hK K)
        refine wpAny_ready (rs := [2]) (by kernel_rfl) (by simp) ?_
        refine AllReady.cons rfl (fun K hK => ?_) AllReady.nil
        go_simp
        go_at_call 48
        go_must (go_fit (HSh.out))
        rintro e w3 ⟨rfl, hb3⟩
        obtain ⟨o1, n1, l1, c3, l3, HQ⟩ := HY.out w3 hb3
        (try (refine hK _ _ ?_))
        (try clear hK K)
        refine wpAny_ready (rs := [3]) (by kernel_rfl) (by simp) ?_
        refine AllReady.cons rfl (fun K hK => ?_) AllReady.nil
        go_simp
        (try (refine hK _ _ ?_))
        (try clear hK K)
        refine wpAny_ready (rs := [4]) (by kernel_rfl) (by simp) ?_
        refine AllReady.cons rfl (fun K hK => ?_) AllReady.nil
        refine step_append_lies _ (by rfl) _ _ _ (by rfl) (X + 5) 9 i0 _ 1 16 Tryz.underlying57 HI0.out HZ0.out HZ1.out HZ2.out (by rfl) (by omega) v k (strC (rowsU f n k)) (by rfl) o1 ⟨w3.heap.size, 0, none⟩ 1 1 [.string S] (by rfl) (by rfl) n1.out (fun u hu => by simp at hu; subst hu; rfl) (by omega) (by unfold maxLen; omega) (by omega) l1 _ rfl ?_
        intro g3 cap3 w4 hown4 hgr4 _ hlt4
        obtain ⟨q1, q2, q3, HR⟩ := HQ.out w4 g3 cap3 hown4 hgr4
        (try (refine hK _ _ ?_))
        (try clear hK K)
        refine wpAny_ready (rs := [5]) (by kernel_rfl) (by simp) ?_
        refine AllReady.cons rfl (fun K hK => ?_) AllReady.nil
        go_simp
        (try (refine hK _ _ ?_))
        (try clear hK K)
        refine wpAny_done (by kernel_rfl) ?_ _
        exact ⟨HR.out.1, HR.out.2⟩
      · go_simp
        go_at_call 48
        go_must (go_fit (HSh.out))
        rintro e w3 ⟨rfl, hb3⟩
        obtain ⟨o1, n1, l1, c3, l3, HQ⟩ := HY.out w3 hb3
        (try (refine hK _ _ ?_))
        (try clear hK K)
        refine wpAny_ready (rs := [0, 3]) (by kernel_rfl) (by simp) ?_
        refine AllReady.cons rfl (fun K hK => ?_) (AllReady.cons rfl (fun K hK => ?_) AllReady.nil)
        · go_simp
          (try (refine hK _ _ ?_))
          (try clear hK K)
          refine wpAny_ready (rs := [3]) (by kernel_rfl) (by simp) ?_
          refine AllReady.cons rfl (fun K hK => ?_) AllReady.nil
          go_simp
          (try (refine hK _ _ ?_))
          (try clear hK K)
          refine wpAny_ready (rs := [4]) (by kernel_rfl) (by simp) ?_
          refine AllReady.cons rfl (fun K hK => ?_) AllReady.nil
          refine step_append_lies _ (by rfl) _ _ _ (by rfl) (X + 5) 9 i0 _ 1 16 Tryz.underlying57 HI0.out HZ0.out HZ1.out HZ2.out (by rfl) (by omega) v k (strC (rowsU f n k)) (by rfl) o1 ⟨w3.heap.size, 0, none⟩ 1 1 [.string S] (by rfl) (by rfl) n1.out (fun u hu => by simp at hu; subst hu; rfl) (by omega) (by unfold maxLen; omega) (by omega) l1 _ rfl ?_
          intro g3 cap3 w4 hown4 hgr4 _ hlt4
          obtain ⟨q1, q2, q3, HR⟩ := HQ.out w4 g3 cap3 hown4 hgr4
          (try (refine hK _ _ ?_))
          (try clear hK K)
          refine wpAny_ready (rs := [5]) (by kernel_rfl) (by simp) ?_
          refine AllReady.cons rfl (fun K hK => ?_) AllReady.nil
          go_simp
          (try (refine hK _ _ ?_))
          (try clear hK K)
          refine wpAny_done (by kernel_rfl) ?_ _
          exact ⟨HR.out.1, HR.out.2⟩
        · go_simp
          (try (refine hK _ _ ?_))
          (try clear hK K)
          refine wpAny_ready (rs := [0]) (by kernel_rfl) (by simp) ?_
          refine AllReady.cons rfl (fun K hK => ?_) AllReady.nil
          go_simp
          (try (refine hK _ _ ?_))
          (try clear hK K)
          refine wpAny_ready (rs := [4]) (by kernel_rfl) (by simp) ?_
          refine AllReady.cons rfl (fun K hK => ?_) AllReady.nil
          refine step_append_lies _ (by rfl) _ _ _ (by rfl) (X + 5) 9 i0 _ 1 16 Tryz.underlying57 HI0.out HZ0.out HZ1.out HZ2.out (by rfl) (by omega) v k (strC (rowsU f n k)) (by rfl) o1 ⟨w3.heap.size, 0, none⟩ 1 1 [.string S] (by rfl) (by rfl) n1.out (fun u hu => by simp at hu; subst hu; rfl) (by omega) (by unfold maxLen; omega) (by omega) l1 _ rfl ?_
          intro g3 cap3 w4 hown4 hgr4 _ hlt4
          obtain ⟨q1, q2, q3, HR⟩ := HQ.out w4 g3 cap3 hown4 hgr4
          (try (refine hK _ _ ?_))
          (try clear hK K)
          refine wpAny_ready (rs := [5]) (by kernel_rfl) (by simp) ?_
          refine AllReady.cons rfl (fun K hK => ?_) AllReady.nil
          go_simp
          (try (refine hK _ _ ?_))
          (try clear hK K)
          refine wpAny_done (by kernel_rfl) ?_ _
          exact ⟨HR.out.1, HR.out.2⟩
  case done =>
    rintro D W hD hI hK
    obtain ⟨v, hbx, hown⟩ := hI.box
    obtain ⟨c0, f0⟩ := hbx.cell
    have HE : Hid (StrsV AnyB W v (rowsU f n m) ∧ Below w.heap.size w W) := ⟨own_row hown (rowsU_len f n m).symm, hI.below⟩
    have HO := Lib.hid hown
    have hXl := hbx.lt
    clear hI hbx hown
    gi_wp2
    exact rows_leave D _ HE.out.2 (by omega) hK rfl rfl (fun W' hk => own_row (own_keep HO.out hk (fun j hj => by have := (HO.out.lt j hj).1; show _ ≠ _; omega)) (rowsU_len f n m).symm)
  case stop =>
    rintro D W hD hX hK
    exact hX.elim

theorem grows_any {ok : Nat → Prop} {v : Value} {f : Frm} (w : World) (h : FrameW ok w v f) (hL : LaidW w) :
    Calls Tryz.prog 24 #[v] w fun e w' => ∃ u, e = .returned u ∧ StrsV AnyB w' u (rowsF f) ∧ Below w.heap.size w w' := by
  obtain ⟨ao, N, cap, rfl, hn, hcap, hS⟩ := h
  cases hv : validB f with
  | false =>
    rw [show rowsF f = [] by unfold rowsF; rw [hv]; rfl]
    exact (grows_bad w hS hn hcap hv hL).mono fun e w' ⟨k1, k2⟩ => ⟨_, k1, RowV.nil _ _, k2⟩
  | true =>
    have hf := valid_ok hv
    obtain ⟨m, hm⟩ : ∃ m, f.rows.toNat = m := ⟨_, rfl⟩
    obtain ⟨n, hnn⟩ : ∃ n, f.cols.toNat = n := ⟨_, rfl⟩
    rw [hm, hnn] at hf
    have h0 : 0 < f.cells.length := by rw [hf.len]; exact Nat.mul_pos (by have := hf.hm; omega) (by have := hf.hn; omega)
    obtain ⟨g, o, rfl, _⟩ := hS.ptr (i := 0) (List.getElem?_eq_getElem h0)
    rw [rowsF_ok hf]
    exact grows_yes w hf hn hcap hS hL
end Go.Proofs.YtpkjaallhhjleaaGreatDoor
