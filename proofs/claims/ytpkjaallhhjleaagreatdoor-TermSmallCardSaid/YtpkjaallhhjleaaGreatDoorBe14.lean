/-
  Texts of this proof, one behind the other; each begins with its own remark.
-/
import Derived.WalkSpells
import Derived.Deep.DeepFit
import Derived.Test.YtpkjaallhhjleaaGreatDoorBe12
import Derived.Test.YtpkjaallhhjleaaGreatDoorBe6
import Derived.Test.YtpkjaallhhjleaaGreatDoorBe13
/-
  A box of a frame, a box of one value: what lies in it, what a store makes of it. No call is walked here.
-/
namespace Go.Proofs.YtpkjaallhhjleaaGreatDoor
open Go.RowKit

/-- A box of a frame. -/
def frB (W : World) (B : Nat) (r c : Int) (v : Value) (a b : Int) : Prop := W.heap[B]? = some (.cells #[.int .i64 r, .int .i64 c, v, .int .i64 a, .int .i64 b] 35 (0, 0))
section
variable {W : World} {B : Nat} {r c a b : Int} {v : Value}
theorem frB.lt (h : frB W B r c v a b) : B < W.heap.size := (Array.getElem?_eq_some_iff.1 h).1
theorem frB.cells (h : frB W B r c v a b) : (W.cell? ⟨B, 0, none⟩ = some (.int .i64 r) ∧ W.cell? ⟨B, 1, none⟩ = some (.int .i64 c) ∧ W.cell? ⟨B, 2, none⟩ = some v ∧ W.cell? ⟨B, 3, none⟩ = some (.int .i64 a) ∧ W.cell? ⟨B, 4, none⟩ = some (.int .i64 b)) ∧
    (W.frozen? ⟨B, 0, none⟩ = false ∧ W.frozen? ⟨B, 1, none⟩ = false ∧ W.frozen? ⟨B, 2, none⟩ = false ∧ W.frozen? ⟨B, 3, none⟩ = false ∧ W.frozen? ⟨B, 4, none⟩ = false) := by
  unfold frB at h
  refine ⟨⟨?_, ?_, ?_, ?_, ?_⟩, ?_, ?_, ?_, ?_, ?_⟩ <;> first | (unfold World.cell?; rw [h]; rfl) | (unfold World.frozen?; rw [h]; simp)
theorem frB.keep {W' : World} {ok : Nat → Prop} (h : frB W B r c v a b) (hk : KeepW ok W W') (hB : ok B) : frB W' B r c v a b := (hk.same B h.lt hB).trans h
theorem frB.below {W' : World} {n : Nat} (h : frB W B r c v a b) (hb : Below n W W') (hB : B < n) : frB W' B r c v a b := (hb.block B hB).trans h
theorem frB.new (w : World) : frB (w.alloc (.cells #[.int .i64 r, .int .i64 c, v, .int .i64 a, .int .i64 b] 35)) w.heap.size r c v a b := heap_alloc_new w _
theorem frB.set (h : frB W B r c v a b) (i : Nat) (u : Value) : (W.setCell ⟨B, i, none⟩ u).heap[B]? = some (.cells (#[.int .i64 r, .int .i64 c, v, .int .i64 a, .int .i64 b].modify i fun _ => u) 35 (0, 0)) := by
  unfold frB at h
  show (W.heap.modify B _)[B]? = _
  have hlt := (Array.getElem?_eq_some_iff.1 h).1
  obtain ⟨_, he⟩ := Array.getElem?_eq_some_iff.1 h
  rw [Array.getElem?_eq_getElem (by rw [Array.size_modify]; exact hlt), Array.getElem_modify_self, he]
  rfl
theorem frB.set0 (h : frB W B r c v a b) (x : Int) : frB (W.setCell ⟨B, 0, none⟩ (.int .i64 x)) B x c v a b := h.set 0 _
theorem frB.set1 (h : frB W B r c v a b) (x : Int) : frB (W.setCell ⟨B, 1, none⟩ (.int .i64 x)) B r x v a b := h.set 1 _
theorem frB.set2 (h : frB W B r c v a b) (u : Value) : frB (W.setCell ⟨B, 2, none⟩ u) B r c u a b := h.set 2 _
theorem frB.set3 (h : frB W B r c v a b) (x : Int) : frB (W.setCell ⟨B, 3, none⟩ (.int .i64 x)) B r c v x b := h.set 3 _
theorem frB.set4 (h : frB W B r c v a b) (x : Int) : frB (W.setCell ⟨B, 4, none⟩ (.int .i64 x)) B r c v a x := h.set 4 _
end
/-- The five stores of a frame. -/
def set5 (W : World) (B : Nat) (r c : Int) (v : Value) (a b : Int) : World :=
  ((((W.setCell ⟨B, 0, none⟩ (.int .i64 r)).setCell ⟨B, 1, none⟩ (.int .i64 c)).setCell ⟨B, 2, none⟩ v).setCell ⟨B, 3, none⟩ (.int .i64 a)).setCell ⟨B, 4, none⟩ (.int .i64 b)
theorem frB.all {W : World} {B : Nat} {r c a b r' c' a' b' : Int} {v v' : Value} (h : frB W B r c v a b) : frB (set5 W B r' c' v' a' b') B r' c' v' a' b' := ((((h.set0 _).set1 _).set2 _).set3 _).set4 _
theorem set5_keep {ok : Nat → Prop} (W : World) (B : Nat) (r c : Int) (v : Value) (a b : Int) (hB : ¬ ok B) : KeepW ok W (set5 W B r c v a b) :=
  ((((keep_set _ _ _ _ _ hB).trans (keep_set _ _ _ _ _ hB)).trans (keep_set _ _ _ _ _ hB)).trans (keep_set _ _ _ _ _ hB)).trans (keep_set _ _ _ _ _ hB)

/-- A box of one value. -/
def boxW (W : World) (B : Nat) (v : Value) (T : TypeId) : Prop := W.heap[B]? = some (.cells #[v] T (0, 0))
theorem boxW.lt {W : World} {B : Nat} {v : Value} {T : TypeId} (h : boxW W B v T) : B < W.heap.size := (Array.getElem?_eq_some_iff.1 h).1
theorem boxW.cell {W : World} {B : Nat} {v : Value} {T : TypeId} (h : boxW W B v T) : W.cell? ⟨B, 0, none⟩ = some v ∧ W.frozen? ⟨B, 0, none⟩ = false := by
  unfold boxW at h
  exact ⟨by unfold World.cell?; rw [h]; rfl, by unfold World.frozen?; rw [h]; simp⟩
theorem boxW.keep {W W' : World} {ok : Nat → Prop} {B : Nat} {v : Value} {T : TypeId} (h : boxW W B v T) (hk : KeepW ok W W') (hB : ok B) : boxW W' B v T := (hk.same B h.lt hB).trans h
theorem boxW.below {W W' : World} {n B : Nat} {v : Value} {T : TypeId} (h : boxW W B v T) (hb : Below n W W') (hB : B < n) : boxW W' B v T := (hb.block B hB).trans h
theorem boxW.new (w : World) (v : Value) (T : TypeId) : boxW (w.alloc (.cells #[v] T)) w.heap.size v T := heap_alloc_new w _
theorem boxW.set {W : World} {B : Nat} {v u : Value} {T : TypeId} (h : boxW W B v T) : boxW (W.setCell ⟨B, 0, none⟩ u) B u T := by
  unfold boxW at h ⊢
  show (W.heap.modify B _)[B]? = _
  have hlt := (Array.getElem?_eq_some_iff.1 h).1
  obtain ⟨_, he⟩ := Array.getElem?_eq_some_iff.1 h
  rw [Array.getElem?_eq_getElem (by rw [Array.size_modify]; exact hlt), Array.getElem_modify_self, he]
  rfl
end Go.Proofs.YtpkjaallhhjleaaGreatDoor

/-
  A block of cells of a frame, known whole: what a store of one cell makes of it. No call is walked here.
-/
namespace Go.Proofs.YtpkjaallhhjleaaGreatDoor
open Go.RowKit

/-- A block that holds these cells, and behind them what an append left spare. -/
def blkL (w : World) (B : Nat) (L : List Cel) (zs : List Value) : Prop := w.heap[B]? = some (.cells (celC L ++ zs).toArray 82 (0, 0))
/-- The six stores of one cell. -/
def set6 (w : World) (B p : Nat) (c : Cel) : World :=
  (((((w.setCell ⟨B, p, none⟩ (.int .i32 c.1)).setCell ⟨B, p + 1, none⟩ (.int .i64 c.2.1)).setCell ⟨B, p + 2, none⟩ (.int .i64 c.2.2.1)).setCell ⟨B, p + 3, none⟩ (.bool c.2.2.2.1)).setCell ⟨B, p + 4, none⟩ (.bool c.2.2.2.2.1)).setCell ⟨B, p + 5, none⟩ (.bool c.2.2.2.2.2)

theorem blkL.lt {w : World} {B : Nat} {L : List Cel} {zs : List Value} (h : blkL w B L zs) : B < w.heap.size := (Array.getElem?_eq_some_iff.1 h).1
theorem heap_set {w : World} {B p : Nat} {v : Value} {cs : Array Value} {T : TypeId} (h : w.heap[B]? = some (.cells cs T (0, 0))) : (w.setCell ⟨B, p, none⟩ v).heap[B]? = some (.cells (cs.modify p fun _ => v) T (0, 0)) := by
  show (w.heap.modify B _)[B]? = _
  have hlt := (Array.getElem?_eq_some_iff.1 h).1
  obtain ⟨_, he⟩ := Array.getElem?_eq_some_iff.1 h
  rw [Array.getElem?_eq_getElem (by rw [Array.size_modify]; exact hlt), Array.getElem_modify_self, he]
  rfl
theorem set_six (a b : List Value) (c d : Cel) : ((((((a ++ celV d ++ b).set a.length (.int .i32 c.1)).set (a.length + 1) (.int .i64 c.2.1)).set (a.length + 2) (.int .i64 c.2.2.1)).set (a.length + 3) (.bool c.2.2.2.1)).set (a.length + 4) (.bool c.2.2.2.2.1)).set (a.length + 5) (.bool c.2.2.2.2.2) = a ++ celV c ++ b := by
  simp only [List.append_assoc]
  rw [List.set_append_right _ _ (by omega), List.set_append_right _ _ (by omega), List.set_append_right _ _ (by omega), List.set_append_right _ _ (by omega), List.set_append_right _ _ (by omega), List.set_append_right _ _ (by omega)]
  simp [celV, show ∀ k, a.length + k - a.length = k by omega]
theorem celC_set (L : List Cel) (zs : List Value) (i : Nat) (c : Cel) (hi : i < L.length) :
    (((((((celC L ++ zs).set (i * 6) (.int .i32 c.1)).set (i * 6 + 1) (.int .i64 c.2.1)).set (i * 6 + 2) (.int .i64 c.2.2.1)).set (i * 6 + 3) (.bool c.2.2.2.1)).set (i * 6 + 4) (.bool c.2.2.2.2.1)).set (i * 6 + 5) (.bool c.2.2.2.2.2)) = celC (L.set i c) ++ zs := by
  have e : celC L ++ zs = celC (L.take i) ++ celV (L[i]'hi) ++ (celC (L.drop (i + 1)) ++ zs) := by
    conv => lhs; rw [← List.take_append_drop i L, List.drop_eq_getElem_cons hi, celC_app, celC_cons]
    simp [List.append_assoc]
  have e2 : celC (L.set i c) ++ zs = celC (L.take i) ++ celV c ++ (celC (L.drop (i + 1)) ++ zs) := by
    rw [List.set_eq_take_append_cons_drop, if_pos hi, celC_app, celC_cons]
    simp [List.append_assoc]
  have hl : (celC (L.take i)).length = i * 6 := by rw [celC_len, List.length_take]; omega
  rw [e, e2, ← hl]
  exact set_six _ _ c _
theorem mod_set (cs : List Value) (p : Nat) (v : Value) : (cs.toArray.modify p fun _ => v) = (cs.set p v).toArray := by
  apply Array.ext'
  rw [Array.toList_modify]
  simp
  exact List.modify_eq_set ..
theorem blkL.set {w : World} {B : Nat} {L : List Cel} {zs : List Value} (h : blkL w B L zs) (i : Nat) (c : Cel) (hi : i < L.length) : blkL (set6 w B (i * 6) c) B (L.set i c) zs := by
  unfold blkL at h ⊢
  rw [← celC_set L zs i c hi]
  unfold set6
  simp only [← mod_set]
  exact heap_set (heap_set (heap_set (heap_set (heap_set (heap_set h)))))
theorem set6_keep {ok : Nat → Prop} (w : World) (B p : Nat) (c : Cel) (hB : ¬ ok B) : KeepW ok w (set6 w B p c) :=
  (((((keep_set _ _ _ _ _ hB).trans (keep_set _ _ _ _ _ hB)).trans (keep_set _ _ _ _ _ hB)).trans (keep_set _ _ _ _ _ hB)).trans (keep_set _ _ _ _ _ hB)).trans (keep_set _ _ _ _ _ hB)
theorem blkL.cells {w : World} {B : Nat} {L : List Cel} {zs : List Value} (h : blkL w B L zs) {i : Nat} {c : Cel} (hc : L[i]? = some c) : cell6 w B (i * 6) c := by
  have a := fun k (hk : k < 6) => celC_at L i c hc k hk
  have hlt : i * 6 + 6 ≤ (celC L).length := by
    have := (List.getElem?_eq_some_iff.1 hc).1
    rw [celC_len]; omega
  have b : ∀ k x, k < 6 → (celV c)[k]? = some x → w.cell? ⟨B, i * 6 + k, none⟩ = some x := fun k x hk hx => by
    rw [cell_of_row _ _ _ _ _ (0, 0) h, List.getElem?_toArray, List.getElem?_append_left (by omega), a k hk]
    exact hx
  exact ⟨b 0 _ (by omega) rfl, b 1 _ (by omega) rfl, b 2 _ (by omega) rfl, b 3 _ (by omega) rfl, b 4 _ (by omega) rfl, b 5 _ (by omega) rfl⟩
theorem blkL.frozen {w : World} {B : Nat} {L : List Cel} {zs : List Value} (h : blkL w B L zs) (p : Nat) : w.frozen? ⟨B, p, none⟩ = false := by
  unfold World.frozen?
  unfold blkL at h
  rw [h]; simp
theorem blkL.keep {w w' : World} {ok : Nat → Prop} {B : Nat} {L : List Cel} {zs : List Value} (h : blkL w B L zs) (hk : KeepW ok w w') (hB : ok B) : blkL w' B L zs := (hk.same B h.lt hB).trans h
theorem blkL.below {w w' : World} {n B : Nat} {L : List Cel} {zs : List Value} (h : blkL w B L zs) (hb : Below n w w') (hB : B < n) : blkL w' B L zs := (hb.block B hB).trans h
/-- The whole block as a slice; a part of it. -/
theorem blkL.slice {w : World} {ok : Nat → Prop} {B n cap : Nat} {L : List Cel} {zs : List Value} (h : blkL w B L zs) (hB : ok B) (hn : L.length = n) (hc : n ≤ cap) : CelsW ok w (.slice (some ⟨B, 0, none⟩) n cap) L := by
  unfold CelsW
  rw [hn]
  refine ⟨_, cap, rfl, hc, fun a e => by cases e; exact hB, fun j u hu => ⟨B, 0, rfl, ?_⟩⟩
  rw [Nat.zero_add, cell_of_row _ _ _ _ _ (0, 0) h, List.getElem?_toArray, List.getElem?_append_left (List.getElem?_eq_some_iff.1 hu).1]
  exact hu
theorem blkL.part {w : World} {ok : Nat → Prop} {B a n cap : Nat} {L : List Cel} {zs : List Value} (h : blkL w B L zs) (hB : ok B) (hn : a + n ≤ L.length) (hc : n ≤ cap) : CelsW ok w (.slice (some ⟨B, a * 6, none⟩) n cap) ((L.drop a).take n) := by
  have hl : ((L.drop a).take n).length = n := by rw [List.length_take, List.length_drop]; omega
  unfold CelsW
  rw [hl]
  refine ⟨_, cap, rfl, hc, fun a e => by cases e; exact hB, fun j u hu => ⟨B, a * 6, rfl, ?_⟩⟩
  rw [← celC_take, ← celC_drop, List.getElem?_take] at hu
  split at hu
  · rw [List.getElem?_drop] at hu
    rw [cell_of_row _ _ _ _ _ (0, 0) h, List.getElem?_toArray, List.getElem?_append_left (List.getElem?_eq_some_iff.1 hu).1]
    exact hu
  · cases hu
end Go.Proofs.YtpkjaallhhjleaaGreatDoor

/-
  slices.Clone of cells, limnerref06.Copy: what each call returns, and lays.
-/
namespace Go.Proofs.YtpkjaallhhjleaaGreatDoor
open Go.RowKit

/-- A block of one's own that holds these cells. -/
def NewL (w w' : World) (g : Nat) (l : List Cel) : Prop := ∃ zs, w.heap.size ≤ g ∧ blkL w' g l zs
set_option maxRecDepth 100000 in
set_option maxHeartbeats 1000000 in
theorem clone_any {ok : Nat → Prop} {l : List Cel} (g o cap n : Nat) (w : World) (hS : CelsW ok w (.slice (some ⟨g, o, none⟩) n cap) l) (hn : l.length = n) (h0 : 0 < n) (hl : n ≤ 100000) :
    Calls Tryz.prog 36 #[.slice (some ⟨g, o, none⟩) n cap] w fun e w' => ∃ g' c', e = .returned (.slice (some ⟨g', 0, none⟩) n c') ∧ n ≤ c' ∧ NewL w w' g' l ∧ Below w.heap.size w w' := by
  obtain ⟨i0, hi, hz0, hz1, hz2⟩ := info_parts Tryz.infoCell
  have he : ∀ w : World, (binOp .eql 33 (.slice (some ⟨g, o, none⟩) n cap) (.slice none 0 0)).run Tryz.prog w = .ok (.bool false) w := fun _ => rfl
  have HR : Hid (∀ W, Below w.heap.size w W → RowV ok W (.slice (some ⟨g, o, none⟩) n cap) n (celC l)) := fun W hW => by
    have := RowV.keep hS (keep_below ok hW)
    rwa [hn] at this
  have HL : Hid ((celC l).length = n * 6) := by show _ = _; rw [celC_len, hn]
  have HI := Lib.hid hi
  have H0 := Lib.hid hz0
  have H1 := Lib.hid hz1
  have H2 := Lib.hid hz2
  have hb1 : Below w.heap.size w (w.alloc (.cells #[] 82)) := (Below.refl _ _).alloc (Nat.le_refl _) _
  have HE : Hid (RowV (fun _ => True) (w.alloc (.cells #[] 82)) (.slice (some ⟨w.heap.size, 0, none⟩) 0 0) 0 []) := ⟨_, 0, rfl, Nat.le_refl _, fun _ _ => trivial, fun j u hu => by simp at hu⟩
  clear hS hi hz0 hz1 hz2 hn
  go_enter Tryz.func36, Tryz.ntmps36
  go_wp2_with (at_builtin; refine wpList_full 33 82 i0 _ 32 Tryz.underlying33 HI.out H0.out H1.out H2.out rfl _ _ rfl (by rfl) (by rfl) HE.out (by simp) (HR.out _ hb1) HL.out h0 (by omega) (celC_cell l) (by omega) (by omega) ?_; intro cp zs hcp)
  go_ret
  have hb2 : Below w.heap.size w ((w.alloc (.cells #[] 82)).drew.alloc (.cells (celC l ++ zs).toArray 82)) := hb1.drew.alloc (by simp) _
  refine ⟨w.heap.size + 1, cp, rfl, by omega, ⟨zs, by omega, ?_⟩, hb2⟩
  have := heap_alloc_new (w.alloc (.cells #[] 82)).drew (.cells (celC l ++ zs).toArray 82)
  rw [show (w.alloc (.cells #[] 82)).drew.heap.size = w.heap.size + 1 by show (w.alloc _).heap.size = _; rw [World.size_alloc]] at this
  exact this
set_option maxHeartbeats 1000000 in
theorem copy_any {ok : Nat → Prop} {l : List Cel} (g o cap n : Nat) (r c a b : Int) (w : World) (hS : CelsW ok w (.slice (some ⟨g, o, none⟩) n cap) l) (hn : l.length = n) (h0 : 0 < n) (hl : n ≤ 100000) :
    Calls Tryz.prog 102 #[.agg #[.int .i64 r, .int .i64 c, .slice (some ⟨g, o, none⟩) n cap, .int .i64 a, .int .i64 b]] w fun e w' => ∃ g' c', e = .returned (.agg #[.int .i64 r, .int .i64 c, .slice (some ⟨g', 0, none⟩) n c', .int .i64 a, .int .i64 b]) ∧ n ≤ c' ∧ NewL w w' g' l ∧ Below w.heap.size w w' := by
  obtain ⟨i0, hi, hz0, hz1, hz2⟩ := info_parts Tryz.infoCell
  have HR : Hid (∀ W, Below w.heap.size w W → RowV ok W (.slice (some ⟨g, o, none⟩) n cap) n (celC l)) := fun W hW => by
    have := RowV.keep hS (keep_below ok hW)
    rwa [hn] at this
  have HL : Hid ((celC l).length = n * 6) := by show _ = _; rw [celC_len, hn]
  have HI := Lib.hid hi
  have H0 := Lib.hid hz0
  have H1 := Lib.hid hz1
  have H2 := Lib.hid hz2
  have HE : Hid (∀ W, RowV (fun _ => True) W (.slice none 0 0) 0 []) := fun W => RowV.nil _ W
  have hb1 : Below w.heap.size w ((w.alloc (.cells #[.int .i64 r, .int .i64 c, .slice (some ⟨g, o, none⟩) n cap, .int .i64 a, .int .i64 b] 35)).alloc (.cells #[.int .i64 0, .int .i64 0, .slice none 0 0, .int .i64 0, .int .i64 0] 35)) := ((Below.refl _ _).alloc (Nat.le_refl _) _).alloc (by simp) _
  clear hS hi hz0 hz1 hz2 hn
  go_enter Tryz.func102, Tryz.ntmps102
  go_wp2_with (at_builtin; refine wpList_full 33 82 i0 _ 32 Tryz.underlying33 HI.out H0.out H1.out H2.out rfl _ _ rfl (by rfl) (by rfl) (HE.out _) (by simp) (HR.out _ hb1) HL.out h0 (by omega) (celC_cell l) (by omega) (by omega) ?_; intro cp zs hcp)
  obtain ⟨W, hW⟩ : ∃ W, (((w.alloc (.cells #[.int .i64 r, .int .i64 c, .slice (some ⟨w.heap.size + 1 + 1, 0, none⟩) n cp, .int .i64 a, .int .i64 b] 35)).alloc (.cells #[.int .i64 r, .int .i64 c, .slice (some ⟨w.heap.size + 1 + 1, 0, none⟩) n cp, .int .i64 a, .int .i64 b] 35)).alloc (.cells (celC l ++ zs).toArray 82)).drew = W := ⟨_, rfl⟩
  have p1 : W.heap[w.heap.size + 1]? = some (.cells #[.int .i64 r, .int .i64 c, .slice (some ⟨w.heap.size + 1 + 1, 0, none⟩) n cp, .int .i64 a, .int .i64 b] 35 (0, 0)) := by
    rw [← hW]
    have e := heap_alloc_new (w.alloc (.cells #[.int .i64 r, .int .i64 c, .slice (some ⟨w.heap.size + 1 + 1, 0, none⟩) n cp, .int .i64 a, .int .i64 b] 35)) (.cells #[.int .i64 r, .int .i64 c, .slice (some ⟨w.heap.size + 1 + 1, 0, none⟩) n cp, .int .i64 a, .int .i64 b] 35)
    rw [World.size_alloc] at e
    exact (Below.heap_alloc _ _ _ (by rw [World.size_alloc, World.size_alloc]; omega)).trans e
  have p2 : W.heap[w.heap.size + 1 + 1]? = some (.cells (celC l ++ zs).toArray 82 (0, 0)) := by
    rw [← hW]
    have e := heap_alloc_new ((w.alloc (.cells #[.int .i64 r, .int .i64 c, .slice (some ⟨w.heap.size + 1 + 1, 0, none⟩) n cp, .int .i64 a, .int .i64 b] 35)).alloc (.cells #[.int .i64 r, .int .i64 c, .slice (some ⟨w.heap.size + 1 + 1, 0, none⟩) n cp, .int .i64 a, .int .i64 b] 35)) (.cells (celC l ++ zs).toArray 82)
    rw [World.size_alloc, World.size_alloc] at e
    exact e
  have q : Below w.heap.size w W := by
    rw [← hW]
    exact ((((Below.refl _ w).alloc (Nat.le_refl _) _).alloc (by simp) _).alloc (by simp; omega) _).drew
  rw [hW]
  clear hW
  have c0 : W.cell? ⟨w.heap.size + 1, 0, none⟩ = some (.int .i64 r) := by rw [cell_of_row _ _ _ _ _ _ p1]; rfl
  have c1 : W.cell? ⟨w.heap.size + 1, 1, none⟩ = some (.int .i64 c) := by rw [cell_of_row _ _ _ _ _ _ p1]; rfl
  have c2 : W.cell? ⟨w.heap.size + 1, 2, none⟩ = some (.slice (some ⟨w.heap.size + 1 + 1, 0, none⟩) n cp) := by rw [cell_of_row _ _ _ _ _ _ p1]; rfl
  have c3 : W.cell? ⟨w.heap.size + 1, 3, none⟩ = some (.int .i64 a) := by rw [cell_of_row _ _ _ _ _ _ p1]; rfl
  have c4 : W.cell? ⟨w.heap.size + 1, 4, none⟩ = some (.int .i64 b) := by rw [cell_of_row _ _ _ _ _ _ p1]; rfl
  exact bodyPost_ret (v := .agg #[.int .i64 r, .int .i64 c, .slice (some ⟨w.heap.size + 1 + 1, 0, none⟩) n cp, .int .i64 a, .int .i64 b]) (by simp [results, Tryz.results102, go_sem, c0, c1, c2, c3, c4]) rfl ⟨_, cp, rfl, by omega, ⟨zs, by omega, p2⟩, q⟩
end Go.Proofs.YtpkjaallhhjleaaGreatDoor

/-
  grids.part: what it leaves of a row that lies in a block known whole.
-/
namespace Go.Proofs.YtpkjaallhhjleaaGreatDoor
open Go.RowKit

/-- What becomes of all cells where a row of n begins at a. -/
def partW (L : List Cel) (a n j : Nat) : List Cel := if j < n ∧ (L[a + j]?).any (fun c => decide (c.2.1 = 0)) = true then (L.set (a + j - 1) blkC).set (a + j) blkC else L

theorem part_no {B a n cap : Nat} {L : List Cel} {zs : List Value} (j : Nat) (w : World) (h : blkL w B L zs) (hr : a + n ≤ L.length) (hj : j ≤ n) (hno : ¬ (j < n ∧ (L[a + j]?).any (fun c => decide (c.2.1 = 0)) = true)) :
    Calls Tryz.prog 126 #[.slice (some ⟨B, a * 6, none⟩) n cap, .int .i64 (j : Int)] w fun e w' => e = .returned (.tuple #[]) ∧ w = w' := by
  by_cases h1 : j < n
  · obtain ⟨c, hc⟩ : ∃ c, L[a + j]? = some c := ⟨_, List.getElem?_eq_getElem (by omega)⟩
    have h0 : c.2.1 ≠ 0 := fun k => hno ⟨h1, by rw [hc]; simpa using k⟩
    obtain ⟨_, c1, _⟩ := h.cells hc
    rw [Nat.add_mul] at c1
    have b0 : (c.2.1 == 0) = false := by simpa using h0
    have i1 : (j : Int) < (n : Int) := by omega
    clear hno h hc h0
    go_enter Tryz.func126, Tryz.ntmps126
    go_wp2
    go_end0
    exact ⟨rfl, rfl⟩
  · have i1 : ¬ (j : Int) < (n : Int) := by omega
    clear hno h
    go_enter Tryz.func126, Tryz.ntmps126
    go_wp2
    go_end0
    exact ⟨rfl, rfl⟩
set_option maxHeartbeats 1000000 in
theorem part_yes {B a n cap : Nat} {L : List Cel} {zs : List Value} {c : Cel} (j : Nat) (w : World) (h : blkL w B L zs) (hL : BlankW w) (_ : B ≠ 0) (hr : a + n ≤ L.length) (hj : j + 1 < n) (hn : n ≤ 1000) (hc : L[a + (j + 1)]? = some c) (hw : c.2.1 = 0) :
    Calls Tryz.prog 126 #[.slice (some ⟨B, a * 6, none⟩) n cap, .int .i64 ((j + 1 : Nat) : Int)] w fun e w' => e = .returned (.tuple #[]) ∧ w' = set6 (set6 w B ((a + j) * 6) blkC) B ((a + (j + 1)) * 6) blkC := by
  obtain ⟨d0, c1, d2, d3, d4, d5⟩ := h.cells hc
  obtain ⟨p, hp⟩ : ∃ p, L[a + j]? = some p := ⟨_, List.getElem?_eq_getElem (by omega)⟩
  obtain ⟨e0, e1, e2, e3, e4, e5⟩ := h.cells hp
  obtain ⟨b0, b1, b2, b3, b4, b5⟩ := hL.2
  simp only [blkC, Nat.zero_add] at b0 b1 b2 b3 b4 b5
  have hf := h.frozen
  have f0 := hf ((a + j) * 6)
  have f1 := hf ((a + j) * 6 + 1)
  have f2 := hf ((a + j) * 6 + 2)
  have f3 := hf ((a + j) * 6 + 3)
  have f4 := hf ((a + j) * 6 + 4)
  have f5 := hf ((a + j) * 6 + 5)
  have g0 := hf ((a + (j + 1)) * 6)
  have g1 := hf ((a + (j + 1)) * 6 + 1)
  have g2 := hf ((a + (j + 1)) * 6 + 2)
  have g3 := hf ((a + (j + 1)) * 6 + 3)
  have g4 := hf ((a + (j + 1)) * 6 + 4)
  have g5 := hf ((a + (j + 1)) * 6 + 5)
  have hlt := h.lt
  have hg := hL.1
  unfold set6
  obtain ⟨y, hy⟩ : ∃ y, j + 1 = y := ⟨_, rfl⟩
  rw [hy] at c1 d0 d2 d3 d4 d5 g0 g1 g2 g3 g4 g5 hj ⊢
  rw [Nat.add_mul] at c1 d0 d2 d3 d4 d5 e0 e1 e2 e3 e4 e5 f0 f1 f2 f3 f4 f5 g0 g1 g2 g3 g4 g5
  have hj2 : ((y : Int) - 1) = (j : Int) := by omega
  have z0 : (c.2.1 == 0) = true := by simpa using hw
  have i1 : (y : Int) < (n : Int) := by omega
  have i2 : (1 : Int) ≤ (y : Int) := by omega
  have i3 : (j : Int) < (n : Int) := by omega
  clear h hL hf hc hp hw
  go_enter Tryz.func126, Tryz.ntmps126
  go_wp2
  go_end0
  exact ⟨rfl, by rw [Nat.add_mul, Nat.add_mul]; rfl⟩
theorem part_any {B a n cap : Nat} {L : List Cel} {zs : List Value} (j : Nat) (w : World) (h : blkL w B L zs) (hL : BlankW w) (hB : B ≠ 0) (hr : a + n ≤ L.length) (hj : j ≤ n) (hn : n ≤ 1000) (hf : ∀ c, L[a]? = some c → c.2.1 ≠ 0) :
    Calls Tryz.prog 126 #[.slice (some ⟨B, a * 6, none⟩) n cap, .int .i64 (j : Int)] w fun e w' => e = .returned (.tuple #[]) ∧ blkL w' B (partW L a n j) zs ∧ KeepW (fun k => k ≠ B) w w' := by
  unfold partW
  by_cases hb : j < n ∧ (L[a + j]?).any (fun c => decide (c.2.1 = 0)) = true
  · rw [if_pos hb]
    obtain ⟨c, hc, hw⟩ : ∃ c, L[a + j]? = some c ∧ c.2.1 = 0 := any_w0.1 hb.2
    obtain ⟨i, rfl⟩ : ∃ i, j = i + 1 := by
      cases j with
      | zero => exact (hf c hc hw).elim
      | succ i => exact ⟨i, rfl⟩
    refine (part_yes i w h hL hB hr hb.1 hn hc hw).mono fun e w' ⟨h1, h2⟩ => ⟨h1, ?_, ?_⟩
    · rw [h2, show a + (i + 1) - 1 = a + i by omega]
      exact (h.set (a + i) blkC (by omega)).set (a + (i + 1)) blkC (by rw [List.length_set]; omega)
    · rw [h2]
      exact (set6_keep _ _ _ _ (fun k => k rfl)).trans (set6_keep _ _ _ _ (fun k => k rfl))
  · rw [if_neg hb]
    exact (part_no j w h hr hj hb).mono fun e w' ⟨h1, h2⟩ => by subst h2; exact ⟨h1, h, KeepW.refl _ _⟩
end Go.Proofs.YtpkjaallhhjleaaGreatDoor

/-
  limnerref06.mend: what it leaves of a row that lies in a block known whole.
-/
namespace Go.Proofs.YtpkjaallhhjleaaGreatDoor
open Go.RowKit

/-- A row of n cells, from a on, of which the first i are mended. -/
def mixL (L : List Cel) (a n i : Nat) : List Cel := L.take a ++ ((mendL ((L.drop a).take n)).take i ++ ((L.drop a).take n).drop i) ++ L.drop (a + n)
theorem mix_len {L : List Cel} {a n i : Nat} (hr : a + n ≤ L.length) (hi : i ≤ n) : (mixL L a n i).length = L.length := by
  unfold mixL
  simp only [List.length_append, List.length_take, List.length_drop, mend_len]
  omega
theorem mix_at {L : List Cel} {a n i : Nat} (hr : a + n ≤ L.length) (hi : i ≤ n) (j : Nat) (hj : j < n) : (mixL L a n i)[a + j]? = if j < i then (mendL ((L.drop a).take n))[j]? else ((L.drop a).take n)[j]? := by
  have hR : ((L.drop a).take n).length = n := by rw [List.length_take, List.length_drop]; omega
  unfold mixL
  rw [List.append_assoc, List.getElem?_append_right (by rw [List.length_take]; omega), List.length_take, Nat.min_eq_left (by omega), show a + j - a = j by omega,
    List.getElem?_append_left (by rw [List.length_append, List.length_take, List.length_drop, mend_len, hR]; omega)]
  by_cases h : j < i
  · rw [if_pos h, List.getElem?_append_left (by rw [List.length_take, mend_len, hR]; omega), List.getElem?_take, if_pos h]
  · rw [if_neg h, List.getElem?_append_right (by rw [List.length_take, mend_len, hR]; omega), List.length_take, mend_len, hR, Nat.min_eq_left hi, List.getElem?_drop]
    congr 1; omega
theorem mix_zero (L : List Cel) (a n : Nat) : mixL L a n 0 = L := by
  unfold mixL
  rw [List.take_zero, List.drop_zero, List.nil_append, List.append_assoc, show L.drop (a + n) = (L.drop a).drop n by rw [List.drop_drop], List.take_append_drop, List.take_append_drop]
theorem mix_step {L : List Cel} {a n i : Nat} {c : Cel} (hr : a + n ≤ L.length) (hi : i < n) (hc : ((L.drop a).take n)[i]? = some c) :
    mixL L a n (i + 1) = if badC ((L.drop a).take n) i c then (mixL L a n i).set (a + i) blkC else mixL L a n i := by
  have hR : ((L.drop a).take n).length = n := by rw [List.length_take, List.length_drop]; omega
  have hm : (mendL ((L.drop a).take n))[i]? = some (mendC ((L.drop a).take n) i c) := by rw [mend_at, hc]; rfl
  obtain ⟨R, hRe⟩ : ∃ R, (L.drop a).take n = R := ⟨_, rfl⟩
  have e : ∀ x, (L.take a ++ ((mendL R).take i ++ R.drop i) ++ L.drop (a + n)).set (a + i) x = L.take a ++ ((mendL R).take i ++ x :: R.drop (i + 1)) ++ L.drop (a + n) := fun x => by
    rw [hRe] at hR hc
    rw [List.set_append_left _ _ (by simp only [List.length_append, List.length_take, List.length_drop, mend_len, hR]; omega), List.set_append_right _ _ (by rw [List.length_take]; omega), List.length_take, Nat.min_eq_left (by omega), show a + i - a = i by omega,
      List.set_append_right _ _ (by rw [List.length_take, mend_len, hR]; omega), List.length_take, mend_len, hR, Nat.min_eq_left (by omega), Nat.sub_self, List.drop_eq_getElem_cons (show i < R.length by omega), List.set_cons_zero]
  unfold mixL
  rw [hRe] at hR hc hm ⊢
  have h1 : (mendL R).take (i + 1) = (mendL R).take i ++ [mendC R i c] := by
    rw [List.take_succ_eq_append_getElem (by rw [mend_len, hR]; exact hi), (List.getElem?_eq_some_iff.1 hm).2]
  have h2 : R.drop i = c :: R.drop (i + 1) := by rw [List.drop_eq_getElem_cons (show i < R.length by omega), (List.getElem?_eq_some_iff.1 hc).2]
  cases hb : badC R i c with
  | true => rw [if_pos rfl, e, h1, mendC, hb, if_pos rfl]; simp only [List.append_assoc, List.cons_append, List.nil_append]
  | false => rw [if_neg (by decide), h1, h2, mendC, hb, if_neg (by decide)]; simp only [List.append_assoc, List.cons_append, List.nil_append]
theorem mix_end {L : List Cel} {a n : Nat} (hr : a + n ≤ L.length) : mixL L a n n = L.take a ++ mendL ((L.drop a).take n) ++ L.drop (a + n) := by
  have hR : ((L.drop a).take n).length = n := by rw [List.length_take, List.length_drop]; omega
  unfold mixL
  obtain ⟨R, hRe⟩ : ∃ R, (L.drop a).take n = R := ⟨_, rfl⟩
  rw [hRe] at hR ⊢
  rw [List.take_of_length_le (show (mendL R).length ≤ n by rw [mend_len, hR]; exact Nat.le_refl _), List.drop_of_length_le (show R.length ≤ n by rw [hR]; exact Nat.le_refl _), List.append_nil]
/-- Of a mended cell: whether it is a left half is as it was, as far as its neighbor asks. -/
theorem mend_left {R : List Cel} {i : Nat} {c p q : Cel} (hc : R[i + 1]? = some c) (hw : c.2.1 = 0) (hp : R[i]? = some p) (hq : (mendL R)[i]? = some q) : q.2.1 = 2 ↔ p.2.1 = 2 := by
  rw [mend_at, hp, Option.map_some] at hq
  cases hq
  unfold mendC
  split
  · rename_i hb
    constructor
    · intro k; simp [blkC] at k
    · intro k
      unfold badC at hb
      rw [hc] at hb
      simp [k, hw] at hb
  · exact Iff.rfl
theorem bad_is (R : List Cel) (i : Nat) (c : Cel) : badC R i c = true ↔ (c.2.1 = 2 ∧ ¬ ∃ d, R[i + 1]? = some d ∧ d.2.1 = 0) ∨ (c.2.1 = 0 ∧ ¬ (0 < i ∧ ∃ d, R[i - 1]? = some d ∧ d.2.1 = 2)) := by
  unfold badC
  cases h1 : R[i + 1]? <;> cases h2 : R[i - 1]? <;> simp <;> omega

/-- The ways through a round: whether the cell is mended, and what tells it. -/
theorem mend_ways {L : List Cel} {a n i : Nat} {c : Cel} (hr : a + n ≤ L.length) (hi : i < n) (hc : ((L.drop a).take n)[i]? = some c) :
    (badC ((L.drop a).take n) i c = true ∧ (
      (c.2.1 = 2 ∧ i + 1 = n) ∨
      (∃ d, c.2.1 = 2 ∧ i + 1 < n ∧ (mixL L a n i)[a + (i + 1)]? = some d ∧ d.2.1 ≠ 0) ∨
      (c.2.1 = 0 ∧ i = 0) ∨
      (∃ y q, c.2.1 = 0 ∧ i = y + 1 ∧ (mixL L a n i)[a + y]? = some q ∧ q.2.1 ≠ 2))) ∨
    (badC ((L.drop a).take n) i c = false ∧ (
      (∃ d, c.2.1 = 2 ∧ i + 1 < n ∧ (mixL L a n i)[a + (i + 1)]? = some d ∧ d.2.1 = 0) ∨
      (∃ y q, c.2.1 = 0 ∧ i = y + 1 ∧ (mixL L a n i)[a + y]? = some q ∧ q.2.1 = 2) ∨
      (c.2.1 ≠ 2 ∧ c.2.1 ≠ 0))) := by
  have hR : ((L.drop a).take n).length = n := by rw [List.length_take, List.length_drop]; omega
  have hM : ∀ j, i < j → j < n → (mixL L a n i)[a + j]? = ((L.drop a).take n)[j]? := fun j h1 h2 => by rw [mix_at hr (by omega) j h2, if_neg (by omega)]
  have hP : ∀ y, y + 1 = i → (mixL L a n i)[a + y]? = (mendL ((L.drop a).take n))[y]? := fun y h1 => by rw [mix_at hr (by omega) y (by omega), if_pos (by omega)]
  have hb := bad_is ((L.drop a).take n) i c
  obtain ⟨R, hRe⟩ : ∃ R, (L.drop a).take n = R := ⟨_, rfl⟩
  rw [hRe] at hc hM hP hR hb ⊢
  by_cases h2 : c.2.1 = 2
  · by_cases he : i + 1 = n
    · refine .inl ⟨hb.2 (.inl ⟨h2, ?_⟩), .inl ⟨h2, he⟩⟩
      rintro ⟨d, hd, _⟩
      rw [List.getElem?_eq_none (by omega)] at hd; cases hd
    · obtain ⟨d, hd⟩ : ∃ d, R[i + 1]? = some d := ⟨_, List.getElem?_eq_getElem (by omega)⟩
      have hd2 := (hM (i + 1) (by omega) (by omega)).trans hd
      by_cases h0 : d.2.1 = 0
      · refine .inr ⟨Bool.eq_false_iff.2 fun k => ?_, .inl ⟨d, h2, by omega, hd2, h0⟩⟩
        rcases hb.1 k with ⟨_, k2⟩ | ⟨k1, _⟩
        · exact k2 ⟨d, hd, h0⟩
        · omega
      · refine .inl ⟨hb.2 (.inl ⟨h2, ?_⟩), .inr (.inl ⟨d, h2, by omega, hd2, h0⟩)⟩
        rintro ⟨e, he2, hz⟩
        rw [hd] at he2; cases he2; exact h0 hz
  · by_cases h0 : c.2.1 = 0
    · cases i with
      | zero =>
        refine .inl ⟨hb.2 (.inr ⟨h0, ?_⟩), .inr (.inr (.inl ⟨h0, rfl⟩))⟩
        rintro ⟨k, _⟩; omega
      | succ y =>
        obtain ⟨p, hp⟩ : ∃ p, R[y]? = some p := ⟨_, List.getElem?_eq_getElem (by omega)⟩
        obtain ⟨q, hq⟩ : ∃ q, (mendL R)[y]? = some q := ⟨_, List.getElem?_eq_getElem (by rw [mend_len]; omega)⟩
        have hq2 := (hP y rfl).trans hq
        have hpq := mend_left hc h0 hp hq
        by_cases h3 : q.2.1 = 2
        · refine .inr ⟨Bool.eq_false_iff.2 fun k => ?_, .inr (.inl ⟨y, q, h0, rfl, hq2, h3⟩)⟩
          rcases hb.1 k with ⟨k1, _⟩ | ⟨_, k2⟩
          · omega
          · exact k2 ⟨by omega, p, hp, hpq.1 h3⟩
        · refine .inl ⟨hb.2 (.inr ⟨h0, ?_⟩), .inr (.inr (.inr ⟨y, q, h0, rfl, hq2, h3⟩))⟩
          rintro ⟨_, d, hd, hw⟩
          rw [show y + 1 - 1 = y from rfl, hp] at hd; cases hd
          exact h3 (hpq.2 hw)
    · refine .inr ⟨Bool.eq_false_iff.2 fun k => ?_, .inr (.inr ⟨h2, h0⟩)⟩
      rcases hb.1 k with ⟨k1, _⟩ | ⟨k1, _⟩ <;> omega
end Go.Proofs.YtpkjaallhhjleaaGreatDoor

/-
  Plain facts: one row among all cells: what a store, a mending, a parting of that row makes of all of them. Nothing of the program is run here.
-/
namespace Go.Proofs.YtpkjaallhhjleaaGreatDoor
open Go.RowKit

theorem setK_set {L R : List Cel} {m n k j : Nat} (x : Cel) (hl : L.length = m * n) (hk : k < m) (hR : R.length = n) (hj : j < n) : (setK L n k R).set (k * n + j) x = setK L n k (R.set j x) := by
  have hr := row_room (n := n) hk
  unfold setK
  rw [List.set_append_left _ _ (by rw [List.length_append, List.length_take]; omega), List.set_append_right _ _ (by rw [List.length_take]; omega), List.length_take, Nat.min_eq_left (by omega), show k * n + j - k * n = j by omega]
theorem setK_at {L R : List Cel} {m n k j : Nat} (hl : L.length = m * n) (hk : k < m) (hR : R.length = n) (hj : j < n) : (setK L n k R)[k * n + j]? = R[j]? := by
  have hr := row_room (n := n) hk
  unfold setK
  rw [List.getElem?_append_left (by rw [List.length_append, List.length_take]; omega), List.getElem?_append_right (by rw [List.length_take]; omega), List.length_take, Nat.min_eq_left (by omega), show k * n + j - k * n = j by omega]
theorem partW_setK {L R : List Cel} {m n k j : Nat} (hl : L.length = m * n) (hk : k < m) (hR : R.length = n) (hf : ∀ c, R[0]? = some c → c.2.1 ≠ 0) : partW (setK L n k R) (k * n) n j = setK L n k (partL R j) := by
  unfold partW partL
  by_cases hj : j < n
  · rw [setK_at hl hk hR hj]
    by_cases hb : (R[j]?).any (fun c => decide (c.2.1 = 0)) = true
    · rw [if_pos ⟨hj, hb⟩, if_pos hb]
      cases j with
      | zero =>
        obtain ⟨c, hc, hw⟩ := any_w0.1 hb
        exact (hf c hc hw).elim
      | succ j =>
        rw [show k * n + (j + 1) - 1 = k * n + j by omega, setK_set _ hl hk hR (by omega), setK_set _ hl hk (by rw [List.length_set]; exact hR) hj, show j + 1 - 1 = j from rfl]
    · rw [if_neg (fun k => hb k.2), if_neg hb]
  · rw [if_neg (fun k => hj k.1), if_neg]
    rw [List.getElem?_eq_none (by omega)]
    simp
theorem part_first {R : List Cel} (h : okRow R) (j : Nat) : ∀ c, (partL R j)[0]? = some c → c.2.1 ≠ 0 := by
  intro c hc
  unfold partL at hc
  split at hc
  · rw [List.getElem?_set, List.getElem?_set, List.length_set] at hc
    split at hc
    · split at hc
      · cases hc; decide
      · cases hc
    · split at hc
      · split at hc
        · cases hc; decide
        · cases hc
      · exact h.first hc
  · exact h.first hc
theorem lay_setK {L R : List Cel} {m n k col : Nat} (r : Int) (d : Nat) (s : Sty) (hl : L.length = m * n) (hk : k < m) (hR : R.length = n) (hd : d = 1 ∨ d = 2) (hc : col + d ≤ n) :
    setK L n k (layL R col r d s) = if d = 2 then ((setK L n k R).set (k * n + col) (r, (d : Int), s)).set (k * n + (col + 1)) (halfC s) else (setK L n k R).set (k * n + col) (r, (d : Int), s) := by
  unfold layL
  split
  · rw [setK_set _ hl hk hR (by omega), setK_set _ hl hk (by rw [List.length_set]; exact hR) (by omega)]
  · rw [setK_set _ hl hk hR (by omega)]
theorem mend_setK {L R : List Cel} {m n k : Nat} (hl : L.length = m * n) (hk : k < m) (hR : R.length = n) : (setK L n k R).take (k * n) ++ mendL (((setK L n k R).drop (k * n)).take n) ++ (setK L n k R).drop (k * n + n) = setK L n k (mendL R) := by
  have hr := row_room (n := n) hk
  have h1 : ((setK L n k R).drop (k * n)).take n = R := by
    have := setK_row R hl hk hR k
    rw [if_pos rfl] at this
    exact this
  rw [h1]
  have ht : (L.take (k * n)).length = k * n := by rw [List.length_take]; omega
  have h2 : (setK L n k R).take (k * n) = L.take (k * n) := by
    unfold setK
    rw [List.append_assoc, List.take_append_of_le_length (by omega), List.take_of_length_le (by omega)]
  have h3 : (setK L n k R).drop (k * n + n) = L.drop (k * n + n) := by
    unfold setK
    rw [List.drop_append, List.drop_of_length_le (by rw [List.length_append, ht, hR]; exact Nat.le_refl _), List.length_append, ht, hR, Nat.sub_self, List.drop_zero, List.nil_append]
  rw [h2, h3]
  rfl
end Go.Proofs.YtpkjaallhhjleaaGreatDoor

/-
  What lies in memory while a rune is put into a frame: the boxes of the call, the cells of its own. No call is walked here.
-/
namespace Go.Proofs.YtpkjaallhhjleaaGreatDoor
open Go.RowKit

structure PutS (w W : World) (f : Frm) (s : Sty) (N g c : Nat) (L : List Cel) (zs : List Value) : Prop where
  below : Below w.heap.size w W
  fr : frB W w.heap.size f.rows f.cols (.slice (some ⟨g, 0, none⟩) N c) f.row f.col
  sty : W.heap[w.heap.size + 1]? = some (.cells #[.int .i64 s.1, .bool s.2.1, .bool s.2.2.1, .bool s.2.2.2] 38 (0, 0))
  res : frB W (w.heap.size + 1 + 1) 0 0 (.slice none 0 0) 0 0
  own : w.heap.size + 3 ≤ g
  blk : blkL W g L zs
  len : L.length = N
  cap : N ≤ c
section
variable {w W : World} {f : Frm} {s : Sty} {N g c : Nat} {L : List Cel} {zs : List Value}
theorem PutS.next {W' : World} (h : PutS w W f s N g c L zs) (hb : Below W.heap.size W W') : PutS w W' f s N g c L zs :=
  ⟨h.below.trans (hb.mono h.below.size), h.fr.below hb h.fr.lt, (hb.block _ (Array.getElem?_eq_some_iff.1 h.sty).1).trans h.sty, h.res.below hb h.res.lt, h.own, h.blk.below hb h.blk.lt, h.len, h.cap⟩
theorem PutS.turn {W' : World} {L' : List Cel} (h : PutS w W f s N g c L zs) (hk : KeepW (fun k => k ≠ g) W W') (hb : blkL W' g L' zs) (hl : L'.length = N) : PutS w W' f s N g c L' zs := by
  have ho := h.own
  exact ⟨KeepW.below h.below hk h.below.size (fun k hk => by omega), h.fr.keep hk (by show _ ≠ _; omega), (hk.same _ (Array.getElem?_eq_some_iff.1 h.sty).1 (by show _ ≠ _; omega)).trans h.sty, h.res.keep hk (by show _ ≠ _; omega), h.own, hb, hl, h.cap⟩
theorem PutS.styc (h : PutS w W f s N g c L zs) : W.cell? ⟨w.heap.size + 1, 0, none⟩ = some (.int .i64 s.1) ∧ W.cell? ⟨w.heap.size + 1, 1, none⟩ = some (.bool s.2.1) ∧ W.cell? ⟨w.heap.size + 1, 2, none⟩ = some (.bool s.2.2.1) ∧ W.cell? ⟨w.heap.size + 1, 3, none⟩ = some (.bool s.2.2.2) := by
  have e := h.sty
  refine ⟨?_, ?_, ?_, ?_⟩ <;> (unfold World.cell?; rw [e]; rfl)
/-- The way out: the frame is laid into the result's box. -/
theorem PutS.done (h : PutS w W f s N g c L zs) : frB (set5 W (w.heap.size + 1 + 1) f.rows f.cols (.slice (some ⟨g, 0, none⟩) N c) f.row f.col) (w.heap.size + 1 + 1) f.rows f.cols (.slice (some ⟨g, 0, none⟩) N c) f.row f.col ∧
    FrameW AnyB (set5 W (w.heap.size + 1 + 1) f.rows f.cols (.slice (some ⟨g, 0, none⟩) N c) f.row f.col) (.agg #[.int .i64 f.rows, .int .i64 f.cols, .slice (some ⟨g, 0, none⟩) N c, .int .i64 f.row, .int .i64 f.col]) { f with cells := L } ∧
    Below w.heap.size w (set5 W (w.heap.size + 1 + 1) f.rows f.cols (.slice (some ⟨g, 0, none⟩) N c) f.row f.col) := by
  have ho := h.own
  have hk := set5_keep (ok := fun k => k ≠ w.heap.size + 1 + 1) W (w.heap.size + 1 + 1) f.rows f.cols (.slice (some ⟨g, 0, none⟩) N c) f.row f.col (fun k => k rfl)
  exact ⟨h.res.all, ⟨_, N, c, rfl, h.len.symm, h.cap, (h.blk.keep hk (by show _ ≠ _; omega)).slice trivial h.len h.cap⟩, KeepW.below h.below hk h.below.size (fun k hk => by omega)⟩
end
/-- What the call lays first. -/
def put0 (w : World) (f : Frm) (s : Sty) (ao : Option Addr) (N cap : Nat) : World :=
  ((w.alloc (.cells #[.int .i64 f.rows, .int .i64 f.cols, .slice ao N cap, .int .i64 f.row, .int .i64 f.col] 35)).alloc (.cells #[.int .i64 s.1, .bool s.2.1, .bool s.2.2.1, .bool s.2.2.2] 38)).alloc (.cells #[.int .i64 0, .int .i64 0, .slice none 0 0, .int .i64 0, .int .i64 0] 35)
theorem put0_is (w : World) (f : Frm) (s : Sty) (ao : Option Addr) (N cap : Nat) : (put0 w f s ao N cap).heap.size = w.heap.size + 3 ∧ Below w.heap.size w (put0 w f s ao N cap) ∧
    frB (put0 w f s ao N cap) w.heap.size f.rows f.cols (.slice ao N cap) f.row f.col ∧ (put0 w f s ao N cap).heap[w.heap.size + 1]? = some (.cells #[.int .i64 s.1, .bool s.2.1, .bool s.2.2.1, .bool s.2.2.2] 38 (0, 0)) ∧
    frB (put0 w f s ao N cap) (w.heap.size + 1 + 1) 0 0 (.slice none 0 0) 0 0 := by
  unfold put0
  refine ⟨by simp, (((Below.refl _ w).alloc (Nat.le_refl _) _).alloc (by simp) _).alloc (by simp; omega) _, ?_, ?_, ?_⟩
  · unfold frB
    rw [Below.heap_alloc _ _ _ (by simp only [World.size_alloc]; omega), Below.heap_alloc _ _ _ (by simp only [World.size_alloc]; omega)]
    exact heap_alloc_new w _
  · rw [Below.heap_alloc _ _ _ (by simp only [World.size_alloc]; omega)]
    have := heap_alloc_new (w.alloc (.cells #[.int .i64 f.rows, .int .i64 f.cols, .slice ao N cap, .int .i64 f.row, .int .i64 f.col] 35)) (.cells #[.int .i64 s.1, .bool s.2.1, .bool s.2.2.1, .bool s.2.2.2] 38)
    rwa [World.size_alloc] at this
  · unfold frB
    have := heap_alloc_new ((w.alloc (.cells #[.int .i64 f.rows, .int .i64 f.cols, .slice ao N cap, .int .i64 f.row, .int .i64 f.col] 35)).alloc (.cells #[.int .i64 s.1, .bool s.2.1, .bool s.2.2.1, .bool s.2.2.2] 38)) (.cells #[.int .i64 0, .int .i64 0, .slice none 0 0, .int .i64 0, .int .i64 0] 35)
    rwa [World.size_alloc, World.size_alloc] at this
end Go.Proofs.YtpkjaallhhjleaaGreatDoor

/-
  grids.rowOf: what it returns: a row of a frame, where the frame has it.
-/
namespace Go.Proofs.YtpkjaallhhjleaaGreatDoor
open Go.RowKit

theorem rowOf_any {g o N cap : Nat} (m n k : Nat) (a b : Int) (w : World) (hN : N = m * n) (hcap : N ≤ cap) (hn : 8 ≤ n ∧ n ≤ 200) (hm : m ≤ 100) (hk : k < m) :
    Calls Tryz.prog 73 #[.agg #[.int .i64 (m : Int), .int .i64 (n : Int), .slice (some ⟨g, o, none⟩) N cap, .int .i64 a, .int .i64 b], .int .i64 (k : Int)] w fun e w' =>
      e = .returned (.slice (some ⟨g, o + k * n * 6, none⟩) n (cap - k * n)) ∧ Below w.heap.size w w' := by
  have hr := row_room (n := n) hk
  have hmul : (k : Int) * (n : Int) = ((k * n : Nat) : Int) := by rw [Int.natCast_mul]
  have hb : k * n ≤ 20000 := Nat.mul_le_mul (show k ≤ 100 by omega) hn.2
  obtain ⟨kn, hkn⟩ : ∃ kn, k * n = kn := ⟨_, rfl⟩
  rw [hkn] at hr hmul hb ⊢
  have hN2 : kn + n ≤ N := by omega
  have i1 : (0 : Int) ≤ (kn : Int) := by omega
  have i2 : (kn : Int) ≤ (N : Int) := by omega
  have i3 : (n : Int) ≤ ((cap - kn : Nat) : Int) := by omega
  have i4 : (kn : Int) ≤ (cap : Int) := by omega
  have i5 : (kn : Int) ≤ 20000 := by omega
  clear hN hkn hr hcap
  go_enter Tryz.func73, Tryz.ntmps73
  go_wp2
  go_quiet (fail)
  go_wp2
  go_ret
  exact ⟨rfl, ((Below.refl _ w).alloc (Nat.le_refl _) _).trans ⟨rfl, rfl, rfl, Nat.le_refl _, fun _ _ => rfl⟩⟩
end Go.Proofs.YtpkjaallhhjleaaGreatDoor

/-
  limnerref06.mend: what it leaves of a row that lies in a block known whole.
-/
namespace Go.Proofs.YtpkjaallhhjleaaGreatDoor
open Go.RowKit

set_option maxHeartbeats 8000000 in
theorem mend_any {B a n cap : Nat} {L : List Cel} {zs : List Value} (w : World) (h : blkL w B L zs) (hr : a + n ≤ L.length) (hn : n ≤ 1000) :
    Calls Tryz.prog 104 #[.slice (some ⟨B, a * 6, none⟩) n cap] w fun e w' => e = .returned (.tuple #[]) ∧ blkL w' B (L.take a ++ mendL ((L.drop a).take n) ++ L.drop (a + n)) zs ∧ KeepW (fun k => k ≠ B) w w' := by
  have HE := Lib.hid (mix_end hr)
  have H0 : Hid (blkL w B (mixL L a n 0) zs) := by show blkL _ _ _ _; rw [mix_zero]; exact h
  have hlt := h.lt
  clear h
  go_enter Tryz.func104, Tryz.ntmps104
  go_wp2
  go_loopw [2] (fun s2 wr => ∃ i : Nat, s2 = .int .i64 (i : Int) ∧ i ≤ n ∧ Hid (blkL wr B (mixL L a n i) zs) ∧ Hid (KeepW (fun k => k ≠ B) w wr)) (fun s2 _ => n - (intOf s2).toNat)
  case atStart => exact ⟨0, rfl, Nat.zero_le _, H0, KeepW.refl _ _⟩
  case round =>
    obtain ⟨i, rfl, hi, HB, HK⟩ := hrel
    clear H0
    by_cases hin : i < n
    · obtain ⟨c, hc⟩ : ∃ c, ((L.drop a).take n)[i]? = some c := ⟨_, List.getElem?_eq_getElem (by rw [List.length_take, List.length_drop]; omega)⟩
      have hst := mix_step hr hin hc
      have hw := mend_ways hr hin hc
      have hcM : (mixL L a n i)[a + i]? = some c := by rw [mix_at hr hi i hin, if_neg (by omega)]; exact hc
      have hlenM := mix_len hr hi
      obtain ⟨x, hx⟩ : ∃ x, i + 1 = x := ⟨_, rfl⟩
      have hx1 : (i : Int) + 1 = (x : Int) := by omega
      obtain ⟨M, hM⟩ : ∃ M, mixL L a n i = M := ⟨_, rfl⟩
      rw [hM] at HB hst hw hcM hlenM
      rw [hx] at hst hw
      obtain ⟨z, hz⟩ : ∃ z, (L.drop a).take n = z := ⟨_, rfl⟩
      rw [hz] at hst hw
      obtain ⟨_, c1, _⟩ := HB.out.cells hcM
      rw [Nat.add_mul] at c1
      have i1 : (i : Int) < (n : Int) := by omega
      have i2 : (0 : Int) ≤ (i : Int) := by omega
      have i3 : (n : Int) ≤ 1000 := by omega
      have hxn : x ≤ n := by omega
      have HX := Lib.hid hx
      have HS : Hid (∀ w2, Below wr.heap.size wr w2 → blkL (set6 w2 B ((a + i) * 6) blkC) B (M.set (a + i) blkC) zs ∧ KeepW (fun k => k ≠ B) w (set6 w2 B ((a + i) * 6) blkC) ∧ cell6 w2 B ((a + i) * 6) c ∧ (∀ p, w2.frozen? ⟨B, p, none⟩ = false) ∧ B < w2.heap.size) := fun w2 hb => by
        have h2 := HB.out.below hb HB.out.lt
        exact ⟨h2.set (a + i) blkC (by rw [hlenM]; omega), (HK.out.trans (keep_below _ hb)).trans (set6_keep _ _ _ _ fun k => k rfl), h2.cells hcM, h2.frozen, h2.lt⟩
      have HBk := Lib.hid (fun w => blank_any w)
      have HC2 : Hid (∀ j d, M[a + j]? = some d → cell6 wr B (a * 6 + j * 6) d) := fun j d hd => by
        have := HB.out.cells hd
        rwa [Nat.add_mul] at this
      clear hc hcM hlenM hM hz hx
      rcases hw with ⟨hb, hw⟩ | ⟨hb, hw⟩
      · rw [hb, if_pos rfl] at hst
        have HST := Lib.hid hst
        clear hst hb
        rcases hw with ⟨h2, hn2⟩ | ⟨d, h2, hn2, hd, h0⟩ | ⟨h0, hi0⟩ | ⟨y, q, h0, hy, hq, h2⟩
        · have b2 : (c.2.1 == 2) = true := by simpa using h2
          have b3 : ((x : Int) == (n : Int)) = true := by rw [beq_iff_eq]; omega
          clear h2 hn2 HC2
          go_wp2_with fail
          go_fit (HBk.out _)
          rintro e w2 ⟨rfl, hb2⟩
          obtain ⟨k1, k2, ⟨e0, e1, e2, e3, e4, e5⟩, kf, kl⟩ := HS.out w2 hb2
          have K1 := Lib.hid k1
          have K2 := Lib.hid k2
          rw [Nat.add_mul] at e0 e1 e2 e3 e4 e5
          have f0 := kf (a * 6 + i * 6)
          have f1 := kf (a * 6 + i * 6 + 1)
          have f2 := kf (a * 6 + i * 6 + 2)
          have f3 := kf (a * 6 + i * 6 + 3)
          have f4 := kf (a * 6 + i * 6 + 4)
          have f5 := kf (a * 6 + i * 6 + 5)
          clear k1 k2 kf hb2 HS HBk
          go_wp2
          go_roundw
          case rel =>
            have q1 := K1.out
            have q2 := K2.out
            unfold set6 at q1 q2
            rw [Nat.add_mul] at q1 q2
            exact ⟨x, rfl, hxn, by show blkL _ _ _ _; rw [HST.out]; exact q1, q2⟩
          case measure => simp [intOf]; have := HX.out; omega
        · have b2 : (c.2.1 == 2) = true := by simpa using h2
          have b3 : ((x : Int) == (n : Int)) = false := by rw [beq_eq_false_iff_ne]; omega
          obtain ⟨_, d1, _⟩ := HC2.out _ d hd
          have b4 : (d.2.1 != 0) = true := by simpa using h0
          have i5 : (x : Int) < (n : Int) := by omega
          clear h2 hn2 HC2 hd h0
          go_wp2_with fail
          go_fit (HBk.out _)
          rintro e w2 ⟨rfl, hb2⟩
          obtain ⟨k1, k2, ⟨e0, e1, e2, e3, e4, e5⟩, kf, kl⟩ := HS.out w2 hb2
          have K1 := Lib.hid k1
          have K2 := Lib.hid k2
          rw [Nat.add_mul] at e0 e1 e2 e3 e4 e5
          have f0 := kf (a * 6 + i * 6)
          have f1 := kf (a * 6 + i * 6 + 1)
          have f2 := kf (a * 6 + i * 6 + 2)
          have f3 := kf (a * 6 + i * 6 + 3)
          have f4 := kf (a * 6 + i * 6 + 4)
          have f5 := kf (a * 6 + i * 6 + 5)
          clear k1 k2 kf hb2 HS HBk
          go_wp2
          go_roundw
          case rel =>
            have q1 := K1.out
            have q2 := K2.out
            unfold set6 at q1 q2
            rw [Nat.add_mul] at q1 q2
            exact ⟨x, rfl, hxn, by show blkL _ _ _ _; rw [HST.out]; exact q1, q2⟩
          case measure => simp [intOf]; have := HX.out; omega
        · have b2 : (c.2.1 == 2) = false := by rw [beq_eq_false_iff_ne]; omega
          have b5 : (c.2.1 == 0) = true := by simpa using h0
          have b6 : ((i : Int) == 0) = true := by rw [beq_iff_eq]; omega
          clear h0 hi0 HC2
          go_wp2_with fail
          go_fit (HBk.out _)
          rintro e w2 ⟨rfl, hb2⟩
          obtain ⟨k1, k2, ⟨e0, e1, e2, e3, e4, e5⟩, kf, kl⟩ := HS.out w2 hb2
          have K1 := Lib.hid k1
          have K2 := Lib.hid k2
          rw [Nat.add_mul] at e0 e1 e2 e3 e4 e5
          have f0 := kf (a * 6 + i * 6)
          have f1 := kf (a * 6 + i * 6 + 1)
          have f2 := kf (a * 6 + i * 6 + 2)
          have f3 := kf (a * 6 + i * 6 + 3)
          have f4 := kf (a * 6 + i * 6 + 4)
          have f5 := kf (a * 6 + i * 6 + 5)
          clear k1 k2 kf hb2 HS HBk
          go_wp2
          go_roundw
          case rel =>
            have q1 := K1.out
            have q2 := K2.out
            unfold set6 at q1 q2
            rw [Nat.add_mul] at q1 q2
            exact ⟨x, rfl, hxn, by show blkL _ _ _ _; rw [HST.out]; exact q1, q2⟩
          case measure => simp [intOf]; have := HX.out; omega
        · have b2 : (c.2.1 == 2) = false := by rw [beq_eq_false_iff_ne]; omega
          have b5 : (c.2.1 == 0) = true := by simpa using h0
          have b6 : ((i : Int) == 0) = false := by rw [beq_eq_false_iff_ne]; omega
          have hy1 : (i : Int) - 1 = (y : Int) := by omega
          obtain ⟨_, d1, _⟩ := HC2.out _ q hq
          have b7 : (q.2.1 != 2) = true := by simpa using h2
          have i6 : (1 : Int) ≤ (i : Int) := by omega
          have i7 : (y : Int) < (n : Int) := by omega
          clear h0 hy hq h2 HC2
          go_wp2_with fail
          go_fit (HBk.out _)
          rintro e w2 ⟨rfl, hb2⟩
          obtain ⟨k1, k2, ⟨e0, e1, e2, e3, e4, e5⟩, kf, kl⟩ := HS.out w2 hb2
          have K1 := Lib.hid k1
          have K2 := Lib.hid k2
          rw [Nat.add_mul] at e0 e1 e2 e3 e4 e5
          have f0 := kf (a * 6 + i * 6)
          have f1 := kf (a * 6 + i * 6 + 1)
          have f2 := kf (a * 6 + i * 6 + 2)
          have f3 := kf (a * 6 + i * 6 + 3)
          have f4 := kf (a * 6 + i * 6 + 4)
          have f5 := kf (a * 6 + i * 6 + 5)
          clear k1 k2 kf hb2 HS HBk
          go_wp2
          go_roundw
          case rel =>
            have q1 := K1.out
            have q2 := K2.out
            unfold set6 at q1 q2
            rw [Nat.add_mul] at q1 q2
            exact ⟨x, rfl, hxn, by show blkL _ _ _ _; rw [HST.out]; exact q1, q2⟩
          case measure => simp [intOf]; have := HX.out; omega
      · rw [hb, if_neg (by decide)] at hst
        have HST := Lib.hid hst
        clear hst hb HS HBk
        rcases hw with ⟨d, h2, hn2, hd, h0⟩ | ⟨y, q, h0, hy, hq, h2⟩ | ⟨h2, h0⟩
        · have b2 : (c.2.1 == 2) = true := by simpa using h2
          have b5 : (c.2.1 == 0) = false := by rw [beq_eq_false_iff_ne]; omega
          have b3 : ((x : Int) == (n : Int)) = false := by rw [beq_eq_false_iff_ne]; omega
          obtain ⟨_, d1, _⟩ := HC2.out _ d hd
          have b4 : (d.2.1 != 0) = false := by simpa using h0
          have i5 : (x : Int) < (n : Int) := by omega
          clear h2 hn2 HC2 hd h0
          go_wp2
          go_roundw
          case rel => exact ⟨x, rfl, hxn, by show blkL _ _ _ _; rw [HST.out]; exact HB.out, HK.out⟩
          case measure => simp [intOf]; have := HX.out; omega
        · have b2 : (c.2.1 == 2) = false := by rw [beq_eq_false_iff_ne]; omega
          have b5 : (c.2.1 == 0) = true := by simpa using h0
          have b6 : ((i : Int) == 0) = false := by rw [beq_eq_false_iff_ne]; omega
          have hy1 : (i : Int) - 1 = (y : Int) := by omega
          obtain ⟨_, d1, _⟩ := HC2.out _ q hq
          have b7 : (q.2.1 != 2) = false := by simpa using h2
          have i6 : (1 : Int) ≤ (i : Int) := by omega
          have i7 : (y : Int) < (n : Int) := by omega
          clear h0 hy hq h2 HC2
          go_wp2
          go_roundw
          case rel => exact ⟨x, rfl, hxn, by show blkL _ _ _ _; rw [HST.out]; exact HB.out, HK.out⟩
          case measure => simp [intOf]; have := HX.out; omega
        · have b2 : (c.2.1 == 2) = false := by rw [beq_eq_false_iff_ne]; omega
          have b5 : (c.2.1 == 0) = false := by rw [beq_eq_false_iff_ne]; omega
          clear h2 h0 HC2
          go_wp2
          go_roundw
          case rel => exact ⟨x, rfl, hxn, by show blkL _ _ _ _; rw [HST.out]; exact HB.out, HK.out⟩
          case measure => simp [intOf]; have := HX.out; omega
    · obtain rfl : i = n := by omega
      go_wp2
      go_end0
      exact ⟨rfl, by rw [← HE.out]; exact HB.out, HK.out⟩
end Go.Proofs.YtpkjaallhhjleaaGreatDoor
