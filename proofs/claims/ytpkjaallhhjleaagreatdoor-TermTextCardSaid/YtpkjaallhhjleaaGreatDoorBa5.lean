/-
  Texts of this proof, one behind the other; each begins with its own remark.
-/
import Derived.Lib.ItoaNum
import Derived.Test.YtpkjaallhhjleaaGreatDoorBa1
import Derived.Test.YtpkjaallhhjleaaGreatDoorBa4
/-
  What lies in memory where a frame lies: its cells, row by row; that they stay while their block stays; the blank that the program keeps. No call is walked here.
-/
namespace Go.Proofs.YtpkjaallhhjleaaGreatDoor
open Go.RowKit

theorem Tryz.infoCell : (Tryz.prog.info? 82).map (fun i => (i.zero, i.size, i.bytes)) = some (some (.agg #[.int .i32 0, .int .i64 0, .int .i64 0, .bool false, .bool false, .bool false]), 6, 32) := by kernel_rfl

def celV (c : Cel) : List Value := [.int .i32 c.1, .int .i64 c.2.1, .int .i64 c.2.2.1, .bool c.2.2.2.1, .bool c.2.2.2.2.1, .bool c.2.2.2.2.2]
def celC (l : List Cel) : List Value := l.flatMap celV
theorem celV_len (c : Cel) : (celV c).length = 6 := rfl
theorem celC_cons (c : Cel) (l : List Cel) : celC (c :: l) = celV c ++ celC l := by unfold celC; rw [List.flatMap_cons]
theorem celC_len (l : List Cel) : (celC l).length = l.length * 6 := by
  induction l with
  | nil => rfl
  | cons c l ih => rw [celC_cons, List.length_append, ih, List.length_cons, celV_len]; omega
theorem celC_app (a b : List Cel) : celC (a ++ b) = celC a ++ celC b := by unfold celC; rw [List.flatMap_append]
theorem celC_one (c : Cel) : celC [c] = celV c := by rw [celC_cons]; simp [celC]
theorem celC_drop (l : List Cel) (i : Nat) : (celC l).drop (i * 6) = celC (l.drop i) := by
  induction l generalizing i with
  | nil => simp [celC]
  | cons c l ih =>
    cases i with
    | zero => simp
    | succ i => rw [celC_cons, List.drop_succ_cons, ← ih i, show (i + 1) * 6 = 6 + i * 6 by omega, ← List.drop_drop, show (6 : Nat) = (celV c).length from rfl, List.drop_left]
theorem celC_take (l : List Cel) (i : Nat) : (celC l).take (i * 6) = celC (l.take i) := by
  induction l generalizing i with
  | nil => simp [celC]
  | cons c l ih =>
    cases i with
    | zero => simp [celC]
    | succ i => rw [celC_cons, List.take_succ_cons, celC_cons, ← ih i, show (i + 1) * 6 = (celV c).length + i * 6 by rw [celV_len]; omega, List.take_length_add_append]
theorem celC_cell (l : List Cel) : ∀ u ∈ celC l, u.oneCell' = true := by
  intro u hu
  unfold celC at hu
  obtain ⟨p, _, hp⟩ := List.mem_flatMap.1 hu
  unfold celV at hp
  simp only [List.mem_cons, List.not_mem_nil, or_false] at hp
  rcases hp with rfl | rfl | rfl | rfl | rfl | rfl <;> rfl
theorem celC_at (l : List Cel) (i : Nat) (c : Cel) (h : l[i]? = some c) (k : Nat) (hk : k < 6) : (celC l)[i * 6 + k]? = (celV c)[k]? := by
  have hlt := (List.getElem?_eq_some_iff.1 h).1
  have e : (celC l).drop (i * 6) = celV c ++ celC (l.drop (i + 1)) := by
    rw [celC_drop, List.drop_eq_getElem_cons hlt, (List.getElem?_eq_some_iff.1 h).2, celC_cons]
  have := congrArg (fun l : List Value => l[k]?) e
  simp only [List.getElem?_drop] at this
  rw [this, List.getElem?_append_left (by rw [celV_len]; exact hk)]
theorem celC_inj : ∀ (l m : List Cel), celC l = celC m → l = m
  | [], [], _ => rfl
  | [], d :: m, h => by rw [celC_cons] at h; simp [celC, celV] at h
  | c :: l, [], h => by rw [celC_cons] at h; simp [celC, celV] at h
  | c :: l, d :: m, h => by
    rw [celC_cons, celC_cons] at h
    obtain ⟨h1, h2⟩ := List.append_inj h rfl
    simp [celV] at h1
    obtain ⟨a1, a2, a3, a4, a5, a6⟩ := h1
    rw [celC_inj l m h2, show c = d from Prod.ext a1 (Prod.ext a2 (Prod.ext a3 (Prod.ext a4 (Prod.ext a5 a6))))]

/-- A slice of cells. -/
def CelsW (ok : Nat → Prop) (w : World) (v : Value) (l : List Cel) : Prop := RowV ok w v l.length (celC l)
abbrev AnyB : Nat → Prop := fun _ => True
theorem CelsW.keep {ok : Nat → Prop} {w w' : World} {v : Value} {l : List Cel} (h : CelsW ok w v l) (hk : KeepW ok w w') : CelsW ok w' v l := RowV.keep h hk
theorem CelsW.below {w w' : World} {ok : Nat → Prop} {v : Value} {l : List Cel} (h : CelsW ok w v l) (hb : Below w.heap.size w w') : CelsW ok w' v l := RowV.keep h (keep_below ok hb)
/-- The six cells of one. -/
def cell6 (w : World) (g p : Nat) (c : Cel) : Prop :=
  w.cell? ⟨g, p, none⟩ = some (.int .i32 c.1) ∧ w.cell? ⟨g, p + 1, none⟩ = some (.int .i64 c.2.1) ∧ w.cell? ⟨g, p + 2, none⟩ = some (.int .i64 c.2.2.1) ∧
    w.cell? ⟨g, p + 3, none⟩ = some (.bool c.2.2.2.1) ∧ w.cell? ⟨g, p + 4, none⟩ = some (.bool c.2.2.2.2.1) ∧ w.cell? ⟨g, p + 5, none⟩ = some (.bool c.2.2.2.2.2)
theorem cell6.below {w w' : World} {n g p : Nat} {c : Cel} (h : cell6 w g p c) (hb : Below n w w') (hg : g < n) : cell6 w' g p c := by
  obtain ⟨h0, h1, h2, h3, h4, h5⟩ := h
  exact ⟨by rw [hb.cell (p := ⟨g, p, none⟩) hg]; exact h0, by rw [hb.cell (p := ⟨g, p + 1, none⟩) hg]; exact h1, by rw [hb.cell (p := ⟨g, p + 2, none⟩) hg]; exact h2,
    by rw [hb.cell (p := ⟨g, p + 3, none⟩) hg]; exact h3, by rw [hb.cell (p := ⟨g, p + 4, none⟩) hg]; exact h4, by rw [hb.cell (p := ⟨g, p + 5, none⟩) hg]; exact h5⟩
theorem cell6.lt {w : World} {g p : Nat} {c : Cel} (h : cell6 w g p c) : g < w.heap.size := rlt (p := ⟨g, p, none⟩) h.1
theorem CelsW.at_ {ok : Nat → Prop} {w : World} {v : Value} {l : List Cel} {i : Nat} {c : Cel} (h : CelsW ok w v l) (hc : l[i]? = some c) :
    ∃ g o cap, v = .slice (some ⟨g, o, none⟩) l.length cap ∧ l.length ≤ cap ∧ ok g ∧ ∀ i c, l[i]? = some c → cell6 w g (o + i * 6) c := by
  obtain ⟨g, o, cap, hv, hn, hg, hcell⟩ := RowV.at_ h ((celC_at l i c hc 0 (by omega)).trans rfl)
  refine ⟨g, o, cap, hv, hn, hg, fun i c hc => ?_⟩
  have a := fun k hk x (hx : (celV c)[k]? = some x) => hcell (i * 6 + k) x ((celC_at l i c hc k hk).trans hx)
  simp only [← Nat.add_assoc] at a
  exact ⟨a 0 (by omega) _ rfl, a 1 (by omega) _ rfl, a 2 (by omega) _ rfl, a 3 (by omega) _ rfl, a 4 (by omega) _ rfl, a 5 (by omega) _ rfl⟩
theorem CelsW.get {ok : Nat → Prop} {w : World} {g o n cap : Nat} {l : List Cel} {i : Nat} {c : Cel} (h : CelsW ok w (.slice (some ⟨g, o, none⟩) n cap) l) (hc : l[i]? = some c) : cell6 w g (o + i * 6) c := by
  obtain ⟨g', o', cap', he, _, _, H⟩ := h.at_ hc
  cases he
  exact H i c hc

/-- The blank that the program keeps. -/
def BlankW (w : World) : Prop := 0 < w.heap.size ∧ cell6 w 0 0 blkC
theorem BlankW.below {w w' : World} (h : BlankW w) (hb : Below w.heap.size w w') : BlankW w' := ⟨Nat.lt_of_lt_of_le h.1 hb.size, h.2.below hb h.1⟩
/-- All that the program's text lays ahead of the call. -/
def LaidW (w : World) : Prop := TabW w ∧ BlankW w
theorem LaidW.below {w w' : World} (h : LaidW w) (hb : Below w.heap.size w w') : LaidW w' := ⟨h.1.below hb, h.2.below hb⟩

/-- A frame as a value: its cells lie elsewhere. -/
def FrameW (ok : Nat → Prop) (w : World) (v : Value) (f : Frm) : Prop :=
  ∃ ao n cap, v = .agg #[.int .i64 f.rows, .int .i64 f.cols, .slice ao n cap, .int .i64 f.row, .int .i64 f.col] ∧ n = f.cells.length ∧ n ≤ cap ∧ CelsW ok w (.slice ao n cap) f.cells
theorem FrameW.below {w w' : World} {ok : Nat → Prop} {v : Value} {f : Frm} (h : FrameW ok w v f) (hb : Below w.heap.size w w') : FrameW ok w' v f := by
  obtain ⟨ao, n, cap, hv, hn, hc, hs⟩ := h
  exact ⟨ao, n, cap, hv, hn, hc, hs.below hb⟩
theorem FrameW.zero (ok : Nat → Prop) (w : World) : FrameW ok w (.agg #[.int .i64 0, .int .i64 0, .slice none 0 0, .int .i64 0, .int .i64 0]) zeroF :=
  ⟨none, 0, 0, rfl, rfl, Nat.le_refl _, RowV.nil ok w⟩
end Go.Proofs.YtpkjaallhhjleaaGreatDoor

/-
  A box of a frame, a box of one value: what lies in it, what a store makes of it. No call is walked here.
-/
namespace Go.Proofs.YtpkjaallhhjleaaGreatDoor
open Go.RowKit

/-- A box of a frame. -/
def frB (W : World) (B : Nat) (r c : Int) (v : Value) (a b : Int) : Prop := W.heap[B]? = some (.cells #[.int .i64 r, .int .i64 c, v, .int .i64 a, .int .i64 b] 35 (0, 0))
section
variable {W : World} {B : Nat} {r c a b : Int} {v : Value}
theorem frB.lt (h : frB W B r c v a b) : B < W.heap.size := (Array.getElem?_eq_some_iff.1 h).1
theorem frB.cells (h : frB W B r c v a b) : (W.cell? ⟨B, 0, none⟩ = some (.int .i64 r) ∧ W.cell? ⟨B, 1, none⟩ = some (.int .i64 c) ∧ W.cell? ⟨B, 2, none⟩ = some v ∧ W.cell? ⟨B, 3, none⟩ = some (.int .i64 a) ∧ W.cell? ⟨B, 4, none⟩ = some (.int .i64 b)) ∧
    (W.frozen? ⟨B, 0, none⟩ = false ∧ W.frozen? ⟨B, 1, none⟩ = false ∧ W.frozen? ⟨B, 2, none⟩ = false ∧ W.frozen? ⟨B, 3, none⟩ = false ∧ W.frozen? ⟨B, 4, none⟩ = false) := by
  unfold frB at h
  refine ⟨⟨?_, ?_, ?_, ?_, ?_⟩, ?_, ?_, ?_, ?_, ?_⟩ <;> first | (unfold World.cell?; rw [h]; rfl) | (unfold World.frozen?; rw [h]; simp)
theorem frB.keep {W' : World} {ok : Nat → Prop} (h : frB W B r c v a b) (hk : KeepW ok W W') (hB : ok B) : frB W' B r c v a b := (hk.same B h.lt hB).trans h
theorem frB.below {W' : World} {n : Nat} (h : frB W B r c v a b) (hb : Below n W W') (hB : B < n) : frB W' B r c v a b := (hb.block B hB).trans h
theorem frB.new (w : World) : frB (w.alloc (.cells #[.int .i64 r, .int .i64 c, v, .int .i64 a, .int .i64 b] 35)) w.heap.size r c v a b := heap_alloc_new w _
theorem frB.set (h : frB W B r c v a b) (i : Nat) (u : Value) : (W.setCell ⟨B, i, none⟩ u).heap[B]? = some (.cells (#[.int .i64 r, .int .i64 c, v, .int .i64 a, .int .i64 b].modify i fun _ => u) 35 (0, 0)) := by
  unfold frB at h
  show (W.heap.modify B _)[B]? = _
  have hlt := (Array.getElem?_eq_some_iff.1 h).1
  obtain ⟨_, he⟩ := Array.getElem?_eq_some_iff.1 h
  rw [Array.getElem?_eq_getElem (by rw [Array.size_modify]; exact hlt), Array.getElem_modify_self, he]
  rfl
theorem frB.set0 (h : frB W B r c v a b) (x : Int) : frB (W.setCell ⟨B, 0, none⟩ (.int .i64 x)) B x c v a b := h.set 0 _
theorem frB.set1 (h : frB W B r c v a b) (x : Int) : frB (W.setCell ⟨B, 1, none⟩ (.int .i64 x)) B r x v a b := h.set 1 _
theorem frB.set2 (h : frB W B r c v a b) (u : Value) : frB (W.setCell ⟨B, 2, none⟩ u) B r c u a b := h.set 2 _
theorem frB.set3 (h : frB W B r c v a b) (x : Int) : frB (W.setCell ⟨B, 3, none⟩ (.int .i64 x)) B r c v x b := h.set 3 _
theorem frB.set4 (h : frB W B r c v a b) (x : Int) : frB (W.setCell ⟨B, 4, none⟩ (.int .i64 x)) B r c v a x := h.set 4 _
end
/-- The five stores of a frame. -/
def set5 (W : World) (B : Nat) (r c : Int) (v : Value) (a b : Int) : World :=
  ((((W.setCell ⟨B, 0, none⟩ (.int .i64 r)).setCell ⟨B, 1, none⟩ (.int .i64 c)).setCell ⟨B, 2, none⟩ v).setCell ⟨B, 3, none⟩ (.int .i64 a)).setCell ⟨B, 4, none⟩ (.int .i64 b)
theorem frB.all {W : World} {B : Nat} {r c a b r' c' a' b' : Int} {v v' : Value} (h : frB W B r c v a b) : frB (set5 W B r' c' v' a' b') B r' c' v' a' b' := ((((h.set0 _).set1 _).set2 _).set3 _).set4 _
theorem set5_keep {ok : Nat → Prop} (W : World) (B : Nat) (r c : Int) (v : Value) (a b : Int) (hB : ¬ ok B) : KeepW ok W (set5 W B r c v a b) :=
  ((((keep_set _ _ _ _ _ hB).trans (keep_set _ _ _ _ _ hB)).trans (keep_set _ _ _ _ _ hB)).trans (keep_set _ _ _ _ _ hB)).trans (keep_set _ _ _ _ _ hB)

/-- A box of one value. -/
def boxW (W : World) (B : Nat) (v : Value) (T : TypeId) : Prop := W.heap[B]? = some (.cells #[v] T (0, 0))
theorem boxW.lt {W : World} {B : Nat} {v : Value} {T : TypeId} (h : boxW W B v T) : B < W.heap.size := (Array.getElem?_eq_some_iff.1 h).1
theorem boxW.cell {W : World} {B : Nat} {v : Value} {T : TypeId} (h : boxW W B v T) : W.cell? ⟨B, 0, none⟩ = some v ∧ W.frozen? ⟨B, 0, none⟩ = false := by
  unfold boxW at h
  exact ⟨by unfold World.cell?; rw [h]; rfl, by unfold World.frozen?; rw [h]; simp⟩
theorem boxW.keep {W W' : World} {ok : Nat → Prop} {B : Nat} {v : Value} {T : TypeId} (h : boxW W B v T) (hk : KeepW ok W W') (hB : ok B) : boxW W' B v T := (hk.same B h.lt hB).trans h
theorem boxW.below {W W' : World} {n B : Nat} {v : Value} {T : TypeId} (h : boxW W B v T) (hb : Below n W W') (hB : B < n) : boxW W' B v T := (hb.block B hB).trans h
theorem boxW.new (w : World) (v : Value) (T : TypeId) : boxW (w.alloc (.cells #[v] T)) w.heap.size v T := heap_alloc_new w _
theorem boxW.set {W : World} {B : Nat} {v u : Value} {T : TypeId} (h : boxW W B v T) : boxW (W.setCell ⟨B, 0, none⟩ u) B u T := by
  unfold boxW at h ⊢
  show (W.heap.modify B _)[B]? = _
  have hlt := (Array.getElem?_eq_some_iff.1 h).1
  obtain ⟨_, he⟩ := Array.getElem?_eq_some_iff.1 h
  rw [Array.getElem?_eq_getElem (by rw [Array.size_modify]; exact hlt), Array.getElem_modify_self, he]
  rfl
end Go.Proofs.YtpkjaallhhjleaaGreatDoor

/-
  A block of cells of a frame, known whole: what a store of one cell makes of it. No call is walked here.
-/
namespace Go.Proofs.YtpkjaallhhjleaaGreatDoor
open Go.RowKit

/-- A block that holds these cells, and behind them what an append left spare. -/
def blkL (w : World) (B : Nat) (L : List Cel) (zs : List Value) : Prop := w.heap[B]? = some (.cells (celC L ++ zs).toArray 82 (0, 0))
/-- The six stores of one cell. -/
def set6 (w : World) (B p : Nat) (c : Cel) : World :=
  (((((w.setCell ⟨B, p, none⟩ (.int .i32 c.1)).setCell ⟨B, p + 1, none⟩ (.int .i64 c.2.1)).setCell ⟨B, p + 2, none⟩ (.int .i64 c.2.2.1)).setCell ⟨B, p + 3, none⟩ (.bool c.2.2.2.1)).setCell ⟨B, p + 4, none⟩ (.bool c.2.2.2.2.1)).setCell ⟨B, p + 5, none⟩ (.bool c.2.2.2.2.2)

theorem blkL.lt {w : World} {B : Nat} {L : List Cel} {zs : List Value} (h : blkL w B L zs) : B < w.heap.size := (Array.getElem?_eq_some_iff.1 h).1
theorem heap_set {w : World} {B p : Nat} {v : Value} {cs : Array Value} {T : TypeId} (h : w.heap[B]? = some (.cells cs T (0, 0))) : (w.setCell ⟨B, p, none⟩ v).heap[B]? = some (.cells (cs.modify p fun _ => v) T (0, 0)) := by
  show (w.heap.modify B _)[B]? = _
  have hlt := (Array.getElem?_eq_some_iff.1 h).1
  obtain ⟨_, he⟩ := Array.getElem?_eq_some_iff.1 h
  rw [Array.getElem?_eq_getElem (by rw [Array.size_modify]; exact hlt), Array.getElem_modify_self, he]
  rfl
theorem set_six (a b : List Value) (c d : Cel) : ((((((a ++ celV d ++ b).set a.length (.int .i32 c.1)).set (a.length + 1) (.int .i64 c.2.1)).set (a.length + 2) (.int .i64 c.2.2.1)).set (a.length + 3) (.bool c.2.2.2.1)).set (a.length + 4) (.bool c.2.2.2.2.1)).set (a.length + 5) (.bool c.2.2.2.2.2) = a ++ celV c ++ b := by
  simp only [List.append_assoc]
  rw [List.set_append_right _ _ (by omega), List.set_append_right _ _ (by omega), List.set_append_right _ _ (by omega), List.set_append_right _ _ (by omega), List.set_append_right _ _ (by omega), List.set_append_right _ _ (by omega)]
  simp [celV, show ∀ k, a.length + k - a.length = k by omega]
theorem celC_set (L : List Cel) (zs : List Value) (i : Nat) (c : Cel) (hi : i < L.length) :
    (((((((celC L ++ zs).set (i * 6) (.int .i32 c.1)).set (i * 6 + 1) (.int .i64 c.2.1)).set (i * 6 + 2) (.int .i64 c.2.2.1)).set (i * 6 + 3) (.bool c.2.2.2.1)).set (i * 6 + 4) (.bool c.2.2.2.2.1)).set (i * 6 + 5) (.bool c.2.2.2.2.2)) = celC (L.set i c) ++ zs := by
  have e : celC L ++ zs = celC (L.take i) ++ celV (L[i]'hi) ++ (celC (L.drop (i + 1)) ++ zs) := by
    conv => lhs; rw [← List.take_append_drop i L, List.drop_eq_getElem_cons hi, celC_app, celC_cons]
    simp [List.append_assoc]
  have e2 : celC (L.set i c) ++ zs = celC (L.take i) ++ celV c ++ (celC (L.drop (i + 1)) ++ zs) := by
    rw [List.set_eq_take_append_cons_drop, if_pos hi, celC_app, celC_cons]
    simp [List.append_assoc]
  have hl : (celC (L.take i)).length = i * 6 := by rw [celC_len, List.length_take]; omega
  rw [e, e2, ← hl]
  exact set_six _ _ c _
theorem mod_set (cs : List Value) (p : Nat) (v : Value) : (cs.toArray.modify p fun _ => v) = (cs.set p v).toArray := by
  apply Array.ext'
  rw [Array.toList_modify]
  simp
  exact List.modify_eq_set ..
theorem blkL.set {w : World} {B : Nat} {L : List Cel} {zs : List Value} (h : blkL w B L zs) (i : Nat) (c : Cel) (hi : i < L.length) : blkL (set6 w B (i * 6) c) B (L.set i c) zs := by
  unfold blkL at h ⊢
  rw [← celC_set L zs i c hi]
  unfold set6
  simp only [← mod_set]
  exact heap_set (heap_set (heap_set (heap_set (heap_set (heap_set h)))))
theorem set6_keep {ok : Nat → Prop} (w : World) (B p : Nat) (c : Cel) (hB : ¬ ok B) : KeepW ok w (set6 w B p c) :=
  (((((keep_set _ _ _ _ _ hB).trans (keep_set _ _ _ _ _ hB)).trans (keep_set _ _ _ _ _ hB)).trans (keep_set _ _ _ _ _ hB)).trans (keep_set _ _ _ _ _ hB)).trans (keep_set _ _ _ _ _ hB)
theorem blkL.cells {w : World} {B : Nat} {L : List Cel} {zs : List Value} (h : blkL w B L zs) {i : Nat} {c : Cel} (hc : L[i]? = some c) : cell6 w B (i * 6) c := by
  have a := fun k (hk : k < 6) => celC_at L i c hc k hk
  have hlt : i * 6 + 6 ≤ (celC L).length := by
    have := (List.getElem?_eq_some_iff.1 hc).1
    rw [celC_len]; omega
  have b : ∀ k x, k < 6 → (celV c)[k]? = some x → w.cell? ⟨B, i * 6 + k, none⟩ = some x := fun k x hk hx => by
    rw [cell_of_row _ _ _ _ _ (0, 0) h, List.getElem?_toArray, List.getElem?_append_left (by omega), a k hk]
    exact hx
  exact ⟨b 0 _ (by omega) rfl, b 1 _ (by omega) rfl, b 2 _ (by omega) rfl, b 3 _ (by omega) rfl, b 4 _ (by omega) rfl, b 5 _ (by omega) rfl⟩
theorem blkL.frozen {w : World} {B : Nat} {L : List Cel} {zs : List Value} (h : blkL w B L zs) (p : Nat) : w.frozen? ⟨B, p, none⟩ = false := by
  unfold World.frozen?
  unfold blkL at h
  rw [h]; simp
theorem blkL.keep {w w' : World} {ok : Nat → Prop} {B : Nat} {L : List Cel} {zs : List Value} (h : blkL w B L zs) (hk : KeepW ok w w') (hB : ok B) : blkL w' B L zs := (hk.same B h.lt hB).trans h
theorem blkL.below {w w' : World} {n B : Nat} {L : List Cel} {zs : List Value} (h : blkL w B L zs) (hb : Below n w w') (hB : B < n) : blkL w' B L zs := (hb.block B hB).trans h
/-- The whole block as a slice; a part of it. -/
theorem blkL.slice {w : World} {ok : Nat → Prop} {B n cap : Nat} {L : List Cel} {zs : List Value} (h : blkL w B L zs) (hB : ok B) (hn : L.length = n) (hc : n ≤ cap) : CelsW ok w (.slice (some ⟨B, 0, none⟩) n cap) L := by
  unfold CelsW
  rw [hn]
  refine ⟨_, cap, rfl, hc, fun a e => by cases e; exact hB, fun j u hu => ⟨B, 0, rfl, ?_⟩⟩
  rw [Nat.zero_add, cell_of_row _ _ _ _ _ (0, 0) h, List.getElem?_toArray, List.getElem?_append_left (List.getElem?_eq_some_iff.1 hu).1]
  exact hu
theorem blkL.part {w : World} {ok : Nat → Prop} {B a n cap : Nat} {L : List Cel} {zs : List Value} (h : blkL w B L zs) (hB : ok B) (hn : a + n ≤ L.length) (hc : n ≤ cap) : CelsW ok w (.slice (some ⟨B, a * 6, none⟩) n cap) ((L.drop a).take n) := by
  have hl : ((L.drop a).take n).length = n := by rw [List.length_take, List.length_drop]; omega
  unfold CelsW
  rw [hl]
  refine ⟨_, cap, rfl, hc, fun a e => by cases e; exact hB, fun j u hu => ⟨B, a * 6, rfl, ?_⟩⟩
  rw [← celC_take, ← celC_drop, List.getElem?_take] at hu
  split at hu
  · rw [List.getElem?_drop] at hu
    rw [cell_of_row _ _ _ _ _ (0, 0) h, List.getElem?_toArray, List.getElem?_append_left (List.getElem?_eq_some_iff.1 hu).1]
    exact hu
  · cases hu
end Go.Proofs.YtpkjaallhhjleaaGreatDoor

/-
  Plain facts on what bytes ask of a terminal: where a parser stands, what one more byte asks for. Nothing of the program.
-/
namespace Go.Proofs.YtpkjaallhhjleaaGreatDoor
open Go.RowKit

/-- What is asked for: its kind, a rune, numbers, a last byte. -/
abbrev Ac := Nat × Nat × List Nat × Nat
def badA : Ac := (5, 0, [], 0)

/-- Where one stands: a sequence has parts ahead and a last one, each with a number or none. -/
inductive Ps where
  | zero
  | start (s : ByteArray)
  | esc
  | seq (pre : List (Option Nat)) (x : Option Nat)
  | bad

def oneS (b : Nat) : ByteArray := ⟨#[UInt8.ofNat b]⟩
def loB (b : Nat) : Nat := if b = 224 then 160 else if b = 240 then 144 else 128
def hiB (b : Nat) : Nat := if b = 237 then 159 else if b = 244 then 143 else 191
/-- A beginning of a rune: so many bytes of one, and not all. -/
def Beg (s : ByteArray) : Prop :=
  (s.size = 1 ∧ 194 ≤ bt s 0 ∧ bt s 0 ≤ 244) ∨ (s.size = 2 ∧ 224 ≤ bt s 0 ∧ bt s 0 ≤ 244 ∧ loB (bt s 0) ≤ bt s 1 ∧ bt s 1 ≤ hiB (bt s 0)) ∨
  (s.size = 3 ∧ 240 ≤ bt s 0 ∧ bt s 0 ≤ 244 ∧ loB (bt s 0) ≤ bt s 1 ∧ bt s 1 ≤ hiB (bt s 0) ∧ 128 ≤ bt s 2 ∧ bt s 2 ≤ 191)
instance begDec (s : ByteArray) : Decidable (Beg s) := by unfold Beg; infer_instance
def begB (s : ByteArray) : Bool := decide (Beg s)

def firstN (b : Nat) : Ps × List Ac :=
  if b = 27 then (.esc, []) else if b < 32 ∨ b = 127 then (.zero, [(2, b, [], 0)]) else if b < 128 then (.zero, [(1, b, [], 0)]) else if begB (oneS b) = true then (.start (oneS b), []) else (.zero, [badA])
def startN (s : ByteArray) (b : Nat) : Ps × List Ac :=
  if okAt (s ++ oneS b) 0 = true then (.zero, [(1, (Utf8.decode (s ++ oneS b) 0).1, [], 0)]) else if begB (s ++ oneS b) = true then (.start (s ++ oneS b), []) else ((firstN b).1, badA :: (firstN b).2)
def withinN (p : Ps) (b : Nat) : Ps × List Ac := if b = 27 then (.esc, [badA]) else if b = 24 ∨ b = 26 then (.zero, [badA]) else (p, [(2, b, [], 0)])
def escN (b : Nat) : Ps × List Ac := if b < 32 then withinN .esc b else if b = 91 then (.seq [] none, []) else if 48 ≤ b ∧ b < 127 then (.zero, [(4, 0, [], b)]) else (.zero, [badA])
def capN (n d : Nat) : Nat := min (10 * n + d) 9999
def stepN (pre : List (Option Nat)) (x : Option Nat) (b : Nat) : Ps :=
  if b = 59 ∧ pre.length < 15 then .seq (pre ++ [x]) none else if 48 ≤ b ∧ b ≤ 57 then .seq pre (some (capN (x.getD 0) (b - 48))) else .bad
def nums (pre : List (Option Nat)) (x : Option Nat) : List Nat := (pre ++ [x]).map fun y => y.getD 0
def paramsN (pre : List (Option Nat)) (x : Option Nat) : List Nat := if pre = [] ∧ x = none then [] else nums pre x
def seqN (pre : List (Option Nat)) (x : Option Nat) (b : Nat) : Ps × List Ac :=
  if b < 32 then withinN (.seq pre x) b else if b < 64 then (stepN pre x b, []) else if b < 127 then (.zero, [(3, 0, paramsN pre x, b)]) else (.zero, [badA])
def wrongN (b : Nat) : Ps × List Ac := if b < 32 then withinN .bad b else if b < 64 then (.bad, []) else (.zero, [badA])
def feedN : Ps → Nat → Ps × List Ac
  | .zero, b => firstN b
  | .start s, b => startN s b
  | .esc, b => escN b
  | .seq pre x, b => seqN pre x b
  | .bad, b => wrongN b

/-- A state that may be. -/
def OkP : Ps → Prop
  | .start s => Beg s
  | .seq pre x => pre.length ≤ 15 ∧ (∀ n, some n ∈ pre → n ≤ 9999) ∧ ∀ n, x = some n → n ≤ 9999
  | _ => True

theorem ok_first (b : Nat) : OkP (firstN b).1 := by
  unfold firstN
  repeat' split
  all_goals first | exact trivial | (rename_i h; exact (of_decide_eq_true h : Beg _))
theorem ok_within (p : Ps) (b : Nat) (h : OkP p) : OkP (withinN p b).1 := by
  unfold withinN
  repeat' split
  all_goals first | exact trivial | exact h
theorem ok_step (pre : List (Option Nat)) (x : Option Nat) (b : Nat) (h : OkP (.seq pre x)) : OkP (stepN pre x b) := by
  obtain ⟨h1, h2, h3⟩ := h
  unfold stepN
  repeat' split
  · rename_i hb
    refine ⟨by rw [List.length_append]; simp; omega, fun n hn => ?_, fun n hn => by cases hn⟩
    rcases List.mem_append.1 hn with hn | hn
    · exact h2 n hn
    · exact h3 n (by simpa using (List.mem_singleton.1 hn).symm)
  · exact ⟨h1, h2, fun n hn => by cases hn; unfold capN; omega⟩
  · exact trivial
theorem ok_feed (p : Ps) (b : Nat) (h : OkP p) : OkP (feedN p b).1 := by
  cases p with
  | zero => exact ok_first b
  | start s =>
    show OkP (startN s b).1
    unfold startN
    repeat' split
    · exact trivial
    · rename_i h; exact (of_decide_eq_true h : Beg _)
    · exact ok_first b
  | esc =>
    show OkP (escN b).1
    unfold escN
    repeat' split
    · exact ok_within _ b trivial
    · exact ⟨Nat.zero_le _, fun n h => by simp at h, fun n h => by cases h⟩
    · exact trivial
    · exact trivial
  | seq pre x =>
    show OkP (seqN pre x b).1
    unfold seqN
    repeat' split
    · exact ok_within _ b h
    · exact ok_step pre x b h
    · exact trivial
    · exact trivial
  | bad =>
    show OkP (wrongN b).1
    unfold wrongN
    repeat' split
    · exact ok_within _ b trivial
    · exact trivial
    · exact trivial

theorem bt_one (b : Nat) (h : b < 256) : bt (oneS b) 0 = b := by
  show (UInt8.ofNat b).toNat = b
  rw [UInt8.toNat_ofNat']; omega
theorem one_size (b : Nat) : (oneS b).size = 1 := rfl
/-- Of a beginning alone no rune is read. -/
theorem beg_none (s : ByteArray) (h : Beg s) : Utf8.decode s 0 = (65533, 1) := by
  rw [dec_bt, Nat.sub_zero]
  rcases h with ⟨h0, h1, h2⟩ | ⟨h0, h1, h2, h3, h4⟩ | ⟨h0, h1, h2, h3, h4, h5, h6⟩
  all_goals
    rw [h0]
    unfold Lib.decodeN
    repeat' split
    all_goals first | rfl | (exfalso; omega)
/-- A rune that is read of a beginning and one more byte is all of it. -/
theorem beg_whole (s : ByteArray) (b : Nat) (h : Beg s) (ho : okAt (s ++ oneS b) 0 = true) : (Utf8.decode (s ++ oneS b) 0).2 = (s ++ oneS b).size := by
  have hs : 0 < s.size := by rcases h with h | h | h <;> omega
  have hsz : (s ++ oneS b).size = s.size + 1 := by rw [app_size, one_size]
  have hw := decW (s ++ oneS b) 0 (by omega)
  rw [Nat.zero_add] at hw
  by_cases e : (Utf8.decode (s ++ oneS b) 0).2 ≤ s.size
  · exfalso
    have h1 := dec_head (s ++ oneS b) 0 s.size (by omega) (by omega)
    have h2 : (s ++ oneS b).extract 0 s.size = s := by
      apply ByteArray.ext
      apply Array.toList_inj.1
      rw [Lib.extract_data, app_data, Lib.size_eq, List.drop_zero, Nat.sub_zero]
      exact List.take_left
    rw [h2, beg_none s h] at h1
    unfold okAt at ho
    rw [← h1] at ho
    simp at ho
  · omega

/-- The bytes of one part. -/
def prtL : Option Nat → List UInt8
  | none => []
  | some n => Lib.decDigits n
def preL' (pre : List (Option Nat)) : List UInt8 := pre.flatMap fun y => prtL y ++ [59]
def rendL (pre : List (Option Nat)) (x : Option Nat) : List UInt8 := preL' pre ++ prtL x
def rend (pre : List (Option Nat)) (x : Option Nat) : ByteArray := ⟨(rendL pre x).toArray⟩
theorem rend_sep (pre : List (Option Nat)) (x : Option Nat) : rendL (pre ++ [x]) none = rendL pre x ++ [59] := by
  unfold rendL preL'
  rw [List.flatMap_append]
  simp [prtL]
def numL (l : List UInt8) : Nat := l.foldl (fun n u => capN n (u.toNat - 48)) 0
def digitU (u : UInt8) : Prop := 48 ≤ u.toNat ∧ u.toNat ≤ 57
theorem digits_dig : ∀ (k n : Nat), n ≤ k → ∀ u ∈ Lib.decDigits n, digitU u
  | k, n, hk, u, hu => by
    rw [Lib.decDigits] at hu
    split at hu
    · rename_i h
      rw [List.mem_singleton] at hu
      subst hu
      unfold digitU
      rw [UInt8.toNat_ofNat']
      omega
    · rename_i h
      rcases List.mem_append.1 hu with hu | hu
      · exact digits_dig (k - 1) (n / 10) (by omega) u hu
      · rw [List.mem_singleton] at hu
        subst hu
        unfold digitU
        rw [UInt8.toNat_ofNat']
        omega
termination_by k => k
decreasing_by omega
theorem part_dig (x : Option Nat) : ∀ u ∈ prtL x, digitU u := by
  cases x with
  | none => intro u h; cases h
  | some n => exact digits_dig n n (Nat.le_refl _)
theorem numL_snoc (l : List UInt8) (u : UInt8) : numL (l ++ [u]) = capN (numL l) (u.toNat - 48) := by
  unfold numL
  rw [List.foldl_append]
  rfl
theorem numL_digits : ∀ (k n : Nat), n ≤ k → n ≤ 9999 → numL (Lib.decDigits n) = n
  | k, n, hk, hn => by
    rw [Lib.decDigits]
    split
    · rename_i h
      show capN 0 ((UInt8.ofNat (48 + n)).toNat - 48) = n
      rw [UInt8.toNat_ofNat']
      unfold capN
      omega
    · rename_i h
      rw [numL_snoc, numL_digits (k - 1) (n / 10) (by omega) (by omega), UInt8.toNat_ofNat']
      unfold capN
      omega
termination_by k => k
decreasing_by omega
theorem numL_part (x : Option Nat) (h : ∀ n, x = some n → n ≤ 9999) : numL (prtL x) = x.getD 0 := by
  cases x with
  | none => rfl
  | some n => exact numL_digits n n (Nat.le_refl _) (h n rfl)
theorem numL_le (l : List UInt8) : numL l ≤ 9999 := by
  rcases List.eq_nil_or_concat l with rfl | ⟨r, u, rfl⟩
  · exact Nat.zero_le _
  · rw [List.concat_eq_append, numL_snoc]; unfold capN; omega
theorem numL_next (x : Option Nat) (h : ∀ n, x = some n → n ≤ 9999) (b : Nat) (hb : 48 ≤ b ∧ b ≤ 57) : numL (prtL x ++ [UInt8.ofNat b]) = capN (x.getD 0) (b - 48) := by
  rw [numL_snoc, numL_part x h, UInt8.toNat_ofNat']
  congr 2
  omega

/-- All that is asked for, byte by byte. -/
def runN : Ps → List Nat → Ps × List Ac
  | p, [] => (p, [])
  | p, b :: l => ((runN (feedN p b).1 l).1, (feedN p b).2 ++ (runN (feedN p b).1 l).2)
theorem runN_cons (p : Ps) (b : Nat) (l : List Nat) : runN p (b :: l) = ((runN (feedN p b).1 l).1, (feedN p b).2 ++ (runN (feedN p b).1 l).2) := by rw [runN]
theorem runN_app : ∀ (p : Ps) (a c : List Nat), runN p (a ++ c) = ((runN (runN p a).1 c).1, (runN p a).2 ++ (runN (runN p a).1 c).2)
  | p, [], c => by simp [runN]
  | p, b :: a, c => by
    rw [List.cons_append, runN_cons, runN_cons, runN_app (feedN p b).1 a c, List.append_assoc]
theorem ok_run : ∀ (p : Ps) (l : List Nat), OkP p → OkP (runN p l).1
  | _, [], h => h
  | p, b :: l, h => ok_run (feedN p b).1 l (ok_feed p b h)
theorem feed_two (p : Ps) (b : Nat) : (feedN p b).2.length ≤ 2 := by
  have hf : (firstN b).2.length ≤ 1 := by
    unfold firstN
    repeat' split
    all_goals simp
  have hw : ∀ q, (withinN q b).2.length ≤ 2 := fun q => by
    unfold withinN
    repeat' split
    all_goals simp
  cases p with
  | zero => exact Nat.le_succ_of_le hf
  | start s =>
    show (startN s b).2.length ≤ 2
    unfold startN
    repeat' split
    all_goals first | simp | skip
    omega
  | esc =>
    show (escN b).2.length ≤ 2
    unfold escN
    repeat' split
    all_goals first | exact hw _ | simp
  | seq pre x =>
    show (seqN pre x b).2.length ≤ 2
    unfold seqN
    repeat' split
    all_goals first | exact hw _ | simp
  | bad =>
    show (wrongN b).2.length ≤ 2
    unfold wrongN
    repeat' split
    all_goals first | exact hw _ | simp
end Go.Proofs.YtpkjaallhhjleaaGreatDoor
