/-
  Texts of this proof, one behind the other; each begins with its own remark.
-/
import Derived.Deep.RegionHeld3
import Derived.Deep.RegionWith
import Derived.Test.YtdibpoecdjnpaaaDoorBa4
import Derived.Test.YtdibpoecdjnpaaaDoorBa1
import Derived.Test.YtdibpoecdjnpaaaDoorBa6
/-
  widths.side and the two closures that ask it of a table's run: what each call returns: for every rune and every run.
-/
namespace Go.Proofs.YtdibpoecdjnpaaaDoor
open Go.RowKit

/-- What the two tables hold, cell by cell. -/
def TabW (w : World) : Prop := (1 < w.heap.size ∧ 2 < w.heap.size) ∧ (∀ k, k < 14 → w.cell? ⟨1, k, none⟩ = some (.int .i32 (hidF.getD k 0))) ∧ (∀ k, k < 28 → w.cell? ⟨2, k, none⟩ = some (.int .i32 (widF.getD k 0)))
theorem TabW.below {w w' : World} (h : TabW w) (hb : Below w.heap.size w w') : TabW w' :=
  ⟨⟨Nat.lt_of_lt_of_le h.1.1 hb.size, Nat.lt_of_lt_of_le h.1.2 hb.size⟩, fun k hk => by rw [hb.cell (p := ⟨1, k, none⟩) h.1.1]; exact h.2.1 k hk,
    fun k hk => by rw [hb.cell (p := ⟨2, k, none⟩) h.1.2]; exact h.2.2 k hk⟩

set_option maxHeartbeats 1000000 in
theorem side_any (r a b : Int) (w : World) :
    Calls Tryd.prog 58 #[.int .i32 r, .agg #[.int .i32 a, .int .i32 b]] w fun e w' => e = .returned (.int .i64 (sideI r a b)) ∧ Below w.heap.size w w' := by
  unfold sideI
  by_cases h1 : r < a
  · go_enter Tryd.func58, Tryd.ntmps58
    go_wp2
    go_ret
    exact ⟨by simp, (Below.refl _ _).alloc (Nat.le_refl _) _⟩
  · by_cases h2 : b < r
    · go_enter Tryd.func58, Tryd.ntmps58
      go_wp2
      go_ret
      exact ⟨by simp, (Below.refl _ _).alloc (Nat.le_refl _) _⟩
    · go_enter Tryd.func58, Tryd.ntmps58
      go_wp2
      go_ret
      exact ⟨by simp, (Below.refl _ _).alloc (Nat.le_refl _) _⟩

theorem TabW.hid {w : World} (h : TabW w) (i : Nat) (hi : i < 7) : w.cell? ⟨1, 2 * i, none⟩ = some (.int .i32 (hidF.getD (2 * i) 0)) ∧ w.cell? ⟨1, 2 * i + 1, none⟩ = some (.int .i32 (hidF.getD (2 * i + 1) 0)) :=
  ⟨h.2.1 _ (by omega), h.2.1 _ (by omega)⟩
theorem TabW.wid {w : World} (h : TabW w) (i : Nat) (hi : i < 14) : w.cell? ⟨2, 2 * i, none⟩ = some (.int .i32 (widF.getD (2 * i) 0)) ∧ w.cell? ⟨2, 2 * i + 1, none⟩ = some (.int .i32 (widF.getD (2 * i + 1) 0)) :=
  ⟨h.2.2 _ (by omega), h.2.2 _ (by omega)⟩

set_option maxHeartbeats 1000000 in
theorem hidSide_any (r : Int) (i br : Nat) (w : World) (hi : i < 7) (hT : TabW w) (hr : w.cell? ⟨br, 0, none⟩ = some (.int .i32 r)) :
    Calls Tryd.prog 57 #[.int .i64 (i : Int), .pointer (some ⟨br, 0, none⟩)] w fun e w' => e = .returned (.int .i64 (sideAt hidF r i)) ∧ Below w.heap.size w w' := by
  obtain ⟨c0, c1⟩ := hT.hid i hi
  unfold sideAt
  generalize hidF.getD (2 * i) 0 = a at *
  generalize hidF.getD (2 * i + 1) 0 = b at *
  have H := Lib.hid (fun w => side_any r a b w)
  clear hT
  have hi0 : (0 : Int) ≤ (i : Int) := by omega
  rw [Nat.mul_comm 2 i] at c0 c1
  have hi1 : (i : Int) < 7 := by omega
  go_enter Tryd.func57, Tryd.ntmps57
  go_wp2
  go_region_with (go_at_call 58; refine (H.out _).mono ?_; rintro e w' ⟨rfl, hb⟩)
  all_goals go_wp2
  all_goals go_ret
  all_goals exact ⟨rfl, ((Below.refl _ w).drew).trans hb⟩

set_option maxHeartbeats 1000000 in
theorem widSide_any (r : Int) (i br : Nat) (w : World) (hi : i < 14) (hT : TabW w) (hr : w.cell? ⟨br, 0, none⟩ = some (.int .i32 r)) :
    Calls Tryd.prog 59 #[.int .i64 (i : Int), .pointer (some ⟨br, 0, none⟩)] w fun e w' => e = .returned (.int .i64 (sideAt widF r i)) ∧ Below w.heap.size w w' := by
  obtain ⟨c0, c1⟩ := hT.wid i hi
  unfold sideAt
  generalize widF.getD (2 * i) 0 = a at *
  generalize widF.getD (2 * i + 1) 0 = b at *
  have H := Lib.hid (fun w => side_any r a b w)
  clear hT
  have hi0 : (0 : Int) ≤ (i : Int) := by omega
  rw [Nat.mul_comm 2 i] at c0 c1
  have hi1 : (i : Int) < 14 := by omega
  go_enter Tryd.func59, Tryd.ntmps59
  go_wp2
  go_region_with (go_at_call 58; refine (H.out _).mono ?_; rintro e w' ⟨rfl, hb⟩)
  all_goals go_wp2
  all_goals go_ret
  all_goals exact ⟨rfl, ((Below.refl _ w).drew).trans hb⟩
end Go.Proofs.YtdibpoecdjnpaaaDoor

/-
  What lies in memory where a frame lies: its cells, row by row; that they stay while their block stays; the blank that the program keeps. No call is walked here.
-/
namespace Go.Proofs.YtdibpoecdjnpaaaDoor
open Go.RowKit

theorem Tryd.infoCell : (Tryd.prog.info? 52).map (fun i => (i.zero, i.size, i.bytes)) = some (some (.agg #[.int .i32 0, .int .i64 0, .int .i64 0, .bool false, .bool false, .bool false]), 6, 32) := by kernel_rfl

def celV (c : Cel) : List Value := [.int .i32 c.1, .int .i64 c.2.1, .int .i64 c.2.2.1, .bool c.2.2.2.1, .bool c.2.2.2.2.1, .bool c.2.2.2.2.2]
def celC (l : List Cel) : List Value := l.flatMap celV
theorem celV_len (c : Cel) : (celV c).length = 6 := rfl
theorem celC_cons (c : Cel) (l : List Cel) : celC (c :: l) = celV c ++ celC l := by unfold celC; rw [List.flatMap_cons]
theorem celC_len (l : List Cel) : (celC l).length = l.length * 6 := by
  induction l with
  | nil => rfl
  | cons c l ih => rw [celC_cons, List.length_append, ih, List.length_cons, celV_len]; omega
theorem celC_app (a b : List Cel) : celC (a ++ b) = celC a ++ celC b := by unfold celC; rw [List.flatMap_append]
theorem celC_one (c : Cel) : celC [c] = celV c := by rw [celC_cons]; simp [celC]
theorem celC_drop (l : List Cel) (i : Nat) : (celC l).drop (i * 6) = celC (l.drop i) := by
  induction l generalizing i with
  | nil => simp [celC]
  | cons c l ih =>
    cases i with
    | zero => simp
    | succ i => rw [celC_cons, List.drop_succ_cons, ← ih i, show (i + 1) * 6 = 6 + i * 6 by omega, ← List.drop_drop, show (6 : Nat) = (celV c).length from rfl, List.drop_left]
theorem celC_take (l : List Cel) (i : Nat) : (celC l).take (i * 6) = celC (l.take i) := by
  induction l generalizing i with
  | nil => simp [celC]
  | cons c l ih =>
    cases i with
    | zero => simp [celC]
    | succ i => rw [celC_cons, List.take_succ_cons, celC_cons, ← ih i, show (i + 1) * 6 = (celV c).length + i * 6 by rw [celV_len]; omega, List.take_length_add_append]
theorem celC_cell (l : List Cel) : ∀ u ∈ celC l, u.oneCell' = true := by
  intro u hu
  unfold celC at hu
  obtain ⟨p, _, hp⟩ := List.mem_flatMap.1 hu
  unfold celV at hp
  simp only [List.mem_cons, List.not_mem_nil, or_false] at hp
  rcases hp with rfl | rfl | rfl | rfl | rfl | rfl <;> rfl
theorem celC_at (l : List Cel) (i : Nat) (c : Cel) (h : l[i]? = some c) (k : Nat) (hk : k < 6) : (celC l)[i * 6 + k]? = (celV c)[k]? := by
  have hlt := (List.getElem?_eq_some_iff.1 h).1
  have e : (celC l).drop (i * 6) = celV c ++ celC (l.drop (i + 1)) := by
    rw [celC_drop, List.drop_eq_getElem_cons hlt, (List.getElem?_eq_some_iff.1 h).2, celC_cons]
  have := congrArg (fun l : List Value => l[k]?) e
  simp only [List.getElem?_drop] at this
  rw [this, List.getElem?_append_left (by rw [celV_len]; exact hk)]
theorem celC_inj : ∀ (l m : List Cel), celC l = celC m → l = m
  | [], [], _ => rfl
  | [], d :: m, h => by rw [celC_cons] at h; simp [celC, celV] at h
  | c :: l, [], h => by rw [celC_cons] at h; simp [celC, celV] at h
  | c :: l, d :: m, h => by
    rw [celC_cons, celC_cons] at h
    obtain ⟨h1, h2⟩ := List.append_inj h rfl
    simp [celV] at h1
    obtain ⟨a1, a2, a3, a4, a5, a6⟩ := h1
    rw [celC_inj l m h2, show c = d from Prod.ext a1 (Prod.ext a2 (Prod.ext a3 (Prod.ext a4 (Prod.ext a5 a6))))]

/-- A slice of cells. -/
def CelsW (ok : Nat → Prop) (w : World) (v : Value) (l : List Cel) : Prop := RowV ok w v l.length (celC l)
abbrev AnyB : Nat → Prop := fun _ => True
theorem CelsW.keep {ok : Nat → Prop} {w w' : World} {v : Value} {l : List Cel} (h : CelsW ok w v l) (hk : KeepW ok w w') : CelsW ok w' v l := RowV.keep h hk
theorem CelsW.below {w w' : World} {ok : Nat → Prop} {v : Value} {l : List Cel} (h : CelsW ok w v l) (hb : Below w.heap.size w w') : CelsW ok w' v l := RowV.keep h (keep_below ok hb)
/-- The six cells of one. -/
def cell6 (w : World) (g p : Nat) (c : Cel) : Prop :=
  w.cell? ⟨g, p, none⟩ = some (.int .i32 c.1) ∧ w.cell? ⟨g, p + 1, none⟩ = some (.int .i64 c.2.1) ∧ w.cell? ⟨g, p + 2, none⟩ = some (.int .i64 c.2.2.1) ∧
    w.cell? ⟨g, p + 3, none⟩ = some (.bool c.2.2.2.1) ∧ w.cell? ⟨g, p + 4, none⟩ = some (.bool c.2.2.2.2.1) ∧ w.cell? ⟨g, p + 5, none⟩ = some (.bool c.2.2.2.2.2)
theorem cell6.below {w w' : World} {n g p : Nat} {c : Cel} (h : cell6 w g p c) (hb : Below n w w') (hg : g < n) : cell6 w' g p c := by
  obtain ⟨h0, h1, h2, h3, h4, h5⟩ := h
  exact ⟨by rw [hb.cell (p := ⟨g, p, none⟩) hg]; exact h0, by rw [hb.cell (p := ⟨g, p + 1, none⟩) hg]; exact h1, by rw [hb.cell (p := ⟨g, p + 2, none⟩) hg]; exact h2,
    by rw [hb.cell (p := ⟨g, p + 3, none⟩) hg]; exact h3, by rw [hb.cell (p := ⟨g, p + 4, none⟩) hg]; exact h4, by rw [hb.cell (p := ⟨g, p + 5, none⟩) hg]; exact h5⟩
theorem cell6.lt {w : World} {g p : Nat} {c : Cel} (h : cell6 w g p c) : g < w.heap.size := rlt (p := ⟨g, p, none⟩) h.1
theorem CelsW.at_ {ok : Nat → Prop} {w : World} {v : Value} {l : List Cel} {i : Nat} {c : Cel} (h : CelsW ok w v l) (hc : l[i]? = some c) :
    ∃ g o cap, v = .slice (some ⟨g, o, none⟩) l.length cap ∧ l.length ≤ cap ∧ ok g ∧ ∀ i c, l[i]? = some c → cell6 w g (o + i * 6) c := by
  obtain ⟨g, o, cap, hv, hn, hg, hcell⟩ := RowV.at_ h ((celC_at l i c hc 0 (by omega)).trans rfl)
  refine ⟨g, o, cap, hv, hn, hg, fun i c hc => ?_⟩
  have a := fun k hk x (hx : (celV c)[k]? = some x) => hcell (i * 6 + k) x ((celC_at l i c hc k hk).trans hx)
  simp only [← Nat.add_assoc] at a
  exact ⟨a 0 (by omega) _ rfl, a 1 (by omega) _ rfl, a 2 (by omega) _ rfl, a 3 (by omega) _ rfl, a 4 (by omega) _ rfl, a 5 (by omega) _ rfl⟩
theorem CelsW.get {ok : Nat → Prop} {w : World} {g o n cap : Nat} {l : List Cel} {i : Nat} {c : Cel} (h : CelsW ok w (.slice (some ⟨g, o, none⟩) n cap) l) (hc : l[i]? = some c) : cell6 w g (o + i * 6) c := by
  obtain ⟨g', o', cap', he, _, _, H⟩ := h.at_ hc
  cases he
  exact H i c hc

/-- The blank that the program keeps. -/
def BlankW (w : World) : Prop := 0 < w.heap.size ∧ cell6 w 0 0 blkC
theorem BlankW.below {w w' : World} (h : BlankW w) (hb : Below w.heap.size w w') : BlankW w' := ⟨Nat.lt_of_lt_of_le h.1 hb.size, h.2.below hb h.1⟩
/-- All that the program's text lays ahead of the call. -/
def LaidW (w : World) : Prop := TabW w ∧ BlankW w
theorem LaidW.below {w w' : World} (h : LaidW w) (hb : Below w.heap.size w w') : LaidW w' := ⟨h.1.below hb, h.2.below hb⟩

/-- A frame as a value: its cells lie elsewhere. -/
def FrameW (ok : Nat → Prop) (w : World) (v : Value) (f : Frm) : Prop :=
  ∃ ao n cap, v = .agg #[.int .i64 f.rows, .int .i64 f.cols, .slice ao n cap, .int .i64 f.row, .int .i64 f.col] ∧ n = f.cells.length ∧ n ≤ cap ∧ CelsW ok w (.slice ao n cap) f.cells
theorem FrameW.below {w w' : World} {ok : Nat → Prop} {v : Value} {f : Frm} (h : FrameW ok w v f) (hb : Below w.heap.size w w') : FrameW ok w' v f := by
  obtain ⟨ao, n, cap, hv, hn, hc, hs⟩ := h
  exact ⟨ao, n, cap, hv, hn, hc, hs.below hb⟩
theorem FrameW.zero (ok : Nat → Prop) (w : World) : FrameW ok w (.agg #[.int .i64 0, .int .i64 0, .slice none 0 0, .int .i64 0, .int .i64 0]) zeroF :=
  ⟨none, 0, 0, rfl, rfl, Nat.le_refl _, RowV.nil ok w⟩
end Go.Proofs.YtdibpoecdjnpaaaDoor

/-
  A box of a frame, a box of one value: what lies in it, what a store makes of it. No call is walked here.
-/
namespace Go.Proofs.YtdibpoecdjnpaaaDoor
open Go.RowKit

/-- A box of a frame. -/
def frB (W : World) (B : Nat) (r c : Int) (v : Value) (a b : Int) : Prop := W.heap[B]? = some (.cells #[.int .i64 r, .int .i64 c, v, .int .i64 a, .int .i64 b] 28 (0, 0))
section
variable {W : World} {B : Nat} {r c a b : Int} {v : Value}
theorem frB.lt (h : frB W B r c v a b) : B < W.heap.size := (Array.getElem?_eq_some_iff.1 h).1
theorem frB.cells (h : frB W B r c v a b) : (W.cell? ⟨B, 0, none⟩ = some (.int .i64 r) ∧ W.cell? ⟨B, 1, none⟩ = some (.int .i64 c) ∧ W.cell? ⟨B, 2, none⟩ = some v ∧ W.cell? ⟨B, 3, none⟩ = some (.int .i64 a) ∧ W.cell? ⟨B, 4, none⟩ = some (.int .i64 b)) ∧
    (W.frozen? ⟨B, 0, none⟩ = false ∧ W.frozen? ⟨B, 1, none⟩ = false ∧ W.frozen? ⟨B, 2, none⟩ = false ∧ W.frozen? ⟨B, 3, none⟩ = false ∧ W.frozen? ⟨B, 4, none⟩ = false) := by
  unfold frB at h
  refine ⟨⟨?_, ?_, ?_, ?_, ?_⟩, ?_, ?_, ?_, ?_, ?_⟩ <;> first | (unfold World.cell?; rw [h]; rfl) | (unfold World.frozen?; rw [h]; simp)
theorem frB.keep {W' : World} {ok : Nat → Prop} (h : frB W B r c v a b) (hk : KeepW ok W W') (hB : ok B) : frB W' B r c v a b := (hk.same B h.lt hB).trans h
theorem frB.below {W' : World} {n : Nat} (h : frB W B r c v a b) (hb : Below n W W') (hB : B < n) : frB W' B r c v a b := (hb.block B hB).trans h
theorem frB.new (w : World) : frB (w.alloc (.cells #[.int .i64 r, .int .i64 c, v, .int .i64 a, .int .i64 b] 28)) w.heap.size r c v a b := heap_alloc_new w _
theorem frB.set (h : frB W B r c v a b) (i : Nat) (u : Value) : (W.setCell ⟨B, i, none⟩ u).heap[B]? = some (.cells (#[.int .i64 r, .int .i64 c, v, .int .i64 a, .int .i64 b].modify i fun _ => u) 28 (0, 0)) := by
  unfold frB at h
  show (W.heap.modify B _)[B]? = _
  have hlt := (Array.getElem?_eq_some_iff.1 h).1
  obtain ⟨_, he⟩ := Array.getElem?_eq_some_iff.1 h
  rw [Array.getElem?_eq_getElem (by rw [Array.size_modify]; exact hlt), Array.getElem_modify_self, he]
  rfl
theorem frB.set0 (h : frB W B r c v a b) (x : Int) : frB (W.setCell ⟨B, 0, none⟩ (.int .i64 x)) B x c v a b := h.set 0 _
theorem frB.set1 (h : frB W B r c v a b) (x : Int) : frB (W.setCell ⟨B, 1, none⟩ (.int .i64 x)) B r x v a b := h.set 1 _
theorem frB.set2 (h : frB W B r c v a b) (u : Value) : frB (W.setCell ⟨B, 2, none⟩ u) B r c u a b := h.set 2 _
theorem frB.set3 (h : frB W B r c v a b) (x : Int) : frB (W.setCell ⟨B, 3, none⟩ (.int .i64 x)) B r c v x b := h.set 3 _
theorem frB.set4 (h : frB W B r c v a b) (x : Int) : frB (W.setCell ⟨B, 4, none⟩ (.int .i64 x)) B r c v a x := h.set 4 _
end
/-- The five stores of a frame. -/
def set5 (W : World) (B : Nat) (r c : Int) (v : Value) (a b : Int) : World :=
  ((((W.setCell ⟨B, 0, none⟩ (.int .i64 r)).setCell ⟨B, 1, none⟩ (.int .i64 c)).setCell ⟨B, 2, none⟩ v).setCell ⟨B, 3, none⟩ (.int .i64 a)).setCell ⟨B, 4, none⟩ (.int .i64 b)
theorem frB.all {W : World} {B : Nat} {r c a b r' c' a' b' : Int} {v v' : Value} (h : frB W B r c v a b) : frB (set5 W B r' c' v' a' b') B r' c' v' a' b' := ((((h.set0 _).set1 _).set2 _).set3 _).set4 _
theorem set5_keep {ok : Nat → Prop} (W : World) (B : Nat) (r c : Int) (v : Value) (a b : Int) (hB : ¬ ok B) : KeepW ok W (set5 W B r c v a b) :=
  ((((keep_set _ _ _ _ _ hB).trans (keep_set _ _ _ _ _ hB)).trans (keep_set _ _ _ _ _ hB)).trans (keep_set _ _ _ _ _ hB)).trans (keep_set _ _ _ _ _ hB)

/-- A box of one value. -/
def boxW (W : World) (B : Nat) (v : Value) (T : TypeId) : Prop := W.heap[B]? = some (.cells #[v] T (0, 0))
theorem boxW.lt {W : World} {B : Nat} {v : Value} {T : TypeId} (h : boxW W B v T) : B < W.heap.size := (Array.getElem?_eq_some_iff.1 h).1
theorem boxW.cell {W : World} {B : Nat} {v : Value} {T : TypeId} (h : boxW W B v T) : W.cell? ⟨B, 0, none⟩ = some v ∧ W.frozen? ⟨B, 0, none⟩ = false := by
  unfold boxW at h
  exact ⟨by unfold World.cell?; rw [h]; rfl, by unfold World.frozen?; rw [h]; simp⟩
theorem boxW.keep {W W' : World} {ok : Nat → Prop} {B : Nat} {v : Value} {T : TypeId} (h : boxW W B v T) (hk : KeepW ok W W') (hB : ok B) : boxW W' B v T := (hk.same B h.lt hB).trans h
theorem boxW.below {W W' : World} {n B : Nat} {v : Value} {T : TypeId} (h : boxW W B v T) (hb : Below n W W') (hB : B < n) : boxW W' B v T := (hb.block B hB).trans h
theorem boxW.new (w : World) (v : Value) (T : TypeId) : boxW (w.alloc (.cells #[v] T)) w.heap.size v T := heap_alloc_new w _
theorem boxW.set {W : World} {B : Nat} {v u : Value} {T : TypeId} (h : boxW W B v T) : boxW (W.setCell ⟨B, 0, none⟩ u) B u T := by
  unfold boxW at h ⊢
  show (W.heap.modify B _)[B]? = _
  have hlt := (Array.getElem?_eq_some_iff.1 h).1
  obtain ⟨_, he⟩ := Array.getElem?_eq_some_iff.1 h
  rw [Array.getElem?_eq_getElem (by rw [Array.size_modify]; exact hlt), Array.getElem_modify_self, he]
  rfl
end Go.Proofs.YtdibpoecdjnpaaaDoor
