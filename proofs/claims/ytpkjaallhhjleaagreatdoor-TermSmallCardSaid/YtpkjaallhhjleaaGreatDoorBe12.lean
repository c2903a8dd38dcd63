/-
  Texts of this proof, one behind the other; each begins with its own remark.
-/
import Derived.Laws.StructEq
import Derived.Test.YtpkjaallhhjleaaGreatDoorBe6
import Derived.Test.YtpkjaallhhjleaaGreatDoorBe11
import Derived.Test.YtpkjaallhhjleaaGreatDoorBe5
/-
  What lies in memory where a frame lies: its cells, row by row; that they stay while their block stays; the blank that the program keeps. No call is walked here.
-/
namespace Go.Proofs.YtpkjaallhhjleaaGreatDoor
open Go.RowKit

theorem Tryz.infoCell : (Tryz.prog.info? 82).map (fun i => (i.zero, i.size, i.bytes)) = some (some (.agg #[.int .i32 0, .int .i64 0, .int .i64 0, .bool false, .bool false, .bool false]), 6, 32) := by kernel_rfl

def celV (c : Cel) : List Value := [.int .i32 c.1, .int .i64 c.2.1, .int .i64 c.2.2.1, .bool c.2.2.2.1, .bool c.2.2.2.2.1, .bool c.2.2.2.2.2]
def celC (l : List Cel) : List Value := l.flatMap celV
theorem celV_len (c : Cel) : (celV c).length = 6 := rfl
theorem celC_cons (c : Cel) (l : List Cel) : celC (c :: l) = celV c ++ celC l := by unfold celC; rw [List.flatMap_cons]
theorem celC_len (l : List Cel) : (celC l).length = l.length * 6 := by
  induction l with
  | nil => rfl
  | cons c l ih => rw [celC_cons, List.length_append, ih, List.length_cons, celV_len]; omega
theorem celC_app (a b : List Cel) : celC (a ++ b) = celC a ++ celC b := by unfold celC; rw [List.flatMap_append]
theorem celC_one (c : Cel) : celC [c] = celV c := by rw [celC_cons]; simp [celC]
theorem celC_drop (l : List Cel) (i : Nat) : (celC l).drop (i * 6) = celC (l.drop i) := by
  induction l generalizing i with
  | nil => simp [celC]
  | cons c l ih =>
    cases i with
    | zero => simp
    | succ i => rw [celC_cons, List.drop_succ_cons, ← ih i, show (i + 1) * 6 = 6 + i * 6 by omega, ← List.drop_drop, show (6 : Nat) = (celV c).length from rfl, List.drop_left]
theorem celC_take (l : List Cel) (i : Nat) : (celC l).take (i * 6) = celC (l.take i) := by
  induction l generalizing i with
  | nil => simp [celC]
  | cons c l ih =>
    cases i with
    | zero => simp [celC]
    | succ i => rw [celC_cons, List.take_succ_cons, celC_cons, ← ih i, show (i + 1) * 6 = (celV c).length + i * 6 by rw [celV_len]; omega, List.take_length_add_append]
theorem celC_cell (l : List Cel) : ∀ u ∈ celC l, u.oneCell' = true := by
  intro u hu
  unfold celC at hu
  obtain ⟨p, _, hp⟩ := List.mem_flatMap.1 hu
  unfold celV at hp
  simp only [List.mem_cons, List.not_mem_nil, or_false] at hp
  rcases hp with rfl | rfl | rfl | rfl | rfl | rfl <;> rfl
theorem celC_at (l : List Cel) (i : Nat) (c : Cel) (h : l[i]? = some c) (k : Nat) (hk : k < 6) : (celC l)[i * 6 + k]? = (celV c)[k]? := by
  have hlt := (List.getElem?_eq_some_iff.1 h).1
  have e : (celC l).drop (i * 6) = celV c ++ celC (l.drop (i + 1)) := by
    rw [celC_drop, List.drop_eq_getElem_cons hlt, (List.getElem?_eq_some_iff.1 h).2, celC_cons]
  have := congrArg (fun l : List Value => l[k]?) e
  simp only [List.getElem?_drop] at this
  rw [this, List.getElem?_append_left (by rw [celV_len]; exact hk)]
theorem celC_inj : ∀ (l m : List Cel), celC l = celC m → l = m
  | [], [], _ => rfl
  | [], d :: m, h => by rw [celC_cons] at h; simp [celC, celV] at h
  | c :: l, [], h => by rw [celC_cons] at h; simp [celC, celV] at h
  | c :: l, d :: m, h => by
    rw [celC_cons, celC_cons] at h
    obtain ⟨h1, h2⟩ := List.append_inj h rfl
    simp [celV] at h1
    obtain ⟨a1, a2, a3, a4, a5, a6⟩ := h1
    rw [celC_inj l m h2, show c = d from Prod.ext a1 (Prod.ext a2 (Prod.ext a3 (Prod.ext a4 (Prod.ext a5 a6))))]

/-- A slice of cells. -/
def CelsW (ok : Nat → Prop) (w : World) (v : Value) (l : List Cel) : Prop := RowV ok w v l.length (celC l)
abbrev AnyB : Nat → Prop := fun _ => True
theorem CelsW.keep {ok : Nat → Prop} {w w' : World} {v : Value} {l : List Cel} (h : CelsW ok w v l) (hk : KeepW ok w w') : CelsW ok w' v l := RowV.keep h hk
theorem CelsW.below {w w' : World} {ok : Nat → Prop} {v : Value} {l : List Cel} (h : CelsW ok w v l) (hb : Below w.heap.size w w') : CelsW ok w' v l := RowV.keep h (keep_below ok hb)
/-- The six cells of one. -/
def cell6 (w : World) (g p : Nat) (c : Cel) : Prop :=
  w.cell? ⟨g, p, none⟩ = some (.int .i32 c.1) ∧ w.cell? ⟨g, p + 1, none⟩ = some (.int .i64 c.2.1) ∧ w.cell? ⟨g, p + 2, none⟩ = some (.int .i64 c.2.2.1) ∧
    w.cell? ⟨g, p + 3, none⟩ = some (.bool c.2.2.2.1) ∧ w.cell? ⟨g, p + 4, none⟩ = some (.bool c.2.2.2.2.1) ∧ w.cell? ⟨g, p + 5, none⟩ = some (.bool c.2.2.2.2.2)
theorem cell6.below {w w' : World} {n g p : Nat} {c : Cel} (h : cell6 w g p c) (hb : Below n w w') (hg : g < n) : cell6 w' g p c := by
  obtain ⟨h0, h1, h2, h3, h4, h5⟩ := h
  exact ⟨by rw [hb.cell (p := ⟨g, p, none⟩) hg]; exact h0, by rw [hb.cell (p := ⟨g, p + 1, none⟩) hg]; exact h1, by rw [hb.cell (p := ⟨g, p + 2, none⟩) hg]; exact h2,
    by rw [hb.cell (p := ⟨g, p + 3, none⟩) hg]; exact h3, by rw [hb.cell (p := ⟨g, p + 4, none⟩) hg]; exact h4, by rw [hb.cell (p := ⟨g, p + 5, none⟩) hg]; exact h5⟩
theorem cell6.lt {w : World} {g p : Nat} {c : Cel} (h : cell6 w g p c) : g < w.heap.size := rlt (p := ⟨g, p, none⟩) h.1
theorem CelsW.at_ {ok : Nat → Prop} {w : World} {v : Value} {l : List Cel} {i : Nat} {c : Cel} (h : CelsW ok w v l) (hc : l[i]? = some c) :
    ∃ g o cap, v = .slice (some ⟨g, o, none⟩) l.length cap ∧ l.length ≤ cap ∧ ok g ∧ ∀ i c, l[i]? = some c → cell6 w g (o + i * 6) c := by
  obtain ⟨g, o, cap, hv, hn, hg, hcell⟩ := RowV.at_ h ((celC_at l i c hc 0 (by omega)).trans rfl)
  refine ⟨g, o, cap, hv, hn, hg, fun i c hc => ?_⟩
  have a := fun k hk x (hx : (celV c)[k]? = some x) => hcell (i * 6 + k) x ((celC_at l i c hc k hk).trans hx)
  simp only [← Nat.add_assoc] at a
  exact ⟨a 0 (by omega) _ rfl, a 1 (by omega) _ rfl, a 2 (by omega) _ rfl, a 3 (by omega) _ rfl, a 4 (by omega) _ rfl, a 5 (by omega) _ rfl⟩
theorem CelsW.get {ok : Nat → Prop} {w : World} {g o n cap : Nat} {l : List Cel} {i : Nat} {c : Cel} (h : CelsW ok w (.slice (some ⟨g, o, none⟩) n cap) l) (hc : l[i]? = some c) : cell6 w g (o + i * 6) c := by
  obtain ⟨g', o', cap', he, _, _, H⟩ := h.at_ hc
  cases he
  exact H i c hc

/-- The blank that the program keeps. -/
def BlankW (w : World) : Prop := 0 < w.heap.size ∧ cell6 w 0 0 blkC
theorem BlankW.below {w w' : World} (h : BlankW w) (hb : Below w.heap.size w w') : BlankW w' := ⟨Nat.lt_of_lt_of_le h.1 hb.size, h.2.below hb h.1⟩
/-- All that the program's text lays ahead of the call. -/
def LaidW (w : World) : Prop := TabW w ∧ BlankW w
theorem LaidW.below {w w' : World} (h : LaidW w) (hb : Below w.heap.size w w') : LaidW w' := ⟨h.1.below hb, h.2.below hb⟩

/-- A frame as a value: its cells lie elsewhere. -/
def FrameW (ok : Nat → Prop) (w : World) (v : Value) (f : Frm) : Prop :=
  ∃ ao n cap, v = .agg #[.int .i64 f.rows, .int .i64 f.cols, .slice ao n cap, .int .i64 f.row, .int .i64 f.col] ∧ n = f.cells.length ∧ n ≤ cap ∧ CelsW ok w (.slice ao n cap) f.cells
theorem FrameW.below {w w' : World} {ok : Nat → Prop} {v : Value} {f : Frm} (h : FrameW ok w v f) (hb : Below w.heap.size w w') : FrameW ok w' v f := by
  obtain ⟨ao, n, cap, hv, hn, hc, hs⟩ := h
  exact ⟨ao, n, cap, hv, hn, hc, hs.below hb⟩
theorem FrameW.zero (ok : Nat → Prop) (w : World) : FrameW ok w (.agg #[.int .i64 0, .int .i64 0, .slice none 0 0, .int .i64 0, .int .i64 0]) zeroF :=
  ⟨none, 0, 0, rfl, rfl, Nat.le_refl _, RowV.nil ok w⟩
end Go.Proofs.YtpkjaallhhjleaaGreatDoor

/-
  Two styles, two cells held against each other: what '==' and '!=' come to.
-/
namespace Go.Proofs.YtpkjaallhhjleaaGreatDoor
open Go.RowKit

theorem Tryz.fieldsCell : Tryz.prog.underlying 82 = some (.struct (Tryz.prog.fieldsOf 82)) := by kernel_rfl
theorem Tryz.fieldsStyle : Tryz.prog.underlying 38 = some (.struct (Tryz.prog.fieldsOf 38)) := by kernel_rfl
theorem Tryz.heldCell : Tryz.prog.stoodInHeld 82 = false := by kernel_rfl
theorem Tryz.heldStyle : Tryz.prog.stoodInHeld 38 = false := by kernel_rfl


theorem eqF_step (d : Nat) (xs ys : Array Value) (nm : String) (T : TypeId) (o : Nat) (em : Bool) (tg pk : String) (bo : Nat) (fs : List Field) (x y : Value) (r : Bool) (w : World) (hn : nm ≠ "_") (hx : (part T xs o).run Tryz.prog w = .ok x w) (hy : (part T ys o).run Tryz.prog w = .ok y w) (hr : (Op.equalIn d T x y).run Tryz.prog w = .ok r w) :
    (Op.eqFields d xs ys ({ name := nm, type := T, offset := o, embedded := em, tag := tg, pkgPath := pk, byteOffset := bo } :: fs)).run Tryz.prog w = if r = true then (Op.eqFields d xs ys fs).run Tryz.prog w else .ok false w := by
  rw [Op.eqFields, if_pos hn]
  simp only [Sem.run_bind, hx, hy, hr, Result.andThen_ok]
  cases r
  · simp only [Bool.not_false, if_true, Sem.run_pure]; rfl
  · simp only [Bool.not_true, Bool.false_eq_true, if_false, if_true]
theorem part_int (xs : Array Value) (o : Nat) (x : Value) (w : World) (h : xs[o]? = some x) : (part 3 xs o).run Tryz.prog w = .ok x w := by
  unfold part
  simp only [Sem.run_bind, Tryz.isAgg3, Result.andThen_ok]
  simp [h]
theorem part_bool (xs : Array Value) (o : Nat) (x : Value) (w : World) (h : xs[o]? = some x) : (part 4 xs o).run Tryz.prog w = .ok x w := by
  unfold part
  simp only [Sem.run_bind, Tryz.isAgg4, Result.andThen_ok]
  simp [h]
theorem sty_fields : (Tryz.prog.fieldsOf 38).toList = [{ name := "Fg", type := 3, offset := 0, embedded := false, tag := "", pkgPath := "", byteOffset := 0 }, { name := "Bold", type := 4, offset := 1, embedded := false, tag := "", pkgPath := "", byteOffset := 8 }, { name := "Under", type := 4, offset := 2, embedded := false, tag := "", pkgPath := "", byteOffset := 9 }, { name := "Inverse", type := 4, offset := 3, embedded := false, tag := "", pkgPath := "", byteOffset := 10 }] := by
  unfold Program.fieldsOf
  rw [Tryz.underlying38]
theorem sty_eqIn (n : Nat) (a b : Sty) (w : World) : (Op.equalIn (n + 2) 38 (.agg #[.int .i64 a.1, .bool a.2.1, .bool a.2.2.1, .bool a.2.2.2]) (.agg #[.int .i64 b.1, .bool b.2.1, .bool b.2.2.1, .bool b.2.2.2])).run Tryz.prog w = .ok (decide (a = b)) w := by
  rw [run_equalIn_agg _ _ _ _ _ Tryz.fieldsStyle Tryz.heldStyle, sty_fields]
  obtain ⟨a1, a2, a3, a4⟩ := a
  obtain ⟨b1, b2, b3, b4⟩ := b
  rw [eqF_step _ _ _ _ _ _ _ _ _ _ _ _ _ _ _ (by decide) (part_int _ 0 _ w rfl) (part_int _ 0 _ w rfl) (run_equalIn_int w n 3 .i64 .i64 a1 b1 Tryz.underlying3)]
  rw [eqF_step _ _ _ _ _ _ _ _ _ _ _ _ _ _ _ (by decide) (part_bool _ 1 _ w rfl) (part_bool _ 1 _ w rfl) (run_equalIn_bool' w n 4 a2 b2 Tryz.underlying4)]
  rw [eqF_step _ _ _ _ _ _ _ _ _ _ _ _ _ _ _ (by decide) (part_bool _ 2 _ w rfl) (part_bool _ 2 _ w rfl) (run_equalIn_bool' w n 4 a3 b3 Tryz.underlying4)]
  rw [eqF_step _ _ _ _ _ _ _ _ _ _ _ _ _ _ _ (by decide) (part_bool _ 3 _ w rfl) (part_bool _ 3 _ w rfl) (run_equalIn_bool' w n 4 a4 b4 Tryz.underlying4)]
  unfold Op.eqFields
  by_cases h1 : a1 = b1 <;> by_cases h2 : a2 = b2 <;> by_cases h3 : a3 = b3 <;> by_cases h4 : a4 = b4 <;> simp [h1, h2, h3, h4, Sem.run_pure]
theorem sty_eqIn' (d : Nat) (hd : 2 ≤ d) (a b : Sty) (w : World) : (Op.equalIn d 38 (.agg #[.int .i64 a.1, .bool a.2.1, .bool a.2.2.1, .bool a.2.2.2]) (.agg #[.int .i64 b.1, .bool b.2.1, .bool b.2.2.1, .bool b.2.2.2])).run Tryz.prog w = .ok (decide (a = b)) w := by
  obtain ⟨n, rfl⟩ : ∃ n, d = n + 2 := ⟨d - 2, by omega⟩
  exact sty_eqIn n a b w
theorem sty_eql (a b : Sty) (w : World) : (binOp .eql 38 (.agg #[.int .i64 a.1, .bool a.2.1, .bool a.2.2.1, .bool a.2.2.2]) (.agg #[.int .i64 b.1, .bool b.2.1, .bool b.2.2.1, .bool b.2.2.2])).run Tryz.prog w = .ok (.bool (decide (a = b))) w := by
  rw [run_eql_struct, sty_eqIn' 10000 (by decide)]; rfl
theorem sty_neq (a b : Sty) (w : World) : (binOp .neq 38 (.agg #[.int .i64 a.1, .bool a.2.1, .bool a.2.2.1, .bool a.2.2.2]) (.agg #[.int .i64 b.1, .bool b.2.1, .bool b.2.2.1, .bool b.2.2.2])).run Tryz.prog w = .ok (.bool (!decide (a = b))) w := by
  rw [run_neq_struct, sty_eqIn' 10000 (by decide)]; rfl

theorem cel_fields : (Tryz.prog.fieldsOf 82).toList = [{ name := "R", type := 21, offset := 0, embedded := false, tag := "", pkgPath := "", byteOffset := 0 }, { name := "W", type := 3, offset := 1, embedded := false, tag := "", pkgPath := "", byteOffset := 8 }, { name := "Style", type := 38, offset := 2, embedded := false, tag := "", pkgPath := "", byteOffset := 16 }] := by
  unfold Program.fieldsOf
  rw [Tryz.underlying82]
theorem part_rune (xs : Array Value) (o : Nat) (x : Value) (w : World) (h : xs[o]? = some x) : (part 21 xs o).run Tryz.prog w = .ok x w := by
  unfold part
  simp only [Sem.run_bind, Tryz.isAgg21, Result.andThen_ok]
  simp [h]
theorem part_style (c : Cel) (w : World) : (part 38 #[.int .i32 c.1, .int .i64 c.2.1, .int .i64 c.2.2.1, .bool c.2.2.2.1, .bool c.2.2.2.2.1, .bool c.2.2.2.2.2] 2).run Tryz.prog w = .ok (.agg #[.int .i64 c.2.2.1, .bool c.2.2.2.1, .bool c.2.2.2.2.1, .bool c.2.2.2.2.2]) w := by
  unfold part
  simp only [Sem.run_bind, Tryz.isAgg38, Result.andThen_ok, if_true, Tryz.sizeOf38]
  simp
theorem cel_eqIn (n : Nat) (a b : Cel) (w : World) : (Op.equalIn (n + 3) 82 (.agg #[.int .i32 a.1, .int .i64 a.2.1, .int .i64 a.2.2.1, .bool a.2.2.2.1, .bool a.2.2.2.2.1, .bool a.2.2.2.2.2]) (.agg #[.int .i32 b.1, .int .i64 b.2.1, .int .i64 b.2.2.1, .bool b.2.2.2.1, .bool b.2.2.2.2.1, .bool b.2.2.2.2.2])).run Tryz.prog w = .ok (decide (a = b)) w := by
  rw [run_equalIn_agg _ _ _ _ _ Tryz.fieldsCell Tryz.heldCell, cel_fields]
  rw [eqF_step _ _ _ _ _ _ _ _ _ _ _ _ _ _ _ (by decide) (part_rune _ 0 _ w rfl) (part_rune _ 0 _ w rfl) (run_equalIn_int w (n + 1) 21 .i32 .i32 a.1 b.1 Tryz.underlying21)]
  rw [eqF_step _ _ _ _ _ _ _ _ _ _ _ _ _ _ _ (by decide) (part_int _ 1 _ w rfl) (part_int _ 1 _ w rfl) (run_equalIn_int w (n + 1) 3 .i64 .i64 a.2.1 b.2.1 Tryz.underlying3)]
  rw [eqF_step _ _ _ _ _ _ _ _ _ _ _ _ _ _ _ (by decide) (part_style a w) (part_style b w) (sty_eqIn n a.2.2 b.2.2 w)]
  unfold Op.eqFields
  obtain ⟨a1, a2, a3⟩ := a
  obtain ⟨b1, b2, b3⟩ := b
  by_cases h1 : a1 = b1 <;> by_cases h2 : a2 = b2 <;> by_cases h3 : a3 = b3 <;> simp [h1, h2, h3, Sem.run_pure]
theorem cel_eqIn' (d : Nat) (hd : 3 ≤ d) (a b : Cel) (w : World) : (Op.equalIn d 82 (.agg #[.int .i32 a.1, .int .i64 a.2.1, .int .i64 a.2.2.1, .bool a.2.2.2.1, .bool a.2.2.2.2.1, .bool a.2.2.2.2.2]) (.agg #[.int .i32 b.1, .int .i64 b.2.1, .int .i64 b.2.2.1, .bool b.2.2.2.1, .bool b.2.2.2.2.1, .bool b.2.2.2.2.2])).run Tryz.prog w = .ok (decide (a = b)) w := by
  obtain ⟨n, rfl⟩ : ∃ n, d = n + 3 := ⟨d - 3, by omega⟩
  exact cel_eqIn n a b w
theorem cel_eql (a b : Cel) (w : World) : (binOp .eql 82 (.agg #[.int .i32 a.1, .int .i64 a.2.1, .int .i64 a.2.2.1, .bool a.2.2.2.1, .bool a.2.2.2.2.1, .bool a.2.2.2.2.2]) (.agg #[.int .i32 b.1, .int .i64 b.2.1, .int .i64 b.2.2.1, .bool b.2.2.2.1, .bool b.2.2.2.2.1, .bool b.2.2.2.2.2])).run Tryz.prog w = .ok (.bool (decide (a = b))) w := by
  rw [run_eql_struct, cel_eqIn' 10000 (by decide)]; rfl
theorem cel_neq (a b : Cel) (w : World) : (binOp .neq 82 (.agg #[.int .i32 a.1, .int .i64 a.2.1, .int .i64 a.2.2.1, .bool a.2.2.2.1, .bool a.2.2.2.2.1, .bool a.2.2.2.2.2]) (.agg #[.int .i32 b.1, .int .i64 b.2.1, .int .i64 b.2.2.1, .bool b.2.2.2.1, .bool b.2.2.2.2.1, .bool b.2.2.2.2.2])).run Tryz.prog w = .ok (.bool (!decide (a = b))) w := by
  rw [run_neq_struct, cel_eqIn' 10000 (by decide)]; rfl
end Go.Proofs.YtpkjaallhhjleaaGreatDoor
