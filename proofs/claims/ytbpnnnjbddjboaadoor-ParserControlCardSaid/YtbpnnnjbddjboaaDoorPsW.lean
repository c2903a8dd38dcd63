/-
  What lies in memory where a parser's state and its answers lie: a state as a value; a row of actions, each with its own row of numbers. No call is walked here.
-/
import Derived.Test.YtbpnnnjbddjboaaDoorPsN
import Derived.Test.YtbpnnnjbddjboaaDoorRow
import Derived.Test.YtbpnnnjbddjboaaDoorList
namespace Go.Proofs.YtbpnnnjbddjboaaDoor
open Go.RowKit

abbrev AnyP : Nat → Prop := fun _ => True
abbrev FromP (n : Nat) : Nat → Prop := fun k => n ≤ k

/-- A state as the program has it. -/
def stN : Ps → Int
  | .zero => 0
  | .start _ => 1
  | .esc => 2
  | .seq _ _ => 3
  | .bad => 3
def stB : Ps → ByteArray
  | .zero => ⟨#[]⟩
  | .start s => s
  | .esc => ⟨#[]⟩
  | .seq pre x => rend pre x
  | .bad => ⟨#[63]⟩
def stV (p : Ps) : Value := .agg #[.int .i64 (stN p), .string (stB p)]

def actC (x : Ac × Value) : List Value := [.int .i64 (x.1.1 : Int), .int .i32 (x.1.2.1 : Int), x.2, .int .u8 (x.1.2.2.2 : Int)]
def NumsW (ok : Nat → Prop) (w : World) (v : Value) (l : List Nat) : Prop := RowV ok w v l.length (ints l) ∧ (l = [] → v = .slice none 0 0)
/-- A slice of these actions, in blocks of 'ok'. -/
def ActsW (ok : Nat → Prop) (w : World) (v : Value) (l : List Ac) : Prop :=
  ∃ xs : List (Ac × Value), xs.map Prod.fst = l ∧ RowV ok w v l.length (xs.flatMap actC) ∧ ∀ x ∈ xs, NumsW ok w x.2 x.1.2.2.1

theorem RowV.any {ok ok' : Nat → Prop} {w : World} {v : Value} {n : Nat} {cs : List Value} (h : RowV ok w v n cs) (hm : ∀ k, ok k → ok' k) : RowV ok' w v n cs := by
  obtain ⟨ao, cap, hv, hn, ho, hc⟩ := h
  exact ⟨ao, cap, hv, hn, fun a e => hm _ (ho a e), hc⟩
theorem RowV.below {ok : Nat → Prop} {w w' : World} {v : Value} {n : Nat} {cs : List Value} (h : RowV ok w v n cs) (hb : Below w.heap.size w w') : RowV ok w' v n cs := h.keep (keep_below ok hb)
theorem NumsW.nil (ok : Nat → Prop) (w : World) : NumsW ok w (.slice none 0 0) [] := ⟨RowV.nil ok w, fun _ => rfl⟩
theorem NumsW.keep {ok : Nat → Prop} {w w' : World} {v : Value} {l : List Nat} (h : NumsW ok w v l) (hk : KeepW ok w w') : NumsW ok w' v l := ⟨h.1.keep hk, h.2⟩
theorem NumsW.mono {ok ok' : Nat → Prop} {w : World} {v : Value} {l : List Nat} (h : NumsW ok w v l) (hm : ∀ k, k < w.heap.size → ok k → ok' k) : NumsW ok' w v l := by
  refine ⟨?_, h.2⟩
  cases l with
  | nil => rw [h.2 rfl]; exact RowV.nil ok' w
  | cons a l => exact h.1.mono hm (by show 0 < (ints (a :: l)).length; exact Nat.succ_pos _)
theorem ActsW.nil (ok : Nat → Prop) (w : World) : ActsW ok w (.slice none 0 0) [] := ⟨[], rfl, RowV.nil ok w, fun _ h => by cases h⟩
theorem ActsW.keep {ok : Nat → Prop} {w w' : World} {v : Value} {l : List Ac} (h : ActsW ok w v l) (hk : KeepW ok w w') : ActsW ok w' v l := by
  obtain ⟨xs, h1, h2, h3⟩ := h
  exact ⟨xs, h1, h2.keep hk, fun x hx => (h3 x hx).keep hk⟩
theorem ActsW.below {ok : Nat → Prop} {w w' : World} {v : Value} {l : List Ac} (h : ActsW ok w v l) (hb : Below w.heap.size w w') : ActsW ok w' v l := h.keep (keep_below ok hb)
theorem ActsW.any {ok ok' : Nat → Prop} {w : World} {v : Value} {l : List Ac} (h : ActsW ok w v l) (hm : ∀ k, ok k → ok' k) : ActsW ok' w v l := by
  obtain ⟨xs, h1, h2, h3⟩ := h
  exact ⟨xs, h1, h2.any hm, fun x hx => (h3 x hx).mono fun k _ => hm k⟩

theorem flat4_len : ∀ xs : List (Ac × Value), (xs.flatMap actC).length = xs.length * 4
  | [] => rfl
  | x :: xs => by rw [List.flatMap_cons, List.length_append, flat4_len xs, List.length_cons]; show 4 + _ = _; omega
theorem flat4_at : ∀ (xs : List (Ac × Value)) (i j : Nat) (x : Ac × Value), xs[i]? = some x → j < 4 → (xs.flatMap actC)[4 * i + j]? = (actC x)[j]?
  | [], i, j, x, h, _ => by simp at h
  | y :: xs, 0, j, x, h, hj => by
    simp at h
    subst h
    rw [List.flatMap_cons, Nat.mul_zero, Nat.zero_add, List.getElem?_append_left (by show j < 4; exact hj)]
  | y :: xs, i + 1, j, x, h, hj => by
    rw [List.flatMap_cons, List.getElem?_append_right (by show 4 ≤ _; omega), ← flat4_at xs i j x (by simpa using h) hj]
    congr 1
    show 4 * (i + 1) + j - 4 = _
    omega

/-- What stands at one place. -/
theorem ActsW.at_ {ok : Nat → Prop} {w : World} {v : Value} {l : List Ac} {i : Nat} {a : Ac} (h : ActsW ok w v l) (hi : l[i]? = some a) :
    ∃ g o cap pv, v = .slice (some ⟨g, o, none⟩) l.length cap ∧ l.length ≤ cap ∧ w.cell? ⟨g, o + 4 * i, none⟩ = some (.int .i64 (a.1 : Int)) ∧ w.cell? ⟨g, o + 4 * i + 1, none⟩ = some (.int .i32 (a.2.1 : Int)) ∧
      w.cell? ⟨g, o + 4 * i + 2, none⟩ = some pv ∧ w.cell? ⟨g, o + 4 * i + 3, none⟩ = some (.int .u8 (a.2.2.2 : Int)) ∧ NumsW ok w pv a.2.2.1 := by
  obtain ⟨xs, rfl, h2, h3⟩ := h
  rw [List.getElem?_map] at hi
  obtain ⟨x, hx, rfl⟩ := Option.map_eq_some_iff.1 hi
  have f := fun j hj => flat4_at xs i j x hx hj
  obtain ⟨g, o, cap, hv, hc, _, hh⟩ := h2.at_ (j := 4 * i + 0) (f 0 (by decide))
  refine ⟨g, o, cap, x.2, hv, hc, ?_, ?_, ?_, ?_, h3 x (List.mem_of_getElem? hx)⟩
  · exact hh (4 * i) _ (f 0 (by decide))
  · rw [Nat.add_assoc]; exact hh (4 * i + 1) _ (f 1 (by decide))
  · rw [Nat.add_assoc]; exact hh (4 * i + 2) _ (f 2 (by decide))
  · rw [Nat.add_assoc]; exact hh (4 * i + 3) _ (f 3 (by decide))
theorem ActsW.form {ok : Nat → Prop} {w : World} {v : Value} {l : List Ac} (h : ActsW ok w v l) : ∃ ao cap, v = .slice ao l.length cap ∧ l.length ≤ cap := by
  obtain ⟨_, _, ⟨ao, cap, hv, hn, _⟩, _⟩ := h
  exact ⟨ao, cap, hv, hn⟩

/-- One action alone, in a block of its own. -/
theorem acts_one {w : World} {pv : Value} {k r f : Nat} {ps : List Nat} {T : TypeId} {n : Nat} (hn : n ≤ w.heap.size) (hN : NumsW (FromP n) w pv ps) :
    ActsW (FromP n) (w.alloc (.cells #[.int .i64 (k : Int), .int .i32 (r : Int), pv, .int .u8 (f : Int)] T)) (.slice (some ⟨w.heap.size, 0, none⟩) 1 1) [(k, r, ps, f)] := by
  refine ⟨[((k, r, ps, f), pv)], rfl, ?_, fun x hx => ?_⟩
  · have := row_new (w := w) (cs := actC ((k, r, ps, f), pv)) (zs := []) (n := 1) (cap := 1) (e := T) (Nat.le_refl _)
    exact RowV.any this fun j hj => by rw [hj]; exact hn
  · rw [List.mem_singleton] at hx
    subst hx
    exact hN.keep (keep_below _ ((Below.refl _ _).alloc (Nat.le_refl _) _))
theorem convP_new (xs : List Int) (w : World) :
    (convert 46 9 (.slice (some ⟨w.heap.size, 0, none⟩) xs.length xs.length)).run Tryd.prog (w.alloc (.cells (xs.map (Value.int .u8)).toArray 5)) = .ok (.string (strOfNums xs)) (w.alloc (.cells (xs.map (Value.int .u8)).toArray 5)) :=
  run_convert_bytes_arg (P := Tryd.prog) _ 46 5 Tryd.underlying46 Tryd.underlying5 w.heap.size 0 xs.length xs.length xs rfl
    (fun i hi => by rw [cell_of_row _ _ _ (xs.map (Value.int .u8)).toArray 5 (0, 0) (heap_alloc_new w _)]; simp [List.getD, List.getElem?_map, List.getElem?_eq_getElem hi]) 9 Tryd.underlying9
theorem str_one (b : Nat) : strOfNums [(b : Int)] = oneB b := rfl
end Go.Proofs.YtbpnnnjbddjboaaDoor
