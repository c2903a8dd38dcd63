/-
  Texts of this proof, one behind the other; each begins with its own remark.
-/
import Derived.Deep.QuietTactic
import Derived.BigQuiet
import Derived.Deep.DeepFit
import Derived.Test.YtpkjaallhhjleaaGreatDoorBe7
import Derived.Test.YtpkjaallhhjleaaGreatDoorBe6
/-
  What lies in memory where a parser's state and its answers lie: a state as a value; a row of actions, each with its own row of numbers. No call is walked here.
-/
namespace Go.Proofs.YtpkjaallhhjleaaGreatDoor
open Go.RowKit

abbrev AnyP : Nat → Prop := fun _ => True
abbrev FromP (n : Nat) : Nat → Prop := fun k => n ≤ k

/-- A state as the program has it. -/
def stN : Ps → Int
  | .zero => 0
  | .start _ => 1
  | .esc => 2
  | .seq _ _ => 3
  | .bad => 3
def stB : Ps → ByteArray
  | .zero => ⟨#[]⟩
  | .start s => s
  | .esc => ⟨#[]⟩
  | .seq pre x => rend pre x
  | .bad => ⟨#[63]⟩
def stV (p : Ps) : Value := .agg #[.int .i64 (stN p), .string (stB p)]

def actC (x : Ac × Value) : List Value := [.int .i64 (x.1.1 : Int), .int .i32 (x.1.2.1 : Int), x.2, .int .u8 (x.1.2.2.2 : Int)]
def NumsW (ok : Nat → Prop) (w : World) (v : Value) (l : List Nat) : Prop := RowV ok w v l.length (ints l) ∧ (l = [] → v = .slice none 0 0)
/-- A slice of these actions, in blocks of 'ok'. -/
def ActsW (ok : Nat → Prop) (w : World) (v : Value) (l : List Ac) : Prop :=
  ∃ xs : List (Ac × Value), xs.map Prod.fst = l ∧ RowV ok w v l.length (xs.flatMap actC) ∧ ∀ x ∈ xs, NumsW ok w x.2 x.1.2.2.1

theorem RowV.any {ok ok' : Nat → Prop} {w : World} {v : Value} {n : Nat} {cs : List Value} (h : RowV ok w v n cs) (hm : ∀ k, ok k → ok' k) : RowV ok' w v n cs := by
  obtain ⟨ao, cap, hv, hn, ho, hc⟩ := h
  exact ⟨ao, cap, hv, hn, fun a e => hm _ (ho a e), hc⟩
theorem RowV.below {ok : Nat → Prop} {w w' : World} {v : Value} {n : Nat} {cs : List Value} (h : RowV ok w v n cs) (hb : Below w.heap.size w w') : RowV ok w' v n cs := h.keep (keep_below ok hb)
theorem NumsW.nil (ok : Nat → Prop) (w : World) : NumsW ok w (.slice none 0 0) [] := ⟨RowV.nil ok w, fun _ => rfl⟩
theorem NumsW.keep {ok : Nat → Prop} {w w' : World} {v : Value} {l : List Nat} (h : NumsW ok w v l) (hk : KeepW ok w w') : NumsW ok w' v l := ⟨h.1.keep hk, h.2⟩
theorem NumsW.mono {ok ok' : Nat → Prop} {w : World} {v : Value} {l : List Nat} (h : NumsW ok w v l) (hm : ∀ k, k < w.heap.size → ok k → ok' k) : NumsW ok' w v l := by
  refine ⟨?_, h.2⟩
  cases l with
  | nil => rw [h.2 rfl]; exact RowV.nil ok' w
  | cons a l => exact h.1.mono hm (by show 0 < (ints (a :: l)).length; exact Nat.succ_pos _)
theorem ActsW.nil (ok : Nat → Prop) (w : World) : ActsW ok w (.slice none 0 0) [] := ⟨[], rfl, RowV.nil ok w, fun _ h => by cases h⟩
theorem ActsW.keep {ok : Nat → Prop} {w w' : World} {v : Value} {l : List Ac} (h : ActsW ok w v l) (hk : KeepW ok w w') : ActsW ok w' v l := by
  obtain ⟨xs, h1, h2, h3⟩ := h
  exact ⟨xs, h1, h2.keep hk, fun x hx => (h3 x hx).keep hk⟩
theorem ActsW.below {ok : Nat → Prop} {w w' : World} {v : Value} {l : List Ac} (h : ActsW ok w v l) (hb : Below w.heap.size w w') : ActsW ok w' v l := h.keep (keep_below ok hb)
theorem ActsW.any {ok ok' : Nat → Prop} {w : World} {v : Value} {l : List Ac} (h : ActsW ok w v l) (hm : ∀ k, ok k → ok' k) : ActsW ok' w v l := by
  obtain ⟨xs, h1, h2, h3⟩ := h
  exact ⟨xs, h1, h2.any hm, fun x hx => (h3 x hx).mono fun k _ => hm k⟩

theorem flat4_len : ∀ xs : List (Ac × Value), (xs.flatMap actC).length = xs.length * 4
  | [] => rfl
  | x :: xs => by rw [List.flatMap_cons, List.length_append, flat4_len xs, List.length_cons]; show 4 + _ = _; omega
theorem flat4_at : ∀ (xs : List (Ac × Value)) (i j : Nat) (x : Ac × Value), xs[i]? = some x → j < 4 → (xs.flatMap actC)[4 * i + j]? = (actC x)[j]?
  | [], i, j, x, h, _ => by simp at h
  | y :: xs, 0, j, x, h, hj => by
    simp at h
    subst h
    rw [List.flatMap_cons, Nat.mul_zero, Nat.zero_add, List.getElem?_append_left (by show j < 4; exact hj)]
  | y :: xs, i + 1, j, x, h, hj => by
    rw [List.flatMap_cons, List.getElem?_append_right (by show 4 ≤ _; omega), ← flat4_at xs i j x (by simpa using h) hj]
    congr 1
    show 4 * (i + 1) + j - 4 = _
    omega

/-- What stands at one place. -/
theorem ActsW.at_ {ok : Nat → Prop} {w : World} {v : Value} {l : List Ac} {i : Nat} {a : Ac} (h : ActsW ok w v l) (hi : l[i]? = some a) :
    ∃ g o cap pv, v = .slice (some ⟨g, o, none⟩) l.length cap ∧ l.length ≤ cap ∧ w.cell? ⟨g, o + 4 * i, none⟩ = some (.int .i64 (a.1 : Int)) ∧ w.cell? ⟨g, o + 4 * i + 1, none⟩ = some (.int .i32 (a.2.1 : Int)) ∧
      w.cell? ⟨g, o + 4 * i + 2, none⟩ = some pv ∧ w.cell? ⟨g, o + 4 * i + 3, none⟩ = some (.int .u8 (a.2.2.2 : Int)) ∧ NumsW ok w pv a.2.2.1 := by
  obtain ⟨xs, rfl, h2, h3⟩ := h
  rw [List.getElem?_map] at hi
  obtain ⟨x, hx, rfl⟩ := Option.map_eq_some_iff.1 hi
  have f := fun j hj => flat4_at xs i j x hx hj
  obtain ⟨g, o, cap, hv, hc, _, hh⟩ := h2.at_ (j := 4 * i + 0) (f 0 (by decide))
  refine ⟨g, o, cap, x.2, hv, hc, ?_, ?_, ?_, ?_, h3 x (List.mem_of_getElem? hx)⟩
  · exact hh (4 * i) _ (f 0 (by decide))
  · rw [Nat.add_assoc]; exact hh (4 * i + 1) _ (f 1 (by decide))
  · rw [Nat.add_assoc]; exact hh (4 * i + 2) _ (f 2 (by decide))
  · rw [Nat.add_assoc]; exact hh (4 * i + 3) _ (f 3 (by decide))
theorem ActsW.form {ok : Nat → Prop} {w : World} {v : Value} {l : List Ac} (h : ActsW ok w v l) : ∃ ao cap, v = .slice ao l.length cap ∧ l.length ≤ cap := by
  obtain ⟨_, _, ⟨ao, cap, hv, hn, _⟩, _⟩ := h
  exact ⟨ao, cap, hv, hn⟩

/-- One action alone, in a block of its own. -/
theorem acts_one {w : World} {pv : Value} {k r f : Nat} {ps : List Nat} {T : TypeId} {n : Nat} (hn : n ≤ w.heap.size) (hN : NumsW (FromP n) w pv ps) :
    ActsW (FromP n) (w.alloc (.cells #[.int .i64 (k : Int), .int .i32 (r : Int), pv, .int .u8 (f : Int)] T)) (.slice (some ⟨w.heap.size, 0, none⟩) 1 1) [(k, r, ps, f)] := by
  refine ⟨[((k, r, ps, f), pv)], rfl, ?_, fun x hx => ?_⟩
  · have := row_new (w := w) (cs := actC ((k, r, ps, f), pv)) (zs := []) (n := 1) (cap := 1) (e := T) (Nat.le_refl _)
    exact RowV.any this fun j hj => by rw [hj]; exact hn
  · rw [List.mem_singleton] at hx
    subst hx
    exact hN.keep (keep_below _ ((Below.refl _ _).alloc (Nat.le_refl _) _))
theorem convP_new (xs : List Int) (w : World) :
    (convert 102 9 (.slice (some ⟨w.heap.size, 0, none⟩) xs.length xs.length)).run Tryz.prog (w.alloc (.cells (xs.map (Value.int .u8)).toArray 5)) = .ok (.string (strOfNums xs)) (w.alloc (.cells (xs.map (Value.int .u8)).toArray 5)) :=
  run_convert_bytes_arg (P := Tryz.prog) _ 102 5 Tryz.underlying102 Tryz.underlying5 w.heap.size 0 xs.length xs.length xs rfl
    (fun i hi => by rw [cell_of_row _ _ _ (xs.map (Value.int .u8)).toArray 5 (0, 0) (heap_alloc_new w _)]; simp [List.getD, List.getElem?_map, List.getElem?_eq_getElem hi]) 9 Tryz.underlying9
theorem str_one (b : Nat) : strOfNums [(b : Int)] = oneS b := rfl
end Go.Proofs.YtpkjaallhhjleaaGreatDoor

/-
  A box of a parser's state: the block known whole; what it holds behind its two stores; what Feed and its parts return. No call is walked here.
-/
namespace Go.Proofs.YtpkjaallhhjleaaGreatDoor
open Go.RowKit

def blk2 (w : World) (B : Nat) (x0 x1 : Value) : Prop := w.heap[B]? = some (.cells #[x0, x1] 45 (0, 0))
theorem blk2.set {w : World} {B : Nat} {x0 x1 : Value} (h : blk2 w B x0 x1) (i : Nat) (v : Value) : (w.setCell ⟨B, i, none⟩ v).heap[B]? = some (.cells (#[x0, x1].modify i fun _ => v) 45 (0, 0)) := by
  unfold blk2 at h
  show (w.heap.modify B _)[B]? = _
  have hlt := (Array.getElem?_eq_some_iff.1 h).1
  obtain ⟨_, he⟩ := Array.getElem?_eq_some_iff.1 h
  rw [Array.getElem?_eq_getElem (by rw [Array.size_modify]; exact hlt), Array.getElem_modify_self, he]
  rfl
theorem blk2.set0 {w : World} {B : Nat} {x0 x1 : Value} (h : blk2 w B x0 x1) (v : Value) : blk2 (w.setCell ⟨B, 0, none⟩ v) B v x1 := h.set 0 v
theorem blk2.set1 {w : World} {B : Nat} {x0 x1 : Value} (h : blk2 w B x0 x1) (v : Value) : blk2 (w.setCell ⟨B, 1, none⟩ v) B x0 v := h.set 1 v
theorem blk2.cells {w : World} {B : Nat} {x0 x1 : Value} (h : blk2 w B x0 x1) : (w.cell? ⟨B, 0, none⟩ = some x0 ∧ w.cell? ⟨B, 1, none⟩ = some x1) ∧ w.frozen? ⟨B, 0, none⟩ = false ∧ w.frozen? ⟨B, 1, none⟩ = false := by
  unfold blk2 at h
  refine ⟨⟨?_, ?_⟩, ?_, ?_⟩ <;> first | (unfold World.cell?; rw [h]; rfl) | (unfold World.frozen?; rw [h]; simp)
theorem blk2.lt {w : World} {B : Nat} {x0 x1 : Value} (h : blk2 w B x0 x1) : B < w.heap.size := (Array.getElem?_eq_some_iff.1 h).1
theorem blk2.below {w w' : World} {B : Nat} {x0 x1 : Value} (h : blk2 w B x0 x1) (hb : Below w.heap.size w w') : blk2 w' B x0 x1 := (hb.block B h.lt).trans h
theorem blk2.new (w : World) (x0 x1 : Value) : blk2 (w.alloc (.cells #[x0, x1] 45)) w.heap.size x0 x1 := heap_alloc_new w _

/-- What Feed and its parts return: where one stands, what is asked for, in blocks of the call's own. -/
def FedW (w : World) (r : Ps × List Ac) (e : Ending) (w' : World) : Prop := ∃ v, e = .returned (.tuple #[stV r.1, v]) ∧ ActsW (FromP w.heap.size) w' v r.2 ∧ Below w.heap.size w w'

theorem acts_from {n m : Nat} {w : World} {v : Value} {l : List Ac} (h : ActsW (FromP n) w v l) (hm : m ≤ n) : ActsW (FromP m) w v l := h.any fun _ hk => Nat.le_trans hm hk

/-- The two stores into the box of the result. -/
theorem box_end {w w1 : World} {Q : Nat} {b0 b1 v : Value} {l : List Ac} (x0 x1 : Value) (hB : blk2 w1 Q b0 b1) (hQ : w.heap.size ≤ Q) (hb : Below w.heap.size w w1) (hA : ActsW (FromP (Q + 1)) w1 v l) :
    (((w1.setCell ⟨Q, 0, none⟩ x0).setCell ⟨Q, 1, none⟩ x1).cell? ⟨Q, 0, none⟩ = some x0 ∧ ((w1.setCell ⟨Q, 0, none⟩ x0).setCell ⟨Q, 1, none⟩ x1).cell? ⟨Q, 1, none⟩ = some x1) ∧
      Below w.heap.size w ((w1.setCell ⟨Q, 0, none⟩ x0).setCell ⟨Q, 1, none⟩ x1) ∧ ActsW (FromP w.heap.size) ((w1.setCell ⟨Q, 0, none⟩ x0).setCell ⟨Q, 1, none⟩ x1) v l := by
  have k1 : KeepW (fun k => k ≠ Q) w1 ((w1.setCell ⟨Q, 0, none⟩ x0).setCell ⟨Q, 1, none⟩ x1) := (keep_set Q 0 none x0 w1 (fun h => h rfl)).trans (keep_set Q 1 none x1 _ (fun h => h rfl))
  refine ⟨((hB.set0 x0).set1 x1).cells.1, KeepW.below hb k1 hb.size (fun k hk => by omega), acts_from (hA.keep (k1.mono fun k _ hk => ?_)) (by omega)⟩
  have : Q + 1 ≤ k := hk
  show k ≠ Q
  omega
/-- The same, with the box as it is then, and the actions still in blocks behind it. -/
theorem box_mid {w w1 : World} {Q : Nat} {b0 b1 v : Value} {l : List Ac} (x0 x1 : Value) (hB : blk2 w1 Q b0 b1) (hQ : w.heap.size ≤ Q) (hb : Below w.heap.size w w1) (hA : ActsW (FromP (Q + 1)) w1 v l) :
    blk2 ((w1.setCell ⟨Q, 0, none⟩ x0).setCell ⟨Q, 1, none⟩ x1) Q x0 x1 ∧ Below w.heap.size w ((w1.setCell ⟨Q, 0, none⟩ x0).setCell ⟨Q, 1, none⟩ x1) ∧ ActsW (FromP (Q + 1)) ((w1.setCell ⟨Q, 0, none⟩ x0).setCell ⟨Q, 1, none⟩ x1) v l := by
  have k1 : KeepW (fun k => k ≠ Q) w1 ((w1.setCell ⟨Q, 0, none⟩ x0).setCell ⟨Q, 1, none⟩ x1) := (keep_set Q 0 none x0 w1 (fun h => h rfl)).trans (keep_set Q 1 none x1 _ (fun h => h rfl))
  refine ⟨(hB.set0 x0).set1 x1, KeepW.below hb k1 hb.size (fun k hk => by omega), hA.keep (k1.mono fun k _ hk => ?_)⟩
  have : Q + 1 ≤ k := hk
  show k ≠ Q
  omega
/-- Another box stays, whatever is stored into the box of the result. -/
theorem held_set {V : World} {P Q : Nat} {a b : Value} (x y : Value) (h : V.cell? ⟨P, 0, none⟩ = some a ∧ V.cell? ⟨P, 1, none⟩ = some b) (hne : P ≠ Q) :
    ((V.setCell ⟨Q, 0, none⟩ x).setCell ⟨Q, 1, none⟩ y).cell? ⟨P, 0, none⟩ = some a ∧ ((V.setCell ⟨Q, 0, none⟩ x).setCell ⟨Q, 1, none⟩ y).cell? ⟨P, 1, none⟩ = some b := by
  have k1 : KeepW (fun k => k ≠ Q) V ((V.setCell ⟨Q, 0, none⟩ x).setCell ⟨Q, 1, none⟩ y) := (keep_set Q 0 none x V (fun h => h rfl)).trans (keep_set Q 1 none y _ (fun h => h rfl))
  exact ⟨k1.cell h.1 hne, k1.cell h.2 hne⟩
/-- The box of the result as it is made. -/
theorem box_new (w : World) (x0 x1 : Value) : Below w.heap.size w (w.alloc (.cells #[x0, x1] 45)) ∧ (w.alloc (.cells #[x0, x1] 45)).heap.size = w.heap.size + 1 ∧ blk2 (w.alloc (.cells #[x0, x1] 45)) w.heap.size x0 x1 :=
  ⟨(Below.refl _ _).alloc (Nat.le_refl _) _, Array.size_push _, blk2.new w x0 x1⟩
/-- A box of the state that came in, and one of the result. -/
theorem box_new2 (w : World) (n x0 : Value) (x1 y : Value) : Below w.heap.size w ((w.alloc (.cells #[n, y] 45)).alloc (.cells #[x0, x1] 45)) ∧ ((w.alloc (.cells #[n, y] 45)).alloc (.cells #[x0, x1] 45)).heap.size = w.heap.size + 2 ∧
    blk2 ((w.alloc (.cells #[n, y] 45)).alloc (.cells #[x0, x1] 45)) w.heap.size n y ∧ blk2 ((w.alloc (.cells #[n, y] 45)).alloc (.cells #[x0, x1] 45)) (w.heap.size + 1) x0 x1 := by
  obtain ⟨a1, a2, a3⟩ := box_new w n y
  obtain ⟨b1, b2, b3⟩ := box_new (w.alloc (.cells #[n, y] 45)) x0 x1
  rw [a2] at b2 b3
  exact ⟨a1.trans (b1.mono a1.size), by rw [b2], a3.below b1, b3⟩
end Go.Proofs.YtpkjaallhhjleaaGreatDoor

/-
  parser.textOf, control, shown, invalid; limnerref07.one: what each call returns: for every byte, every rune.
-/
namespace Go.Proofs.YtpkjaallhhjleaaGreatDoor
open Go.RowKit

set_option maxHeartbeats 1000000 in
theorem textOf_any (b : Nat) (w : World) :
    Calls Tryz.prog 83 #[.int .u8 (b : Int)] w fun e w' => e = .returned (.string (oneS b)) ∧ Below w.heap.size w w' := by
  have cv := convP_new [(b : Int)] w
  rw [str_one] at cv
  simp only [List.map_cons, List.map_nil, List.length_cons, List.length_nil] at cv
  go_enter Tryz.func83, Tryz.ntmps83
  go_wp2
  go_ret
  exact ⟨rfl, (Below.refl _ _).alloc (Nat.le_refl _) _⟩

set_option maxHeartbeats 1000000 in
theorem control_any (b : Nat) (w : World) (hb : b < 256) :
    Calls Tryz.prog 84 #[.int .u8 (b : Int)] w fun e w' => ∃ v, e = .returned v ∧ ActsW (FromP w.heap.size) w' v [(2, b, [], 0)] ∧ (∃ a, v = .slice (some a) 1 1) ∧ Below w.heap.size w w' := by
  go_enter Tryz.func84, Tryz.ntmps84
  go_wp2
  go_ret
  exact ⟨_, rfl, acts_one (Nat.le_refl _) (NumsW.nil _ _), ⟨_, rfl⟩, (Below.refl _ _).alloc (Nat.le_refl _) _⟩

set_option maxHeartbeats 1000000 in
theorem pshown_any (r : Nat) (w : World) :
    Calls Tryz.prog 85 #[.int .i32 (r : Int)] w fun e w' => ∃ v, e = .returned v ∧ ActsW (FromP w.heap.size) w' v [(1, r, [], 0)] ∧ (∃ a, v = .slice (some a) 1 1) ∧ Below w.heap.size w w' := by
  go_enter Tryz.func85, Tryz.ntmps85
  go_wp2
  go_ret
  exact ⟨_, rfl, acts_one (Nat.le_refl _) (NumsW.nil _ _), ⟨_, rfl⟩, (Below.refl _ _).alloc (Nat.le_refl _) _⟩

set_option maxHeartbeats 1000000 in
theorem invalid_any (w : World) :
    Calls Tryz.prog 87 #[] w fun e w' => ∃ v, e = .returned v ∧ ActsW (FromP w.heap.size) w' v [badA] ∧ (∃ a, v = .slice (some a) 1 1) ∧ Below w.heap.size w w' := by
  go_enter Tryz.func87, Tryz.ntmps87
  go_wp2
  go_ret
  exact ⟨_, rfl, acts_one (Nat.le_refl _) (NumsW.nil _ _), ⟨_, rfl⟩, (Below.refl _ _).alloc (Nat.le_refl _) _⟩

set_option maxHeartbeats 1000000 in
theorem rone_any (k r : Nat) (w : World) :
    Calls Tryz.prog 64 #[.int .i64 (k : Int), .int .i32 (r : Int)] w fun e w' => ∃ v, e = .returned v ∧ ActsW (FromP w.heap.size) w' v [(k, r, [], 0)] ∧ (∃ a, v = .slice (some a) 1 1) ∧ Below w.heap.size w w' := by
  go_enter Tryz.func64, Tryz.ntmps64
  go_wp2
  go_ret
  exact ⟨_, rfl, acts_one (Nat.le_refl _) (NumsW.nil _ _), ⟨_, rfl⟩, (Below.refl _ _).alloc (Nat.le_refl _) _⟩
end Go.Proofs.YtpkjaallhhjleaaGreatDoor

/-
  utf8.FullRuneInString, parser.starts: what each call returns: for every text of a byte or more. The two tables of the library's package are laid.
-/
namespace Go.Proofs.YtpkjaallhhjleaaGreatDoor
open Go.RowKit

def fstB (b : Nat) : Nat := if b < 128 then 240 else if b < 194 then 241 else if b < 224 then 2 else if b = 224 then 19 else if b = 237 then 35 else if b < 240 then 3 else if b = 240 then 52 else if b < 244 then 4 else if b = 244 then 68 else 241
def accLo (i : Nat) : Nat := [128, 160, 128, 144, 128].getD i 0
def accHi (i : Nat) : Nat := [191, 191, 159, 191, 143].getD i 0
/-- What the two tables hold. -/
structure TabU (w : World) : Prop where
  lt : 3 < w.heap.size ∧ 4 < w.heap.size
  fst : ∀ k, k < 256 → w.cell? ⟨3, k, none⟩ = some (.int .u8 (fstB k : Nat))
  acc : ∀ i, i < 16 → w.cell? ⟨4, i * 2, none⟩ = some (.int .u8 (accLo i : Nat)) ∧ w.cell? ⟨4, i * 2 + 1, none⟩ = some (.int .u8 (accHi i : Nat))
theorem TabU.below {w w' : World} (h : TabU w) (hb : Below w.heap.size w w') : TabU w' :=
  ⟨⟨Nat.lt_of_lt_of_le h.lt.1 hb.size, Nat.lt_of_lt_of_le h.lt.2 hb.size⟩, fun k hk => by rw [hb.cell (p := ⟨3, k, none⟩) h.lt.1]; exact h.fst k hk,
    fun i hi => ⟨by rw [hb.cell (p := ⟨4, i * 2, none⟩) h.lt.2]; exact (h.acc i hi).1, by rw [hb.cell (p := ⟨4, i * 2 + 1, none⟩) h.lt.2]; exact (h.acc i hi).2⟩⟩

def sizN (b : Nat) : Nat := if b < 128 then 0 else if b < 194 then 1 else if b < 224 then 2 else if b < 240 then 3 else if b < 245 then 4 else 1
def accN (b : Nat) : Nat := if b = 224 then 1 else if b = 237 then 2 else if b = 240 then 3 else if b = 244 then 4 else if 194 ≤ b ∧ b < 245 then 0 else 15
theorem fst_bits : ∀ b : Fin 256, wrap64 (bits BinOp.and IntKind.u8 (fstB b.val : Nat) 7) = (sizN b.val : Int) := by decide +kernel
theorem fst_mod : ∀ b : Fin 256, (fstB b.val : Int) % 8 = (sizN b.val : Int) := by decide +kernel
theorem fst_shr : ∀ b : Fin 256, fstB b.val / 16 = accN b.val := by decide +kernel
theorem acc_lo : ∀ b : Fin 256, 194 ≤ b.val → b.val < 245 → accLo (accN b.val) = loB b.val ∧ accHi (accN b.val) = hiB b.val := by decide +kernel

set_option maxRecDepth 20000 in
set_option maxHeartbeats 4000000 in
theorem full_any (s : ByteArray) (w : World) (hT : TabU w) (h0 : 0 < s.size) (hs : s.size ≤ maxLen) :
    Calls Tryz.prog 110 #[.string s] w fun e w' => e = .returned (.bool (!begB s)) ∧ Below w.heap.size w w' := by
  unfold maxLen at hs
  have hl := bt_lt s 0
  have e0 : (s[0].toNat : Int) = (bt s 0 : Int) := by unfold bt; rw [show s.get! 0 = s[0] from get_at s 0 h0]
  obtain ⟨b, hb⟩ : ∃ b, bt s 0 = b := ⟨_, rfl⟩
  rw [hb] at hl e0
  have E0 := Lib.hid e0
  have c0 := hT.fst b hl
  have f1 := fst_bits ⟨b, hl⟩
  have f2 := fst_shr ⟨b, hl⟩
  have f3 := fst_mod ⟨b, hl⟩
  simp only at f1 f2 f3
  obtain ⟨F, hF⟩ : ∃ F : Nat, fstB b = F := ⟨_, rfl⟩
  rw [hF] at c0 f1 f2 f3
  have hN4 : sizN b ≤ 4 := by
    unfold sizN
    repeat' split
    all_goals omega
  by_cases h1 : sizN b ≤ s.size
  · have hR : Hid (begB s = false) := by
      refine decide_eq_false fun h => ?_
      have hz : sizN b ≤ s.size := h1
      unfold Beg at h
      rw [hb] at h
      unfold sizN at hz
      repeat' split at hz
      all_goals omega
    obtain ⟨N, hN⟩ : ∃ N, sizN b = N := ⟨_, rfl⟩
    rw [hN] at f1 h1 hN4
    have hq : wrap64 (bits BinOp.and IntKind.u8 (F : Int) 7) ≤ (s.size : Int) := Int.le_trans (Int.le_of_eq f1) (Int.ofNat_le.2 h1)
    clear hF hb hT f1 f2 f3 hN
    go_enter Tryz.func110, Tryz.ntmps110
    go_wp2_with fail
    go_ret
    exact ⟨by rw [hR.out]; rfl, Below.refl _ _⟩
  · have hb2 : 194 ≤ b ∧ b < 245 := by
      unfold sizN at h1
      repeat' split at h1
      all_goals omega
    have hA : accN b < 5 := by
      unfold accN
      repeat' split
      all_goals omega
    obtain ⟨a1, a2⟩ := hT.acc (accN b) (by omega)
    obtain ⟨e1, e2⟩ := acc_lo ⟨b, hl⟩ hb2.1 hb2.2
    simp only at e1 e2
    rw [e1] at a1
    rw [e2] at a2
    have HB2 := Lib.hid hb2
    have HB := Lib.hid hb
    obtain ⟨N, hN⟩ : ∃ N, sizN b = N := ⟨_, rfl⟩
    obtain ⟨A, hA2⟩ : ∃ A, accN b = A := ⟨_, rfl⟩
    obtain ⟨Lo, hLo⟩ : ∃ Lo, loB b = Lo := ⟨_, rfl⟩
    obtain ⟨Hi, hHi⟩ : ∃ Hi, hiB b = Hi := ⟨_, rfl⟩
    rw [hN] at f1 f3 h1 hN4
    rw [hA2] at f2 a1 a2 hA
    rw [hLo] at a1
    rw [hHi] at a2
    have HN := Lib.hid hN
    have HLo := Lib.hid hLo
    have HHi := Lib.hid hHi
    have hq : (s.size : Int) < wrap64 (bits BinOp.and IntKind.u8 (F : Int) 7) := Int.lt_of_lt_of_le (Int.ofNat_lt.2 (Nat.lt_of_not_le h1)) (Int.le_of_eq f1.symm)
    have hq2 : (s.size : Int) < (F : Int) % 8 := Int.lt_of_lt_of_le (Int.ofNat_lt.2 (Nat.lt_of_not_le h1)) (Int.le_of_eq f3.symm)
    rw [← f2] at a1 a2
    have h16 : (F : Int) / 16 < 16 := by omega
    have h17 : (0 : Int) ≤ (F : Int) / 16 := by omega
    clear hF hb hT e1 e2 hb2 hN hA2 hLo hHi f1 f2 f3
    have HX := Lib.hid (fun (r : Bool) (h : r = true ↔ Beg s) => (show begB s = r by unfold begB; cases r <;> simp_all))
    have HS : Hid (s.size < N ∧ N ≤ 4 ∧ (N = if b < 224 then 2 else if b < 240 then 3 else 4)) := by
      have h2 := HN.out
      have h3 := HB2.out
      refine ⟨by omega, hN4, ?_⟩
      unfold sizN at h2
      rw [if_neg (by omega), if_neg (by omega)] at h2
      rw [← h2]
      repeat' split
      all_goals omega
    by_cases n1 : 1 < s.size
    · have eb : (s[1].toNat : Int) = (bt s 1 : Int) := by unfold bt; rw [show s.get! 1 = s[1] from get_at s 1 n1]
      obtain ⟨c, hc⟩ : ∃ c, bt s 1 = c := ⟨_, rfl⟩
      rw [hc] at eb
      have n1i : (1 : Int) < (s.size : Int) := by omega
      have HC := Lib.hid hc
      clear hc
      by_cases l1 : c < Lo
      · have HR : Hid (begB s = false) := HX.out false (by
          have := HC.out; have := HLo.out; have := HHi.out; have := HS.out; have := HB2.out
          unfold Beg
          rw [HB.out]
          simp only [Bool.false_eq_true, false_iff]
          omega)
        have l1i : (c : Int) < (Lo : Int) := by omega
        clear HX HS HN HLo HHi HB HC
        go_enter Tryz.func110, Tryz.ntmps110
        go_wp2_with fail
        go_quiet (fail)
        go_wp2_with fail
        go_ret
        exact ⟨by rw [HR.out]; rfl, below_drewN ((Below.refl _ w).alloc (Nat.le_refl _) _) nq⟩
      · have l1i : (Lo : Int) ≤ (c : Int) := by omega
        by_cases l2 : Hi < c
        · have HR : Hid (begB s = false) := HX.out false (by
            have := HC.out; have := HLo.out; have := HHi.out; have := HS.out; have := HB2.out
            unfold Beg
            rw [HB.out]
            simp only [Bool.false_eq_true, false_iff]
            omega)
          have l2i : (Hi : Int) < (c : Int) := by omega
          clear HX HS HN HLo HHi HB HC
          go_enter Tryz.func110, Tryz.ntmps110
          go_wp2_with fail
          go_quiet (fail)
          go_wp2_with fail
          go_ret
          exact ⟨by rw [HR.out]; rfl, below_drewN ((Below.refl _ w).alloc (Nat.le_refl _) _) nq⟩
        · have l2i : (c : Int) ≤ (Hi : Int) := by omega
          by_cases n2 : 2 < s.size
          · have ed : (s[2].toNat : Int) = (bt s 2 : Int) := by unfold bt; rw [show s.get! 2 = s[2] from get_at s 2 n2]
            obtain ⟨d, hd⟩ : ∃ d, bt s 2 = d := ⟨_, rfl⟩
            rw [hd] at ed
            have n2i : (2 : Int) < (s.size : Int) := by omega
            have HD := Lib.hid hd
            clear hd
            by_cases l3 : d < 128
            · have HR : Hid (begB s = false) := HX.out false (by
                have := HC.out; have := HLo.out; have := HHi.out; have := HS.out; have := HB2.out; have := HD.out
                unfold Beg
                rw [HB.out]
                simp only [Bool.false_eq_true, false_iff]
                omega)
              have l3i : (d : Int) < 128 := by omega
              clear HX HS HN HLo HHi HB HC HD
              go_enter Tryz.func110, Tryz.ntmps110
              go_wp2_with fail
              go_quiet (fail)
              go_wp2_with fail
              go_ret
              exact ⟨by rw [HR.out]; rfl, below_drewN ((Below.refl _ w).alloc (Nat.le_refl _) _) nq⟩
            · have l3i : (128 : Int) ≤ (d : Int) := by omega
              by_cases l4 : 191 < d
              · have HR : Hid (begB s = false) := HX.out false (by
                  have := HC.out; have := HLo.out; have := HHi.out; have := HS.out; have := HB2.out; have := HD.out
                  unfold Beg
                  rw [HB.out]
                  simp only [Bool.false_eq_true, false_iff]
                  omega)
                have l4i : (191 : Int) < (d : Int) := by omega
                clear HX HS HN HLo HHi HB HC HD
                go_enter Tryz.func110, Tryz.ntmps110
                go_wp2_with fail
                go_quiet (fail)
                go_wp2_with fail
                go_ret
                exact ⟨by rw [HR.out]; rfl, below_drewN ((Below.refl _ w).alloc (Nat.le_refl _) _) nq⟩
              · have l4i : (d : Int) ≤ 191 := by omega
                have HR : Hid (begB s = true) := HX.out true (by
                  have := HC.out; have := HLo.out; have := HHi.out; have hs := HS.out; have := HB2.out; have := HD.out
                  unfold Beg
                  rw [HB.out]
                  simp only [true_iff]
                  obtain ⟨s1, s2, s3⟩ := hs
                  split at s3 <;> try split at s3
                  all_goals omega)
                clear HX HS HN HLo HHi HB HC HD
                go_enter Tryz.func110, Tryz.ntmps110
                go_wp2_with fail
                go_quiet (fail)
                go_wp2_with fail
                go_ret
                exact ⟨by rw [HR.out]; rfl, below_drewN ((Below.refl _ w).alloc (Nat.le_refl _) _) nq⟩
          · have n2i : (s.size : Int) ≤ 2 := by omega
            have HR : Hid (begB s = true) := HX.out true (by
              have := HC.out; have := HLo.out; have := HHi.out; have hs := HS.out; have := HB2.out
              unfold Beg
              rw [HB.out]
              simp only [true_iff]
              obtain ⟨s1, s2, s3⟩ := hs
              split at s3 <;> try split at s3
              all_goals omega)
            clear HX HS HN HLo HHi HB HC
            go_enter Tryz.func110, Tryz.ntmps110
            go_wp2_with fail
            go_quiet (fail)
            go_wp2_with fail
            go_ret
            exact ⟨by rw [HR.out]; rfl, below_drewN ((Below.refl _ w).alloc (Nat.le_refl _) _) nq⟩
    · have n1i : (s.size : Int) ≤ 1 := by omega
      have n1d : decide ((1 : Int) < (s.size : Int)) = false := decide_eq_false (by omega)
      have n2i : (s.size : Int) ≤ 2 := by omega
      have HR : Hid (begB s = true) := HX.out true (by
        have := HB2.out
        unfold Beg
        rw [HB.out]
        simp only [true_iff]
        omega)
      clear HX HS HN HLo HHi HB
      go_enter Tryz.func110, Tryz.ntmps110
      go_wp2_with fail
      go_quiet (fail)
      go_wp2_with fail
      go_ret
      exact ⟨by rw [HR.out]; rfl, below_drewN ((Below.refl _ w).alloc (Nat.le_refl _) _) nq⟩
set_option maxHeartbeats 1000000 in
theorem starts_any (s : ByteArray) (w : World) (hT : TabU w) (h0 : 0 < s.size) (hs : s.size ≤ maxLen) :
    Calls Tryz.prog 86 #[.string s] w fun e w' => e = .returned (.bool (begB s)) ∧ Below w.heap.size w w' := by
  have H := Lib.hid (full_any s w hT h0 hs)
  clear hT h0 hs
  go_enter Tryz.func86, Tryz.ntmps86
  go_wp2_with fail
  go_fit (H.out)
  rintro e w' ⟨rfl, hb⟩
  go_wp2_with fail
  go_ret
  exact ⟨by cases begB s <;> rfl, hb⟩
end Go.Proofs.YtpkjaallhhjleaaGreatDoor
