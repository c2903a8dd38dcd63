/-
  Texts of this proof, one behind the other; each begins with its own remark.
-/
import Derived.Test.YtpkjaallhhjleaaGreatDoorBa1
import Derived.Test.YtpkjaallhhjleaaGreatDoorBa5
/-
  Lists of ints in memory of the call's own; the places of a text as such a list; the last of them.
-/
namespace Go.Proofs.YtpkjaallhhjleaaGreatDoor
open Go.RowKit

theorem Tryz.infoInt : (Tryz.prog.info? 3).map (fun i => (i.zero, i.size, i.bytes)) = some (some (.int .i64 0), 1, 8) := by kernel_rfl

def ints (l : List Nat) : List Value := l.map fun (k : Nat) => .int .i64 (k : Int)

theorem ints_getD (l : List Nat) (k : Nat) (h : k < l.length) : (ints l)[k]? = some (.int .i64 ((l.getD k 0 : Nat) : Int)) := by
  unfold ints
  rw [List.getElem?_map, List.getElem?_eq_getElem h]
  simp [List.getD, List.getElem?_eq_getElem h]

theorem ownsRow_below {w w' : World} {B e size n : Nat} {v : Value} {xs : List Value} (h : w.ownsRow B e size v n xs) (hb : Below w.heap.size w w') : w'.ownsRow B e size v n xs := by
  refine ⟨h.1, ?_⟩
  rcases h.2 with h0 | ⟨g, cap, cur, hv, hg0, hg, rest⟩
  · exact .inl h0
  · exact .inr ⟨g, cap, cur, hv, hg0, (hb.block g (lt_of_block hg)).trans hg, rest⟩

theorem stL_lt (s : ByteArray) : ∀ f p, ∀ x ∈ stL s f p, x < s.size
  | 0, p, x, h => by simp [stL] at h
  | f + 1, p, x, h => by
    by_cases hp : p < s.size
    · rw [stL_step s f p hp] at h
      rcases List.mem_cons.1 h with rfl | h
      · exact hp
      · exact stL_lt s f _ x h
    · rw [stL_end s _ p hp] at h; simp at h

theorem stA_getD_lt (s : ByteArray) (j : Nat) (h : j < (stA s).length) : (stA s).getD j 0 < s.size := by
  rw [show (stA s).getD j 0 = (stA s)[j] by simp [List.getD, List.getElem?_eq_getElem h]]
  exact stL_lt s _ _ _ (List.getElem_mem h)

theorem allOk_drop (s : ByteArray) (l : List Nat) (j : Nat) (h : j < l.length) : allOk s (l.drop j) = (okAt s (l.getD j 0) && allOk s (l.drop (j + 1))) := by
  rw [List.drop_eq_getElem_cons h, allOk_cons]
  simp [List.getD, List.getElem?_eq_getElem h]

theorem slice_of {w : World} {B : Nat} {v : Value} {xs : List Nat} (ha : w.ownsRow B 3 1 v xs.length (ints xs)) :
    ∃ A ca, v = .slice A xs.length ca ∧ (xs.length = 0 ∨ ∃ g, A = some ⟨g, 0, none⟩ ∧ g < w.heap.size ∧ xs.length ≤ ca ∧ ca ≤ maxLen ∧ ∀ k, k < xs.length → w.cell? ⟨g, k, none⟩ = some (.int .i64 ((xs.getD k 0 : Nat) : Int))) := by
  rcases ha.2 with ⟨rfl, hn⟩ | ⟨g, ca, cura, rfl, _, hg, hca, hcma, _, _⟩
  · exact ⟨_, _, by rw [hn], .inl hn⟩
  · exact ⟨_, _, rfl, .inr ⟨g, rfl, lt_of_block hg, hca, hcma, fun k hk => by rw [ha.cellAt k (by omega)]; exact ints_getD xs k hk⟩⟩

/-- The last of the places from p on. -/
def lastL (s : ByteArray) : Nat → Nat → Nat → Nat
  | 0, _, a => a
  | f + 1, p, a => if p < s.size then lastL s f (p + (Utf8.decode s p).2) p else a

theorem lastL_end (s : ByteArray) (f p a : Nat) (h : ¬ p < s.size) : lastL s f p a = a := by
  cases f with
  | zero => rfl
  | succ f => simp [lastL, h]

theorem lastL_step (s : ByteArray) (f p a : Nat) (h : p < s.size) : lastL s (f + 1) p a = lastL s f (p + (Utf8.decode s p).2) p := by simp [lastL, h]

theorem lastL_lt (s : ByteArray) : ∀ f p a, a < s.size → lastL s f p a < s.size
  | 0, p, a, h => h
  | f + 1, p, a, h => by
    by_cases hp : p < s.size
    · rw [lastL_step s f p a hp]; exact lastL_lt s f _ _ hp
    · rw [lastL_end s _ p a hp]; exact h

def lastA (s : ByteArray) : Nat := lastL s s.size 0 0

theorem lastA_lt (s : ByteArray) (h : 0 < s.size) : lastA s < s.size := lastL_lt s _ _ _ h

theorem stL_last (s : ByteArray) : ∀ f p a, (stL s f p).getLastD a = lastL s f p a
  | 0, p, a => rfl
  | f + 1, p, a => by
    by_cases hp : p < s.size
    · rw [stL_step s f p hp, lastL_step s f p a hp, ← stL_last s f _ p]
      simp only [List.getLastD_cons]
    · rw [stL_end s _ p hp, lastL_end s _ p a hp]; rfl

theorem stA_pos (s : ByteArray) (h : 0 < s.size) : 0 < (stA s).length := by
  unfold stA
  obtain ⟨m, hm⟩ : ∃ m, s.size = m + 1 := ⟨s.size - 1, by omega⟩
  rw [hm, stL_step s m 0 h]
  simp

theorem stA_last (s : ByteArray) (h : 0 < s.size) : (stA s).getD ((stA s).length - 1) 0 = lastA s := by
  have h1 := stL_last s s.size 0 0
  have h2 := stA_pos s h
  show _ = lastL s s.size 0 0
  rw [← h1]
  show _ = (stA s).getLastD 0
  rw [List.getLastD_eq_getLast?, List.getLast?_eq_getElem?]
  rfl

end Go.Proofs.YtpkjaallhhjleaaGreatDoor

/-
  What lies in memory where a parser's state and its answers lie: a state as a value; a row of actions, each with its own row of numbers. No call is walked here.
-/
namespace Go.Proofs.YtpkjaallhhjleaaGreatDoor
open Go.RowKit

abbrev AnyP : Nat → Prop := fun _ => True
abbrev FromP (n : Nat) : Nat → Prop := fun k => n ≤ k

/-- A state as the program has it. -/
def stN : Ps → Int
  | .zero => 0
  | .start _ => 1
  | .esc => 2
  | .seq _ _ => 3
  | .bad => 3
def stB : Ps → ByteArray
  | .zero => ⟨#[]⟩
  | .start s => s
  | .esc => ⟨#[]⟩
  | .seq pre x => rend pre x
  | .bad => ⟨#[63]⟩
def stV (p : Ps) : Value := .agg #[.int .i64 (stN p), .string (stB p)]

def actC (x : Ac × Value) : List Value := [.int .i64 (x.1.1 : Int), .int .i32 (x.1.2.1 : Int), x.2, .int .u8 (x.1.2.2.2 : Int)]
def NumsW (ok : Nat → Prop) (w : World) (v : Value) (l : List Nat) : Prop := RowV ok w v l.length (ints l) ∧ (l = [] → v = .slice none 0 0)
/-- A slice of these actions, in blocks of 'ok'. -/
def ActsW (ok : Nat → Prop) (w : World) (v : Value) (l : List Ac) : Prop :=
  ∃ xs : List (Ac × Value), xs.map Prod.fst = l ∧ RowV ok w v l.length (xs.flatMap actC) ∧ ∀ x ∈ xs, NumsW ok w x.2 x.1.2.2.1

theorem RowV.any {ok ok' : Nat → Prop} {w : World} {v : Value} {n : Nat} {cs : List Value} (h : RowV ok w v n cs) (hm : ∀ k, ok k → ok' k) : RowV ok' w v n cs := by
  obtain ⟨ao, cap, hv, hn, ho, hc⟩ := h
  exact ⟨ao, cap, hv, hn, fun a e => hm _ (ho a e), hc⟩
theorem RowV.below {ok : Nat → Prop} {w w' : World} {v : Value} {n : Nat} {cs : List Value} (h : RowV ok w v n cs) (hb : Below w.heap.size w w') : RowV ok w' v n cs := h.keep (keep_below ok hb)
theorem NumsW.nil (ok : Nat → Prop) (w : World) : NumsW ok w (.slice none 0 0) [] := ⟨RowV.nil ok w, fun _ => rfl⟩
theorem NumsW.keep {ok : Nat → Prop} {w w' : World} {v : Value} {l : List Nat} (h : NumsW ok w v l) (hk : KeepW ok w w') : NumsW ok w' v l := ⟨h.1.keep hk, h.2⟩
theorem NumsW.mono {ok ok' : Nat → Prop} {w : World} {v : Value} {l : List Nat} (h : NumsW ok w v l) (hm : ∀ k, k < w.heap.size → ok k → ok' k) : NumsW ok' w v l := by
  refine ⟨?_, h.2⟩
  cases l with
  | nil => rw [h.2 rfl]; exact RowV.nil ok' w
  | cons a l => exact h.1.mono hm (by show 0 < (ints (a :: l)).length; exact Nat.succ_pos _)
theorem ActsW.nil (ok : Nat → Prop) (w : World) : ActsW ok w (.slice none 0 0) [] := ⟨[], rfl, RowV.nil ok w, fun _ h => by cases h⟩
theorem ActsW.keep {ok : Nat → Prop} {w w' : World} {v : Value} {l : List Ac} (h : ActsW ok w v l) (hk : KeepW ok w w') : ActsW ok w' v l := by
  obtain ⟨xs, h1, h2, h3⟩ := h
  exact ⟨xs, h1, h2.keep hk, fun x hx => (h3 x hx).keep hk⟩
theorem ActsW.below {ok : Nat → Prop} {w w' : World} {v : Value} {l : List Ac} (h : ActsW ok w v l) (hb : Below w.heap.size w w') : ActsW ok w' v l := h.keep (keep_below ok hb)
theorem ActsW.any {ok ok' : Nat → Prop} {w : World} {v : Value} {l : List Ac} (h : ActsW ok w v l) (hm : ∀ k, ok k → ok' k) : ActsW ok' w v l := by
  obtain ⟨xs, h1, h2, h3⟩ := h
  exact ⟨xs, h1, h2.any hm, fun x hx => (h3 x hx).mono fun k _ => hm k⟩

theorem flat4_len : ∀ xs : List (Ac × Value), (xs.flatMap actC).length = xs.length * 4
  | [] => rfl
  | x :: xs => by rw [List.flatMap_cons, List.length_append, flat4_len xs, List.length_cons]; show 4 + _ = _; omega
theorem flat4_at : ∀ (xs : List (Ac × Value)) (i j : Nat) (x : Ac × Value), xs[i]? = some x → j < 4 → (xs.flatMap actC)[4 * i + j]? = (actC x)[j]?
  | [], i, j, x, h, _ => by simp at h
  | y :: xs, 0, j, x, h, hj => by
    simp at h
    subst h
    rw [List.flatMap_cons, Nat.mul_zero, Nat.zero_add, List.getElem?_append_left (by show j < 4; exact hj)]
  | y :: xs, i + 1, j, x, h, hj => by
    rw [List.flatMap_cons, List.getElem?_append_right (by show 4 ≤ _; omega), ← flat4_at xs i j x (by simpa using h) hj]
    congr 1
    show 4 * (i + 1) + j - 4 = _
    omega

/-- What stands at one place. -/
theorem ActsW.at_ {ok : Nat → Prop} {w : World} {v : Value} {l : List Ac} {i : Nat} {a : Ac} (h : ActsW ok w v l) (hi : l[i]? = some a) :
    ∃ g o cap pv, v = .slice (some ⟨g, o, none⟩) l.length cap ∧ l.length ≤ cap ∧ w.cell? ⟨g, o + 4 * i, none⟩ = some (.int .i64 (a.1 : Int)) ∧ w.cell? ⟨g, o + 4 * i + 1, none⟩ = some (.int .i32 (a.2.1 : Int)) ∧
      w.cell? ⟨g, o + 4 * i + 2, none⟩ = some pv ∧ w.cell? ⟨g, o + 4 * i + 3, none⟩ = some (.int .u8 (a.2.2.2 : Int)) ∧ NumsW ok w pv a.2.2.1 := by
  obtain ⟨xs, rfl, h2, h3⟩ := h
  rw [List.getElem?_map] at hi
  obtain ⟨x, hx, rfl⟩ := Option.map_eq_some_iff.1 hi
  have f := fun j hj => flat4_at xs i j x hx hj
  obtain ⟨g, o, cap, hv, hc, _, hh⟩ := h2.at_ (j := 4 * i + 0) (f 0 (by decide))
  refine ⟨g, o, cap, x.2, hv, hc, ?_, ?_, ?_, ?_, h3 x (List.mem_of_getElem? hx)⟩
  · exact hh (4 * i) _ (f 0 (by decide))
  · rw [Nat.add_assoc]; exact hh (4 * i + 1) _ (f 1 (by decide))
  · rw [Nat.add_assoc]; exact hh (4 * i + 2) _ (f 2 (by decide))
  · rw [Nat.add_assoc]; exact hh (4 * i + 3) _ (f 3 (by decide))
theorem ActsW.form {ok : Nat → Prop} {w : World} {v : Value} {l : List Ac} (h : ActsW ok w v l) : ∃ ao cap, v = .slice ao l.length cap ∧ l.length ≤ cap := by
  obtain ⟨_, _, ⟨ao, cap, hv, hn, _⟩, _⟩ := h
  exact ⟨ao, cap, hv, hn⟩

/-- One action alone, in a block of its own. -/
theorem acts_one {w : World} {pv : Value} {k r f : Nat} {ps : List Nat} {T : TypeId} {n : Nat} (hn : n ≤ w.heap.size) (hN : NumsW (FromP n) w pv ps) :
    ActsW (FromP n) (w.alloc (.cells #[.int .i64 (k : Int), .int .i32 (r : Int), pv, .int .u8 (f : Int)] T)) (.slice (some ⟨w.heap.size, 0, none⟩) 1 1) [(k, r, ps, f)] := by
  refine ⟨[((k, r, ps, f), pv)], rfl, ?_, fun x hx => ?_⟩
  · have := row_new (w := w) (cs := actC ((k, r, ps, f), pv)) (zs := []) (n := 1) (cap := 1) (e := T) (Nat.le_refl _)
    exact RowV.any this fun j hj => by rw [hj]; exact hn
  · rw [List.mem_singleton] at hx
    subst hx
    exact hN.keep (keep_below _ ((Below.refl _ _).alloc (Nat.le_refl _) _))
theorem convP_new (xs : List Int) (w : World) :
    (convert 102 9 (.slice (some ⟨w.heap.size, 0, none⟩) xs.length xs.length)).run Tryz.prog (w.alloc (.cells (xs.map (Value.int .u8)).toArray 5)) = .ok (.string (strOfNums xs)) (w.alloc (.cells (xs.map (Value.int .u8)).toArray 5)) :=
  run_convert_bytes_arg (P := Tryz.prog) _ 102 5 Tryz.underlying102 Tryz.underlying5 w.heap.size 0 xs.length xs.length xs rfl
    (fun i hi => by rw [cell_of_row _ _ _ (xs.map (Value.int .u8)).toArray 5 (0, 0) (heap_alloc_new w _)]; simp [List.getD, List.getElem?_map, List.getElem?_eq_getElem hi]) 9 Tryz.underlying9
theorem str_one (b : Nat) : strOfNums [(b : Int)] = oneS b := rfl
end Go.Proofs.YtpkjaallhhjleaaGreatDoor

/-
  A box of a parser's state: the block known whole; what it holds behind its two stores; what Feed and its parts return. No call is walked here.
-/
namespace Go.Proofs.YtpkjaallhhjleaaGreatDoor
open Go.RowKit

def blk2 (w : World) (B : Nat) (x0 x1 : Value) : Prop := w.heap[B]? = some (.cells #[x0, x1] 45 (0, 0))
theorem blk2.set {w : World} {B : Nat} {x0 x1 : Value} (h : blk2 w B x0 x1) (i : Nat) (v : Value) : (w.setCell ⟨B, i, none⟩ v).heap[B]? = some (.cells (#[x0, x1].modify i fun _ => v) 45 (0, 0)) := by
  unfold blk2 at h
  show (w.heap.modify B _)[B]? = _
  have hlt := (Array.getElem?_eq_some_iff.1 h).1
  obtain ⟨_, he⟩ := Array.getElem?_eq_some_iff.1 h
  rw [Array.getElem?_eq_getElem (by rw [Array.size_modify]; exact hlt), Array.getElem_modify_self, he]
  rfl
theorem blk2.set0 {w : World} {B : Nat} {x0 x1 : Value} (h : blk2 w B x0 x1) (v : Value) : blk2 (w.setCell ⟨B, 0, none⟩ v) B v x1 := h.set 0 v
theorem blk2.set1 {w : World} {B : Nat} {x0 x1 : Value} (h : blk2 w B x0 x1) (v : Value) : blk2 (w.setCell ⟨B, 1, none⟩ v) B x0 v := h.set 1 v
theorem blk2.cells {w : World} {B : Nat} {x0 x1 : Value} (h : blk2 w B x0 x1) : (w.cell? ⟨B, 0, none⟩ = some x0 ∧ w.cell? ⟨B, 1, none⟩ = some x1) ∧ w.frozen? ⟨B, 0, none⟩ = false ∧ w.frozen? ⟨B, 1, none⟩ = false := by
  unfold blk2 at h
  refine ⟨⟨?_, ?_⟩, ?_, ?_⟩ <;> first | (unfold World.cell?; rw [h]; rfl) | (unfold World.frozen?; rw [h]; simp)
theorem blk2.lt {w : World} {B : Nat} {x0 x1 : Value} (h : blk2 w B x0 x1) : B < w.heap.size := (Array.getElem?_eq_some_iff.1 h).1
theorem blk2.below {w w' : World} {B : Nat} {x0 x1 : Value} (h : blk2 w B x0 x1) (hb : Below w.heap.size w w') : blk2 w' B x0 x1 := (hb.block B h.lt).trans h
theorem blk2.new (w : World) (x0 x1 : Value) : blk2 (w.alloc (.cells #[x0, x1] 45)) w.heap.size x0 x1 := heap_alloc_new w _

/-- What Feed and its parts return: where one stands, what is asked for, in blocks of the call's own. -/
def FedW (w : World) (r : Ps × List Ac) (e : Ending) (w' : World) : Prop := ∃ v, e = .returned (.tuple #[stV r.1, v]) ∧ ActsW (FromP w.heap.size) w' v r.2 ∧ Below w.heap.size w w'

theorem acts_from {n m : Nat} {w : World} {v : Value} {l : List Ac} (h : ActsW (FromP n) w v l) (hm : m ≤ n) : ActsW (FromP m) w v l := h.any fun _ hk => Nat.le_trans hm hk

/-- The two stores into the box of the result. -/
theorem box_end {w w1 : World} {Q : Nat} {b0 b1 v : Value} {l : List Ac} (x0 x1 : Value) (hB : blk2 w1 Q b0 b1) (hQ : w.heap.size ≤ Q) (hb : Below w.heap.size w w1) (hA : ActsW (FromP (Q + 1)) w1 v l) :
    (((w1.setCell ⟨Q, 0, none⟩ x0).setCell ⟨Q, 1, none⟩ x1).cell? ⟨Q, 0, none⟩ = some x0 ∧ ((w1.setCell ⟨Q, 0, none⟩ x0).setCell ⟨Q, 1, none⟩ x1).cell? ⟨Q, 1, none⟩ = some x1) ∧
      Below w.heap.size w ((w1.setCell ⟨Q, 0, none⟩ x0).setCell ⟨Q, 1, none⟩ x1) ∧ ActsW (FromP w.heap.size) ((w1.setCell ⟨Q, 0, none⟩ x0).setCell ⟨Q, 1, none⟩ x1) v l := by
  have k1 : KeepW (fun k => k ≠ Q) w1 ((w1.setCell ⟨Q, 0, none⟩ x0).setCell ⟨Q, 1, none⟩ x1) := (keep_set Q 0 none x0 w1 (fun h => h rfl)).trans (keep_set Q 1 none x1 _ (fun h => h rfl))
  refine ⟨((hB.set0 x0).set1 x1).cells.1, KeepW.below hb k1 hb.size (fun k hk => by omega), acts_from (hA.keep (k1.mono fun k _ hk => ?_)) (by omega)⟩
  have : Q + 1 ≤ k := hk
  show k ≠ Q
  omega
/-- The same, with the box as it is then, and the actions still in blocks behind it. -/
theorem box_mid {w w1 : World} {Q : Nat} {b0 b1 v : Value} {l : List Ac} (x0 x1 : Value) (hB : blk2 w1 Q b0 b1) (hQ : w.heap.size ≤ Q) (hb : Below w.heap.size w w1) (hA : ActsW (FromP (Q + 1)) w1 v l) :
    blk2 ((w1.setCell ⟨Q, 0, none⟩ x0).setCell ⟨Q, 1, none⟩ x1) Q x0 x1 ∧ Below w.heap.size w ((w1.setCell ⟨Q, 0, none⟩ x0).setCell ⟨Q, 1, none⟩ x1) ∧ ActsW (FromP (Q + 1)) ((w1.setCell ⟨Q, 0, none⟩ x0).setCell ⟨Q, 1, none⟩ x1) v l := by
  have k1 : KeepW (fun k => k ≠ Q) w1 ((w1.setCell ⟨Q, 0, none⟩ x0).setCell ⟨Q, 1, none⟩ x1) := (keep_set Q 0 none x0 w1 (fun h => h rfl)).trans (keep_set Q 1 none x1 _ (fun h => h rfl))
  refine ⟨(hB.set0 x0).set1 x1, KeepW.below hb k1 hb.size (fun k hk => by omega), hA.keep (k1.mono fun k _ hk => ?_)⟩
  have : Q + 1 ≤ k := hk
  show k ≠ Q
  omega
/-- Another box stays, whatever is stored into the box of the result. -/
theorem held_set {V : World} {P Q : Nat} {a b : Value} (x y : Value) (h : V.cell? ⟨P, 0, none⟩ = some a ∧ V.cell? ⟨P, 1, none⟩ = some b) (hne : P ≠ Q) :
    ((V.setCell ⟨Q, 0, none⟩ x).setCell ⟨Q, 1, none⟩ y).cell? ⟨P, 0, none⟩ = some a ∧ ((V.setCell ⟨Q, 0, none⟩ x).setCell ⟨Q, 1, none⟩ y).cell? ⟨P, 1, none⟩ = some b := by
  have k1 : KeepW (fun k => k ≠ Q) V ((V.setCell ⟨Q, 0, none⟩ x).setCell ⟨Q, 1, none⟩ y) := (keep_set Q 0 none x V (fun h => h rfl)).trans (keep_set Q 1 none y _ (fun h => h rfl))
  exact ⟨k1.cell h.1 hne, k1.cell h.2 hne⟩
/-- The box of the result as it is made. -/
theorem box_new (w : World) (x0 x1 : Value) : Below w.heap.size w (w.alloc (.cells #[x0, x1] 45)) ∧ (w.alloc (.cells #[x0, x1] 45)).heap.size = w.heap.size + 1 ∧ blk2 (w.alloc (.cells #[x0, x1] 45)) w.heap.size x0 x1 :=
  ⟨(Below.refl _ _).alloc (Nat.le_refl _) _, Array.size_push _, blk2.new w x0 x1⟩
/-- A box of the state that came in, and one of the result. -/
theorem box_new2 (w : World) (n x0 : Value) (x1 y : Value) : Below w.heap.size w ((w.alloc (.cells #[n, y] 45)).alloc (.cells #[x0, x1] 45)) ∧ ((w.alloc (.cells #[n, y] 45)).alloc (.cells #[x0, x1] 45)).heap.size = w.heap.size + 2 ∧
    blk2 ((w.alloc (.cells #[n, y] 45)).alloc (.cells #[x0, x1] 45)) w.heap.size n y ∧ blk2 ((w.alloc (.cells #[n, y] 45)).alloc (.cells #[x0, x1] 45)) (w.heap.size + 1) x0 x1 := by
  obtain ⟨a1, a2, a3⟩ := box_new w n y
  obtain ⟨b1, b2, b3⟩ := box_new (w.alloc (.cells #[n, y] 45)) x0 x1
  rw [a2] at b2 b3
  exact ⟨a1.trans (b1.mono a1.size), by rw [b2], a3.below b1, b3⟩
end Go.Proofs.YtpkjaallhhjleaaGreatDoor
