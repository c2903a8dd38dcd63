/-
  Texts of this proof, one behind the other; each begins with its own remark.
-/
import Derived.ProofKit
import Derived.Lib.Hide
import Derived.Lib.TrimU
import Derived.Test.YtkopbngnhgdfhaaDoorRows
import Derived.WalkKit
import Derived.WalkSpells
import Derived.WalkLawsBesides
import Derived.Lib.OthersKept
import Derived.Deep.QuietTactic
import Derived.Deep.RegionHeld3
import Derived.BigQuiet
import Derived.WalkSmall
import Derived.Deep.DeepFit
/-
  Plain facts on a row of byte strings: where a place lies in it, what stands ahead of it and behind it, how many strings are left. Nothing of the program.
-/
namespace Go.Proofs.YtkopbngnhgdfhaaDoor
open Go.Lib

/-- The bytes of a row of strings, one behind the other. -/
def cat (xs : List ByteArray) : List UInt8 := (xs.map fun x => x.data.toList).flatten
theorem cat_nil : cat [] = [] := rfl
theorem cat_cons (x : ByteArray) (xs : List ByteArray) : cat (x :: xs) = x.data.toList ++ cat xs := rfl
theorem cat_app (xs ys : List ByteArray) : cat (xs ++ ys) = cat xs ++ cat ys := by
  unfold cat; rw [List.map_append, List.flatten_append]
theorem len_bytes (x : ByteArray) : x.data.toList.length = x.size := by rw [Array.length_toList]; rfl
theorem cat_one (x : ByteArray) : cat [x] = x.data.toList := by rw [cat_cons, cat_nil, List.append_nil]

/-- No string is empty. -/
def full (xs : List ByteArray) : Prop := ∀ x ∈ xs, 0 < x.size
theorem full_tail {x : ByteArray} {xs : List ByteArray} (h : full (x :: xs)) : full xs := fun y hy => h y (List.mem_cons_of_mem _ hy)
theorem full_head {x : ByteArray} {xs : List ByteArray} (h : full (x :: xs)) : 0 < x.size := h x (List.mem_cons_self ..)
theorem full_nil : full [] := fun _ h => by cases h
theorem full_app {xs ys : List ByteArray} (h : full xs) (g : full ys) : full (xs ++ ys) := fun x hx => by
  rcases List.mem_append.1 hx with hx | hx
  · exact h x hx
  · exact g x hx
theorem full_cons {x : ByteArray} {xs : List ByteArray} (h : 0 < x.size) (g : full xs) : full (x :: xs) := fun y hy => by
  rcases List.mem_cons.1 hy with rfl | hy
  · exact h
  · exact g y hy
theorem count_le {xs : List ByteArray} (h : full xs) : xs.length ≤ (cat xs).length := by
  induction xs with
  | nil => exact Nat.zero_le _
  | cons x xs ih =>
    have h1 := full_head h
    have h2 := ih (full_tail h)
    rw [cat_cons, List.length_append, len_bytes, List.length_cons]; omega

/-- The string in which a place lies, or ahead of which; how far from its front. -/
def findL : List ByteArray → Nat → Nat × Nat
  | [], _ => (0, 0)
  | x :: xs, n => if n < x.size then (0, n) else ((findL xs (n - x.size)).1 + 1, (findL xs (n - x.size)).2)
def aheadL : List ByteArray → Nat → List ByteArray
  | [], _ => []
  | x :: xs, n => if n < x.size then (if n = 0 then [] else [x.extract 0 n]) else x :: aheadL xs (n - x.size)
def behindL : List ByteArray → Nat → List ByteArray
  | [], _ => []
  | x :: xs, n => if n < x.size then (if n = 0 then x :: xs else x.extract n x.size :: xs) else behindL xs (n - x.size)

theorem ex_data (x : ByteArray) (a b : Nat) : (x.extract a b).data.toList = (x.data.toList.drop a).take (b - a) := Lib.extract_data x a b
theorem ex_size (x : ByteArray) (a b : Nat) (h : b ≤ x.size) : (x.extract a b).size = b - a := by
  rw [← len_bytes, ex_data, List.length_take, List.length_drop, len_bytes]; omega

theorem ahead_cat : ∀ xs n, cat (aheadL xs n) = (cat xs).take n
  | [], n => by simp [aheadL, cat_nil]
  | x :: xs, n => by
    have hl := len_bytes x
    unfold aheadL
    by_cases h : n < x.size
    · by_cases h0 : n = 0
      · subst h0; rw [if_pos h, if_pos rfl]; simp [cat_nil]
      · rw [if_pos h, if_neg h0, cat_one, ex_data, cat_cons, List.drop_zero, Nat.sub_zero, List.take_append_of_le_length (by omega)]
    · rw [if_neg h, cat_cons, cat_cons, ahead_cat xs, List.take_append, List.take_of_length_le (show x.data.toList.length ≤ n by omega), hl]
theorem behind_cat : ∀ xs n, cat (behindL xs n) = (cat xs).drop n
  | [], n => by simp [behindL, cat_nil]
  | x :: xs, n => by
    have hl := len_bytes x
    unfold behindL
    by_cases h : n < x.size
    · by_cases h0 : n = 0
      · subst h0; rw [if_pos h, if_pos rfl, List.drop_zero]
      · rw [if_pos h, if_neg h0, cat_cons, cat_cons, ex_data, List.drop_append_of_le_length (by omega), List.take_of_length_le (by rw [List.length_drop]; omega)]
    · rw [if_neg h, cat_cons, behind_cat xs, List.drop_append, hl, List.drop_of_length_le (show x.data.toList.length ≤ n by omega), List.nil_append]

theorem ahead_full : ∀ xs n, full xs → full (aheadL xs n)
  | [], n, h => full_nil
  | x :: xs, n, h => by
    unfold aheadL
    by_cases h1 : n < x.size
    · by_cases h0 : n = 0
      · rw [if_pos h1, if_pos h0]; exact full_nil
      · rw [if_pos h1, if_neg h0]; exact full_cons (by rw [ex_size _ _ _ (by omega)]; omega) full_nil
    · rw [if_neg h1]; exact full_cons (full_head h) (ahead_full xs _ (full_tail h))
theorem behind_full : ∀ xs n, full xs → full (behindL xs n)
  | [], n, h => full_nil
  | x :: xs, n, h => by
    unfold behindL
    by_cases h1 : n < x.size
    · by_cases h0 : n = 0
      · rw [if_pos h1, if_pos h0]; exact h
      · rw [if_pos h1, if_neg h0]; exact full_cons (by rw [ex_size _ _ _ (by omega)]; omega) (full_tail h)
    · rw [if_neg h1]; exact behind_full xs _ (full_tail h)

theorem behind_len : ∀ xs n, (behindL xs n).length ≤ xs.length
  | [], n => Nat.le_refl _
  | x :: xs, n => by
    have := behind_len xs (n - x.size)
    unfold behindL
    repeat' split
    all_goals simp only [List.length_cons] at *
    all_goals omega
theorem cut_len : ∀ xs m n, m ≤ n → (aheadL xs m).length + (behindL xs n).length ≤ xs.length + 1
  | [], m, n, h => by simp [aheadL, behindL]
  | x :: xs, m, n, h => by
    have h1 := behind_len xs (n - x.size)
    have h2 := cut_len xs (m - x.size) (n - x.size) (by omega)
    unfold aheadL behindL
    by_cases e : m < x.size
    · rw [if_pos e]
      repeat' split
      all_goals simp only [List.length_cons, List.length_nil] at *
      all_goals omega
    · rw [if_neg e, if_neg (show ¬ n < x.size by omega)]
      simp only [List.length_cons]; omega

/-- What the place that was found says of the strings ahead and behind. -/
theorem find_says : ∀ xs n, full xs → (findL xs n).1 ≤ xs.length ∧
    ((findL xs n).2 = 0 → aheadL xs n = xs.take (findL xs n).1 ∧ behindL xs n = xs.drop (findL xs n).1) ∧
    (0 < (findL xs n).2 → ∃ x, xs[(findL xs n).1]? = some x ∧ (findL xs n).2 < x.size ∧ (findL xs n).1 < xs.length ∧ aheadL xs n = xs.take (findL xs n).1 ++ [x.extract 0 (findL xs n).2] ∧ behindL xs n = x.extract (findL xs n).2 x.size :: xs.drop ((findL xs n).1 + 1))
  | [], n, _ => by simp [findL, aheadL, behindL]
  | x :: xs, n, hf => by
    obtain ⟨h1, h2, h3⟩ := find_says xs (n - x.size) (full_tail hf)
    have hx := full_head hf
    by_cases h : n < x.size
    · have e : findL (x :: xs) n = (0, n) := by unfold findL; rw [if_pos h]
      rw [e]
      refine ⟨Nat.zero_le _, fun h0 => ?_, fun h0 => ⟨x, rfl, h, by simp, ?_⟩⟩
      · have h0' : n = 0 := h0
        subst h0'
        unfold aheadL behindL
        rw [if_pos h, if_pos rfl, if_pos h, if_pos rfl]
        exact ⟨rfl, rfl⟩
      · have h0' : n ≠ 0 := Nat.pos_iff_ne_zero.1 h0
        unfold aheadL behindL
        rw [if_pos h, if_neg h0', if_pos h, if_neg h0']
        exact ⟨rfl, rfl⟩
    · have e : findL (x :: xs) n = ((findL xs (n - x.size)).1 + 1, (findL xs (n - x.size)).2) := by rw [findL]; rw [if_neg h]
      rw [e]
      refine ⟨by simpa using h1, fun h0 => ?_, fun h0 => ?_⟩
      · obtain ⟨g1, g2⟩ := h2 h0
        unfold aheadL behindL
        rw [if_neg h, if_neg h, g1, g2]
        exact ⟨rfl, rfl⟩
      · obtain ⟨y, g1, g2, g3, g4, g5⟩ := h3 h0
        refine ⟨y, by simpa using g1, g2, by simpa using g3, ?_⟩
        unfold aheadL behindL
        rw [if_neg h, if_neg h, g4, g5]
        exact ⟨rfl, rfl⟩

/-- From string i on: what is still to be found. -/
theorem find_step (xs : List ByteArray) (i n : Nat) (x : ByteArray) (hx : xs[i]? = some x) (h : ¬ n < x.size) :
    findL (xs.drop i) n = ((findL (xs.drop (i + 1)) (n - x.size)).1 + 1, (findL (xs.drop (i + 1)) (n - x.size)).2) := by
  obtain ⟨hi, hx'⟩ := List.getElem?_eq_some_iff.1 hx
  rw [List.drop_eq_getElem_cons hi, hx', findL, if_neg h]
theorem find_here (xs : List ByteArray) (i n : Nat) (x : ByteArray) (hx : xs[i]? = some x) (h : n < x.size) : findL (xs.drop i) n = (0, n) := by
  obtain ⟨hi, hx'⟩ := List.getElem?_eq_some_iff.1 hx
  rw [List.drop_eq_getElem_cons hi, hx', findL, if_pos h]
theorem find_end (xs : List ByteArray) (i n : Nat) (h : ¬ i < xs.length) : findL (xs.drop i) n = (0, 0) := by
  rw [List.drop_of_length_le (by omega)]; rfl
theorem cat_step (xs : List ByteArray) (i : Nat) (x : ByteArray) (hx : xs[i]? = some x) : cat (xs.take (i + 1)) = cat (xs.take i) ++ x.data.toList := by
  obtain ⟨hi, hx'⟩ := List.getElem?_eq_some_iff.1 hx
  rw [List.take_add_one, cat_app, List.getElem?_eq_getElem hi, hx']
  show _ ++ cat [x] = _
  rw [cat_one]
theorem cat_take_le (xs : List ByteArray) (i : Nat) : (cat (xs.take i)).length ≤ (cat xs).length := by
  have h := congrArg List.length (cat_app (xs.take i) (xs.drop i))
  rw [List.take_append_drop, List.length_append] at h
  omega

theorem ba_ext {a b : ByteArray} (h : a.data.toList = b.data.toList) : a = b := by
  cases a; cases b; congr; exact Array.toList_inj.1 h
theorem ba_empty {x : ByteArray} (h : x.size = 0) : x = ⟨#[]⟩ := by
  apply ba_ext
  have := len_bytes x
  exact List.eq_nil_of_length_eq_zero (by omega)

theorem ba_ne {x : ByteArray} (h : 0 < x.size) : x.toList.isEmpty = false := by
  have := len_bytes x
  rw [Lib.toList_data]
  cases hl : x.data.toList with
  | nil => rw [hl] at this; simp at this; omega
  | cons _ _ => rfl
end Go.Proofs.YtkopbngnhgdfhaaDoor

/-
  What lies in memory where a text of pieces lies: its three fields, and a row of strings; that it stays while only new memory is made. No call is walked here.
-/
namespace Go.Proofs.YtkopbngnhgdfhaaDoor
open Go.RowKit

theorem cell_lt {w : World} {p : Addr} {v : Value} (h : w.cell? p = some v) : p.block < w.heap.size := World.block_lt_of_cell? w p h

theorem below_drewN (w : World) (n : Nat) : Below w.heap.size w (w.drewN n) := ⟨rfl, rfl, rfl, Nat.le_refl _, fun _ _ => rfl⟩

/-- A slice of strings: what it holds. -/
def StrsW (w : World) (v : Value) (xs : List ByteArray) : Prop :=
  ∃ ao cap, v = .slice ao xs.length cap ∧ xs.length ≤ cap ∧ ∀ (i : Nat) x, xs[i]? = some x → ∃ g o, ao = some ⟨g, o, none⟩ ∧ w.cell? ⟨g, o + i, none⟩ = some (.string x)
theorem StrsW.below {w w' : World} {v : Value} {xs : List ByteArray} (h : StrsW w v xs) (hb : Below w.heap.size w w') : StrsW w' v xs := by
  obtain ⟨ao, cap, hv, hc, hs⟩ := h
  refine ⟨ao, cap, hv, hc, fun i x hx => ?_⟩
  obtain ⟨g, o, ha, hg⟩ := hs i x hx
  exact ⟨g, o, ha, by rw [hb.cell (p := ⟨g, o + i, none⟩) (cell_lt hg)]; exact hg⟩
theorem StrsW.nil (w : World) : StrsW w (.slice none 0 0) [] := ⟨none, 0, rfl, Nat.le_refl _, fun i x h => by simp at h⟩

/-- A text of pieces: its bytes, how many pieces. -/
def TextW (w : World) (v : Value) (s : ByteArray) (n : Nat) : Prop :=
  ∃ b sl xs, v = .pointer (some ⟨b, 0, none⟩) ∧ w.cell? ⟨b, 0, none⟩ = some (.bool true) ∧ w.cell? ⟨b, 1, none⟩ = some (.int .i64 (s.size : Int)) ∧ w.cell? ⟨b, 2, none⟩ = some sl ∧
    StrsW w sl xs ∧ full xs ∧ cat xs = s.data.toList ∧ xs.length = n
theorem TextW.below {w w' : World} {v : Value} {s : ByteArray} {n : Nat} (h : TextW w v s n) (hb : Below w.heap.size w w') : TextW w' v s n := by
  obtain ⟨b, sl, xs, hv, c0, c1, c2, hs, hr⟩ := h
  have hlt : b < w.heap.size := cell_lt (p := ⟨b, 0, none⟩) c0
  exact ⟨b, sl, xs, hv, by rw [hb.cell (p := ⟨b, 0, none⟩) hlt]; exact c0, by rw [hb.cell (p := ⟨b, 1, none⟩) hlt]; exact c1, by rw [hb.cell (p := ⟨b, 2, none⟩) hlt]; exact c2, hs.below hb, hr⟩
theorem TextW.le {w : World} {v : Value} {s : ByteArray} {n : Nat} (h : TextW w v s n) : n ≤ s.size := by
  obtain ⟨b, sl, xs, _, _, _, _, _, hf, hc, hn⟩ := h
  have := count_le hf
  rw [hc, len_bytes] at this; omega
/-- It is no nil. -/
theorem TextW.ptr {w : World} {v : Value} {s : ByteArray} {n : Nat} (h : TextW w v s n) : ∃ b, v = .pointer (some ⟨b, 0, none⟩) := by
  obtain ⟨b, _, _, hv, _⟩ := h; exact ⟨b, hv⟩

/-- The block of a slice that is not empty. -/
def OkV (ok : Nat → Prop) (v : Value) : Prop := ∀ a n c, v = .slice (some a) n c → 0 < n → ok a.block
theorem OkV.mono {ok ok' : Nat → Prop} {v : Value} (h : OkV ok v) (hm : ∀ k, ok k → ok' k) : OkV ok' v := fun a n c e hn => hm _ (h a n c e hn)

/-- A text of pieces with its pieces; of the blocks in which it lies. -/
def TextO (ok : Nat → Prop) (w : World) (v : Value) (s : ByteArray) (xs : List ByteArray) : Prop :=
  ∃ b sl, v = .pointer (some ⟨b, 0, none⟩) ∧ w.cell? ⟨b, 0, none⟩ = some (.bool true) ∧ w.cell? ⟨b, 1, none⟩ = some (.int .i64 (s.size : Int)) ∧ w.cell? ⟨b, 2, none⟩ = some sl ∧
    StrsW w sl xs ∧ full xs ∧ cat xs = s.data.toList ∧ ok b ∧ OkV ok sl
/-- Whatever the blocks. -/
abbrev TextX (w : World) (v : Value) (s : ByteArray) (xs : List ByteArray) : Prop := TextO (fun _ => True) w v s xs
theorem TextO.text {ok : Nat → Prop} {w : World} {v : Value} {s : ByteArray} {xs : List ByteArray} (h : TextO ok w v s xs) : TextW w v s xs.length := by
  obtain ⟨b, sl, hv, c0, c1, c2, hs, hf, hc, _⟩ := h
  exact ⟨b, sl, xs, hv, c0, c1, c2, hs, hf, hc, rfl⟩
theorem TextW.x {w : World} {v : Value} {s : ByteArray} {n : Nat} (h : TextW w v s n) : ∃ xs, TextX w v s xs ∧ xs.length = n := by
  obtain ⟨b, sl, xs, hv, c0, c1, c2, hs, hf, hc, hn⟩ := h
  exact ⟨xs, ⟨b, sl, hv, c0, c1, c2, hs, hf, hc, trivial, fun _ _ _ _ _ => trivial⟩, hn⟩
theorem TextO.below {ok : Nat → Prop} {w w' : World} {v : Value} {s : ByteArray} {xs : List ByteArray} (h : TextO ok w v s xs) (hb : Below w.heap.size w w') : TextO ok w' v s xs := by
  obtain ⟨b, sl, hv, c0, c1, c2, hs, hr⟩ := h
  have hlt : b < w.heap.size := cell_lt (p := ⟨b, 0, none⟩) c0
  exact ⟨b, sl, hv, by rw [hb.cell (p := ⟨b, 0, none⟩) hlt]; exact c0, by rw [hb.cell (p := ⟨b, 1, none⟩) hlt]; exact c1, by rw [hb.cell (p := ⟨b, 2, none⟩) hlt]; exact c2, hs.below hb, hr⟩
theorem TextO.ptr {ok : Nat → Prop} {w : World} {v : Value} {s : ByteArray} {xs : List ByteArray} (h : TextO ok w v s xs) : ∃ b, v = .pointer (some ⟨b, 0, none⟩) := by
  obtain ⟨b, _, hv, _⟩ := h; exact ⟨b, hv⟩
theorem TextO.mono {ok ok' : Nat → Prop} {w : World} {v : Value} {s : ByteArray} {xs : List ByteArray} (h : TextO ok w v s xs) (hm : ∀ k, k < w.heap.size → ok k → ok' k) : TextO ok' w v s xs := by
  obtain ⟨b, sl, hv, c0, c1, c2, hs, hf, hc, hb, ho⟩ := h
  refine ⟨b, sl, hv, c0, c1, c2, hs, hf, hc, hm _ (cell_lt (p := ⟨b, 0, none⟩) c0) hb, fun a n c e hn => ?_⟩
  obtain ⟨ao, cap, he, _, hcell⟩ := hs
  rw [e] at he
  cases he
  obtain ⟨x, hx⟩ : ∃ x, xs[0]? = some x := ⟨_, List.getElem?_eq_getElem hn⟩
  obtain ⟨g, o, ha, hg⟩ := hcell 0 x hx
  cases ha
  exact hm _ (cell_lt (p := ⟨g, o + 0, none⟩) hg) (ho _ _ _ e hn)
/-- A block that is not among those may turn: the text stays. -/
theorem TextO.grown {ok : Nat → Prop} {w w' : World} {v : Value} {s : ByteArray} {xs : List ByteArray} {row : Option Nat} (h : TextO ok w v s xs) (hg : w.grownBy w' row) (hr : ∀ k, ok k → row ≠ some k) : TextO ok w' v s xs := by
  obtain ⟨b, sl, hv, c0, c1, c2, hs, hf, hc, hb, ho⟩ := h
  have hne : some b ≠ row := fun e => hr b hb e.symm
  refine ⟨b, sl, hv, hg.cell c0 hne, hg.cell c1 hne, hg.cell c2 hne, ?_, hf, hc, hb, ho⟩
  obtain ⟨ao, cap, he, hcap, hcell⟩ := hs
  refine ⟨ao, cap, he, hcap, fun i x hx => ?_⟩
  obtain ⟨g, o, ha, hgc⟩ := hcell i x hx
  subst ha
  have hlt := (List.getElem?_eq_some_iff.1 hx).1
  exact ⟨g, o, rfl, hg.cell hgc fun e => hr g (ho _ _ _ he (by omega)) e.symm⟩

/-- No text: nil, or one that the package did not make. -/
def NoneW (w : World) (v : Value) : Prop := v = .pointer none ∨ ∃ b, v = .pointer (some ⟨b, 0, none⟩) ∧ w.cell? ⟨b, 0, none⟩ = some (.bool false)
theorem NoneW.below {w w' : World} {v : Value} (h : NoneW w v) (hb : Below w.heap.size w w') : NoneW w' v := by
  rcases h with h | ⟨b, hv, c0⟩
  · exact .inl h
  · exact .inr ⟨b, hv, by rw [hb.cell (p := ⟨b, 0, none⟩) (cell_lt (p := ⟨b, 0, none⟩) c0)]; exact c0⟩
end Go.Proofs.YtkopbngnhgdfhaaDoor
