/-
  Texts of this proof, one behind the other; each begins with its own remark.
-/
import Derived.Laws.StructEq
import Derived.ChangeKeysEq
import Derived.Test.YthokamikejnbeaaDoorBe5
import Derived.Test.YthokamikejnbeaaDoorBe22
import Derived.Test.YthokamikejnbeaaDoorBe23
/-
  Two sets held against each other: what '==' and '!=' come to; when two nodes are the same. No call is walked here.
-/
namespace Go.Proofs.YthokamikejnbeaaDoor
open Go.RowKit

theorem Tryd.cellsU64 : Tryd.prog.cellsOf 23 = 1 := by kernel_rfl
theorem Tryd.infoU64 : (Tryd.prog.info? 23).isSome = true := by kernel_rfl
theorem part_u64 (xs : Array Value) (o : Nat) (x : Value) (w : World) (h : xs[o]? = some x) : (part 23 xs o).run Tryd.prog w = .ok x w := by
  unfold part
  simp only [Sem.run_bind, Tryd.isAgg23, Result.andThen_ok]
  simp [h]
theorem eqI_step (d : Nat) (xs ys : Array Value) (i : Nat) (is : List Nat) (x y : Nat) (w : World) (hx : xs[i]? = some (.int .u64 (x : Int))) (hy : ys[i]? = some (.int .u64 (y : Int))) :
    (Op.eqItems (d + 1) 23 1 xs ys (i :: is)).run Tryd.prog w = if x = y then (Op.eqItems (d + 1) 23 1 xs ys is).run Tryd.prog w else .ok false w := by
  simp only [Op.eqItems, Sem.run_bind, Nat.mul_one, part_u64 xs i _ w hx, part_u64 ys i _ w hy, Result.andThen_ok, run_equalIn_int w d 23 .u64 .u64 (x : Int) (y : Int) Tryd.underlying23]
  by_cases e : x = y
  · simp [e]
  · have e2 : ¬ (x : Int) = (y : Int) := by omega
    simp [e, e2]
theorem set_eqIn (s t : St4) (w : World) : (Op.equalIn 10000 24 (setV s) (setV t)).run Tryd.prog w = .ok (decide (s = t)) w := by
  unfold setV
  obtain ⟨i, hi⟩ := Option.isSome_iff_exists.1 Tryd.infoU64
  rw [show (10000 : Nat) = 9998 + 1 + 1 from rfl, run_equalIn_array w (9998 + 1) _ _ Tryd.underlying24 hi, Tryd.cellsU64, show List.range 4 = [0, 1, 2, 3] from rfl]
  rw [eqI_step 9998 _ _ 0 _ _ _ w rfl rfl, eqI_step 9998 _ _ 1 _ _ _ w rfl rfl, eqI_step 9998 _ _ 2 _ _ _ w rfl rfl, eqI_step 9998 _ _ 3 _ _ _ w rfl rfl]
  obtain ⟨a, b, c, d⟩ := s
  obtain ⟨a', b', c', d'⟩ := t
  by_cases h1 : a = a' <;> by_cases h2 : b = b' <;> by_cases h3 : c = c' <;> by_cases h4 : d = d' <;> simp [h1, h2, h3, h4, Op.eqItems]
theorem set_eql (s t : St4) (w : World) : (binOp .eql 24 (setV s) (setV t)).run Tryd.prog w = .ok (.bool (decide (s = t))) w := by
  have h := set_eqIn s t w
  unfold setV at h ⊢
  rw [run_eql_struct, h]; rfl
theorem set_neq (s t : St4) (w : World) : (binOp .neq 24 (setV s) (setV t)).run Tryd.prog w = .ok (.bool (!decide (s = t))) w := by
  have h := set_eqIn s t w
  unfold setV at h ⊢
  rw [run_neq_struct, h]; rfl
mutual
/-- Are two nodes the same? -/
def sameR : Nd → Nd → Bool
  | .mk k s l, .mk k' s' l' => decide (k = k') && decide (s = s') && sameL l l'
def sameL : List Nd → List Nd → Bool
  | [], [] => true
  | a :: l, b :: m => sameR a b && sameL l m
  | _, _ => false
end
mutual
theorem sameR_iff : ∀ (a b : Nd), sameR a b = true ↔ a = b
  | .mk k s l, .mk k' s' l' => by
    simp only [sameR, Bool.and_eq_true, decide_eq_true_eq, Nd.mk.injEq, sameL_iff l l', and_assoc]
theorem sameL_iff : ∀ (l m : List Nd), sameL l m = true ↔ l = m
  | [], [] => by simp [sameL]
  | a :: l, b :: m => by simp only [sameL, Bool.and_eq_true, List.cons.injEq, sameR_iff a b, sameL_iff l m]
  | [], b :: m => by simp [sameL]
  | a :: l, [] => by simp [sameL]
end
theorem sameR_self (a : Nd) : sameR a a = true := (sameR_iff a a).2 rfl
theorem sameL_len : ∀ (l m : List Nd), l.length ≠ m.length → sameL l m = false
  | [], [], h => absurd rfl h
  | a :: l, b :: m, h => by
    rw [sameL, sameL_len l m (fun e => h (by simp [e])), Bool.and_false]
  | [], b :: m, _ => rfl
  | a :: l, [], _ => rfl
theorem sameR_parts (a b : Nd) : sameR a b = (decide (a.kind = b.kind) && decide (a.set = b.set) && sameL a.kids b.kids) := by
  cases a with
  | mk k s l => cases b with
    | mk k' s' l' => rw [sameR]; rfl
theorem sameL_drop (l m : List Nd) (i : Nat) (h1 : i < l.length) (h2 : i < m.length) : sameL (l.drop i) (m.drop i) = (sameR l[i] m[i] && sameL (l.drop (i + 1)) (m.drop (i + 1))) := by
  rw [List.drop_eq_getElem_cons h1, List.drop_eq_getElem_cons h2, sameL]
theorem deep_kid : ∀ (l : List Nd) (n : Nd), n ∈ l → deepR n ≤ deepL l
  | m :: l, n, h => by
    rw [deepL]
    rcases List.mem_cons.1 h with rfl | h
    · exact Nat.le_max_left _ _
    · exact Nat.le_trans (deep_kid l n h) (Nat.le_max_right _ _)
theorem deep_kids (n : Nd) : deepR n = deepL n.kids + 1 := by
  cases n with
  | mk k s l => rw [deepR]; rfl
end Go.Proofs.YthokamikejnbeaaDoor

/-
  How many nodes a node is; that what is read of a text has not too many. No call is walked here.
-/
namespace Go.Proofs.YthokamikejnbeaaDoor

mutual
def wtR : Nd → Nat
  | .mk _ _ l => wtL l + 1
def wtL : List Nd → Nat
  | [] => 0
  | n :: l => wtR n + wtL l
end
theorem wt_kids (n : Nd) : wtR n = wtL n.kids + 1 := by
  cases n with
  | mk k s l => rw [wtR]; rfl
theorem wt_pos (n : Nd) : 1 ≤ wtR n := by rw [wt_kids]; omega
theorem wtL_len : ∀ (l : List Nd), l.length ≤ wtL l
  | [] => Nat.le_refl _
  | n :: l => by
    have := wtL_len l
    have := wt_pos n
    rw [wtL, List.length_cons]; omega
theorem wtL_app : ∀ (l m : List Nd), wtL (l ++ m) = wtL l + wtL m
  | [], m => by simp [wtL]
  | n :: l, m => by rw [List.cons_append, wtL, wtL, wtL_app l m]; omega
theorem wtL_one (n : Nd) : wtL [n] = wtR n := by simp [wtL]
theorem wtL_mem : ∀ (l : List Nd) (n : Nd), n ∈ l → wtR n ≤ wtL l
  | m :: l, n, h => by
    rw [wtL]
    rcases List.mem_cons.1 h with rfl | h
    · omega
    · have := wtL_mem l n h; omega
theorem wt_join (k : Int) (l : List Nd) : wtR (joinR k l) ≤ wtL l + 1 := by
  match l with
  | [] => simp [joinR, emptyR, wtR, wtL]
  | [x] => simp [joinR, wtL]
  | x :: y :: l => simp [joinR, wtR]
theorem wt_signs : ∀ (l : List Nat) (n : Nd), wtR (signsR n l).1 + (signsR n l).2.length = wtR n + l.length
  | [], n => rfl
  | c :: t, n => by
    simp only [signsR]
    split
    · have := wt_signs t (.mk (signR c : Nat) noR [n])
      rw [this]
      simp only [wtR, wtL, List.length_cons]
      omega
    · rfl
theorem wt_bracket {l r : List Nat} {n : Nd} (h : bracketR l = some (n, r)) : wtR n = 1 := by
  unfold bracketR at h
  split at h
  · rcases hs : spansR (l.length + 1) true noR l.tail with _ | x
    · rw [hs] at h; cases h
    · rw [hs] at h; cases h; simp [wtR, wtL]
  · rcases hs : spansR (l.length + 1) true noR l with _ | x
    · rw [hs] at h; cases h
    · rw [hs] at h; cases h; simp [wtR, wtL]
theorem wt_rows : ∀ (N : Nat) (l : List Nat), l.length ≤ N →
    (∀ n r, atR l = some (n, r) → wtR n + 2 * r.length ≤ 2 * l.length) ∧
    (∀ all row n r, rwR l all row = some (n, r) → wtR n + 2 * r.length ≤ wtL all + wtL row + 2 * l.length + 3)
  | N, l, hN => by
    have hA : ∀ n r, atR l = some (n, r) → wtR n + 2 * r.length ≤ 2 * l.length := by
      intro n r h
      have hlt := at_len h
      have htl : l.tail.length + 1 = l.length := by rw [List.length_tail]; omega
      rw [at_eq] at h
      split at h
      · split at h
        · cases h
        · rename_i m q hq
          split at h
          · rename_i hp
            cases h
            have h4 := congrArg List.length (head_tail hp)
            simp only [List.length_cons] at h4
            obtain ⟨N, rfl⟩ : ∃ k, N = k + 1 := ⟨N - 1, by omega⟩
            have := (wt_rows N l.tail (by omega)).2 [] [] _ q hq
            simp only [wtL] at this
            omega
          · cases h
      split at h
      · have := wt_bracket h
        omega
      split at h
      · cases h
        simp only [dotR, wtR, wtL]
        omega
      · rcases hs : letR false l with _ | x
        · rw [hs] at h; cases h
        · rw [hs] at h
          cases h
          simp only [byteN, wtR, wtL]
          omega
    refine ⟨hA, fun all row n r h => ?_⟩
    have hj := wt_join 2 row
    rw [rw_eq] at h
    split at h
    · cases h
      have := wt_join 3 (all ++ [joinR 2 row])
      rw [wtL_app, wtL_one] at this
      omega
    split at h
    · rename_i hc
      have h4 := congrArg List.length (head_tail hc)
      simp only [List.length_cons] at h4
      obtain ⟨N, rfl⟩ : ∃ k, N = k + 1 := ⟨N - 1, by omega⟩
      have := (wt_rows N l.tail (by omega)).2 _ _ _ r h
      rw [wtL_app, wtL_one] at this
      simp only [wtL] at this
      omega
    split at h
    · cases h
    · rename_i m q hq
      have h1 := hA m q hq
      have hlt := at_len hq
      have h2 := wt_signs q m
      have hsl := signs_len q m
      obtain ⟨N, rfl⟩ : ∃ k, N = k + 1 := ⟨N - 1, by omega⟩
      have := (wt_rows N (signsR m q).2 (by omega)).2 _ _ _ r h
      rw [wtL_app, wtL_one] at this
      omega
theorem wt_parse (l : List Nat) (n : Nd) (h : parseR l = some n) : wtR n ≤ 2 * l.length + 3 := by
  rw [parse_eq] at h
  split at h
  · rename_i m hm
    cases h
    have := (wt_rows _ l (Nat.le_refl _)).2 [] [] _ [] hm
    simp only [wtL, List.length_nil] at this
    omega
  · cases h
end Go.Proofs.YthokamikejnbeaaDoor
