/-
  Texts of this proof, one behind the other; each begins with its own remark.
-/
import Derived.WalkSpells
import Derived.Deep.DeepFit
import Derived.Test.YtpkjaallhhjleaaGreatDoorBa5
import Derived.Test.YtpkjaallhhjleaaGreatDoorBa9
import Derived.Test.YtpkjaallhhjleaaGreatDoorBa12
import Derived.Test.YtpkjaallhhjleaaGreatDoorBa11
/-
  grids.part: what it leaves of a row that lies in a block known whole.
-/
namespace Go.Proofs.YtpkjaallhhjleaaGreatDoor
open Go.RowKit

/-- What becomes of all cells where a row of n begins at a. -/
def partW (L : List Cel) (a n j : Nat) : List Cel := if j < n ∧ (L[a + j]?).any (fun c => decide (c.2.1 = 0)) = true then (L.set (a + j - 1) blkC).set (a + j) blkC else L

theorem part_no {B a n cap : Nat} {L : List Cel} {zs : List Value} (j : Nat) (w : World) (h : blkL w B L zs) (hr : a + n ≤ L.length) (hj : j ≤ n) (hno : ¬ (j < n ∧ (L[a + j]?).any (fun c => decide (c.2.1 = 0)) = true)) :
    Calls Tryz.prog 126 #[.slice (some ⟨B, a * 6, none⟩) n cap, .int .i64 (j : Int)] w fun e w' => e = .returned (.tuple #[]) ∧ w = w' := by
  by_cases h1 : j < n
  · obtain ⟨c, hc⟩ : ∃ c, L[a + j]? = some c := ⟨_, List.getElem?_eq_getElem (by omega)⟩
    have h0 : c.2.1 ≠ 0 := fun k => hno ⟨h1, by rw [hc]; simpa using k⟩
    obtain ⟨_, c1, _⟩ := h.cells hc
    rw [Nat.add_mul] at c1
    have b0 : (c.2.1 == 0) = false := by simpa using h0
    have i1 : (j : Int) < (n : Int) := by omega
    clear hno h hc h0
    go_enter Tryz.func126, Tryz.ntmps126
    go_wp2
    go_end0
    exact ⟨rfl, rfl⟩
  · have i1 : ¬ (j : Int) < (n : Int) := by omega
    clear hno h
    go_enter Tryz.func126, Tryz.ntmps126
    go_wp2
    go_end0
    exact ⟨rfl, rfl⟩
set_option maxHeartbeats 1000000 in
theorem part_yes {B a n cap : Nat} {L : List Cel} {zs : List Value} {c : Cel} (j : Nat) (w : World) (h : blkL w B L zs) (hL : BlankW w) (_ : B ≠ 0) (hr : a + n ≤ L.length) (hj : j + 1 < n) (hn : n ≤ 1000) (hc : L[a + (j + 1)]? = some c) (hw : c.2.1 = 0) :
    Calls Tryz.prog 126 #[.slice (some ⟨B, a * 6, none⟩) n cap, .int .i64 ((j + 1 : Nat) : Int)] w fun e w' => e = .returned (.tuple #[]) ∧ w' = set6 (set6 w B ((a + j) * 6) blkC) B ((a + (j + 1)) * 6) blkC := by
  obtain ⟨d0, c1, d2, d3, d4, d5⟩ := h.cells hc
  obtain ⟨p, hp⟩ : ∃ p, L[a + j]? = some p := ⟨_, List.getElem?_eq_getElem (by omega)⟩
  obtain ⟨e0, e1, e2, e3, e4, e5⟩ := h.cells hp
  obtain ⟨b0, b1, b2, b3, b4, b5⟩ := hL.2
  simp only [blkC, Nat.zero_add] at b0 b1 b2 b3 b4 b5
  have hf := h.frozen
  have f0 := hf ((a + j) * 6)
  have f1 := hf ((a + j) * 6 + 1)
  have f2 := hf ((a + j) * 6 + 2)
  have f3 := hf ((a + j) * 6 + 3)
  have f4 := hf ((a + j) * 6 + 4)
  have f5 := hf ((a + j) * 6 + 5)
  have g0 := hf ((a + (j + 1)) * 6)
  have g1 := hf ((a + (j + 1)) * 6 + 1)
  have g2 := hf ((a + (j + 1)) * 6 + 2)
  have g3 := hf ((a + (j + 1)) * 6 + 3)
  have g4 := hf ((a + (j + 1)) * 6 + 4)
  have g5 := hf ((a + (j + 1)) * 6 + 5)
  have hlt := h.lt
  have hg := hL.1
  unfold set6
  obtain ⟨y, hy⟩ : ∃ y, j + 1 = y := ⟨_, rfl⟩
  rw [hy] at c1 d0 d2 d3 d4 d5 g0 g1 g2 g3 g4 g5 hj ⊢
  rw [Nat.add_mul] at c1 d0 d2 d3 d4 d5 e0 e1 e2 e3 e4 e5 f0 f1 f2 f3 f4 f5 g0 g1 g2 g3 g4 g5
  have hj2 : ((y : Int) - 1) = (j : Int) := by omega
  have z0 : (c.2.1 == 0) = true := by simpa using hw
  have i1 : (y : Int) < (n : Int) := by omega
  have i2 : (1 : Int) ≤ (y : Int) := by omega
  have i3 : (j : Int) < (n : Int) := by omega
  clear h hL hf hc hp hw
  go_enter Tryz.func126, Tryz.ntmps126
  go_wp2
  go_end0
  exact ⟨rfl, by rw [Nat.add_mul, Nat.add_mul]; rfl⟩
theorem part_any {B a n cap : Nat} {L : List Cel} {zs : List Value} (j : Nat) (w : World) (h : blkL w B L zs) (hL : BlankW w) (hB : B ≠ 0) (hr : a + n ≤ L.length) (hj : j ≤ n) (hn : n ≤ 1000) (hf : ∀ c, L[a]? = some c → c.2.1 ≠ 0) :
    Calls Tryz.prog 126 #[.slice (some ⟨B, a * 6, none⟩) n cap, .int .i64 (j : Int)] w fun e w' => e = .returned (.tuple #[]) ∧ blkL w' B (partW L a n j) zs ∧ KeepW (fun k => k ≠ B) w w' := by
  unfold partW
  by_cases hb : j < n ∧ (L[a + j]?).any (fun c => decide (c.2.1 = 0)) = true
  · rw [if_pos hb]
    obtain ⟨c, hc, hw⟩ : ∃ c, L[a + j]? = some c ∧ c.2.1 = 0 := any_w0.1 hb.2
    obtain ⟨i, rfl⟩ : ∃ i, j = i + 1 := by
      cases j with
      | zero => exact (hf c hc hw).elim
      | succ i => exact ⟨i, rfl⟩
    refine (part_yes i w h hL hB hr hb.1 hn hc hw).mono fun e w' ⟨h1, h2⟩ => ⟨h1, ?_, ?_⟩
    · rw [h2, show a + (i + 1) - 1 = a + i by omega]
      exact (h.set (a + i) blkC (by omega)).set (a + (i + 1)) blkC (by rw [List.length_set]; omega)
    · rw [h2]
      exact (set6_keep _ _ _ _ (fun k => k rfl)).trans (set6_keep _ _ _ _ (fun k => k rfl))
  · rw [if_neg hb]
    exact (part_no j w h hr hj hb).mono fun e w' ⟨h1, h2⟩ => by subst h2; exact ⟨h1, h, KeepW.refl _ _⟩
end Go.Proofs.YtpkjaallhhjleaaGreatDoor

/-
  limnerref06.mend: what it leaves of a row that lies in a block known whole.
-/
namespace Go.Proofs.YtpkjaallhhjleaaGreatDoor
open Go.RowKit

/-- A row of n cells, from a on, of which the first i are mended. -/
def mixL (L : List Cel) (a n i : Nat) : List Cel := L.take a ++ ((mendL ((L.drop a).take n)).take i ++ ((L.drop a).take n).drop i) ++ L.drop (a + n)
theorem mix_len {L : List Cel} {a n i : Nat} (hr : a + n ≤ L.length) (hi : i ≤ n) : (mixL L a n i).length = L.length := by
  unfold mixL
  simp only [List.length_append, List.length_take, List.length_drop, mend_len]
  omega
theorem mix_at {L : List Cel} {a n i : Nat} (hr : a + n ≤ L.length) (hi : i ≤ n) (j : Nat) (hj : j < n) : (mixL L a n i)[a + j]? = if j < i then (mendL ((L.drop a).take n))[j]? else ((L.drop a).take n)[j]? := by
  have hR : ((L.drop a).take n).length = n := by rw [List.length_take, List.length_drop]; omega
  unfold mixL
  rw [List.append_assoc, List.getElem?_append_right (by rw [List.length_take]; omega), List.length_take, Nat.min_eq_left (by omega), show a + j - a = j by omega,
    List.getElem?_append_left (by rw [List.length_append, List.length_take, List.length_drop, mend_len, hR]; omega)]
  by_cases h : j < i
  · rw [if_pos h, List.getElem?_append_left (by rw [List.length_take, mend_len, hR]; omega), List.getElem?_take, if_pos h]
  · rw [if_neg h, List.getElem?_append_right (by rw [List.length_take, mend_len, hR]; omega), List.length_take, mend_len, hR, Nat.min_eq_left hi, List.getElem?_drop]
    congr 1; omega
theorem mix_zero (L : List Cel) (a n : Nat) : mixL L a n 0 = L := by
  unfold mixL
  rw [List.take_zero, List.drop_zero, List.nil_append, List.append_assoc, show L.drop (a + n) = (L.drop a).drop n by rw [List.drop_drop], List.take_append_drop, List.take_append_drop]
theorem mix_step {L : List Cel} {a n i : Nat} {c : Cel} (hr : a + n ≤ L.length) (hi : i < n) (hc : ((L.drop a).take n)[i]? = some c) :
    mixL L a n (i + 1) = if badC ((L.drop a).take n) i c then (mixL L a n i).set (a + i) blkC else mixL L a n i := by
  have hR : ((L.drop a).take n).length = n := by rw [List.length_take, List.length_drop]; omega
  have hm : (mendL ((L.drop a).take n))[i]? = some (mendC ((L.drop a).take n) i c) := by rw [mend_at, hc]; rfl
  obtain ⟨R, hRe⟩ : ∃ R, (L.drop a).take n = R := ⟨_, rfl⟩
  have e : ∀ x, (L.take a ++ ((mendL R).take i ++ R.drop i) ++ L.drop (a + n)).set (a + i) x = L.take a ++ ((mendL R).take i ++ x :: R.drop (i + 1)) ++ L.drop (a + n) := fun x => by
    rw [hRe] at hR hc
    rw [List.set_append_left _ _ (by simp only [List.length_append, List.length_take, List.length_drop, mend_len, hR]; omega), List.set_append_right _ _ (by rw [List.length_take]; omega), List.length_take, Nat.min_eq_left (by omega), show a + i - a = i by omega,
      List.set_append_right _ _ (by rw [List.length_take, mend_len, hR]; omega), List.length_take, mend_len, hR, Nat.min_eq_left (by omega), Nat.sub_self, List.drop_eq_getElem_cons (show i < R.length by omega), List.set_cons_zero]
  unfold mixL
  rw [hRe] at hR hc hm ⊢
  have h1 : (mendL R).take (i + 1) = (mendL R).take i ++ [mendC R i c] := by
    rw [List.take_succ_eq_append_getElem (by rw [mend_len, hR]; exact hi), (List.getElem?_eq_some_iff.1 hm).2]
  have h2 : R.drop i = c :: R.drop (i + 1) := by rw [List.drop_eq_getElem_cons (show i < R.length by omega), (List.getElem?_eq_some_iff.1 hc).2]
  cases hb : badC R i c with
  | true => rw [if_pos rfl, e, h1, mendC, hb, if_pos rfl]; simp only [List.append_assoc, List.cons_append, List.nil_append]
  | false => rw [if_neg (by decide), h1, h2, mendC, hb, if_neg (by decide)]; simp only [List.append_assoc, List.cons_append, List.nil_append]
theorem mix_end {L : List Cel} {a n : Nat} (hr : a + n ≤ L.length) : mixL L a n n = L.take a ++ mendL ((L.drop a).take n) ++ L.drop (a + n) := by
  have hR : ((L.drop a).take n).length = n := by rw [List.length_take, List.length_drop]; omega
  unfold mixL
  obtain ⟨R, hRe⟩ : ∃ R, (L.drop a).take n = R := ⟨_, rfl⟩
  rw [hRe] at hR ⊢
  rw [List.take_of_length_le (show (mendL R).length ≤ n by rw [mend_len, hR]; exact Nat.le_refl _), List.drop_of_length_le (show R.length ≤ n by rw [hR]; exact Nat.le_refl _), List.append_nil]
/-- Of a mended cell: whether it is a left half is as it was, as far as its neighbor asks. -/
theorem mend_left {R : List Cel} {i : Nat} {c p q : Cel} (hc : R[i + 1]? = some c) (hw : c.2.1 = 0) (hp : R[i]? = some p) (hq : (mendL R)[i]? = some q) : q.2.1 = 2 ↔ p.2.1 = 2 := by
  rw [mend_at, hp, Option.map_some] at hq
  cases hq
  unfold mendC
  split
  · rename_i hb
    constructor
    · intro k; simp [blkC] at k
    · intro k
      unfold badC at hb
      rw [hc] at hb
      simp [k, hw] at hb
  · exact Iff.rfl
theorem bad_is (R : List Cel) (i : Nat) (c : Cel) : badC R i c = true ↔ (c.2.1 = 2 ∧ ¬ ∃ d, R[i + 1]? = some d ∧ d.2.1 = 0) ∨ (c.2.1 = 0 ∧ ¬ (0 < i ∧ ∃ d, R[i - 1]? = some d ∧ d.2.1 = 2)) := by
  unfold badC
  cases h1 : R[i + 1]? <;> cases h2 : R[i - 1]? <;> simp <;> omega

/-- The ways through a round: whether the cell is mended, and what tells it. -/
theorem mend_ways {L : List Cel} {a n i : Nat} {c : Cel} (hr : a + n ≤ L.length) (hi : i < n) (hc : ((L.drop a).take n)[i]? = some c) :
    (badC ((L.drop a).take n) i c = true ∧ (
      (c.2.1 = 2 ∧ i + 1 = n) ∨
      (∃ d, c.2.1 = 2 ∧ i + 1 < n ∧ (mixL L a n i)[a + (i + 1)]? = some d ∧ d.2.1 ≠ 0) ∨
      (c.2.1 = 0 ∧ i = 0) ∨
      (∃ y q, c.2.1 = 0 ∧ i = y + 1 ∧ (mixL L a n i)[a + y]? = some q ∧ q.2.1 ≠ 2))) ∨
    (badC ((L.drop a).take n) i c = false ∧ (
      (∃ d, c.2.1 = 2 ∧ i + 1 < n ∧ (mixL L a n i)[a + (i + 1)]? = some d ∧ d.2.1 = 0) ∨
      (∃ y q, c.2.1 = 0 ∧ i = y + 1 ∧ (mixL L a n i)[a + y]? = some q ∧ q.2.1 = 2) ∨
      (c.2.1 ≠ 2 ∧ c.2.1 ≠ 0))) := by
  have hR : ((L.drop a).take n).length = n := by rw [List.length_take, List.length_drop]; omega
  have hM : ∀ j, i < j → j < n → (mixL L a n i)[a + j]? = ((L.drop a).take n)[j]? := fun j h1 h2 => by rw [mix_at hr (by omega) j h2, if_neg (by omega)]
  have hP : ∀ y, y + 1 = i → (mixL L a n i)[a + y]? = (mendL ((L.drop a).take n))[y]? := fun y h1 => by rw [mix_at hr (by omega) y (by omega), if_pos (by omega)]
  have hb := bad_is ((L.drop a).take n) i c
  obtain ⟨R, hRe⟩ : ∃ R, (L.drop a).take n = R := ⟨_, rfl⟩
  rw [hRe] at hc hM hP hR hb ⊢
  by_cases h2 : c.2.1 = 2
  · by_cases he : i + 1 = n
    · refine .inl ⟨hb.2 (.inl ⟨h2, ?_⟩), .inl ⟨h2, he⟩⟩
      rintro ⟨d, hd, _⟩
      rw [List.getElem?_eq_none (by omega)] at hd; cases hd
    · obtain ⟨d, hd⟩ : ∃ d, R[i + 1]? = some d := ⟨_, List.getElem?_eq_getElem (by omega)⟩
      have hd2 := (hM (i + 1) (by omega) (by omega)).trans hd
      by_cases h0 : d.2.1 = 0
      · refine .inr ⟨Bool.eq_false_iff.2 fun k => ?_, .inl ⟨d, h2, by omega, hd2, h0⟩⟩
        rcases hb.1 k with ⟨_, k2⟩ | ⟨k1, _⟩
        · exact k2 ⟨d, hd, h0⟩
        · omega
      · refine .inl ⟨hb.2 (.inl ⟨h2, ?_⟩), .inr (.inl ⟨d, h2, by omega, hd2, h0⟩)⟩
        rintro ⟨e, he2, hz⟩
        rw [hd] at he2; cases he2; exact h0 hz
  · by_cases h0 : c.2.1 = 0
    · cases i with
      | zero =>
        refine .inl ⟨hb.2 (.inr ⟨h0, ?_⟩), .inr (.inr (.inl ⟨h0, rfl⟩))⟩
        rintro ⟨k, _⟩; omega
      | succ y =>
        obtain ⟨p, hp⟩ : ∃ p, R[y]? = some p := ⟨_, List.getElem?_eq_getElem (by omega)⟩
        obtain ⟨q, hq⟩ : ∃ q, (mendL R)[y]? = some q := ⟨_, List.getElem?_eq_getElem (by rw [mend_len]; omega)⟩
        have hq2 := (hP y rfl).trans hq
        have hpq := mend_left hc h0 hp hq
        by_cases h3 : q.2.1 = 2
        · refine .inr ⟨Bool.eq_false_iff.2 fun k => ?_, .inr (.inl ⟨y, q, h0, rfl, hq2, h3⟩)⟩
          rcases hb.1 k with ⟨k1, _⟩ | ⟨_, k2⟩
          · omega
          · exact k2 ⟨by omega, p, hp, hpq.1 h3⟩
        · refine .inl ⟨hb.2 (.inr ⟨h0, ?_⟩), .inr (.inr (.inr ⟨y, q, h0, rfl, hq2, h3⟩))⟩
          rintro ⟨_, d, hd, hw⟩
          rw [show y + 1 - 1 = y from rfl, hp] at hd; cases hd
          exact h3 (hpq.2 hw)
    · refine .inr ⟨Bool.eq_false_iff.2 fun k => ?_, .inr (.inr ⟨h2, h0⟩)⟩
      rcases hb.1 k with ⟨k1, _⟩ | ⟨k1, _⟩ <;> omega
end Go.Proofs.YtpkjaallhhjleaaGreatDoor

/-
  Plain facts: one row among all cells: what a store, a mending, a parting of that row makes of all of them. Nothing of the program is run here.
-/
namespace Go.Proofs.YtpkjaallhhjleaaGreatDoor
open Go.RowKit

theorem setK_set {L R : List Cel} {m n k j : Nat} (x : Cel) (hl : L.length = m * n) (hk : k < m) (hR : R.length = n) (hj : j < n) : (setK L n k R).set (k * n + j) x = setK L n k (R.set j x) := by
  have hr := row_room (n := n) hk
  unfold setK
  rw [List.set_append_left _ _ (by rw [List.length_append, List.length_take]; omega), List.set_append_right _ _ (by rw [List.length_take]; omega), List.length_take, Nat.min_eq_left (by omega), show k * n + j - k * n = j by omega]
theorem setK_at {L R : List Cel} {m n k j : Nat} (hl : L.length = m * n) (hk : k < m) (hR : R.length = n) (hj : j < n) : (setK L n k R)[k * n + j]? = R[j]? := by
  have hr := row_room (n := n) hk
  unfold setK
  rw [List.getElem?_append_left (by rw [List.length_append, List.length_take]; omega), List.getElem?_append_right (by rw [List.length_take]; omega), List.length_take, Nat.min_eq_left (by omega), show k * n + j - k * n = j by omega]
theorem partW_setK {L R : List Cel} {m n k j : Nat} (hl : L.length = m * n) (hk : k < m) (hR : R.length = n) (hf : ∀ c, R[0]? = some c → c.2.1 ≠ 0) : partW (setK L n k R) (k * n) n j = setK L n k (partL R j) := by
  unfold partW partL
  by_cases hj : j < n
  · rw [setK_at hl hk hR hj]
    by_cases hb : (R[j]?).any (fun c => decide (c.2.1 = 0)) = true
    · rw [if_pos ⟨hj, hb⟩, if_pos hb]
      cases j with
      | zero =>
        obtain ⟨c, hc, hw⟩ := any_w0.1 hb
        exact (hf c hc hw).elim
      | succ j =>
        rw [show k * n + (j + 1) - 1 = k * n + j by omega, setK_set _ hl hk hR (by omega), setK_set _ hl hk (by rw [List.length_set]; exact hR) hj, show j + 1 - 1 = j from rfl]
    · rw [if_neg (fun k => hb k.2), if_neg hb]
  · rw [if_neg (fun k => hj k.1), if_neg]
    rw [List.getElem?_eq_none (by omega)]
    simp
theorem part_first {R : List Cel} (h : okRow R) (j : Nat) : ∀ c, (partL R j)[0]? = some c → c.2.1 ≠ 0 := by
  intro c hc
  unfold partL at hc
  split at hc
  · rw [List.getElem?_set, List.getElem?_set, List.length_set] at hc
    split at hc
    · split at hc
      · cases hc; decide
      · cases hc
    · split at hc
      · split at hc
        · cases hc; decide
        · cases hc
      · exact h.first hc
  · exact h.first hc
theorem lay_setK {L R : List Cel} {m n k col : Nat} (r : Int) (d : Nat) (s : Sty) (hl : L.length = m * n) (hk : k < m) (hR : R.length = n) (hd : d = 1 ∨ d = 2) (hc : col + d ≤ n) :
    setK L n k (layL R col r d s) = if d = 2 then ((setK L n k R).set (k * n + col) (r, (d : Int), s)).set (k * n + (col + 1)) (halfC s) else (setK L n k R).set (k * n + col) (r, (d : Int), s) := by
  unfold layL
  split
  · rw [setK_set _ hl hk hR (by omega), setK_set _ hl hk (by rw [List.length_set]; exact hR) (by omega)]
  · rw [setK_set _ hl hk hR (by omega)]
theorem mend_setK {L R : List Cel} {m n k : Nat} (hl : L.length = m * n) (hk : k < m) (hR : R.length = n) : (setK L n k R).take (k * n) ++ mendL (((setK L n k R).drop (k * n)).take n) ++ (setK L n k R).drop (k * n + n) = setK L n k (mendL R) := by
  have hr := row_room (n := n) hk
  have h1 : ((setK L n k R).drop (k * n)).take n = R := by
    have := setK_row R hl hk hR k
    rw [if_pos rfl] at this
    exact this
  rw [h1]
  have ht : (L.take (k * n)).length = k * n := by rw [List.length_take]; omega
  have h2 : (setK L n k R).take (k * n) = L.take (k * n) := by
    unfold setK
    rw [List.append_assoc, List.take_append_of_le_length (by omega), List.take_of_length_le (by omega)]
  have h3 : (setK L n k R).drop (k * n + n) = L.drop (k * n + n) := by
    unfold setK
    rw [List.drop_append, List.drop_of_length_le (by rw [List.length_append, ht, hR]; exact Nat.le_refl _), List.length_append, ht, hR, Nat.sub_self, List.drop_zero, List.nil_append]
  rw [h2, h3]
  rfl
end Go.Proofs.YtpkjaallhhjleaaGreatDoor

/-
  What lies in memory while a rune is put into a frame: the boxes of the call, the cells of its own. No call is walked here.
-/
namespace Go.Proofs.YtpkjaallhhjleaaGreatDoor
open Go.RowKit

structure PutS (w W : World) (f : Frm) (s : Sty) (N g c : Nat) (L : List Cel) (zs : List Value) : Prop where
  below : Below w.heap.size w W
  fr : frB W w.heap.size f.rows f.cols (.slice (some ⟨g, 0, none⟩) N c) f.row f.col
  sty : W.heap[w.heap.size + 1]? = some (.cells #[.int .i64 s.1, .bool s.2.1, .bool s.2.2.1, .bool s.2.2.2] 38 (0, 0))
  res : frB W (w.heap.size + 1 + 1) 0 0 (.slice none 0 0) 0 0
  own : w.heap.size + 3 ≤ g
  blk : blkL W g L zs
  len : L.length = N
  cap : N ≤ c
section
variable {w W : World} {f : Frm} {s : Sty} {N g c : Nat} {L : List Cel} {zs : List Value}
theorem PutS.next {W' : World} (h : PutS w W f s N g c L zs) (hb : Below W.heap.size W W') : PutS w W' f s N g c L zs :=
  ⟨h.below.trans (hb.mono h.below.size), h.fr.below hb h.fr.lt, (hb.block _ (Array.getElem?_eq_some_iff.1 h.sty).1).trans h.sty, h.res.below hb h.res.lt, h.own, h.blk.below hb h.blk.lt, h.len, h.cap⟩
theorem PutS.turn {W' : World} {L' : List Cel} (h : PutS w W f s N g c L zs) (hk : KeepW (fun k => k ≠ g) W W') (hb : blkL W' g L' zs) (hl : L'.length = N) : PutS w W' f s N g c L' zs := by
  have ho := h.own
  exact ⟨KeepW.below h.below hk h.below.size (fun k hk => by omega), h.fr.keep hk (by show _ ≠ _; omega), (hk.same _ (Array.getElem?_eq_some_iff.1 h.sty).1 (by show _ ≠ _; omega)).trans h.sty, h.res.keep hk (by show _ ≠ _; omega), h.own, hb, hl, h.cap⟩
theorem PutS.styc (h : PutS w W f s N g c L zs) : W.cell? ⟨w.heap.size + 1, 0, none⟩ = some (.int .i64 s.1) ∧ W.cell? ⟨w.heap.size + 1, 1, none⟩ = some (.bool s.2.1) ∧ W.cell? ⟨w.heap.size + 1, 2, none⟩ = some (.bool s.2.2.1) ∧ W.cell? ⟨w.heap.size + 1, 3, none⟩ = some (.bool s.2.2.2) := by
  have e := h.sty
  refine ⟨?_, ?_, ?_, ?_⟩ <;> (unfold World.cell?; rw [e]; rfl)
/-- The way out: the frame is laid into the result's box. -/
theorem PutS.done (h : PutS w W f s N g c L zs) : frB (set5 W (w.heap.size + 1 + 1) f.rows f.cols (.slice (some ⟨g, 0, none⟩) N c) f.row f.col) (w.heap.size + 1 + 1) f.rows f.cols (.slice (some ⟨g, 0, none⟩) N c) f.row f.col ∧
    FrameW AnyB (set5 W (w.heap.size + 1 + 1) f.rows f.cols (.slice (some ⟨g, 0, none⟩) N c) f.row f.col) (.agg #[.int .i64 f.rows, .int .i64 f.cols, .slice (some ⟨g, 0, none⟩) N c, .int .i64 f.row, .int .i64 f.col]) { f with cells := L } ∧
    Below w.heap.size w (set5 W (w.heap.size + 1 + 1) f.rows f.cols (.slice (some ⟨g, 0, none⟩) N c) f.row f.col) := by
  have ho := h.own
  have hk := set5_keep (ok := fun k => k ≠ w.heap.size + 1 + 1) W (w.heap.size + 1 + 1) f.rows f.cols (.slice (some ⟨g, 0, none⟩) N c) f.row f.col (fun k => k rfl)
  exact ⟨h.res.all, ⟨_, N, c, rfl, h.len.symm, h.cap, (h.blk.keep hk (by show _ ≠ _; omega)).slice trivial h.len h.cap⟩, KeepW.below h.below hk h.below.size (fun k hk => by omega)⟩
end
/-- What the call lays first. -/
def put0 (w : World) (f : Frm) (s : Sty) (ao : Option Addr) (N cap : Nat) : World :=
  ((w.alloc (.cells #[.int .i64 f.rows, .int .i64 f.cols, .slice ao N cap, .int .i64 f.row, .int .i64 f.col] 35)).alloc (.cells #[.int .i64 s.1, .bool s.2.1, .bool s.2.2.1, .bool s.2.2.2] 38)).alloc (.cells #[.int .i64 0, .int .i64 0, .slice none 0 0, .int .i64 0, .int .i64 0] 35)
theorem put0_is (w : World) (f : Frm) (s : Sty) (ao : Option Addr) (N cap : Nat) : (put0 w f s ao N cap).heap.size = w.heap.size + 3 ∧ Below w.heap.size w (put0 w f s ao N cap) ∧
    frB (put0 w f s ao N cap) w.heap.size f.rows f.cols (.slice ao N cap) f.row f.col ∧ (put0 w f s ao N cap).heap[w.heap.size + 1]? = some (.cells #[.int .i64 s.1, .bool s.2.1, .bool s.2.2.1, .bool s.2.2.2] 38 (0, 0)) ∧
    frB (put0 w f s ao N cap) (w.heap.size + 1 + 1) 0 0 (.slice none 0 0) 0 0 := by
  unfold put0
  refine ⟨by simp, (((Below.refl _ w).alloc (Nat.le_refl _) _).alloc (by simp) _).alloc (by simp; omega) _, ?_, ?_, ?_⟩
  · unfold frB
    rw [Below.heap_alloc _ _ _ (by simp only [World.size_alloc]; omega), Below.heap_alloc _ _ _ (by simp only [World.size_alloc]; omega)]
    exact heap_alloc_new w _
  · rw [Below.heap_alloc _ _ _ (by simp only [World.size_alloc]; omega)]
    have := heap_alloc_new (w.alloc (.cells #[.int .i64 f.rows, .int .i64 f.cols, .slice ao N cap, .int .i64 f.row, .int .i64 f.col] 35)) (.cells #[.int .i64 s.1, .bool s.2.1, .bool s.2.2.1, .bool s.2.2.2] 38)
    rwa [World.size_alloc] at this
  · unfold frB
    have := heap_alloc_new ((w.alloc (.cells #[.int .i64 f.rows, .int .i64 f.cols, .slice ao N cap, .int .i64 f.row, .int .i64 f.col] 35)).alloc (.cells #[.int .i64 s.1, .bool s.2.1, .bool s.2.2.1, .bool s.2.2.2] 38)) (.cells #[.int .i64 0, .int .i64 0, .slice none 0 0, .int .i64 0, .int .i64 0] 35)
    rwa [World.size_alloc, World.size_alloc] at this
end Go.Proofs.YtpkjaallhhjleaaGreatDoor

/-
  grids.rowOf: what it returns: a row of a frame, where the frame has it.
-/
namespace Go.Proofs.YtpkjaallhhjleaaGreatDoor
open Go.RowKit

theorem rowOf_any {g o N cap : Nat} (m n k : Nat) (a b : Int) (w : World) (hN : N = m * n) (hcap : N ≤ cap) (hn : 8 ≤ n ∧ n ≤ 200) (hm : m ≤ 100) (hk : k < m) :
    Calls Tryz.prog 73 #[.agg #[.int .i64 (m : Int), .int .i64 (n : Int), .slice (some ⟨g, o, none⟩) N cap, .int .i64 a, .int .i64 b], .int .i64 (k : Int)] w fun e w' =>
      e = .returned (.slice (some ⟨g, o + k * n * 6, none⟩) n (cap - k * n)) ∧ Below w.heap.size w w' := by
  have hr := row_room (n := n) hk
  have hmul : (k : Int) * (n : Int) = ((k * n : Nat) : Int) := by rw [Int.natCast_mul]
  have hb : k * n ≤ 20000 := Nat.mul_le_mul (show k ≤ 100 by omega) hn.2
  obtain ⟨kn, hkn⟩ : ∃ kn, k * n = kn := ⟨_, rfl⟩
  rw [hkn] at hr hmul hb ⊢
  have hN2 : kn + n ≤ N := by omega
  have i1 : (0 : Int) ≤ (kn : Int) := by omega
  have i2 : (kn : Int) ≤ (N : Int) := by omega
  have i3 : (n : Int) ≤ ((cap - kn : Nat) : Int) := by omega
  have i4 : (kn : Int) ≤ (cap : Int) := by omega
  have i5 : (kn : Int) ≤ 20000 := by omega
  clear hN hkn hr hcap
  go_enter Tryz.func73, Tryz.ntmps73
  go_wp2
  go_quiet (fail)
  go_wp2
  go_ret
  exact ⟨rfl, ((Below.refl _ w).alloc (Nat.le_refl _) _).trans ⟨rfl, rfl, rfl, Nat.le_refl _, fun _ _ => rfl⟩⟩
end Go.Proofs.YtpkjaallhhjleaaGreatDoor

/-
  grids.Put: what it returns, and lays: a frame that may be: nothing is put in.
-/
namespace Go.Proofs.YtpkjaallhhjleaaGreatDoor
open Go.RowKit

theorem canB_no {f : Frm} {row col r : Int} {s : Sty} (h : ¬ (0 < ofN r ∧ (0 ≤ row ∧ row < f.rows ∧ 0 ≤ col ∧ col < f.cols) ∧ col + (ofN r : Int) ≤ f.cols ∧ styB s = true)) : canB f row col r s = false := Bool.eq_false_iff.2 fun k => h ((canB_iff f row col r s).1 k)

section
variable {ok : Nat → Prop} {ao : Option Addr} {N cap : Nat}
theorem put_bad (f : Frm) (row col r : Int) (s : Sty) (w : World) (hS : CelsW ok w (.slice ao N cap) f.cells) (hn : N = f.cells.length) (hcap : N ≤ cap) (hv : validB f = false) (hL : LaidW w) :
    Calls Tryz.prog 117 #[.agg #[.int .i64 f.rows, .int .i64 f.cols, .slice ao N cap, .int .i64 f.row, .int .i64 f.col], .int .i64 row, .int .i64 col, .int .i32 r, .agg #[.int .i64 s.1, .bool s.2.1, .bool s.2.2.1, .bool s.2.2.2]] w fun e w' => e = .returned (.agg #[.int .i64 0, .int .i64 0, .slice none 0 0, .int .i64 0, .int .i64 0]) ∧ Below w.heap.size w w' := by
  have HV : Hid (∀ W, Below w.heap.size w W → Calls Tryz.prog 19 #[.agg #[.int .i64 f.rows, .int .i64 f.cols, .slice ao N cap, .int .i64 f.row, .int .i64 f.col]] W fun e w' => e = .returned (.bool false) ∧ Below W.heap.size W w') := fun W hW => by
    have := gvalid_any W (FrameW.below ⟨ao, N, cap, rfl, hn, hcap, hS⟩ hW) (hL.below hW)
    rwa [hv] at this
  have H0 := put0_is w f s ao N cap
  obtain ⟨hz, hb, _, _, hres⟩ := H0
  have HZ := Lib.hid hz
  have HR := Lib.hid hres
  have HB := Lib.hid hb
  unfold put0 at HZ HR HB
  clear hS hn hcap hv hL hz hb hres
  go_enter Tryz.func117, Tryz.ntmps117
  go_wp2_with fail
  go_fit (HV.out _ HB.out)
  rintro e w2 ⟨rfl, hb2⟩
  have hr := HR.out.below hb2 HR.out.lt
  have HE : Hid (frB (set5 w2 (w.heap.size + 1 + 1) 0 0 (.slice none 0 0) 0 0) (w.heap.size + 1 + 1) 0 0 (.slice none 0 0) 0 0 ∧ Below w.heap.size w (set5 w2 (w.heap.size + 1 + 1) 0 0 (.slice none 0 0) 0 0)) := by
    have b := HB.out.trans (hb2.mono HB.out.size)
    have hk := set5_keep (ok := fun k => k ≠ w.heap.size + 1 + 1) w2 (w.heap.size + 1 + 1) 0 0 (.slice none 0 0) 0 0 (fun k => k rfl)
    exact ⟨hr.all, KeepW.below b hk b.size (fun k hk => by show _ ≠ _; omega)⟩
  obtain ⟨⟨d0, d1, d2, d3, d4⟩, f0, f1, f2, f3, f4⟩ := hr.cells
  have hlt := hr.lt
  clear hr hb2 HR HB HV HZ
  go_wp2
  obtain ⟨⟨y0, y1, y2, y3, y4⟩, _⟩ := HE.out.1.cells
  unfold set5 at y0 y1 y2 y3 y4
  exact bodyPost_ret (v := .agg #[.int .i64 0, .int .i64 0, .slice none 0 0, .int .i64 0, .int .i64 0]) (by simp [results, Tryz.results117, go_sem, y0, y1, y2, y3, y4]) rfl ⟨rfl, HE.out.2⟩
end
end Go.Proofs.YtpkjaallhhjleaaGreatDoor
