/-
  Texts of this proof, one behind the other; each begins with its own remark.
-/
import Derived.BigRegion
import Derived.BigQuiet
import Derived.Test.YtjeomlickkpebaaGreatDoorBe14
import Derived.Test.YtjeomlickkpebaaGreatDoorBe8
import Derived.Test.YtjeomlickkpebaaGreatDoorBe26
import Derived.Test.YtjeomlickkpebaaGreatDoorBe15
/-
  dfas.maker in memory: the lists that there are, and their numbers. No call is walked here.
-/
namespace Go.Proofs.YtjeomlickkpebaaGreatDoor
open Go.RowKit

theorem Tryz.infoIntsL : (Tryz.prog.info? 39).map (fun i => (i.zero, i.size, i.bytes)) = some (some (.slice none 0 0), 1, 24) := by kernel_rfl
/-- A list's text, as a key. -/
def txK (l : List Int) : ByteArray := ⟨(txtI l).toArray⟩
def NonN (l : List Int) : Prop := ∀ a, a ∈ l → 0 ≤ a ∧ a ≤ 1000000
theorem txK_inj {l m : List Int} (hl : NonN l) (hm : NonN m) (h : txK l = txK m) : l = m := by
  unfold txK at h
  injection h with h
  exact txt_inj (fun a ha => (hl a ha).1) (fun a ha => (hm a ha).1) (by simpa using h)
/-- The number of a list, and the lists behind it. -/
def numR (xs : List (List Int)) (l : List Int) : Int := if nilL l = true then -1 else if findX sameL xs l 0 < 0 then (xs.length : Int) else findX sameL xs l 0
def numX (xs : List (List Int)) (l : List Int) : List (List Int) := if nilL l = true then xs else if findX sameL xs l 0 < 0 then xs ++ [l] else xs
theorem one_num (step : List Int → Nat → List Int) (x : List Int) (s : List (List Int) × List Int) (b : Nat) : oneX step nilL sameL x s b = (numX s.1 (step x b), s.2 ++ [numR s.1 (step x b)]) := by
  unfold oneX numX numR
  split
  · rfl
  · split <;> rfl
/-- A key stands where the list does. -/
theorem idx_find {xs : List (List Int)} {l : List Int} (hx : ∀ x, x ∈ xs → NonN x) (hl : NonN l) : ∀ j : Nat, idxT (xs.map txK) (txK l) j = if findX sameL xs l j < 0 then none else some (findX sameL xs l j).toNat := by
  induction xs with
  | nil => intro j; rfl
  | cons x xs ih =>
    intro j
    rw [List.map_cons, idxT, findX]
    by_cases c : txK l = txK x
    · have := txK_inj hl (hx x (by simp)) c
      subst this
      rw [if_pos rfl, if_pos (show sameL l l = true from decide_eq_true rfl), if_neg (by omega), Int.toNat_natCast]
    · have hs : ¬ sameL x l = true := fun e => c (by rw [of_decide_eq_true e])
      rw [if_neg c]
      simp only [if_neg hs]
      exact ih (fun y hy => hx y (by simp [hy])) (j + 1)
/-- Lists behind a row of slices. -/
def ListsC (c : Col) (w : World) (us : List Value) (xs : List (List Int)) : Prop := us.length = xs.length ∧ ∀ (i : Nat) u l, us[i]? = some u → xs[i]? = some l → CelC c w u (numC l) ∧ l.length ≤ 1000000
structure MkC (c : Col) (w : World) (M : Nat) (nv : Value) (xs : List (List Int)) (lv : Value) (mb : Nat) (us : List Value) : Prop where
  box : box3 103 w M nv lv (.map (some mb))
  cM : c M = 1
  row : RowC c 1 39 w lv us
  map : MapT w mb (xs.map txK)
  cmb : c mb = 1
  ne1 : mb ≠ M
  ne2 : lv.ownBlock ≠ some M
  ne3 : lv.ownBlock ≠ some mb
  el : ListsC c w us xs
  fresh : Fresh0 c w
section
variable {S : Nat → Prop} {c c' : Col} {w w' : World} {M mb : Nat} {nv lv v : Value} {xs : List (List Int)} {us : List Value} {l : List Int}
theorem cel_ints (h : CelC c w v (numC l)) (hl : l.length ≤ 1000000) : IntsW w v l := ⟨by have := h.read; rwa [numC_len] at this, hl⟩
theorem ListsC.step (h : ListsC c w us xs) (hs : StepC S c c' w w') (h0 : ¬ S 0) : ListsC c' w' us xs := ⟨h.1, fun i u l hu hl => ⟨(h.2 i u l hu hl).1.step hs h0, (h.2 i u l hu hl).2⟩⟩
theorem ListsC.snoc {u : Value} (h : ListsC c w us xs) (hu : CelC c w u (numC l)) (hl : l.length ≤ 1000000) : ListsC c w (us ++ [u]) (xs ++ [l]) := by
  refine ⟨by rw [List.length_append, List.length_append, h.1]; rfl, fun i u' l' h1 h2 => ?_⟩
  by_cases k : i < us.length
  · rw [List.getElem?_append_left k] at h1
    rw [List.getElem?_append_left (by rw [← h.1]; exact k)] at h2
    exact h.2 i u' l' h1 h2
  · have hk := (List.getElem?_eq_some_iff.1 h1).1
    rw [List.length_append] at hk
    have e : i = us.length := by simp at hk; omega
    rw [e, List.getElem?_append_right (Nat.le_refl _), Nat.sub_self] at h1
    rw [e, h.1, List.getElem?_append_right (Nat.le_refl _), Nat.sub_self] at h2
    cases h1; cases h2
    exact ⟨hu, hl⟩
theorem MkC.step (h : MkC c w M nv xs lv mb us) (hs : StepC S c c' w w') (h0 : ¬ S 0) (h1 : ¬ S 1) : MkC c' w' M nv xs lv mb us :=
  ⟨h.box.keep hs.keep (by rw [h.cM]; exact h1), by rw [hs.same _ h.box.lt]; exact h.cM, h.row.step hs h1, h.map.keep hs.keep (by rw [h.cmb]; exact h1), by rw [hs.same _ h.map.lt]; exact h.cmb, h.ne1, h.ne2, h.ne3, h.el.step hs h0, hs.fresh⟩
theorem MkC.under (h : MkC c w M nv xs lv mb us) (hb : Below w.heap.size w w') : MkC c w' M nv xs lv mb us := h.step (S := fun _ => False) (StepC.below h.fresh hb) (fun e => e) (fun e => e)
theorem stepc_set {B i : Nat} {y : Value} (hf : Fresh0 c w) : StepC (fun a => a = c B) c c w (w.setCell ⟨B, i, none⟩ y) :=
  ⟨keep_set B i none y w fun e => e rfl, fun _ _ => rfl, fun k hk => hf k (by
    have : (w.setCell ⟨B, i, none⟩ y).heap.size = w.heap.size := by show (w.heap.modify _ _).size = _; rw [Array.size_modify]
    rw [this] at hk; exact hk)⟩
/-- A list more: the map, the row, the box. -/
theorem MkC.push (h : MkC c w M nv xs lv mb us) (hl : CelC c w v (numC l)) (hll : l.length ≤ 1000000) (hno : idxT (xs.map txK) (txK l) 0 = none) (hx : us.length ≤ 100000) (hv1 : v.oneCell' = true) :
    ∃ w1, (Instr.mapUpdate 101 (.map (some mb)) (.string (txK l)) (.int .i64 (xs.length : Int))).run Tryz.prog w = .ok () w1 ∧ w1.cell? ⟨M, 1, none⟩ = some lv ∧ M < w1.heap.size ∧ w1.frozen? ⟨M, 1, none⟩ = false ∧
      ∃ ao cap w2, (Builtin.append_ #[38, 38] 38 #[lv, .slice (some ⟨w1.heap.size, 0, none⟩) 1 1]).run Tryz.prog (w1.alloc (.cells #[v] 39)) = .ok (.slice ao (us.length + 1) cap) w2 ∧ M < w2.heap.size ∧ w2.frozen? ⟨M, 1, none⟩ = false ∧ w2.cell? ⟨M, 1, none⟩ = some lv ∧
      ∃ c', StepC (fun a => a = 1) c c' w (w2.setCell ⟨M, 1, none⟩ (.slice ao (us.length + 1) cap)) ∧ MkC c' (w2.setCell ⟨M, 1, none⟩ (.slice ao (us.length + 1) cap)) M nv (xs ++ [l]) (.slice ao (us.length + 1) cap) mb (us ++ [v]) := by
  obtain ⟨w1, hr1, hm1, hk1⟩ := mapT_put h.map hno (xs.length : Int) (by rw [List.length_map])
  have hM := h.box.lt
  have hsz := hk1.size
  have hs1 : StepC (fun a => a = 1) c c w w1 := ⟨hk1.mono fun k _ hk e => hk (by rw [e]; exact h.cmb), fun _ _ => rfl, fun k hk => h.fresh k (by omega)⟩
  have hb1 : box3 103 w1 M nv lv (.map (some mb)) := h.box.keep hk1 (Ne.symm h.ne1)
  have hrow1 : RowC c 1 39 w1 lv us := ⟨ownRow_keep h.row.own hk1 fun k e ek => h.ne3 (by rw [← ek]; exact e), h.row.col⟩
  have hc1 : CelC c w1 v (numC l) := hl.step (S := fun a => a = 1) hs1 (by decide)
  have hel1 : ListsC c w1 us xs := h.el.step (S := fun a => a = 1) hs1 (by decide)
  have hba := alloc_under w1 (.cells #[v] 39)
  have hsa := alloc_size w1 (.cells #[v] 39)
  have hf1 := hs1.fresh
  have hsA : StepC (fun a => a = 1) c c w1 (w1.alloc (.cells #[v] 39)) := StepC.below hf1 hba
  have hX : (w1.alloc (.cells #[v] 39)).cell? ⟨w1.heap.size, 0, none⟩ = some v := by rw [cell_of_row _ _ _ _ _ (0, 0) (heap_alloc_new w1 _)]; rfl
  obtain ⟨ao, cap, w2, c', hr2, hrow2, hs2⟩ := RowC.push (z := .slice none 0 0) (b := 24) (X := w1.heap.size) (u := v) hsA.fresh (A := 1) (T := 39) (us := us) (v := lv) ⟨ownRow_keep hrow1.own (keep_below (fun _ => True) hba) fun _ _ => trivial, hrow1.col⟩ 38 38 Tryz.underlying38 Tryz.infoIntsL rfl (by decide) hX hv1 hx
  have hmA : MapT (w1.alloc (.cells #[v] 39)) mb ((xs ++ [l]).map txK) := by
    rw [List.map_append]
    exact hm1.keep (keep_below (fun _ => True) hba) trivial
  have hbA := hb1.under hba
  have hMA : M < (w1.alloc (.cells #[v] 39)).heap.size := by omega
  have hkeep2 : KeepW (fun k => lv.ownBlock ≠ some k) (w1.alloc (.cells #[v] 39)) w2 := by
    obtain ⟨i0, hi1, hz0, hz1, hz2⟩ := info_of Tryz.infoIntsL
    have hown : (w1.alloc (.cells #[v] 39)).ownsRow 0 39 1 lv us.length us := ownRow_keep hrow1.own (keep_below (fun _ => True) hba) fun _ _ => trivial
    obtain ⟨v', w', hr, _, hgr, _, _⟩ := run_append_own_at (P := Tryz.prog) (w1.alloc (.cells #[v] 39)) 0 38 38 39 i0 (.slice none 0 0) 1 24 Tryz.underlying38 hi1 hz0 hz1 hz2 rfl (by decide) lv us.length us hown ⟨w1.heap.size, 0, none⟩ 1 1 [v] rfl (fun j x hx => by
      have hj := (List.getElem?_eq_some_iff.1 hx).1
      have : j = 0 := by simpa using hj
      subst this
      rw [rlit]
      simp at hx
      rw [← hx]
      exact hX) (fun x hx => by rw [List.mem_singleton.1 hx]; exact hv1) (by unfold maxLen; omega) (by omega) (Nat.zero_le _)
    rw [hr] at hr2
    injection hr2 with _ e
    rw [← e]
    exact ⟨hgr.os, hgr.tape, hgr.output, hgr.size, fun k hk hne => hgr.block k hk fun e => hne e.symm⟩
  have hb2 : box3 103 w2 M nv lv (.map (some mb)) := hbA.keep hkeep2 h.ne2
  have hm2 : MapT w2 mb ((xs ++ [l]).map txK) := hmA.keep hkeep2 h.ne3
  have hc2 : CelC c' w2 v (numC l) := (hc1.step hsA (by decide)).step hs2 (by decide)
  have hel2 : ListsC c' w2 us xs := (hel1.step hsA (by decide)).step hs2 (by decide)
  have hcM : c' M = 1 := by rw [hs2.same M hMA]; exact h.cM
  have hcmb : c' mb = 1 := by rw [hs2.same mb hmA.lt]; exact h.cmb
  have hset := stepc_set (B := M) (i := 1) (y := .slice ao (us.length + 1) cap) hs2.fresh
  rw [hcM] at hset
  have hnM : (Value.slice ao (us.length + 1) cap).ownBlock ≠ some M := fun e => by
    have hlt := hrow2.lt M e
    obtain ⟨hl2, ⟨hq, _⟩ | ⟨g, cp, cur, hq, _, hg, _⟩⟩ := hrow2.own
    · rw [hq] at e; cases e
    · rw [hq] at e
      cases e
      have := hb2
      unfold box3 at this
      rw [hg] at this
      injection this with this
      injection this with _ t1
      exact absurd t1 (by decide)
  have hnb : (Value.slice ao (us.length + 1) cap).ownBlock ≠ some mb := fun e => by
    obtain ⟨hl2, ⟨hq, _⟩ | ⟨g, cp, cur, hq, _, hg, _⟩⟩ := hrow2.own
    · rw [hq] at e; cases e
    · rw [hq] at e
      cases e
      obtain ⟨es, clock, hb, _⟩ := hm2
      rw [hg] at hb
      cases hb
  refine ⟨w1, hr1, hb1.cells.1.2.1, by omega, hb1.cells.2.2.1, ao, cap, w2, hr2, hb2.lt, hb2.cells.2.2.1, hb2.cells.1.2.1, c', ((hs1.trans hsA).trans hs2).trans hset, ?_⟩
  refine ⟨hb2.set1 _, hcM, ⟨ownRow_keep hrow2.own (keep_set (ok := fun k => k ≠ M) M 1 none _ w2 fun h => h rfl) fun k e ek => hnM (by rw [← ek]; exact e), hrow2.col⟩, hm2.keep (keep_set (ok := fun k => k ≠ M) M 1 none _ w2 fun h => h rfl) h.ne1, hcmb, h.ne1, hnM, hnb, ?_, hset.fresh⟩
  exact (hel2.snoc hc2 hll).step (S := fun a => a = 1) hset (by decide)
end
end Go.Proofs.YtjeomlickkpebaaGreatDoor

/-
  dfas.parting in memory: states, places, blocks, and whose block each state is in. No call is walked here.
-/
namespace Go.Proofs.YtjeomlickkpebaaGreatDoor
open Go.RowKit

def blkZ (b : Blk) : List Value := [.int .i64 (b.1 : Int), .int .i64 (b.2.1 : Int), .int .i64 (b.2.2 : Int)]
def blkC : List Blk → List Value
  | [] => []
  | b :: l => blkZ b ++ blkC l
theorem blkC_app : ∀ l m, blkC (l ++ m) = blkC l ++ blkC m
  | [], m => rfl
  | b :: l, m => by rw [List.cons_append, blkC, blkC, blkC_app l m, List.append_assoc]
theorem blkC_at : ∀ (l : List Blk) (i : Nat) (b : Blk), l[i]? = some b → ∀ j, j < 3 → (blkC l)[i * 3 + j]? = (blkZ b)[j]?
  | t :: l, 0, b, h, j, hj => by
    cases h
    rw [blkC, Nat.zero_mul, Nat.zero_add, List.getElem?_append_left (by show j < 3; exact hj)]
  | t :: l, i + 1, b, h, j, hj => by
    rw [blkC, List.getElem?_append_right (by show 3 ≤ _; omega), show (i + 1) * 3 + j - (blkZ t).length = i * 3 + j from by show (i + 1) * 3 + j - 3 = _; omega]
    exact blkC_at l i b h j hj
theorem blkC_one : ∀ (l : List Blk) (x : Value), x ∈ blkC l → x.oneCell' = true
  | b :: l, x, h => by
    rw [blkC, List.mem_append] at h
    rcases h with h | h
    · simp only [blkZ, List.mem_cons, List.not_mem_nil, or_false] at h
      rcases h with rfl | rfl | rfl <;> rfl
    · exact blkC_one l x h
theorem blkC_set0 : ∀ (l : List Blk) (i : Nat) (f t m v : Nat), l[i]? = some (f, t, m) → (blkC l).set (i * 3) (.int .i64 (v : Int)) = blkC (l.set i (v, t, m))
  | b :: l, 0, f, t, m, v, h => by cases h; rfl
  | b :: l, i + 1, f, t, m, v, h => by
    rw [List.set_cons_succ, blkC, blkC, List.set_append_right _ _ (by show 3 ≤ _; omega), show (i + 1) * 3 - (blkZ b).length = i * 3 from by show (i + 1) * 3 - 3 = _; omega, blkC_set0 l i f t m v h]
theorem blkC_set1 : ∀ (l : List Blk) (i : Nat) (f t m v : Nat), l[i]? = some (f, t, m) → (blkC l).set (i * 3 + 1) (.int .i64 (v : Int)) = blkC (l.set i (f, v, m))
  | b :: l, 0, f, t, m, v, h => by cases h; rfl
  | b :: l, i + 1, f, t, m, v, h => by
    rw [List.set_cons_succ, blkC, blkC, List.set_append_right _ _ (by show 3 ≤ _; omega), show (i + 1) * 3 + 1 - (blkZ b).length = i * 3 + 1 from by show (i + 1) * 3 + 1 - 3 = _; omega, blkC_set1 l i f t m v h]
theorem blkC_set2 : ∀ (l : List Blk) (i : Nat) (f t m v : Nat), l[i]? = some (f, t, m) → (blkC l).set (i * 3 + 2) (.int .i64 (v : Int)) = blkC (l.set i (f, t, v))
  | b :: l, 0, f, t, m, v, h => by cases h; rfl
  | b :: l, i + 1, f, t, m, v, h => by
    rw [List.set_cons_succ, blkC, blkC, List.set_append_right _ _ (by show 3 ≤ _; omega), show (i + 1) * 3 + 2 - (blkZ b).length = i * 3 + 2 from by show (i + 1) * 3 + 2 - 3 = _; omega, blkC_set2 l i f t m v h]
def natF (f : Nat → Nat) : Nat → Int := fun i => (f i : Int)
/-- A row of blocks in one's own block. -/
structure BlkW (c : Col) (w : World) (bv : Value) (Bs : List Blk) : Prop where
  own : w.ownsRow 0 150 3 bv Bs.length (blkC Bs)
  col : ∀ k, bv.ownBlock = some k → c k = 1
structure PtC (c : Col) (w : World) (U S P O cs : Nat) (bv : Value) (n : Nat) (Bs : List Blk) (st pl ob : Nat → Nat) : Prop where
  box : w.heap[U]? = some (.cells #[.slice (some ⟨S, 0, none⟩) n cs, .slice (some ⟨P, 0, none⟩) n n, bv, .slice (some ⟨O, 0, none⟩) n n] 132 (0, 0))
  cU : c U = 1
  cS : c S = 1
  cP : c P = 1
  cO : c O = 1
  s : ArrF w S n (natF st)
  p : ArrF w P n (natF pl)
  o : ArrF w O n (natF ob)
  g : BlkW c w bv Bs
  cap : n ≤ cs
  us : U ≠ S
  up : U ≠ P
  uo : U ≠ O
  sp : S ≠ P
  so : S ≠ O
  po : P ≠ O
  gu : bv.ownBlock ≠ some U
  gs : bv.ownBlock ≠ some S
  gp : bv.ownBlock ≠ some P
  go : bv.ownBlock ≠ some O
  fresh : Fresh0 c w
section
variable {Q : Nat → Prop} {c c' : Col} {w w' : World} {U S P O cs n : Nat} {bv : Value} {Bs : List Blk} {st pl ob : Nat → Nat}
theorem BlkW.keep {ok : Nat → Prop} (h : BlkW c w bv Bs) (hk : KeepW ok w w') (ho : ∀ k, bv.ownBlock = some k → ok k) : BlkW c w' bv Bs := ⟨ownRow_keep h.own hk ho, h.col⟩
theorem BlkW.form (h : BlkW c w bv Bs) : ∃ ao cap, bv = .slice ao Bs.length cap ∧ Bs.length ≤ cap := by
  obtain ⟨ao, cap, hv, hn, _⟩ := ownZ h.own
  exact ⟨ao, cap, hv, hn⟩
/-- A block's cells; each may be written. -/
theorem BlkW.at_ {j : Nat} {b : Blk} (h : BlkW c w bv Bs) (hj : Bs[j]? = some b) : ∃ g cap, bv = .slice (some ⟨g, 0, none⟩) Bs.length cap ∧ Bs.length ≤ cap ∧ g < w.heap.size ∧ (w.cell? ⟨g, j * 3, none⟩ = some (.int .i64 (b.1 : Int)) ∧ w.cell? ⟨g, j * 3 + 1, none⟩ = some (.int .i64 (b.2.1 : Int)) ∧ w.cell? ⟨g, j * 3 + 2, none⟩ = some (.int .i64 (b.2.2 : Int))) ∧
    (∀ i, w.frozen? ⟨g, i, none⟩ = false) ∧ ∀ (i : Nat) (Bs' : List Blk) (v : Value), Bs'.length = Bs.length → (blkC Bs).set i v = blkC Bs' → i < Bs.length * 3 → BlkW c (w.setCell ⟨g, i, none⟩ v) bv Bs' := by
  have hjl := (List.getElem?_eq_some_iff.1 hj).1
  obtain ⟨hl, ⟨rfl, h0⟩ | ⟨g, cap, cur, rfl, h3, hg, hn, hsz, hfz, hx⟩⟩ := h.own
  · omega
  have hcell : ∀ i x, (blkC Bs)[i]? = some x → w.cell? ⟨g, i, none⟩ = some x := fun i x hi => by
    rw [cell_of_row w g i cur _ (0, 0) hg, ← Array.getElem?_toList]
    rw [← hx, List.getElem?_take] at hi
    split at hi
    · exact hi
    · cases hi
  refine ⟨g, cap, rfl, hn, (Array.getElem?_eq_some_iff.1 hg).1, ⟨hcell _ _ (by have := blkC_at Bs j b hj 0 (by decide); rw [Nat.add_zero] at this; rw [this]; rfl), hcell _ _ (by rw [blkC_at Bs j b hj 1 (by decide)]; rfl), hcell _ _ (by rw [blkC_at Bs j b hj 2 (by decide)]; rfl)⟩, fun i => frozen_of_row w g i cur _ hg, fun i Bs' v hlen hset hi => ⟨?_, h.col⟩⟩
  rw [hlen, ← hset]
  refine ⟨by rw [List.length_set]; exact hl, .inr ⟨g, cap, cur.setIfInBounds i v, rfl, h3, heap_setCell_same w g i cur _ _ hg, hn, hsz, by rw [Array.size_setIfInBounds]; exact hfz, ?_⟩⟩
  rw [Array.toList_setIfInBounds, List.take_set, hx]
/-- What is written besides. -/
theorem PtC.step (h : PtC c w U S P O cs bv n Bs st pl ob) (hs : StepC Q c c' w w') (h1 : ¬ Q 1) : PtC c' w' U S P O cs bv n Bs st pl ob := by
  have lU : U < w.heap.size := (Array.getElem?_eq_some_iff.1 h.box).1
  have lg := World.ownsRow.lt h.g.own
  refine ⟨(hs.keep.same U lU (by rw [h.cU]; exact h1)).trans h.box, by rw [hs.same _ lU]; exact h.cU, by rw [hs.same _ h.s.lt]; exact h.cS, by rw [hs.same _ h.p.lt]; exact h.cP, by rw [hs.same _ h.o.lt]; exact h.cO, h.s.keep hs.keep (by rw [h.cS]; exact h1), h.p.keep hs.keep (by rw [h.cP]; exact h1), h.o.keep hs.keep (by rw [h.cO]; exact h1), ⟨ownRow_keep h.g.own hs.keep fun k e => by rw [h.g.col k e]; exact h1, fun k e => by rw [hs.same k (lg k e).2]; exact h.g.col k e⟩, h.cap, h.us, h.up, h.uo, h.sp, h.so, h.po, h.gu, h.gs, h.gp, h.go, hs.fresh⟩
theorem PtC.under (h : PtC c w U S P O cs bv n Bs st pl ob) (hb : Below w.heap.size w w') : PtC c w' U S P O cs bv n Bs st pl ob := h.step (Q := fun _ => False) (StepC.below h.fresh hb) (fun e => e)
theorem PtC.boxed (h : PtC c w U S P O cs bv n Bs st pl ob) : w.cell? ⟨U, 0, none⟩ = some (.slice (some ⟨S, 0, none⟩) n cs) ∧ w.cell? ⟨U, 1, none⟩ = some (.slice (some ⟨P, 0, none⟩) n n) ∧ w.cell? ⟨U, 2, none⟩ = some bv ∧ w.cell? ⟨U, 3, none⟩ = some (.slice (some ⟨O, 0, none⟩) n n) ∧ U < w.heap.size ∧ w.frozen? ⟨U, 2, none⟩ = false := by
  have := h.box
  refine ⟨?_, ?_, ?_, ?_, (Array.getElem?_eq_some_iff.1 this).1, frozen_of_row w U 2 _ _ this⟩ <;> (rw [cell_of_row w U _ _ _ (0, 0) this]; rfl)
theorem one_set {B i : Nat} {y : Value} (hf : Fresh0 c w) (hB : c B = 1) : StepC (fun a => a = 1) c c w (w.setCell ⟨B, i, none⟩ y) := by
  have := stepc_set (B := B) (i := i) (y := y) hf
  rwa [hB] at this
/-- A state's place is written. -/
theorem PtC.setS (h : PtC c w U S P O cs bv n Bs st pl ob) (i x : Nat) : PtC c (w.setCell ⟨S, i, none⟩ (.int .i64 (x : Int))) U S P O cs bv n Bs (updN st i x) pl ob := by
  have hk := keep_set (ok := fun k => k ≠ S) S i none (.int .i64 (x : Int)) w fun h => h rfl
  refine ⟨(hk.same U h.boxed.2.2.2.2.1 h.us).trans h.box, h.cU, h.cS, h.cP, h.cO, (h.s.set i (x : Int)).congr fun k _ => ?_, h.p.keep hk (Ne.symm h.sp), h.o.keep hk (Ne.symm h.so), h.g.keep hk fun k e ek => h.gs (by rw [← ek]; exact e), h.cap, h.us, h.up, h.uo, h.sp, h.so, h.po, h.gu, h.gs, h.gp, h.go, (stepc_set h.fresh).fresh⟩
  unfold natF updN
  show (if k = i then (x : Int) else (st k : Int)) = ((if k = i then x else st k : Nat) : Int)
  split <;> rfl
theorem PtC.setP (h : PtC c w U S P O cs bv n Bs st pl ob) (i x : Nat) : PtC c (w.setCell ⟨P, i, none⟩ (.int .i64 (x : Int))) U S P O cs bv n Bs st (updN pl i x) ob := by
  have hk := keep_set (ok := fun k => k ≠ P) P i none (.int .i64 (x : Int)) w fun h => h rfl
  refine ⟨(hk.same U h.boxed.2.2.2.2.1 h.up).trans h.box, h.cU, h.cS, h.cP, h.cO, h.s.keep hk h.sp, (h.p.set i (x : Int)).congr fun k _ => ?_, h.o.keep hk (Ne.symm h.po), h.g.keep hk fun k e ek => h.gp (by rw [← ek]; exact e), h.cap, h.us, h.up, h.uo, h.sp, h.so, h.po, h.gu, h.gs, h.gp, h.go, (stepc_set h.fresh).fresh⟩
  unfold natF updN
  show (if k = i then (x : Int) else (pl k : Int)) = ((if k = i then x else pl k : Nat) : Int)
  split <;> rfl
theorem PtC.setO (h : PtC c w U S P O cs bv n Bs st pl ob) (i x : Nat) : PtC c (w.setCell ⟨O, i, none⟩ (.int .i64 (x : Int))) U S P O cs bv n Bs st pl (updN ob i x) := by
  have hk := keep_set (ok := fun k => k ≠ O) O i none (.int .i64 (x : Int)) w fun h => h rfl
  refine ⟨(hk.same U h.boxed.2.2.2.2.1 h.uo).trans h.box, h.cU, h.cS, h.cP, h.cO, h.s.keep hk h.so, h.p.keep hk h.po, (h.o.set i (x : Int)).congr fun k _ => ?_, h.g.keep hk fun k e ek => h.go (by rw [← ek]; exact e), h.cap, h.us, h.up, h.uo, h.sp, h.so, h.po, h.gu, h.gs, h.gp, h.go, (stepc_set h.fresh).fresh⟩
  unfold natF updN
  show (if k = i then (x : Int) else (ob k : Int)) = ((if k = i then x else ob k : Nat) : Int)
  split <;> rfl
/-- A block is written. -/
theorem PtC.setB (h : PtC c w U S P O cs bv n Bs st pl ob) {g i : Nat} {v : Value} {Bs' : List Blk} (hg : bv.ownBlock = some g) (hw : BlkW c (w.setCell ⟨g, i, none⟩ v) bv Bs') : PtC c (w.setCell ⟨g, i, none⟩ v) U S P O cs bv n Bs' st pl ob := by
  have hk := keep_set (ok := fun k => k ≠ g) g i none v w fun h => h rfl
  have ne : ∀ k, bv.ownBlock ≠ some k → k ≠ g := fun k hk e => hk (by rw [e]; exact hg)
  exact ⟨(hk.same U h.boxed.2.2.2.2.1 (ne U h.gu)).trans h.box, h.cU, h.cS, h.cP, h.cO, h.s.keep hk (ne S h.gs), h.p.keep hk (ne P h.gp), h.o.keep hk (ne O h.go), hw, h.cap, h.us, h.up, h.uo, h.sp, h.so, h.po, h.gu, h.gs, h.gp, h.go, (stepc_set h.fresh).fresh⟩
end
end Go.Proofs.YtjeomlickkpebaaGreatDoor

/-
  dfas.parting: mark: what it returns, and leaves.
-/
namespace Go.Proofs.YtjeomlickkpebaaGreatDoor
open Go.RowKit

section
variable {c : Col} {w : World} {U S P O cs n : Nat} {bv : Value} {Bs : List Blk} {st pl ob : Nat → Nat}
theorem PtC.drewN (h : PtC c w U S P O cs bv n Bs st pl ob) (q : Nat) : PtC c (w.drewN q) U S P O cs bv n Bs st pl ob := h.step (Q := fun _ => False) (c' := c) ⟨keep_drewN _ _ _, fun _ _ => rfl, h.fresh⟩ (fun e => e)
theorem one_drewN (hf : Fresh0 c w) (q : Nat) : StepC (fun a => a = 1) c c w (w.drewN q) := ⟨keep_drewN _ _ _, fun _ _ => rfl, hf⟩
set_option maxRecDepth 8000 in
set_option maxHeartbeats 8000000 in
theorem pmark_any (h : PtC c w U S P O cs bv n Bs st pl ob) (hp : ParI n Bs st pl ob) (hn : n ≤ 100000) {x f t m : Nat} (hx : x < n) (hj : Bs[ob x]? = some (f, t, m)) (hm : ¬ MkP Bs pl ob x) :
    Calls Tryz.prog 76 #[.pointer (some ⟨U, 0, none⟩), .int .i64 (x : Int)] w fun e w' => e = .returned (.bool (decide (m = 0))) ∧ PtC c w' U S P O cs bv n (Bs.set (ob x) (f, t, m + 1)) (stM st (pl x) (f + m) x) (plM pl (pl x) (f + m) x (st (f + m))) ob ∧ StepC (fun a => a = 1) c c w w' := by
  obtain ⟨k1, k2, _, _⟩ := par_mark hp hx hj hm
  obtain ⟨b1, b2, b3, b4⟩ := hp.inb _ _ _ _ hj
  have hpx := (hp.inv1 x hx).1
  have hst := (hp.inv2 (f + m) (by omega)).1
  obtain ⟨j, hjj⟩ : ∃ j, ob x = j := ⟨_, rfl⟩
  obtain ⟨pp, hpp⟩ : ∃ pp, pl x = pp := ⟨_, rfl⟩
  obtain ⟨fr, hfr⟩ : ∃ fr, f + m = fr := ⟨_, rfl⟩
  obtain ⟨oth, hoth⟩ : ∃ oth, st fr = oth := ⟨_, rfl⟩
  rw [hjj] at hj
  rw [hfr] at hst
  rw [hoth] at hst
  rw [hpp] at hpx
  have hfn : fr < n := by omega
  have hjl := (List.getElem?_eq_some_iff.1 hj).1
  have hfew := hp.few
  have HX := Lib.hid h
  obtain ⟨x0, x1, x2, x3, x4, x5⟩ := h.boxed
  obtain ⟨g, cap, hbv, hcap, hg, ⟨c0, c1, c2⟩, hgf, hset⟩ := h.g.at_ hj
  have HBV : Hid (bv = .slice (some ⟨g, 0, none⟩) Bs.length cap) := Lib.hid hbv
  have o1 := h.o.cell hx
  have p1 := h.p.cell hx
  have s1 := h.s.cell hfn
  have s2 := h.s.cell hpx
  have e1 : natF ob x = (j : Int) := by unfold natF; rw [hjj]
  have e2 : natF pl x = (pp : Int) := by unfold natF; rw [hpp]
  have e3 : natF st fr = (oth : Int) := by unfold natF; rw [hoth]
  rw [e1] at o1
  rw [e2] at p1
  rw [e3] at s1
  have s2' : ∃ y, w.cell? ⟨S, pp, none⟩ = some y := ⟨_, s2⟩
  obtain ⟨y2, hy2⟩ := s2'
  have fS := h.s.frozen pp
  have fS2 := h.s.frozen fr
  have lS := h.s.lt
  have i1 : (f : Int) + (m : Int) = (fr : Int) := by omega
  have bl : Bs.length ≤ 100000 := by omega
  obtain ⟨nb, hnb⟩ : ∃ nb, Bs.length = nb := ⟨_, rfl⟩
  rw [hbv, hnb] at x2
  rw [hnb] at hcap hjl
  dsimp only at c0 c1 c2
  have HP := Lib.hid (fun q : Nat => ((h.drewN q).setS pp oth).setS fr x)
  have HQ := Lib.hid (fun q : Nat => ((one_drewN h.fresh q).trans (one_set (B := S) (i := pp) (y := .int .i64 (oth : Int)) (one_drewN h.fresh q).fresh h.cS)).trans (one_set (B := S) (i := fr) (y := .int .i64 (x : Int)) (stepc_set (one_drewN h.fresh q).fresh).fresh h.cS))
  have HPO := Lib.hid (And.intro h.cP (And.intro h.cS h.g.col))
  have HE := Lib.hid (And.intro hjj (And.intro hpp (And.intro hfr hoth)))
  have HJ := Lib.hid hj
  have nUS := h.us
  have nSU := Ne.symm h.us
  have hfx : ∀ q, ((w.drewN q).setCell ⟨S, pp, none⟩ (.int .i64 (oth : Int))).cell? ⟨S, fr, none⟩ = some (.int .i64 (oth : Int)) := fun q => by
    rw [((h.drewN q).setS pp oth).s.cell hfn]
    unfold natF updN
    split
    · rfl
    · rw [hoth]
  have mb : (m : Int) ≤ 100000 := by omega
  have fb : (f : Int) ≤ 100000 := by omega
  clear h hp hm k1 k2 b1 b2 b3 b4 hset e1 e2 e3 hjj hpp hfr hoth s2 hbv hnb hj hfew c1
  go_enter Tryz.func76, Tryz.ntmps76
  go_wp2
  go_quiet (fail)
  all_goals go_wp2
  go_quiet (fail)
  all_goals go_wp2
  go_region
  generalize hD : w.drewN _ = D0
  have hP4 : PtC c ((D0.setCell ⟨S, pp, none⟩ (.int .i64 (oth : Int))).setCell ⟨S, fr, none⟩ (.int .i64 (x : Int))) U S P O cs bv n Bs (updN (updN st pp oth) fr x) pl ob := by rw [← hD]; exact HP.out _
  have hQ4 : StepC (fun a => a = 1) c c w ((D0.setCell ⟨S, pp, none⟩ (.int .i64 (oth : Int))).setCell ⟨S, fr, none⟩ (.int .i64 (x : Int))) := by rw [← hD]; exact HQ.out _
  obtain ⟨W4, hW4⟩ : ∃ W, (D0.setCell ⟨S, pp, none⟩ (.int .i64 (oth : Int))).setCell ⟨S, fr, none⟩ (.int .i64 (x : Int)) = W := ⟨_, rfl⟩
  rw [hW4] at hP4 hQ4
  (try rw [hW4])
  clear hW4 hD hfx x0 x1 x2 x3 x4 x5 o1 p1 s1 c0 c2 hy2 fS fS2 hgf hg nUS nSU lS
  obtain ⟨x0, x1, x2, x3, x4, x5⟩ := hP4.boxed
  rw [HBV.out] at x2
  have p1 := hP4.p.cell hst
  have p2 := hP4.p.cell hx
  have fP := hP4.p.frozen oth
  have fP2 := hP4.p.frozen x
  have lP := hP4.p.lt
  have nUP := hP4.up
  have nPU := Ne.symm hP4.up
  have hfx : ∀ q, ((W4.drewN q).setCell ⟨P, oth, none⟩ (.int .i64 (pp : Int))).cell? ⟨P, x, none⟩ = some (.int .i64 (pp : Int)) := fun q => by
    rw [((hP4.drewN q).setP oth pp).p.cell hx]
    unfold natF updN
    split
    · rfl
    · rw [HE.out.2.1]
  have hfx2 : (W4.drew.setCell ⟨P, oth, none⟩ (.int .i64 (pp : Int))).cell? ⟨P, x, none⟩ = some (.int .i64 (pp : Int)) := hfx 1
  have hfx3 : (W4.setCell ⟨P, oth, none⟩ (.int .i64 (pp : Int))).cell? ⟨P, x, none⟩ = some (.int .i64 (pp : Int)) := hfx 0
  have hP5 : PtC c ((W4.setCell ⟨P, oth, none⟩ (.int .i64 (pp : Int))).setCell ⟨P, x, none⟩ (.int .i64 (fr : Int))).drew U S P O cs bv n Bs (updN (updN st pp oth) fr x) (updN (updN pl oth pp) x fr) ob := ((hP4.setP oth pp).setP x fr).drewN 1
  have hQ5 : StepC (fun a => a = 1) c c w ((W4.setCell ⟨P, oth, none⟩ (.int .i64 (pp : Int))).setCell ⟨P, x, none⟩ (.int .i64 (fr : Int))).drew := ((hQ4.trans (one_set (B := P) (i := oth) (y := .int .i64 (pp : Int)) hP4.fresh hP4.cP)).trans (one_set (B := P) (i := x) (y := .int .i64 (fr : Int)) (stepc_set hP4.fresh).fresh hP4.cP)).trans (one_drewN (stepc_set (stepc_set hP4.fresh).fresh).fresh 1)
  obtain ⟨W5, hW5⟩ : ∃ W, ((W4.setCell ⟨P, oth, none⟩ (.int .i64 (pp : Int))).setCell ⟨P, x, none⟩ (.int .i64 (fr : Int))).drew = W := ⟨_, rfl⟩
  rw [hW5] at hP5 hQ5
  have H5 := Lib.hid (And.intro hP5 hQ5)
  clear hP4 hQ4 hP5 hQ5
  go_wp2
  go_region
  (try rw [hW5])
  clear hW5 x0 x1 x2 x3 x4 x5 p1 p2 fP fP2 lP nUP nPU hfx hfx2 hfx3
  obtain ⟨g2, cap2, hbv2, _, hg2, ⟨c0, c1, c2⟩, hgf, hset⟩ := H5.out.1.g.at_ HJ.out
  rw [HBV.out] at hbv2
  cases hbv2
  have hgm := hgf (j * 3 + 2)
  have HF : Hid (PtC c (W5.setCell ⟨g, j * 3 + 2, none⟩ (.int .i64 ((m : Int) + 1))) U S P O cs bv n (Bs.set j (f, t, m + 1)) (updN (updN st pp oth) fr x) (updN (updN pl oth pp) x fr) ob ∧ StepC (fun a => a = 1) c c w (W5.setCell ⟨g, j * 3 + 2, none⟩ (.int .i64 ((m : Int) + 1)))) := Lib.hid (by
    have hown : bv.ownBlock = some g := by rw [HBV.out]; rfl
    have h2 := blkC_set2 Bs j f t m (m + 1) HJ.out
    have e : ((m + 1 : Nat) : Int) = (m : Int) + 1 := by omega
    rw [e] at h2
    have hjl2 := (List.getElem?_eq_some_iff.1 HJ.out).1
    refine ⟨H5.out.1.setB hown (hset _ _ _ (List.length_set) h2 (by omega)), H5.out.2.trans ?_⟩
    exact one_set H5.out.1.fresh (H5.out.1.g.col g hown))
  dsimp only at c0 c1 c2
  have hcg : (W5.setCell ⟨g, j * 3 + 2, none⟩ (.int .i64 ((m : Int) + 1))).cell? ⟨g, j * 3 + 2, none⟩ = some (.int .i64 ((m : Int) + 1)) := by
    obtain ⟨g3, cap3, hbv3, _, _, ⟨_, _, d2⟩, _, _⟩ := HF.out.1.g.at_ (j := j) (b := (f, t, m + 1)) (by rw [List.getElem?_set, if_pos rfl, if_pos (List.getElem?_eq_some_iff.1 HJ.out).1])
    rw [HBV.out] at hbv3
    injection hbv3 with e1 _ _
    injection e1 with e1
    injection e1 with e1
    subst e1
    rw [d2]
    show some (Value.int .i64 ((m + 1 : Nat) : Int)) = _
    rw [show ((m + 1 : Nat) : Int) = (m : Int) + 1 by omega]
  have hres : ((m : Int) + 1 == 1) = decide (m = 0) := by
    rw [Bool.eq_iff_iff, beq_iff_eq, decide_eq_true_eq]
    constructor <;> intro h <;> omega
  clear hset hgf c0 c1
  go_wp2
  go_ret
  refine ⟨?_, ?_, HF.out.2⟩
  · rfl
  · have := HF.out.1
    rw [HE.out.1, HE.out.2.1, HE.out.2.2.1]
    unfold stM plM
    rw [HE.out.2.2.2]
    exact this
end
end Go.Proofs.YtjeomlickkpebaaGreatDoor

/-
  dfas.parting: part: what it leaves.
-/
namespace Go.Proofs.YtjeomlickkpebaaGreatDoor
open Go.RowKit

theorem Tryz.infoBlk : (Tryz.prog.info? 150).map (fun i => (i.zero, i.size, i.bytes)) = some (some (.agg #[.int .i64 0, .int .i64 0, .int .i64 0]), 3, 24) := by kernel_rfl
section
variable {c : Col} {w : World} {U S P O cs n : Nat} {bv : Value} {Bs : List Blk} {st pl ob : Nat → Nat}
/-- A block's cell is written. -/
theorem PtC.blkset (h : PtC c w U S P O cs bv n Bs st pl ob) {g i : Nat} {v : Value} {Bs' : List Blk} (hown : bv.ownBlock = some g) (hlen : Bs'.length = Bs.length) (hset : (blkC Bs).set i v = blkC Bs') (hi : i < Bs.length * 3) : PtC c (w.setCell ⟨g, i, none⟩ v) U S P O cs bv n Bs' st pl ob := by
  obtain ⟨b, hb⟩ : ∃ b, Bs[0]? = some b := ⟨_, List.getElem?_eq_getElem (by omega)⟩
  obtain ⟨g2, cap, hbv, _, _, _, _, hs⟩ := h.g.at_ hb
  have e : g2 = g := by
    rw [hbv] at hown
    exact Option.some.inj hown
  subst e
  exact h.setB hown (hs i Bs' v hlen hset hi)
/-- A block's cells. -/
theorem PtC.blkat (h : PtC c w U S P O cs bv n Bs st pl ob) {g j f t m : Nat} (hown : bv.ownBlock = some g) (hj : Bs[j]? = some (f, t, m)) : w.cell? ⟨g, j * 3, none⟩ = some (.int .i64 (f : Int)) ∧ w.cell? ⟨g, j * 3 + 1, none⟩ = some (.int .i64 (t : Int)) ∧ w.cell? ⟨g, j * 3 + 2, none⟩ = some (.int .i64 (m : Int)) ∧ (∀ i, w.frozen? ⟨g, i, none⟩ = false) ∧ g < w.heap.size := by
  obtain ⟨g2, cap, hbv, _, hg, ⟨c0, c1, c2⟩, hf, _⟩ := h.g.at_ hj
  have e : g2 = g := by
    rw [hbv] at hown
    exact Option.some.inj hown
  subst e
  exact ⟨c0, c1, c2, hf, hg⟩
/-- A block more: append, and the store into the box. -/
theorem PtC.push (h : PtC c w U S P O cs bv n Bs st pl ob) {X : Nat} {b : Blk} (hX : ∀ (j : Nat) x, (blkZ b)[j]? = some x → w.cell? ⟨X, j, none⟩ = some x) (hl : Bs.length ≤ 100000) :
    ∃ ao cap w2, (Builtin.append_ #[130, 130] 130 #[bv, .slice (some ⟨X, 0, none⟩) 1 1]).run Tryz.prog w = .ok (.slice ao (Bs.length + 1) cap) w2 ∧ w2.cell? ⟨U, 2, none⟩ = some bv ∧ w2.frozen? ⟨U, 2, none⟩ = false ∧ U < w2.heap.size ∧
      ∃ c', StepC (fun a => a = 1) c c' w (w2.setCell ⟨U, 2, none⟩ (.slice ao (Bs.length + 1) cap)) ∧ PtC c' (w2.setCell ⟨U, 2, none⟩ (.slice ao (Bs.length + 1) cap)) U S P O cs (.slice ao (Bs.length + 1) cap) n (Bs ++ [b]) st pl ob := by
  obtain ⟨i0, hi1, hz0, hz1, hz2⟩ := info_of Tryz.infoBlk
  obtain ⟨v', w2, hr, hown', hgr, _, hat⟩ := run_append_own_at (P := Tryz.prog) w 0 130 130 150 i0 (.agg #[.int .i64 0, .int .i64 0, .int .i64 0]) 3 24 Tryz.underlying130 hi1 hz0 hz1 hz2 rfl (by decide) bv Bs.length (blkC Bs) h.g.own ⟨X, 0, none⟩ 1 1 (blkZ b) rfl (fun j x hx => by
    rw [rlit, Nat.zero_add]
    exact hX j x hx) (fun x hx => blkC_one [b] x (by rw [blkC, blkC, List.append_nil]; exact hx)) (by unfold maxLen; omega) (by omega) (Nat.zero_le _)
  have hkeep : KeepW (fun k => bv.ownBlock ≠ some k) w w2 := ⟨hgr.os, hgr.tape, hgr.output, hgr.size, fun k hk hne => hgr.block k hk fun e => hne e.symm⟩
  obtain ⟨ao, cap, rfl, _⟩ := ownZ hown'
  have lU := h.boxed.2.2.2.2.1
  have hbox2 := (hkeep.same U lU h.gu).trans h.box
  have hne : ∀ B, B < w.heap.size → bv.ownBlock ≠ some B → (Value.slice ao (Bs.length + 1) cap).ownBlock ≠ some B := fun B hB hb e => by
    rcases hat with hat | hat
    · exact hb (by rw [← hat]; exact e)
    · rw [hat] at e
      have e2 : w.heap.size = B := Option.some.inj e
      omega
  obtain ⟨c2, hc2⟩ : ∃ c2 : Col, c2 = fun k => if k = w.heap.size ∧ (Value.slice ao (Bs.length + 1) cap).ownBlock = some k then 1 else c k := ⟨_, rfl⟩
  have hold : ∀ k, k < w.heap.size → c2 k = c k := fun k hk => by rw [hc2]; exact if_neg (by omega)
  have hs2 : StepC (fun a => a = 1) c c2 w w2 := ⟨hkeep.mono fun k _ hk e => hk (h.g.col k e), hold, fun k hk => by
    rw [hc2]
    show (if _ then 1 else c k) = 0
    rw [if_neg ?_]
    · exact h.fresh k (Nat.le_trans hkeep.size hk)
    · rintro ⟨rfl, e⟩
      have := (World.ownsRow.lt hown' _ e).2
      omega⟩
  have cU2 : c2 U = 1 := by rw [hold U lU]; exact h.cU
  have hset := one_set (B := U) (i := 2) (y := .slice ao (Bs.length + 1) cap) hs2.fresh cU2
  have hk3 := keep_set (ok := fun k => k ≠ U) U 2 none (.slice ao (Bs.length + 1) cap) w2 fun h => h rfl
  have nU := hne U lU h.gu
  refine ⟨ao, cap, w2, hr, by rw [cell_of_row w2 U 2 _ _ (0, 0) hbox2]; rfl, frozen_of_row w2 U 2 _ _ hbox2, Nat.lt_of_lt_of_le lU hkeep.size, c2, hs2.trans hset, ?_⟩
  refine ⟨by rw [heap_setCell_same w2 U 2 _ _ _ hbox2]; rfl, cU2, by rw [hold S h.s.lt]; exact h.cS, by rw [hold P h.p.lt]; exact h.cP, by rw [hold O h.o.lt]; exact h.cO, (h.s.keep hkeep h.gs).keep hk3 (Ne.symm h.us), (h.p.keep hkeep h.gp).keep hk3 (Ne.symm h.up), (h.o.keep hkeep h.go).keep hk3 (Ne.symm h.uo), ⟨?_, fun k e => ?_⟩, h.cap, h.us, h.up, h.uo, h.sp, h.so, h.po, nU, hne S h.s.lt h.gs, hne P h.p.lt h.gp, hne O h.o.lt h.go, hset.fresh⟩
  · rw [List.length_append, blkC_app]
    show (w2.setCell _ _).ownsRow 0 _ 3 _ _ (blkC Bs ++ (blkZ b ++ []))
    rw [List.append_nil]
    exact ownRow_keep hown' hk3 fun k e ek => nU (by rw [← ek]; exact e)
  · rcases hat with hat | hat
    · have h2 : bv.ownBlock = some k := by rw [← hat]; exact e
      rw [hold k (World.ownsRow.lt h.g.own k h2).2]
      exact h.g.col k h2
    · have e2 : k = w.heap.size := by rw [hat] at e; exact (Option.some.inj e).symm
      rw [hc2]
      exact if_pos ⟨e2, e⟩
/-- What part leaves. -/
def PartR (c : Col) (w w' : World) (U S P O cs n j : Nat) (Bs : List Blk) (st pl ob : Nat → Nat) (e : Ending) : Prop :=
  e = .returned (.tuple #[]) ∧ ∃ c' bv' Bs' ob', StepC (fun a => a = 1) c c' w w' ∧ PtC c' w' U S P O cs bv' n Bs' st pl ob' ∧ ParI n Bs' st pl ob' ∧ PartO n j Bs.length Bs Bs' pl ob ob'
set_option maxRecDepth 8000 in
set_option maxHeartbeats 8000000 in
theorem ppart_all (h : PtC c w U S P O cs bv n Bs st pl ob) (hp : ParI n Bs st pl ob) (hn : n ≤ 100000) {j f t m : Nat} (hj : Bs[j]? = some (f, t, m)) (hm : f + m = t) :
    Calls Tryz.prog 77 #[.pointer (some ⟨U, 0, none⟩), .int .i64 (j : Int)] w fun e w' => PartR c w w' U S P O cs n j Bs st pl ob e := by
  obtain ⟨b1, b2, b3, b4⟩ := hp.inb _ _ _ _ hj
  have hjl := (List.getElem?_eq_some_iff.1 hj).1
  have hfew := hp.few
  obtain ⟨x0, x1, x2, x3, x4, x5⟩ := h.boxed
  obtain ⟨ao, cap, hbv, hcap⟩ := h.g.form
  obtain ⟨g, hown⟩ : ∃ g, bv.ownBlock = some g := by
    obtain ⟨g, cap, hbv, _⟩ := h.g.at_ hj
    exact ⟨g, by rw [hbv]; rfl⟩
  have hao : ao = some ⟨g, 0, none⟩ := by
    obtain ⟨g2, cap2, hbv2, _⟩ := h.g.at_ hj
    rw [hbv2] at hown hbv
    injection hbv with e1
    rw [← e1]
    have := Option.some.inj hown
    rw [show g2 = g from this]
  subst hao
  obtain ⟨c0, c1, c2, hgf, hg⟩ := h.blkat hown hj
  obtain ⟨mid, hmid⟩ : ∃ mid, f + m = mid := ⟨_, rfl⟩
  have i1 : (f : Int) + (m : Int) = (mid : Int) := by omega
  have hj2 : (Bs.set j (f, t, 0))[j]? = some (f, t, 0) := by rw [List.getElem?_set, if_pos rfl, if_pos hjl]
  have P2 : ∀ q, PtC c ((w.drewN q).setCell ⟨g, j * 3 + 2, none⟩ (.int .i64 0)) U S P O cs bv n (Bs.set j (f, t, 0)) st pl ob := fun q => (h.drewN q).blkset hown List.length_set (blkC_set2 Bs j f t m 0 hj) (by omega)
  have S2 : ∀ q, StepC (fun a => a = 1) c c w ((w.drewN q).setCell ⟨g, j * 3 + 2, none⟩ (.int .i64 0)) := fun q => (one_drewN h.fresh q).trans (one_set h.fresh (h.g.col g hown))
  have fb : (f : Int) ≤ 100000 := by omega
  have mb : (m : Int) ≤ 100000 := by omega
  have tb : (t : Int) ≤ 100000 := by omega
  have f0 : (0 : Int) ≤ (f : Int) := by omega
  have hgm := hgf (j * 3 + 2)
  have HBV := Lib.hid hbv
  have HOWN := Lib.hid hown
  obtain ⟨nb, hnb⟩ : ∃ nb, Bs.length = nb := ⟨_, rfl⟩
  rw [hbv, hnb] at x2
  have hjn : j < nb := by omega
  obtain ⟨y1, y2⟩ := part_all hp hj hm
  have hmt : mid = t := by omega
  have HF := Lib.hid (fun q => (show PartR c w ((w.drewN q).setCell ⟨g, j * 3 + 2, none⟩ (.int .i64 0)) U S P O cs n j Bs st pl ob (.returned (.tuple #[])) from ⟨rfl, c, bv, _, ob, S2 q, P2 q, y1, y2⟩))
  subst hmt
  have hcm : ∀ q, ((w.drewN q).setCell ⟨g, j * 3 + 2, none⟩ (.int .i64 0)).cell? ⟨g, j * 3 + 1, none⟩ = some (.int .i64 (mid : Int)) := fun q => ((P2 q).blkat hown hj2).2.1
  clear h hp hj hm b1 b2 b3 b4 y1 y2 hgf hbv hnb hj2 hown P2 S2 hfew hmid hcap
  go_enter Tryz.func77, Tryz.ntmps77
  go_wp2
  go_quiet (fail)
  all_goals go_wp2
  (try simp only [Exit.inBlock, Exit.then])
  refine bodyPost_ret (results_none rfl _ _ _) rfl ?_
  exact HF.out _
/-- A block that is new is written. -/
theorem StepC.fresh_set {S : Nat → Prop} {c c' : Col} {w V : World} {B i : Nat} {y : Value} (h : StepC S c c' w V) (hB : w.heap.size ≤ B) : StepC S c c' w (V.setCell ⟨B, i, none⟩ y) :=
  ⟨⟨h.keep.os, h.keep.tape, h.keep.output, by
    have : (V.setCell ⟨B, i, none⟩ y).heap.size = V.heap.size := by show (V.heap.modify _ _).size = _; rw [Array.size_modify]
    rw [this]; exact h.keep.size, fun k hk ho => by
    have h2 := keep_set (ok := fun k => k ≠ B) B i none y V fun h => h rfl
    rw [h2.same k (Nat.lt_of_lt_of_le hk h.keep.size) (by omega)]
    exact h.keep.same k hk ho⟩, h.same, (stepc_set h.fresh).fresh⟩
/-- A new block's states are written, and the block is appended. -/
structure LesI (c : Col) (w wr : World) (U S P O cs n j nb p0 q0 p1 q1 LB i : Nat) (bv : Value) (Bs : List Blk) (st pl ob : Nat → Nat) : Prop where
  ex : ∃ obi, PtC c wr U S P O cs bv n (Bs.set j (p1, q1, 0)) st pl obi ∧ ∀ y, y < n → obi y = if p0 ≤ pl y ∧ pl y < p0 + i then nb else ob y
  sc : StepC (fun a => a = 1) c c w wr
  lb : box3 150 wr LB (.int .i64 (p0 : Int)) (.int .i64 (q0 : Int)) (.int .i64 0)
theorem LesI.next {c : Col} {w wr : World} {U S P O cs n j nb p0 q0 p1 q1 LB i : Nat} {bv : Value} {Bs : List Blk} {st pl ob : Nat → Nat} (h : LesI c w wr U S P O cs n j nb p0 q0 p1 q1 LB i bv Bs st pl ob) (hp : ParI n Bs st pl ob) (hi : p0 + i < n) (hLB : c LB = 0) :
    LesI c w (wr.setCell ⟨O, st (p0 + i), none⟩ (.int .i64 (nb : Int))) U S P O cs n j nb p0 q0 p1 q1 LB (i + 1) bv Bs st pl ob := by
  obtain ⟨⟨obi, h1, h2⟩, h3, h4⟩ := h
  have hk := hp.inv2 (p0 + i) hi
  have hne : LB ≠ O := fun e => by rw [e, h1.cO] at hLB; cases hLB
  refine ⟨⟨updN obi (st (p0 + i)) nb, h1.setO _ _, fun y hy => ?_⟩, h3.trans (one_set h1.fresh h1.cO), h4.keep (keep_set (ok := fun k => k ≠ O) O _ none _ wr fun h => h rfl) hne⟩
  unfold updN
  by_cases e : y = st (p0 + i)
  · rw [if_pos e, e, hk.2, if_pos (by omega)]
  · rw [if_neg e, h2 y hy]
    have : pl y ≠ p0 + i := fun e2 => e (by rw [← e2, (hp.inv1 y hy).2])
    by_cases d : p0 ≤ pl y ∧ pl y < p0 + i
    · rw [if_pos d, if_pos (by omega)]
    · rw [if_neg d, if_neg (by omega)]
theorem LesI.drewN {c : Col} {w wr : World} {U S P O cs n j nb p0 q0 p1 q1 LB i : Nat} {bv : Value} {Bs : List Blk} {st pl ob : Nat → Nat} (h : LesI c w wr U S P O cs n j nb p0 q0 p1 q1 LB i bv Bs st pl ob) (q : Nat) :
    LesI c w (wr.drewN q) U S P O cs n j nb p0 q0 p1 q1 LB i bv Bs st pl ob := by
  obtain ⟨⟨obi, h1, h2⟩, h3, h4⟩ := h
  exact ⟨⟨obi, h1.drewN q, h2⟩, h3.trans (one_drewN h1.fresh q), h4.keep (keep_drewN (fun _ => True) wr q) trivial⟩
set_option maxRecDepth 8000 in
set_option maxHeartbeats 8000000 in
theorem ppart_new (h : PtC c w U S P O cs bv n Bs st pl ob) (hp : ParI n Bs st pl ob) (hn : n ≤ 100000) {j f t m : Nat} (hj : Bs[j]? = some (f, t, m)) (h0 : 0 < m) (hm : f + m < t) :
    Calls Tryz.prog 77 #[.pointer (some ⟨U, 0, none⟩), .int .i64 (j : Int)] w fun e w' => PartR c w w' U S P O cs n j Bs st pl ob e := by
  obtain ⟨b1, b2, b3, b4⟩ := hp.inb _ _ _ _ hj
  have hjl := (List.getElem?_eq_some_iff.1 hj).1
  have hfew := hp.few
  obtain ⟨x0, x1, x2, x3, x4, x5⟩ := h.boxed
  obtain ⟨ao, cap, hbv, hcap⟩ := h.g.form
  obtain ⟨g, hown⟩ : ∃ g, bv.ownBlock = some g := by
    obtain ⟨g, cap, hbv, _⟩ := h.g.at_ hj
    exact ⟨g, by rw [hbv]; rfl⟩
  have hao : ao = some ⟨g, 0, none⟩ := by
    obtain ⟨g2, cap2, hbv2, _⟩ := h.g.at_ hj
    rw [hbv2] at hown hbv
    injection hbv with e1
    rw [← e1]
    have := Option.some.inj hown
    rw [show g2 = g from this]
  subst hao
  obtain ⟨c0, c1, c2, hgf, hg⟩ := h.blkat hown hj
  obtain ⟨mid, hmid⟩ : ∃ mid, f + m = mid := ⟨_, rfl⟩
  have i1 : (f : Int) + (m : Int) = (mid : Int) := by omega
  have hj2 : (Bs.set j (f, t, 0))[j]? = some (f, t, 0) := by rw [List.getElem?_set, if_pos rfl, if_pos hjl]
  have P2 : ∀ q, PtC c ((w.drewN q).setCell ⟨g, j * 3 + 2, none⟩ (.int .i64 0)) U S P O cs bv n (Bs.set j (f, t, 0)) st pl ob := fun q => (h.drewN q).blkset hown List.length_set (blkC_set2 Bs j f t m 0 hj) (by omega)
  have S2 : ∀ q, StepC (fun a => a = 1) c c w ((w.drewN q).setCell ⟨g, j * 3 + 2, none⟩ (.int .i64 0)) := fun q => (one_drewN h.fresh q).trans (one_set h.fresh (h.g.col g hown))
  have fb : (f : Int) ≤ 100000 := by omega
  have mb : (m : Int) ≤ 100000 := by omega
  have tb : (t : Int) ≤ 100000 := by omega
  have f0 : (0 : Int) ≤ (f : Int) := by omega
  have hgm := hgf (j * 3 + 2)
  have HBV := Lib.hid hbv
  have HOWN := Lib.hid hown
  obtain ⟨nb, hnb⟩ : ∃ nb, Bs.length = nb := ⟨_, rfl⟩
  rw [hbv, hnb] at x2
  have hjn : j < nb := by omega
  have HPN := Lib.hid (fun (p q p' q' : Nat) (hpq : (p = f ∧ q = f + m ∧ p' = f + m ∧ q' = t) ∨ (p = f + m ∧ q = t ∧ p' = f ∧ q' = f + m)) (ob' : Nat → Nat) (hob : ∀ y, y < n → ob' y = if p ≤ pl y ∧ pl y < q then Bs.length else ob y) => part_new hp hj h0 hm hpq hob)
  have HP := Lib.hid hp
  have HJ2 := Lib.hid hj2
  have HNB := Lib.hid hnb
  have HJ := Lib.hid hj
  have hmt : mid < t := by omega
  have hmti : ¬ (mid : Int) = (t : Int) := by omega
  have hfm : f < mid := by omega
  have htn : t ≤ n := b2
  have HP2 := Lib.hid P2
  have HS2 := Lib.hid S2
  have HC2 := Lib.hid (fun q => (P2 q).blkat hown hj2)
  have hcm : ∀ q, ((w.drewN q).setCell ⟨g, j * 3 + 2, none⟩ (.int .i64 0)).cell? ⟨g, j * 3 + 1, none⟩ = some (.int .i64 (t : Int)) := fun q => ((P2 q).blkat hown hj2).2.1
  have hcf : ∀ q, ((w.drewN q).setCell ⟨g, j * 3 + 2, none⟩ (.int .i64 0)).cell? ⟨g, j * 3, none⟩ = some (.int .i64 (f : Int)) := fun q => ((P2 q).blkat hown hj2).1
  have HFC := Lib.hid h.fresh
  have HGC := Lib.hid (h.g.col g hown)
  clear h hp hj b1 b2 b3 b4 hgf hbv hnb hj2 hown P2 S2 hfew hcap
  go_enter Tryz.func77, Tryz.ntmps77
  go_wp2
  go_quiet (fail)
  all_goals go_wp2
  generalize hD : w.drewN _ = D0
  have hP2 : PtC c (D0.setCell ⟨g, j * 3 + 2, none⟩ (.int .i64 0)) U S P O cs bv n (Bs.set j (f, t, 0)) st pl ob := by rw [← hD]; exact HP2.out _
  have hS2 : StepC (fun a => a = 1) c c w (D0.setCell ⟨g, j * 3 + 2, none⟩ (.int .i64 0)) := by rw [← hD]; exact HS2.out _
  have hLB : (D0.setCell ⟨g, j * 3 + 2, none⟩ (.int .i64 0)).heap.size = w.heap.size := by
    rw [← hD]
    show ((w.drewN _).heap.modify _ _).size = _
    rw [Array.size_modify]
    rfl
  obtain ⟨W2, hW2⟩ : ∃ W, D0.setCell ⟨g, j * 3 + 2, none⟩ (.int .i64 0) = W := ⟨_, rfl⟩
  rw [hW2] at hP2 hS2 hLB
  (try rw [hW2])
  have hba := alloc_under W2 (.cells #[.int .i64 (f : Int), .int .i64 (mid : Int), .int .i64 0] 150)
  have hbx := box3.new 150 W2 (.int .i64 (f : Int)) (.int .i64 (mid : Int)) (.int .i64 0)
  rw [hLB] at hbx
  have hP4 := hP2.under hba
  have hS4 := hS2.trans (StepC.below (S := fun a => a = 1) hP2.fresh hba)
  have HLB : Hid (c w.heap.size = 0) := Lib.hid (HFC.out _ (Nat.le_refl _))
  obtain ⟨LB, hLBe⟩ : ∃ LB, w.heap.size = LB := ⟨_, rfl⟩
  have HLW := Lib.hid hLBe
  rw [hLBe] at hbx HLB
  (try rw [hLBe])
  obtain ⟨W4, hW4⟩ : ∃ W, W2.alloc (.cells #[.int .i64 (f : Int), .int .i64 (mid : Int), .int .i64 0] 150) = W := ⟨_, rfl⟩
  rw [hW4] at hP4 hS4 hbx
  (try rw [hW4])
  clear hW4 hLBe hba hP2 hS2 hLB hW2 hD hcm hcf x0 x1 x2 x3 x4 x5 c0 c1 c2 hgm hg HP2 HS2 HC2
  obtain ⟨c0, c1, c2, hgf, hg⟩ := hP4.blkat HOWN.out HJ2.out
  have m0 : (mid : Int) ≤ 100000 := by omega
  have H4 := Lib.hid (And.intro hP4 (And.intro hS4 hbx))
  by_cases hsm : mid - f ≤ t - mid
  · have hsi : (mid : Int) - (f : Int) ≤ (t : Int) - (mid : Int) := by omega
    clear hP4 hS4 hbx
    go_quiet (fail)
    all_goals go_wp2
    generalize hD6 : W4.drewN _ = D6
    have H6 : Hid (LesI c w (D6.setCell ⟨g, j * 3, none⟩ (.int .i64 (mid : Int))) U S P O cs n j nb f mid mid t LB 0 bv Bs st pl ob) := Lib.hid (by
      have hl := (List.getElem?_eq_some_iff.1 HJ2.out).1
      have z1 := H4.out.1
      have z2 : PtC c D6 U S P O cs bv n (Bs.set j (f, t, 0)) st pl ob := by rw [← hD6]; exact z1.drewN _
      have z3 : StepC (fun a => a = 1) c c w D6 := by rw [← hD6]; exact H4.out.2.1.trans (one_drewN z1.fresh _)
      have z4 := z2.blkset (Bs' := Bs.set j (mid, t, 0)) HOWN.out (by rw [List.length_set, List.length_set]) (by rw [blkC_set0 _ j f t 0 mid HJ2.out, List.set_set]) (i := j * 3) (v := .int .i64 (mid : Int)) (by omega)
      have hne : LB ≠ g := fun e => by
        have h1 := HLB.out
        rw [e, HGC.out] at h1
        cases h1
      refine ⟨⟨ob, z4, fun y _ => by rw [if_neg (by omega)]⟩, z3.trans (one_set z2.fresh HGC.out), ?_⟩
      have z5 : box3 150 D6 LB (.int .i64 (f : Int)) (.int .i64 (mid : Int)) (.int .i64 0) := by rw [← hD6]; exact H4.out.2.2.keep (keep_drewN (fun _ => True) W4 _) trivial
      exact z5.keep (keep_set (ok := fun k => k ≠ g) g _ none _ D6 fun h => h rfl) hne)
    obtain ⟨W6, hW6⟩ : ∃ W, D6.setCell ⟨g, j * 3, none⟩ (.int .i64 (mid : Int)) = W := ⟨_, rfl⟩
    rw [hW6] at H6
    (try rw [hW6])
    clear hW6 hD6 H4 c0 c1 c2 hgf hg
    have HSL : Hid (((f : Nat) : Int) ≤ ((mid : Nat) : Int) ∧ f ≤ mid ∧ mid ≤ n) := Lib.hid ⟨by omega, by omega, by omega⟩
    obtain ⟨x0, x1, x2, x3, x4, x5⟩ := (H6.out.ex.choose_spec.1).boxed
    obtain ⟨⟨l0, l1, l2⟩, lf⟩ := H6.out.lb.cells
    obtain ⟨len, hlen⟩ : ∃ len, mid - f = len := ⟨_, rfl⟩
    have hleni : ((mid : Nat) : Int) - ((f : Nat) : Int) = (len : Int) := by omega
    have hpq1 : f ≤ mid := by omega
    have hqn : mid ≤ n := by omega
    have hqcs : mid ≤ cs := by have := (H6.out.ex.choose_spec.1).cap; omega
    have hpi : ((f : Nat) : Int) ≤ ((mid : Nat) : Int) := by omega
    have hqi : ((mid : Nat) : Int) ≤ (cs : Int) := by omega
    go_wp2
    go_quiet (fail)
    all_goals go_wp2
    have H7 : Hid (∀ q9, LesI c w (W6.drewN q9) U S P O cs n j nb f mid mid t LB 0 bv Bs st pl ob) := Lib.hid (fun q9 => H6.out.drewN q9)
    generalize hD9 : W6.drewN _ = W9
    have H8 : Hid (LesI c w W9 U S P O cs n j nb f mid mid t LB 0 bv Bs st pl ob) := Lib.hid (by rw [← hD9]; exact H7.out _)
    clear H7 hD9 H6 x0 x1 x2 x3 x4 x5 l0 l1 l2 lf
    go_loopw [77] (fun s77 wr => ∃ i : Nat, s77 = .int .i64 (i : Int) ∧ i ≤ len ∧ Hid (LesI c w wr U S P O cs n j nb f mid mid t LB i bv Bs st pl ob)) (fun s77 _ => len - (intOf s77).toNat)
    case atStart => exact ⟨0, rfl, Nat.zero_le _, H8⟩
    case round =>
      clear H8
      obtain ⟨i, rfl, hi, HX⟩ := hrel
      have i0 : (0 : Int) ≤ (i : Int) := by omega
      have i2 : (i : Int) ≤ 100000 := by omega
      obtain ⟨obi, y1, y2⟩ := HX.out.ex
      obtain ⟨x0, x1, x2, x3, x4, x5⟩ := y1.boxed
      rw [HBV.out, HNB.out] at x2
      by_cases hlt : i < len
      · have hli : (i : Int) < (len : Int) := by omega
        have hpin : f + i < n := by omega
        have s1 := y1.s.cell hpin
        have e1 : natF st (f + i) = ((st (f + i) : Nat) : Int) := rfl
        obtain ⟨x, hx⟩ : ∃ x, st (f + i) = x := ⟨_, rfl⟩
        rw [e1, hx] at s1
        have hxn : x < n := by rw [← hx]; exact (HP.out.inv2 _ hpin).1
        have fO := y1.o.frozen x
        have lO := y1.o.lt
        have o1 := y1.o.cell hxn
        have HN := Lib.hid (HX.out.next HP.out hpin HLB.out)
        rw [hx] at HN
        clear y1 y2 HX hx e1
        go_wp2
        go_region
        all_goals go_wp2
        go_roundw
        case rel => exact ⟨i + 1, by go_num, hlt, Lib.hid (HN.out.drewN 1)⟩
        case measure => simp [intOf] <;> omega
      · have hli : ¬ (i : Int) < (len : Int) := by omega
        have hie : i = len := by omega
        have hpl : f + len = mid := by omega
        rw [hie] at y2 HX
        rw [hpl] at y2
        obtain ⟨⟨l0, l1, l2⟩, lf0, lf1, lf2⟩ := HX.out.lb.cells
        have hadd : ∀ W, Below wr.heap.size wr W → ∃ ao9 cap9 w9, (Builtin.append_ #[130, 130] 130 #[.slice (some ⟨g, 0, none⟩) nb cap, .slice (some ⟨W.heap.size, 0, none⟩) 1 1]).run Tryz.prog (W.alloc (.cells #[.int .i64 (f : Int), .int .i64 (mid : Int), .int .i64 0] 150)) = .ok (.slice ao9 (nb + 1) cap9) w9 ∧ w9.cell? ⟨U, 2, none⟩ = some (.slice (some ⟨g, 0, none⟩) nb cap) ∧ w9.frozen? ⟨U, 2, none⟩ = false ∧ U < w9.heap.size ∧
            Hid (PartR c w (w9.setCell ⟨U, 2, none⟩ (.slice ao9 (nb + 1) cap9)) U S P O cs n j Bs st pl ob (.returned (.tuple #[]))) := fun W hW => by
          have hba := alloc_under W (.cells #[.int .i64 (f : Int), .int .i64 (mid : Int), .int .i64 0] 150)
          have hbx := box3.new 150 W (.int .i64 (f : Int)) (.int .i64 (mid : Int)) (.int .i64 0)
          obtain ⟨ao9, cap9, w9, r1, r2, r3, r4, c9, r5, r6⟩ := ((y1.under hW).under hba).push (X := W.heap.size) (b := (f, mid, 0)) (fun i u hu => by
            obtain ⟨⟨d0, d1, d2⟩, _⟩ := hbx.cells
            match i, hu with
            | 0, hu => cases hu; exact d0
            | 1, hu => cases hu; exact d1
            | 2, hu => cases hu; exact d2) (by rw [List.length_set, HNB.out]; have := HP.out.few; rw [HNB.out] at this; omega)
          rw [List.length_set, HNB.out] at r1 r5 r6
          rw [HBV.out, HNB.out] at r1 r2
          have hw := (hW.trans (hba.mono hW.size))
          obtain ⟨z1, z2⟩ := HPN.out f mid mid t (by rw [hmid]; exact .inl ⟨rfl, rfl, rfl, rfl⟩) obi (by rw [HNB.out]; exact y2)
          exact ⟨ao9, cap9, w9, r1, r2, r3, r4, Lib.hid ⟨rfl, c9, _, _, obi, (HX.out.sc.trans (StepC.below y1.fresh hw)).trans r5, r6, z1, z2⟩⟩
        have HADD := Lib.hid hadd
        have kb := Below.refl wr.heap.size wr
        have kd := kb.drew
        have nLU : LB ≠ U := fun e => by
          have h1 := HLB.out
          rw [e, y1.cU] at h1
          cases h1
        clear y1 y2 HX hadd hie
        go_wp2
        obtain ⟨ao9, cap9, w9, hrun, r2, r3, r4, HR⟩ := HADD.out _ kd
        have hrun2 : (Builtin.append_ #[130, 130] 130 #[.slice (some ⟨g, 0, none⟩) nb cap, .slice (some ⟨wr.heap.size, 0, none⟩) 1 1]).run Tryz.prog ((wr.alloc (.cells #[.int .i64 (f : Int), .int .i64 (mid : Int), .int .i64 0] 150)).drew) = .ok (.slice ao9 (nb + 1) cap9) w9 := hrun
        clear hrun
        refine wp_region_any (by kernel_rfl) ?_
        (try (change wpAny _ _ _ _ _ _ _ (World.drew _)))
        refine wpAny_take (i := 0) (oi := { dst := some 93, op := Op.move (Operand.tmp 0), type := 128, pos := _, after := #[], guard := none }) (v := ?v1000) rfl (by kernel_rfl) (by kernel_rfl) (by kernel_rfl) (fun _ _ _ h => h) (Or.inl ⟨by rfl, ?h1000⟩) ?r1000
        case h1000 => (intro w; go_simp; (try with_reducible rfl))
        case r1000 =>
          (try simp only [Act.put, List.setIfInBounds_toArray, List.set_cons_zero, List.set_cons_succ])
          refine wpAny_take (i := 1) (oi := { dst := some 94, op := Op.move (Operand.tmp 0), type := 128, pos := _, after := #[], guard := none }) (v := ?v1001) rfl (by kernel_rfl) (by kernel_rfl) (by kernel_rfl) (fun _ _ _ h => h) (Or.inl ⟨by rfl, ?h1001⟩) ?r1001
          case h1001 => (intro w; go_simp; (try with_reducible rfl))
          case r1001 =>
            (try simp only [Act.put, List.setIfInBounds_toArray, List.set_cons_zero, List.set_cons_succ])
            refine wpAny_take (i := 2) (oi := { dst := some 95, op := Op.nilCheck (Operand.tmp 94), type := 0, pos := _, after := #[{ on := 1, ground := Ground.data }], guard := none }) (v := ?v1002) rfl (by kernel_rfl) (by kernel_rfl) (by kernel_rfl) (fun _ _ _ h => h) (Or.inl ⟨by rfl, ?h1002⟩) ?r1002
            case h1002 => (intro w; go_simp; (try with_reducible rfl))
            case r1002 =>
              (try simp only [Act.put, List.setIfInBounds_toArray, List.set_cons_zero, List.set_cons_succ])
              refine wpAny_take (i := 3) (oi := { dst := some 96, op := Op.fieldAddr 132 (Operand.tmp 95) 2, type := 0, pos := _, after := #[{ on := 2, ground := Ground.data }], guard := none }) (v := ?v1003) rfl (by kernel_rfl) (by kernel_rfl) (by kernel_rfl) (fun _ _ _ h => h) (Or.inl ⟨by rfl, ?h1003⟩) ?r1003
              case h1003 => (intro w; go_simp; (try with_reducible rfl))
              case r1003 =>
                (try simp only [Act.put, List.setIfInBounds_toArray, List.set_cons_zero, List.set_cons_succ])
                refine wpAny_ready (rs := [4, 5]) (by kernel_rfl) (by simp) ?_
                refine AllReady.cons (o := { dst := some 97, op := Op.load 130 (Operand.tmp 96), type := 130, pos := _, after := #[{ on := 3, ground := Ground.data }], guard := none }) rfl (fun K hK => ?_) (AllReady.cons (o := { dst := some 98, op := Op.load 150 (Operand.tmp 6), type := 150, pos := _, after := #[], guard := none }) rfl (fun K hK => ?_) AllReady.nil)
                · skip
                  go_simp
                  refine hK _ _ ?_
                  clear hK K
                  (try simp only [Act.put, List.setIfInBounds_toArray, List.set_cons_zero, List.set_cons_succ])
                  refine wpAny_ready (rs := [5]) (by kernel_rfl) (by simp) ?_
                  refine AllReady.cons (o := { dst := some 98, op := Op.load 150 (Operand.tmp 6), type := 150, pos := _, after := #[], guard := none }) rfl (fun K hK => ?_) AllReady.nil
                  go_simp
                  refine hK _ _ ?_
                  clear hK K
                  (try simp only [Act.put, List.setIfInBounds_toArray, List.set_cons_zero, List.set_cons_succ])
                  refine wpAny_ready (rs := [6]) (by kernel_rfl) (by simp) ?_
                  refine AllReady.cons (o := { dst := some 99, op := Op.buildSlice 130 1 #[(0, Operand.tmp 98)], type := 130, pos := _, after := #[{ on := 5, ground := Ground.data }], guard := none }) rfl (fun K hK => ?_) AllReady.nil
                  go_simp
                  refine hK _ _ ?_
                  clear hK K
                  (try simp only [Act.put, List.setIfInBounds_toArray, List.set_cons_zero, List.set_cons_succ])
                  refine wpAny_ready (rs := [7]) (by kernel_rfl) (by simp) ?_
                  refine AllReady.cons (o := { dst := some 100, op := Op.call { callee := Callee.builtin Builtin.append, args := #[Operand.tmp 97, Operand.tmp 99], argTypes := #[130, 130] }, type := 130, pos := _, after := #[{ on := 4, ground := Ground.data }, { on := 6, ground := Ground.data }], guard := none }) rfl (fun K hK => ?_) AllReady.nil
                  refine napp_step (by rfl) (.tmp 97) (.tmp 99) 130 (by rfl) (by rfl) (by rfl) hrun2 ?_
                  refine hK _ _ ?_
                  clear hK K
                  (try simp only [Act.put, List.setIfInBounds_toArray, List.set_cons_zero, List.set_cons_succ])
                  refine wpAny_take (i := 8) (oi := { dst := some 101, op := Op.nilCheck (Operand.tmp 93), type := 0, pos := _, after := #[{ on := 0, ground := Ground.data }, { on := 0, ground := Ground.phase }, { on := 1, ground := Ground.phase }, { on := 2, ground := Ground.phase }, { on := 3, ground := Ground.phase }, { on := 4, ground := Ground.phase }, { on := 5, ground := Ground.phase }, { on := 6, ground := Ground.phase }, { on := 7, ground := Ground.phase }], guard := none }) (v := ?v1004) rfl (by kernel_rfl) (by kernel_rfl) (by kernel_rfl) (fun _ _ _ h => h) (Or.inl ⟨by rfl, ?h1004⟩) ?r1004
                  case h1004 => (intro w; go_simp; (try with_reducible rfl))
                  case r1004 =>
                    (try simp only [Act.put, List.setIfInBounds_toArray, List.set_cons_zero, List.set_cons_succ])
                    refine wpAny_take (i := 9) (oi := { dst := some 102, op := Op.fieldAddr 132 (Operand.tmp 101) 2, type := 0, pos := _, after := #[{ on := 8, ground := Ground.data }, { on := 0, ground := Ground.phase }, { on := 1, ground := Ground.phase }, { on := 2, ground := Ground.phase }, { on := 3, ground := Ground.phase }, { on := 4, ground := Ground.phase }, { on := 5, ground := Ground.phase }, { on := 6, ground := Ground.phase }, { on := 7, ground := Ground.phase }], guard := none }) (v := ?v1005) rfl (by kernel_rfl) (by kernel_rfl) (by kernel_rfl) (fun _ _ _ h => h) (Or.inl ⟨by rfl, ?h1005⟩) ?r1005
                    case h1005 => (intro w; go_simp; (try with_reducible rfl))
                    case r1005 =>
                      (try simp only [Act.put, List.setIfInBounds_toArray, List.set_cons_zero, List.set_cons_succ])
                      refine wpAny_ready (rs := [10]) (by kernel_rfl) (by simp) ?_
                      refine AllReady.cons (o := { dst := none, op := Op.store 130 (Operand.tmp 102) (Operand.tmp 100), type := 0, pos := _, after := #[{ on := 9, ground := Ground.data }, { on := 7, ground := Ground.data }, { on := 7, ground := Ground.chain }, { on := 0, ground := Ground.phase }, { on := 1, ground := Ground.phase }, { on := 2, ground := Ground.phase }, { on := 3, ground := Ground.phase }, { on := 4, ground := Ground.phase }, { on := 5, ground := Ground.phase }, { on := 6, ground := Ground.phase }, { on := 7, ground := Ground.phase }], guard := none }) rfl (fun K hK => ?_) AllReady.nil
                      go_simp
                      refine hK _ _ ?_
                      clear hK K
                      (try simp only [Act.put, List.setIfInBounds_toArray, List.set_cons_zero, List.set_cons_succ])
                      refine wpAny_done (by kernel_rfl) ?_ _
                      go_wp2
                      go_end0
                      exact HR.out
                · skip
                  go_simp
                  refine hK _ _ ?_
                  clear hK K
                  (try simp only [Act.put, List.setIfInBounds_toArray, List.set_cons_zero, List.set_cons_succ])
                  refine wpAny_ready (rs := [4, 6]) (by kernel_rfl) (by simp) ?_
                  refine AllReady.cons (o := { dst := some 97, op := Op.load 130 (Operand.tmp 96), type := 130, pos := _, after := #[{ on := 3, ground := Ground.data }], guard := none }) rfl (fun K hK => ?_) (AllReady.cons (o := { dst := some 99, op := Op.buildSlice 130 1 #[(0, Operand.tmp 98)], type := 130, pos := _, after := #[{ on := 5, ground := Ground.data }], guard := none }) rfl (fun K hK => ?_) AllReady.nil)
                  · skip
                    go_simp
                    refine hK _ _ ?_
                    clear hK K
                    (try simp only [Act.put, List.setIfInBounds_toArray, List.set_cons_zero, List.set_cons_succ])
                    refine wpAny_ready (rs := [6]) (by kernel_rfl) (by simp) ?_
                    refine AllReady.cons (o := { dst := some 99, op := Op.buildSlice 130 1 #[(0, Operand.tmp 98)], type := 130, pos := _, after := #[{ on := 5, ground := Ground.data }], guard := none }) rfl (fun K hK => ?_) AllReady.nil
                    go_simp
                    refine hK _ _ ?_
                    clear hK K
                    (try simp only [Act.put, List.setIfInBounds_toArray, List.set_cons_zero, List.set_cons_succ])
                    refine wpAny_ready (rs := [7]) (by kernel_rfl) (by simp) ?_
                    refine AllReady.cons (o := { dst := some 100, op := Op.call { callee := Callee.builtin Builtin.append, args := #[Operand.tmp 97, Operand.tmp 99], argTypes := #[130, 130] }, type := 130, pos := _, after := #[{ on := 4, ground := Ground.data }, { on := 6, ground := Ground.data }], guard := none }) rfl (fun K hK => ?_) AllReady.nil
                    refine napp_step (by rfl) (.tmp 97) (.tmp 99) 130 (by rfl) (by rfl) (by rfl) hrun2 ?_
                    refine hK _ _ ?_
                    clear hK K
                    (try simp only [Act.put, List.setIfInBounds_toArray, List.set_cons_zero, List.set_cons_succ])
                    refine wpAny_take (i := 8) (oi := { dst := some 101, op := Op.nilCheck (Operand.tmp 93), type := 0, pos := _, after := #[{ on := 0, ground := Ground.data }, { on := 0, ground := Ground.phase }, { on := 1, ground := Ground.phase }, { on := 2, ground := Ground.phase }, { on := 3, ground := Ground.phase }, { on := 4, ground := Ground.phase }, { on := 5, ground := Ground.phase }, { on := 6, ground := Ground.phase }, { on := 7, ground := Ground.phase }], guard := none }) (v := ?v1006) rfl (by kernel_rfl) (by kernel_rfl) (by kernel_rfl) (fun _ _ _ h => h) (Or.inl ⟨by rfl, ?h1006⟩) ?r1006
                    case h1006 => (intro w; go_simp; (try with_reducible rfl))
                    case r1006 =>
                      (try simp only [Act.put, List.setIfInBounds_toArray, List.set_cons_zero, List.set_cons_succ])
                      refine wpAny_take (i := 9) (oi := { dst := some 102, op := Op.fieldAddr 132 (Operand.tmp 101) 2, type := 0, pos := _, after := #[{ on := 8, ground := Ground.data }, { on := 0, ground := Ground.phase }, { on := 1, ground := Ground.phase }, { on := 2, ground := Ground.phase }, { on := 3, ground := Ground.phase }, { on := 4, ground := Ground.phase }, { on := 5, ground := Ground.phase }, { on := 6, ground := Ground.phase }, { on := 7, ground := Ground.phase }], guard := none }) (v := ?v1007) rfl (by kernel_rfl) (by kernel_rfl) (by kernel_rfl) (fun _ _ _ h => h) (Or.inl ⟨by rfl, ?h1007⟩) ?r1007
                      case h1007 => (intro w; go_simp; (try with_reducible rfl))
                      case r1007 =>
                        (try simp only [Act.put, List.setIfInBounds_toArray, List.set_cons_zero, List.set_cons_succ])
                        refine wpAny_ready (rs := [10]) (by kernel_rfl) (by simp) ?_
                        refine AllReady.cons (o := { dst := none, op := Op.store 130 (Operand.tmp 102) (Operand.tmp 100), type := 0, pos := _, after := #[{ on := 9, ground := Ground.data }, { on := 7, ground := Ground.data }, { on := 7, ground := Ground.chain }, { on := 0, ground := Ground.phase }, { on := 1, ground := Ground.phase }, { on := 2, ground := Ground.phase }, { on := 3, ground := Ground.phase }, { on := 4, ground := Ground.phase }, { on := 5, ground := Ground.phase }, { on := 6, ground := Ground.phase }, { on := 7, ground := Ground.phase }], guard := none }) rfl (fun K hK => ?_) AllReady.nil
                        go_simp
                        refine hK _ _ ?_
                        clear hK K
                        (try simp only [Act.put, List.setIfInBounds_toArray, List.set_cons_zero, List.set_cons_succ])
                        refine wpAny_done (by kernel_rfl) ?_ _
                        go_wp2
                        go_end0
                        exact HR.out
                  · skip
                    go_simp
                    refine hK _ _ ?_
                    clear hK K
                    (try simp only [Act.put, List.setIfInBounds_toArray, List.set_cons_zero, List.set_cons_succ])
                    refine wpAny_ready (rs := [4]) (by kernel_rfl) (by simp) ?_
                    refine AllReady.cons (o := { dst := some 97, op := Op.load 130 (Operand.tmp 96), type := 130, pos := _, after := #[{ on := 3, ground := Ground.data }], guard := none }) rfl (fun K hK => ?_) AllReady.nil
                    go_simp
                    refine hK _ _ ?_
                    clear hK K
                    (try simp only [Act.put, List.setIfInBounds_toArray, List.set_cons_zero, List.set_cons_succ])
                    refine wpAny_ready (rs := [7]) (by kernel_rfl) (by simp) ?_
                    refine AllReady.cons (o := { dst := some 100, op := Op.call { callee := Callee.builtin Builtin.append, args := #[Operand.tmp 97, Operand.tmp 99], argTypes := #[130, 130] }, type := 130, pos := _, after := #[{ on := 4, ground := Ground.data }, { on := 6, ground := Ground.data }], guard := none }) rfl (fun K hK => ?_) AllReady.nil
                    refine napp_step (by rfl) (.tmp 97) (.tmp 99) 130 (by rfl) (by rfl) (by rfl) hrun2 ?_
                    refine hK _ _ ?_
                    clear hK K
                    (try simp only [Act.put, List.setIfInBounds_toArray, List.set_cons_zero, List.set_cons_succ])
                    refine wpAny_take (i := 8) (oi := { dst := some 101, op := Op.nilCheck (Operand.tmp 93), type := 0, pos := _, after := #[{ on := 0, ground := Ground.data }, { on := 0, ground := Ground.phase }, { on := 1, ground := Ground.phase }, { on := 2, ground := Ground.phase }, { on := 3, ground := Ground.phase }, { on := 4, ground := Ground.phase }, { on := 5, ground := Ground.phase }, { on := 6, ground := Ground.phase }, { on := 7, ground := Ground.phase }], guard := none }) (v := ?v1008) rfl (by kernel_rfl) (by kernel_rfl) (by kernel_rfl) (fun _ _ _ h => h) (Or.inl ⟨by rfl, ?h1008⟩) ?r1008
                    case h1008 => (intro w; go_simp; (try with_reducible rfl))
                    case r1008 =>
                      (try simp only [Act.put, List.setIfInBounds_toArray, List.set_cons_zero, List.set_cons_succ])
                      refine wpAny_take (i := 9) (oi := { dst := some 102, op := Op.fieldAddr 132 (Operand.tmp 101) 2, type := 0, pos := _, after := #[{ on := 8, ground := Ground.data }, { on := 0, ground := Ground.phase }, { on := 1, ground := Ground.phase }, { on := 2, ground := Ground.phase }, { on := 3, ground := Ground.phase }, { on := 4, ground := Ground.phase }, { on := 5, ground := Ground.phase }, { on := 6, ground := Ground.phase }, { on := 7, ground := Ground.phase }], guard := none }) (v := ?v1009) rfl (by kernel_rfl) (by kernel_rfl) (by kernel_rfl) (fun _ _ _ h => h) (Or.inl ⟨by rfl, ?h1009⟩) ?r1009
                      case h1009 => (intro w; go_simp; (try with_reducible rfl))
                      case r1009 =>
                        (try simp only [Act.put, List.setIfInBounds_toArray, List.set_cons_zero, List.set_cons_succ])
                        refine wpAny_ready (rs := [10]) (by kernel_rfl) (by simp) ?_
                        refine AllReady.cons (o := { dst := none, op := Op.store 130 (Operand.tmp 102) (Operand.tmp 100), type := 0, pos := _, after := #[{ on := 9, ground := Ground.data }, { on := 7, ground := Ground.data }, { on := 7, ground := Ground.chain }, { on := 0, ground := Ground.phase }, { on := 1, ground := Ground.phase }, { on := 2, ground := Ground.phase }, { on := 3, ground := Ground.phase }, { on := 4, ground := Ground.phase }, { on := 5, ground := Ground.phase }, { on := 6, ground := Ground.phase }, { on := 7, ground := Ground.phase }], guard := none }) rfl (fun K hK => ?_) AllReady.nil
                        go_simp
                        refine hK _ _ ?_
                        clear hK K
                        (try simp only [Act.put, List.setIfInBounds_toArray, List.set_cons_zero, List.set_cons_succ])
                        refine wpAny_done (by kernel_rfl) ?_ _
                        go_wp2
                        go_end0
                        exact HR.out
  · skip
    have hsi : ¬ (mid : Int) - (f : Int) ≤ (t : Int) - (mid : Int) := by omega
    obtain ⟨⟨l0, l1, l2⟩, lf0, lf1, lf2⟩ := hbx.cells
    have lLB := hbx.lt
    have nLg : LB ≠ g := fun e => by
      have h1 := HLB.out
      rw [e, HGC.out] at h1
      cases h1
    have ngL := Ne.symm nLg
    clear hP4 hS4 hbx
    go_quiet (fail)
    all_goals go_wp2
    go_region
    generalize hD6 : W4.drewN _ = D6
    have hLw : w.heap.size ≤ LB := by rw [HLW.out]; exact Nat.le_refl _
    have H8 : Hid (PtC c ((D6.setCell ⟨LB, 0, none⟩ (.int .i64 (mid : Int))).setCell ⟨LB, 1, none⟩ (.int .i64 (t : Int))) U S P O cs bv n (Bs.set j (f, t, 0)) st pl ob ∧ StepC (fun a => a = 1) c c w ((D6.setCell ⟨LB, 0, none⟩ (.int .i64 (mid : Int))).setCell ⟨LB, 1, none⟩ (.int .i64 (t : Int))) ∧ box3 150 ((D6.setCell ⟨LB, 0, none⟩ (.int .i64 (mid : Int))).setCell ⟨LB, 1, none⟩ (.int .i64 (t : Int))) LB (.int .i64 (mid : Int)) (.int .i64 (t : Int)) (.int .i64 0)) := Lib.hid (by
      have z1 := H4.out.1
      have z2 : PtC c D6 U S P O cs bv n (Bs.set j (f, t, 0)) st pl ob := by rw [← hD6]; exact z1.drewN _
      have z3 : StepC (fun a => a = 1) c c w D6 := by rw [← hD6]; exact H4.out.2.1.trans (one_drewN z1.fresh _)
      have z5 : box3 150 D6 LB (.int .i64 (f : Int)) (.int .i64 (mid : Int)) (.int .i64 0) := by rw [← hD6]; exact H4.out.2.2.keep (keep_drewN (fun _ => True) W4 _) trivial
      have z6 := (z5.set0 (.int .i64 (mid : Int))).set1 (.int .i64 (t : Int))
      have s1 := stepc_set (B := LB) (i := 0) (y := .int .i64 (mid : Int)) z2.fresh
      rw [HLB.out] at s1
      have z7 := z2.step s1 (by decide)
      have s2 := stepc_set (B := LB) (i := 1) (y := .int .i64 (t : Int)) z7.fresh
      rw [HLB.out] at s2
      exact ⟨z7.step s2 (by decide), (z3.fresh_set hLw).fresh_set hLw, z6⟩)
    obtain ⟨W8, hW8⟩ : ∃ W, (D6.setCell ⟨LB, 0, none⟩ (.int .i64 (mid : Int))).setCell ⟨LB, 1, none⟩ (.int .i64 (t : Int)) = W := ⟨_, rfl⟩
    rw [hW8] at H8
    (try rw [hW8])
    clear hW8 hD6 H4 c0 c1 c2 hgf hg l0 l1 l2 lf0 lf1 lf2 lLB
    obtain ⟨c0, c1, c2, hgf, hg⟩ := H8.out.1.blkat HOWN.out HJ2.out
    have hgf1 := hgf (j * 3 + 1)
    go_wp2
    have H6 : Hid (LesI c w (W8.setCell ⟨g, j * 3 + 1, none⟩ (.int .i64 (mid : Int))) U S P O cs n j nb mid t f mid LB 0 bv Bs st pl ob) := Lib.hid (by
      have hl := (List.getElem?_eq_some_iff.1 HJ2.out).1
      have z4 := H8.out.1.blkset (Bs' := Bs.set j (f, mid, 0)) HOWN.out (by rw [List.length_set, List.length_set]) (by rw [blkC_set1 _ j f t 0 mid HJ2.out, List.set_set]) (i := j * 3 + 1) (v := .int .i64 (mid : Int)) (by omega)
      exact ⟨⟨ob, z4, fun y _ => by rw [if_neg (by omega)]⟩, H8.out.2.1.trans (one_set H8.out.1.fresh HGC.out), H8.out.2.2.keep (keep_set (ok := fun k => k ≠ g) g _ none _ _ fun h => h rfl) nLg⟩)
    obtain ⟨W6, hW6⟩ : ∃ W, W8.setCell ⟨g, j * 3 + 1, none⟩ (.int .i64 (mid : Int)) = W := ⟨_, rfl⟩
    rw [hW6] at H6
    (try rw [hW6])
    clear hW6 H8 c0 c1 c2 hgf hgf1 hg nLg ngL
    have HSL : Hid (((mid : Nat) : Int) ≤ ((t : Nat) : Int) ∧ mid ≤ t ∧ t ≤ n) := Lib.hid ⟨by omega, by omega, by omega⟩
    obtain ⟨x0, x1, x2, x3, x4, x5⟩ := (H6.out.ex.choose_spec.1).boxed
    obtain ⟨⟨l0, l1, l2⟩, lf⟩ := H6.out.lb.cells
    obtain ⟨len, hlen⟩ : ∃ len, t - mid = len := ⟨_, rfl⟩
    have hleni : ((t : Nat) : Int) - ((mid : Nat) : Int) = (len : Int) := by omega
    have hpq1 : mid ≤ t := by omega
    have hqn : t ≤ n := by omega
    have hqcs : t ≤ cs := by have := (H6.out.ex.choose_spec.1).cap; omega
    have hpi : ((mid : Nat) : Int) ≤ ((t : Nat) : Int) := by omega
    have hqi : ((t : Nat) : Int) ≤ (cs : Int) := by omega
    go_wp2
    go_quiet (fail)
    all_goals go_wp2
    have H7 : Hid (∀ q9, LesI c w (W6.drewN q9) U S P O cs n j nb mid t f mid LB 0 bv Bs st pl ob) := Lib.hid (fun q9 => H6.out.drewN q9)
    generalize hD9 : W6.drewN _ = W9
    have H8 : Hid (LesI c w W9 U S P O cs n j nb mid t f mid LB 0 bv Bs st pl ob) := Lib.hid (by rw [← hD9]; exact H7.out _)
    clear H7 hD9 H6 x0 x1 x2 x3 x4 x5 l0 l1 l2 lf
    go_loopw [77] (fun s77 wr => ∃ i : Nat, s77 = .int .i64 (i : Int) ∧ i ≤ len ∧ Hid (LesI c w wr U S P O cs n j nb mid t f mid LB i bv Bs st pl ob)) (fun s77 _ => len - (intOf s77).toNat)
    case atStart => exact ⟨0, rfl, Nat.zero_le _, H8⟩
    case round =>
      clear H8
      obtain ⟨i, rfl, hi, HX⟩ := hrel
      have i0 : (0 : Int) ≤ (i : Int) := by omega
      have i2 : (i : Int) ≤ 100000 := by omega
      obtain ⟨obi, y1, y2⟩ := HX.out.ex
      obtain ⟨x0, x1, x2, x3, x4, x5⟩ := y1.boxed
      rw [HBV.out, HNB.out] at x2
      by_cases hlt : i < len
      · have hli : (i : Int) < (len : Int) := by omega
        have hpin : mid + i < n := by omega
        have s1 := y1.s.cell hpin
        have e1 : natF st (mid + i) = ((st (mid + i) : Nat) : Int) := rfl
        obtain ⟨x, hx⟩ : ∃ x, st (mid + i) = x := ⟨_, rfl⟩
        rw [e1, hx] at s1
        have hxn : x < n := by rw [← hx]; exact (HP.out.inv2 _ hpin).1
        have fO := y1.o.frozen x
        have lO := y1.o.lt
        have o1 := y1.o.cell hxn
        have HN := Lib.hid (HX.out.next HP.out hpin HLB.out)
        rw [hx] at HN
        clear y1 y2 HX hx e1
        go_wp2
        go_region
        all_goals go_wp2
        go_roundw
        case rel => exact ⟨i + 1, by go_num, hlt, Lib.hid (HN.out.drewN 1)⟩
        case measure => simp [intOf] <;> omega
      · have hli : ¬ (i : Int) < (len : Int) := by omega
        have hie : i = len := by omega
        have hpl : mid + len = t := by omega
        rw [hie] at y2 HX
        rw [hpl] at y2
        obtain ⟨⟨l0, l1, l2⟩, lf0, lf1, lf2⟩ := HX.out.lb.cells
        have hadd : ∀ W, Below wr.heap.size wr W → ∃ ao9 cap9 w9, (Builtin.append_ #[130, 130] 130 #[.slice (some ⟨g, 0, none⟩) nb cap, .slice (some ⟨W.heap.size, 0, none⟩) 1 1]).run Tryz.prog (W.alloc (.cells #[.int .i64 (mid : Int), .int .i64 (t : Int), .int .i64 0] 150)) = .ok (.slice ao9 (nb + 1) cap9) w9 ∧ w9.cell? ⟨U, 2, none⟩ = some (.slice (some ⟨g, 0, none⟩) nb cap) ∧ w9.frozen? ⟨U, 2, none⟩ = false ∧ U < w9.heap.size ∧
            Hid (PartR c w (w9.setCell ⟨U, 2, none⟩ (.slice ao9 (nb + 1) cap9)) U S P O cs n j Bs st pl ob (.returned (.tuple #[]))) := fun W hW => by
          have hba := alloc_under W (.cells #[.int .i64 (mid : Int), .int .i64 (t : Int), .int .i64 0] 150)
          have hbx := box3.new 150 W (.int .i64 (mid : Int)) (.int .i64 (t : Int)) (.int .i64 0)
          obtain ⟨ao9, cap9, w9, r1, r2, r3, r4, c9, r5, r6⟩ := ((y1.under hW).under hba).push (X := W.heap.size) (b := (mid, t, 0)) (fun i u hu => by
            obtain ⟨⟨d0, d1, d2⟩, _⟩ := hbx.cells
            match i, hu with
            | 0, hu => cases hu; exact d0
            | 1, hu => cases hu; exact d1
            | 2, hu => cases hu; exact d2) (by rw [List.length_set, HNB.out]; have := HP.out.few; rw [HNB.out] at this; omega)
          rw [List.length_set, HNB.out] at r1 r5 r6
          rw [HBV.out, HNB.out] at r1 r2
          have hw := (hW.trans (hba.mono hW.size))
          obtain ⟨z1, z2⟩ := HPN.out mid t f mid (by rw [hmid]; exact .inr ⟨rfl, rfl, rfl, rfl⟩) obi (by rw [HNB.out]; exact y2)
          exact ⟨ao9, cap9, w9, r1, r2, r3, r4, Lib.hid ⟨rfl, c9, _, _, obi, (HX.out.sc.trans (StepC.below y1.fresh hw)).trans r5, r6, z1, z2⟩⟩
        have HADD := Lib.hid hadd
        have kb := Below.refl wr.heap.size wr
        have kd := kb.drew
        have nLU : LB ≠ U := fun e => by
          have h1 := HLB.out
          rw [e, y1.cU] at h1
          cases h1
        clear y1 y2 HX hadd hie
        go_wp2
        obtain ⟨ao9, cap9, w9, hrun, r2, r3, r4, HR⟩ := HADD.out _ kd
        have hrun2 : (Builtin.append_ #[130, 130] 130 #[.slice (some ⟨g, 0, none⟩) nb cap, .slice (some ⟨wr.heap.size, 0, none⟩) 1 1]).run Tryz.prog ((wr.alloc (.cells #[.int .i64 (mid : Int), .int .i64 (t : Int), .int .i64 0] 150)).drew) = .ok (.slice ao9 (nb + 1) cap9) w9 := hrun
        clear hrun
        refine wp_region_any (by kernel_rfl) ?_
        (try (change wpAny _ _ _ _ _ _ _ (World.drew _)))
        refine wpAny_take (i := 0) (oi := { dst := some 93, op := Op.move (Operand.tmp 0), type := 128, pos := _, after := #[], guard := none }) (v := ?v1010) rfl (by kernel_rfl) (by kernel_rfl) (by kernel_rfl) (fun _ _ _ h => h) (Or.inl ⟨by rfl, ?h1010⟩) ?r1010
        case h1010 => (intro w; go_simp; (try with_reducible rfl))
        case r1010 =>
          (try simp only [Act.put, List.setIfInBounds_toArray, List.set_cons_zero, List.set_cons_succ])
          refine wpAny_take (i := 1) (oi := { dst := some 94, op := Op.move (Operand.tmp 0), type := 128, pos := _, after := #[], guard := none }) (v := ?v1011) rfl (by kernel_rfl) (by kernel_rfl) (by kernel_rfl) (fun _ _ _ h => h) (Or.inl ⟨by rfl, ?h1011⟩) ?r1011
          case h1011 => (intro w; go_simp; (try with_reducible rfl))
          case r1011 =>
            (try simp only [Act.put, List.setIfInBounds_toArray, List.set_cons_zero, List.set_cons_succ])
            refine wpAny_take (i := 2) (oi := { dst := some 95, op := Op.nilCheck (Operand.tmp 94), type := 0, pos := _, after := #[{ on := 1, ground := Ground.data }], guard := none }) (v := ?v1012) rfl (by kernel_rfl) (by kernel_rfl) (by kernel_rfl) (fun _ _ _ h => h) (Or.inl ⟨by rfl, ?h1012⟩) ?r1012
            case h1012 => (intro w; go_simp; (try with_reducible rfl))
            case r1012 =>
              (try simp only [Act.put, List.setIfInBounds_toArray, List.set_cons_zero, List.set_cons_succ])
              refine wpAny_take (i := 3) (oi := { dst := some 96, op := Op.fieldAddr 132 (Operand.tmp 95) 2, type := 0, pos := _, after := #[{ on := 2, ground := Ground.data }], guard := none }) (v := ?v1013) rfl (by kernel_rfl) (by kernel_rfl) (by kernel_rfl) (fun _ _ _ h => h) (Or.inl ⟨by rfl, ?h1013⟩) ?r1013
              case h1013 => (intro w; go_simp; (try with_reducible rfl))
              case r1013 =>
                (try simp only [Act.put, List.setIfInBounds_toArray, List.set_cons_zero, List.set_cons_succ])
                refine wpAny_ready (rs := [4, 5]) (by kernel_rfl) (by simp) ?_
                refine AllReady.cons (o := { dst := some 97, op := Op.load 130 (Operand.tmp 96), type := 130, pos := _, after := #[{ on := 3, ground := Ground.data }], guard := none }) rfl (fun K hK => ?_) (AllReady.cons (o := { dst := some 98, op := Op.load 150 (Operand.tmp 6), type := 150, pos := _, after := #[], guard := none }) rfl (fun K hK => ?_) AllReady.nil)
                · skip
                  go_simp
                  refine hK _ _ ?_
                  clear hK K
                  (try simp only [Act.put, List.setIfInBounds_toArray, List.set_cons_zero, List.set_cons_succ])
                  refine wpAny_ready (rs := [5]) (by kernel_rfl) (by simp) ?_
                  refine AllReady.cons (o := { dst := some 98, op := Op.load 150 (Operand.tmp 6), type := 150, pos := _, after := #[], guard := none }) rfl (fun K hK => ?_) AllReady.nil
                  go_simp
                  refine hK _ _ ?_
                  clear hK K
                  (try simp only [Act.put, List.setIfInBounds_toArray, List.set_cons_zero, List.set_cons_succ])
                  refine wpAny_ready (rs := [6]) (by kernel_rfl) (by simp) ?_
                  refine AllReady.cons (o := { dst := some 99, op := Op.buildSlice 130 1 #[(0, Operand.tmp 98)], type := 130, pos := _, after := #[{ on := 5, ground := Ground.data }], guard := none }) rfl (fun K hK => ?_) AllReady.nil
                  go_simp
                  refine hK _ _ ?_
                  clear hK K
                  (try simp only [Act.put, List.setIfInBounds_toArray, List.set_cons_zero, List.set_cons_succ])
                  refine wpAny_ready (rs := [7]) (by kernel_rfl) (by simp) ?_
                  refine AllReady.cons (o := { dst := some 100, op := Op.call { callee := Callee.builtin Builtin.append, args := #[Operand.tmp 97, Operand.tmp 99], argTypes := #[130, 130] }, type := 130, pos := _, after := #[{ on := 4, ground := Ground.data }, { on := 6, ground := Ground.data }], guard := none }) rfl (fun K hK => ?_) AllReady.nil
                  refine napp_step (by rfl) (.tmp 97) (.tmp 99) 130 (by rfl) (by rfl) (by rfl) hrun2 ?_
                  refine hK _ _ ?_
                  clear hK K
                  (try simp only [Act.put, List.setIfInBounds_toArray, List.set_cons_zero, List.set_cons_succ])
                  refine wpAny_take (i := 8) (oi := { dst := some 101, op := Op.nilCheck (Operand.tmp 93), type := 0, pos := _, after := #[{ on := 0, ground := Ground.data }, { on := 0, ground := Ground.phase }, { on := 1, ground := Ground.phase }, { on := 2, ground := Ground.phase }, { on := 3, ground := Ground.phase }, { on := 4, ground := Ground.phase }, { on := 5, ground := Ground.phase }, { on := 6, ground := Ground.phase }, { on := 7, ground := Ground.phase }], guard := none }) (v := ?v1014) rfl (by kernel_rfl) (by kernel_rfl) (by kernel_rfl) (fun _ _ _ h => h) (Or.inl ⟨by rfl, ?h1014⟩) ?r1014
                  case h1014 => (intro w; go_simp; (try with_reducible rfl))
                  case r1014 =>
                    (try simp only [Act.put, List.setIfInBounds_toArray, List.set_cons_zero, List.set_cons_succ])
                    refine wpAny_take (i := 9) (oi := { dst := some 102, op := Op.fieldAddr 132 (Operand.tmp 101) 2, type := 0, pos := _, after := #[{ on := 8, ground := Ground.data }, { on := 0, ground := Ground.phase }, { on := 1, ground := Ground.phase }, { on := 2, ground := Ground.phase }, { on := 3, ground := Ground.phase }, { on := 4, ground := Ground.phase }, { on := 5, ground := Ground.phase }, { on := 6, ground := Ground.phase }, { on := 7, ground := Ground.phase }], guard := none }) (v := ?v1015) rfl (by kernel_rfl) (by kernel_rfl) (by kernel_rfl) (fun _ _ _ h => h) (Or.inl ⟨by rfl, ?h1015⟩) ?r1015
                    case h1015 => (intro w; go_simp; (try with_reducible rfl))
                    case r1015 =>
                      (try simp only [Act.put, List.setIfInBounds_toArray, List.set_cons_zero, List.set_cons_succ])
                      refine wpAny_ready (rs := [10]) (by kernel_rfl) (by simp) ?_
                      refine AllReady.cons (o := { dst := none, op := Op.store 130 (Operand.tmp 102) (Operand.tmp 100), type := 0, pos := _, after := #[{ on := 9, ground := Ground.data }, { on := 7, ground := Ground.data }, { on := 7, ground := Ground.chain }, { on := 0, ground := Ground.phase }, { on := 1, ground := Ground.phase }, { on := 2, ground := Ground.phase }, { on := 3, ground := Ground.phase }, { on := 4, ground := Ground.phase }, { on := 5, ground := Ground.phase }, { on := 6, ground := Ground.phase }, { on := 7, ground := Ground.phase }], guard := none }) rfl (fun K hK => ?_) AllReady.nil
                      go_simp
                      refine hK _ _ ?_
                      clear hK K
                      (try simp only [Act.put, List.setIfInBounds_toArray, List.set_cons_zero, List.set_cons_succ])
                      refine wpAny_done (by kernel_rfl) ?_ _
                      go_wp2
                      go_end0
                      exact HR.out
                · skip
                  go_simp
                  refine hK _ _ ?_
                  clear hK K
                  (try simp only [Act.put, List.setIfInBounds_toArray, List.set_cons_zero, List.set_cons_succ])
                  refine wpAny_ready (rs := [4, 6]) (by kernel_rfl) (by simp) ?_
                  refine AllReady.cons (o := { dst := some 97, op := Op.load 130 (Operand.tmp 96), type := 130, pos := _, after := #[{ on := 3, ground := Ground.data }], guard := none }) rfl (fun K hK => ?_) (AllReady.cons (o := { dst := some 99, op := Op.buildSlice 130 1 #[(0, Operand.tmp 98)], type := 130, pos := _, after := #[{ on := 5, ground := Ground.data }], guard := none }) rfl (fun K hK => ?_) AllReady.nil)
                  · skip
                    go_simp
                    refine hK _ _ ?_
                    clear hK K
                    (try simp only [Act.put, List.setIfInBounds_toArray, List.set_cons_zero, List.set_cons_succ])
                    refine wpAny_ready (rs := [6]) (by kernel_rfl) (by simp) ?_
                    refine AllReady.cons (o := { dst := some 99, op := Op.buildSlice 130 1 #[(0, Operand.tmp 98)], type := 130, pos := _, after := #[{ on := 5, ground := Ground.data }], guard := none }) rfl (fun K hK => ?_) AllReady.nil
                    go_simp
                    refine hK _ _ ?_
                    clear hK K
                    (try simp only [Act.put, List.setIfInBounds_toArray, List.set_cons_zero, List.set_cons_succ])
                    refine wpAny_ready (rs := [7]) (by kernel_rfl) (by simp) ?_
                    refine AllReady.cons (o := { dst := some 100, op := Op.call { callee := Callee.builtin Builtin.append, args := #[Operand.tmp 97, Operand.tmp 99], argTypes := #[130, 130] }, type := 130, pos := _, after := #[{ on := 4, ground := Ground.data }, { on := 6, ground := Ground.data }], guard := none }) rfl (fun K hK => ?_) AllReady.nil
                    refine napp_step (by rfl) (.tmp 97) (.tmp 99) 130 (by rfl) (by rfl) (by rfl) hrun2 ?_
                    refine hK _ _ ?_
                    clear hK K
                    (try simp only [Act.put, List.setIfInBounds_toArray, List.set_cons_zero, List.set_cons_succ])
                    refine wpAny_take (i := 8) (oi := { dst := some 101, op := Op.nilCheck (Operand.tmp 93), type := 0, pos := _, after := #[{ on := 0, ground := Ground.data }, { on := 0, ground := Ground.phase }, { on := 1, ground := Ground.phase }, { on := 2, ground := Ground.phase }, { on := 3, ground := Ground.phase }, { on := 4, ground := Ground.phase }, { on := 5, ground := Ground.phase }, { on := 6, ground := Ground.phase }, { on := 7, ground := Ground.phase }], guard := none }) (v := ?v1016) rfl (by kernel_rfl) (by kernel_rfl) (by kernel_rfl) (fun _ _ _ h => h) (Or.inl ⟨by rfl, ?h1016⟩) ?r1016
                    case h1016 => (intro w; go_simp; (try with_reducible rfl))
                    case r1016 =>
                      (try simp only [Act.put, List.setIfInBounds_toArray, List.set_cons_zero, List.set_cons_succ])
                      refine wpAny_take (i := 9) (oi := { dst := some 102, op := Op.fieldAddr 132 (Operand.tmp 101) 2, type := 0, pos := _, after := #[{ on := 8, ground := Ground.data }, { on := 0, ground := Ground.phase }, { on := 1, ground := Ground.phase }, { on := 2, ground := Ground.phase }, { on := 3, ground := Ground.phase }, { on := 4, ground := Ground.phase }, { on := 5, ground := Ground.phase }, { on := 6, ground := Ground.phase }, { on := 7, ground := Ground.phase }], guard := none }) (v := ?v1017) rfl (by kernel_rfl) (by kernel_rfl) (by kernel_rfl) (fun _ _ _ h => h) (Or.inl ⟨by rfl, ?h1017⟩) ?r1017
                      case h1017 => (intro w; go_simp; (try with_reducible rfl))
                      case r1017 =>
                        (try simp only [Act.put, List.setIfInBounds_toArray, List.set_cons_zero, List.set_cons_succ])
                        refine wpAny_ready (rs := [10]) (by kernel_rfl) (by simp) ?_
                        refine AllReady.cons (o := { dst := none, op := Op.store 130 (Operand.tmp 102) (Operand.tmp 100), type := 0, pos := _, after := #[{ on := 9, ground := Ground.data }, { on := 7, ground := Ground.data }, { on := 7, ground := Ground.chain }, { on := 0, ground := Ground.phase }, { on := 1, ground := Ground.phase }, { on := 2, ground := Ground.phase }, { on := 3, ground := Ground.phase }, { on := 4, ground := Ground.phase }, { on := 5, ground := Ground.phase }, { on := 6, ground := Ground.phase }, { on := 7, ground := Ground.phase }], guard := none }) rfl (fun K hK => ?_) AllReady.nil
                        go_simp
                        refine hK _ _ ?_
                        clear hK K
                        (try simp only [Act.put, List.setIfInBounds_toArray, List.set_cons_zero, List.set_cons_succ])
                        refine wpAny_done (by kernel_rfl) ?_ _
                        go_wp2
                        go_end0
                        exact HR.out
                  · skip
                    go_simp
                    refine hK _ _ ?_
                    clear hK K
                    (try simp only [Act.put, List.setIfInBounds_toArray, List.set_cons_zero, List.set_cons_succ])
                    refine wpAny_ready (rs := [4]) (by kernel_rfl) (by simp) ?_
                    refine AllReady.cons (o := { dst := some 97, op := Op.load 130 (Operand.tmp 96), type := 130, pos := _, after := #[{ on := 3, ground := Ground.data }], guard := none }) rfl (fun K hK => ?_) AllReady.nil
                    go_simp
                    refine hK _ _ ?_
                    clear hK K
                    (try simp only [Act.put, List.setIfInBounds_toArray, List.set_cons_zero, List.set_cons_succ])
                    refine wpAny_ready (rs := [7]) (by kernel_rfl) (by simp) ?_
                    refine AllReady.cons (o := { dst := some 100, op := Op.call { callee := Callee.builtin Builtin.append, args := #[Operand.tmp 97, Operand.tmp 99], argTypes := #[130, 130] }, type := 130, pos := _, after := #[{ on := 4, ground := Ground.data }, { on := 6, ground := Ground.data }], guard := none }) rfl (fun K hK => ?_) AllReady.nil
                    refine napp_step (by rfl) (.tmp 97) (.tmp 99) 130 (by rfl) (by rfl) (by rfl) hrun2 ?_
                    refine hK _ _ ?_
                    clear hK K
                    (try simp only [Act.put, List.setIfInBounds_toArray, List.set_cons_zero, List.set_cons_succ])
                    refine wpAny_take (i := 8) (oi := { dst := some 101, op := Op.nilCheck (Operand.tmp 93), type := 0, pos := _, after := #[{ on := 0, ground := Ground.data }, { on := 0, ground := Ground.phase }, { on := 1, ground := Ground.phase }, { on := 2, ground := Ground.phase }, { on := 3, ground := Ground.phase }, { on := 4, ground := Ground.phase }, { on := 5, ground := Ground.phase }, { on := 6, ground := Ground.phase }, { on := 7, ground := Ground.phase }], guard := none }) (v := ?v1018) rfl (by kernel_rfl) (by kernel_rfl) (by kernel_rfl) (fun _ _ _ h => h) (Or.inl ⟨by rfl, ?h1018⟩) ?r1018
                    case h1018 => (intro w; go_simp; (try with_reducible rfl))
                    case r1018 =>
                      (try simp only [Act.put, List.setIfInBounds_toArray, List.set_cons_zero, List.set_cons_succ])
                      refine wpAny_take (i := 9) (oi := { dst := some 102, op := Op.fieldAddr 132 (Operand.tmp 101) 2, type := 0, pos := _, after := #[{ on := 8, ground := Ground.data }, { on := 0, ground := Ground.phase }, { on := 1, ground := Ground.phase }, { on := 2, ground := Ground.phase }, { on := 3, ground := Ground.phase }, { on := 4, ground := Ground.phase }, { on := 5, ground := Ground.phase }, { on := 6, ground := Ground.phase }, { on := 7, ground := Ground.phase }], guard := none }) (v := ?v1019) rfl (by kernel_rfl) (by kernel_rfl) (by kernel_rfl) (fun _ _ _ h => h) (Or.inl ⟨by rfl, ?h1019⟩) ?r1019
                      case h1019 => (intro w; go_simp; (try with_reducible rfl))
                      case r1019 =>
                        (try simp only [Act.put, List.setIfInBounds_toArray, List.set_cons_zero, List.set_cons_succ])
                        refine wpAny_ready (rs := [10]) (by kernel_rfl) (by simp) ?_
                        refine AllReady.cons (o := { dst := none, op := Op.store 130 (Operand.tmp 102) (Operand.tmp 100), type := 0, pos := _, after := #[{ on := 9, ground := Ground.data }, { on := 7, ground := Ground.data }, { on := 7, ground := Ground.chain }, { on := 0, ground := Ground.phase }, { on := 1, ground := Ground.phase }, { on := 2, ground := Ground.phase }, { on := 3, ground := Ground.phase }, { on := 4, ground := Ground.phase }, { on := 5, ground := Ground.phase }, { on := 6, ground := Ground.phase }, { on := 7, ground := Ground.phase }], guard := none }) rfl (fun K hK => ?_) AllReady.nil
                        go_simp
                        refine hK _ _ ?_
                        clear hK K
                        (try simp only [Act.put, List.setIfInBounds_toArray, List.set_cons_zero, List.set_cons_succ])
                        refine wpAny_done (by kernel_rfl) ?_ _
                        go_wp2
                        go_end0
                        exact HR.out
end
end Go.Proofs.YtjeomlickkpebaaGreatDoor
