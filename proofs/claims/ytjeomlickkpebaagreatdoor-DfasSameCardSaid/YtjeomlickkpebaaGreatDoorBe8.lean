/-
  Texts of this proof, one behind the other; each begins with its own remark.
-/
import Derived.MapKept
import Derived.BigRegion
import Derived.Deep.DeepFit
import Derived.Test.YtjeomlickkpebaaGreatDoorBe2
import Derived.Test.YtjeomlickkpebaaGreatDoorBe7
import Derived.Test.YtjeomlickkpebaaGreatDoorBe5
import Derived.Test.YtjeomlickkpebaaGreatDoorBe3
/-
  nfas in memory: rows of numbers; states; an NFA as it is built, and as it is read. No call is walked here.
-/
namespace Go.Proofs.YtjeomlickkpebaaGreatDoor
open Go.RowKit

theorem Tryz.infoIntN : (Tryz.prog.info? 3).map (fun i => (i.zero, i.size, i.bytes)) = some (some (.int .i64 0), 1, 8) := by kernel_rfl
def zeroSta : Value := .agg #[.int .i64 0, .int .u64 0, .int .u64 0, .int .u64 0, .int .u64 0, .int .i64 0, .int .i64 0, .int .i64 0]
theorem Tryz.infoSta : (Tryz.prog.info? 99).map (fun i => (i.zero, i.size, i.bytes)) = some (some zeroSta, 8, 64) := by kernel_rfl
theorem info_of {o : Option TypeInfo} {z : Value} {m b : Nat} (h : o.map (fun i => (i.zero, i.size, i.bytes)) = some (some z, m, b)) : ∃ i, o = some i ∧ i.zero = some z ∧ i.size = m ∧ i.bytes = b := by
  cases o with
  | none => cases h
  | some i =>
    simp only [Option.map_some, Option.some.injEq, Prod.mk.injEq] at h
    exact ⟨i, rfl, h.1, h.2.1, h.2.2⟩

/-! ### Rows of numbers -/
def numC (l : List Int) : List Value := l.map (Value.int .i64)
theorem numC_len (l : List Int) : (numC l).length = l.length := List.length_map _
theorem numC_at {l : List Int} {i : Nat} {a : Int} (h : l[i]? = some a) : (numC l)[i]? = some (.int .i64 a) := by unfold numC; rw [List.getElem?_map, h]; rfl
/-- A slice of these numbers. -/
def IntsW (w : World) (v : Value) (l : List Int) : Prop := RowZ (fun _ => True) w v l.length (numC l) ∧ l.length ≤ 1000000
theorem IntsW.below {w w' : World} {v : Value} {l : List Int} (h : IntsW w v l) (hb : Below w.heap.size w w') : IntsW w' v l := ⟨h.1.keep (keep_below _ hb) fun _ _ h => h, h.2⟩
theorem IntsW.nil (w : World) : IntsW w (.slice none 0 0) [] := ⟨RowZ.nil _ _, Nat.zero_le _⟩
theorem IntsW.form {w : World} {v : Value} {l : List Int} (h : IntsW w v l) : ∃ ao cap, v = .slice ao l.length cap ∧ l.length ≤ cap := by
  obtain ⟨⟨ao, cap, hv, hn, _⟩, _⟩ := h
  exact ⟨ao, cap, hv, hn⟩
theorem IntsW.at_ {w : World} {v : Value} {l : List Int} {i : Nat} {a : Int} (h : IntsW w v l) (hi : l[i]? = some a) : ∃ g o cap, v = .slice (some ⟨g, o, none⟩) l.length cap ∧ l.length ≤ cap ∧ w.cell? ⟨g, o + i, none⟩ = some (.int .i64 a) := by
  obtain ⟨⟨ao, cap, hv, hn, hc⟩, _⟩ := h
  obtain ⟨g, o, ha, _, hg⟩ := hc i _ (numC_at hi)
  exact ⟨g, o, cap, by rw [hv, ha], hn, hg⟩
/-- Such a row of the call's own. -/
def OwnI (N : Nat) (w : World) (v : Value) (l : List Int) : Prop := w.ownsRow N 3 1 v l.length (numC l)
theorem OwnI.nil (N : Nat) (w : World) : OwnI N w (.slice none 0 0) [] := World.ownsRow_nil _ _ _ _
theorem ownRow_keep {N m n : Nat} {e : TypeId} {w w' : World} {v : Value} {cs : List Value} {ok : Nat → Prop} (h : w.ownsRow N e m v n cs) (hk : KeepW ok w w') (ho : ∀ k, v.ownBlock = some k → ok k) : w'.ownsRow N e m v n cs := by
  obtain ⟨h1, h2 | ⟨g, cap, cur, rfl, h3, h4, h5⟩⟩ := h
  · exact ⟨h1, .inl h2⟩
  · exact ⟨h1, .inr ⟨g, cap, cur, rfl, h3, (hk.same g (Array.getElem?_eq_some_iff.1 h4).1 (ho g rfl)).trans h4, h5⟩⟩
theorem OwnI.keep {N : Nat} {w w' : World} {v : Value} {l : List Int} {ok : Nat → Prop} (h : OwnI N w v l) (hk : KeepW ok w w') (ho : ∀ k, v.ownBlock = some k → ok k) : OwnI N w' v l := ownRow_keep h hk ho
theorem OwnI.below {N : Nat} {w w' : World} {v : Value} {l : List Int} (h : OwnI N w v l) (hb : Below w.heap.size w w') : OwnI N w' v l := ownRow_keep h (keep_below (fun _ => True) hb) fun _ _ => trivial
theorem OwnI.ints {N : Nat} {w : World} {v : Value} {l : List Int} (h : OwnI N w v l) (hl : l.length ≤ 1000000) : IntsW w v l := ⟨(ownZ h).mono fun _ _ _ => trivial, hl⟩
theorem run_snocI {N : Nat} {w : World} {v : Value} {l : List Int} {X : Nat} {a : Int} (t ty : TypeId) (ht : Tryz.prog.underlying t = some (.slice 3)) (hv : OwnI N w v l) (hX : w.cell? ⟨X, 0, none⟩ = some (.int .i64 a)) (hN : N ≤ w.heap.size) (hs : l.length ≤ 100000) :
    ∃ v' w', (Builtin.append_ #[t, t] ty #[v, .slice (some ⟨X, 0, none⟩) 1 1]).run Tryz.prog w = .ok v' w' ∧ OwnI N w' v' (l ++ [a]) ∧ KeepW (fun k => v.ownBlock ≠ some k) w w' ∧ ∀ k, v'.ownBlock = some k → v.ownBlock = some k ∨ k = w.heap.size := by
  obtain ⟨i0, hi, hz0, hz1, hz2⟩ := info_of Tryz.infoIntN
  have hn : ∀ (j : Nat) (u : Value), [Value.int .i64 a][j]? = some u → w.cell? ((⟨X, 0, none⟩ : Addr).add j) = some u := fun j u hu => by
    have hj := (List.getElem?_eq_some_iff.1 hu).1
    have : j = 0 := by simpa using hj
    subst this
    rw [rlit]
    simp at hu
    rw [← hu]
    exact hX
  obtain ⟨v', w', hr, hown', hgr, _, hat⟩ := run_append_own_at (P := Tryz.prog) w N t ty 3 i0 (.int .i64 0) 1 8 ht hi hz0 hz1 hz2 rfl (by decide) v l.length (numC l) hv ⟨X, 0, none⟩ 1 1 [.int .i64 a] rfl hn (fun u hu => by rw [List.mem_singleton.1 hu]; rfl) (by unfold maxLen; omega) (by omega) hN
  refine ⟨v', w', hr, ?_, ⟨hgr.os, hgr.tape, hgr.output, hgr.size, fun k hk hne => hgr.block k hk fun e => hne e.symm⟩, fun k e => ?_⟩
  · unfold OwnI numC
    rw [List.length_append, List.map_append]
    exact hown'
  · rcases hat with hat | hat
    · exact .inl (hat ▸ e)
    · rw [hat] at e; cases e; exact .inr rfl

/-! ### States -/
def staC (s : Sta) : List Value := [.int .i64 (s.kind : Int), .int .u64 (s.set.1 : Int), .int .u64 (s.set.2.1 : Int), .int .u64 (s.set.2.2.1 : Int), .int .u64 (s.set.2.2.2 : Int), .int .i64 (s.next : Int), .int .i64 (s.also : Int), .int .i64 (s.rule : Int)]
def stasC : List Sta → List Value
  | [] => []
  | s :: q => staC s ++ stasC q
theorem stasC_len : ∀ q, (stasC q).length = q.length * 8
  | [] => rfl
  | s :: q => by rw [stasC, List.length_append, stasC_len q, List.length_cons]; show 8 + _ = _; omega
theorem stasC_app : ∀ q r, stasC (q ++ r) = stasC q ++ stasC r
  | [], r => rfl
  | s :: q, r => by rw [List.cons_append, stasC, stasC, stasC_app q r, List.append_assoc]
theorem stasC_at : ∀ (q : List Sta) (i : Nat) (s : Sta), q[i]? = some s → ∀ j, j < 8 → (stasC q)[i * 8 + j]? = (staC s)[j]?
  | t :: q, 0, s, h, j, hj => by
    cases h
    rw [stasC, Nat.zero_mul, Nat.zero_add, List.getElem?_append_left (by show j < 8; exact hj)]
  | t :: q, i + 1, s, h, j, hj => by
    rw [stasC, List.getElem?_append_right (by show 8 ≤ _; omega), show (i + 1) * 8 + j - (staC t).length = i * 8 + j from by show (i + 1) * 8 + j - 8 = _; omega]
    exact stasC_at q i s h j hj
theorem stasC_one : ∀ (q : List Sta) (x : Value), x ∈ stasC q → x.oneCell' = true
  | s :: q, x, h => by
    rw [stasC, List.mem_append] at h
    rcases h with h | h
    · simp only [staC, List.mem_cons, List.not_mem_nil, or_false] at h
      rcases h with rfl | rfl | rfl | rfl | rfl | rfl | rfl | rfl <;> rfl
    · exact stasC_one q x h
theorem stasC_also : ∀ (q : List Sta) (i v : Nat), i < q.length → stasC (alsoS q i v) = (stasC q).set (i * 8 + 6) (.int .i64 (v : Int))
  | s :: q, 0, v, _ => rfl
  | s :: q, i + 1, v, h => by
    rw [alsoS, stasC, stasC, stasC_also q i v (by simpa using h)]
    rw [List.set_append_right _ _ (by show 8 ≤ _; omega)]
    congr 2
    show i * 8 + 6 = (i + 1) * 8 + 6 - 8
    omega
def OwnS (w : World) (v : Value) (q : List Sta) : Prop := w.ownsRow 0 99 8 v q.length (stasC q)
theorem OwnS.nil (w : World) : OwnS w (.slice none 0 0) [] := World.ownsRow_nil _ _ _ _
theorem run_snocS {w : World} {v : Value} {q : List Sta} {X : Nat} {s : Sta} (t ty : TypeId) (ht : Tryz.prog.underlying t = some (.slice 99)) (hv : OwnS w v q) (hX : ∀ (j : Nat) x, (staC s)[j]? = some x → w.cell? ⟨X, j, none⟩ = some x) (hs : q.length ≤ 100000) :
    ∃ v' w', (Builtin.append_ #[t, t] ty #[v, .slice (some ⟨X, 0, none⟩) 1 1]).run Tryz.prog w = .ok v' w' ∧ OwnS w' v' (q ++ [s]) ∧ KeepW (fun k => v.ownBlock ≠ some k) w w' ∧ ∀ k, v'.ownBlock = some k → v.ownBlock = some k ∨ k = w.heap.size := by
  obtain ⟨i0, hi, hz0, hz1, hz2⟩ := info_of Tryz.infoSta
  obtain ⟨v', w', hr, hown', hgr, _, hat⟩ := run_append_own_at (P := Tryz.prog) w 0 t ty 99 i0 zeroSta 8 64 ht hi hz0 hz1 hz2 rfl (by decide) v q.length (stasC q) hv ⟨X, 0, none⟩ 1 1 (staC s) rfl (fun j x hx => by rw [rlit, Nat.zero_add]; exact hX j x hx) (fun x hx => stasC_one [s] x (by rw [stasC, stasC, List.append_nil]; exact hx)) (by unfold maxLen; omega) (by omega) (Nat.zero_le _)
  refine ⟨v', w', hr, ?_, ⟨hgr.os, hgr.tape, hgr.output, hgr.size, fun k hk hne => hgr.block k hk fun e => hne e.symm⟩, fun k e => ?_⟩
  · unfold OwnS
    rw [List.length_append, stasC_app]
    show w'.ownsRow 0 _ 8 v' _ (stasC q ++ (staC s ++ []))
    rw [List.append_nil]
    exact hown'
  · rcases hat with hat | hat
    · exact .inl (hat ▸ e)
    · rw [hat] at e; cases e; exact .inr rfl

/-! ### An NFA's box -/
def boxF (w : World) (B : Nat) (sv fv : Value) : Prop := w.heap[B]? = some (.cells #[sv, fv] 68 (0, 0))
section
variable {w w' : World} {B : Nat} {sv fv : Value}
theorem boxF.lt (h : boxF w B sv fv) : B < w.heap.size := (Array.getElem?_eq_some_iff.1 h).1
theorem boxF.cells (h : boxF w B sv fv) : (w.cell? ⟨B, 0, none⟩ = some sv ∧ w.cell? ⟨B, 1, none⟩ = some fv) ∧ w.frozen? ⟨B, 0, none⟩ = false ∧ w.frozen? ⟨B, 1, none⟩ = false := by
  unfold boxF at h
  refine ⟨⟨?_, ?_⟩, ?_, ?_⟩ <;> first | (unfold World.cell?; rw [h]; rfl) | (unfold World.frozen?; rw [h]; simp)
theorem boxF.keep {ok : Nat → Prop} (h : boxF w B sv fv) (hk : KeepW ok w w') (ho : ok B) : boxF w' B sv fv := (hk.same B h.lt ho).trans h
theorem boxF.set0 (h : boxF w B sv fv) (v : Value) : boxF (w.setCell ⟨B, 0, none⟩ v) B v fv := by
  unfold boxF at h ⊢
  unfold World.setCell
  simp only [Array.getElem?_modify, if_true, h, Option.map_some]
  rfl
theorem boxF.set1 (h : boxF w B sv fv) (v : Value) : boxF (w.setCell ⟨B, 1, none⟩ v) B sv v := by
  unfold boxF at h ⊢
  unfold World.setCell
  simp only [Array.getElem?_modify, if_true, h, Option.map_some]
  rfl
end
/-- An NFA that is built: what is P stays as it is meanwhile. -/
def NfaB (P : Nat → Prop) (w : World) (B : Nat) (q : List Sta) (first : List Int) : Prop :=
  ∃ sv fv, boxF w B sv fv ∧ OwnS w sv q ∧ OwnI 0 w fv first ∧ ¬ P B ∧ (∀ k, sv.ownBlock = some k → ¬ P k ∧ k ≠ B ∧ fv.ownBlock ≠ some k) ∧ ∀ k, fv.ownBlock = some k → ¬ P k ∧ k ≠ B
theorem NfaB.mono {P P' : Nat → Prop} {w : World} {B : Nat} {q : List Sta} {first : List Int} (h : NfaB P w B q first) (hm : ∀ k, P' k → P k) : NfaB P' w B q first := by
  obtain ⟨sv, fv, h1, h2, h3, h4, h5, h6⟩ := h
  exact ⟨sv, fv, h1, h2, h3, fun x => h4 (hm _ x), fun k e => ⟨fun x => (h5 k e).1 (hm _ x), (h5 k e).2⟩, fun k e => ⟨fun x => (h6 k e).1 (hm _ x), (h6 k e).2⟩⟩
theorem NfaB.under {P : Nat → Prop} {w w' : World} {B : Nat} {q : List Sta} {first : List Int} (h : NfaB P w B q first) (hb : Below w.heap.size w w') : NfaB P w' B q first := by
  obtain ⟨sv, fv, h1, h2, h3, h4⟩ := h
  exact ⟨sv, fv, h1.keep (keep_below (fun _ => True) hb) trivial, ownRow_keep h2 (keep_below (fun _ => True) hb) fun _ _ => trivial, h3.below hb, h4⟩
theorem NfaB.lt {P : Nat → Prop} {w : World} {B : Nat} {q : List Sta} {first : List Int} (h : NfaB P w B q first) : B < w.heap.size := by
  obtain ⟨sv, fv, h1, _⟩ := h
  exact h1.lt
/-- A block more is to stay: one that is made behind. -/
theorem NfaB.also {P : Nat → Prop} {w w' : World} {B : Nat} {q : List Sta} {first : List Int} (h : NfaB P w B q first) (hb : Below w.heap.size w w') : NfaB (fun k => P k ∨ k = w.heap.size) w' B q first := by
  have hlt := h.lt
  obtain ⟨sv, fv, h1, h2, h3, h4, h5, h6⟩ := h
  have l2 := World.ownsRow.lt h2
  have l3 := World.ownsRow.lt h3
  refine ⟨sv, fv, h1.keep (keep_below (fun _ => True) hb) trivial, ownRow_keep h2 (keep_below (fun _ => True) hb) fun _ _ => trivial, h3.below hb, fun x => x.elim h4 fun e => by omega, fun k e => ⟨fun x => x.elim (h5 k e).1 fun e2 => ?_, (h5 k e).2⟩, fun k e => ⟨fun x => x.elim (h6 k e).1 fun e2 => ?_, (h6 k e).2⟩⟩
  · have := l2 k e; omega
  · have := l3 k e; omega
/-- An NFA that is read. -/
structure NfaR (w : World) (v : Value) (q : List Sta) (first : List Int) : Prop where
  few : q.length ≤ 100000
  firsts : first.length ≤ 1000
  at_ : ∃ B sv fv, v = .pointer (some ⟨B, 0, none⟩) ∧ w.cell? ⟨B, 0, none⟩ = some sv ∧ w.cell? ⟨B, 1, none⟩ = some fv ∧ RowZ (fun _ => True) w sv q.length (stasC q) ∧ IntsW w fv first
theorem NfaR.below {w w' : World} {v : Value} {q : List Sta} {first : List Int} (h : NfaR w v q first) (hb : Below w.heap.size w w') : NfaR w' v q first := by
  obtain ⟨h0, h1, B, sv, fv, hv, c0, c1, hs, hf⟩ := h
  have hk := keep_below (fun _ => True) hb
  exact ⟨h0, h1, B, sv, fv, hv, hk.cell c0 trivial, hk.cell c1 trivial, hs.keep hk fun _ _ h => h, hf.below hb⟩
theorem NfaB.read {P : Nat → Prop} {w : World} {B : Nat} {q : List Sta} {first : List Int} (h : NfaB P w B q first) (h1 : q.length ≤ 100000) (h2 : first.length ≤ 1000) : NfaR w (.pointer (some ⟨B, 0, none⟩)) q first := by
  obtain ⟨sv, fv, hb, hs, hf, _⟩ := h
  exact ⟨h1, h2, B, sv, fv, rfl, hb.cells.1.1, hb.cells.1.2, (ownZ hs).mono fun _ _ _ => trivial, hf.ints (by omega)⟩
theorem NfaR.sta {w : World} {v : Value} {q : List Sta} {first : List Int} {i : Nat} {s : Sta} (h : NfaR w v q first) (hi : q[i]? = some s) :
    ∃ B g o cap, v = .pointer (some ⟨B, 0, none⟩) ∧ w.cell? ⟨B, 0, none⟩ = some (.slice (some ⟨g, o, none⟩) q.length cap) ∧ q.length ≤ cap ∧ ∀ (j : Nat) x, j < 8 → (staC s)[j]? = some x → w.cell? ⟨g, o + (i * 8 + j), none⟩ = some x := by
  obtain ⟨_, _, B, sv, fv, hv, c0, _, ⟨ao, cap, rfl, hn, hc⟩, _⟩ := h
  obtain ⟨g, o, rfl, _⟩ := hc (i * 8 + 0) _ (by rw [stasC_at q i s hi 0 (by decide)]; rfl)
  refine ⟨B, g, o, cap, hv, c0, hn, fun j x hj hx => ?_⟩
  obtain ⟨g', o', e, _, hg⟩ := hc (i * 8 + j) x (by rw [stasC_at q i s hi j hj]; exact hx)
  cases e
  exact hg
theorem NfaR.form {w : World} {v : Value} {q : List Sta} {first : List Int} (h : NfaR w v q first) :
    ∃ B ao cap fo fc, v = .pointer (some ⟨B, 0, none⟩) ∧ w.cell? ⟨B, 0, none⟩ = some (.slice ao q.length cap) ∧ q.length ≤ cap ∧ w.cell? ⟨B, 1, none⟩ = some (.slice fo first.length fc) ∧ first.length ≤ fc ∧ IntsW w (.slice fo first.length fc) first := by
  obtain ⟨_, _, B, sv, fv, hv, c0, c1, ⟨ao, cap, rfl, hn, hc⟩, hf⟩ := h
  obtain ⟨fo, fc, rfl, hfc⟩ := hf.form
  exact ⟨B, ao, cap, fo, fc, hv, c0, hn, c1, hfc, hf⟩
end Go.Proofs.YtjeomlickkpebaaGreatDoor

/-
  A row of numbers that is written in place, in memory. No call is walked here.
-/
namespace Go.Proofs.YtjeomlickkpebaaGreatDoor
open Go.RowKit

/-- Block X holds these n numbers, and may hold more behind them. -/
def ArrF (w : World) (X n : Nat) (f : Nat → Int) : Prop := ∃ cur : Array Value, w.heap[X]? = some (.cells cur 3 (0, 0)) ∧ n ≤ cur.size ∧ ∀ i, i < n → cur[i]? = some (.int .i64 (f i))
section
variable {w w' : World} {X n i : Nat} {f g : Nat → Int}
theorem ArrF.lt (h : ArrF w X n f) : X < w.heap.size := by
  obtain ⟨cur, h1, _⟩ := h
  exact (Array.getElem?_eq_some_iff.1 h1).1
theorem ArrF.cell (h : ArrF w X n f) (hi : i < n) : w.cell? ⟨X, i, none⟩ = some (.int .i64 (f i)) := by
  obtain ⟨cur, h1, _, h3⟩ := h
  rw [cell_of_row w X i cur _ (0, 0) h1]
  exact h3 i hi
theorem ArrF.frozen (h : ArrF w X n f) (i : Nat) : w.frozen? ⟨X, i, none⟩ = false := by
  obtain ⟨cur, h1, _⟩ := h
  exact frozen_of_row w X i cur _ h1
theorem ArrF.keep {ok : Nat → Prop} (h : ArrF w X n f) (hk : KeepW ok w w') (ho : ok X) : ArrF w' X n f := by
  have hl := h.lt
  obtain ⟨cur, h1, h2⟩ := h
  exact ⟨cur, (hk.same X hl ho).trans h1, h2⟩
theorem ArrF.under (h : ArrF w X n f) (hb : Below w.heap.size w w') : ArrF w' X n f := h.keep (keep_below (fun _ => True) hb) trivial
theorem ArrF.congr (h : ArrF w X n f) (he : ∀ i, i < n → f i = g i) : ArrF w X n g := by
  obtain ⟨cur, h1, h2, h3⟩ := h
  exact ⟨cur, h1, h2, fun i hi => by rw [← he i hi]; exact h3 i hi⟩
theorem ArrF.set (h : ArrF w X n f) (i : Nat) (a : Int) : ArrF (w.setCell ⟨X, i, none⟩ (.int .i64 a)) X n (fun k => if k = i then a else f k) := by
  obtain ⟨cur, h1, h2, h3⟩ := h
  refine ⟨cur.setIfInBounds i (.int .i64 a), heap_setCell_same w X i cur _ _ h1, by rw [Array.size_setIfInBounds]; exact h2, fun k hk => ?_⟩
  rw [Array.getElem?_setIfInBounds]
  by_cases c : i = k
  · subst c
    rw [if_pos rfl, if_pos (by omega)]
    show _ = some (Value.int .i64 (if i = i then a else f i))
    rw [if_pos rfl]
  · rw [if_neg c]
    show _ = some (Value.int .i64 (if k = i then a else f k))
    rw [if_neg (fun e => c e.symm)]
    exact h3 k hk
/-- Two change places. -/
theorem ArrF.swap {p q : Nat} (h : ArrF w X n f) : ArrF ((w.setCell ⟨X, p, none⟩ (.int .i64 (f q))).setCell ⟨X, q, none⟩ (.int .i64 (f p))) X n (swapF f p q) :=
  ((h.set p (f q)).set q (f p)).congr fun k _ => by
    unfold swapF
    show (if k = q then f p else if k = p then f q else f k) = if k = p then f q else if k = q then f p else f k
    by_cases c : k = q
    · by_cases d : k = p
      · rw [if_pos c, if_pos d, ← c, ← d]
      · rw [if_pos c, if_neg d, if_pos c]
    · rw [if_neg c]
      by_cases d : k = p
      · rw [if_pos d, if_pos d]
      · rw [if_neg d, if_neg d, if_neg c]
theorem keep_set2 (w : World) (X p q : Nat) (y z : Value) : KeepW (fun k => k ≠ X) w ((w.setCell ⟨X, p, none⟩ y).setCell ⟨X, q, none⟩ z) :=
  (keep_set X p none y w fun h => h rfl).trans (keep_set X q none z _ fun h => h rfl)
end
end Go.Proofs.YtjeomlickkpebaaGreatDoor

/-
  dfas.Min, plain: states in blocks, that are marked and parted. No call is walked here.
-/
namespace Go.Proofs.YtjeomlickkpebaaGreatDoor

abbrev Blk := Nat × Nat × Nat
def updN {α : Type} (f : Nat → α) (i : Nat) (a : α) : Nat → α := fun k => if k = i then a else f k
theorem updN_same {α : Type} (f : Nat → α) (i : Nat) (a : α) : updN f i a i = a := if_pos rfl
theorem updN_other {α : Type} (f : Nat → α) {i k : Nat} (a : α) (h : k ≠ i) : updN f i a k = f k := if_neg h
/-- States stand in blocks; of each block so many, at its front, are marked. -/
structure ParI (n : Nat) (Bs : List Blk) (st pl ob : Nat → Nat) : Prop where
  inv1 : ∀ x, x < n → pl x < n ∧ st (pl x) = x
  inv2 : ∀ k, k < n → st k < n ∧ pl (st k) = k
  blk : ∀ x, x < n → ∃ f t m, Bs[ob x]? = some (f, t, m) ∧ f ≤ pl x ∧ pl x < t
  inb : ∀ (j : Nat) f t m, Bs[j]? = some (f, t, m) → f < t ∧ t ≤ n ∧ f + m ≤ t ∧ ∀ k, f ≤ k → k < t → ob (st k) = j
def MkP (Bs : List Blk) (pl ob : Nat → Nat) (x : Nat) : Prop := ∃ f t m, Bs[ob x]? = some (f, t, m) ∧ pl x < f + m
section
variable {n : Nat} {Bs : List Blk} {st pl ob : Nat → Nat}
theorem ParI.few (h : ParI n Bs st pl ob) : Bs.length ≤ n := by
  have hx : ∀ j : Nat, ∃ f, j < Bs.length → ∃ t m, Bs[j]? = some (f, t, m) := fun j => by
    by_cases hj : j < Bs.length
    · exact ⟨(Bs[j]).1, fun _ => ⟨(Bs[j]).2.1, (Bs[j]).2.2, List.getElem?_eq_getElem hj⟩⟩
    · exact ⟨0, fun x => absurd x hj⟩
  let F := fun j => Classical.choose (hx j)
  have hF : ∀ j, j < Bs.length → ∃ t m, Bs[j]? = some (F j, t, m) := fun j => Classical.choose_spec (hx j)
  refine pig Bs.length n F (fun j hj => ?_) fun i j hij hj e => ?_
  · obtain ⟨t, m, h1⟩ := hF j hj
    have := h.inb j _ _ _ h1
    omega
  · obtain ⟨t, m, h1⟩ := hF i (by omega)
    obtain ⟨t2, m2, h2⟩ := hF j hj
    have g1 := (h.inb i _ _ _ h1)
    have g2 := (h.inb j _ _ _ h2)
    have e1 := g1.2.2.2 (F i) (Nat.le_refl _) g1.1
    have e2 := g2.2.2.2 (F j) (Nat.le_refl _) g2.1
    rw [e, e2] at e1
    omega
theorem ParI.lt (h : ParI n Bs st pl ob) {x : Nat} (hx : x < n) : ob x < Bs.length := by
  obtain ⟨f, t, m, h1, _⟩ := h.blk x hx
  exact (List.getElem?_eq_some_iff.1 h1).1
/-- Who stands in a block's places is in that block. -/
theorem ParI.in_iff (h : ParI n Bs st pl ob) {x j f t m : Nat} (hx : x < n) (hj : Bs[j]? = some (f, t, m)) : ob x = j ↔ f ≤ pl x ∧ pl x < t := by
  constructor
  · intro e
    obtain ⟨f', t', m', h1, h2, h3⟩ := h.blk x hx
    rw [e, hj] at h1
    cases h1
    exact ⟨h2, h3⟩
  · rintro ⟨h1, h2⟩
    have := (h.inb j f t m hj).2.2.2 (pl x) h1 h2
    rwa [(h.inv1 x hx).2] at this
theorem ParI.pl_inj (h : ParI n Bs st pl ob) {x y : Nat} (hx : x < n) (hy : y < n) (e : pl x = pl y) : x = y := by
  rw [← (h.inv1 x hx).2, e, (h.inv1 y hy).2]
theorem mk_iff {x f t m : Nat} (hj : Bs[ob x]? = some (f, t, m)) : MkP Bs pl ob x ↔ pl x < f + m := by
  constructor
  · rintro ⟨f', t', m', h1, h2⟩
    rw [hj] at h1
    cases h1
    exact h2
  · exact fun h => ⟨f, t, m, hj, h⟩
/-! ### One more is marked -/
def stM (st : Nat → Nat) (place front x : Nat) : Nat → Nat := updN (updN st place (st front)) front x
def plM (pl : Nat → Nat) (place front x other : Nat) : Nat → Nat := updN (updN pl other place) x front
theorem par_mark (h : ParI n Bs st pl ob) {x f t m : Nat} (hx : x < n) (hj : Bs[ob x]? = some (f, t, m)) (hm : ¬ MkP Bs pl ob x) :
    f + m < t ∧ f + m ≤ pl x ∧ ParI n (Bs.set (ob x) (f, t, m + 1)) (stM st (pl x) (f + m) x) (plM pl (pl x) (f + m) x (st (f + m))) ob ∧
    ∀ y, y < n → (MkP (Bs.set (ob x) (f, t, m + 1)) (plM pl (pl x) (f + m) x (st (f + m))) ob y ↔ MkP Bs pl ob y ∨ y = x) := by
  have hpl : f + m ≤ pl x := by
    rw [mk_iff hj] at hm; omega
  obtain ⟨h1, h2⟩ := (h.in_iff hx hj).1 rfl
  obtain ⟨b1, b2, b3, b4⟩ := h.inb _ _ _ _ hj
  have hf := h.inv2 (f + m) (by omega)
  have hox := h.inv1 x hx
  have hof : ob (st (f + m)) = ob x := b4 _ (by omega) (by omega)
  have hlen := h.lt hx
  have hset : ∀ (j f' t' m' : Nat), (Bs.set (ob x) (f, t, m + 1))[j]? = some (f', t', m') → ∃ m0, Bs[j]? = some (f', t', m0) ∧ f' + m' ≤ t' := fun j f' t' m' e => by
    rw [List.getElem?_set] at e
    by_cases c : ob x = j
    · rw [if_pos c, if_pos hlen] at e
      cases e
      exact ⟨m, by rw [← c]; exact hj, by omega⟩
    · rw [if_neg c] at e
      exact ⟨m', e, (h.inb j f' t' m' e).2.2.1⟩
  have hget : ∀ (j f' t' m' : Nat), Bs[j]? = some (f', t', m') → ∃ m1, (Bs.set (ob x) (f, t, m + 1))[j]? = some (f', t', m1) := fun j f' t' m' e => by
    rw [List.getElem?_set]
    by_cases c : ob x = j
    · subst c
      rw [if_pos rfl, if_pos hlen]
      rw [hj] at e
      cases e
      exact ⟨_, rfl⟩
    · rw [if_neg c]
      exact ⟨m', e⟩
  -- where each one stands now
  have hplM : ∀ y, y < n → plM pl (pl x) (f + m) x (st (f + m)) y = if y = x then f + m else if y = st (f + m) then pl x else pl y := fun y _ => rfl
  have hob : ∀ k, k < n → ob (stM st (pl x) (f + m) x k) = ob (st k) := fun k hk => by
    unfold stM updN
    by_cases c : k = f + m
    · rw [if_pos c, c, hof]
    · rw [if_neg c]
      by_cases d : k = pl x
      · rw [if_pos d, hof, d, hox.2]
      · rw [if_neg d]
  refine ⟨by omega, hpl, ⟨fun y hy => ?_, fun k hk => ?_, fun y hy => ?_, fun j f' t' m' e => ?_⟩, fun y hy => ?_⟩
  · rw [hplM y hy]
    have hyy := h.inv1 y hy
    unfold stM updN
    by_cases c : y = x
    · rw [if_pos c, if_pos rfl, c]; exact ⟨by omega, rfl⟩
    · rw [if_neg c]
      by_cases d : y = st (f + m)
      · rw [if_pos d]
        have : pl x ≠ f + m := fun e => c (by rw [d, ← e, hox.2])
        rw [if_neg this, if_pos rfl]
        exact ⟨hox.1, d.symm⟩
      · rw [if_neg d]
        have n1 : pl y ≠ f + m := fun e => d (by rw [← e, hyy.2])
        have n2 : pl y ≠ pl x := fun e => c (h.pl_inj hy hx e)
        rw [if_neg n1, if_neg n2]
        exact hyy
  · have hkk := h.inv2 k hk
    unfold stM updN
    by_cases c : k = f + m
    · rw [if_pos c]
      refine ⟨hx, ?_⟩
      unfold plM updN
      rw [if_pos rfl, c]
    · rw [if_neg c]
      by_cases d : k = pl x
      · rw [if_pos d]
        refine ⟨hf.1, ?_⟩
        unfold plM updN
        have : st (f + m) ≠ x := fun e => c (by rw [d, ← e, hf.2])
        rw [if_neg this, if_pos rfl, d]
      · rw [if_neg d]
        refine ⟨hkk.1, ?_⟩
        unfold plM updN
        have n1 : st k ≠ x := fun e => d (by rw [← hkk.2, e])
        have n2 : st k ≠ st (f + m) := fun e => c (by rw [← hkk.2, e, hf.2])
        rw [if_neg n1, if_neg n2]
        exact hkk.2
  · obtain ⟨f', t', m', e1, e2, e3⟩ := h.blk y hy
    obtain ⟨m1, e4⟩ := hget _ _ _ _ e1
    refine ⟨f', t', m1, e4, ?_⟩
    rw [hplM y hy]
    by_cases c : y = x
    · subst c
      rw [if_pos rfl]
      rw [hj] at e1
      cases e1
      omega
    · rw [if_neg c]
      by_cases d : y = st (f + m)
      · rw [if_pos d]
        rw [d, hof, hj] at e1
        cases e1
        exact ⟨h1, h2⟩
      · rw [if_neg d]; exact ⟨e2, e3⟩
  · obtain ⟨m0, e1, e2⟩ := hset _ _ _ _ e
    obtain ⟨c1, c2, _, c4⟩ := h.inb _ _ _ _ e1
    exact ⟨c1, c2, e2, fun k k1 k2 => by rw [hob k (by omega)]; exact c4 k k1 k2⟩
  · obtain ⟨f', t', m', e1, e2, e3⟩ := h.blk y hy
    by_cases cb : ob y = ob x
    · have e4 : (Bs.set (ob x) (f, t, m + 1))[ob y]? = some (f, t, m + 1) := by
        rw [cb, List.getElem?_set, if_pos rfl, if_pos hlen]
      have e5 : Bs[ob y]? = some (f, t, m) := by rw [cb]; exact hj
      rw [mk_iff e4, mk_iff e5, hplM y hy]
      by_cases c : y = x
      · rw [if_pos c]
        exact ⟨fun _ => .inr c, fun _ => by omega⟩
      · rw [if_neg c]
        have np : pl y ≠ pl x := fun e => c (h.pl_inj hy hx e)
        by_cases d : y = st (f + m)
        · rw [if_pos d]
          have : pl y = f + m := by rw [d, hf.2]
          constructor
          · intro q; omega
          · rintro (q | q)
            · omega
            · exact absurd q c
        · rw [if_neg d]
          have : pl y ≠ f + m := fun e => d (by rw [← e, (h.inv1 y hy).2])
          constructor
          · intro q; exact .inl (by omega)
          · rintro (q | q)
            · omega
            · exact absurd q c
    · have e4 : (Bs.set (ob x) (f, t, m + 1))[ob y]? = some (f', t', m') := by
        rw [List.getElem?_set, if_neg (fun e => cb e.symm)]; exact e1
      have hyx : y ≠ x := fun e => cb (by rw [e])
      have hyf : y ≠ st (f + m) := fun e => cb (by rw [e]; exact hof)
      rw [mk_iff e4, mk_iff e1, hplM y hy, if_neg hyx, if_neg hyf]
      exact ⟨.inl, fun q => q.elim id fun q => absurd q hyx⟩
/-! ### A block is parted -/
/-- What is behind it: the states of block j that are marked, and those that are not, are in two blocks, one of them new. -/
structure PartO (n j K : Nat) (Bs Bs' : List Blk) (pl ob ob' : Nat → Nat) : Prop where
  other : ∀ y, y < n → ob y ≠ j → ob' y = ob y
  mine : ∀ y z, y < n → z < n → ob y = j → ob z = j → (ob' y = ob' z ↔ (MkP Bs pl ob y ↔ MkP Bs pl ob z))
  new : ∀ y, y < n → ob' y ≠ ob y → ob' y = K
  marks : ∀ y, y < n → (MkP Bs' pl ob' y ↔ MkP Bs pl ob y ∧ ob y ≠ j)
  more : Bs.length ≤ Bs'.length
theorem part_all (h : ParI n Bs st pl ob) {j f t m : Nat} (hj : Bs[j]? = some (f, t, m)) (hm : f + m = t) :
    ParI n (Bs.set j (f, t, 0)) st pl ob ∧ PartO n j Bs.length Bs (Bs.set j (f, t, 0)) pl ob ob := by
  have hlen := (List.getElem?_eq_some_iff.1 hj).1
  have hb := h.inb _ _ _ _ hj
  have all : ∀ y, y < n → ob y = j → MkP Bs pl ob y := fun y hy e => by
    have := (h.in_iff hy hj).1 e
    exact ⟨f, t, m, by rw [e]; exact hj, by omega⟩
  refine ⟨⟨h.inv1, h.inv2, fun x hx => ?_, fun i f' t' m' e => ?_⟩, fun _ _ _ => rfl, fun y z hy hz ey ez => ?_, fun y _ hne => absurd rfl hne, fun y hy => ?_, by rw [List.length_set]; exact Nat.le_refl _⟩
  · obtain ⟨f', t', m', e1, e2⟩ := h.blk x hx
    rw [List.getElem?_set]
    by_cases c : j = ob x
    · rw [if_pos c, if_pos hlen]
      rw [← c, hj] at e1
      cases e1
      exact ⟨_, _, _, rfl, e2⟩
    · rw [if_neg c]; exact ⟨f', t', m', e1, e2⟩
  · rw [List.getElem?_set] at e
    by_cases c : j = i
    · rw [if_pos c, if_pos hlen] at e
      cases e
      subst c
      exact ⟨hb.1, hb.2.1, by omega, hb.2.2.2⟩
    · rw [if_neg c] at e
      exact h.inb i f' t' m' e
  · exact ⟨fun _ => ⟨fun _ => all z hz ez, fun _ => all y hy ey⟩, fun _ => by rw [ey, ez]⟩
  · by_cases c : ob y = j
    · have e4 : (Bs.set j (f, t, 0))[ob y]? = some (f, t, 0) := by rw [c, List.getElem?_set, if_pos rfl, if_pos hlen]
      rw [mk_iff e4]
      have := (h.in_iff hy hj).1 c
      exact ⟨fun q => by omega, fun q => absurd c q.2⟩
    · obtain ⟨f', t', m', e1, e2⟩ := h.blk y hy
      have e4 : (Bs.set j (f, t, 0))[ob y]? = some (f', t', m') := by rw [List.getElem?_set, if_neg (fun e => c e.symm)]; exact e1
      rw [mk_iff e4, mk_iff e1]
      exact ⟨fun q => ⟨q, c⟩, fun q => q.1⟩
/-- The places from p to q, a part of block j, are a new block; what is left of j are those from p' to q'. -/
theorem part_new (h : ParI n Bs st pl ob) {j f t m p q p' q' : Nat} (hj : Bs[j]? = some (f, t, m)) (h0 : 0 < m) (hm : f + m < t) (hpq : (p = f ∧ q = f + m ∧ p' = f + m ∧ q' = t) ∨ (p = f + m ∧ q = t ∧ p' = f ∧ q' = f + m)) {ob' : Nat → Nat}
    (hob : ∀ y, y < n → ob' y = if p ≤ pl y ∧ pl y < q then Bs.length else ob y) :
    ParI n (Bs.set j (p', q', 0) ++ [(p, q, 0)]) st pl ob' ∧ PartO n j Bs.length Bs (Bs.set j (p', q', 0) ++ [(p, q, 0)]) pl ob ob' := by
  have hlen := (List.getElem?_eq_some_iff.1 hj).1
  have hb := h.inb _ _ _ _ hj
  have inj : ∀ y, y < n → (p ≤ pl y ∧ pl y < q) → ob y = j := fun y hy hq => (h.in_iff hy hj).2 (by omega)
  have gj : (Bs.set j (p', q', 0) ++ [(p, q, 0)])[j]? = some (p', q', 0) := by
    rw [List.getElem?_append_left (by rw [List.length_set]; exact hlen), List.getElem?_set, if_pos rfl, if_pos hlen]
  have gK : (Bs.set j (p', q', 0) ++ [(p, q, 0)])[Bs.length]? = some (p, q, 0) := by
    rw [List.getElem?_append_right (by rw [List.length_set]; exact Nat.le_refl _), List.length_set, Nat.sub_self]; rfl
  have go : ∀ (i f' t' m' : Nat), i ≠ j → Bs[i]? = some (f', t', m') → (Bs.set j (p', q', 0) ++ [(p, q, 0)])[i]? = some (f', t', m') := fun i f' t' m' hne e => by
    have := (List.getElem?_eq_some_iff.1 e).1
    rw [List.getElem?_append_left (by rw [List.length_set]; exact this), List.getElem?_set, if_neg (fun e => hne e.symm)]
    exact e
  have mk : ∀ y, y < n → ob y = j → (MkP Bs pl ob y ↔ pl y < f + m) := fun y hy e => mk_iff (by rw [e]; exact hj)
  refine ⟨⟨h.inv1, h.inv2, fun x hx => ?_, fun i f' t' m' e => ?_⟩, fun y hy hne => ?_, fun y z hy hz ey ez => ?_, fun y hy hne => ?_, fun y hy => ?_, by rw [List.length_append, List.length_set]; omega⟩
  · rw [hob x hx]
    by_cases c : p ≤ pl x ∧ pl x < q
    · rw [if_pos c]
      exact ⟨_, _, _, gK, c.1, c.2⟩
    · rw [if_neg c]
      by_cases d : ob x = j
      · rw [d]
        have := (h.in_iff hx hj).1 d
        exact ⟨_, _, _, gj, by omega, by omega⟩
      · obtain ⟨f', t', m', e1, e2⟩ := h.blk x hx
        exact ⟨f', t', m', go _ _ _ _ d e1, e2⟩
  · have hob2 : ∀ k, k < n → ob' (st k) = if p ≤ k ∧ k < q then Bs.length else ob (st k) := fun k hk => by
      obtain ⟨k1, k2⟩ := h.inv2 k hk
      rw [hob _ k1, k2]
    by_cases c : i = j
    · subst c
      rw [gj] at e
      cases e
      refine ⟨by omega, by omega, by omega, fun k k1 k2 => ?_⟩
      rw [hob2 k (by omega), if_neg (by omega)]
      exact hb.2.2.2 k (by omega) (by omega)
    · by_cases d : i = Bs.length
      · subst d
        rw [gK] at e
        cases e
        refine ⟨by omega, by omega, by omega, fun k k1 k2 => ?_⟩
        rw [hob2 k (by omega), if_pos ⟨k1, k2⟩]
      · have hl := (List.getElem?_eq_some_iff.1 e).1
        rw [List.length_append, List.length_set, List.length_singleton] at hl
        rw [List.getElem?_append_left (by rw [List.length_set]; omega), List.getElem?_set, if_neg (fun e => c e.symm)] at e
        obtain ⟨c1, c2, c3, c4⟩ := h.inb i f' t' m' e
        refine ⟨c1, c2, c3, fun k k1 k2 => ?_⟩
        have hk := c4 k k1 k2
        rw [hob2 k (by omega), if_neg ?_]
        · exact hk
        · intro hq
          have := hb.2.2.2 k (by omega) (by omega)
          rw [hk] at this
          exact c this
  · rw [hob y hy, if_neg (fun e => hne (inj y hy e))]
  · have b1 := (h.in_iff hy hj).1 ey
    have b2 := (h.in_iff hz hj).1 ez
    rw [mk y hy ey, mk z hz ez, hob y hy, hob z hz, ey, ez]
    have hne : Bs.length ≠ j := by omega
    by_cases c : p ≤ pl y ∧ pl y < q
    · by_cases d : p ≤ pl z ∧ pl z < q
      · rw [if_pos c, if_pos d]; exact ⟨fun _ => by omega, fun _ => rfl⟩
      · rw [if_pos c, if_neg d]; exact ⟨fun e => absurd e hne, fun e => by omega⟩
    · by_cases d : p ≤ pl z ∧ pl z < q
      · rw [if_neg c, if_pos d]; exact ⟨fun e => absurd e.symm hne, fun e => by omega⟩
      · rw [if_neg c, if_neg d]; exact ⟨fun _ => by omega, fun _ => rfl⟩
  · rw [hob y hy] at hne ⊢
    by_cases c : p ≤ pl y ∧ pl y < q
    · rw [if_pos c]
    · rw [if_neg c] at hne; exact absurd rfl hne
  · by_cases c : ob y = j
    · have b1 := (h.in_iff hy hj).1 c
      by_cases d : p ≤ pl y ∧ pl y < q
      · have e4 : (Bs.set j (p', q', 0) ++ [(p, q, 0)])[ob' y]? = some (p, q, 0) := by rw [hob y hy, if_pos d]; exact gK
        rw [mk_iff e4]
        exact ⟨fun q => by omega, fun q => absurd c q.2⟩
      · have e4 : (Bs.set j (p', q', 0) ++ [(p, q, 0)])[ob' y]? = some (p', q', 0) := by rw [hob y hy, if_neg d, c]; exact gj
        rw [mk_iff e4]
        exact ⟨fun q => by omega, fun q => absurd c q.2⟩
    · obtain ⟨f', t', m', e1, e2⟩ := h.blk y hy
      have e4 : (Bs.set j (p', q', 0) ++ [(p, q, 0)])[ob' y]? = some (f', t', m') := by
        rw [hob y hy, if_neg (fun e => c (inj y hy e))]; exact go _ _ _ _ c e1
      rw [mk_iff e4, mk_iff e1]
      exact ⟨fun q => ⟨q, c⟩, fun q => q.1⟩
/-! ### All blocks that are hit are parted -/
structure PartsI (n K0 : Nat) (H : Nat → Prop) (ob0 : Nat → Nat) (done : Nat → Prop) (Bs : List Blk) (pl ob : Nat → Nat) : Prop where
  left : ∀ y, y < n → ¬ done (ob0 y) → ob y = ob0 y ∧ (MkP Bs pl ob y ↔ H y)
  clear : ∀ y, y < n → done (ob0 y) → ¬ MkP Bs pl ob y
  same : ∀ y z, y < n → z < n → (ob y = ob z ↔ ob0 y = ob0 z ∧ (done (ob0 y) → (H y ↔ H z)))
  new : ∀ y, y < n → ob y ≠ ob0 y → K0 ≤ ob y
  more : K0 ≤ Bs.length
theorem parts_start {K0 : Nat} {H : Nat → Prop} (hm : ∀ y, y < n → (MkP Bs pl ob y ↔ H y)) (hK : K0 ≤ Bs.length) : PartsI n K0 H ob (fun _ => False) Bs pl ob :=
  ⟨fun y hy _ => ⟨rfl, hm y hy⟩, fun _ _ h => h.elim, fun _ _ _ _ => ⟨fun e => ⟨e, fun h => h.elim⟩, fun e => e.1⟩, fun _ _ hne => absurd rfl hne, hK⟩
theorem parts_step {K0 j : Nat} {H : Nat → Prop} {ob0 ob' : Nat → Nat} {done : Nat → Prop} {Bs' : List Blk} (h : PartsI n K0 H ob0 done Bs pl ob) (hp : ParI n Bs st pl ob) (hj : ¬ done j) (hjK : j < K0) (ho : PartO n j Bs.length Bs Bs' pl ob ob') :
    PartsI n K0 H ob0 (fun i => done i ∨ i = j) Bs' pl ob' := by
  have hK := h.more
  have at_ : ∀ y, y < n → (ob y = j ↔ ob0 y = j) := fun y hy => by
    by_cases c : done (ob0 y)
    · by_cases d : ob y = ob0 y
      · rw [d]
      · have := h.new y hy d
        exact ⟨fun e => by omega, fun e => absurd (e ▸ c) hj⟩
    · rw [(h.left y hy c).1]
  refine ⟨fun y hy hd => ?_, fun y hy hd hmk => ?_, fun y z hy hz => ?_, fun y hy hne => ?_, Nat.le_trans hK ho.more⟩
  · have hd1 : ¬ done (ob0 y) := fun e => hd (.inl e)
    have hd2 : ob y ≠ j := fun e => hd (.inr ((at_ y hy).1 e))
    have := h.left y hy hd1
    rw [ho.other y hy hd2, ho.marks y hy]
    exact ⟨this.1, ⟨fun q => this.2.1 q.1, fun q => ⟨this.2.2 q, hd2⟩⟩⟩
  · rw [ho.marks y hy] at hmk
    rcases hd with hd | hd
    · exact h.clear y hy hd hmk.1
    · exact hmk.2 ((at_ y hy).2 hd)
  · by_cases cy : ob0 y = j
    · have hoy := (at_ y hy).2 cy
      have hyl := (h.left y hy (by rw [cy]; exact hj)).2
      by_cases cz : ob0 z = j
      · have hoz := (at_ z hz).2 cz
        have hzl := (h.left z hz (by rw [cz]; exact hj)).2
        rw [ho.mine y z hy hz hoy hoz, hyl, hzl]
        exact ⟨fun e => ⟨by rw [cy, cz], fun _ => e⟩, fun e => e.2 (.inr cy)⟩
      · have hoz : ob z ≠ j := fun e => cz ((at_ z hz).1 e)
        refine ⟨fun e => ?_, fun e => absurd (e.1.symm.trans cy) cz⟩
        rw [ho.other z hz hoz] at e
        have hzl := hp.lt hz
        by_cases c : ob' y = ob y
        · rw [c, hoy] at e; exact absurd e.symm hoz
        · rw [ho.new y hy c] at e; omega
    · have hoy : ob y ≠ j := fun e => cy ((at_ y hy).1 e)
      by_cases cz : ob0 z = j
      · have hoz := (at_ z hz).2 cz
        refine ⟨fun e => ?_, fun e => absurd (e.1.trans cz) cy⟩
        rw [ho.other y hy hoy] at e
        have hyl := hp.lt hy
        by_cases c : ob' z = ob z
        · rw [c, hoz] at e; exact absurd e hoy
        · rw [ho.new z hz c] at e; omega
      · have hoz : ob z ≠ j := fun e => cz ((at_ z hz).1 e)
        rw [ho.other y hy hoy, ho.other z hz hoz, h.same y z hy hz]
        exact ⟨fun e => ⟨e.1, fun q => e.2 (q.elim id fun q => absurd q cy)⟩, fun e => ⟨e.1, fun q => e.2 (.inl q)⟩⟩
  · by_cases c : ob' y = ob y
    · rw [c] at hne ⊢
      exact h.new y hy hne
    · rw [ho.new y hy c]; exact hK
/-- What a whole turn has done. -/
structure RefI (n K0 : Nat) (H : Nat → Prop) (ob0 ob : Nat → Nat) : Prop where
  same : ∀ y z, y < n → z < n → (ob y = ob z ↔ ob0 y = ob0 z ∧ (H y ↔ H z))
  new : ∀ y, y < n → ob y ≠ ob0 y → K0 ≤ ob y
theorem parts_end {K0 : Nat} {H : Nat → Prop} {ob0 : Nat → Nat} {done : Nat → Prop} (h : PartsI n K0 H ob0 done Bs pl ob) (hall : ∀ y, y < n → H y → done (ob0 y)) : RefI n K0 H ob0 ob ∧ ∀ y, y < n → ¬ MkP Bs pl ob y := by
  refine ⟨⟨fun y z hy hz => ?_, h.new⟩, fun y hy hmk => ?_⟩
  · rw [h.same y z hy hz]
    refine ⟨fun e => ⟨e.1, ?_⟩, fun e => ⟨e.1, fun _ => e.2⟩⟩
    by_cases c : done (ob0 y)
    · exact e.2 c
    · exact ⟨fun q => absurd (hall y hy q) c, fun q => absurd (by rw [e.1]; exact hall z hz q) c⟩
  · by_cases c : done (ob0 y)
    · exact h.clear y hy c hmk
    · exact c (hall y hy ((h.left y hy c).2.1 hmk))
end
/-! ### All blocks are gone through -/
section
variable (d : Dfa)
/-- What holds before block number c is held against all. -/
structure HopI (c : Nat) (ob : Nat → Nat) : Prop where
  sound : ∀ y z, y ≤ d.n → z ≤ d.n → ob y ≠ ob z → ApartN d y z
  rule : ∀ y z, y ≤ d.n → z ≤ d.n → ob y = ob z → ruN d y = ruN d z
  hop : ∀ y z b, y ≤ d.n → z ≤ d.n → b < 256 → ob y = ob z → ob (toN d y b) ≠ ob (toN d z b) → c ≤ ob (toN d y b) ∨ c ≤ ob (toN d z b)
/-- So many bytes of block c have been held against all. -/
structure ByteI (c K0 B : Nat) (ob0 ob : Nat → Nat) : Prop where
  same : ∀ y z, y ≤ d.n → z ≤ d.n → (ob y = ob z ↔ ob0 y = ob0 z ∧ ∀ b, b < B → (ob0 (toN d y b) = c ↔ ob0 (toN d z b) = c))
  new : ∀ y, y ≤ d.n → ob y ≠ ob0 y → K0 ≤ ob y
variable {d} {c K0 : Nat} {ob0 ob ob' : Nat → Nat}
theorem byte_start : ByteI d c K0 0 ob0 ob0 := ⟨fun y z _ _ => ⟨fun e => ⟨e, fun b hb => by omega⟩, fun e => e.1⟩, fun y _ h => absurd rfl h⟩
theorem byte_step {B K1 : Nat} (h : ByteI d c K0 B ob0 ob) (g : RefI (d.n + 1) K1 (fun y => ob0 (toN d y B) = c) ob ob') (hK : K0 ≤ K1) : ByteI d c K0 (B + 1) ob0 ob' := by
  refine ⟨fun y z hy hz => ?_, fun y hy hne => ?_⟩
  · rw [g.same y z (by omega) (by omega), h.same y z hy hz]
    refine ⟨fun e => ⟨e.1.1, fun b hb => ?_⟩, fun e => ⟨⟨e.1, fun b hb => e.2 b (by omega)⟩, e.2 B (by omega)⟩⟩
    by_cases cb : b = B
    · subst cb; exact e.2
    · exact e.1.2 b (by omega)
  · by_cases q : ob' y = ob y
    · rw [q] at hne ⊢
      exact h.new y hy hne
    · exact Nat.le_trans hK (g.new y (by omega) q)
theorem hop_step (hd : OkD d) (h : HopI d c ob0) (g : ByteI d c K0 256 ob0 ob) (hc : c < K0) : HopI d (c + 1) ob := by
  refine ⟨fun y z hy hz hne => ?_, fun y z hy hz e => h.rule y z hy hz ((g.same y z hy hz).1 e).1, fun y z b hy hz hb e hne => ?_⟩
  · by_cases q : ob0 y = ob0 z
    · have : ∃ b, b < 256 ∧ ¬ (ob0 (toN d y b) = c ↔ ob0 (toN d z b) = c) := Classical.byContradiction fun hno => hne ((g.same y z hy hz).2 ⟨q, fun b hb => Classical.byContradiction fun hb2 => hno ⟨b, hb, hb2⟩⟩)
      obtain ⟨b, hb, hb2⟩ := this
      refine apart_step hd hb (h.sound _ _ (toN_le hd y b) (toN_le hd z b) fun e => hb2 (by rw [e]))
    · exact h.sound y z hy hz q
  · obtain ⟨e1, e2⟩ := (g.same y z hy hz).1 e
    have hy2 := toN_le hd y b
    have hz2 := toN_le hd z b
    have keep : ∀ x, x ≤ d.n → c < ob0 x → c + 1 ≤ ob x := fun x hx hlt => by
      by_cases q : ob x = ob0 x
      · omega
      · have := g.new x hx q; omega
    by_cases q : ob0 (toN d y b) = ob0 (toN d z b)
    · by_cases q1 : ob (toN d y b) = ob0 (toN d y b)
      · by_cases q2 : ob (toN d z b) = ob0 (toN d z b)
        · exact absurd (by rw [q1, q2, q]) hne
        · have := g.new _ hz2 q2; exact .inr (by omega)
      · have := g.new _ hy2 q1; exact .inl (by omega)
    · rcases h.hop y z b hy hz hb e1 q with h1 | h1
      · by_cases q1 : ob0 (toN d y b) = c
        · exact absurd (q1.trans ((e2 b hb).1 q1).symm) q
        · exact .inl (keep _ hy2 (by omega))
      · by_cases q1 : ob0 (toN d z b) = c
        · exact absurd (((e2 b hb).2 q1).trans q1.symm) q
        · exact .inr (keep _ hz2 (by omega))
/-- Behind all blocks the states of unlike blocks are those that some text tells apart. -/
theorem hop_end (hd : OkD d) (h : HopI d c ob) (hlt : ∀ y, y ≤ d.n → ob y < c) : MatI d (fun i k => decide (ob i ≠ ob k)) where
  sound := fun i k hi hk e => h.sound i k hi hk (of_decide_eq_true e)
  rule := fun i k hi hk hne => decide_eq_true fun e => hne (h.rule i k hi hk e)
  closed := fun i k b hi hk hb e => decide_eq_false fun hne => by
    have e2 : ob i = ob k := Classical.byContradiction fun q => by
      rw [decide_eq_true q] at e; cases e
    rcases h.hop i k b hi hk hb e2 hne with h1 | h1
    · have := hlt _ (toN_le hd i b); omega
    · have := hlt _ (toN_le hd k b); omega
theorem hop_start (h1 : ∀ y z, y ≤ d.n → z ≤ d.n → (ob y = ob z ↔ ruN d y = ruN d z)) : HopI d 0 ob :=
  ⟨fun y z hy hz hne => ⟨[], fun b hb => (List.not_mem_nil hb).elim, fun e => hne ((h1 y z hy hz).2 (by rw [← sayN_nil, ← sayN_nil]; exact e))⟩, fun y z hy hz e => (h1 y z hy hz).1 e, fun _ _ _ _ _ _ _ _ => .inl (Nat.zero_le _)⟩
end
end Go.Proofs.YtjeomlickkpebaaGreatDoor

/-
  nfas.NFA.is: what it returns.
-/
namespace Go.Proofs.YtjeomlickkpebaaGreatDoor
open Go.RowKit

def isP (q : List Sta) (a : Int) (k : Nat) : Bool := match lookS q a with
  | none => false
  | some s => s.kind == k
theorem look_some {q : List Sta} {a : Int} {s : Sta} (h : lookS q a = some s) : 0 ≤ a ∧ a < q.length ∧ q[a.toNat]? = some s := by
  unfold lookS at h
  split at h
  · have := (List.getElem?_eq_some_iff.1 h).1
    exact ⟨by assumption, by omega, h⟩
  · cases h
theorem look_none {q : List Sta} {a : Int} (h : lookS q a = none) : ¬ 0 ≤ a ∨ 0 ≤ a ∧ ¬ a < q.length := by
  unfold lookS at h
  split at h
  · have := List.getElem?_eq_none_iff.1 h
    exact .inr ⟨by assumption, by omega⟩
  · exact .inl (by assumption)
theorem nis_nil (a k : Int) (w : World) : Calls Tryz.prog 43 #[.pointer none, .int .i64 a, .int .i64 k] w fun e w' => e = .returned (.bool false) ∧ w' = w := by
  go_enter Tryz.func43, Tryz.ntmps43
  go_wp2_with fail
  go_ret
  exact ⟨rfl, rfl⟩
section
variable {w : World} {v : Value} {q : List Sta} {first : List Int} {s : Sta} {a : Int}
theorem nis_out (h : NfaR w v q first) (k : Int) (hs : lookS q a = none) : Calls Tryz.prog 43 #[v, .int .i64 a, .int .i64 k] w fun e w' => e = .returned (.bool false) ∧ w' = w := by
  obtain ⟨B, ao, cap, fo, fc, rfl, c0, hn, _, _, _⟩ := h.form
  rcases look_none hs with h0 | ⟨h0, h1⟩
  · clear h hs
    go_enter Tryz.func43, Tryz.ntmps43
    go_wp2_with fail
    go_ret
    exact ⟨rfl, rfl⟩
  · clear h hs
    go_enter Tryz.func43, Tryz.ntmps43
    go_wp2_with fail
    go_ret
    exact ⟨rfl, rfl⟩
theorem nis_in (h : NfaR w v q first) (k : Nat) (hs : lookS q a = some s) : Calls Tryz.prog 43 #[v, .int .i64 a, .int .i64 (k : Int)] w fun e w' => e = .returned (.bool (s.kind == k)) ∧ w' = w := by
  obtain ⟨h0, h1, h2⟩ := look_some hs
  obtain ⟨B, g, o, cap, rfl, c0, hn, hc⟩ := h.sta h2
  have c1 := hc 0 _ (by decide) rfl
  obtain ⟨b, hb⟩ : ∃ b, (s.kind == k) = b := ⟨_, rfl⟩
  have hb2 : ((s.kind : Int) == (k : Int)) = b := by
    rw [← hb, Bool.eq_iff_iff, beq_iff_eq, beq_iff_eq]
    constructor <;> intro h <;> omega
  obtain ⟨kk, hkk⟩ : ∃ kk : Int, (s.kind : Int) = kk := ⟨_, rfl⟩
  obtain ⟨kj, hkj⟩ : ∃ kj : Int, (k : Int) = kj := ⟨_, rfl⟩
  rw [hkk] at hb2 c1
  rw [hkj] at hb2
  rw [hb, hkj]
  have e1 : o + (a.toNat * 8 + 0) = o + a.toNat * 8 := rfl
  rw [e1] at c1
  clear h hs h2 hc hb hkk hkj e1
  go_enter Tryz.func43, Tryz.ntmps43
  go_wp2_with fail
  go_ret
  exact ⟨rfl, rfl⟩
theorem nis_any (h : NfaR w v q first) (a : Int) (k : Nat) : Calls Tryz.prog 43 #[v, .int .i64 a, .int .i64 (k : Int)] w fun e w' => e = .returned (.bool (isP q a k)) ∧ w' = w := by
  unfold isP
  rcases hs : lookS q a with _ | s
  · exact nis_out h k hs
  · exact nis_in h k hs
end
end Go.Proofs.YtjeomlickkpebaaGreatDoor

/-
  A map from texts to numbers, each text's number being its place: a text looked for, a text put in. No call is walked here.
-/
namespace Go.Proofs.YtjeomlickkpebaaGreatDoor
open Go.RowKit

def entsT : Nat → List ByteArray → List (Value × Value)
  | _, [] => []
  | j, s :: ks => (.string s, .int .i64 (j : Int)) :: entsT (j + 1) ks
theorem ents_snoc : ∀ (j : Nat) (ks : List ByteArray) (s : ByteArray), entsT j (ks ++ [s]) = entsT j ks ++ [(.string s, .int .i64 ((j + ks.length : Nat) : Int))]
  | j, [], s => rfl
  | j, t :: ks, s => by
    rw [List.cons_append, entsT, entsT, ents_snoc (j + 1) ks s, List.cons_append, List.length_cons, show j + 1 + ks.length = j + (ks.length + 1) by omega]
/-- Where a text stands. -/
def idxT : List ByteArray → ByteArray → Nat → Option Nat
  | [], _, _ => none
  | t :: ks, s, j => if s = t then some j else idxT ks s (j + 1)
/-- The map in block b has just these texts, each with its place. -/
def MapT (w : World) (b : Nat) (ks : List ByteArray) : Prop := ∃ es clock, w.heap[b]? = some (.map es clock) ∧ es.toList.map (fun e => (e.key, e.val)) = entsT 0 ks
theorem findT (s : ByteArray) : ∀ (es : List MapEntry) (ks : List ByteArray) (j i : Nat), es.map (fun e => (e.key, e.val)) = entsT j ks →
    Instr.findNow .string (.string s) es i = some ((idxT ks s j).map fun k => (i + (k - j), .int .i64 (k : Int)))
  | [], [], j, i, _ => rfl
  | [], t :: ks, j, i, h => by cases h
  | e :: es, [], j, i, h => by cases h
  | e :: es, t :: ks, j, i, h => by
    rw [List.map_cons, entsT, List.cons.injEq, Prod.mk.injEq] at h
    obtain ⟨⟨h1, h2⟩, h3⟩ := h
    rw [Instr.findNow, h1]
    unfold idxT
    by_cases c : s = t
    · subst c
      have hb : (s == s) = true := (MapKept.bytes_beq s s).2 rfl
      simp only [Instr.sameNow, hb, h2]
      simp
    · have hb : (s == t) = false := by
        cases hq : s == t
        · rfl
        · exact absurd ((MapKept.bytes_beq s t).1 hq) c
      simp only [Instr.sameNow, hb, if_neg c]
      rw [findT s es ks (j + 1) (i + 1) h3]
      congr 1
      have key : ∀ k, idxT ks s (j + 1) = some k → j + 1 ≤ k := by
        clear findT h3
        intro k
        generalize j + 1 = a
        induction ks generalizing a with
        | nil => intro h; cases h
        | cons t ks ih =>
          intro h
          rw [idxT] at h
          split at h
          · cases h; exact Nat.le_refl _
          · have := ih _ h; omega
      rcases hx : idxT ks s (j + 1) with _ | k
      · rfl
      · have := key k hx
        simp only [Option.map_some]
        rw [show i + 1 + (k - (j + 1)) = i + (k - j) by omega]
section
variable {w w' : World} {b : Nat} {ks : List ByteArray}
theorem MapT.new (w : World) : MapT (w.alloc (.map #[] 0)) w.heap.size [] := ⟨#[], 0, heap_alloc_new _ _, rfl⟩
theorem MapT.lt (h : MapT w b ks) : b < w.heap.size := by
  obtain ⟨_, _, h, _⟩ := h
  exact (Array.getElem?_eq_some_iff.1 h).1
theorem MapT.keep {ok : Nat → Prop} (h : MapT w b ks) (hk : KeepW ok w w') (ho : ok b) : MapT w' b ks := by
  have hl := h.lt
  obtain ⟨es, clock, h, h2⟩ := h
  exact ⟨es, clock, (hk.same b hl ho).trans h, h2⟩
theorem mapT_find (h : MapT w b ks) (s : ByteArray) : ∃ es clock, w.heap[b]? = some (.map es clock) ∧ (Instr.findKey 9 (.string s) es.toList).run Tryz.prog w = .ok ((idxT ks s 0).map fun k => (k, .int .i64 (k : Int))) w ∧ es.toList.map (fun e => (e.key, e.val)) = entsT 0 ks := by
  obtain ⟨es, clock, hb, he⟩ := h
  refine ⟨es, clock, hb, ?_, he⟩
  unfold Instr.findKey
  simp only [Sem.run_bind, run_underlying Tryz.underlying9, Result.andThen_ok, findT s es.toList ks 0 0 he, Sem.run_pure, Nat.zero_add, Nat.sub_zero]
theorem checkT (em : Bool) (s : ByteArray) (w : World) : (Instr.checkKey em 10000 9 (.string s)).run Tryz.prog w = .ok () w := by
  rw [show (10000 : Nat) = 9999 + 1 from rfl, Instr.checkKey]
  simp [run_underlying Tryz.underlying9]
theorem mapT_yes (h : MapT w b ks) {s : ByteArray} {k : Nat} (hk : idxT ks s 0 = some k) : (Instr.lookup 101 (.map (some b)) (.string s) true).run Tryz.prog w = .ok (.tuple #[.int .i64 (k : Int), .bool true]) w := by
  obtain ⟨es, clock, hb, hf, _⟩ := mapT_find h s
  rw [hk] at hf
  unfold Instr.lookup
  simp only [Sem.run_bind, run_underlying Tryz.underlying101, Result.andThen_ok, MapKept.run_getObj_map hb, Sem.run_pure, checkT, hf]
  rfl
theorem mapT_no (h : MapT w b ks) {s : ByteArray} (hk : idxT ks s 0 = none) : (Instr.lookup 101 (.map (some b)) (.string s) true).run Tryz.prog w = .ok (.tuple #[.int .i64 0, .bool false]) w := by
  obtain ⟨es, clock, hb, hf, _⟩ := mapT_find h s
  rw [hk] at hf
  have hz : (zeroValue 3).run Tryz.prog w = .ok (.int .i64 0) w := by kernel_rfl
  unfold Instr.lookup
  simp only [Sem.run_bind, run_underlying Tryz.underlying101, Result.andThen_ok, MapKept.run_getObj_map hb, Sem.run_pure, checkT, hf, Option.map_none, hz]
  rfl
theorem mapT_put (h : MapT w b ks) {s : ByteArray} (hk : idxT ks s 0 = none) (n : Int) (hn : n = (ks.length : Int)) :
    ∃ w', (Instr.mapUpdate 101 (.map (some b)) (.string s) (.int .i64 n)).run Tryz.prog w = .ok () w' ∧ MapT w' b (ks ++ [s]) ∧ KeepW (fun k => k ≠ b) w w' := by
  obtain ⟨es, clock, hb, hf, he⟩ := mapT_find h s
  rw [hk] at hf
  subst hn
  refine ⟨{ w with heap := w.heap.setIfInBounds b (.map (es.push { key := .string s, val := .int .i64 (ks.length : Int), born := clock }) (clock + 1)) }, ?_, ?_, ?_⟩
  · unfold Instr.mapUpdate
    simp only [Sem.run_bind, run_underlying Tryz.underlying101, Result.andThen_ok, MapKept.run_getObj_map hb, checkT, hf, Option.map_none, MapKept.run_setObj_map _ hb]
  · refine ⟨_, clock + 1, (MapKept.heap_set hb).1, ?_⟩
    rw [Array.toList_push, List.map_append, he, ents_snoc]
    rw [Nat.zero_add]
    rfl
  · exact ⟨rfl, rfl, rfl, by show _ ≤ (w.heap.setIfInBounds _ _).size; rw [Array.size_setIfInBounds]; exact Nat.le_refl _, fun k _ hk => (MapKept.heap_set hb).2 k hk⟩
end
end Go.Proofs.YtjeomlickkpebaaGreatDoor

/-
  dfas.Min, plain: what one byte marks, and whose blocks are hit. No call is walked here.
-/
namespace Go.Proofs.YtjeomlickkpebaaGreatDoor

/-- So many states are marked; these blocks are hit. -/
structure MkI (n : Nat) (M : Nat → Prop) (hs : List Nat) (Bs : List Blk) (st pl ob : Nat → Nat) : Prop where
  par : ParI n Bs st pl ob
  mrk : ∀ y, y < n → (MkP Bs pl ob y ↔ M y)
  nd : hs.Nodup
  hit : ∀ j, j ∈ hs ↔ ∃ y, y < n ∧ ob y = j ∧ M y
section
variable {n : Nat} {M M' : Nat → Prop} {hs : List Nat} {Bs : List Blk} {st pl ob : Nat → Nat}
theorem MkI.congr (h : MkI n M hs Bs st pl ob) (hm : ∀ y, y < n → (M y ↔ M' y)) : MkI n M' hs Bs st pl ob :=
  ⟨h.par, fun y hy => (h.mrk y hy).trans (hm y hy), h.nd, fun j => (h.hit j).trans ⟨fun ⟨y, h1, h2, h3⟩ => ⟨y, h1, h2, (hm y h1).1 h3⟩, fun ⟨y, h1, h2, h3⟩ => ⟨y, h1, h2, (hm y h1).2 h3⟩⟩⟩
theorem MkI.start (hp : ParI n Bs st pl ob) (hno : ∀ y, y < n → ¬ MkP Bs pl ob y) : MkI n (fun _ => False) [] Bs st pl ob :=
  ⟨hp, fun y hy => ⟨hno y hy, fun e => e.elim⟩, List.nodup_nil, fun _ => ⟨fun e => absurd e List.not_mem_nil, fun ⟨_, _, _, e⟩ => e.elim⟩⟩
theorem MkI.step (h : MkI n M hs Bs st pl ob) {x f t m : Nat} (hx : x < n) (hj : Bs[ob x]? = some (f, t, m)) (hM : ¬ M x) :
    MkI n (fun y => M y ∨ y = x) (if m = 0 then hs ++ [ob x] else hs) (Bs.set (ob x) (f, t, m + 1)) (stM st (pl x) (f + m) x) (plM pl (pl x) (f + m) x (st (f + m))) ob := by
  have hmk : ¬ MkP Bs pl ob x := fun e => hM ((h.mrk x hx).1 e)
  obtain ⟨_, _, hp2, hm2⟩ := par_mark h.par hx hj hmk
  have hin := h.par.in_iff hx hj
  have hb := h.par.inb _ _ _ _ hj
  have hzero : m = 0 ↔ ob x ∉ hs := by
    constructor
    · intro e hmem
      obtain ⟨y, h1, h2, h3⟩ := (h.hit _).1 hmem
      have hjy : Bs[ob y]? = some (f, t, m) := by rw [h2]; exact hj
      have := (mk_iff hjy).1 ((h.mrk y h1).2 h3)
      have := (h.par.in_iff h1 hj).1 h2
      omega
    · intro hno
      by_cases c : m = 0
      · exact c
      · refine absurd ((h.hit _).2 ⟨st f, (h.par.inv2 f (by omega)).1, hb.2.2.2 f (Nat.le_refl _) hb.1, ?_⟩) hno
        have hjy : Bs[ob (st f)]? = some (f, t, m) := by rw [hb.2.2.2 f (Nat.le_refl _) hb.1]; exact hj
        refine (h.mrk _ (h.par.inv2 f (by omega)).1).1 ((mk_iff hjy).2 ?_)
        rw [(h.par.inv2 f (by omega)).2]
        omega
  refine ⟨hp2, fun y hy => (hm2 y hy).trans ⟨fun e => e.elim (fun e => .inl ((h.mrk y hy).1 e)) .inr, fun e => e.elim (fun e => .inl ((h.mrk y hy).2 e)) .inr⟩, ?_, fun j => ?_⟩
  · split
    · rename_i c
      refine List.nodup_append.2 ⟨h.nd, List.nodup_cons.2 ⟨List.not_mem_nil, List.nodup_nil⟩, fun a ha b hb e => ?_⟩
      rw [List.mem_singleton] at hb
      subst hb
      subst e
      exact hzero.1 c ha
    · exact h.nd
  · split
    · rename_i c
      rw [List.mem_append, List.mem_singleton, h.hit]
      constructor
      · rintro (⟨y, h1, h2, h3⟩ | e)
        · exact ⟨y, h1, h2, .inl h3⟩
        · exact ⟨x, hx, e.symm, .inr rfl⟩
      · rintro ⟨y, h1, h2, h3 | h3⟩
        · exact .inl ⟨y, h1, h2, h3⟩
        · subst h3; exact .inr h2.symm
    · rename_i c
      rw [h.hit]
      constructor
      · rintro ⟨y, h1, h2, h3⟩
        exact ⟨y, h1, h2, .inl h3⟩
      · rintro ⟨y, h1, h2, h3 | h3⟩
        · exact ⟨y, h1, h2, h3⟩
        · subst h3
          have : j ∈ hs := Classical.byContradiction fun q => c (hzero.2 (by rw [h2]; exact q))
          exact (h.hit j).1 this
theorem MkI.few (h : MkI n M hs Bs st pl ob) : hs.length ≤ n := by
  have hK := h.par.few
  refine Nat.le_trans (pig hs.length Bs.length (fun i => hs.getD i 0) (fun j hj => ?_) fun i j hij hj e => ?_) hK
  · have : hs.getD j 0 = hs[j] := by rw [List.getD_eq_getElem?_getD, List.getElem?_eq_getElem hj]; rfl
    show hs.getD j 0 < _
    rw [this]
    obtain ⟨y, h1, h2, _⟩ := (h.hit _).1 (List.getElem_mem hj)
    rw [← h2]
    exact h.par.lt h1
  · have hi : i < hs.length := by omega
    have e1 : hs.getD i 0 = hs[i] := by rw [List.getD_eq_getElem?_getD, List.getElem?_eq_getElem hi]; rfl
    have e2 : hs.getD j 0 = hs[j] := by rw [List.getD_eq_getElem?_getD, List.getElem?_eq_getElem hj]; rfl
    have e' : hs.getD i 0 = hs.getD j 0 := e
    rw [e1, e2] at e'
    exact List.pairwise_iff_getElem.1 h.nd i j hi hj hij e'
end
/-! ### The lists of those that lead to a state by a byte -/
structure BkO (d : Dfa) (bk : Nat → Nat → List Nat) : Prop where
  nd : ∀ z b, z ≤ d.n → b < 256 → (bk z b).Nodup
  mem : ∀ z b y, z ≤ d.n → b < 256 → (y ∈ bk z b ↔ y ≤ d.n ∧ toN d y b = z)
/-- Who leads, by a byte, to one of the first i, and some more. -/
def MW (d : Dfa) (wa : Nat → Nat) (b i : Nat) (L : List Nat) (y : Nat) : Prop := (∃ k, k < i ∧ toN d y b = wa k) ∨ y ∈ L
section
variable {d : Dfa} {bk : Nat → Nat → List Nat} {wa : Nat → Nat} {b i k x m : Nat}
theorem mw_step (y : Nat) (hx : (bk (wa i) b)[k]? = some x) : (MW d wa b i ((bk (wa i) b).take k) y ∨ y = x) ↔ MW d wa b i ((bk (wa i) b).take (k + 1)) y := by
  unfold MW
  rw [List.take_add_one, hx, List.mem_append]
  show _ ↔ _ ∨ _ ∨ y ∈ [x]
  rw [List.mem_singleton, or_assoc]
theorem mw_not (hb : BkO d bk) (hwa : ∀ i, i < m → wa i ≤ d.n) (hinj : ∀ i k, i < m → k < m → wa i = wa k → i = k) (hbb : b < 256) (hi : i < m) (hx : (bk (wa i) b)[k]? = some x) : x ≤ d.n ∧ ¬ MW d wa b i ((bk (wa i) b).take k) x := by
  obtain ⟨hk, hxe⟩ := List.getElem?_eq_some_iff.1 hx
  obtain ⟨h1, h2⟩ := (hb.mem (wa i) b x (hwa i hi) hbb).1 (by rw [← hxe]; exact List.getElem_mem hk)
  refine ⟨h1, ?_⟩
  rintro (⟨k', h3, h4⟩ | h3)
  · rw [h2] at h4
    have := hinj i k' hi (by omega) h4
    omega
  · obtain ⟨j, hj, e⟩ := List.mem_iff_getElem.1 h3
    rw [List.length_take] at hj
    rw [List.getElem_take] at e
    have := List.pairwise_iff_getElem.1 (hb.nd (wa i) b (hwa i hi) hbb) j k (by omega) hk (by omega)
    exact this (e.trans hxe.symm)
theorem mw_end (hb : BkO d bk) (hwa : ∀ i, i < m → wa i ≤ d.n) (hbb : b < 256) (hi : i < m) {y : Nat} (hy : y ≤ d.n) : MW d wa b i ((bk (wa i) b).take (bk (wa i) b).length) y ↔ MW d wa b (i + 1) [] y := by
  rw [List.take_length]
  unfold MW
  rw [hb.mem _ _ _ (hwa i hi) hbb]
  constructor
  · rintro (⟨k, h1, h2⟩ | ⟨_, h2⟩)
    · exact .inl ⟨k, by omega, h2⟩
    · exact .inl ⟨i, by omega, h2⟩
  · rintro (⟨k, h1, h2⟩ | h2)
    · by_cases c : k = i
      · subst c; exact .inr ⟨hy, h2⟩
      · exact .inl ⟨k, by omega, h2⟩
    · cases h2
end
/-! ### The hit blocks are parted -/
section
variable {n : Nat} {M : Nat → Prop} {hs : List Nat} {Bs Bs1 : List Blk} {st pl ob st1 pl1 ob1 : Nat → Nat}
theorem parts_of (h : MkI n M hs Bs st pl ob) : PartsI n Bs.length M ob (fun j => j ∈ hs.take 0) Bs pl ob := by
  have := parts_start (n := n) (K0 := Bs.length) (H := M) (ob := ob) h.mrk (Nat.le_refl _)
  rw [show (fun j => j ∈ hs.take 0) = fun _ : Nat => False from funext fun j => propext ⟨fun e => absurd (List.take_zero ▸ e) List.not_mem_nil, fun e => e.elim⟩]
  exact this
/-- The block that comes next is marked, as it is hit. -/
theorem parts_next (h : MkI n M hs Bs1 st1 pl1 ob1) {k j : Nat} (hj : hs[k]? = some j) (g : PartsI n Bs1.length M ob1 (fun j => j ∈ hs.take k) Bs pl ob) (hp : ParI n Bs st pl ob) :
    ∃ f t m, Bs[j]? = some (f, t, m) ∧ 0 < m ∧ f + m ≤ t ∧ ∀ Bs' ob', PartO n j Bs.length Bs Bs' pl ob ob' → PartsI n Bs1.length M ob1 (fun j => j ∈ hs.take (k + 1)) Bs' pl ob' := by
  obtain ⟨hk, hke⟩ := List.getElem?_eq_some_iff.1 hj
  obtain ⟨y, h1, h2, h3⟩ := (h.hit j).1 (by rw [← hke]; exact List.getElem_mem hk)
  have hnot : j ∉ hs.take k := fun e => by
    obtain ⟨i, hi, e2⟩ := List.mem_iff_getElem.1 e
    rw [List.length_take] at hi
    rw [List.getElem_take] at e2
    exact List.pairwise_iff_getElem.1 h.nd i k (by omega) hk (by omega) (e2.trans hke.symm)
  obtain ⟨h4, h5⟩ := g.left y h1 (by rw [h2]; exact hnot)
  obtain ⟨f, t, m, h6, h7⟩ := h5.2 h3
  rw [h4, h2] at h6
  have h8 := (hp.in_iff h1 h6).1 (by rw [h4, h2])
  have h9 := hp.inb _ _ _ _ h6
  refine ⟨f, t, m, h6, by omega, h9.2.2.1, fun Bs' ob' ho => ?_⟩
  have := parts_step g hp hnot (by rw [← h2]; exact h.par.lt h1) ho
  rw [show (fun i => i ∈ hs.take (k + 1)) = fun i => i ∈ hs.take k ∨ i = j from funext fun i => propext (by
    rw [List.take_add_one, hj, List.mem_append]
    show _ ∨ i ∈ [j] ↔ _
    rw [List.mem_singleton])]
  exact this
theorem parts_done (h : MkI n M hs Bs1 st1 pl1 ob1) (g : PartsI n Bs1.length M ob1 (fun j => j ∈ hs.take hs.length) Bs pl ob) : RefI n Bs1.length M ob1 ob ∧ ∀ y, y < n → ¬ MkP Bs pl ob y := by
  rw [List.take_length] at g
  exact parts_end g fun y hy hM => (h.hit _).2 ⟨y, hy, rfl, hM⟩
end
end Go.Proofs.YtjeomlickkpebaaGreatDoor

/-
  slices.swapRangeCmpFunc, rotateCmpFunc: what they leave.
-/
namespace Go.Proofs.YtjeomlickkpebaaGreatDoor
open Go.RowKit

/-- What a call leaves of a row that it writes into. -/
def ArrO (w w' : World) (X n : Nat) (g : Nat → Int) (e : Ending) : Prop := e = .returned (.tuple #[]) ∧ ArrF w' X n g ∧ KeepW (fun k => k ≠ X) w w'
section
variable {w : World} {X n : Nat} {f : Nat → Int}
theorem swap_any (h : ArrF w X n f) {a b k cap : Nat} (hab : a + k ≤ b) (hb : b + k ≤ n) (hn : n ≤ 100000) (c : Value) :
    Calls Tryz.prog 106 #[.slice (some ⟨X, 0, none⟩) n cap, .int .i64 a, .int .i64 b, .int .i64 k, c] w fun e w' => ArrO w w' X n (exF f a b k) e := by
  have H0 : Hid (ArrF w X n (exF f a b 0) ∧ KeepW (fun k => k ≠ X) w w) := Lib.hid ⟨by rw [exF_zero]; exact h, KeepW.refl _ _⟩
  clear h
  go_enter Tryz.func106, Tryz.ntmps106
  go_wp2_with fail
  go_loopw [10] (fun s10 wr => ∃ i : Nat, s10 = .int .i64 (i : Int) ∧ i ≤ k ∧ Hid (ArrF wr X n (exF f a b i) ∧ KeepW (fun k => k ≠ X) w wr)) (fun s10 _ => k - (intOf s10).toNat)
  case atStart => exact ⟨0, rfl, Nat.zero_le _, H0⟩
  case round =>
    obtain ⟨i, rfl, hi, HX⟩ := hrel
    clear H0
    by_cases hlt : i < k
    · have hA := HX.out.1
      have c1 := hA.cell (i := a + i) (by omega)
      have c2 := hA.cell (i := b + i) (by omega)
      have f1 := hA.frozen (a + i)
      have f2 := hA.frozen (b + i)
      have hX := hA.lt
      have q1 : ((a + i : Nat) : Int) = (a : Int) + (i : Int) := by omega
      have q2 : ((b + i : Nat) : Int) = (b : Int) + (i : Int) := by omega
      obtain ⟨x, hx⟩ : ∃ x, exF f a b i (a + i) = x := ⟨_, rfl⟩
      obtain ⟨y, hy⟩ : ∃ y, exF f a b i (b + i) = y := ⟨_, rfl⟩
      have HS : Hid (ArrF ((wr.setCell ⟨X, a + i, none⟩ (.int .i64 y)).setCell ⟨X, b + i, none⟩ (.int .i64 x)) X n (exF f a b (i + 1)) ∧ KeepW (fun k => k ≠ X) w ((wr.setCell ⟨X, a + i, none⟩ (.int .i64 y)).setCell ⟨X, b + i, none⟩ (.int .i64 x))) := Lib.hid ⟨by
        rw [← hx, ← hy, ← exF_step f (by omega)]
        exact hA.swap, HX.out.2.trans (keep_set2 wr X _ _ _ _)⟩
      rw [hx] at c1
      rw [hy] at c2
      have n1 : (0 : Int) ≤ (a : Int) + (i : Int) := by omega
      have n2 : (0 : Int) ≤ (b : Int) + (i : Int) := by omega
      have n3 : (a : Int) + (i : Int) < (n : Int) := by omega
      have n4 : (b : Int) + (i : Int) < (n : Int) := by omega
      have n5 : (a : Int) + (i : Int) ≤ 100000 := by omega
      have n6 : (b : Int) + (i : Int) ≤ 100000 := by omega
      have hik : (i : Int) < (k : Int) := by omega
      clear hA hx hy HX
      go_wp2_with fail
      go_region
      have H2 : Hid (ArrF ((wr.setCell ⟨X, a + i, none⟩ (.int .i64 y)).setCell ⟨X, b + i, none⟩ (.int .i64 x)).drew X n (exF f a b (i + 1)) ∧ KeepW (fun k => k ≠ X) w ((wr.setCell ⟨X, a + i, none⟩ (.int .i64 y)).setCell ⟨X, b + i, none⟩ (.int .i64 x)).drew) := Lib.hid ⟨HS.out.1.keep (keep_drew (fun _ => True) _) trivial, HS.out.2.trans (keep_drew _ _)⟩
      clear HS
      go_wp2_with fail
      go_roundw
      case rel => exact ⟨i + 1, by go_num, hlt, H2⟩
      case measure => simp [intOf] <;> omega
    · have hik : ¬ (i : Int) < (k : Int) := by omega
      have he : i = k := by omega
      rw [he] at HX
      clear he
      go_wp2_with fail
      go_end0
      exact ⟨rfl, HX.out⟩
theorem rot_any (h : ArrF w X n f) {a m b cap : Nat} (ham : a < m) (hmb : m < b) (hb : b ≤ n) (hn : n ≤ 100000) (c : Value) :
    Calls Tryz.prog 99 #[.slice (some ⟨X, 0, none⟩) n cap, .int .i64 a, .int .i64 m, .int .i64 b, c] w fun e w' => ArrO w w' X n (rotF f a m b) e := by
  obtain ⟨i0, hi0⟩ : ∃ i0, m - a = i0 := ⟨_, rfl⟩
  obtain ⟨j0, hj0⟩ : ∃ j0, b - m = j0 := ⟨_, rfl⟩
  have HSW := Lib.hid (fun (W : World) (g : Nat → Int) (hg : ArrF W X n g) (p q k : Nat) (h1 : p + k ≤ q) (h2 : q + k ≤ n) => swap_any (cap := cap) hg h1 h2 hn c)
  have H0 : Hid (∃ g, ArrF w X n g ∧ rotF g (m - i0) m (m + j0) = rotF f a m b ∧ KeepW (fun k => k ≠ X) w w) := Lib.hid ⟨f, h, by rw [show m - i0 = a by omega, show m + j0 = b by omega], KeepW.refl _ _⟩
  have hA : (m : Int) - (a : Int) = (i0 : Int) := by omega
  have hB : (b : Int) - (m : Int) = (j0 : Int) := by omega
  have hi1 : 0 < i0 := by omega
  have hj1 : 0 < j0 := by omega
  have hi2 : i0 ≤ m := by omega
  have hj2 : m + j0 ≤ n := by omega
  clear h
  go_enter Tryz.func99, Tryz.ntmps99
  go_wp2_with fail
  go_loopw [10, 11] (fun s10 s11 wr => ∃ i j : Nat, s10 = .int .i64 (i : Int) ∧ s11 = .int .i64 (j : Int) ∧ 0 < i ∧ 0 < j ∧ i ≤ m ∧ m + j ≤ n ∧ Hid (∃ g, ArrF wr X n g ∧ rotF g (m - i) m (m + j) = rotF f a m b ∧ KeepW (fun k => k ≠ X) w wr)) (fun s10 s11 _ => (intOf s10).toNat + (intOf s11).toNat)
  case atStart => exact ⟨i0, j0, by go_num, by go_num, hi1, hj1, hi2, hj2, H0⟩
  case round =>
    clear H0 hA hB hi1 hj1 hi2 hj2 hi0 hj0
    obtain ⟨i, j, rfl, rfl, hi, hj, him, hjn, HX⟩ := hrel
    have m1 : (m : Int) - (i : Int) = ((m - i : Nat) : Int) := by omega
    have b1 : (m : Int) ≤ 100000 := by omega
    have b2 : (i : Int) ≤ (m : Int) := by omega
    have b3 : (m : Int) + (j : Int) ≤ 100000 := by omega
    have b4 : (0 : Int) ≤ (i : Int) := by omega
    have b5 : (0 : Int) ≤ (j : Int) := by omega
    by_cases hij : i = j
    · have h1 : ((i : Int) != (j : Int)) = false := by rw [hij]; simp
      have HE : Hid (Calls Tryz.prog 106 #[.slice (some ⟨X, 0, none⟩) n cap, .int .i64 ((m : Int) - (i : Int)), .int .i64 m, .int .i64 i, c] wr fun e w' => ArrO w w' X n (rotF f a m b) e) := Lib.hid (by
        obtain ⟨g, g1, g2, g3⟩ := HX.out
        rw [m1]
        refine (HSW.out wr g g1 (m - i) m i (by omega) (by omega)).mono ?_
        rintro e w' ⟨rfl, q1, q2⟩
        rw [rot_eq g him, show m + i = m + j by omega, g2] at q1
        exact ⟨rfl, q1, g3.trans q2⟩)
      clear HX HSW m1 hij
      go_wp2_with fail
      go_fit HE.out
      rintro e w2 ⟨rfl, q⟩
      have HQ := Lib.hid q
      clear q
      go_wp2_with fail
      go_end0
      exact ⟨rfl, HQ.out⟩
    · have h1 : ((i : Int) != (j : Int)) = true := by rw [bne_iff_ne]; omega
      by_cases hlt : j < i
      · have h2 : (j : Int) < (i : Int) := by omega
        have HE : Hid (Calls Tryz.prog 106 #[.slice (some ⟨X, 0, none⟩) n cap, .int .i64 ((m : Int) - (i : Int)), .int .i64 m, .int .i64 j, c] wr fun e w' => e = .returned (.tuple #[]) ∧ ∃ g, ArrF w' X n g ∧ rotF g (m - (i - j)) m (m + j) = rotF f a m b ∧ KeepW (fun k => k ≠ X) w w') := Lib.hid (by
          obtain ⟨g, g1, g2, g3⟩ := HX.out
          rw [m1]
          refine (HSW.out wr g g1 (m - i) m j (by omega) (by omega)).mono ?_
          rintro e w' ⟨rfl, q1, q2⟩
          exact ⟨rfl, _, q1, by rw [rot_gt g hlt him, g2], g3.trans q2⟩)
        clear HX HSW m1
        go_wp2_with fail
        go_fit HE.out
        rintro e w2 ⟨rfl, q⟩
        have HQ := Lib.hid q
        clear q
        go_wp2_with fail
        go_roundw
        case rel => exact ⟨i - j, j, by go_num, rfl, by omega, hj, by omega, hjn, HQ⟩
        case measure => simp [intOf] <;> omega
      · have h2 : ¬ (j : Int) < (i : Int) := by omega
        have m2 : (m : Int) + (j : Int) - (i : Int) = ((m + j - i : Nat) : Int) := by omega
        have HE : Hid (Calls Tryz.prog 106 #[.slice (some ⟨X, 0, none⟩) n cap, .int .i64 ((m : Int) - (i : Int)), .int .i64 ((m : Int) + (j : Int) - (i : Int)), .int .i64 i, c] wr fun e w' => e = .returned (.tuple #[]) ∧ ∃ g, ArrF w' X n g ∧ rotF g (m - i) m (m + (j - i)) = rotF f a m b ∧ KeepW (fun k => k ≠ X) w w') := Lib.hid (by
          obtain ⟨g, g1, g2, g3⟩ := HX.out
          rw [m1, m2]
          refine (HSW.out wr g g1 (m - i) (m + j - i) i (by omega) (by omega)).mono ?_
          rintro e w' ⟨rfl, q1, q2⟩
          exact ⟨rfl, _, q1, by rw [rot_lt g (by omega) him, g2], g3.trans q2⟩)
        clear HX HSW m1 m2
        go_wp2_with fail
        go_fit HE.out
        rintro e w2 ⟨rfl, q⟩
        have HQ := Lib.hid q
        clear q
        go_wp2_with fail
        go_roundw
        case rel => exact ⟨i, j - i, rfl, by go_num, hi, by omega, him, by omega, HQ⟩
        case measure => simp [intOf] <;> omega
end
end Go.Proofs.YtjeomlickkpebaaGreatDoor

/-
  limnerlaw01.Ints at two rows of numbers: what the call returns.
-/
namespace Go.Proofs.YtjeomlickkpebaaGreatDoor
open Go.RowKit

theorem take_eq_stepI {l m : List Int} {k : Nat} (h : l.take k = m.take k) (hl : k < l.length) (hm : k < m.length) (he : l.getD k 0 = m.getD k 0) : l.take (k + 1) = m.take (k + 1) := by
  rw [List.take_succ_eq_append_getElem hl, List.take_succ_eq_append_getElem hm, h]
  simp [List.getD, List.getElem?_eq_getElem hl, List.getElem?_eq_getElem hm] at he
  rw [he]

set_option maxHeartbeats 1000000 in
theorem dints_part (A B : Option Addr) (ca cb : Nat) (n m : Nat) (w : World) (h : n ≠ m) :
    Calls Tryz.prog 24 #[.slice A n ca, .slice B m cb] w fun e w' => e = .returned (.bool false) ∧ w' = w := by
  have h1 : ((n : Int) != (m : Int)) = true := by rw [bne_iff_ne]; omega
  have h2 : ((n : Int) == (m : Int)) = false := by rw [beq_eq_false_iff_ne]; omega
  go_enter Tryz.func24, Tryz.ntmps24
  go_wp2
  go_ret
  exact ⟨rfl, rfl⟩

set_option maxHeartbeats 1000000 in
theorem dints_empty (A B : Option Addr) (ca cb : Nat) (w : World) :
    Calls Tryz.prog 24 #[.slice A 0 ca, .slice B 0 cb] w fun e w' => e = .returned (.bool true) ∧ w' = w := by
  go_enter Tryz.func24, Tryz.ntmps24
  go_wp2
  go_loop [5] (fun i => i = .int .i64 0) (fun _ => 0)
  case atStart => exact rfl
  case round =>
    subst hrel
    go_wp2
    go_ret
    exact ⟨rfl, rfl⟩

set_option maxHeartbeats 2000000 in
theorem dints_same (ga oa gb ob ca cb n : Nat) (xs ys : List Int) (w : World) (hn : n ≤ 1000000) (hx : xs.length = n) (hy : ys.length = n)
    (hca : ∀ k, k < n → w.cell? ⟨ga, oa + k, none⟩ = some (.int .i64 (xs.getD k 0))) (hcb : ∀ k, k < n → w.cell? ⟨gb, ob + k, none⟩ = some (.int .i64 (ys.getD k 0))) :
    Calls Tryz.prog 24 #[.slice (some ⟨ga, oa, none⟩) n ca, .slice (some ⟨gb, ob, none⟩) n cb] w fun e w' => e = .returned (.bool (decide (xs = ys))) ∧ ∃ q, w' = w.drewN q := by
  have HX := Lib.hid hx
  have HY := Lib.hid hy
  have HCA := Lib.hid hca
  have HCB := Lib.hid hcb
  clear hx hy hca hcb
  go_enter Tryz.func24, Tryz.ntmps24
  go_wp2
  go_loopw [5] (fun i wr => ∃ (k q : Nat), wr = w.drewN q ∧ i = .int .i64 (k : Int) ∧ k ≤ n ∧ Hid (xs.take k = ys.take k)) (fun i _ => n - (intOf i).toNat)
  case atStart => exact ⟨0, 0, rfl, rfl, Nat.zero_le _, rfl⟩
  case round =>
    obtain ⟨k, q, rfl, rfl, hk, HT⟩ := hrel
    by_cases hlt : k < n
    · have c1 : w.cell? ⟨ga, oa + k, none⟩ = some (.int .i64 (xs.getD k 0)) := HCA.out k hlt
      have c2 : w.cell? ⟨gb, ob + k, none⟩ = some (.int .i64 (ys.getD k 0)) := HCB.out k hlt
      have HST := fun he => take_eq_stepI HT.out (by rw [HX.out]; exact hlt) (by rw [HY.out]; exact hlt) he
      have HNE : xs.getD k 0 ≠ ys.getD k 0 → xs ≠ ys := fun h e => h (by rw [e])
      obtain ⟨x, hx⟩ : ∃ x, xs.getD k 0 = x := ⟨_, rfl⟩
      obtain ⟨y, hy⟩ : ∃ y, ys.getD k 0 = y := ⟨_, rfl⟩
      rw [hx] at c1 HST HNE
      rw [hy] at c2 HST HNE
      clear hx hy
      by_cases he : x = y
      · subst he
        have HST2 := Lib.hid (HST rfl)
        clear HST HNE
        go_wp2
        go_quiet (fail)
        go_wp2
        go_roundw
        case rel => exact ⟨k + 1, _, rfl, by go_num, by omega, HST2⟩
        case measure => simp [intOf]; omega
      · have HF : Hid (decide (xs = ys) = false) := decide_eq_false (HNE he)
        have h1 : (x != y) = true := by rw [bne_iff_ne]; exact he
        have h2 : (x == y) = false := by rw [beq_eq_false_iff_ne]; exact he
        clear HST HNE
        go_wp2
        go_quiet (fail)
        go_wp2
        go_ret
        exact ⟨by rw [HF.out]; rfl, q + nq, by simp⟩
    · obtain rfl : k = n := by omega
      have HF : Hid (decide (xs = ys) = true) := by
        have := HT.out
        rw [List.take_of_length_le (by rw [HX.out]; exact Nat.le_refl _), List.take_of_length_le (by rw [HY.out]; exact Nat.le_refl _)] at this
        exact decide_eq_true this
      go_wp2
      go_ret
      exact ⟨by rw [HF.out]; rfl, _, rfl⟩

theorem dints_any (va vb : Value) (xs ys : List Int) (w : World) (ha : IntsW w va xs) (hb : IntsW w vb ys) :
    Calls Tryz.prog 24 #[va, vb] w fun e w' => e = .returned (.bool (decide (xs = ys))) ∧ Below w.heap.size w w' := by
  have hx := ha.2
  obtain ⟨A, ca, rfl, _⟩ := ha.form
  obtain ⟨B, cb, rfl, _⟩ := hb.form
  by_cases hl : xs.length = ys.length
  · by_cases h0 : xs.length = 0
    · rw [← hl, h0]
      refine (dints_empty A B ca cb w).mono fun e w' h => ⟨?_, ?_⟩
      · have e1 : xs = [] := List.length_eq_zero_iff.1 h0
        have e2 : ys = [] := List.length_eq_zero_iff.1 (hl.symm.trans h0)
        rw [h.1, e1, e2]; rfl
      · rw [h.2]; exact Below.refl _ _
    · have key : ∀ {v : Value} {l : List Int}, IntsW w v l → 0 < l.length → ∃ g o c, v = .slice (some ⟨g, o, none⟩) l.length c ∧ ∀ k, k < l.length → w.cell? ⟨g, o + k, none⟩ = some (.int .i64 (l.getD k 0)) := fun {v l} h hp => by
        obtain ⟨g, o, c, hv, _, _⟩ := h.at_ (List.getElem?_eq_getElem hp)
        refine ⟨g, o, c, hv, fun k hk => ?_⟩
        obtain ⟨g2, o2, c2, hv2, _, hc⟩ := h.at_ (List.getElem?_eq_getElem hk)
        rw [hv] at hv2
        cases hv2
        rw [hc, List.getD, List.getElem?_eq_getElem hk]
        rfl
      obtain ⟨ga, oa, ca2, e1, hca⟩ := key ha (by omega)
      obtain ⟨gb, ob, cb2, e2, hcb⟩ := key hb (by omega)
      cases e1
      cases e2
      rw [← hl] at hcb ⊢
      refine (dints_same ga oa gb ob ca cb xs.length xs ys w hx rfl hl.symm hca hcb).mono fun e w' h => ⟨h.1, ?_⟩
      obtain ⟨q, rfl⟩ := h.2
      exact below_drewN (Below.refl _ _) q
  · refine (dints_part A B ca cb xs.length ys.length w hl).mono fun e w' h => ⟨?_, ?_⟩
    · rw [h.1, decide_eq_false (fun e => hl (by rw [e]))]
    · rw [h.2]; exact Below.refl _ _
end Go.Proofs.YtjeomlickkpebaaGreatDoor
