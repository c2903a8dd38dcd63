/-
  Texts of this proof, one behind the other; each begins with its own remark.
-/
import Derived.WalkKit
import Derived.Test.YtkopbngnhgdfhaaDoorBe5
import Derived.Test.YtkopbngnhgdfhaaDoorBe6
import Derived.Test.YtkopbngnhgdfhaaDoorBe1
/-
  nfas in memory: rows of numbers; states; an NFA as it is built, and as it is read. No call is walked here.
-/
namespace Go.Proofs.YtkopbngnhgdfhaaDoor
open Go.RowKit

theorem Tryd.infoIntN : (Tryd.prog.info? 3).map (fun i => (i.zero, i.size, i.bytes)) = some (some (.int .i64 0), 1, 8) := by kernel_rfl
def zeroSta : Value := .agg #[.int .i64 0, .int .u64 0, .int .u64 0, .int .u64 0, .int .u64 0, .int .i64 0, .int .i64 0, .int .i64 0]
theorem Tryd.infoSta : (Tryd.prog.info? 86).map (fun i => (i.zero, i.size, i.bytes)) = some (some zeroSta, 8, 64) := by kernel_rfl
theorem info_of {o : Option TypeInfo} {z : Value} {m b : Nat} (h : o.map (fun i => (i.zero, i.size, i.bytes)) = some (some z, m, b)) : ∃ i, o = some i ∧ i.zero = some z ∧ i.size = m ∧ i.bytes = b := by
  cases o with
  | none => cases h
  | some i =>
    simp only [Option.map_some, Option.some.injEq, Prod.mk.injEq] at h
    exact ⟨i, rfl, h.1, h.2.1, h.2.2⟩

/-! ### Rows of numbers -/
def numC (l : List Int) : List Value := l.map (Value.int .i64)
theorem numC_len (l : List Int) : (numC l).length = l.length := List.length_map _
theorem numC_at {l : List Int} {i : Nat} {a : Int} (h : l[i]? = some a) : (numC l)[i]? = some (.int .i64 a) := by unfold numC; rw [List.getElem?_map, h]; rfl
/-- A slice of these numbers. -/
def IntsW (w : World) (v : Value) (l : List Int) : Prop := RowZ (fun _ => True) w v l.length (numC l) ∧ l.length ≤ 1000000
theorem IntsW.below {w w' : World} {v : Value} {l : List Int} (h : IntsW w v l) (hb : Below w.heap.size w w') : IntsW w' v l := ⟨h.1.keep (keep_below _ hb) fun _ _ h => h, h.2⟩
theorem IntsW.nil (w : World) : IntsW w (.slice none 0 0) [] := ⟨RowZ.nil _ _, Nat.zero_le _⟩
theorem IntsW.form {w : World} {v : Value} {l : List Int} (h : IntsW w v l) : ∃ ao cap, v = .slice ao l.length cap ∧ l.length ≤ cap := by
  obtain ⟨⟨ao, cap, hv, hn, _⟩, _⟩ := h
  exact ⟨ao, cap, hv, hn⟩
theorem IntsW.at_ {w : World} {v : Value} {l : List Int} {i : Nat} {a : Int} (h : IntsW w v l) (hi : l[i]? = some a) : ∃ g o cap, v = .slice (some ⟨g, o, none⟩) l.length cap ∧ l.length ≤ cap ∧ w.cell? ⟨g, o + i, none⟩ = some (.int .i64 a) := by
  obtain ⟨⟨ao, cap, hv, hn, hc⟩, _⟩ := h
  obtain ⟨g, o, ha, _, hg⟩ := hc i _ (numC_at hi)
  exact ⟨g, o, cap, by rw [hv, ha], hn, hg⟩
/-- Such a row of the call's own. -/
def OwnI (N : Nat) (w : World) (v : Value) (l : List Int) : Prop := w.ownsRow N 3 1 v l.length (numC l)
theorem OwnI.nil (N : Nat) (w : World) : OwnI N w (.slice none 0 0) [] := World.ownsRow_nil _ _ _ _
theorem ownRow_keep {N m n : Nat} {e : TypeId} {w w' : World} {v : Value} {cs : List Value} {ok : Nat → Prop} (h : w.ownsRow N e m v n cs) (hk : KeepW ok w w') (ho : ∀ k, v.ownBlock = some k → ok k) : w'.ownsRow N e m v n cs := by
  obtain ⟨h1, h2 | ⟨g, cap, cur, rfl, h3, h4, h5⟩⟩ := h
  · exact ⟨h1, .inl h2⟩
  · exact ⟨h1, .inr ⟨g, cap, cur, rfl, h3, (hk.same g (Array.getElem?_eq_some_iff.1 h4).1 (ho g rfl)).trans h4, h5⟩⟩
theorem OwnI.keep {N : Nat} {w w' : World} {v : Value} {l : List Int} {ok : Nat → Prop} (h : OwnI N w v l) (hk : KeepW ok w w') (ho : ∀ k, v.ownBlock = some k → ok k) : OwnI N w' v l := ownRow_keep h hk ho
theorem OwnI.below {N : Nat} {w w' : World} {v : Value} {l : List Int} (h : OwnI N w v l) (hb : Below w.heap.size w w') : OwnI N w' v l := ownRow_keep h (keep_below (fun _ => True) hb) fun _ _ => trivial
theorem OwnI.ints {N : Nat} {w : World} {v : Value} {l : List Int} (h : OwnI N w v l) (hl : l.length ≤ 1000000) : IntsW w v l := ⟨(ownZ h).mono fun _ _ _ => trivial, hl⟩
theorem run_snocI {N : Nat} {w : World} {v : Value} {l : List Int} {X : Nat} {a : Int} (t ty : TypeId) (ht : Tryd.prog.underlying t = some (.slice 3)) (hv : OwnI N w v l) (hX : w.cell? ⟨X, 0, none⟩ = some (.int .i64 a)) (hN : N ≤ w.heap.size) (hs : l.length ≤ 100000) :
    ∃ v' w', (Builtin.append_ #[t, t] ty #[v, .slice (some ⟨X, 0, none⟩) 1 1]).run Tryd.prog w = .ok v' w' ∧ OwnI N w' v' (l ++ [a]) ∧ KeepW (fun k => v.ownBlock ≠ some k) w w' ∧ ∀ k, v'.ownBlock = some k → v.ownBlock = some k ∨ k = w.heap.size := by
  obtain ⟨i0, hi, hz0, hz1, hz2⟩ := info_of Tryd.infoIntN
  have hn : ∀ (j : Nat) (u : Value), [Value.int .i64 a][j]? = some u → w.cell? ((⟨X, 0, none⟩ : Addr).add j) = some u := fun j u hu => by
    have hj := (List.getElem?_eq_some_iff.1 hu).1
    have : j = 0 := by simpa using hj
    subst this
    rw [rlit]
    simp at hu
    rw [← hu]
    exact hX
  obtain ⟨v', w', hr, hown', hgr, _, hat⟩ := run_append_own_at (P := Tryd.prog) w N t ty 3 i0 (.int .i64 0) 1 8 ht hi hz0 hz1 hz2 rfl (by decide) v l.length (numC l) hv ⟨X, 0, none⟩ 1 1 [.int .i64 a] rfl hn (fun u hu => by rw [List.mem_singleton.1 hu]; rfl) (by unfold maxLen; omega) (by omega) hN
  refine ⟨v', w', hr, ?_, ⟨hgr.os, hgr.tape, hgr.output, hgr.size, fun k hk hne => hgr.block k hk fun e => hne e.symm⟩, fun k e => ?_⟩
  · unfold OwnI numC
    rw [List.length_append, List.map_append]
    exact hown'
  · rcases hat with hat | hat
    · exact .inl (hat ▸ e)
    · rw [hat] at e; cases e; exact .inr rfl

/-! ### States -/
def staC (s : Sta) : List Value := [.int .i64 (s.kind : Int), .int .u64 (s.set.1 : Int), .int .u64 (s.set.2.1 : Int), .int .u64 (s.set.2.2.1 : Int), .int .u64 (s.set.2.2.2 : Int), .int .i64 (s.next : Int), .int .i64 (s.also : Int), .int .i64 (s.rule : Int)]
def stasC : List Sta → List Value
  | [] => []
  | s :: q => staC s ++ stasC q
theorem stasC_len : ∀ q, (stasC q).length = q.length * 8
  | [] => rfl
  | s :: q => by rw [stasC, List.length_append, stasC_len q, List.length_cons]; show 8 + _ = _; omega
theorem stasC_app : ∀ q r, stasC (q ++ r) = stasC q ++ stasC r
  | [], r => rfl
  | s :: q, r => by rw [List.cons_append, stasC, stasC, stasC_app q r, List.append_assoc]
theorem stasC_at : ∀ (q : List Sta) (i : Nat) (s : Sta), q[i]? = some s → ∀ j, j < 8 → (stasC q)[i * 8 + j]? = (staC s)[j]?
  | t :: q, 0, s, h, j, hj => by
    cases h
    rw [stasC, Nat.zero_mul, Nat.zero_add, List.getElem?_append_left (by show j < 8; exact hj)]
  | t :: q, i + 1, s, h, j, hj => by
    rw [stasC, List.getElem?_append_right (by show 8 ≤ _; omega), show (i + 1) * 8 + j - (staC t).length = i * 8 + j from by show (i + 1) * 8 + j - 8 = _; omega]
    exact stasC_at q i s h j hj
theorem stasC_one : ∀ (q : List Sta) (x : Value), x ∈ stasC q → x.oneCell' = true
  | s :: q, x, h => by
    rw [stasC, List.mem_append] at h
    rcases h with h | h
    · simp only [staC, List.mem_cons, List.not_mem_nil, or_false] at h
      rcases h with rfl | rfl | rfl | rfl | rfl | rfl | rfl | rfl <;> rfl
    · exact stasC_one q x h
theorem stasC_also : ∀ (q : List Sta) (i v : Nat), i < q.length → stasC (alsoS q i v) = (stasC q).set (i * 8 + 6) (.int .i64 (v : Int))
  | s :: q, 0, v, _ => rfl
  | s :: q, i + 1, v, h => by
    rw [alsoS, stasC, stasC, stasC_also q i v (by simpa using h)]
    rw [List.set_append_right _ _ (by show 8 ≤ _; omega)]
    congr 2
    show i * 8 + 6 = (i + 1) * 8 + 6 - 8
    omega
def OwnS (w : World) (v : Value) (q : List Sta) : Prop := w.ownsRow 0 86 8 v q.length (stasC q)
theorem OwnS.nil (w : World) : OwnS w (.slice none 0 0) [] := World.ownsRow_nil _ _ _ _
theorem run_snocS {w : World} {v : Value} {q : List Sta} {X : Nat} {s : Sta} (t ty : TypeId) (ht : Tryd.prog.underlying t = some (.slice 86)) (hv : OwnS w v q) (hX : ∀ (j : Nat) x, (staC s)[j]? = some x → w.cell? ⟨X, j, none⟩ = some x) (hs : q.length ≤ 100000) :
    ∃ v' w', (Builtin.append_ #[t, t] ty #[v, .slice (some ⟨X, 0, none⟩) 1 1]).run Tryd.prog w = .ok v' w' ∧ OwnS w' v' (q ++ [s]) ∧ KeepW (fun k => v.ownBlock ≠ some k) w w' ∧ ∀ k, v'.ownBlock = some k → v.ownBlock = some k ∨ k = w.heap.size := by
  obtain ⟨i0, hi, hz0, hz1, hz2⟩ := info_of Tryd.infoSta
  obtain ⟨v', w', hr, hown', hgr, _, hat⟩ := run_append_own_at (P := Tryd.prog) w 0 t ty 86 i0 zeroSta 8 64 ht hi hz0 hz1 hz2 rfl (by decide) v q.length (stasC q) hv ⟨X, 0, none⟩ 1 1 (staC s) rfl (fun j x hx => by rw [rlit, Nat.zero_add]; exact hX j x hx) (fun x hx => stasC_one [s] x (by rw [stasC, stasC, List.append_nil]; exact hx)) (by unfold maxLen; omega) (by omega) (Nat.zero_le _)
  refine ⟨v', w', hr, ?_, ⟨hgr.os, hgr.tape, hgr.output, hgr.size, fun k hk hne => hgr.block k hk fun e => hne e.symm⟩, fun k e => ?_⟩
  · unfold OwnS
    rw [List.length_append, stasC_app]
    show w'.ownsRow 0 _ 8 v' _ (stasC q ++ (staC s ++ []))
    rw [List.append_nil]
    exact hown'
  · rcases hat with hat | hat
    · exact .inl (hat ▸ e)
    · rw [hat] at e; cases e; exact .inr rfl

/-! ### An NFA's box -/
def boxF (w : World) (B : Nat) (sv fv : Value) : Prop := w.heap[B]? = some (.cells #[sv, fv] 54 (0, 0))
section
variable {w w' : World} {B : Nat} {sv fv : Value}
theorem boxF.lt (h : boxF w B sv fv) : B < w.heap.size := (Array.getElem?_eq_some_iff.1 h).1
theorem boxF.cells (h : boxF w B sv fv) : (w.cell? ⟨B, 0, none⟩ = some sv ∧ w.cell? ⟨B, 1, none⟩ = some fv) ∧ w.frozen? ⟨B, 0, none⟩ = false ∧ w.frozen? ⟨B, 1, none⟩ = false := by
  unfold boxF at h
  refine ⟨⟨?_, ?_⟩, ?_, ?_⟩ <;> first | (unfold World.cell?; rw [h]; rfl) | (unfold World.frozen?; rw [h]; simp)
theorem boxF.keep {ok : Nat → Prop} (h : boxF w B sv fv) (hk : KeepW ok w w') (ho : ok B) : boxF w' B sv fv := (hk.same B h.lt ho).trans h
theorem boxF.set0 (h : boxF w B sv fv) (v : Value) : boxF (w.setCell ⟨B, 0, none⟩ v) B v fv := by
  unfold boxF at h ⊢
  unfold World.setCell
  simp only [Array.getElem?_modify, if_true, h, Option.map_some]
  rfl
theorem boxF.set1 (h : boxF w B sv fv) (v : Value) : boxF (w.setCell ⟨B, 1, none⟩ v) B sv v := by
  unfold boxF at h ⊢
  unfold World.setCell
  simp only [Array.getElem?_modify, if_true, h, Option.map_some]
  rfl
end
/-- An NFA that is built: what is P stays as it is meanwhile. -/
def NfaB (P : Nat → Prop) (w : World) (B : Nat) (q : List Sta) (first : List Int) : Prop :=
  ∃ sv fv, boxF w B sv fv ∧ OwnS w sv q ∧ OwnI 0 w fv first ∧ ¬ P B ∧ (∀ k, sv.ownBlock = some k → ¬ P k ∧ k ≠ B ∧ fv.ownBlock ≠ some k) ∧ ∀ k, fv.ownBlock = some k → ¬ P k ∧ k ≠ B
theorem NfaB.mono {P P' : Nat → Prop} {w : World} {B : Nat} {q : List Sta} {first : List Int} (h : NfaB P w B q first) (hm : ∀ k, P' k → P k) : NfaB P' w B q first := by
  obtain ⟨sv, fv, h1, h2, h3, h4, h5, h6⟩ := h
  exact ⟨sv, fv, h1, h2, h3, fun x => h4 (hm _ x), fun k e => ⟨fun x => (h5 k e).1 (hm _ x), (h5 k e).2⟩, fun k e => ⟨fun x => (h6 k e).1 (hm _ x), (h6 k e).2⟩⟩
theorem NfaB.under {P : Nat → Prop} {w w' : World} {B : Nat} {q : List Sta} {first : List Int} (h : NfaB P w B q first) (hb : Below w.heap.size w w') : NfaB P w' B q first := by
  obtain ⟨sv, fv, h1, h2, h3, h4⟩ := h
  exact ⟨sv, fv, h1.keep (keep_below (fun _ => True) hb) trivial, ownRow_keep h2 (keep_below (fun _ => True) hb) fun _ _ => trivial, h3.below hb, h4⟩
theorem NfaB.lt {P : Nat → Prop} {w : World} {B : Nat} {q : List Sta} {first : List Int} (h : NfaB P w B q first) : B < w.heap.size := by
  obtain ⟨sv, fv, h1, _⟩ := h
  exact h1.lt
/-- A block more is to stay: one that is made behind. -/
theorem NfaB.also {P : Nat → Prop} {w w' : World} {B : Nat} {q : List Sta} {first : List Int} (h : NfaB P w B q first) (hb : Below w.heap.size w w') : NfaB (fun k => P k ∨ k = w.heap.size) w' B q first := by
  have hlt := h.lt
  obtain ⟨sv, fv, h1, h2, h3, h4, h5, h6⟩ := h
  have l2 := World.ownsRow.lt h2
  have l3 := World.ownsRow.lt h3
  refine ⟨sv, fv, h1.keep (keep_below (fun _ => True) hb) trivial, ownRow_keep h2 (keep_below (fun _ => True) hb) fun _ _ => trivial, h3.below hb, fun x => x.elim h4 fun e => by omega, fun k e => ⟨fun x => x.elim (h5 k e).1 fun e2 => ?_, (h5 k e).2⟩, fun k e => ⟨fun x => x.elim (h6 k e).1 fun e2 => ?_, (h6 k e).2⟩⟩
  · have := l2 k e; omega
  · have := l3 k e; omega
/-- An NFA that is read. -/
structure NfaR (w : World) (v : Value) (q : List Sta) (first : List Int) : Prop where
  few : q.length ≤ 100000
  firsts : first.length ≤ 1000
  at_ : ∃ B sv fv, v = .pointer (some ⟨B, 0, none⟩) ∧ w.cell? ⟨B, 0, none⟩ = some sv ∧ w.cell? ⟨B, 1, none⟩ = some fv ∧ RowZ (fun _ => True) w sv q.length (stasC q) ∧ IntsW w fv first
theorem NfaR.below {w w' : World} {v : Value} {q : List Sta} {first : List Int} (h : NfaR w v q first) (hb : Below w.heap.size w w') : NfaR w' v q first := by
  obtain ⟨h0, h1, B, sv, fv, hv, c0, c1, hs, hf⟩ := h
  have hk := keep_below (fun _ => True) hb
  exact ⟨h0, h1, B, sv, fv, hv, hk.cell c0 trivial, hk.cell c1 trivial, hs.keep hk fun _ _ h => h, hf.below hb⟩
theorem NfaB.read {P : Nat → Prop} {w : World} {B : Nat} {q : List Sta} {first : List Int} (h : NfaB P w B q first) (h1 : q.length ≤ 100000) (h2 : first.length ≤ 1000) : NfaR w (.pointer (some ⟨B, 0, none⟩)) q first := by
  obtain ⟨sv, fv, hb, hs, hf, _⟩ := h
  exact ⟨h1, h2, B, sv, fv, rfl, hb.cells.1.1, hb.cells.1.2, (ownZ hs).mono fun _ _ _ => trivial, hf.ints (by omega)⟩
theorem NfaR.sta {w : World} {v : Value} {q : List Sta} {first : List Int} {i : Nat} {s : Sta} (h : NfaR w v q first) (hi : q[i]? = some s) :
    ∃ B g o cap, v = .pointer (some ⟨B, 0, none⟩) ∧ w.cell? ⟨B, 0, none⟩ = some (.slice (some ⟨g, o, none⟩) q.length cap) ∧ q.length ≤ cap ∧ ∀ (j : Nat) x, j < 8 → (staC s)[j]? = some x → w.cell? ⟨g, o + (i * 8 + j), none⟩ = some x := by
  obtain ⟨_, _, B, sv, fv, hv, c0, _, ⟨ao, cap, rfl, hn, hc⟩, _⟩ := h
  obtain ⟨g, o, rfl, _⟩ := hc (i * 8 + 0) _ (by rw [stasC_at q i s hi 0 (by decide)]; rfl)
  refine ⟨B, g, o, cap, hv, c0, hn, fun j x hj hx => ?_⟩
  obtain ⟨g', o', e, _, hg⟩ := hc (i * 8 + j) x (by rw [stasC_at q i s hi j hj]; exact hx)
  cases e
  exact hg
theorem NfaR.form {w : World} {v : Value} {q : List Sta} {first : List Int} (h : NfaR w v q first) :
    ∃ B ao cap fo fc, v = .pointer (some ⟨B, 0, none⟩) ∧ w.cell? ⟨B, 0, none⟩ = some (.slice ao q.length cap) ∧ q.length ≤ cap ∧ w.cell? ⟨B, 1, none⟩ = some (.slice fo first.length fc) ∧ first.length ≤ fc ∧ IntsW w (.slice fo first.length fc) first := by
  obtain ⟨_, _, B, sv, fv, hv, c0, c1, ⟨ao, cap, rfl, hn, hc⟩, hf⟩ := h
  obtain ⟨fo, fc, rfl, hfc⟩ := hf.form
  exact ⟨B, ao, cap, fo, fc, hv, c0, hn, c1, hfc, hf⟩
end Go.Proofs.YtkopbngnhgdfhaaDoor

/-
  nfas.NFA.is: what it returns.
-/
namespace Go.Proofs.YtkopbngnhgdfhaaDoor
open Go.RowKit

def isP (q : List Sta) (a : Int) (k : Nat) : Bool := match lookS q a with
  | none => false
  | some s => s.kind == k
theorem look_some {q : List Sta} {a : Int} {s : Sta} (h : lookS q a = some s) : 0 ≤ a ∧ a < q.length ∧ q[a.toNat]? = some s := by
  unfold lookS at h
  split at h
  · have := (List.getElem?_eq_some_iff.1 h).1
    exact ⟨by assumption, by omega, h⟩
  · cases h
theorem look_none {q : List Sta} {a : Int} (h : lookS q a = none) : ¬ 0 ≤ a ∨ 0 ≤ a ∧ ¬ a < q.length := by
  unfold lookS at h
  split at h
  · have := List.getElem?_eq_none_iff.1 h
    exact .inr ⟨by assumption, by omega⟩
  · exact .inl (by assumption)
theorem nis_nil (a k : Int) (w : World) : Calls Tryd.prog 44 #[.pointer none, .int .i64 a, .int .i64 k] w fun e w' => e = .returned (.bool false) ∧ w' = w := by
  go_enter Tryd.func44, Tryd.ntmps44
  go_wp2_with fail
  go_ret
  exact ⟨rfl, rfl⟩
section
variable {w : World} {v : Value} {q : List Sta} {first : List Int} {s : Sta} {a : Int}
theorem nis_out (h : NfaR w v q first) (k : Int) (hs : lookS q a = none) : Calls Tryd.prog 44 #[v, .int .i64 a, .int .i64 k] w fun e w' => e = .returned (.bool false) ∧ w' = w := by
  obtain ⟨B, ao, cap, fo, fc, rfl, c0, hn, _, _, _⟩ := h.form
  rcases look_none hs with h0 | ⟨h0, h1⟩
  · clear h hs
    go_enter Tryd.func44, Tryd.ntmps44
    go_wp2_with fail
    go_ret
    exact ⟨rfl, rfl⟩
  · clear h hs
    go_enter Tryd.func44, Tryd.ntmps44
    go_wp2_with fail
    go_ret
    exact ⟨rfl, rfl⟩
theorem nis_in (h : NfaR w v q first) (k : Nat) (hs : lookS q a = some s) : Calls Tryd.prog 44 #[v, .int .i64 a, .int .i64 (k : Int)] w fun e w' => e = .returned (.bool (s.kind == k)) ∧ w' = w := by
  obtain ⟨h0, h1, h2⟩ := look_some hs
  obtain ⟨B, g, o, cap, rfl, c0, hn, hc⟩ := h.sta h2
  have c1 := hc 0 _ (by decide) rfl
  obtain ⟨b, hb⟩ : ∃ b, (s.kind == k) = b := ⟨_, rfl⟩
  have hb2 : ((s.kind : Int) == (k : Int)) = b := by
    rw [← hb, Bool.eq_iff_iff, beq_iff_eq, beq_iff_eq]
    constructor <;> intro h <;> omega
  obtain ⟨kk, hkk⟩ : ∃ kk : Int, (s.kind : Int) = kk := ⟨_, rfl⟩
  obtain ⟨kj, hkj⟩ : ∃ kj : Int, (k : Int) = kj := ⟨_, rfl⟩
  rw [hkk] at hb2 c1
  rw [hkj] at hb2
  rw [hb, hkj]
  have e1 : o + (a.toNat * 8 + 0) = o + a.toNat * 8 := rfl
  rw [e1] at c1
  clear h hs h2 hc hb hkk hkj e1
  go_enter Tryd.func44, Tryd.ntmps44
  go_wp2_with fail
  go_ret
  exact ⟨rfl, rfl⟩
theorem nis_any (h : NfaR w v q first) (a : Int) (k : Nat) : Calls Tryd.prog 44 #[v, .int .i64 a, .int .i64 (k : Int)] w fun e w' => e = .returned (.bool (isP q a k)) ∧ w' = w := by
  unfold isP
  rcases hs : lookS q a with _ | s
  · exact nis_out h k hs
  · exact nis_in h k hs
end
end Go.Proofs.YtkopbngnhgdfhaaDoor

/-
  A text's bytes as numbers: what stands from a place on. No call is walked here.
-/
namespace Go.Proofs.YtkopbngnhgdfhaaDoor

def bR (s : ByteArray) (i : Nat) : Nat := (s.get! i).toNat
theorem bR_lt (s : ByteArray) (i : Nat) : bR s i < 256 := UInt8.toNat_lt _
theorem getR (s : ByteArray) (k : Nat) (h : k < s.size) : (s[k].toNat : Int) = (bR s k : Int) := by
  unfold bR
  rw [show s.get! k = s[k] from getElem!_pos s.data k h]
def bytesR (s : ByteArray) : List Nat := s.data.toList.map UInt8.toNat
theorem bytesR_len (s : ByteArray) : (bytesR s).length = s.size := by unfold bytesR; rw [List.length_map]; rfl
theorem bytesR_at (s : ByteArray) (k : Nat) (h : k < s.size) : (bytesR s)[k]? = some (bR s k) := by
  unfold bytesR bR
  rw [List.getElem?_map, show s.data.toList[k]? = some s[k] from List.getElem?_eq_getElem h, show s.get! k = s[k] from getElem!_pos s.data k h]
  rfl
def restR (s : ByteArray) (i : Nat) : List Nat := (bytesR s).drop i
theorem rest_len (s : ByteArray) (i : Nat) : (restR s i).length = s.size - i := by unfold restR; rw [List.length_drop, bytesR_len]
theorem rest_nil (s : ByteArray) (i : Nat) (h : s.size ≤ i) : restR s i = [] := List.eq_nil_of_length_eq_zero (by rw [rest_len]; omega)
theorem rest_cons (s : ByteArray) (i : Nat) (h : i < s.size) : restR s i = bR s i :: restR s (i + 1) := by
  unfold restR
  rw [List.drop_eq_getElem_cons (by rw [bytesR_len]; exact h)]
  congr 1
  have := bytesR_at s i h
  rw [List.getElem?_eq_getElem (by rw [bytesR_len]; exact h)] at this
  exact Option.some.inj this
theorem rest_lt (s : ByteArray) (i : Nat) : ∀ x, x ∈ restR s i → x < 256 := fun x hx => by
  have h1 := List.mem_of_mem_drop hx
  unfold bytesR at h1
  obtain ⟨y, _, rfl⟩ := List.mem_map.1 h1
  exact UInt8.toNat_lt _
/-- A rest of a rest is a rest. -/
theorem rest_of (s : ByteArray) (i : Nat) {r : List Nat} (h : ∃ k, r = (restR s i).drop k) : r = restR s (s.size - r.length) := by
  obtain ⟨k, rfl⟩ := h
  unfold restR
  rw [List.drop_drop, List.length_drop, bytesR_len]
  by_cases hk : i + k ≤ s.size
  · congr 1; omega
  · rw [List.drop_eq_nil_of_le (by rw [bytesR_len]; omega), List.drop_eq_nil_of_le (by rw [bytesR_len]; omega)]
theorem rest_zero (s : ByteArray) : restR s 0 = bytesR s := rfl
/-- A text put together out of numbers. -/
def strR (l : List Nat) : ByteArray := ⟨(l.map UInt8.ofNat).toArray⟩
theorem strR_app (a b : List Nat) : strR (a ++ b) = strR a ++ strR b := by
  apply ByteArray.ext
  simp [strR]
theorem strR_size (l : List Nat) : (strR l).size = l.length := by
  show ((l.map UInt8.ofNat).toArray).size = _
  simp
theorem strR_bytes (l : List Nat) (h : ∀ x, x ∈ l → x < 256) : bytesR (strR l) = l := by
  unfold bytesR strR
  show ((l.map UInt8.ofNat).toArray.toList).map UInt8.toNat = l
  rw [List.toList_toArray, List.map_map]
  conv => rhs; rw [← List.map_id l]
  exact List.map_congr_left fun x hx => by
    have := h x hx
    show (UInt8.ofNat x).toNat = x
    simp [UInt8.toNat_ofNat']
    omega
theorem strR_back (s : ByteArray) : strR (bytesR s) = s := by
  apply ByteArray.ext
  unfold strR bytesR
  show ((s.data.toList.map UInt8.toNat).map UInt8.ofNat).toArray = s.data
  rw [List.map_map, show (UInt8.ofNat ∘ UInt8.toNat) = id from funext fun x => UInt8.ofNat_toNat, List.map_id]
end Go.Proofs.YtkopbngnhgdfhaaDoor
