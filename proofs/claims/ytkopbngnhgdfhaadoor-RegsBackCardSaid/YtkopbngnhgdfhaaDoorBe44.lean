/-
  regs.Same's work list: a row of pairs of the call's own, each pair one tree twice; regs.alike of one tree twice.
-/
import Derived.WalkSmall
import Derived.Test.YtkopbngnhgdfhaaDoorBe22
import Derived.Test.YtkopbngnhgdfhaaDoorBe35
namespace Go.Proofs.YtkopbngnhgdfhaaDoor
open Go.RowKit

set_option maxRecDepth 100000 in
set_option maxHeartbeats 4000000 in
theorem palike_eq {ok ok' : Nat → Prop} (n : Nd) (u v : Value) (w : World) (hu : KidsW ok w n.kids u) (hv : KidsW ok' w n.kids v) :
    Calls Tryd.prog 26 #[nodeV n u, nodeV n v] w fun e w' => e = .returned (.bool true) ∧ Below w.heap.size w w' := by
  obtain ⟨uo, uc, rfl, _⟩ := hu.form
  obtain ⟨vo, vc, rfl, _⟩ := hv.form
  have HB : Hid (∀ o p, Below w.heap.size w ((w.alloc o).alloc p)) := fun o p => ((Below.refl _ w).alloc (Nat.le_refl _) o).alloc (by rw [alloc_size]; omega) p
  have heq := fun W => set_eqIn n.set n.set W
  simp only [decide_true] at heq
  unfold setV at heq
  have b1 : (n.kind == n.kind) = true := beq_self_eq_true _
  obtain ⟨m, hm⟩ : ∃ m, n.kids.length = m := ⟨_, rfl⟩
  have b2 : ((m : Int) == (m : Int)) = true := beq_self_eq_true _
  unfold nodeV
  rw [hm]
  clear hm hu hv
  go_enter Tryd.func26, Tryd.ntmps26
  go_wp2_with fail
  go_ret
  exact ⟨rfl, HB.out _ _⟩

/-- The cells of a row of pairs, the last one first in the list. -/
def prC : List Nd → List Value → List Value → List Value
  | c :: l, u :: us, v :: vs => prC l us vs ++ (nodeC c u ++ nodeC c v)
  | _, _, _ => []
/-- The pairs' kids. -/
def PrK (w : World) (N : Nat) : List Nd → List Value → List Value → Prop
  | [], [], [] => True
  | c :: l, u :: us, v :: vs => (OkR c.set ∧ KidsF (fun k => k < N) w c.kids u ∧ KidsF (fun k => k < N) w c.kids v) ∧ PrK w N l us vs
  | _, _, _ => False
theorem prC_len (w : World) (N : Nat) : ∀ (l : List Nd) (us vs : List Value), PrK w N l us vs → (prC l us vs).length = l.length * 12
  | [], [], [], _ => rfl
  | c :: l, u :: us, v :: vs, h => by
    rw [prC, List.length_append, prC_len w N l us vs h.2, List.length_cons]
    show l.length * 12 + 12 = _
    omega
theorem PrK.keep {ok : Nat → Prop} {w w' : World} {N : Nat} (hk : KeepW ok w w') (ho : ∀ k, k < N → ok k) : ∀ (l : List Nd) (us vs : List Value), PrK w N l us vs → PrK w' N l us vs
  | [], [], [], _ => trivial
  | _ :: l, _ :: us, _ :: vs, h => ⟨⟨h.1.1, h.1.2.1.keep hk (fun k _ hk => ho k hk), h.1.2.2.keep hk (fun k _ hk => ho k hk)⟩, PrK.keep hk ho l us vs h.2⟩
def PrW (N : Nat) (w : World) (x : Value) (l : List Nd) : Prop := ∃ us vs, PrK w N l us vs ∧ w.ownsRow (N + 3) 64 12 x l.length (prC l us vs)
theorem PrW.form {N : Nat} {w : World} {x : Value} {l : List Nd} (h : PrW N w x l) : ∃ ao cap, x = .slice ao l.length cap := by
  obtain ⟨us, vs, _, _, h2⟩ := h
  rcases h2 with ⟨rfl, h0⟩ | ⟨g, cap, cur, rfl, _⟩
  · exact ⟨none, 0, by rw [h0]⟩
  · exact ⟨_, cap, rfl⟩
theorem PrW.keep {N : Nat} {ok : Nat → Prop} {w w' : World} {x : Value} {l : List Nd} (h : PrW N w x l) (hk : KeepW ok w w') (ho : ∀ k, k ≠ N + 2 → ok k) : PrW N w' x l := by
  obtain ⟨us, vs, h0, h1, h2⟩ := h
  refine ⟨us, vs, h0.keep hk (fun k h => ho k (by omega)), h1, ?_⟩
  rcases h2 with h2 | ⟨g, cap, cur, rfl, h4, h5, h6⟩
  · exact .inl h2
  · exact .inr ⟨g, cap, cur, rfl, h4, (hk.same g (Array.getElem?_eq_some_iff.1 h5).1 (ho g (by omega))).trans h5, h6⟩
theorem PrW.below {N : Nat} {w w' : World} {x : Value} {l : List Nd} (h : PrW N w x l) (hb : Below w.heap.size w w') : PrW N w' x l := h.keep (keep_below (fun _ => True) hb) fun _ _ => trivial
theorem pr_one {ok : Nat → Prop} {w : World} {c : Nd} {u v : Value} (hu : KidsF ok w c.kids u) (hv : KidsF ok w c.kids v) : ∀ x, x ∈ nodeC c u ++ nodeC c v → x.oneCell' = true := fun x hx => by
  rcases List.mem_append.1 hx with hx | hx
  · exact nodesC_mem [c] [u] (fun y hy => by rw [List.mem_singleton.1 hy]; exact kids_one hu.W) x (by show x ∈ nodeC c u ++ []; rw [List.append_nil]; exact hx)
  · exact nodesC_mem [c] [v] (fun y hy => by rw [List.mem_singleton.1 hy]; exact kids_one hv.W) x (by show x ∈ nodeC c v ++ []; rw [List.append_nil]; exact hx)
/-- The last pair: where it stands; the row without it. -/
theorem PrW.pop {N : Nat} {w : World} {x : Value} {c : Nd} {l : List Nd} (h : PrW N w x (c :: l)) :
    ∃ g cap u v, x = .slice (some ⟨g, 0, none⟩) (l.length + 1) cap ∧ l.length + 1 ≤ cap ∧ OkR c.set ∧ KidsF (fun k => k < N) w c.kids u ∧ KidsF (fun k => k < N) w c.kids v ∧
      (∀ (j : Nat) y, (nodeC c u ++ nodeC c v)[j]? = some y → w.cell? ⟨g, l.length * 12 + j, none⟩ = some y) ∧ PrW N w (.slice (some ⟨g, 0, none⟩) l.length cap) l := by
  obtain ⟨us, vs, h0, hr⟩ := h
  match us, vs, h0, hr with
  | u :: us, v :: vs, h0, hr =>
    have hl := prC_len w N l us vs h0.2
    have hr0 := hr
    obtain ⟨h1, h2⟩ := hr
    rcases h2 with ⟨_, h2⟩ | ⟨g, cap, cur, rfl, h4, h5, h6, h7⟩
    · cases h2
    · refine ⟨g, cap, u, v, rfl, h6, h0.1.1, h0.1.2.1, h0.1.2.2, fun j y hy => ?_, us, vs, h0.2, ?_⟩
      · have hc := World.ownsRow.cells hr0 (g := g) rfl (l.length * 12 + j) y (by rw [prC, List.getElem?_append_right (by omega), hl, show l.length * 12 + j - l.length * 12 = j by omega]; exact hy)
        rw [rlit, Nat.zero_add] at hc
        exact hc
      · exact ownsRow_pop (last := nodeC c u ++ nodeC c v) hl hr0
theorem Tryd.infoPair : (Tryd.prog.info? 64).map (fun i => (i.zero.map fun z => z.cells.size, i.size, i.bytes)) = some (some 12, 12, 128) := by kernel_rfl
theorem infoP2 : ∃ i z, Tryd.prog.info? 64 = some i ∧ i.zero = some z ∧ z.cells.size = 12 ∧ i.size = 12 ∧ i.bytes = 128 := by
  have h := Tryd.infoPair
  obtain ⟨i, hi⟩ : ∃ i, Tryd.prog.info? 64 = some i := by
    rcases hx : Tryd.prog.info? 64 with _ | i
    · rw [hx] at h; cases h
    · exact ⟨i, rfl⟩
  rw [hi] at h
  simp only [Option.map_some, Option.some.injEq, Prod.mk.injEq] at h
  obtain ⟨h1, h2, h3⟩ := h
  rcases hz : i.zero with _ | z
  · rw [hz] at h1; cases h1
  · rw [hz] at h1
    simp only [Option.map_some, Option.some.injEq] at h1
    exact ⟨i, z, hi, hz, h1, h2, h3⟩
/-- One pair more. -/
theorem PrW.push {N X : Nat} {w : World} {x u v : Value} {c : Nd} {l : List Nd} (h : PrW N w x l) (t ty : TypeId) (ht : Tryd.prog.underlying t = some (.slice 64))
    (hX : ∀ (j : Nat) y, (nodeC c u ++ nodeC c v)[j]? = some y → w.cell? ⟨X, j, none⟩ = some y) (hs : OkR c.set) (hu : KidsF (fun k => k < N) w c.kids u) (hv : KidsF (fun k => k < N) w c.kids v) (hN : N + 3 ≤ w.heap.size) (hl : l.length ≤ 100000) :
    ∃ x' w', (Builtin.append_ #[t, t] ty #[x, .slice (some ⟨X, 0, none⟩) 1 1]).run Tryd.prog w = .ok x' w' ∧ PrW N w' x' (c :: l) ∧ Below (N + 3) w w' := by
  obtain ⟨i0, z, hi, hz0, hzl, hz1, hz2⟩ := infoP2
  obtain ⟨us, vs, h0, h1⟩ := h
  obtain ⟨x', w', hr, hown', hgr, _, _⟩ := run_append_own_at (P := Tryd.prog) w (N + 3) t ty 64 i0 z 12 128 ht hi hz0 hz1 hz2 hzl (by decide) x l.length (prC l us vs) h1 ⟨X, 0, none⟩ 1 1 (nodeC c u ++ nodeC c v) rfl
    (fun j y hy => by rw [rlit, Nat.zero_add]; exact hX j y hy) (pr_one hu hv) (by unfold maxLen; omega) (by omega) hN
  have hb := (Below.refl (N + 3) w).grown hgr hN fun k hk => (World.ownsRow.lt h1 k hk).1
  have hk : KeepW (fun k => k < N + 3) w w' := ⟨hgr.os, hgr.tape, hgr.output, hgr.size, fun k _ hk => hb.block k hk⟩
  exact ⟨x', w', hr, ⟨u :: us, v :: vs, ⟨⟨hs, hu.keep hk (fun k _ h => by omega), hv.keep hk (fun k _ h => by omega)⟩, h0.keep hk (fun k h => by omega)⟩, hown'⟩, hb⟩
end Go.Proofs.YtkopbngnhgdfhaaDoor
