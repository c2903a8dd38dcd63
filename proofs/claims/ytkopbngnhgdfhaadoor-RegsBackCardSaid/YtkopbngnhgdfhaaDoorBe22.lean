/-
  Lists of kids that lie in one place are the same; append of a whole list onto a row of the call's own. No call is walked here.
-/
import Derived.Test.YtkopbngnhgdfhaaDoorBe20
import Derived.Test.YtkopbngnhgdfhaaDoorBe21
namespace Go.Proofs.YtkopbngnhgdfhaaDoor
open Go.RowKit

theorem node_inj {n m : Nd} (hk : n.kind = m.kind) (hs : n.set = m.set) (hl : n.kids = m.kids) : n = m := by
  cases n with
  | mk k s l => cases m with
    | mk k' s' l' =>
      simp only [Nd.kind, Nd.set, Nd.kids] at hk hs hl
      rw [hk, hs, hl]
/-- What lies in one place is one list. -/
theorem kids_det {ok : Nat → Prop} {w : World} {l1 : List Nd} {u1 : Value} (h1 : KidsW ok w l1 u1) : ∀ {ok' : Nat → Prop} {l2 : List Nd} {u2 : Value}, KidsW ok' w l2 u2 → kpK u1 = kpK u2 → l1 = l2 := by
  induction h1 with
  | mk l us v hb hlen hrow hs hkk ih =>
    intro ok' l2 u2 h2 hu
    have h1' : KidsW ok w l v := .mk l us v hb hlen hrow hs hkk
    obtain ⟨ao, c, hv, _⟩ := h1'.form
    obtain ⟨bo, d, hw, _⟩ := h2.form
    subst hv hw
    by_cases hz : l.length = 0
    · have e1 : kpK (.slice ao l.length c) = (none, 0) := if_pos hz
      rw [e1] at hu
      have hz2 : l2.length = 0 := by
        by_cases h : l2.length = 0
        · exact h
        · have e2 : kpK (.slice bo l2.length d) = (bo, l2.length) := if_neg h
          rw [e2] at hu
          have := congrArg Prod.snd hu
          simp only at this
          omega
      rw [List.eq_nil_of_length_eq_zero hz, List.eq_nil_of_length_eq_zero hz2]
    · have e1 : kpK (.slice ao l.length c) = (ao, l.length) := if_neg hz
      have hz2 : l2.length = l.length := by
        by_cases h : l2.length = 0
        · have e2 : kpK (.slice bo l2.length d) = (none, 0) := if_pos h
          rw [e1, e2] at hu
          have := congrArg Prod.snd hu
          simp only at this
          omega
        · have e2 : kpK (.slice bo l2.length d) = (bo, l2.length) := if_neg h
          rw [e1, e2] at hu
          exact (congrArg Prod.snd hu).symm
      have e2 : kpK (.slice bo l2.length d) = (bo, l2.length) := if_neg (by omega)
      rw [e1, e2] at hu
      have hao : ao = bo := congrArg Prod.fst hu
      apply List.ext_getElem hz2.symm
      intro i hi1 hi2
      have hu1 : ∃ x, us[i]? = some x := ⟨_, List.getElem?_eq_getElem (by rw [hlen]; exact hi1)⟩
      obtain ⟨x, hx⟩ := hu1
      have hn1 : l[i]? = some l[i] := List.getElem?_eq_getElem hi1
      obtain ⟨g, o, c', y, hy, _, hs2, hk2, hg⟩ := h2.at_ (i := i) (n := l2[i]) (List.getElem?_eq_getElem hi2)
      injection hy with ey1 _ _
      obtain ⟨ao', cap', he, _, hc⟩ := hrow
      injection he with ea1 _ _
      have hrowc : ∀ j z, j < 6 → (nodeC l[i] x)[j]? = some z → w.cell? ⟨g, o + (i * 6 + j), none⟩ = some z := fun j z hj hz => by
        obtain ⟨g', o', ha, _, hg'⟩ := hc (i * 6 + j) z (by rw [nodesC_get l us i _ x hn1 hx j hj]; exact hz)
        rw [← ea1, hao, ey1] at ha
        cases ha
        exact hg'
      have q : ∀ j, j < 6 → ∀ a b, (nodeC l[i] x)[j]? = some a → (nodeC l2[i] y)[j]? = some b → a = b := fun j hj a b ha hb => by
        have h1 := hrowc j a hj ha
        have h2 := hg j b hj hb
        rw [h1] at h2
        exact Option.some.inj h2
      have q0 := q 0 (by decide) _ _ rfl rfl
      have q1 := q 1 (by decide) _ _ rfl rfl
      have q2 := q 2 (by decide) _ _ rfl rfl
      have q3 := q 3 (by decide) _ _ rfl rfl
      have q4 := q 4 (by decide) _ _ rfl rfl
      have q5 := q 5 (by decide) _ _ rfl rfl
      injection q0 with _ q0
      injection q1 with _ q1
      injection q2 with _ q2
      injection q3 with _ q3
      injection q4 with _ q4
      have hset : l[i].set = l2[i].set := Prod.ext (by omega) (Prod.ext (by omega) (Prod.ext (by omega) (by omega)))
      have hkids : l[i].kids = l2[i].kids := ih i l[i] x hn1 hx hk2 (by rw [q5])
      exact node_inj q0 hset hkids
/-- Append of nothing. -/
theorem run_append_empty (t ty T : TypeId) (ht : Tryd.prog.underlying t = some (.slice T)) (i : TypeInfo) (hi : Tryd.prog.info? T = some i) (w : World) (ao bo : Option Addr) (n cap c : Nat) (hn : n ≤ cap) :
    (Builtin.append_ #[t, t] ty #[.slice ao n cap, .slice bo 0 c]).run Tryd.prog w = .ok (.slice ao n cap) w := by
  have hld : ∀ a, (loadCells a 0).run Tryd.prog w = .ok #[] w := fun a => run_loadCells_list (P := Tryd.prog) w a [] (fun j v h => by simp at h)
  have hst : ∀ a, (storeCells a []).run Tryd.prog w = .ok () w := fun a => by rw [storeCells]; rfl
  unfold Builtin.append_
  cases ao <;> cases bo <;> simp [run_underlying ht, sizeOf, typeInfo, hi, Builtin.lenOf, hn, Builtin.firstCells, hld, hst]
/-- A row of the call's own, of nodes whose kids are older. -/
def OutG (T : TypeId) (N : Nat) (w : World) (v : Value) (l : List Nd) : Prop := OutP T (N + 1) (fun k => k < N ∧ FrZ w k) w v l
theorem OutG.nil (T : TypeId) (N : Nat) (w : World) : OutG T N w (.slice none 0 0) [] := OutP.nil _ _ _ _
theorem OutG.lt {T : TypeId} {N : Nat} {w : World} {v : Value} {l : List Nd} (h : OutG T N w v l) : ∀ k, v.ownBlock = some k → N + 1 ≤ k ∧ k < w.heap.size := OutP.lt h
theorem OutG.form {T : TypeId} {N : Nat} {w : World} {v : Value} {l : List Nd} (h : OutG T N w v l) : ∃ ao cap, v = .slice ao l.length cap ∧ l.length ≤ cap := by
  obtain ⟨us, _, ⟨_, h2⟩, _⟩ := h
  rcases h2 with ⟨rfl, h0⟩ | ⟨g, cap, cur, rfl, _, _, hn, _⟩
  · exact ⟨none, 0, by rw [h0], by rw [h0]; exact Nat.le_refl _⟩
  · exact ⟨_, cap, rfl, hn⟩
theorem OutG.keep {T : TypeId} {N : Nat} {ok : Nat → Prop} {w w' : World} {v : Value} {l : List Nd} (h : OutG T N w v l) (hk : KeepW ok w w') (ho : ∀ k, k ≠ N → ok k) : OutG T N w' v l := by
  have h1 := OutP.keep h hk (fun k e => ho k (by have := (OutP.lt h k e).1; omega)) fun k _ hp => ho k (by omega)
  exact h1.mono fun k _ hp => ⟨hp.1, hp.2.keep hk (ho k (by omega))⟩
theorem OutG.below {T : TypeId} {N : Nat} {w w' : World} {v : Value} {l : List Nd} (h : OutG T N w v l) (hb : Below w.heap.size w w') : OutG T N w' v l := h.keep (keep_below (fun _ => True) hb) fun _ _ => trivial
theorem OutG.kids {T : TypeId} {N : Nat} {w : World} {v : Value} {l : List Nd} (h : OutG T N w v l) (hl : l.length ≤ 1000000) : KidsF (fun _ => True) w l v := by
  refine OutP.kids h hl (fun k hp => ⟨trivial, hp.2⟩) fun k e => ⟨trivial, ?_⟩
  obtain ⟨us, _, ⟨_, h2⟩, _⟩ := h
  rcases h2 with ⟨rfl, _⟩ | ⟨g, cap, cur, rfl, _, hg, _⟩
  · cases e
  · cases e
    exact ⟨cur, T, hg⟩
/-- A list of kids more. -/
theorem run_outG {T : TypeId} {N : Nat} {w : World} {v u : Value} {l m : List Nd} (t ty : TypeId) (i0 : TypeInfo) (z : Value) (ht : Tryd.prog.underlying t = some (.slice T)) (hi : Tryd.prog.info? T = some i0) (hz0 : i0.zero = some z) (hzl : z.cells.size = 6) (hz1 : i0.size = 6) (hz2 : i0.bytes = 64)
    (hv : OutG T N w v l) (hu : KidsF (fun k => k < N) w m u) (hN : N + 1 ≤ w.heap.size) (hl : l.length + m.length ≤ 100000) :
    ∃ v' w', (Builtin.append_ #[t, t] ty #[v, u]).run Tryd.prog w = .ok v' w' ∧ OutG T N w' v' (l ++ m) ∧ KeepW (fun k => v.ownBlock ≠ some k) w w' := by
  obtain ⟨bo, c, hub, hc, _⟩ := hu.form
  by_cases hm : m.length = 0
  · obtain ⟨ao, cap, hv2, hcap⟩ := hv.form
    rw [List.eq_nil_of_length_eq_zero hm] at hub
    rw [List.eq_nil_of_length_eq_zero hm, List.append_nil]
    refine ⟨v, w, ?_, hv, KeepW.refl _ _⟩
    rw [hub, hv2]
    exact run_append_empty t ty T ht i0 hi w ao bo l.length cap c hcap
  · obtain ⟨_, us2, _, hb2, hlen2, ⟨ao2, cap2, hv2, hn2, hc2⟩, hs2, hk2⟩ := hu
    obtain ⟨us, h1, h2, h3⟩ := hv
    have hx0 : ∃ x, us2[0]? = some x := ⟨_, List.getElem?_eq_getElem (by omega)⟩
    obtain ⟨x0, hx0⟩ := hx0
    have hm0 : m[0]? = some m[0] := List.getElem?_eq_getElem (by omega)
    obtain ⟨g, o, hao, hg0, _⟩ := hc2 (0 * 6 + 0) (.int .i64 m[0].kind) (by rw [nodesC_get m us2 0 _ x0 hm0 hx0 0 (by decide)]; rfl)
    have hone : ∀ x, x ∈ nodesC m us2 → x.oneCell' = true := fun x hx => nodesC_mem m us2 (fun y hy => by
      obtain ⟨j, hj, rfl⟩ := List.getElem_of_mem hy
      exact kids_one (hk2 j m[j] us2[j] (List.getElem?_eq_getElem (by omega)) (List.getElem?_eq_getElem hj))) x hx
    obtain ⟨v', w', hr, hown', hgr, _, hat⟩ := run_append_own_at (P := Tryd.prog) w (N + 1) t ty T i0 z 6 64 ht hi hz0 hz1 hz2 hzl (by decide) v l.length (nodesC l us) h2 ⟨g, o, none⟩ m.length cap2 (nodesC m us2) (nodesC_len m us2 hlen2) (fun j y hy => by
      obtain ⟨g', o', ha, _, hg'⟩ := hc2 j y hy
      rw [hao] at ha
      cases ha
      rw [rlit]
      exact hg') hone (by unfold maxLen; omega) (by omega) hN
    have hkeep : KeepW (fun k => v.ownBlock ≠ some k) w w' := ⟨hgr.os, hgr.tape, hgr.output, hgr.size, fun k hk hne => hgr.block k hk fun e => hne e.symm⟩
    have hlt : ∀ k, v.ownBlock = some k → N + 1 ≤ k := fun k e => (World.ownsRow.lt h2 k e).1
    have hlt' : ∀ k, v'.ownBlock = some k → N + 1 ≤ k := fun k e => (World.ownsRow.lt hown' k e).1
    have hup : ∀ {n : Nd} {x : Value}, KidsW (fun k => k < N ∧ FrZ w k) w n.kids x → KidsW (fun k => (k < N ∧ FrZ w' k) ∧ v'.ownBlock ≠ some k) w' n.kids x := fun {n x} hh => by
      have h6 := hh.keep hkeep fun k _ hp => fun e => by have := hlt k e; omega
      exact h6.mono fun k _ hp => ⟨⟨hp.1, hp.2.keep hkeep fun e => by have := hlt k e; omega⟩, fun e => by have := hlt' k e; omega⟩
    refine ⟨v', w', by rw [hv2, hao]; exact hr, ⟨us ++ us2, by simp [h1, hlen2], ?_, fun i n x hn hx => ?_⟩, hkeep⟩
    · rw [nodesC_app l m us us2 h1, List.length_append]
      exact hown'
    · by_cases hil : i < l.length
      · rw [List.getElem?_append_left hil] at hn
        rw [List.getElem?_append_left (by omega)] at hx
        obtain ⟨h4, h5⟩ := h3 i n x hn hx
        exact ⟨h4, hup (h5.mono fun k _ hp => hp.1)⟩
      · rw [List.getElem?_append_right (by omega)] at hn hx
        rw [h1] at hx
        exact ⟨hs2 _ n hn, hup (hk2 _ n x hn hx)⟩
end Go.Proofs.YtkopbngnhgdfhaaDoor
