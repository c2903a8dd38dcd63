/-
  Texts of this proof, one behind the other; each begins with its own remark.
-/
import Derived.Test.YtkopbngnhgdfhaaDoorBe6
import Derived.Test.YtkopbngnhgdfhaaDoorBe10
/-
  regs, plain: a set's bytes as spans that are as long as can be; that they tell the same text as the runs do. No call is walked here.
-/
namespace Go.Proofs.YtkopbngnhgdfhaaDoor

/-- The spans of the bytes below n, the last one first. -/
def spS (s : St4) : Nat → List (Nat × Nat)
  | 0 => []
  | n + 1 => if hasR s n = false then spS s n else match spS s n with
    | [] => [(n, n)]
    | (f, t) :: r => if t + 1 = n then (f, n) :: r else (n, n) :: (f, t) :: r
def spT (p : Nat × Nat) : List Nat := byteR p.1 ++ if p.1 < p.2 then 45 :: byteR p.2 else []
/-- The text of spans, the last one first. -/
def spsT : List (Nat × Nat) → List Nat
  | [] => []
  | p :: r => spsT r ++ spT p
def spZ : List (Nat × Nat) → Nat
  | [] => 0
  | p :: r => spZ r + (p.2 + 1 - p.1)
theorem runs_snoc (s : St4) : ∀ (n b : Nat), runsT s (n + 1) b = runsT s n b ++ runT s (b + n)
  | 0, b => by rw [runsT, runsT, runsT, List.append_nil, List.nil_append, Nat.add_zero]
  | n + 1, b => by rw [runsT, runs_snoc s n (b + 1), runsT, List.append_assoc, show b + 1 + n = b + (n + 1) by omega]
theorem last_is (s : St4) (f t : Nat) (ht : t < 256) (hf : f ≤ t) (hall : ∀ c, f ≤ c → c ≤ t → hasR s c = true) (hend : t = 255 ∨ hasR s (t + 1) = false) : lastR s f = t := by
  obtain ⟨h1, h2, h3, h4⟩ := last_spec s 256 f (by omega) (hall f (Nat.le_refl _) hf)
  have h5 := h4 (by omega)
  unfold lastR
  obtain ⟨x, hx⟩ : ∃ x, lastF s 256 f = x := ⟨_, rfl⟩
  rw [hx] at h1 h2 h3 h5 ⊢
  by_cases e1 : x < t
  · have := h5 (by omega)
    rw [hall (x + 1) (by omega) (by omega)] at this
    cases this
  · by_cases e2 : t < x
    · rcases hend with e | e
      · omega
      · rw [h3 (t + 1) (by omega) (by omega)] at e
        cases e
    · omega
/-- How the spans of the first n bytes are. -/
structure SpI (s : St4) (n : Nat) (l : List (Nat × Nat)) : Prop where
  mem : ∀ p, p ∈ l → p.1 ≤ p.2 ∧ p.2 < n ∧ hasR s p.1 = true
  cnt : cntR s n = spZ l
  nil : l = [] → (∀ c, c < n → hasR s c = false) ∧ runsT s n 0 = []
  cons : ∀ f t r, l = (f, t) :: r → (∀ c, f ≤ c → c ≤ t → hasR s c = true) ∧ (∀ c, t < c → c < n → hasR s c = false) ∧ runsT s n 0 = spsT r ++ spanT s f
theorem sp_inv (s : St4) : ∀ n, n ≤ 256 → SpI s n (spS s n)
  | 0, _ => ⟨(fun p hp => by cases hp), rfl, (fun _ => ⟨fun c hc => absurd hc (Nat.not_lt_zero _), rfl⟩), fun f t r h => by cases h⟩
  | n + 1, hn => by
    have ih := sp_inv s n (by omega)
    have hsn := runs_snoc s n 0
    rw [Nat.zero_add] at hsn
    rw [spS]
    rcases hb : hasR s n with _ | _
    · have hr : runT s n = [] := by unfold runT; rw [hb, if_neg (by rintro ⟨h, _⟩; cases h)]
      rw [if_pos rfl]
      rw [hr, List.append_nil] at hsn
      refine ⟨fun p hp => ⟨(ih.mem p hp).1, by have := (ih.mem p hp).2.1; omega, (ih.mem p hp).2.2⟩, ?_, fun h => ⟨fun c hc => ?_, by rw [hsn]; exact (ih.nil h).2⟩, fun f t r h => ⟨(ih.cons f t r h).1, fun c h1 h2 => ?_, by rw [hsn]; exact (ih.cons f t r h).2.2⟩⟩
      · rw [cntR, ih.cnt, hb, if_neg (by decide), Nat.add_zero]
      · by_cases e : c = n
        · rw [e]; exact hb
        · exact (ih.nil h).1 c (by omega)
      · by_cases e : c = n
        · rw [e]; exact hb
        · exact (ih.cons f t r h).2.1 c h1 (by omega)
    · rw [if_neg (by decide)]
      rcases hl : spS s n with _ | ⟨⟨f, t⟩, r⟩
      · rw [hl] at ih
        obtain ⟨h0, h1⟩ := ih.nil rfl
        have hr : runT s n = spanT s n := by
          unfold runT
          rw [hb, if_pos ⟨rfl, fun ⟨hp, hh⟩ => by rw [h0 (n - 1) (by omega)] at hh; cases hh⟩]
        rw [hr, h1, List.nil_append] at hsn
        refine ⟨fun p hp => ?_, ?_, (fun h => by cases h), fun f t r h => ?_⟩
        · rw [List.mem_singleton.1 hp]; exact ⟨Nat.le_refl _, Nat.lt_succ_self _, hb⟩
        · rw [cntR, ih.cnt, hb, if_pos rfl]
          show 0 + 1 = 0 + (n + 1 - n)
          omega
        · injection h with h2 h3
          injection h2 with h4 h5
          subst h4 h5 h3
          refine ⟨fun c hc1 hc2 => by rw [show c = n by omega]; exact hb, fun c hc1 hc2 => by omega, ?_⟩
          rw [hsn]; rfl
      · rw [hl] at ih
        obtain ⟨h1, h2, h3⟩ := ih.cons f t r rfl
        obtain ⟨hm1, hm2, hm3⟩ := ih.mem (f, t) (by simp)
        simp only at hm1 hm2 hm3
        dsimp only
        by_cases e : t + 1 = n
        · rw [if_pos e]
          have hr : runT s n = [] := by
            unfold runT
            rw [if_neg]
            rintro ⟨_, h⟩
            exact h ⟨by omega, h1 (n - 1) (by omega) (by omega)⟩
          rw [hr, List.append_nil] at hsn
          refine ⟨fun p hp => ?_, ?_, (fun h => by cases h), fun f' t' r' h => ?_⟩
          · rcases List.mem_cons.1 hp with hp | hp
            · rw [hp]; exact ⟨by show f ≤ n; omega, by show n < n + 1; omega, hm3⟩
            · have := ih.mem p (by simp [hp])
              exact ⟨this.1, by omega, this.2.2⟩
          · rw [cntR, ih.cnt, hb, if_pos rfl]
            show spZ r + (t + 1 - f) + 1 = spZ r + (n + 1 - f)
            omega
          · injection h with h4 h5
            injection h4 with h6 h7
            subst h6 h7 h5
            refine ⟨fun c hc1 hc2 => ?_, fun c hc1 hc2 => by omega, by rw [hsn]; exact h3⟩
            by_cases ec : c = n
            · rw [ec]; exact hb
            · exact h1 c hc1 (by omega)
        · rw [if_neg e]
          have hr : runT s n = spanT s n := by
            unfold runT
            rw [hb, if_pos ⟨rfl, fun ⟨hp, hh⟩ => by rw [h2 (n - 1) (by omega) (by omega)] at hh; cases hh⟩]
          have hlast := last_is s f t (by omega) hm1 h1 (.inr (h2 (t + 1) (by omega) (by omega)))
          rw [hr, h3] at hsn
          refine ⟨fun p hp => ?_, ?_, (fun h => by cases h), fun f' t' r' h => ?_⟩
          · rcases List.mem_cons.1 hp with hp | hp
            · rw [hp]; exact ⟨Nat.le_refl _, by show n < n + 1; omega, hb⟩
            · have := ih.mem p hp
              exact ⟨this.1, by omega, this.2.2⟩
          · rw [cntR, ih.cnt, hb, if_pos rfl]
            show spZ r + (t + 1 - f) + 1 = spZ r + (t + 1 - f) + (n + 1 - n)
            omega
          · injection h with h4 h5
            injection h4 with h6 h7
            subst h6 h7 h5
            refine ⟨fun c hc1 hc2 => by rw [show c = n by omega]; exact hb, fun c hc1 hc2 => by omega, ?_⟩
            rw [hsn]
            show _ = (spsT r ++ spT (f, t)) ++ _
            unfold spT spanT
            rw [hlast]
theorem sp_none (s : St4) : spS s 256 = [] → setT s = [91, 94, 92, 120, 48, 48, 45, 92, 120, 102, 102, 93] := fun h => by
  have hi := sp_inv s 256 (Nat.le_refl _)
  unfold setT
  rw [hi.cnt, h]
  rfl
theorem sp_text (s : St4) : runsT s 256 0 = spsT (spS s 256) := by
  have hi := sp_inv s 256 (Nat.le_refl _)
  rcases h : spS s 256 with _ | ⟨⟨f, t⟩, r⟩
  · exact (hi.nil h).2
  · obtain ⟨h1, h2, h3⟩ := hi.cons f t r h
    obtain ⟨hm1, hm2, hm3⟩ := hi.mem (f, t) (by rw [h]; simp)
    rw [h3]
    show _ = spsT r ++ spT (f, t)
    unfold spT spanT
    simp only at hm1 hm2
    rw [last_is s f t hm2 hm1 h1 (by
      by_cases e : t = 255
      · exact .inl e
      · exact .inr (h2 (t + 1) (by omega) (by omega)))]
theorem spZ_pos (s : St4) (n : Nat) (l : List (Nat × Nat)) (h : SpI s n l) : l.length ≤ spZ l ∧ ∀ p, p ∈ l → p.2 + 1 - p.1 ≤ spZ l := by
  have hm := h.mem
  clear h
  induction l with
  | nil => exact ⟨Nat.le_refl _, fun p hp => by cases hp⟩
  | cons p r ih =>
    obtain ⟨h1, h2⟩ := ih fun q hq => hm q (by simp [hq])
    have h3 := (hm p (by simp)).1
    rw [spZ, List.length_cons]
    refine ⟨by omega, fun q hq => ?_⟩
    rcases List.mem_cons.1 hq with rfl | hq
    · omega
    · have := h2 q hq; omega
/-- One byte alone. -/
theorem sp_one (s : St4) (f t : Nat) (h : spS s 256 = [(f, t)]) (he : f = t) : setT s = byteR f := by
  have hi := sp_inv s 256 (Nat.le_refl _)
  have hc := hi.cnt
  rw [h] at hc
  have hz : spZ [(f, t)] = 1 := by show 0 + (t + 1 - f) = 1; omega
  unfold setT
  rw [hc, hz, if_neg (by decide), if_pos rfl, sp_text, h]
  show [] ++ spT (f, t) = _
  unfold spT
  rw [if_neg (by show ¬ f < t; omega), List.append_nil, List.nil_append]
theorem sp_more (s : St4) (hne : spS s 256 ≠ []) (h : ∀ f t, spS s 256 = [(f, t)] → f ≠ t) : setT s = 91 :: (spsT (spS s 256) ++ [93]) := by
  have hi := sp_inv s 256 (Nat.le_refl _)
  have hc := hi.cnt
  unfold setT
  rw [sp_text]
  rcases hl : spS s 256 with _ | ⟨⟨f, t⟩, r⟩
  · exact absurd hl hne
  · rw [hl] at hc hi
    obtain ⟨hm1, _⟩ := hi.mem (f, t) (by simp)
    simp only at hm1
    have hz : 2 ≤ spZ ((f, t) :: r) := by
      cases r with
      | nil => have := h f t hl; show 2 ≤ 0 + (t + 1 - f); omega
      | cons p q => have := (spZ_pos s 256 _ hi).1; rw [List.length_cons, List.length_cons] at this; omega
    rw [hc, if_neg (by omega), if_neg (by omega)]
end Go.Proofs.YtkopbngnhgdfhaaDoor

/-
  Nodes whose kids lie in blocks without any frozen range: so two addresses of them are told apart. No call is walked here.
-/
namespace Go.Proofs.YtkopbngnhgdfhaaDoor
open Go.RowKit

/-- A block of cells of which none is frozen, nor what stands behind them. -/
def FrZ (w : World) (k : Nat) : Prop := ∃ c t, w.heap[k]? = some (.cells c t (0, 0))
theorem FrZ.lt {w : World} {k : Nat} (h : FrZ w k) : k < w.heap.size := by
  obtain ⟨c, t, h⟩ := h
  exact (Array.getElem?_eq_some_iff.1 h).1
theorem FrZ.keep {ok : Nat → Prop} {w w' : World} {k : Nat} (h : FrZ w k) (hk : KeepW ok w w') (ho : ok k) : FrZ w' k := by
  have hl := h.lt
  obtain ⟨c, t, h⟩ := h
  exact ⟨c, t, (hk.same k hl ho).trans h⟩
theorem FrZ.under {w w' : World} {k : Nat} (h : FrZ w k) (hb : Below w.heap.size w w') : FrZ w' k := h.keep (keep_below (fun _ => True) hb) trivial
def KidsF (P : Nat → Prop) (w : World) (l : List Nd) (v : Value) : Prop := KidsW (fun k => P k ∧ FrZ w k) w l v
def NodeF (P : Nat → Prop) (w : World) (n : Nd) (x : Value) : Prop := OkR n.set ∧ ∃ u, x = nodeV n u ∧ KidsF P w n.kids u
section
variable {ok ok' : Nat → Prop} {w w' : World} {l : List Nd} {v : Value} {n : Nd} {x : Value}
theorem KidsF.keep (h : KidsF ok w l v) (hk : KeepW ok' w w') (hm : ∀ k, k < w.heap.size → ok k → ok' k) : KidsF ok w' l v := by
  have h1 := KidsW.keep h hk fun k hl hp => hm k hl hp.1
  exact h1.mono fun k _ hp => ⟨hp.1, hp.2.keep hk (hm k hp.2.lt hp.1)⟩
theorem KidsF.mono (h : KidsF ok w l v) (hm : ∀ k, k < w.heap.size → ok k → ok' k) : KidsF ok' w l v := KidsW.mono h fun k hl hp => ⟨hm k hl hp.1, hp.2⟩
theorem KidsF.under (h : KidsF ok w l v) (hb : Below w.heap.size w w') : KidsF ok w' l v := h.keep (keep_below (fun _ => True) hb) fun _ _ _ => trivial
theorem KidsF.nil (ok : Nat → Prop) (w : World) : KidsF ok w [] (.slice none 0 0) := KidsW.nil _ _
theorem KidsF.form (h : KidsF ok w l v) : ∃ ao cap, v = .slice ao l.length cap ∧ l.length ≤ cap ∧ l.length ≤ 9223372036854775807 := KidsW.form h
theorem KidsF.W (h : KidsF ok w l v) : KidsW ok w l v := KidsW.mono h fun _ _ hp => hp.1
/-- Told at an elder world, as of now. -/
theorem kidsF_of {w0 : World} (h : KidsW (fun k => ok k ∧ FrZ w0 k) w l v) (hb : Below w0.heap.size w0 w) : KidsF ok w l v := h.mono fun _ _ hp => ⟨hp.1, hp.2.under hb⟩
theorem KidsF.at_ {i : Nat} (h : KidsF ok w l v) (hi : l[i]? = some n) :
    ∃ g o cap u, v = .slice (some ⟨g, o, none⟩) l.length cap ∧ l.length ≤ cap ∧ OkR n.set ∧ KidsF ok w n.kids u ∧ (∀ (j : Nat) x, j < 6 → (nodeC n u)[j]? = some x → w.cell? ⟨g, o + (i * 6 + j), none⟩ = some x) ∧ ok g ∧ FrZ w g := by
  obtain ⟨_, us, _, hb, hlen, ⟨ao, cap, hv, hn, hc⟩, hs, hk⟩ := h
  obtain ⟨u, hu⟩ : ∃ u, us[i]? = some u := ⟨_, List.getElem?_eq_getElem (by rw [hlen]; exact (List.getElem?_eq_some_iff.1 hi).1)⟩
  have h1 := hs i n hi
  have h2 := hk i n u hi hu
  obtain ⟨g, o, ha, hg0, _⟩ := hc (i * 6 + 0) (.int .i64 n.kind) (by rw [nodesC_get l us i n u hi hu 0 (by decide)]; rfl)
  refine ⟨g, o, cap, u, by rw [hv, ha], hn, h1, h2, fun j x hj hx => ?_, hg0.1, hg0.2⟩
  obtain ⟨g', o', ha', _, hg⟩ := hc (i * 6 + j) x (by rw [nodesC_get l us i n u hi hu j hj]; exact hx)
  rw [ha] at ha'
  cases ha'
  exact hg
theorem NodeF.keep (h : NodeF ok w n x) (hk : KeepW ok' w w') (hm : ∀ k, k < w.heap.size → ok k → ok' k) : NodeF ok w' n x := by
  obtain ⟨h1, u, rfl, h2⟩ := h
  exact ⟨h1, u, rfl, h2.keep hk hm⟩
theorem NodeF.mono (h : NodeF ok w n x) (hm : ∀ k, k < w.heap.size → ok k → ok' k) : NodeF ok' w n x := by
  obtain ⟨h1, u, rfl, h2⟩ := h
  exact ⟨h1, u, rfl, h2.mono hm⟩
theorem NodeF.below (h : NodeF ok w n x) (hb : Below w.heap.size w w') : NodeF ok w' n x := h.keep (keep_below (fun _ => True) hb) fun _ _ _ => trivial
theorem NodeF.leaf (k : Int) (s : St4) (hs : OkR s) : NodeF ok w (.mk k s []) (.agg #[.int .i64 k, .int .u64 (s.1 : Int), .int .u64 (s.2.1 : Int), .int .u64 (s.2.2.1 : Int), .int .u64 (s.2.2.2 : Int), .slice none 0 0]) := ⟨hs, .slice none 0 0, rfl, KidsF.nil _ _⟩
theorem NodeF.W (h : NodeF ok w n x) : NodeW ok w n x := by
  obtain ⟨h1, u, rfl, h2⟩ := h
  exact ⟨h1, u, rfl, h2.W⟩
end
/-- A row of nodes of the call's own, from a block N on, in such blocks. -/
def OutF (T : TypeId) (N : Nat) (w : World) (v : Value) (l : List Nd) : Prop := OutP T N (fun k => N ≤ k ∧ FrZ w k) w v l
theorem OutF.nil (T : TypeId) (N : Nat) (w : World) : OutF T N w (.slice none 0 0) [] := OutP.nil _ _ _ _
theorem OutF.lt {T : TypeId} {N : Nat} {w : World} {v : Value} {l : List Nd} (h : OutF T N w v l) : ∀ k, v.ownBlock = some k → N ≤ k ∧ k < w.heap.size := OutP.lt h
theorem OutF.keep {T : TypeId} {N : Nat} {ok : Nat → Prop} {w w' : World} {v : Value} {l : List Nd} (h : OutF T N w v l) (hk : KeepW ok w w') (ho : ∀ k, N ≤ k → ok k) : OutF T N w' v l := by
  have h1 := OutP.keep h hk (fun k e => ho k (OutP.lt h k e).1) fun k _ hp => ho k hp.1
  exact h1.mono fun k _ hp => ⟨hp.1, hp.2.keep hk (ho k hp.1)⟩
theorem OutF.below {T : TypeId} {N : Nat} {w w' : World} {v : Value} {l : List Nd} (h : OutF T N w v l) (hb : Below w.heap.size w w') : OutF T N w' v l := h.keep (keep_below (fun _ => True) hb) fun _ _ => trivial
theorem OutF.kids {T : TypeId} {N : Nat} {w : World} {v : Value} {l : List Nd} (h : OutF T N w v l) (hl : l.length ≤ 1000000) : KidsF (fun k => N ≤ k) w l v := by
  refine OutP.kids h hl (fun k hp => hp) fun k e => ⟨(OutP.lt h k e).1, ?_⟩
  obtain ⟨us, _, ⟨_, h2⟩, _⟩ := h
  rcases h2 with ⟨rfl, _⟩ | ⟨g, cap, cur, rfl, _, hg, _⟩
  · cases e
  · cases e
    exact ⟨cur, T, hg⟩
/-- One node more. -/
theorem run_outF {T : TypeId} {N m : Nat} {w : World} {v u : Value} {l : List Nd} {n : Nd} {X : Nat} (t ty : TypeId) (i0 : TypeInfo) (z : Value) (ht : Tryd.prog.underlying t = some (.slice T)) (hi : Tryd.prog.info? T = some i0) (hz0 : i0.zero = some z) (hzl : z.cells.size = 6) (hz1 : i0.size = 6) (hz2 : i0.bytes = 64)
    (hv : OutF T N w v l) (hX : ∀ (j : Nat) x, (nodeC n u)[j]? = some x → w.cell? ⟨X, j, none⟩ = some x) (hs : OkR n.set) (hu : KidsF (fun k => m ≤ k) w n.kids u) (ho : ∀ k, k < w.heap.size → m ≤ k → N ≤ k ∧ v.ownBlock ≠ some k) (hN : N ≤ w.heap.size) (hl : l.length ≤ 100000) :
    ∃ v' w', (Builtin.append_ #[t, t] ty #[v, .slice (some ⟨X, 0, none⟩) 1 1]).run Tryd.prog w = .ok v' w' ∧ OutF T N w' v' (l ++ [n]) ∧ KeepW (fun k => v.ownBlock ≠ some k) w w' := by
  -- the kids' blocks are not the row's own: said ahead
  have hv2 : OutP T N (fun k => (N ≤ k ∧ FrZ w k) ∧ v.ownBlock ≠ some k) w v l := by
    obtain ⟨us, h0, h1, h3⟩ := hv
    exact ⟨us, h0, h1, fun i m x hm hx => ⟨(h3 i m x hm hx).1, (h3 i m x hm hx).2.mono fun k _ hp => ⟨⟨hp.1, hp.2⟩, hp.2⟩⟩⟩
  obtain ⟨v', w', hr, hO, hk, _⟩ := run_outP t ty i0 z ht hi hz0 hzl hz1 hz2 hv2 hX hs (KidsW.mono hu (ok' := fun k => m ≤ k ∧ FrZ w k) fun k _ hp => hp) (fun k hlt hp => ⟨⟨⟨(ho k hlt hp.1).1, hp.2⟩, (ho k hlt hp.1).2⟩, (ho k hlt hp.1).2⟩) hN hl
  exact ⟨v', w', hr, hO.mono fun k _ hp => ⟨hp.1.1, hp.1.2.keep hk hp.2⟩, hk⟩
end Go.Proofs.YtkopbngnhgdfhaaDoor

/-
  regs, plain: what is read of a text may be, and is not too deep. No call is walked here.
-/
namespace Go.Proofs.YtkopbngnhgdfhaaDoor

/-! ### What is read may be -/
theorem spans_ok : ∀ (f : Nat) (first : Bool) (s : St4) (l : List Nat) (x : St4 × List Nat), (∀ y, y ∈ l → y < 256) → OkR s → spansR f first s l = some x → OkR x.1 ∧ ∀ y, y ∈ x.2 → y ∈ l
  | 0, _, _, _, _, _, _, h => by cases h
  | f + 1, first, s, l, x, hl, hs, h => by
    simp only [spansR] at h
    split at h
    · cases h; exact ⟨hs, fun y hy => List.mem_of_mem_tail hy⟩
    split at h
    · cases h
    · rename_i a r ha
      have h1 := let_lt hl ha
      have h2 := let_mem ha
      split at h
      · split at h
        · cases h
        · rename_i b u hb
          have h3 := let_lt (fun y hy => hl y (h2 y (List.mem_of_mem_tail hy))) hb
          have h4 := let_mem hb
          split at h
          · cases h
          · obtain ⟨q1, q2⟩ := spans_ok f _ _ u x (fun y hy => hl y (h2 y (List.mem_of_mem_tail (h4 y hy)))) (ok_with _ _ _ (by omega) hs) h
            exact ⟨q1, fun y hy => h2 y (List.mem_of_mem_tail (h4 y (q2 y hy)))⟩
      · obtain ⟨q1, q2⟩ := spans_ok f _ _ r x (fun y hy => hl y (h2 y hy)) (ok_with _ _ _ (by omega) hs) h
        exact ⟨q1, fun y hy => h2 y (q2 y hy)⟩
/-- A good node, at most so deep. -/
structure Good (n : Nd) (d : Nat) : Prop where
  may : mayR n = true
  wf : wfR n
  deep : deepR n ≤ d
theorem Good.mono {n : Nd} {d e : Nat} (h : Good n d) (hd : d ≤ e) : Good n e := ⟨h.may, h.wf, Nat.le_trans h.deep hd⟩
theorem deep_pos (n : Nd) : 1 ≤ deepR n := by
  cases n with
  | mk k s l => rw [deepR]; omega
theorem good_bytes (s : St4) (hs : OkR s) : Good (.mk 1 s []) 1 := ⟨by rw [mayR, mayL]; rfl, by rw [wfR, wfL]; exact ⟨hs, trivial⟩, by rw [deepR, deepL]; exact Nat.le_refl _⟩
theorem good_list : ∀ (l : List Nd) (d : Nat), (∀ x, x ∈ l → Good x d) → mayL l = true ∧ wfL l ∧ deepL l ≤ d
  | [], d, _ => ⟨rfl, trivial, Nat.zero_le _⟩
  | n :: l, d, h => by
    have h1 := h n (by simp)
    obtain ⟨a, b, c⟩ := good_list l d fun x hx => h x (by simp [hx])
    rw [mayL, wfL, deepL, h1.may, a]
    exact ⟨rfl, ⟨h1.wf, b⟩, Nat.max_le.2 ⟨h1.deep, c⟩⟩
theorem good_kids (k : Int) (l : List Nd) (d : Nat) (hk : formR k noR l.length = true) (h : ∀ x, x ∈ l → Good x d) : Good (.mk k noR l) (d + 1) := by
  obtain ⟨a, b, c⟩ := good_list l d h
  refine ⟨by rw [mayR, hk, a]; rfl, by rw [wfR]; exact ⟨ok_no, b⟩, by rw [deepR]; omega⟩
theorem good_join (k : Int) (hk : k = 2 ∨ k = 3) (l : List Nd) (d : Nat) (h : ∀ x, x ∈ l → Good x d) (h2 : 2 ≤ l.length → ∀ x, x ∈ l → Good x (d - 1)) (hd : 1 ≤ d) : Good (joinR k l) d := by
  match l, h, h2 with
  | [], _, _ => exact ⟨rfl, ⟨ok_no, trivial⟩, hd⟩
  | [x], h, _ => exact h x (by simp)
  | x :: y :: l, _, h2 =>
    have := good_kids k (x :: y :: l) (d - 1) (form_of (by omega) (by omega) (by omega) (by omega) (fun _ => by simp) (fun _ => rfl)) (h2 (by simp))
    rw [show d - 1 + 1 = d by omega] at this
    exact this
theorem bracket_good {l r : List Nat} {n : Nd} (hl : ∀ y, y ∈ l → y < 256) (h : bracketR l = some (n, r)) : Good n 1 ∧ ∀ y, y ∈ r → y ∈ l := by
  unfold bracketR at h
  split at h
  · rcases hs : spansR (l.length + 1) true noR l.tail with _ | x
    · rw [hs] at h; cases h
    · rw [hs] at h
      cases h
      obtain ⟨a, b⟩ := spans_ok _ _ _ _ _ (fun y hy => hl y (List.mem_of_mem_tail hy)) ok_no hs
      exact ⟨good_bytes _ (ok_not _ 256 (Nat.le_refl _)), fun y hy => List.mem_of_mem_tail (b y hy)⟩
  · rcases hs : spansR (l.length + 1) true noR l with _ | x
    · rw [hs] at h; cases h
    · rw [hs] at h
      cases h
      obtain ⟨a, b⟩ := spans_ok _ _ _ _ _ hl ok_no hs
      exact ⟨good_bytes _ a, b⟩
theorem signs_good : ∀ (l : List Nat) (n : Nd) (d : Nat), Good n d → ∃ e, Good (signsR n l).1 e ∧ e + (signsR n l).2.length = d + l.length ∧ ∀ y, y ∈ (signsR n l).2 → y ∈ l
  | [], n, d, h => ⟨d, h, rfl, fun y hy => hy⟩
  | c :: t, n, d, h => by
    simp only [signsR]
    split
    · rename_i hc
      have hk : formR ((signR c : Nat) : Int) noR [n].length = true := by
        unfold signR at hc ⊢
        by_cases h1 : c = 42
        · rw [if_pos h1]; rfl
        by_cases h2 : c = 43
        · rw [if_neg h1, if_pos h2]; rfl
        by_cases h3 : c = 63
        · rw [if_neg h1, if_neg h2, if_pos h3]; rfl
        · rw [if_neg h1, if_neg h2, if_neg h3] at hc; omega
      obtain ⟨e, h1, h2, h3⟩ := signs_good t _ (d + 1) (good_kids _ [n] d hk fun x hx => by rw [List.mem_singleton.1 hx]; exact h)
      exact ⟨e, h1, by simp only [List.length_cons]; omega, fun y hy => List.mem_cons_of_mem _ (h3 y hy)⟩
    · exact ⟨d, h, rfl, fun y hy => hy⟩
theorem rows_good : ∀ (N : Nat) (l : List Nat), l.length ≤ N → (∀ y, y ∈ l → y < 256) →
    (∀ n r, atR l = some (n, r) → Good n (l.length - r.length) ∧ ∀ y, y ∈ r → y ∈ l) ∧
    (∀ all row ca cr n r, (∀ x, x ∈ row → Good x cr) → (2 ≤ row.length → ∀ x, x ∈ row → Good x (cr - 1)) → (∀ x, x ∈ all → Good x (max 2 ca - 1)) → (all ≠ [] → 1 ≤ ca) → rwR l all row = some (n, r) → Good n (max 2 (ca + cr + (l.length - r.length))) ∧ ∀ y, y ∈ r → y ∈ l)
  | N, l, hN, hl => by
    have hA : ∀ n r, atR l = some (n, r) → Good n (l.length - r.length) ∧ ∀ y, y ∈ r → y ∈ l := by
      intro n r h
      have hlt := at_len h
      have htl : l.tail.length + 1 = l.length := by rw [List.length_tail]; omega
      rw [at_eq] at h
      split at h
      · rename_i hc
        split at h
        · cases h
        · rename_i m q hq
          split at h
          · rename_i hp
            cases h
            have h4 := congrArg List.length (head_tail hp)
            simp only [List.length_cons] at h4
            obtain ⟨N, rfl⟩ : ∃ k, N = k + 1 := ⟨N - 1, by omega⟩
            obtain ⟨g1, g2⟩ := (rows_good N l.tail (by omega) (fun y hy => hl y (List.mem_of_mem_tail hy))).2 [] [] 0 0 _ q (fun x hx => by cases hx) (fun h => by simp at h) (fun x hx => by cases hx) (fun h => absurd rfl h) hq
            have h5 := rw_len hq
            refine ⟨g1.mono ?_, fun y hy => List.mem_of_mem_tail (g2 y (List.mem_of_mem_tail hy))⟩
            omega
          · cases h
      split at h
      · obtain ⟨g1, g2⟩ := bracket_good (fun y hy => hl y (List.mem_of_mem_tail hy)) h
        exact ⟨g1.mono (by omega), fun y hy => List.mem_of_mem_tail (g2 y hy)⟩
      split at h
      · cases h
        exact ⟨(good_bytes _ (ok_with _ _ _ (by omega) (ok_with _ _ _ (by omega) ok_no))).mono (by omega), fun y hy => List.mem_of_mem_tail hy⟩
      · rcases hs : letR false l with _ | x
        · rw [hs] at h; cases h
        · rw [hs] at h
          cases h
          have := let_lt hl hs
          exact ⟨(good_bytes _ (ok_with _ _ _ (by omega) ok_no)).mono (by omega), let_mem hs⟩
    refine ⟨hA, fun all row ca cr n r hrow hrow2 hall hca h => ?_⟩
    have hj : Good (joinR 2 row) (max cr 1) := good_join 2 (.inl rfl) row _ (fun x hx => (hrow x hx).mono (by omega)) (fun h2 x hx => (hrow2 h2 x hx).mono (by omega)) (by omega)
    rw [rw_eq] at h
    split at h
    · cases h
      refine ⟨good_join 3 (.inr rfl) _ _ (fun x hx => ?_) (fun h2 x hx => ?_) (by omega), fun y hy => hy⟩
      · rcases List.mem_append.1 hx with hx | hx
        · exact (hall x hx).mono (by omega)
        · rw [List.mem_singleton.1 hx]; exact hj.mono (by omega)
      · have hne : all ≠ [] := by
          intro e
          subst e
          simp at h2
        have := hca hne
        rcases List.mem_append.1 hx with hx | hx
        · exact (hall x hx).mono (by omega)
        · rw [List.mem_singleton.1 hx]; exact hj.mono (by omega)
    split at h
    · rename_i hc
      have h4 := congrArg List.length (head_tail hc)
      simp only [List.length_cons] at h4
      obtain ⟨N, rfl⟩ : ∃ k, N = k + 1 := ⟨N - 1, by omega⟩
      obtain ⟨g1, g2⟩ := (rows_good N l.tail (by omega) (fun y hy => hl y (List.mem_of_mem_tail hy))).2 (all ++ [joinR 2 row]) [] (ca + cr + 1) 0 n r (fun x hx => by cases hx) (fun h => by simp at h) (fun x hx => by
        rcases List.mem_append.1 hx with hx | hx
        · exact (hall x hx).mono (by omega)
        · rw [List.mem_singleton.1 hx]; exact hj.mono (by omega)) (fun _ => by omega) h
      have h5 := rw_len h
      exact ⟨g1.mono (by omega), fun y hy => List.mem_of_mem_tail (g2 y hy)⟩
    split at h
    · cases h
    · rename_i m q hq
      obtain ⟨g1, g2⟩ := hA m q hq
      have hlt := at_len hq
      obtain ⟨e, s1, s2, s3⟩ := signs_good q m _ g1
      have hsl := signs_len q m
      obtain ⟨N, rfl⟩ : ∃ k, N = k + 1 := ⟨N - 1, by omega⟩
      have hep := deep_pos (signsR m q).1
      have hed := s1.deep
      obtain ⟨k1, k2⟩ := (rows_good N (signsR m q).2 (by omega) (fun y hy => hl y (g2 y (s3 y hy)))).2 all (row ++ [(signsR m q).1]) ca (cr + e) n r (fun x hx => by
        rcases List.mem_append.1 hx with hx | hx
        · exact (hrow x hx).mono (by omega)
        · rw [List.mem_singleton.1 hx]; exact s1.mono (by omega)) (fun h2 x hx => by
        rcases List.mem_append.1 hx with hx | hx
        · exact (hrow x hx).mono (by omega)
        · rw [List.mem_singleton.1 hx]
          have hne : row ≠ [] := by
            intro e
            subst e
            simp at h2
          obtain ⟨z, zs, hz⟩ := List.exists_cons_of_ne_nil hne
          have h7 := (hrow z (by rw [hz]; simp)).deep
          have h8 := deep_pos z
          exact s1.mono (by omega)) hall hca h
      have h5 := rw_len h
      exact ⟨k1.mono (by omega), fun y hy => g2 y (s3 y (k2 y hy))⟩
theorem parse_good (l : List Nat) (n : Nd) (hl : ∀ y, y ∈ l → y < 256) (h : parseR l = some n) : mayR n = true ∧ wfR n ∧ deepR n ≤ max 2 l.length := by
  rw [parse_eq] at h
  split at h
  · rename_i m hm
    cases h
    have := ((rows_good _ l (Nat.le_refl _) hl).2 [] [] 0 0 _ [] (fun x hx => by cases hx) (fun h => by simp at h) (fun x hx => by cases hx) (fun h => absurd rfl h) hm).1
    exact ⟨this.may, this.wf, Nat.le_trans this.deep (by simp)⟩
  · cases h
end Go.Proofs.YtkopbngnhgdfhaaDoor
