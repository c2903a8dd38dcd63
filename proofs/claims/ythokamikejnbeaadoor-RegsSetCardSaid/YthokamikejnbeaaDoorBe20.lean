/-
  Texts of this proof, one behind the other; each begins with its own remark.
-/
import Derived.Test.YthokamikejnbeaaDoorBe19
import Derived.Test.YthokamikejnbeaaDoorBe9
/-
  Nodes whose kids lie in blocks without any frozen range: so two addresses of them are told apart. No call is walked here.
-/
namespace Go.Proofs.YthokamikejnbeaaDoor
open Go.RowKit

/-- A block of cells of which none is frozen, nor what stands behind them. -/
def FrZ (w : World) (k : Nat) : Prop := ∃ c t, w.heap[k]? = some (.cells c t (0, 0))
theorem FrZ.lt {w : World} {k : Nat} (h : FrZ w k) : k < w.heap.size := by
  obtain ⟨c, t, h⟩ := h
  exact (Array.getElem?_eq_some_iff.1 h).1
theorem FrZ.keep {ok : Nat → Prop} {w w' : World} {k : Nat} (h : FrZ w k) (hk : KeepW ok w w') (ho : ok k) : FrZ w' k := by
  have hl := h.lt
  obtain ⟨c, t, h⟩ := h
  exact ⟨c, t, (hk.same k hl ho).trans h⟩
theorem FrZ.under {w w' : World} {k : Nat} (h : FrZ w k) (hb : Below w.heap.size w w') : FrZ w' k := h.keep (keep_below (fun _ => True) hb) trivial
def KidsF (P : Nat → Prop) (w : World) (l : List Nd) (v : Value) : Prop := KidsW (fun k => P k ∧ FrZ w k) w l v
def NodeF (P : Nat → Prop) (w : World) (n : Nd) (x : Value) : Prop := OkR n.set ∧ ∃ u, x = nodeV n u ∧ KidsF P w n.kids u
section
variable {ok ok' : Nat → Prop} {w w' : World} {l : List Nd} {v : Value} {n : Nd} {x : Value}
theorem KidsF.keep (h : KidsF ok w l v) (hk : KeepW ok' w w') (hm : ∀ k, k < w.heap.size → ok k → ok' k) : KidsF ok w' l v := by
  have h1 := KidsW.keep h hk fun k hl hp => hm k hl hp.1
  exact h1.mono fun k _ hp => ⟨hp.1, hp.2.keep hk (hm k hp.2.lt hp.1)⟩
theorem KidsF.mono (h : KidsF ok w l v) (hm : ∀ k, k < w.heap.size → ok k → ok' k) : KidsF ok' w l v := KidsW.mono h fun k hl hp => ⟨hm k hl hp.1, hp.2⟩
theorem KidsF.under (h : KidsF ok w l v) (hb : Below w.heap.size w w') : KidsF ok w' l v := h.keep (keep_below (fun _ => True) hb) fun _ _ _ => trivial
theorem KidsF.nil (ok : Nat → Prop) (w : World) : KidsF ok w [] (.slice none 0 0) := KidsW.nil _ _
theorem KidsF.form (h : KidsF ok w l v) : ∃ ao cap, v = .slice ao l.length cap ∧ l.length ≤ cap ∧ l.length ≤ 9223372036854775807 := KidsW.form h
theorem KidsF.W (h : KidsF ok w l v) : KidsW ok w l v := KidsW.mono h fun _ _ hp => hp.1
/-- Told at an elder world, as of now. -/
theorem kidsF_of {w0 : World} (h : KidsW (fun k => ok k ∧ FrZ w0 k) w l v) (hb : Below w0.heap.size w0 w) : KidsF ok w l v := h.mono fun _ _ hp => ⟨hp.1, hp.2.under hb⟩
theorem KidsF.at_ {i : Nat} (h : KidsF ok w l v) (hi : l[i]? = some n) :
    ∃ g o cap u, v = .slice (some ⟨g, o, none⟩) l.length cap ∧ l.length ≤ cap ∧ OkR n.set ∧ KidsF ok w n.kids u ∧ (∀ (j : Nat) x, j < 6 → (nodeC n u)[j]? = some x → w.cell? ⟨g, o + (i * 6 + j), none⟩ = some x) ∧ ok g ∧ FrZ w g := by
  obtain ⟨_, us, _, hb, hlen, ⟨ao, cap, hv, hn, hc⟩, hs, hk⟩ := h
  obtain ⟨u, hu⟩ : ∃ u, us[i]? = some u := ⟨_, List.getElem?_eq_getElem (by rw [hlen]; exact (List.getElem?_eq_some_iff.1 hi).1)⟩
  have h1 := hs i n hi
  have h2 := hk i n u hi hu
  obtain ⟨g, o, ha, hg0, _⟩ := hc (i * 6 + 0) (.int .i64 n.kind) (by rw [nodesC_get l us i n u hi hu 0 (by decide)]; rfl)
  refine ⟨g, o, cap, u, by rw [hv, ha], hn, h1, h2, fun j x hj hx => ?_, hg0.1, hg0.2⟩
  obtain ⟨g', o', ha', _, hg⟩ := hc (i * 6 + j) x (by rw [nodesC_get l us i n u hi hu j hj]; exact hx)
  rw [ha] at ha'
  cases ha'
  exact hg
theorem NodeF.keep (h : NodeF ok w n x) (hk : KeepW ok' w w') (hm : ∀ k, k < w.heap.size → ok k → ok' k) : NodeF ok w' n x := by
  obtain ⟨h1, u, rfl, h2⟩ := h
  exact ⟨h1, u, rfl, h2.keep hk hm⟩
theorem NodeF.mono (h : NodeF ok w n x) (hm : ∀ k, k < w.heap.size → ok k → ok' k) : NodeF ok' w n x := by
  obtain ⟨h1, u, rfl, h2⟩ := h
  exact ⟨h1, u, rfl, h2.mono hm⟩
theorem NodeF.below (h : NodeF ok w n x) (hb : Below w.heap.size w w') : NodeF ok w' n x := h.keep (keep_below (fun _ => True) hb) fun _ _ _ => trivial
theorem NodeF.leaf (k : Int) (s : St4) (hs : OkR s) : NodeF ok w (.mk k s []) (.agg #[.int .i64 k, .int .u64 (s.1 : Int), .int .u64 (s.2.1 : Int), .int .u64 (s.2.2.1 : Int), .int .u64 (s.2.2.2 : Int), .slice none 0 0]) := ⟨hs, .slice none 0 0, rfl, KidsF.nil _ _⟩
theorem NodeF.W (h : NodeF ok w n x) : NodeW ok w n x := by
  obtain ⟨h1, u, rfl, h2⟩ := h
  exact ⟨h1, u, rfl, h2.W⟩
end
/-- A row of nodes of the call's own, from a block N on, in such blocks. -/
def OutF (T : TypeId) (N : Nat) (w : World) (v : Value) (l : List Nd) : Prop := OutP T N (fun k => N ≤ k ∧ FrZ w k) w v l
theorem OutF.nil (T : TypeId) (N : Nat) (w : World) : OutF T N w (.slice none 0 0) [] := OutP.nil _ _ _ _
theorem OutF.lt {T : TypeId} {N : Nat} {w : World} {v : Value} {l : List Nd} (h : OutF T N w v l) : ∀ k, v.ownBlock = some k → N ≤ k ∧ k < w.heap.size := OutP.lt h
theorem OutF.keep {T : TypeId} {N : Nat} {ok : Nat → Prop} {w w' : World} {v : Value} {l : List Nd} (h : OutF T N w v l) (hk : KeepW ok w w') (ho : ∀ k, N ≤ k → ok k) : OutF T N w' v l := by
  have h1 := OutP.keep h hk (fun k e => ho k (OutP.lt h k e).1) fun k _ hp => ho k hp.1
  exact h1.mono fun k _ hp => ⟨hp.1, hp.2.keep hk (ho k hp.1)⟩
theorem OutF.below {T : TypeId} {N : Nat} {w w' : World} {v : Value} {l : List Nd} (h : OutF T N w v l) (hb : Below w.heap.size w w') : OutF T N w' v l := h.keep (keep_below (fun _ => True) hb) fun _ _ => trivial
theorem OutF.kids {T : TypeId} {N : Nat} {w : World} {v : Value} {l : List Nd} (h : OutF T N w v l) (hl : l.length ≤ 1000000) : KidsF (fun k => N ≤ k) w l v := by
  refine OutP.kids h hl (fun k hp => hp) fun k e => ⟨(OutP.lt h k e).1, ?_⟩
  obtain ⟨us, _, ⟨_, h2⟩, _⟩ := h
  rcases h2 with ⟨rfl, _⟩ | ⟨g, cap, cur, rfl, _, hg, _⟩
  · cases e
  · cases e
    exact ⟨cur, T, hg⟩
/-- One node more. -/
theorem run_outF {T : TypeId} {N m : Nat} {w : World} {v u : Value} {l : List Nd} {n : Nd} {X : Nat} (t ty : TypeId) (i0 : TypeInfo) (z : Value) (ht : Tryd.prog.underlying t = some (.slice T)) (hi : Tryd.prog.info? T = some i0) (hz0 : i0.zero = some z) (hzl : z.cells.size = 6) (hz1 : i0.size = 6) (hz2 : i0.bytes = 64)
    (hv : OutF T N w v l) (hX : ∀ (j : Nat) x, (nodeC n u)[j]? = some x → w.cell? ⟨X, j, none⟩ = some x) (hs : OkR n.set) (hu : KidsF (fun k => m ≤ k) w n.kids u) (ho : ∀ k, k < w.heap.size → m ≤ k → N ≤ k ∧ v.ownBlock ≠ some k) (hN : N ≤ w.heap.size) (hl : l.length ≤ 100000) :
    ∃ v' w', (Builtin.append_ #[t, t] ty #[v, .slice (some ⟨X, 0, none⟩) 1 1]).run Tryd.prog w = .ok v' w' ∧ OutF T N w' v' (l ++ [n]) ∧ KeepW (fun k => v.ownBlock ≠ some k) w w' := by
  -- the kids' blocks are not the row's own: said ahead
  have hv2 : OutP T N (fun k => (N ≤ k ∧ FrZ w k) ∧ v.ownBlock ≠ some k) w v l := by
    obtain ⟨us, h0, h1, h3⟩ := hv
    exact ⟨us, h0, h1, fun i m x hm hx => ⟨(h3 i m x hm hx).1, (h3 i m x hm hx).2.mono fun k _ hp => ⟨⟨hp.1, hp.2⟩, hp.2⟩⟩⟩
  obtain ⟨v', w', hr, hO, hk, _⟩ := run_outP t ty i0 z ht hi hz0 hzl hz1 hz2 hv2 hX hs (KidsW.mono hu (ok' := fun k => m ≤ k ∧ FrZ w k) fun k _ hp => hp) (fun k hlt hp => ⟨⟨⟨(ho k hlt hp.1).1, hp.2⟩, (ho k hlt hp.1).2⟩, (ho k hlt hp.1).2⟩) hN hl
  exact ⟨v', w', hr, hO.mono fun k _ hp => ⟨hp.1.1, hp.1.2.keep hk hp.2⟩, hk⟩
end Go.Proofs.YthokamikejnbeaaDoor

/-
  regs.joined: what it returns.
-/
namespace Go.Proofs.YthokamikejnbeaaDoor
open Go.RowKit

set_option maxRecDepth 4000 in
set_option maxHeartbeats 4000000 in
theorem pjoin_any {ok : Nat → Prop} (k : Int) (l : List Nd) (v : Value) (w : World) (h : KidsW ok w l v) (hl : l.length ≤ 100000) :
    Calls Tryd.prog 48 #[.int .i64 k, v] w fun e w' => ∃ x, e = .returned x ∧ NodeW ok w' (joinR k l) x ∧ Below w.heap.size w w' := by
  have hb (o : Obj) := alloc_under w o
  have HB := Lib.hid hb
  clear hb
  match l, h, hl with
  | [], h, _ =>
    obtain ⟨ao, cap, rfl, _⟩ := h.form
    clear h
    go_enter Tryd.func48, Tryd.ntmps48
    go_wp2_with fail
    exact bodyPost_ret (v := .agg #[.int .i64 0, .int .u64 0, .int .u64 0, .int .u64 0, .int .u64 0, .slice none 0 0]) (by simp [results, Tryd.results48, go_sem]) rfl ⟨_, rfl, NodeW.leaf 0 noR ok_no, HB.out _⟩
  | [n], h, _ =>
    obtain ⟨g, o, cap, u, rfl, hc, hs, hk, hg⟩ := h.at_ (i := 0) rfl
    obtain ⟨uo, uc, rfl, _⟩ := hk.form
    have x0 := hg 0 _ (by decide) rfl
    have x1 := hg 1 _ (by decide) rfl
    have x2 := hg 2 _ (by decide) rfl
    have x3 := hg 3 _ (by decide) rfl
    have x4 := hg 4 _ (by decide) rfl
    have x5 := hg 5 _ (by decide) rfl
    simp only [Nat.zero_mul, Nat.zero_add, Nat.add_zero] at x0 x1 x2 x3 x4 x5
    have HN : Hid (NodeW ok w n (nodeV n (.slice uo n.kids.length uc))) := ⟨hs, _, rfl, hk⟩
    have hglt := rlt x0
    rw [show [n].length = 1 from rfl] at hc
    rw [show [n].length = 1 from rfl]
    clear hg hs hk h
    go_enter Tryd.func48, Tryd.ntmps48
    go_wp2_with fail
    exact bodyPost_ret (v := nodeV n (.slice uo n.kids.length uc)) (by simp [results, Tryd.results48, go_sem, nodeV]) rfl ⟨_, rfl, HN.out.below (HB.out _), HB.out _⟩
  | a :: b :: l, h, hl =>
    obtain ⟨ao, cap, hv, hcap, _⟩ := h.form
    have HK := Lib.hid h
    subst hv
    obtain ⟨m, hm⟩ : ∃ m, (a :: b :: l).length = m := ⟨_, rfl⟩
    have h2 : 2 ≤ m := by rw [← hm]; simp
    have h2i : (2 : Int) ≤ (m : Int) := by omega
    have b0 : ((m : Int) == 0) = false := beq_eq_false_iff_ne.2 (by omega)
    have b1 : ((m : Int) == 1) = false := beq_eq_false_iff_ne.2 (by omega)
    rw [hm] at hl HK ⊢
    obtain ⟨L, hL⟩ : ∃ L, a :: b :: l = L := ⟨_, rfl⟩
    have HJ := Lib.hid (show joinR k (a :: b :: l) = .mk k noR L by rw [← hL]; rfl)
    rw [hL] at HK HJ ⊢
    clear h hm hL
    go_enter Tryd.func48, Tryd.ntmps48
    go_wp2_with fail
    exact bodyPost_ret (v := .agg #[.int .i64 k, .int .u64 0, .int .u64 0, .int .u64 0, .int .u64 0, .slice ao m cap]) (by simp [results, Tryd.results48, go_sem]) rfl ⟨_, rfl, by rw [HJ.out]; exact ⟨ok_no, _, rfl, HK.out.under (HB.out _)⟩, HB.out _⟩
theorem pjoin_f {ok : Nat → Prop} (k : Int) (l : List Nd) (v : Value) (w : World) (h : KidsF ok w l v) (hl : l.length ≤ 100000) :
    Calls Tryd.prog 48 #[.int .i64 k, v] w fun e w' => ∃ x, e = .returned x ∧ NodeF ok w' (joinR k l) x ∧ Below w.heap.size w w' :=
  (pjoin_any (ok := fun k => ok k ∧ FrZ w k) k l v w h hl).mono fun _ _ ⟨x, he, ⟨hs, u, hx, hu⟩, hb⟩ => ⟨x, he, ⟨hs, u, hx, kidsF_of hu hb⟩, hb⟩
end Go.Proofs.YthokamikejnbeaaDoor

/-
  limnerref10.join: what it returns.
-/
namespace Go.Proofs.YthokamikejnbeaaDoor
open Go.RowKit

set_option maxRecDepth 4000 in
set_option maxHeartbeats 4000000 in
theorem rjoin_any {ok : Nat → Prop} (k : Int) (l : List Nd) (v : Value) (w : World) (h : KidsW ok w l v) (hl : l.length ≤ 100000) :
    Calls Tryd.prog 36 #[.int .i64 k, v] w fun e w' => ∃ x, e = .returned x ∧ NodeW ok w' (joinR k l) x ∧ Below w.heap.size w w' := by
  have hb (o : Obj) := alloc_under w o
  have HB := Lib.hid hb
  clear hb
  match l, h, hl with
  | [], h, _ =>
    obtain ⟨ao, cap, rfl, _⟩ := h.form
    clear h
    go_enter Tryd.func36, Tryd.ntmps36
    go_wp2_with fail
    exact bodyPost_ret (v := .agg #[.int .i64 0, .int .u64 0, .int .u64 0, .int .u64 0, .int .u64 0, .slice none 0 0]) (by simp [results, Tryd.results36, go_sem]) rfl ⟨_, rfl, NodeW.leaf 0 noR ok_no, HB.out _⟩
  | [n], h, _ =>
    obtain ⟨g, o, cap, u, rfl, hc, hs, hk, hg⟩ := h.at_ (i := 0) rfl
    obtain ⟨uo, uc, rfl, _⟩ := hk.form
    have x0 := hg 0 _ (by decide) rfl
    have x1 := hg 1 _ (by decide) rfl
    have x2 := hg 2 _ (by decide) rfl
    have x3 := hg 3 _ (by decide) rfl
    have x4 := hg 4 _ (by decide) rfl
    have x5 := hg 5 _ (by decide) rfl
    simp only [Nat.zero_mul, Nat.zero_add, Nat.add_zero] at x0 x1 x2 x3 x4 x5
    have HN : Hid (NodeW ok w n (nodeV n (.slice uo n.kids.length uc))) := ⟨hs, _, rfl, hk⟩
    have hglt := rlt x0
    rw [show [n].length = 1 from rfl] at hc
    rw [show [n].length = 1 from rfl]
    clear hg hs hk h
    go_enter Tryd.func36, Tryd.ntmps36
    go_wp2_with fail
    exact bodyPost_ret (v := nodeV n (.slice uo n.kids.length uc)) (by simp [results, Tryd.results36, go_sem, nodeV]) rfl ⟨_, rfl, HN.out.below (HB.out _), HB.out _⟩
  | a :: b :: l, h, hl =>
    obtain ⟨ao, cap, hv, hcap, _⟩ := h.form
    have HK := Lib.hid h
    subst hv
    obtain ⟨m, hm⟩ : ∃ m, (a :: b :: l).length = m := ⟨_, rfl⟩
    have h2 : 2 ≤ m := by rw [← hm]; simp
    have h2i : (2 : Int) ≤ (m : Int) := by omega
    have b0 : ((m : Int) == 0) = false := beq_eq_false_iff_ne.2 (by omega)
    have b1 : ((m : Int) == 1) = false := beq_eq_false_iff_ne.2 (by omega)
    rw [hm] at hl HK ⊢
    obtain ⟨L, hL⟩ : ∃ L, a :: b :: l = L := ⟨_, rfl⟩
    have HJ := Lib.hid (show joinR k (a :: b :: l) = .mk k noR L by rw [← hL]; rfl)
    rw [hL] at HK HJ ⊢
    clear h hm hL
    go_enter Tryd.func36, Tryd.ntmps36
    go_wp2_with fail
    exact bodyPost_ret (v := .agg #[.int .i64 k, .int .u64 0, .int .u64 0, .int .u64 0, .int .u64 0, .slice ao m cap]) (by simp [results, Tryd.results36, go_sem]) rfl ⟨_, rfl, by rw [HJ.out]; exact ⟨ok_no, _, rfl, HK.out.under (HB.out _)⟩, HB.out _⟩
end Go.Proofs.YthokamikejnbeaaDoor
