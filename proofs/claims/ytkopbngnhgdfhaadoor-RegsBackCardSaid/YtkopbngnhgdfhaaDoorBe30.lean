/-
  limnerref10.join: what it returns.
-/
import Derived.Test.YtkopbngnhgdfhaaDoorBe9
namespace Go.Proofs.YtkopbngnhgdfhaaDoor
open Go.RowKit

set_option maxRecDepth 4000 in
set_option maxHeartbeats 4000000 in
theorem rjoin_any {ok : Nat → Prop} (k : Int) (l : List Nd) (v : Value) (w : World) (h : KidsW ok w l v) (hl : l.length ≤ 100000) :
    Calls Tryd.prog 70 #[.int .i64 k, v] w fun e w' => ∃ x, e = .returned x ∧ NodeW ok w' (joinR k l) x ∧ Below w.heap.size w w' := by
  have hb (o : Obj) := alloc_under w o
  have HB := Lib.hid hb
  clear hb
  match l, h, hl with
  | [], h, _ =>
    obtain ⟨ao, cap, rfl, _⟩ := h.form
    clear h
    go_enter Tryd.func70, Tryd.ntmps70
    go_wp2_with fail
    exact bodyPost_ret (v := .agg #[.int .i64 0, .int .u64 0, .int .u64 0, .int .u64 0, .int .u64 0, .slice none 0 0]) (by simp [results, Tryd.results70, go_sem]) rfl ⟨_, rfl, NodeW.leaf 0 noR ok_no, HB.out _⟩
  | [n], h, _ =>
    obtain ⟨g, o, cap, u, rfl, hc, hs, hk, hg⟩ := h.at_ (i := 0) rfl
    obtain ⟨uo, uc, rfl, _⟩ := hk.form
    have x0 := hg 0 _ (by decide) rfl
    have x1 := hg 1 _ (by decide) rfl
    have x2 := hg 2 _ (by decide) rfl
    have x3 := hg 3 _ (by decide) rfl
    have x4 := hg 4 _ (by decide) rfl
    have x5 := hg 5 _ (by decide) rfl
    simp only [Nat.zero_mul, Nat.zero_add, Nat.add_zero] at x0 x1 x2 x3 x4 x5
    have HN : Hid (NodeW ok w n (nodeV n (.slice uo n.kids.length uc))) := ⟨hs, _, rfl, hk⟩
    have hglt := rlt x0
    rw [show [n].length = 1 from rfl] at hc
    rw [show [n].length = 1 from rfl]
    clear hg hs hk h
    go_enter Tryd.func70, Tryd.ntmps70
    go_wp2_with fail
    exact bodyPost_ret (v := nodeV n (.slice uo n.kids.length uc)) (by simp [results, Tryd.results70, go_sem, nodeV]) rfl ⟨_, rfl, HN.out.below (HB.out _), HB.out _⟩
  | a :: b :: l, h, hl =>
    obtain ⟨ao, cap, hv, hcap, _⟩ := h.form
    have HK := Lib.hid h
    subst hv
    obtain ⟨m, hm⟩ : ∃ m, (a :: b :: l).length = m := ⟨_, rfl⟩
    have h2 : 2 ≤ m := by rw [← hm]; simp
    have h2i : (2 : Int) ≤ (m : Int) := by omega
    have b0 : ((m : Int) == 0) = false := beq_eq_false_iff_ne.2 (by omega)
    have b1 : ((m : Int) == 1) = false := beq_eq_false_iff_ne.2 (by omega)
    rw [hm] at hl HK ⊢
    obtain ⟨L, hL⟩ : ∃ L, a :: b :: l = L := ⟨_, rfl⟩
    have HJ := Lib.hid (show joinR k (a :: b :: l) = .mk k noR L by rw [← hL]; rfl)
    rw [hL] at HK HJ ⊢
    clear h hm hL
    go_enter Tryd.func70, Tryd.ntmps70
    go_wp2_with fail
    exact bodyPost_ret (v := .agg #[.int .i64 k, .int .u64 0, .int .u64 0, .int .u64 0, .int .u64 0, .slice ao m cap]) (by simp [results, Tryd.results70, go_sem]) rfl ⟨_, rfl, by rw [HJ.out]; exact ⟨ok_no, _, rfl, HK.out.under (HB.out _)⟩, HB.out _⟩
end Go.Proofs.YtkopbngnhgdfhaaDoor
