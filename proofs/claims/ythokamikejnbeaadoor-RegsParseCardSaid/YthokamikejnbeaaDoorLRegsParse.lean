/-
  limnerlaw10.RegsParse: it returns true, for every text.
-/
import Derived.Test.YthokamikejnbeaaDoorBe47
import Derived.Test.YthokamikejnbeaaDoorBe31
import Derived.Test.YthokamikejnbeaaDoorBe34
import Derived.Test.YthokamikejnbeaaDoorBe33
namespace Go.Proofs.YthokamikejnbeaaDoor
open Go.RowKit

def cells6 (V : World) (B : Nat) (n : Nd) (u : Value) : Prop := V.cell? ⟨B, 0, none⟩ = some (.int .i64 n.kind) ∧ V.cell? ⟨B, 1, none⟩ = some (.int .u64 (n.set.1 : Int)) ∧ V.cell? ⟨B, 2, none⟩ = some (.int .u64 (n.set.2.1 : Int)) ∧ V.cell? ⟨B, 3, none⟩ = some (.int .u64 (n.set.2.2.1 : Int)) ∧ V.cell? ⟨B, 4, none⟩ = some (.int .u64 (n.set.2.2.2 : Int)) ∧ V.cell? ⟨B, 5, none⟩ = some u
set_option maxRecDepth 100000 in
set_option maxHeartbeats 8000000 in
theorem regsParse_any (s : ByteArray) (w : World) (he : ErrW w) :
    Calls Tryd.prog 3 #[.string s] w fun e w' => e = .returned (.bool true) ∧ Below w.heap.size w w' := by
  by_cases h400 : 400 < s.size
  · have hi : (400 : Int) < (s.size : Int) := by omega
    have HR := Lib.hid (ruled_any w he)
    clear he h400
    go_enter Tryd.func3, Tryd.ntmps3
    go_wp2_with fail
    go_fit HR.out
    rintro e w1 ⟨rfl, hb⟩
    have HB := Lib.hid hb
    clear hb
    go_wp2_with fail
    go_ret
    exact ⟨rfl, HB.out⟩
  · have hi : ¬ (400 : Int) < (s.size : Int) := by omega
    have HP := Lib.hid (pparse_any s w he)
    have HE := Lib.hid he
    have HWT := Lib.hid (wt_parseP s)
    have HRP := Lib.hid (fun W => rparse_any s W)
    obtain ⟨PP, hPP⟩ : ∃ P, parseP s = P := ⟨_, rfl⟩
    obtain ⟨n, N0⟩ := PP
    rw [hPP] at HP HWT
    simp only [hPP] at HRP
    have ib : (N0 == N0) = true := beq_self_eq_true _
    clear he h400 hPP
    go_enter Tryd.func3, Tryd.ntmps3
    go_wp2_with fail
    go_fit HP.out
    rintro e w1 ⟨x, rfl, hx, hb⟩
    obtain ⟨hs, u, rfl, hu⟩ := hx
    obtain ⟨uo, uc, rfl, _⟩ := hu.form
    have hb2 := alloc_under w1 (.cells #[.int .i64 n.kind, .int .u64 (n.set.1 : Int), .int .u64 (n.set.2.1 : Int), .int .u64 (n.set.2.2.1 : Int), .int .u64 (n.set.2.2.2 : Int), .slice uo n.kids.length uc] 27)
    have hbx := boxN.new 27 w1 n.kind n.set (.slice uo n.kids.length uc)
    unfold nodeV
    obtain ⟨W2, hW2⟩ : ∃ W2, (w1.alloc (.cells #[.int .i64 n.kind, .int .u64 (n.set.1 : Int), .int .u64 (n.set.2.1 : Int), .int .u64 (n.set.2.2.1 : Int), .int .u64 (n.set.2.2.2 : Int), .slice uo n.kids.length uc] 27)) = W2 := ⟨_, rfl⟩
    rw [hW2] at hb2 hbx
    have hn2 : NodeW (fun _ => True) W2 n (nodeV n (.slice uo n.kids.length uc)) := ⟨hs, _, rfl, (hu.under hb2).W.mono fun _ _ _ => trivial⟩
    have H2 := Lib.hid (And.intro hn2 (And.intro hbx (hb.trans (hb2.mono hb.size))))
    have HZ := Lib.hid (show w.heap.size ≤ w1.heap.size from hb.size)
    clear hs hu hb hb2 hbx hn2
    go_wp2_with fail
    try rw [hW2]
    clear hW2
    go_fit (HRP.out _)
    rintro e w3 ⟨y, rfl, hy, hb3⟩
    obtain ⟨hs, v, rfl, hv⟩ := hy
    obtain ⟨vo, vc, rfl, _⟩ := hv.form
    have hb4 := alloc_under w3 (.cells #[.int .i64 n.kind, .int .u64 (n.set.1 : Int), .int .u64 (n.set.2.1 : Int), .int .u64 (n.set.2.2.1 : Int), .int .u64 (n.set.2.2.2 : Int), .slice vo n.kids.length vc] 33)
    have hby := boxN.new 33 w3 n.kind n.set (.slice vo n.kids.length vc)
    unfold nodeV
    obtain ⟨W4, hW4⟩ : ∃ W4, (w3.alloc (.cells #[.int .i64 n.kind, .int .u64 (n.set.1 : Int), .int .u64 (n.set.2.1 : Int), .int .u64 (n.set.2.2.1 : Int), .int .u64 (n.set.2.2.2 : Int), .slice vo n.kids.length vc] 33)) = W4 := ⟨_, rfl⟩
    rw [hW4] at hb4 hby
    have hm4 : NodeW (fun _ => True) W4 n (nodeV n (.slice vo n.kids.length vc)) := ⟨hs, _, rfl, (hv.under hb4).mono fun _ _ _ => trivial⟩
    have hx4 := (H2.out.2.1.below hb3).below hb4
    have hn4 := ((H2.out.1.below hb3).below hb4).mono (ok' := fun k => k < W4.heap.size) fun k hk _ => hk
    have hz2 := H2.out.2.2.size
    have hz3 := hb3.size
    have hb5 := (H2.out.2.2.trans (hb3.mono hz2)).trans (hb4.mono (by omega))
    have HC : Hid (∀ V, Below W4.heap.size W4 V → cells6 V w1.heap.size n (.slice uo n.kids.length uc) ∧ cells6 V w3.heap.size n (.slice vo n.kids.length vc)) := fun V hV => ⟨(hx4.below hV).cells.1, (hby.below hV).cells.1⟩
    have HRF : Hid (∀ V, Below W4.heap.size W4 V → Calls Tryd.prog 12 #[nodeV n (.slice uo n.kids.length uc)] V fun e U => ∃ y, e = .returned y ∧ NodeW (fun _ => True) U n y ∧ Below W4.heap.size W4 U) := fun V hV =>
      (pref_any _ _ n _ V (Nat.le_refl _) (by have : wtR n ≤ 403 := HWT.out; omega) (fun k hk => Nat.lt_of_lt_of_le hk hV.size) (hn4.below hV)).mono fun e U ⟨y, h1, h2, h3⟩ => ⟨y, h1, h2.mono fun _ _ _ => trivial, hV.trans (h3.mono hV.size)⟩
    have HSM : Hid (∀ V y, NodeW (fun _ => True) V n y → Below W4.heap.size W4 V → Calls Tryd.prog 11 #[y, nodeV n (.slice vo n.kids.length vc)] V fun e U => e = .returned (.bool true) ∧ Below W4.heap.size W4 U) := fun V y hy hV =>
      (rsame_any _ _ _ n n y _ V (Nat.le_refl _) hy (hm4.below hV)).mono fun e U ⟨h1, h2⟩ => ⟨by rw [h1, (sameR_iff n n).2 rfl], hV.trans (h2.mono hV.size)⟩
    have HRU : Hid (∀ V, Below W4.heap.size W4 V → Calls Tryd.prog 8 #[] V fun e U => e = .returned (.bool true) ∧ Below W4.heap.size W4 U) := fun V hV =>
      (ruled_any V (HE.out.below (hb5.trans (hV.mono hb5.size) |>.mono (Nat.le_refl _)))).mono fun e U ⟨h1, h2⟩ => ⟨h1, hV.trans (h2.mono hV.size)⟩
    have HB := Lib.hid hb5
    unfold nodeV at HRF HSM
    unfold cells6 at HC
    obtain ⟨na, hna⟩ : ∃ x, n.kids.length = x := ⟨_, rfl⟩
    rw [hna] at HC HRF HSM hW4
    have kk := Below.refl W4.heap.size W4
    have k0 : Below W4.heap.size W4 W4.drew := kk.drew
    clear hb3 hs hv hb4 hby hm4 hx4 hn4 hz2 hz3 hb5
    rw [hna]
    go_wp2_with fail
    try rw [hW4]
    clear hW4
    obtain ⟨W3, hW3⟩ : ∃ k, w3.heap.size = k := ⟨_, rfl⟩
    obtain ⟨X1, hX1⟩ : ∃ k, w1.heap.size = k := ⟨_, rfl⟩
    rw [hW3, hX1] at HC
    (try rw [hW3])
    (try rw [hX1])
    clear hW3 hX1
    obtain ⟨⟨x0, x1, x2, x3, x4, x5⟩, y0, y1, y2, y3, y4, y5⟩ := HC.out W4 kk
    clear HP HRP HE HWT hi
    go_region_held3 (fun V => (V.cell? ⟨X1, 0, none⟩ = some (.int .i64 n.kind) ∧ V.cell? ⟨X1, 1, none⟩ = some (.int .u64 (n.set.1 : Int)) ∧ V.cell? ⟨X1, 2, none⟩ = some (.int .u64 (n.set.2.1 : Int)) ∧ V.cell? ⟨X1, 3, none⟩ = some (.int .u64 (n.set.2.2.1 : Int)) ∧ V.cell? ⟨X1, 4, none⟩ = some (.int .u64 (n.set.2.2.2 : Int)) ∧ V.cell? ⟨X1, 5, none⟩ = some (.slice uo na uc)) ∧ (V.cell? ⟨W3, 0, none⟩ = some (.int .i64 n.kind) ∧ V.cell? ⟨W3, 1, none⟩ = some (.int .u64 (n.set.1 : Int)) ∧ V.cell? ⟨W3, 2, none⟩ = some (.int .u64 (n.set.2.1 : Int)) ∧ V.cell? ⟨W3, 3, none⟩ = some (.int .u64 (n.set.2.2.1 : Int)) ∧ V.cell? ⟨W3, 4, none⟩ = some (.int .u64 (n.set.2.2.2 : Int)) ∧ V.cell? ⟨W3, 5, none⟩ = some (.slice vo na vc)))
      (first | with_reducible exact HC.out _ kk | with_reducible exact HC.out _ k0 | with_reducible exact HC.out _ kk.drew)
      (first
        | (go_at_call 12; go_fit (HRF.out _ ?_); (first | with_reducible exact kk | with_reducible exact k0 | with_reducible exact kk.drew); rintro e vv ⟨yy, rfl, hyy, kk⟩)
        | (go_at_call 11; go_fit (HSM.out _ _ ?_ ?_); (first | with_reducible exact hyy | with_reducible exact hyy.below (Below.refl _ _).drew); (first | with_reducible exact kk | with_reducible exact k0 | with_reducible exact kk.drew); rintro e vv ⟨rfl, kk⟩)
        | (go_at_call 8; go_fit (HRU.out _ ?_); (first | with_reducible exact kk | with_reducible exact k0 | with_reducible exact kk.drew); rintro e vv ⟨rfl, kk⟩))
    all_goals
      go_wp2_with fail
      go_ret
      exact ⟨rfl, HB.out.trans (kk.mono HB.out.size)⟩
end Go.Proofs.YthokamikejnbeaaDoor
