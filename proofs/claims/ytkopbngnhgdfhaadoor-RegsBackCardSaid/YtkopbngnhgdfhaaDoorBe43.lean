/-
  limnerlaw10.again, no, ruled: each example of the chapter is as it says.
-/
import Derived.Test.YtkopbngnhgdfhaaDoorBe42
import Derived.Test.YtkopbngnhgdfhaaDoorBe39
import Derived.Test.YtkopbngnhgdfhaaDoorBe21
namespace Go.Proofs.YtkopbngnhgdfhaaDoor
open Go.RowKit

theorem wt_parseP (s : ByteArray) : wtR (parseP s).1 ≤ 403 := by
  unfold parseP
  split
  · decide
  · rename_i h
    split
    · rename_i n hn
      have := wt_parse _ n hn
      rw [bytesR_len] at this
      show wtR n ≤ 403
      omega
    · decide
set_option maxRecDepth 100000 in
set_option maxHeartbeats 4000000 in
theorem again_yes (s want : ByteArray) (w : World) (he : ErrW w) (h0 : (parseP s).2 = 0) (ht : strR (textR (parseP s).1) = want) :
    Calls Tryd.prog 28 #[.string s, .string want] w fun e w' => e = .returned (.bool true) ∧ Below w.heap.size w w' := by
  have HP := Lib.hid (pparse_any s w he)
  have HWT := Lib.hid (wt_parseP s)
  have HT := Lib.hid ht
  rw [h0] at HP
  have bx : (want.toList == want.toList) = true := beq_self_eq_true _
  clear he h0 ht
  go_enter Tryd.func28, Tryd.ntmps28
  go_wp2_with fail
  go_fit HP.out
  rintro e w1 ⟨x, rfl, hx, hb⟩
  obtain ⟨n, hn⟩ : ∃ n, (parseP s).1 = n := ⟨_, rfl⟩
  rw [hn] at hx HT HWT
  obtain ⟨hs, u, rfl, hu⟩ := hx
  obtain ⟨uo, uc, rfl, _⟩ := hu.form
  have hb2 := alloc_under w1 (.cells #[.int .i64 n.kind, .int .u64 (n.set.1 : Int), .int .u64 (n.set.2.1 : Int), .int .u64 (n.set.2.2.1 : Int), .int .u64 (n.set.2.2.2 : Int), .slice uo n.kids.length uc] 26)
  have hbx := boxN.new 26 w1 n.kind n.set (.slice uo n.kids.length uc)
  have HC0 := pshow_any n (nodeV n (.slice uo n.kids.length uc)) (w1.alloc (.cells #[.int .i64 n.kind, .int .u64 (n.set.1 : Int), .int .u64 (n.set.2.1 : Int), .int .u64 (n.set.2.2.1 : Int), .int .u64 (n.set.2.2.2 : Int), .slice uo n.kids.length uc] 26)) ⟨hs, _, rfl, (hu.under hb2).mono fun _ _ _ => trivial⟩ (by have := HWT.out; omega)
  rw [HT.out] at HC0
  unfold nodeV at HC0
  have HC := Lib.hid HC0
  have hz := hb.size
  have HB := Lib.hid (hb.trans (hb2.mono hz))
  have HZ := Lib.hid hz
  have HB2 := Lib.hid hb2
  clear HC0 hs hu hb hb2 hz hbx hn
  unfold nodeV
  go_wp2_with fail
  go_fit HC.out
  rintro e w3 ⟨rfl, hb3⟩
  have HF := Lib.hid (show Below w.heap.size w w3 from HB.out.trans (hb3.mono HB.out.size))
  clear hb3 HC
  go_wp2_with fail
  go_ret
  exact ⟨rfl, HF.out⟩
set_option maxRecDepth 100000 in
set_option maxHeartbeats 4000000 in
theorem no_yes (s : ByteArray) (w : World) (he : ErrW w) (h0 : (parseP s).2 = 10) :
    Calls Tryd.prog 29 #[.string s] w fun e w' => e = .returned (.bool true) ∧ Below w.heap.size w w' := by
  have HP := Lib.hid (pparse_any s w he)
  rw [h0] at HP
  clear he h0
  go_enter Tryd.func29, Tryd.ntmps29
  go_wp2_with fail
  go_fit HP.out
  rintro e w1 ⟨x, rfl, hx, hb⟩
  obtain ⟨n, hn⟩ : ∃ n, (parseP s).1 = n := ⟨_, rfl⟩
  rw [hn] at hx
  obtain ⟨hs, u, rfl, hu⟩ := hx
  obtain ⟨uo, uc, rfl, _⟩ := hu.form
  have hb2 := alloc_under w1 (.cells #[.int .i64 n.kind, .int .u64 (n.set.1 : Int), .int .u64 (n.set.2.1 : Int), .int .u64 (n.set.2.2.1 : Int), .int .u64 (n.set.2.2.2 : Int), .slice uo n.kids.length uc] 26)
  have HB := Lib.hid (hb.trans (hb2.mono hb.size))
  clear hs hu hb hb2 hn
  unfold nodeV
  go_wp2_with fail
  go_ret
  exact ⟨rfl, HB.out⟩
set_option maxRecDepth 100000 in
set_option maxHeartbeats 4000000 in
/-- The chapter's examples. -/
theorem ruled_any (w : World) (he : ErrW w) :
    Calls Tryd.prog 11 #[] w fun e w' => e = .returned (.bool true) ∧ Below w.heap.size w w' := by
  have H0 := Lib.hid (And.intro he (Below.refl w.heap.size w))
  have HN : Hid (∀ w1 w2, (ErrW w1 ∧ Below w.heap.size w w1) → Below w1.heap.size w1 w2 → (ErrW w2 ∧ Below w.heap.size w w2)) := fun w1 w2 h hb => ⟨h.1.below hb, h.2.trans (hb.mono h.2.size)⟩
  clear he
  go_enter Tryd.func11, Tryd.ntmps11
  go_wp2_with fail
  go_fit (again_yes ⟨#[97, 124, 98, 99, 42]⟩ ⟨#[97, 124, 98, 99, 42]⟩ w H0.out.1 (by kernel_rfl) (by kernel_rfl))
  rintro e w1 ⟨rfl, hb⟩
  have H1 := Lib.hid (HN.out _ _ H0.out hb)
  clear hb H0
  go_wp2_with fail
  go_fit (again_yes ⟨#[40, 40, 97, 41, 41]⟩ ⟨#[97]⟩ w1 H1.out.1 (by kernel_rfl) (by kernel_rfl))
  rintro e w2 ⟨rfl, hb⟩
  have H2 := Lib.hid (HN.out _ _ H1.out hb)
  clear hb H1
  go_wp2_with fail
  go_fit (again_yes ⟨#[40, 97, 98, 41, 43]⟩ ⟨#[40, 97, 98, 41, 43]⟩ w2 H2.out.1 (by kernel_rfl) (by kernel_rfl))
  rintro e w3 ⟨rfl, hb⟩
  have H3 := Lib.hid (HN.out _ _ H2.out hb)
  clear hb H2
  go_wp2_with fail
  go_fit (again_yes ⟨#[91, 97, 45, 99, 101, 93]⟩ ⟨#[91, 97, 45, 99, 101, 93]⟩ w3 H3.out.1 (by kernel_rfl) (by kernel_rfl))
  rintro e w4 ⟨rfl, hb⟩
  have H4 := Lib.hid (HN.out _ _ H3.out hb)
  clear hb H3
  go_wp2_with fail
  go_fit (again_yes ⟨#[91, 98, 93]⟩ ⟨#[98]⟩ w4 H4.out.1 (by kernel_rfl) (by kernel_rfl))
  rintro e w5 ⟨rfl, hb⟩
  have H5 := Lib.hid (HN.out _ _ H4.out hb)
  clear hb H4
  go_wp2_with fail
  go_fit (again_yes ⟨#[]⟩ ⟨#[40, 41]⟩ w5 H5.out.1 (by kernel_rfl) (by kernel_rfl))
  rintro e w6 ⟨rfl, hb⟩
  have H6 := Lib.hid (HN.out _ _ H5.out hb)
  clear hb H5
  go_wp2_with fail
  go_fit (again_yes ⟨#[97, 124]⟩ ⟨#[97, 124, 40, 41]⟩ w6 H6.out.1 (by kernel_rfl) (by kernel_rfl))
  rintro e w7 ⟨rfl, hb⟩
  have H7 := Lib.hid (HN.out _ _ H6.out hb)
  clear hb H6
  go_wp2_with fail
  go_fit (no_yes ⟨#[97, 41]⟩ w7 H7.out.1 (by kernel_rfl))
  rintro e w8 ⟨rfl, hb⟩
  have H8 := Lib.hid (HN.out _ _ H7.out hb)
  clear hb H7
  go_wp2_with fail
  go_fit (no_yes ⟨#[91, 93]⟩ w8 H8.out.1 (by kernel_rfl))
  rintro e w9 ⟨rfl, hb⟩
  have H9 := Lib.hid (HN.out _ _ H8.out hb)
  clear hb H8
  go_wp2_with fail
  go_fit (no_yes ⟨#[91, 98, 45, 97, 93]⟩ w9 H9.out.1 (by kernel_rfl))
  rintro e w10 ⟨rfl, hb⟩
  have H10 := Lib.hid (HN.out _ _ H9.out hb)
  clear hb H9
  go_wp2_with fail
  go_fit (no_yes ⟨#[92, 113]⟩ w10 H10.out.1 (by kernel_rfl))
  rintro e w11 ⟨rfl, hb⟩
  have H11 := Lib.hid (HN.out _ _ H10.out hb)
  clear hb H10
  go_wp2_with fail
  go_fit (no_yes ⟨#[42, 97]⟩ w11 H11.out.1 (by kernel_rfl))
  rintro e w12 ⟨rfl, hb⟩
  have H12 := Lib.hid (HN.out _ _ H11.out hb)
  clear hb H11
  go_wp2_with fail
  go_fit (again_yes ⟨#[92, 120, 48, 97]⟩ ⟨#[92, 110]⟩ w12 H12.out.1 (by kernel_rfl) (by kernel_rfl))
  rintro e w13 ⟨rfl, hb⟩
  have H13 := Lib.hid (HN.out _ _ H12.out hb)
  clear hb H12
  go_wp2_with fail
  go_fit (again_yes ⟨#[46]⟩ ⟨#[91, 92, 120, 48, 48, 45, 92, 116, 92, 120, 48, 98, 45, 92, 120, 102, 102, 93]⟩ w13 H13.out.1 (by kernel_rfl) (by kernel_rfl))
  rintro e w14 ⟨rfl, hb⟩
  have H14 := Lib.hid (HN.out _ _ H13.out hb)
  clear hb H13
  go_wp2_with fail
  go_ret
  exact ⟨rfl, H14.out.2⟩
end Go.Proofs.YtkopbngnhgdfhaaDoor
