/-
  limnerref11.count: what it returns.
-/
import Derived.Test.YtkopbngnhgdfhaaDoorBe16
namespace Go.Proofs.YtkopbngnhgdfhaaDoor
open Go.RowKit

theorem setsL_app : ∀ (l m : List Nd), setsL (l ++ m) = setsL l ++ setsL m
  | [], m => rfl
  | n :: l, m => by rw [List.cons_append, setsL, setsL, setsL_app l m, List.append_assoc]
theorem setsN_eq (n : Nd) : setsN n = if n.kind = 1 then n.set :: setsL n.kids else setsL n.kids := by
  cases n with
  | mk k s l => rw [setsN]; rfl
mutual
theorem sets_wt : ∀ (n : Nd), (setsN n).length ≤ wtR n
  | .mk k s l => by
    have := setsL_wt l
    rw [setsN, wtR]
    split
    · rw [List.length_cons]; omega
    · omega
theorem setsL_wt : ∀ (l : List Nd), (setsL l).length ≤ wtL l
  | [] => Nat.le_refl _
  | n :: l => by
    have := sets_wt n
    have := setsL_wt l
    rw [setsL, List.length_append, wtL]
    omega
end
def CountW (n : Nd) : Prop := ∀ (ok : Nat → Prop) (w : World) (x : Value), NodeW ok w n x → wtR n ≤ 100000 → Calls Tryd.prog 58 #[x] w fun e w' => e = .returned (.int .i64 ((setsN n).length : Int)) ∧ Below w.heap.size w w'
set_option maxRecDepth 4000 in
set_option maxHeartbeats 4000000 in
theorem count_step (n : Nd) (hB : ∀ m, m ∈ n.kids → CountW m) : CountW n := by
  intro ok w x hx hwt
  obtain ⟨hs, u, rfl, hu⟩ := hx
  obtain ⟨uo, uc, rfl, hul, hub⟩ := hu.form
  have hb1 := alloc_under w (.cells #[.int .i64 n.kind, .int .u64 (n.set.1 : Int), .int .u64 (n.set.2.1 : Int), .int .u64 (n.set.2.2.1 : Int), .int .u64 (n.set.2.2.2 : Int), .slice uo n.kids.length uc] 90)
  have HS0 := Lib.hid (And.intro (boxN.new 90 w n.kind n.set (.slice uo n.kids.length uc)) (And.intro (hu.under hb1) hb1))
  have hw := wt_kids n
  have hll := wtL_len n.kids
  have HB := Lib.hid hB
  have HSE := Lib.hid (setsN_eq n)
  obtain ⟨nl, hnl⟩ : ∃ nl, n.kids.length = nl := ⟨_, rfl⟩
  have HN := Lib.hid hnl
  unfold nodeV
  rw [hnl] at hul hub hll HS0 ⊢
  have HW : Hid (wtL n.kids ≤ 100000) := Lib.hid (by omega)
  have hnb : (nl : Int) ≤ 100000 := by omega
  obtain ⟨z0, hz0⟩ : ∃ z0 : Nat, z0 = if n.kind = 1 then 1 else 0 := ⟨_, rfl⟩
  have hz1 : z0 ≤ 1 := by rw [hz0]; split <;> omega
  have HZ : Hid ((setsN n).length = z0 + (setsL n.kids).length) := Lib.hid (by
    rw [HSE.out, hz0]
    split
    · rw [List.length_cons]; omega
    · omega)
  have hkb : (n.kind == 1) = decide (z0 = 1) := by
    rw [hz0]
    by_cases h : n.kind = 1
    · rw [if_pos h, h]; rfl
    · rw [if_neg h, beq_eq_false_iff_ne.2 h]; rfl
  have H0 : ∀ W, Hid (boxN 90 W w.heap.size n.kind n.set (.slice uo nl uc) ∧ KidsW ok W n.kids (.slice uo nl uc) ∧ Below w.heap.size w W) → Hid (boxN 90 W w.heap.size n.kind n.set (.slice uo nl uc) ∧ KidsW ok W n.kids (.slice uo nl uc) ∧ Below w.heap.size w W ∧ z0 = z0 + (setsL (n.kids.take 0)).length) := fun W h => Lib.hid ⟨h.out.1, h.out.2.1, h.out.2.2, by rw [List.take_zero, setsL]; rfl⟩
  have HS1 := H0 _ HS0
  clear hu hnl hB hw hll hwt hb1 HSE H0 HS0 hz0
  -- of Bytes one more
  have hcase : z0 = 1 ∧ (n.kind == 1) = true ∨ z0 = 0 ∧ (n.kind == 1) = false := by
    rcases (show z0 = 1 ∨ z0 = 0 by omega) with e | e
    · exact .inl ⟨e, by rw [hkb, e]; rfl⟩
    · exact .inr ⟨e, by rw [hkb, e]; rfl⟩
  clear hkb
  rcases hcase with ⟨e, hk⟩ | ⟨e, hk⟩
  all_goals
    have HE := Lib.hid e
    clear e hz1
    go_enter Tryd.func58, Tryd.ntmps58
    go_upto_region 2 with (fail)
    obtain ⟨W1, hW1⟩ : ∃ W1, w.alloc (.cells #[.int .i64 n.kind, .int .u64 (n.set.1 : Int), .int .u64 (n.set.2.1 : Int), .int .u64 (n.set.2.2.1 : Int), .int .u64 (n.set.2.2.2 : Int), .slice uo nl uc] 90) = W1 := ⟨_, rfl⟩
    (try rw [hW1])
    rw [hW1] at HS1
    clear hW1
    obtain ⟨b, hb⟩ : ∃ b, w.heap.size = b := ⟨_, rfl⟩
    (try rw [hb])
    rw [hb] at HS1
    have HBB := Lib.hid hb
    clear hb
    obtain ⟨⟨c0, c1, c2, c3, c4, c5⟩, _⟩ := HS1.out.1.cells
    have hbl := HS1.out.1.lt
    go_wp2_with fail
    go_loopw [3, 4] (fun s3 s4 wr => ∃ (i z : Nat), s4 = .int .i64 (i : Int) ∧ i ≤ nl ∧ s3 = .int .i64 (z : Int) ∧ Hid (boxN 90 wr b n.kind n.set (.slice uo nl uc) ∧ KidsW ok wr n.kids (.slice uo nl uc) ∧ Below b w wr ∧ z = z0 + (setsL (n.kids.take i)).length)) (fun _ s4 _ => nl - (intOf s4).toNat)
    case atStart => exact ⟨0, z0, rfl, Nat.zero_le _, by rw [HE.out]; rfl, HS1⟩
    case round =>
      obtain ⟨i, z, rfl, hi, rfl, HQ⟩ := hrel
      clear HS1 c0 c1 c2 c3 c4 c5 hbl
      obtain ⟨⟨c0, c1, c2, c3, c4, c5⟩, _⟩ := HQ.out.1.cells
      have hbl := HQ.out.1.lt
      have i0 : (0 : Int) ≤ (i : Int) := by omega
      have ib : (i : Int) ≤ 100000 := by omega
      by_cases hlt : i < nl
      · have hli : (i : Int) < (nl : Int) := by omega
        have hla : i < n.kids.length := by have := HN.out; omega
        obtain ⟨m, hm⟩ : ∃ m, n.kids[i] = m := ⟨_, rfl⟩
        have hil : n.kids[i]? = some m := by rw [List.getElem?_eq_getElem hla, hm]
        have hmem : m ∈ n.kids := List.mem_of_getElem? hil
        obtain ⟨g, o, cap, ku, hue, _, hso, hkk, hcell⟩ := HQ.out.2.1.at_ hil
        obtain ⟨kl, kc, rfl, _⟩ := hkk.form
        injection hue with e1 e2 e3
        subst e1
        clear e2 e3
        have d0 := hcell 0 _ (by decide) rfl
        have d1 := hcell 1 _ (by decide) rfl
        have d2 := hcell 2 _ (by decide) rfl
        have d3 := hcell 3 _ (by decide) rfl
        have d4 := hcell 4 _ (by decide) rfl
        have d5 := hcell 5 _ (by decide) rfl
        simp only [Nat.add_zero, ← Nat.add_assoc] at d0 d1 d2 d3 d4 d5
        have hwm := wtL_mem n.kids m hmem
        have HA := Lib.hid (HB.out m hmem ok wr (nodeV m (.slice kl m.kids.length kc)) ⟨hso, _, rfl, hkk⟩ (by have := HW.out; omega))
        unfold nodeV at HA
        have hz2 : z + (setsN m).length = z0 + (setsL (n.kids.take (i + 1))).length := by
          rw [List.take_add_one, hil, setsL_app]
          show _ = _ + (setsL _ ++ setsL [m]).length
          rw [List.length_append, setsL, setsL, List.append_nil, HQ.out.2.2.2]
          omega
        have hzb : z + (setsN m).length ≤ 100001 := by
          have h1 := setsL_wt (n.kids.take (i + 1))
          have h2 : wtL (n.kids.take (i + 1)) ≤ wtL n.kids := by
            have := congrArg wtL (List.take_append_drop (i + 1) n.kids)
            rw [wtL_app] at this
            omega
          have h3 := HW.out
          have h4 : z0 ≤ 1 := by rw [HE.out]; decide
          omega
        have HZ2 := Lib.hid hz2
        obtain ⟨cm, hcm⟩ : ∃ cm, (setsN m).length = cm := ⟨_, rfl⟩
        rw [hcm] at HA HZ2 hzb
        have hzw : IntKind.i64.wrap ((z : Int) + (cm : Int)) = (z : Int) + (cm : Int) := by apply IntWalk.i64_in <;> omega
        have z00 : (0 : Int) ≤ (z : Int) := by omega
        have cm0 : (0 : Int) ≤ (cm : Int) := by omega
        have hzi : (z : Int) + (cm : Int) ≤ 100001 := by omega
        clear hcell hkk hil hmem hla hm hz2 hzb hcm hwm hso
        go_wp2_with fail
        go_fit HA.out
        rintro e w2 ⟨rfl, hb2⟩
        have H2 := Lib.hid (show boxN 90 w2 b n.kind n.set (.slice (some ⟨g, o, none⟩) nl uc) ∧ KidsW ok w2 n.kids (.slice (some ⟨g, o, none⟩) nl uc) ∧ Below b w w2 from ⟨HQ.out.1.below hb2, HQ.out.2.1.under hb2, HQ.out.2.2.1.trans (hb2.mono (by have := HQ.out.1.lt; omega))⟩)
        clear hb2 HA d0 d1 d2 d3 d4 d5 c0 c1 c2 c3 c4 c5 hbl HQ
        go_wp2_with fail
        go_roundw
        case rel => exact ⟨i + 1, z + cm, by go_num, hlt, by go_num, Lib.hid ⟨H2.out.1, H2.out.2.1, H2.out.2.2, HZ2.out⟩⟩
        case measure => simp [intOf] <;> omega
      · have hli : ¬ (i : Int) < (nl : Int) := by omega
        have HF : Hid (z = (setsN n).length ∧ Below w.heap.size w wr) := Lib.hid ⟨by
          have h1 := HQ.out.2.2.2
          rw [List.take_of_length_le (by have := HN.out; omega)] at h1
          rw [h1, HZ.out], by rw [HBB.out]; exact HQ.out.2.2.1⟩
        clear HQ
        go_wp2_with fail
        go_ret
        exact ⟨by rw [← HF.out.1]; rfl, HF.out.2⟩
theorem count_any : ∀ (N : Nat) (n : Nd), wtR n ≤ N → CountW n
  | 0, n, h => absurd (wt_pos n) (by omega)
  | N + 1, n, h => count_step n fun m hm => count_any N m (by have := wtL_mem n.kids m hm; have := wt_kids n; omega)
end Go.Proofs.YtkopbngnhgdfhaaDoor
