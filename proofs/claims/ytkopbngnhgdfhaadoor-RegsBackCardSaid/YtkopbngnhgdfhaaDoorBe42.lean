/-
  regs.Show: what it returns, for every node.
-/
import Derived.Test.YtkopbngnhgdfhaaDoorBe41
namespace Go.Proofs.YtkopbngnhgdfhaaDoor
open Go.RowKit

theorem hexC_lt (d : Nat) (h : d < 16) : hexC d < 256 := by unfold hexC; split <;> omega
theorem byte_lt (b : Nat) (hb : b < 256) : ∀ x, x ∈ byteR b → x < 256 := by
  have h1 := hexC_lt (b / 16) (by omega)
  have h2 := hexC_lt (b % 16) (by omega)
  unfold byteR
  intro x hx
  repeat' split at hx
  all_goals
    simp only [List.mem_cons, List.not_mem_nil, or_false] at hx
    omega
theorem run_lb (s : St4) (b : Nat) (hb : b < 256) : (∀ x, x ∈ runT s b → x < 256) ∧ (runT s b).length ≤ 9 := by
  unfold runT
  split
  · rename_i h
    obtain ⟨_, h2, _⟩ := last_spec s 256 b hb h.1
    have h3 : lastR s b < 256 := h2
    have l1 := byte_len b
    have l2 := byte_len (lastR s b)
    unfold spanT
    split
    · refine ⟨fun x hx => ?_, by rw [List.length_append, List.length_cons]; omega⟩
      rcases List.mem_append.1 hx with hx | hx
      · exact byte_lt b hb x hx
      · rcases List.mem_cons.1 hx with rfl | hx
        · decide
        · exact byte_lt _ h3 x hx
    · refine ⟨fun x hx => ?_, by rw [List.append_nil]; omega⟩
      rw [List.append_nil] at hx
      exact byte_lt b hb x hx
  · exact ⟨(fun x hx => by cases hx), Nat.zero_le _⟩
theorem runs_lb (s : St4) : ∀ (n b : Nat), b + n ≤ 256 → (∀ x, x ∈ runsT s n b → x < 256) ∧ (runsT s n b).length ≤ 9 * n
  | 0, b, _ => ⟨(fun x hx => by cases hx), Nat.zero_le _⟩
  | n + 1, b, h => by
    obtain ⟨h1, h2⟩ := run_lb s b (by omega)
    obtain ⟨h3, h4⟩ := runs_lb s n (b + 1) (by omega)
    rw [runsT]
    refine ⟨fun x hx => ?_, by rw [List.length_append]; omega⟩
    rcases List.mem_append.1 hx with hx | hx
    · exact h1 x hx
    · exact h3 x hx
theorem set_lb (s : St4) : (∀ x, x ∈ setT s → x < 256) ∧ (setT s).length ≤ 2306 := by
  obtain ⟨h1, h2⟩ := runs_lb s 256 0 (Nat.le_refl _)
  unfold setT
  split
  · exact ⟨by decide, by decide⟩
  split
  · exact ⟨h1, by omega⟩
  · refine ⟨fun x hx => ?_, by rw [List.length_cons, List.length_append, List.length_singleton]; omega⟩
    rcases List.mem_cons.1 hx with rfl | hx
    · decide
    · rcases List.mem_append.1 hx with hx | hx
      · exact h1 x hx
      · rw [List.mem_singleton.1 hx]; decide
theorem tail_lb (k : Int) : (∀ x, x ∈ tailT k → x < 256) ∧ (tailT k).length ≤ 1 := by
  unfold tailT
  repeat' split
  all_goals exact ⟨by decide, by decide⟩
theorem wrap_lb (k kk : Int) (t : List Nat) (h : ∀ x, x ∈ t → x < 256) : (∀ x, x ∈ wrapT k kk t → x < 256) ∧ (wrapT k kk t).length ≤ t.length + 2 := by
  unfold wrapT
  split
  · refine ⟨fun x hx => ?_, by rw [List.length_cons, List.length_append, List.length_singleton]; omega⟩
    rcases List.mem_cons.1 hx with rfl | hx
    · decide
    · rcases List.mem_append.1 hx with hx | hx
      · exact h x hx
      · rw [List.mem_singleton.1 hx]; decide
  · exact ⟨h, by omega⟩
mutual
theorem show_lb : ∀ (n : Nd), (∀ x, x ∈ showT n → x < 256) ∧ (showT n).length + 3 ≤ 2320 * wtR n
  | .mk k s l => by
    obtain ⟨h1, h2⟩ := showL_lb k true l
    obtain ⟨h3, h4⟩ := set_lb s
    obtain ⟨h5, h6⟩ := tail_lb k
    rw [showT, wtR]
    split
    · exact ⟨by decide, by show 2 + 3 ≤ _; omega⟩
    split
    · exact ⟨h3, by omega⟩
    · refine ⟨fun x hx => ?_, by rw [List.length_append]; omega⟩
      rcases List.mem_append.1 hx with hx | hx
      · exact h1 x hx
      · exact h5 x hx
theorem showL_lb : ∀ (k : Int) (f : Bool) (l : List Nd), (∀ x, x ∈ showL k f l → x < 256) ∧ (showL k f l).length ≤ 2320 * wtL l
  | k, f, [] => by rw [showL]; exact ⟨(fun x hx => by cases hx), Nat.zero_le _⟩
  | k, f, n :: l => by
    obtain ⟨h1, h2⟩ := show_lb n
    obtain ⟨h3, h4⟩ := showL_lb k false l
    obtain ⟨h5, h6⟩ := wrap_lb k n.kind (showT n) h1
    rw [showL, wtL]
    have h7 : (∀ x, x ∈ (if k = 3 ∧ f = false then [124] else ([] : List Nat)) → x < 256) ∧ (if k = 3 ∧ f = false then [124] else ([] : List Nat)).length ≤ 1 := by
      split
      · exact ⟨by decide, by decide⟩
      · exact ⟨by decide, by decide⟩
    refine ⟨fun x hx => ?_, by rw [List.length_append, List.length_append]; have := h7.2; omega⟩
    rcases List.mem_append.1 hx with hx | hx
    · rcases List.mem_append.1 hx with hx | hx
      · exact h7.1 x hx
      · exact h5 x hx
    · exact h3 x hx
end
theorem text_eq (n : Nd) : textR n = if (mayR n && decide (deepR n ≤ 200)) = true then showT n else [] := by
  unfold textR
  simp only [Bool.and_eq_true, decide_eq_true_eq]
set_option maxRecDepth 100000 in
set_option maxHeartbeats 4000000 in
theorem pshow_any (n : Nd) (x : Value) (w : World) (hx : NodeF (fun _ => True) w n x) (hw : wtR n ≤ 100000) :
    Calls Tryd.prog 12 #[x] w fun e w' => e = .returned (.string (strR (textR n))) ∧ Below w.heap.size w w' := by
  have hx2 : NodeF (fun k => k < w.heap.size) w n x := hx.mono fun k hk _ => hk
  obtain ⟨hs, u, rfl, hu⟩ := hx
  obtain ⟨uo, uc, rfl, _⟩ := hu.form
  have hb1 := alloc_under w (.cells #[.int .i64 n.kind, .int .u64 (n.set.1 : Int), .int .u64 (n.set.2.1 : Int), .int .u64 (n.set.2.2.1 : Int), .int .u64 (n.set.2.2.2 : Int), .slice uo n.kids.length uc] 26)
  have hbx := boxN.new 26 w n.kind n.set (.slice uo n.kids.length uc)
  have hsz := alloc_size w (.cells #[.int .i64 n.kind, .int .u64 (n.set.1 : Int), .int .u64 (n.set.2.1 : Int), .int .u64 (n.set.2.2.1 : Int), .int .u64 (n.set.2.2.2 : Int), .slice uo n.kids.length uc] 26)
  obtain ⟨W1, hW1⟩ : ∃ W1, (w.alloc (.cells #[.int .i64 n.kind, .int .u64 (n.set.1 : Int), .int .u64 (n.set.2.1 : Int), .int .u64 (n.set.2.2.1 : Int), .int .u64 (n.set.2.2.2 : Int), .slice uo n.kids.length uc] 26)) = W1 := ⟨_, rfl⟩
  rw [hW1] at hb1 hbx hsz
  have H1 := Lib.hid (And.intro hbx (And.intro (hx2.below hb1) (And.intro hb1 hsz)))
  have HM := Lib.hid (pmay_any n _ W1 ((hx2.below hb1).mono fun _ _ _ => trivial) hw)
  have HT := Lib.hid (text_eq n)
  have hlb := show_lb n
  have HLB := Lib.hid (And.intro hlb.1 (show (showT n).length ≤ 400000000 by have := hlb.2; omega))
  obtain ⟨⟨x0, x1, x2, x3, x4, x5⟩, _⟩ := hbx.cells
  unfold nodeV at HM
  unfold nodeV
  clear hx2 hs hu hb1 hbx hsz hlb
  rcases hmb : (mayR n && decide (deepR n ≤ 200)) with _ | _
  · rw [hmb] at HM HT
    clear hmb
    go_enter Tryd.func12, Tryd.ntmps12
    go_wp2_with fail
    go_fit HM.out
    rintro e w3 ⟨rfl, hb3⟩
    have HB := Lib.hid (show Below w.heap.size w w3 from H1.out.2.2.1.trans (hb3.mono H1.out.2.2.1.size))
    clear hb3
    go_wp2_with fail
    go_ret
    exact ⟨by rw [HT.out]; rfl, HB.out⟩
  · rw [hmb] at HM HT
    have HMR : Hid (mayR n = true) := by
      rw [Bool.and_eq_true] at hmb
      exact hmb.1
    clear hmb
    go_enter Tryd.func12, Tryd.ntmps12
    go_wp2_with fail
    go_fit HM.out
    rintro e w3 ⟨rfl, hb3⟩
    have hb4 := alloc_under w3 (.cells #[.pointer none, .slice none 0 0] 78)
    have hbld := BldW.new w3
    obtain ⟨W4, hW4⟩ : ∃ W4, (w3.alloc (.cells #[.pointer none, .slice none 0 0] 78)) = W4 := ⟨_, rfl⟩
    rw [hW4] at hb4 hbld
    have hz3 := hb3.size
    have hz4 := H1.out.2.2.1.size
    have HBX := Lib.hid ((H1.out.1.below hb3).below hb4)
    have HN := Lib.hid (((H1.out.2.1.below hb3).below hb4).mono (ok' := fun k => k < w3.heap.size) fun k _ hk => by omega)
    have HB := Lib.hid (show Below w.heap.size w W4 ∧ w.heap.size ≤ w3.heap.size from ⟨(H1.out.2.2.1.trans (hb3.mono hz4)).trans (hb4.mono (by omega)), by omega⟩)
    have HC0 := pwrite_any _ n (Nat.le_refl _) HMR.out w3.heap.size [] _ W4 HN.out hbld (by show 0 + _ ≤ _; have := HLB.out.2; omega)
    unfold nodeV at HC0
    have HC := Lib.hid HC0
    clear hb3 hb4 hbld hz3 hz4 HC0 x0 x1 x2 x3 x4 x5
    obtain ⟨⟨x0, x1, x2, x3, x4, x5⟩, _⟩ := HBX.out.cells
    go_wp2_with fail
    go_fit HC.out
    rintro e w5 ⟨rfl, h1, h2⟩
    rw [List.nil_append] at h1
    have HS := Lib.hid (bstring_any h1 HLB.out.1)
    have HB2 := Lib.hid (show Below w.heap.size w w5 from HB.out.1.trans (h2.bel.mono HB.out.2))
    clear h1 h2
    go_wp2_with fail
    go_fit HS.out
    rintro e w6 ⟨rfl, h2⟩
    have HB3 := Lib.hid (show Below w.heap.size w w6 from HB2.out.trans (h2.bel.mono HB.out.2))
    clear h2
    go_wp2_with fail
    go_ret
    exact ⟨by rw [HT.out]; rfl, HB3.out⟩
end Go.Proofs.YtkopbngnhgdfhaaDoor
