/-
  regs.write: what it writes, of every node that may be.
-/
import Derived.Deep.AppendSrc
import Derived.StillTailTactics
import Derived.Test.YtkopbngnhgdfhaaDoorBe18
import Derived.Test.YtkopbngnhgdfhaaDoorBe40
namespace Go.Proofs.YtkopbngnhgdfhaaDoor
open Go.RowKit

theorem showL_snoc (k : Int) (n : Nd) : ∀ (l : List Nd) (f : Bool), showL k f (l ++ [n]) = showL k f l ++ ((if k = 3 ∧ (f = false ∨ l ≠ []) then [124] else []) ++ wrapT k n.kind (showT n))
  | [], f => by
    rw [List.nil_append, showL, showL, showL, List.append_nil, List.nil_append]
    congr 1
    by_cases hk : k = 3 <;> cases f <;> simp [hk]
  | m :: r, f => by
    rw [List.cons_append, showL, showL_snoc k n r false, showL, List.append_assoc _ (showL k false r)]
    congr 2
    by_cases hk : k = 3 <;> simp [hk]
theorem showL_take (k : Int) (l : List Nd) (i : Nat) (n : Nd) (h : l[i]? = some n) : showL k true (l.take (i + 1)) = showL k true (l.take i) ++ ((if k = 3 ∧ 0 < i then [124] else []) ++ wrapT k n.kind (showT n)) := by
  rw [List.take_add_one, h]
  show showL k true (l.take i ++ [n]) = _
  rw [showL_snoc]
  congr 3
  have hl := (List.getElem?_eq_some_iff.1 h).1
  by_cases e : 0 < i
  · have : l.take i ≠ [] := fun e2 => by
      rcases List.take_eq_nil_iff.1 e2 with h9 | h9
      · omega
      · rw [h9] at hl; exact absurd hl (Nat.not_lt_zero _)
    simp [e, this]
  · obtain rfl : i = 0 := by omega
    simp
theorem showL_le (k : Int) (l : List Nd) : ∀ i, i ≤ l.length → (showL k true (l.take i)).length ≤ (showL k true l).length := fun i hi => by
  have key : ∀ m i, i + m = l.length → (showL k true (l.take i)).length ≤ (showL k true l).length := by
    intro m
    induction m with
    | zero => intro i h; rw [List.take_of_length_le (by omega)]; exact Nat.le_refl _
    | succ m ih =>
      intro i h
      have h1 := ih (i + 1) (by omega)
      rw [showL_take k l i _ (List.getElem?_eq_getElem (by omega)), List.length_append] at h1
      omega
  exact key (l.length - i) i (by omega)
theorem may_kid {n x : Nd} (h : mayR n = true) (hx : x ∈ n.kids) : mayR x = true := by
  cases n with
  | mk k s l =>
    rw [mayR, Bool.and_eq_true] at h
    have h2 := h.2
    have key : ∀ (l : List Nd), mayL l = true → ∀ x, x ∈ l → mayR x = true := by
      intro l
      induction l with
      | nil => intro _ x hx; cases hx
      | cons m r ih =>
        intro h x hx
        rw [mayL, Bool.and_eq_true] at h
        rcases List.mem_cons.1 hx with rfl | hx
        · exact h.1
        · exact ih h.2 x hx
    exact key l h2 x hx
theorem may_shape {n : Nd} (h : mayR n = true) : (n.kind = 0 ∧ n.kids = []) ∨ (n.kind = 1 ∧ n.kids = []) ∨ ((n.kind = 2 ∨ n.kind = 3) ∧ 2 ≤ n.kids.length) ∨ ((n.kind = 4 ∨ n.kind = 5 ∨ n.kind = 6) ∧ n.kids.length = 1) := by
  cases n with
  | mk k s l =>
    rw [mayR, Bool.and_eq_true] at h
    have h1 := h.1
    unfold formR at h1
    simp only [Bool.and_eq_true, Bool.or_eq_true, Bool.not_eq_true', Bool.and_eq_false_iff, decide_eq_true_eq, decide_eq_false_iff_not, Bool.or_eq_false_iff] at h1
    show (k = 0 ∧ l = []) ∨ (k = 1 ∧ l = []) ∨ ((k = 2 ∨ k = 3) ∧ 2 ≤ l.length) ∨ ((k = 4 ∨ k = 5 ∨ k = 6) ∧ l.length = 1)
    obtain ⟨⟨⟨⟨⟨h0, h6⟩, h2⟩, h3⟩, h4⟩, _⟩ := h1
    by_cases e : k < 2
    · have hl : l = [] := by
        rcases h2 with h2 | h2
        · exact absurd e h2
        · exact List.eq_nil_of_length_eq_zero (by omega)
      by_cases e0 : k = 0
      · exact .inl ⟨e0, hl⟩
      · exact .inr (.inl ⟨by omega, hl⟩)
    · by_cases e4 : 4 ≤ k
      · refine .inr (.inr (.inr ⟨by omega, ?_⟩))
        rcases h3 with h3 | h3
        · exact absurd e4 h3
        · omega
      · refine .inr (.inr (.inl ⟨by omega, ?_⟩))
        rcases h4 with h4 | h4
        · omega
        · omega
theorem show_eq (n : Nd) : showT n = if n.kind = 0 then [40, 41] else if n.kind = 1 then setT n.set else showL n.kind true n.kids ++ tailT n.kind := by
  cases n
  rw [showT]
  rfl
theorem tailT_none {k : Int} (h : k = 2 ∨ k = 3) : tailT k = [] := by rcases h with rfl | rfl <;> rfl
section
variable {b : Nat} {L : List Nat} {w : World} {n : Nd} {u : Value}
set_option maxRecDepth 100000 in
set_option maxHeartbeats 4000000 in
theorem pwrite_leaf (hk0 : n.kind = 0) (hu : KidsF (fun k => k < b) w n.kids u) (h : BldW b L w) (hl : L.length + (showT n).length ≤ 400000000) :
    Calls Tryd.prog 31 #[.pointer (some ⟨b, 0, none⟩), nodeV n u] w (WrO b L (showT n) w) := by
  obtain ⟨uo, uc, rfl, _⟩ := hu.form
  have HT : Hid (showT n = [40, 41]) := by
    show _ = _
    rw [show_eq, if_pos hk0]
  have hb1 := alloc_under w (.cells #[.int .i64 n.kind, .int .u64 (n.set.1 : Int), .int .u64 (n.set.2.1 : Int), .int .u64 (n.set.2.2.1 : Int), .int .u64 (n.set.2.2.2 : Int), .slice uo n.kids.length uc] 26)
  have H0 := Lib.hid (show BldW b L _ ∧ WrK b w _ from ⟨h.under hb1, wrK_under hb1 (Nat.le_of_lt h.lt)⟩)
  have HC := Lib.hid (bwstr_any ⟨#[40, 41]⟩ [40, 41] rfl H0.out.1 (by show _ + 2 ≤ _; omega))
  rw [hk0] at H0 HC
  unfold nodeV
  rw [hk0]
  clear hb1 h hl hu hk0
  go_enter Tryd.func31, Tryd.ntmps31
  go_wp2_with fail
  go_fit HC.out
  rintro e w1 ⟨rfl, h1, h2⟩
  have H := Lib.hid (And.intro h1 (H0.out.2.trans h2))
  clear h1 h2
  go_wp2_with fail
  go_end0
  exact ⟨rfl, by rw [HT.out]; exact H.out.1, H.out.2⟩
set_option maxRecDepth 100000 in
set_option maxHeartbeats 4000000 in
theorem pwrite_set (hk1 : n.kind = 1) (hs : OkR n.set) (hu : KidsF (fun k => k < b) w n.kids u) (h : BldW b L w) (hl : L.length + (showT n).length ≤ 400000000) :
    Calls Tryd.prog 31 #[.pointer (some ⟨b, 0, none⟩), nodeV n u] w (WrO b L (showT n) w) := by
  obtain ⟨uo, uc, rfl, _⟩ := hu.form
  have HT : Hid (showT n = setT n.set) := by
    show _ = _
    rw [show_eq, if_neg (by omega), if_pos hk1]
  have hb1 := alloc_under w (.cells #[.int .i64 n.kind, .int .u64 (n.set.1 : Int), .int .u64 (n.set.2.1 : Int), .int .u64 (n.set.2.2.1 : Int), .int .u64 (n.set.2.2.2 : Int), .slice uo n.kids.length uc] 26)
  have H0 := Lib.hid (show BldW b L _ ∧ WrK b w _ from ⟨h.under hb1, wrK_under hb1 (Nat.le_of_lt h.lt)⟩)
  have HC := Lib.hid (fun W => pspansOf_any n.set W hs)
  have HW := Lib.hid (fun (N : Nat) (v : Value) W (hv : SpnW N W v (spS n.set 256)) (hW : BldW b L W) (hbN : b < N) => pwriteSet_any n.set hv hW (by omega) hbN)
  rw [hk1] at H0
  unfold nodeV
  rw [hk1]
  unfold setV at HC
  obtain ⟨⟨s0, s1, s2, s3⟩, hss⟩ : ∃ s, n.set = s := ⟨_, rfl⟩
  rw [hss] at H0 HC HW HT ⊢
  clear hb1 h hl hu hk1 hs hss
  go_enter Tryd.func31, Tryd.ntmps31
  go_wp2_with fail
  go_fit (HC.out _)
  rintro e w1 ⟨v, rfl, h1, h2⟩
  have H1 := Lib.hid (show BldW b L w1 ∧ WrK b w w1 from ⟨H0.out.1.under h2, H0.out.2.trans (wrK_under h2 (Nat.le_of_lt H0.out.1.lt))⟩)
  have HC2 := Lib.hid (HW.out _ v w1 h1 H1.out.1 H0.out.1.lt)
  clear h1 h2 HC HW
  go_wp2_with fail
  go_fit HC2.out
  rintro e w2 ⟨rfl, h1, h2⟩
  have H := Lib.hid (And.intro h1 (H1.out.2.trans h2))
  clear h1 h2
  go_wp2_with fail
  go_end0
  exact ⟨rfl, by rw [HT.out]; exact H.out.1, H.out.2⟩
/-- What lies in memory while write goes over kids. -/
structure WrW (w0 w : World) (b : Nat) (L : List Nat) (n : Nd) (u : Value) (i : Nat) : Prop where
  box : boxN 26 w w0.heap.size n.kind n.set u
  bld : BldW b (L ++ showL n.kind true (n.kids.take i)) w
  kids : KidsF (fun k => k < b) w n.kids u
  wrk : WrK b w0 w
theorem kids_wr {w w' : World} {b : Nat} {l : List Nd} {u : Value} (h : KidsF (fun k => k < b) w l u) (hk : WrK b w w') : KidsF (fun k => k < b) w' l u := h.keep hk.keep fun _ _ h => h
theorem WrW.under {w0 w w' : World} {b : Nat} {L : List Nat} {n : Nd} {u : Value} {i : Nat} (h : WrW w0 w b L n u i) (hb : Below w.heap.size w w') : WrW w0 w' b L n u i :=
  ⟨h.box.below hb, h.bld.under hb, h.kids.under hb, h.wrk.trans (wrK_under hb (Nat.le_of_lt h.bld.lt))⟩
set_option maxRecDepth 100000 in
set_option maxHeartbeats 4000000 in
theorem pwrite_some (hk : n.kind = 2 ∨ n.kind = 3) (hs : OkR n.set) (hu : KidsF (fun k => k < b) w n.kids u) (h : BldW b L w) (hl : L.length + (showT n).length ≤ 400000000) (IH : ∀ x, x ∈ n.kids → WriteC x) :
    Calls Tryd.prog 31 #[.pointer (some ⟨b, 0, none⟩), nodeV n u] w (WrO b L (showT n) w) := by
  obtain ⟨uo, uc, rfl, hul, hub⟩ := hu.form
  have hsh : showT n = showL n.kind true n.kids := by rw [show_eq, if_neg (by omega), if_neg (by omega), tailT_none hk, List.append_nil]
  have HT := Lib.hid hsh
  rw [hsh] at hl
  have HLL : Hid (∀ i, i ≤ n.kids.length → L.length + (showL n.kind true (n.kids.take i)).length ≤ 400000000) := fun i hi => by have := showL_le n.kind n.kids i hi; omega
  have hb1 := alloc_under w (.cells #[.int .i64 n.kind, .int .u64 (n.set.1 : Int), .int .u64 (n.set.2.1 : Int), .int .u64 (n.set.2.2.1 : Int), .int .u64 (n.set.2.2.2 : Int), .slice uo n.kids.length uc] 26)
  have H0 := Lib.hid (show WrW w _ b L n _ 0 from ⟨boxN.new _ _ _ _ _, by rw [List.take_zero, showL, List.append_nil]; exact h.under hb1, hu.under hb1, wrK_under hb1 (Nat.le_of_lt h.lt)⟩)
  have HBL := Lib.hid (show w.heap.size ≠ b by have := h.lt; omega)
  have HIH := Lib.hid IH
  have HWB := Lib.hid (fun (c : Nat) (M : List Nat) W (hM : M.length ≤ 600000000) (hW : BldW b M W) => bwbyte_any c hW (by omega))
  have HS := Lib.hid hs
  have HTK := Lib.hid (showL_take n.kind n.kids)
  obtain ⟨m, hm⟩ : ∃ m, n.kids.length = m := ⟨_, rfl⟩
  have HM := Lib.hid hm
  have e0 : (n.kind == 0) = false := beq_eq_false_iff_ne.2 (by omega)
  have e1 : (n.kind == 1) = false := beq_eq_false_iff_ne.2 (by omega)
  have e23 : ((n.kind == 2) = true ∧ (n.kind == 3) = false ∧ n.kind = 2) ∨ ((n.kind == 2) = false ∧ (n.kind == 3) = true ∧ n.kind = 3) := by
    rcases hk with e | e
    · exact .inl ⟨by rw [e]; rfl, by rw [e]; rfl, e⟩
    · exact .inr ⟨by rw [e]; rfl, by rw [e]; rfl, e⟩
  rw [hm] at H0 hul hub HLL
  unfold nodeV
  rw [hm]
  clear hb1 h hl hu hsh IH hs hk hm
  rcases e23 with ⟨e2, e3, ek⟩ | ⟨e2, e3, ek⟩
  all_goals have HEK := Lib.hid ek
  all_goals clear ek
  · go_enter Tryd.func31, Tryd.ntmps31
    go_wp2_with fail
    obtain ⟨W1, hW1⟩ : ∃ W1, (w.alloc (.cells #[.int .i64 n.kind, .int .u64 (n.set.1 : Int), .int .u64 (n.set.2.1 : Int), .int .u64 (n.set.2.2.1 : Int), .int .u64 (n.set.2.2.2 : Int), .slice uo m uc] 26)) = W1 := ⟨_, rfl⟩
    rw [hW1] at H0 ⊢
    clear hW1
    go_loopw [37] (fun s37 wr => ∃ i : Nat, s37 = .int .i64 (i : Int) ∧ i ≤ m ∧ Hid (WrW w wr b L n (.slice uo m uc) i)) (fun s37 _ => m - (intOf s37).toNat)
    case atStart => exact ⟨0, rfl, Nat.zero_le _, H0⟩
    case round =>
      obtain ⟨i, rfl, hi, HI⟩ := hrel
      clear H0
      have i0 : (0 : Int) ≤ (i : Int) := by omega
      by_cases hlt : i < m
      · have hli : (i : Int) < (m : Int) := by omega
        have HX := Lib.hid (show boxN 26 wr w.heap.size n.kind n.set (.slice uo m uc) ∧ BldW b (L ++ showL n.kind true (n.kids.take i)) wr ∧ KidsF (fun k => k < b) wr n.kids (.slice uo m uc) ∧ WrK b w wr from ⟨HI.out.box, HI.out.bld, HI.out.kids, HI.out.wrk⟩)
        have HSEP : Hid ((if n.kind = 3 ∧ 0 < i then [124] else []) = ([] : List Nat)) := if_neg (by have := HEK.out; omega)
        obtain ⟨⟨x0, x1, x2, x3, x4, x5⟩, _⟩ := HX.out.1.cells
        obtain ⟨g, o, c1, xv, hua, hc1, hoa, hka, hga, _, _⟩ := HX.out.2.2.1.at_ (i := i) (n := n.kids[i]'(by rw [HM.out]; exact hlt)) (List.getElem?_eq_getElem _)
        have hmem := List.getElem_mem (l := n.kids) (n := i) (by rw [HM.out]; exact hlt)
        obtain ⟨q, hq⟩ : ∃ q, n.kids[i]'(by rw [HM.out]; exact hlt) = q := ⟨_, rfl⟩
        rw [hq] at hoa hka hga hmem
        have hqi : n.kids[i]? = some q := by rw [← hq]; exact List.getElem?_eq_getElem _
        have eg : uo = some ⟨g, o, none⟩ := by injection hua
        subst eg
        have y0 := hga 0 _ (by decide) rfl
        have y1 := hga 1 _ (by decide) rfl
        have y2 := hga 2 _ (by decide) rfl
        have y3 := hga 3 _ (by decide) rfl
        have y4 := hga 4 _ (by decide) rfl
        have y5 := hga 5 _ (by decide) rfl
        simp only [Nat.add_zero, ← Nat.add_assoc] at y0 y1 y2 y3 y4 y5
        have HQ := Lib.hid (And.intro hoa (And.intro hka (HIH.out q hmem)))
        have HQI := Lib.hid (HTK.out i q hqi)
        have HLN := Lib.hid (HLL.out (i + 1) hlt)
        clear hga hoa hka hmem hqi hq hua
        go_wp2_with fail
        go_still_tail 7, (by kernel_rfl)
        change wpList _ _ _ _ _ (wr).drew
        obtain ⟨Wd, hWd⟩ : ∃ Wd, (wr).drew = Wd := ⟨_, rfl⟩
        rw [hWd]
        have hbd : Below (wr).heap.size (wr) Wd := by rw [← hWd]; exact ⟨rfl, rfl, rfl, Nat.le_refl _, fun _ _ => rfl⟩
        have HY := Lib.hid (show boxN 26 Wd w.heap.size n.kind n.set (.slice (some ⟨g, o, none⟩) m uc) ∧ BldW b (L ++ showL n.kind true (n.kids.take i)) Wd ∧ KidsF (fun k => k < b) Wd n.kids (.slice (some ⟨g, o, none⟩) m uc) ∧ WrK b w Wd from
          ⟨HX.out.1.below hbd, HX.out.2.1.under hbd, HX.out.2.2.1.under hbd, HX.out.2.2.2.trans (wrK_under hbd (Nat.le_of_lt HX.out.2.1.lt))⟩)
        have HC := Lib.hid (pwkid_any (n := n) (kid := q) (y := nodeV q xv) (x := nodeV n (.slice (some ⟨g, o, none⟩) m uc)) ⟨HS.out, _, rfl, HY.out.2.2.1⟩ ⟨HQ.out.1, xv, rfl, HQ.out.2.1.under hbd⟩ HY.out.2.1
          (by
            have h9 := HLN.out
            rw [HQI.out, HSEP.out] at h9
            simp only [List.length_append] at h9 ⊢
            omega) HQ.out.2.2)
        unfold nodeV at HC
        clear hWd hbd HX x0 x1 x2 x3 x4 x5 y0 y1 y2 y3 y4 y5
        go_wp2_with fail
        go_fit HC.out
        rintro e w6 ⟨rfl, h1, h2⟩
        have H6 := Lib.hid (show WrW w w6 b L n (.slice (some ⟨g, o, none⟩) m uc) (i + 1) from
          ⟨boxN_wr HY.out.1 h2 HBL.out, by
            rw [HQI.out, HSEP.out]
            have h3 := h1
            simp only [List.append_assoc, List.nil_append] at h3 ⊢
            exact h3, kids_wr HY.out.2.2.1 h2, HY.out.2.2.2.trans h2⟩)
        clear h1 h2 HC HY
        go_wp2_with fail
        go_roundw
        case rel => exact ⟨i + 1, by go_num, by omega, H6.out⟩
        case measure => (simp [intOf]; omega)
      · obtain rfl : m = i := by omega
        have HF : Hid (BldW b (L ++ showT n) wr ∧ WrK b w wr) := ⟨by
          rw [HT.out]
          have h3 := HI.out.bld
          rw [List.take_of_length_le (by rw [HM.out]; exact Nat.le_refl _)] at h3
          exact h3, HI.out.wrk⟩
        go_wp2_with fail
        go_end0
        exact ⟨rfl, HF.out⟩
  · go_enter Tryd.func31, Tryd.ntmps31
    go_wp2_with fail
    obtain ⟨W1, hW1⟩ : ∃ W1, (w.alloc (.cells #[.int .i64 n.kind, .int .u64 (n.set.1 : Int), .int .u64 (n.set.2.1 : Int), .int .u64 (n.set.2.2.1 : Int), .int .u64 (n.set.2.2.2 : Int), .slice uo m uc] 26)) = W1 := ⟨_, rfl⟩
    rw [hW1] at H0 ⊢
    clear hW1
    go_loopw [37] (fun s37 wr => ∃ i : Nat, s37 = .int .i64 (i : Int) ∧ i ≤ m ∧ Hid (WrW w wr b L n (.slice uo m uc) i)) (fun s37 _ => m - (intOf s37).toNat)
    case atStart => exact ⟨0, rfl, Nat.zero_le _, H0⟩
    case round =>
      obtain ⟨i, rfl, hi, HI⟩ := hrel
      clear H0
      have i0 : (0 : Int) ≤ (i : Int) := by omega
      by_cases hlt : i < m
      · have hli : (i : Int) < (m : Int) := by omega
        by_cases hz : 0 < i
        · have HSEP : Hid ((if n.kind = 3 ∧ 0 < i then [124] else []) = [124]) := if_pos ⟨HEK.out, hz⟩
          have k1 : (0 : Int) < (i : Int) := by omega
          have HCW := Lib.hid (HWB.out 124 _ wr (by have := HLL.out i hi; rw [List.length_append]; omega) HI.out.bld)
          obtain ⟨⟨x0, x1, x2, x3, x4, x5⟩, _⟩ := HI.out.box.cells
          go_wp2_with fail
          go_fit HCW.out
          rintro e w3 ⟨rfl, h1, h2⟩
          have HX := Lib.hid (show boxN 26 w3 w.heap.size n.kind n.set (.slice uo m uc) ∧ BldW b (L ++ showL n.kind true (n.kids.take i) ++ [124]) w3 ∧ KidsF (fun k => k < b) w3 n.kids (.slice uo m uc) ∧ WrK b w w3 from ⟨boxN_wr HI.out.box h2 HBL.out, h1, kids_wr HI.out.kids h2, HI.out.wrk.trans h2⟩)
          clear h1 h2 HCW x0 x1 x2 x3 x4 x5
          obtain ⟨⟨x0, x1, x2, x3, x4, x5⟩, _⟩ := HX.out.1.cells
          obtain ⟨g, o, c1, xv, hua, hc1, hoa, hka, hga, _, _⟩ := HX.out.2.2.1.at_ (i := i) (n := n.kids[i]'(by rw [HM.out]; exact hlt)) (List.getElem?_eq_getElem _)
          have hmem := List.getElem_mem (l := n.kids) (n := i) (by rw [HM.out]; exact hlt)
          obtain ⟨q, hq⟩ : ∃ q, n.kids[i]'(by rw [HM.out]; exact hlt) = q := ⟨_, rfl⟩
          rw [hq] at hoa hka hga hmem
          have hqi : n.kids[i]? = some q := by rw [← hq]; exact List.getElem?_eq_getElem _
          have eg : uo = some ⟨g, o, none⟩ := by injection hua
          subst eg
          have y0 := hga 0 _ (by decide) rfl
          have y1 := hga 1 _ (by decide) rfl
          have y2 := hga 2 _ (by decide) rfl
          have y3 := hga 3 _ (by decide) rfl
          have y4 := hga 4 _ (by decide) rfl
          have y5 := hga 5 _ (by decide) rfl
          simp only [Nat.add_zero, ← Nat.add_assoc] at y0 y1 y2 y3 y4 y5
          have HQ := Lib.hid (And.intro hoa (And.intro hka (HIH.out q hmem)))
          have HQI := Lib.hid (HTK.out i q hqi)
          have HLN := Lib.hid (HLL.out (i + 1) hlt)
          clear hga hoa hka hmem hqi hq hua
          go_wp2_with fail
          go_still_tail 7, (by kernel_rfl)
          change wpList _ _ _ _ _ (w3).drew
          obtain ⟨Wd, hWd⟩ : ∃ Wd, (w3).drew = Wd := ⟨_, rfl⟩
          rw [hWd]
          have hbd : Below (w3).heap.size (w3) Wd := by rw [← hWd]; exact ⟨rfl, rfl, rfl, Nat.le_refl _, fun _ _ => rfl⟩
          have HY := Lib.hid (show boxN 26 Wd w.heap.size n.kind n.set (.slice (some ⟨g, o, none⟩) m uc) ∧ BldW b (L ++ showL n.kind true (n.kids.take i) ++ [124]) Wd ∧ KidsF (fun k => k < b) Wd n.kids (.slice (some ⟨g, o, none⟩) m uc) ∧ WrK b w Wd from
            ⟨HX.out.1.below hbd, HX.out.2.1.under hbd, HX.out.2.2.1.under hbd, HX.out.2.2.2.trans (wrK_under hbd (Nat.le_of_lt HX.out.2.1.lt))⟩)
          have HC := Lib.hid (pwkid_any (n := n) (kid := q) (y := nodeV q xv) (x := nodeV n (.slice (some ⟨g, o, none⟩) m uc)) ⟨HS.out, _, rfl, HY.out.2.2.1⟩ ⟨HQ.out.1, xv, rfl, HQ.out.2.1.under hbd⟩ HY.out.2.1
            (by
              have h9 := HLN.out
              rw [HQI.out, HSEP.out] at h9
              simp only [List.length_append] at h9 ⊢
              omega) HQ.out.2.2)
          unfold nodeV at HC
          clear hWd hbd HX x0 x1 x2 x3 x4 x5 y0 y1 y2 y3 y4 y5
          go_wp2_with fail
          go_fit HC.out
          rintro e w6 ⟨rfl, h1, h2⟩
          have H6 := Lib.hid (show WrW w w6 b L n (.slice (some ⟨g, o, none⟩) m uc) (i + 1) from
            ⟨boxN_wr HY.out.1 h2 HBL.out, by
              rw [HQI.out, HSEP.out]
              have h3 := h1
              simp only [List.append_assoc] at h3 ⊢
              exact h3, kids_wr HY.out.2.2.1 h2, HY.out.2.2.2.trans h2⟩)
          clear h1 h2 HC HY
          go_wp2_with fail
          go_roundw
          case rel => exact ⟨i + 1, by go_num, by omega, H6.out⟩
          case measure => (simp [intOf]; omega)
        · have HX := Lib.hid (show boxN 26 wr w.heap.size n.kind n.set (.slice uo m uc) ∧ BldW b (L ++ showL n.kind true (n.kids.take i)) wr ∧ KidsF (fun k => k < b) wr n.kids (.slice uo m uc) ∧ WrK b w wr from ⟨HI.out.box, HI.out.bld, HI.out.kids, HI.out.wrk⟩)
          have HSEP : Hid ((if n.kind = 3 ∧ 0 < i then [124] else []) = ([] : List Nat)) := if_neg (by have := HEK.out; omega)
          have k1 : ¬ (0 : Int) < (i : Int) := by omega
          obtain ⟨⟨x0, x1, x2, x3, x4, x5⟩, _⟩ := HX.out.1.cells
          obtain ⟨g, o, c1, xv, hua, hc1, hoa, hka, hga, _, _⟩ := HX.out.2.2.1.at_ (i := i) (n := n.kids[i]'(by rw [HM.out]; exact hlt)) (List.getElem?_eq_getElem _)
          have hmem := List.getElem_mem (l := n.kids) (n := i) (by rw [HM.out]; exact hlt)
          obtain ⟨q, hq⟩ : ∃ q, n.kids[i]'(by rw [HM.out]; exact hlt) = q := ⟨_, rfl⟩
          rw [hq] at hoa hka hga hmem
          have hqi : n.kids[i]? = some q := by rw [← hq]; exact List.getElem?_eq_getElem _
          have eg : uo = some ⟨g, o, none⟩ := by injection hua
          subst eg
          have y0 := hga 0 _ (by decide) rfl
          have y1 := hga 1 _ (by decide) rfl
          have y2 := hga 2 _ (by decide) rfl
          have y3 := hga 3 _ (by decide) rfl
          have y4 := hga 4 _ (by decide) rfl
          have y5 := hga 5 _ (by decide) rfl
          simp only [Nat.add_zero, ← Nat.add_assoc] at y0 y1 y2 y3 y4 y5
          have HQ := Lib.hid (And.intro hoa (And.intro hka (HIH.out q hmem)))
          have HQI := Lib.hid (HTK.out i q hqi)
          have HLN := Lib.hid (HLL.out (i + 1) hlt)
          clear hga hoa hka hmem hqi hq hua
          go_wp2_with fail
          go_still_tail 7, (by kernel_rfl)
          change wpList _ _ _ _ _ (wr).drew
          obtain ⟨Wd, hWd⟩ : ∃ Wd, (wr).drew = Wd := ⟨_, rfl⟩
          rw [hWd]
          have hbd : Below (wr).heap.size (wr) Wd := by rw [← hWd]; exact ⟨rfl, rfl, rfl, Nat.le_refl _, fun _ _ => rfl⟩
          have HY := Lib.hid (show boxN 26 Wd w.heap.size n.kind n.set (.slice (some ⟨g, o, none⟩) m uc) ∧ BldW b (L ++ showL n.kind true (n.kids.take i)) Wd ∧ KidsF (fun k => k < b) Wd n.kids (.slice (some ⟨g, o, none⟩) m uc) ∧ WrK b w Wd from
            ⟨HX.out.1.below hbd, HX.out.2.1.under hbd, HX.out.2.2.1.under hbd, HX.out.2.2.2.trans (wrK_under hbd (Nat.le_of_lt HX.out.2.1.lt))⟩)
          have HC := Lib.hid (pwkid_any (n := n) (kid := q) (y := nodeV q xv) (x := nodeV n (.slice (some ⟨g, o, none⟩) m uc)) ⟨HS.out, _, rfl, HY.out.2.2.1⟩ ⟨HQ.out.1, xv, rfl, HQ.out.2.1.under hbd⟩ HY.out.2.1
            (by
              have h9 := HLN.out
              rw [HQI.out, HSEP.out] at h9
              simp only [List.length_append] at h9 ⊢
              omega) HQ.out.2.2)
          unfold nodeV at HC
          clear hWd hbd HX x0 x1 x2 x3 x4 x5 y0 y1 y2 y3 y4 y5
          go_wp2_with fail
          go_fit HC.out
          rintro e w6 ⟨rfl, h1, h2⟩
          have H6 := Lib.hid (show WrW w w6 b L n (.slice (some ⟨g, o, none⟩) m uc) (i + 1) from
            ⟨boxN_wr HY.out.1 h2 HBL.out, by
              rw [HQI.out, HSEP.out]
              have h3 := h1
              simp only [List.append_assoc, List.nil_append] at h3 ⊢
              exact h3, kids_wr HY.out.2.2.1 h2, HY.out.2.2.2.trans h2⟩)
          clear h1 h2 HC HY
          go_wp2_with fail
          go_roundw
          case rel => exact ⟨i + 1, by go_num, by omega, H6.out⟩
          case measure => (simp [intOf]; omega)
      · obtain rfl : m = i := by omega
        have HF : Hid (BldW b (L ++ showT n) wr ∧ WrK b w wr) := ⟨by
          rw [HT.out]
          have h3 := HI.out.bld
          rw [List.take_of_length_le (by rw [HM.out]; exact Nat.le_refl _)] at h3
          exact h3, HI.out.wrk⟩
        go_wp2_with fail
        go_end0
        exact ⟨rfl, HF.out⟩
set_option maxRecDepth 100000 in
set_option maxHeartbeats 4000000 in
theorem pwrite_one (hk : n.kind = 4 ∨ n.kind = 5 ∨ n.kind = 6) (h1k : n.kids.length = 1) (hs : OkR n.set) (hu : KidsF (fun k => k < b) w n.kids u) (h : BldW b L w) (hl : L.length + (showT n).length ≤ 400000000) (IH : ∀ x, x ∈ n.kids → WriteC x) :
    Calls Tryd.prog 31 #[.pointer (some ⟨b, 0, none⟩), nodeV n u] w (WrO b L (showT n) w) := by
  obtain ⟨q, hq⟩ := List.length_eq_one_iff.1 h1k
  obtain ⟨g, o, uc, xv, rfl, hc1, hoa, hka, hga, _, _⟩ := hu.at_ (i := 0) (n := q) (by rw [hq]; rfl)
  have HQ := Lib.hid (And.intro hoa (And.intro hka (IH q (by rw [hq]; simp))))
  have hsh : showT n = wrapT n.kind q.kind (showT q) ++ tailT n.kind := by
    rw [show_eq, if_neg (by omega), if_neg (by omega), hq, showL, showL, List.append_nil, if_neg (by rintro ⟨h, _⟩; omega), List.nil_append]
  have htl : (tailT n.kind).length = 1 := by rcases hk with e | e | e <;> (rw [e]; rfl)
  have HL : Hid (L.length + (wrapT n.kind q.kind (showT q)).length + 1 ≤ 400000000) := by
    show _ ≤ _
    rw [hsh, List.length_append, htl] at hl
    omega
  have HT := Lib.hid hsh
  have hb1 := alloc_under w (.cells #[.int .i64 n.kind, .int .u64 (n.set.1 : Int), .int .u64 (n.set.2.1 : Int), .int .u64 (n.set.2.2.1 : Int), .int .u64 (n.set.2.2.2 : Int), .slice (some ⟨g, o, none⟩) n.kids.length uc] 26)
  have HB := Lib.hid (show WrK b w _ from wrK_under hb1 (Nat.le_of_lt h.lt))
  have HY := Lib.hid (show boxN 26 (w.alloc (.cells #[.int .i64 n.kind, .int .u64 (n.set.1 : Int), .int .u64 (n.set.2.1 : Int), .int .u64 (n.set.2.2.1 : Int), .int .u64 (n.set.2.2.2 : Int), .slice (some ⟨g, o, none⟩) n.kids.length uc] 26)) w.heap.size n.kind n.set (.slice (some ⟨g, o, none⟩) n.kids.length uc) ∧ BldW b L _ ∧ KidsF (fun k => k < b) _ n.kids (.slice (some ⟨g, o, none⟩) n.kids.length uc) ∧ KidsF (fun k => k < b) _ q.kids xv from ⟨boxN.new _ _ _ _ _, h.under hb1, hu.under hb1, hka.under hb1⟩)
  have hgl : ∀ (j : Nat) y, j < 6 → (nodeC q xv)[j]? = some y → (w.alloc (.cells #[.int .i64 n.kind, .int .u64 (n.set.1 : Int), .int .u64 (n.set.2.1 : Int), .int .u64 (n.set.2.2.1 : Int), .int .u64 (n.set.2.2.2 : Int), .slice (some ⟨g, o, none⟩) n.kids.length uc] 26)).cell? ⟨g, o + (0 * 6 + j), none⟩ = some y := fun j y hj hy => by
    have := hga j y hj hy
    rw [hb1.cell (p := ⟨g, _, none⟩) (rlt this)]; exact this
  have HBL := Lib.hid (show w.heap.size ≠ b by have := h.lt; omega)
  have HS := Lib.hid hs
  have hm : n.kids.length = 1 := h1k
  clear hga hoa hka hb1 h hl hu hs IH hq hsh htl h1k hc1
  unfold nodeV
  obtain ⟨K, hK⟩ : ∃ K, n.kind = K := ⟨_, rfl⟩
  have HK := Lib.hid hK
  rw [hm] at HY HB hgl ⊢
  clear hm
  rw [hK] at hk HL HT HY HB hgl ⊢
  clear hK
  rcases hk with rfl | rfl | rfl
  · go_enter Tryd.func31, Tryd.ntmps31
    obtain ⟨W1, hW1⟩ : ∃ W1, (w.alloc (.cells #[.int .i64 4, .int .u64 (n.set.1 : Int), .int .u64 (n.set.2.1 : Int), .int .u64 (n.set.2.2.1 : Int), .int .u64 (n.set.2.2.2 : Int), .slice (some ⟨g, o, none⟩) 1 uc] 26)) = W1 := ⟨_, rfl⟩
    rw [hW1] at HY HB hgl
    obtain ⟨⟨x0, x1, x2, x3, x4, x5⟩, _⟩ := HY.out.1.cells
    have y0 := hgl 0 _ (by decide) rfl
    have y1 := hgl 1 _ (by decide) rfl
    have y2 := hgl 2 _ (by decide) rfl
    have y3 := hgl 3 _ (by decide) rfl
    have y4 := hgl 4 _ (by decide) rfl
    have y5 := hgl 5 _ (by decide) rfl
    simp only [Nat.zero_mul, Nat.zero_add, Nat.add_zero] at y0 y1 y2 y3 y4 y5
    clear hgl
    go_wp2_with fail
    try rw [hW1]
    clear hW1
    go_still_tail 6, (by kernel_rfl)
    change wpList _ _ _ _ _ W1.drew
    obtain ⟨Wd, hWd⟩ : ∃ Wd, W1.drew = Wd := ⟨_, rfl⟩
    rw [hWd]
    have hbd : Below W1.heap.size W1 Wd := by rw [← hWd]; exact ⟨rfl, rfl, rfl, Nat.le_refl _, fun _ _ => rfl⟩
    have HZ := Lib.hid (show boxN 26 Wd w.heap.size 4 n.set (.slice (some ⟨g, o, none⟩) 1 uc) ∧ BldW b L Wd ∧ WrK b w Wd from ⟨HY.out.1.below hbd, HY.out.2.1.under hbd, HB.out.trans (wrK_under hbd (Nat.le_of_lt HY.out.2.1.lt))⟩)
    have HC0 : Hid (Calls Tryd.prog 54 #[.pointer (some ⟨b, 0, none⟩), nodeV n (.slice (some ⟨g, o, none⟩) 1 uc), nodeV q xv] Wd (WrO b L (wrapT n.kind q.kind (showT q)) Wd)) :=
      pwkid_any (n := n) (kid := q) (y := nodeV q xv) (x := nodeV n (.slice (some ⟨g, o, none⟩) 1 uc)) ⟨HS.out, _, rfl, HY.out.2.2.1.under hbd⟩ ⟨HQ.out.1, xv, rfl, HY.out.2.2.2.under hbd⟩ (HY.out.2.1.under hbd)
        (by have := HL.out; rw [HK.out]; omega) HQ.out.2.2
    have HC := HC0
    unfold nodeV at HC
    rw [HK.out] at HC
    clear hWd hbd HY x0 x1 x2 x3 x4 x5 y0 y1 y2 y3 y4 y5 HC0
    go_wp2_with fail
    go_fit HC.out
    rintro e w6 ⟨rfl, h1, h2⟩
    have H6 := Lib.hid (show boxN 26 w6 w.heap.size 4 n.set (.slice (some ⟨g, o, none⟩) 1 uc) ∧ BldW b (L ++ wrapT 4 q.kind (showT q)) w6 ∧ WrK b w w6 from ⟨boxN_wr HZ.out.1 h2 HBL.out, h1, HZ.out.2.2.trans h2⟩)
    clear h1 h2 HC HZ
    obtain ⟨⟨x0, x1, x2, x3, x4, x5⟩, _⟩ := H6.out.1.cells
    have HCW := Lib.hid (bwbyte_any 42 H6.out.2.1 (by have := HL.out; rw [List.length_append]; omega))
    go_wp2_with fail
    go_fit HCW.out
    rintro e w7 ⟨rfl, h1, h2⟩
    have HF : Hid (BldW b (L ++ showT n) w7 ∧ WrK b w w7) := ⟨by
      rw [HT.out, ← List.append_assoc]
      exact h1, H6.out.2.2.trans h2⟩
    clear h1 h2
    go_wp2_with fail
    go_end0
    exact ⟨rfl, HF.out⟩
  · go_enter Tryd.func31, Tryd.ntmps31
    obtain ⟨W1, hW1⟩ : ∃ W1, (w.alloc (.cells #[.int .i64 5, .int .u64 (n.set.1 : Int), .int .u64 (n.set.2.1 : Int), .int .u64 (n.set.2.2.1 : Int), .int .u64 (n.set.2.2.2 : Int), .slice (some ⟨g, o, none⟩) 1 uc] 26)) = W1 := ⟨_, rfl⟩
    rw [hW1] at HY HB hgl
    obtain ⟨⟨x0, x1, x2, x3, x4, x5⟩, _⟩ := HY.out.1.cells
    have y0 := hgl 0 _ (by decide) rfl
    have y1 := hgl 1 _ (by decide) rfl
    have y2 := hgl 2 _ (by decide) rfl
    have y3 := hgl 3 _ (by decide) rfl
    have y4 := hgl 4 _ (by decide) rfl
    have y5 := hgl 5 _ (by decide) rfl
    simp only [Nat.zero_mul, Nat.zero_add, Nat.add_zero] at y0 y1 y2 y3 y4 y5
    clear hgl
    go_wp2_with fail
    try rw [hW1]
    clear hW1
    go_still_tail 6, (by kernel_rfl)
    change wpList _ _ _ _ _ W1.drew
    obtain ⟨Wd, hWd⟩ : ∃ Wd, W1.drew = Wd := ⟨_, rfl⟩
    rw [hWd]
    have hbd : Below W1.heap.size W1 Wd := by rw [← hWd]; exact ⟨rfl, rfl, rfl, Nat.le_refl _, fun _ _ => rfl⟩
    have HZ := Lib.hid (show boxN 26 Wd w.heap.size 5 n.set (.slice (some ⟨g, o, none⟩) 1 uc) ∧ BldW b L Wd ∧ WrK b w Wd from ⟨HY.out.1.below hbd, HY.out.2.1.under hbd, HB.out.trans (wrK_under hbd (Nat.le_of_lt HY.out.2.1.lt))⟩)
    have HC0 : Hid (Calls Tryd.prog 54 #[.pointer (some ⟨b, 0, none⟩), nodeV n (.slice (some ⟨g, o, none⟩) 1 uc), nodeV q xv] Wd (WrO b L (wrapT n.kind q.kind (showT q)) Wd)) :=
      pwkid_any (n := n) (kid := q) (y := nodeV q xv) (x := nodeV n (.slice (some ⟨g, o, none⟩) 1 uc)) ⟨HS.out, _, rfl, HY.out.2.2.1.under hbd⟩ ⟨HQ.out.1, xv, rfl, HY.out.2.2.2.under hbd⟩ (HY.out.2.1.under hbd)
        (by have := HL.out; rw [HK.out]; omega) HQ.out.2.2
    have HC := HC0
    unfold nodeV at HC
    rw [HK.out] at HC
    clear hWd hbd HY x0 x1 x2 x3 x4 x5 y0 y1 y2 y3 y4 y5 HC0
    go_wp2_with fail
    go_fit HC.out
    rintro e w6 ⟨rfl, h1, h2⟩
    have H6 := Lib.hid (show boxN 26 w6 w.heap.size 5 n.set (.slice (some ⟨g, o, none⟩) 1 uc) ∧ BldW b (L ++ wrapT 5 q.kind (showT q)) w6 ∧ WrK b w w6 from ⟨boxN_wr HZ.out.1 h2 HBL.out, h1, HZ.out.2.2.trans h2⟩)
    clear h1 h2 HC HZ
    obtain ⟨⟨x0, x1, x2, x3, x4, x5⟩, _⟩ := H6.out.1.cells
    have HCW := Lib.hid (bwbyte_any 43 H6.out.2.1 (by have := HL.out; rw [List.length_append]; omega))
    go_wp2_with fail
    go_fit HCW.out
    rintro e w7 ⟨rfl, h1, h2⟩
    have HF : Hid (BldW b (L ++ showT n) w7 ∧ WrK b w w7) := ⟨by
      rw [HT.out, ← List.append_assoc]
      exact h1, H6.out.2.2.trans h2⟩
    clear h1 h2
    go_wp2_with fail
    go_end0
    exact ⟨rfl, HF.out⟩
  · go_enter Tryd.func31, Tryd.ntmps31
    obtain ⟨W1, hW1⟩ : ∃ W1, (w.alloc (.cells #[.int .i64 6, .int .u64 (n.set.1 : Int), .int .u64 (n.set.2.1 : Int), .int .u64 (n.set.2.2.1 : Int), .int .u64 (n.set.2.2.2 : Int), .slice (some ⟨g, o, none⟩) 1 uc] 26)) = W1 := ⟨_, rfl⟩
    rw [hW1] at HY HB hgl
    obtain ⟨⟨x0, x1, x2, x3, x4, x5⟩, _⟩ := HY.out.1.cells
    have y0 := hgl 0 _ (by decide) rfl
    have y1 := hgl 1 _ (by decide) rfl
    have y2 := hgl 2 _ (by decide) rfl
    have y3 := hgl 3 _ (by decide) rfl
    have y4 := hgl 4 _ (by decide) rfl
    have y5 := hgl 5 _ (by decide) rfl
    simp only [Nat.zero_mul, Nat.zero_add, Nat.add_zero] at y0 y1 y2 y3 y4 y5
    clear hgl
    go_wp2_with fail
    try rw [hW1]
    clear hW1
    go_still_tail 6, (by kernel_rfl)
    change wpList _ _ _ _ _ W1.drew
    obtain ⟨Wd, hWd⟩ : ∃ Wd, W1.drew = Wd := ⟨_, rfl⟩
    rw [hWd]
    have hbd : Below W1.heap.size W1 Wd := by rw [← hWd]; exact ⟨rfl, rfl, rfl, Nat.le_refl _, fun _ _ => rfl⟩
    have HZ := Lib.hid (show boxN 26 Wd w.heap.size 6 n.set (.slice (some ⟨g, o, none⟩) 1 uc) ∧ BldW b L Wd ∧ WrK b w Wd from ⟨HY.out.1.below hbd, HY.out.2.1.under hbd, HB.out.trans (wrK_under hbd (Nat.le_of_lt HY.out.2.1.lt))⟩)
    have HC0 : Hid (Calls Tryd.prog 54 #[.pointer (some ⟨b, 0, none⟩), nodeV n (.slice (some ⟨g, o, none⟩) 1 uc), nodeV q xv] Wd (WrO b L (wrapT n.kind q.kind (showT q)) Wd)) :=
      pwkid_any (n := n) (kid := q) (y := nodeV q xv) (x := nodeV n (.slice (some ⟨g, o, none⟩) 1 uc)) ⟨HS.out, _, rfl, HY.out.2.2.1.under hbd⟩ ⟨HQ.out.1, xv, rfl, HY.out.2.2.2.under hbd⟩ (HY.out.2.1.under hbd)
        (by have := HL.out; rw [HK.out]; omega) HQ.out.2.2
    have HC := HC0
    unfold nodeV at HC
    rw [HK.out] at HC
    clear hWd hbd HY x0 x1 x2 x3 x4 x5 y0 y1 y2 y3 y4 y5 HC0
    go_wp2_with fail
    go_fit HC.out
    rintro e w6 ⟨rfl, h1, h2⟩
    have H6 := Lib.hid (show boxN 26 w6 w.heap.size 6 n.set (.slice (some ⟨g, o, none⟩) 1 uc) ∧ BldW b (L ++ wrapT 6 q.kind (showT q)) w6 ∧ WrK b w w6 from ⟨boxN_wr HZ.out.1 h2 HBL.out, h1, HZ.out.2.2.trans h2⟩)
    clear h1 h2 HC HZ
    obtain ⟨⟨x0, x1, x2, x3, x4, x5⟩, _⟩ := H6.out.1.cells
    have HCW := Lib.hid (bwbyte_any 63 H6.out.2.1 (by have := HL.out; rw [List.length_append]; omega))
    go_wp2_with fail
    go_fit HCW.out
    rintro e w7 ⟨rfl, h1, h2⟩
    have HF : Hid (BldW b (L ++ showT n) w7 ∧ WrK b w w7) := ⟨by
      rw [HT.out, ← List.append_assoc]
      exact h1, H6.out.2.2.trans h2⟩
    clear h1 h2
    go_wp2_with fail
    go_end0
    exact ⟨rfl, HF.out⟩
theorem pwrite_any : ∀ (d : Nat) (n : Nd), deepR n ≤ d → mayR n = true → WriteC n
  | 0, n, hd, _ => by have := deep_pos n; omega
  | d + 1, n, hd, hm => by
    intro b L x w hx h hl
    obtain ⟨hs, u, rfl, hu⟩ := hx
    have IH : ∀ x, x ∈ n.kids → WriteC x := fun x hxn => pwrite_any d x (by rw [deep_kids] at hd; have := (deepL_iff n.kids d).1 (by omega) x hxn; exact this) (may_kid hm hxn)
    rcases may_shape hm with ⟨h1, _⟩ | ⟨h1, _⟩ | ⟨h1, _⟩ | ⟨h1, h2⟩
    · exact pwrite_leaf h1 hu h hl
    · exact pwrite_set h1 hs hu h hl
    · exact pwrite_some h1 hs hu h hl IH
    · exact pwrite_one h1 h2 hs hu h hl IH
end
end Go.Proofs.YtkopbngnhgdfhaaDoor
