/-
  Texts of this proof, one behind the other; each begins with its own remark.
-/
import Derived.Test.YtkopbngnhgdfhaaDoorBe17
import Derived.Test.YtkopbngnhgdfhaaDoorBe11
/-
  regs.writeSet, for every set.
-/
namespace Go.Proofs.YtkopbngnhgdfhaaDoor
open Go.RowKit

section
variable {b N : Nat} {L : List Nat} {w : World} {v : Value}
set_option maxRecDepth 100000 in
set_option maxHeartbeats 4000000 in
theorem pwriteSet_none (s : St4) (hv : SpnW N w v (spS s 256)) (h : BldW b L w) (hl : L.length ≤ 500000000) (he : spS s 256 = []) :
    Calls Tryd.prog 51 #[.pointer (some ⟨b, 0, none⟩), v] w (WrO b L (setT s) w) := by
  rw [he] at hv
  obtain ⟨ao, cap, rfl⟩ := hv.form
  have HT := Lib.hid (sp_none s he)
  have HC := Lib.hid (bwstr_any ⟨#[91, 94, 92, 120, 48, 48, 45, 92, 120, 102, 102, 93]⟩ [91, 94, 92, 120, 48, 48, 45, 92, 120, 102, 102, 93] rfl h (by show _ + 12 ≤ _; omega))
  clear hv h hl he
  go_enter Tryd.func51, Tryd.ntmps51
  go_wp2_with fail
  go_fit HC.out
  rintro e w1 ⟨rfl, h1, h2⟩
  have H := Lib.hid (And.intro h1 h2)
  clear h1 h2
  go_wp2_with fail
  go_end0
  exact ⟨rfl, by rw [HT.out]; exact H.out.1, H.out.2⟩
set_option maxRecDepth 100000 in
set_option maxHeartbeats 4000000 in
theorem pwriteSet_one (s : St4) (f : Nat) (hv : SpnW N w v (spS s 256)) (h : BldW b L w) (hl : L.length ≤ 500000000) (he : spS s 256 = [(f, f)]) :
    Calls Tryd.prog 51 #[.pointer (some ⟨b, 0, none⟩), v] w (WrO b L (setT s) w) := by
  have hm := (sp_inv s 256 (Nat.le_refl _)).mem (f, f) (by rw [he]; simp)
  have hf : f < 256 := hm.2.1
  rw [he] at hv
  have HT := Lib.hid (sp_one s f f he rfl)
  obtain ⟨g, cap, rfl, c1, c2⟩ := hv.at_ (i := 0) (f := f) (t := f) rfl
  have HV := Lib.hid (And.intro hv (And.intro h hl))
  have HC := Lib.hid (fun W (hW : BldW b L W) => pwbyte_any f hf hW (by omega))
  have ef : ((f : Int) == (f : Int)) = true := beq_self_eq_true _
  have j0 : (0 : Int) ≤ (f : Int) := by omega
  have j1 : (f : Int) ≤ 255 := by omega
  have key : ∀ nq, Hid (w.drewN nq |>.cell? ⟨g, 0, none⟩ |> fun x => x = some (.int .i64 (f : Int)) ∧ BldW b L (w.drewN nq) ∧ WrK b w (w.drewN nq)) := fun nq => ⟨c1, h.under (drewN_under w nq), wrK_under (drewN_under w nq) (Nat.le_of_lt h.lt)⟩
  clear hv h hl he hm
  go_enter Tryd.func51, Tryd.ntmps51
  go_wp2_with fail
  go_quiet (fail)
  have HK := key nq
  obtain ⟨W1, hW1⟩ : ∃ W1, w.drewN nq = W1 := ⟨_, rfl⟩
  rw [hW1] at HK ⊢
  clear hW1 key c1 c2
  have c1 := HK.out.1
  have HC2 := Lib.hid (HC.out W1 HK.out.2.1)
  clear HC
  go_wp2_with fail
  go_fit HC2.out
  rintro e w1 ⟨rfl, h1, h2⟩
  have H := Lib.hid (And.intro h1 h2)
  clear h1 h2
  go_wp2_with fail
  go_end0
  exact ⟨rfl, by rw [HT.out]; exact H.out.1, HK.out.2.2.trans H.out.2⟩
theorem pwriteSet_any (s : St4) (hv : SpnW N w v (spS s 256)) (h : BldW b L w) (hl : L.length ≤ 500000000) (hbN : b < N) :
    Calls Tryd.prog 51 #[.pointer (some ⟨b, 0, none⟩), v] w (WrO b L (setT s) w) := by
  by_cases he : spS s 256 = []
  · exact pwriteSet_none s hv h hl he
  · by_cases h1 : ∃ f, spS s 256 = [(f, f)]
    · obtain ⟨f, hf⟩ := h1
      exact pwriteSet_one s f hv h hl hf
    · exact pwriteSet_more s hv h hl hbN he fun f t hft e => h1 ⟨f, by rw [hft, e]⟩
end
end Go.Proofs.YtkopbngnhgdfhaaDoor

/-
  regs.writeKid: what it writes, where write does as it should of the kid.
-/
namespace Go.Proofs.YtkopbngnhgdfhaaDoor
open Go.RowKit

/-- What write comes to, of a node. -/
def WriteC (n : Nd) : Prop := ∀ (b : Nat) (L : List Nat) (x : Value) (w : World), NodeF (fun k => k < b) w n x → BldW b L w → L.length + (showT n).length ≤ 400000000 →
  Calls Tryd.prog 31 #[.pointer (some ⟨b, 0, none⟩), x] w (WrO b L (showT n) w)
theorem boxN_wr {w w' : World} {B b : Nat} {k : Int} {s : St4} {u : Value} (h : boxN 26 w B k s u) (hk : WrK b w w') (hne : B ≠ b) : boxN 26 w' B k s u :=
  hk.oth B _ h (fun e => hne (Option.some.inj e)) (fun c fz e => by injection e with _ e2; exact absurd e2 (by decide))
theorem WrK.keep {w w' : World} {b : Nat} (hk : WrK b w w') : KeepW (fun k => k < b) w w' := ⟨hk.bel.os, hk.bel.tape, hk.bel.output, hk.bel.size, fun k _ hkb => hk.bel.block k hkb⟩
theorem nodeF_wr {w w' : World} {b : Nat} {n : Nd} {x : Value} (h : NodeF (fun k => k < b) w n x) (hk : WrK b w w') : NodeF (fun k => k < b) w' n x := h.keep hk.keep fun _ _ h => h
section
variable {b : Nat} {L : List Nat} {w : World} {x y : Value} {n kid : Nd}
set_option maxRecDepth 100000 in
set_option maxHeartbeats 4000000 in
theorem pwkid_any (hx : NodeF (fun k => k < b) w n x) (hy : NodeF (fun k => k < b) w kid y) (h : BldW b L w) (hl : L.length + (wrapT n.kind kid.kind (showT kid)).length ≤ 400000000) (HK : WriteC kid) :
    Calls Tryd.prog 54 #[.pointer (some ⟨b, 0, none⟩), x, y] w (WrO b L (wrapT n.kind kid.kind (showT kid)) w) := by
  obtain ⟨hs, u, rfl, hu⟩ := hx
  obtain ⟨hs2, v, rfl, hv⟩ := hy
  have hy2 : NodeF (fun k => k < b) w kid (nodeV kid v) := ⟨hs2, v, rfl, hv⟩
  obtain ⟨uo, uc, rfl, _⟩ := hu.form
  obtain ⟨vo, vc, rfl, _⟩ := hv.form
  have hblt := h.lt
  have hb1 := alloc_under w (.cells #[.int .i64 n.kind, .int .u64 (n.set.1 : Int), .int .u64 (n.set.2.1 : Int), .int .u64 (n.set.2.2.1 : Int), .int .u64 (n.set.2.2.2 : Int), .slice uo n.kids.length uc] 26)
  obtain ⟨W1, hW1⟩ : ∃ W1, (w.alloc (.cells #[.int .i64 n.kind, .int .u64 (n.set.1 : Int), .int .u64 (n.set.2.1 : Int), .int .u64 (n.set.2.2.1 : Int), .int .u64 (n.set.2.2.2 : Int), .slice uo n.kids.length uc] 26)) = W1 := ⟨_, rfl⟩
  have hz1 : W1.heap.size = w.heap.size + 1 := by rw [← hW1]; exact alloc_size _ _
  have hn1 : boxN 26 W1 w.heap.size n.kind n.set (.slice uo n.kids.length uc) := by rw [← hW1]; exact boxN.new _ _ _ _ _
  rw [hW1] at hb1
  have hb2 := alloc_under W1 (.cells #[.int .i64 kid.kind, .int .u64 (kid.set.1 : Int), .int .u64 (kid.set.2.1 : Int), .int .u64 (kid.set.2.2.1 : Int), .int .u64 (kid.set.2.2.2 : Int), .slice vo kid.kids.length vc] 26)
  have hn2 : boxN 26 (W1.alloc (.cells #[.int .i64 kid.kind, .int .u64 (kid.set.1 : Int), .int .u64 (kid.set.2.1 : Int), .int .u64 (kid.set.2.2.1 : Int), .int .u64 (kid.set.2.2.2 : Int), .slice vo kid.kids.length vc] 26)) W1.heap.size kid.kind kid.set (.slice vo kid.kids.length vc) := boxN.new _ _ _ _ _
  have hn3 := hn1.below hb2
  have hb3 := hb1.trans (hb2.mono (by omega))
  obtain ⟨W2, hW2⟩ : ∃ W2, (W1.alloc (.cells #[.int .i64 kid.kind, .int .u64 (kid.set.1 : Int), .int .u64 (kid.set.2.1 : Int), .int .u64 (kid.set.2.2.1 : Int), .int .u64 (kid.set.2.2.2 : Int), .slice vo kid.kids.length vc] 26)) = W2 := ⟨_, rfl⟩
  rw [hW2] at hn2 hn3 hb3
  have H0 := Lib.hid (show boxN 26 W2 W1.heap.size kid.kind kid.set (.slice vo kid.kids.length vc) ∧ BldW b L W2 ∧ NodeF (fun k => k < b) W2 kid (nodeV kid (.slice vo kid.kids.length vc)) ∧ WrK b w W2 from
    ⟨hn2, h.under hb3, hy2.below hb3, wrK_under hb3 (Nat.le_of_lt hblt)⟩)
  have HBL := Lib.hid (show W1.heap.size ≠ b by omega)
  have HKK := Lib.hid HK
  have HWB := Lib.hid (fun (c : Nat) (M : List Nat) W (hM : M.length ≤ 600000000) (hW : BldW b M W) => bwbyte_any c hW (by omega))
  obtain ⟨y0, y1, y2, y3, y4, y5⟩ := hn2.cells.1
  obtain ⟨x0, _⟩ := hn3.cells.1
  obtain ⟨k, hk⟩ : ∃ k, n.kind = k := ⟨_, rfl⟩
  obtain ⟨kk, hkk⟩ : ∃ kk, kid.kind = kk := ⟨_, rfl⟩
  have HLL := Lib.hid hl
  rw [hk] at x0 HLL
  rw [hkk] at y0 HLL
  simp only [hk, hkk]
  unfold nodeV
  have HE := Lib.hid (And.intro hk hkk)
  have HW1 := Lib.hid hW1
  have HW2 := Lib.hid hW2
  rw [hk] at hW1
  rw [hkk] at hW2 H0
  simp only [hk, hkk]
  clear hs hs2 hu hv h hl HK hb1 hz1 hn1 hb2 hn2 hn3 hb3 hy2 hblt HW1 HW2 hk hkk
  by_cases hw : kk = 3 ∨ kk = 2 ∧ k ≠ 3
  · have HT : Hid (wrapT k kk (showT kid) = [40] ++ showT kid ++ [41]) := by show _ = _; unfold wrapT; rw [if_pos hw]; rfl
    have HLW : Hid (L.length + (showT kid).length + 2 ≤ 400000000) := by
      have h9 := HLL.out
      rw [HT.out, List.length_append, List.length_append] at h9
      have h8 : L.length + ((1 : Nat) + (showT kid).length + (1 : Nat)) ≤ 400000000 := h9
      show _ ≤ _
      omega
    have HC := Lib.hid (HWB.out 40 L W2 (by have := HLW.out; omega) H0.out.2.1)
    have hj : (kk != 3) = false ∨ ((kk != 3) = true ∧ (kk != 2) = false ∧ (k == 3) = false) := by
      rcases hw with e | ⟨e, e2⟩
      · exact .inl (by rw [e]; rfl)
      · exact .inr ⟨by rw [e]; rfl, by rw [e]; rfl, beq_eq_false_iff_ne.2 e2⟩
    clear hw
    rcases hj with i3 | ⟨i3, i2, ik⟩
    all_goals
      go_enter Tryd.func54, Tryd.ntmps54
      go_wp2_with fail
      go_fit HC.out
      rintro e w3 ⟨rfl, h1, h2⟩
      have H3 := Lib.hid (show boxN 26 w3 W1.heap.size kk kid.set (.slice vo kid.kids.length vc) ∧ BldW b (L ++ [40]) w3 ∧ NodeF (fun k => k < b) w3 kid (nodeV kid (.slice vo kid.kids.length vc)) ∧ WrK b w w3 from
        ⟨boxN_wr H0.out.1 h2 HBL.out, h1, nodeF_wr H0.out.2.2.1 h2, H0.out.2.2.2.trans h2⟩)
      clear h1 h2 HC y0 y1 y2 y3 y4 y5
      obtain ⟨y0, y1, y2, y3, y4, y5⟩ := H3.out.1.cells.1
      have HC := Lib.hid (HKK.out b (L ++ [40]) _ w3 H3.out.2.2.1 H3.out.2.1 (by have := HLW.out; rw [List.length_append]; show _ + 1 + _ ≤ _; omega))
      unfold nodeV at HC
      rw [HE.out.2] at HC
      go_wp2_with fail
      go_fit HC.out
      rintro e w4 ⟨rfl, h1, h2⟩
      have H4 := Lib.hid (And.intro h1 (H3.out.2.2.2.trans h2))
      clear h1 h2 HC y0 y1 y2 y3 y4 y5
      have HC := Lib.hid (HWB.out 41 _ w4 (by have := HLW.out; rw [List.length_append, List.length_append]; show _ + 1 + _ ≤ _; omega) H4.out.1)
      go_wp2_with fail
      go_fit HC.out
      rintro e w5 ⟨rfl, h1, h2⟩
      have HF := Lib.hid (And.intro h1 (H4.out.2.trans h2))
      clear h1 h2
      go_wp2_with fail
      go_end0
      exact ⟨rfl, by rw [HT.out, ← List.append_assoc, ← List.append_assoc]; exact HF.out.1, HF.out.2⟩
  · have HT : Hid (wrapT k kk (showT kid) = showT kid) := by show _ = _; unfold wrapT; rw [if_neg hw]
    have HC := Lib.hid (HKK.out b L _ W2 H0.out.2.2.1 H0.out.2.1 (by have := HLL.out; rw [HT.out] at this; exact this))
    unfold nodeV at HC
    rw [HE.out.2] at HC
    have i3 : (kk != 3) = true := bne_iff_ne.2 fun e => hw (.inl e)
    have hj : (kk != 2) = true ∨ ((kk != 2) = false ∧ (k == 3) = true) := by
      by_cases e : kk = 2
      · refine .inr ⟨by rw [e]; rfl, ?_⟩
        by_cases e2 : k = 3
        · rw [e2]; rfl
        · exact absurd (.inr ⟨e, e2⟩) hw
      · exact .inl (bne_iff_ne.2 e)
    clear hw
    rcases hj with i2 | ⟨i2, ik⟩
    all_goals
      go_enter Tryd.func54, Tryd.ntmps54
      go_wp2_with fail
      go_fit HC.out
      rintro e w3 ⟨rfl, h1, h2⟩
      have HF := Lib.hid (And.intro h1 (H0.out.2.2.2.trans h2))
      clear h1 h2
      go_wp2_with fail
      go_end0
      exact ⟨rfl, by rw [HT.out]; exact HF.out.1, HF.out.2⟩
end
end Go.Proofs.YtkopbngnhgdfhaaDoor
