/-
  regs.writeSet: what it writes, of any spans.
-/
import Derived.Test.YtkopbngnhgdfhaaDoorBe14
import Derived.Test.YtkopbngnhgdfhaaDoorBe16
namespace Go.Proofs.YtkopbngnhgdfhaaDoor
open Go.RowKit

/-- What stays while a builder is written, but for bytes: also a row of spans. -/
theorem WrK.span {b N : Nat} {w w' : World} {v : Value} {l : List (Nat × Nat)} (h : SpnW N w v l) (hk : WrK b w w') (hb : b < N) : SpnW N w' v l := by
  obtain ⟨h1, h2⟩ := h
  rcases h2 with h2 | ⟨g, cap, cur, rfl, h4, h5, h6⟩
  · exact ⟨h1, .inl h2⟩
  · exact ⟨h1, .inr ⟨g, cap, cur, rfl, h4, hk.oth g _ h5 (by intro e; have : g = b := Option.some.inj e; omega) (fun c fz e => by injection e with _ e2; exact absurd e2 (by decide)), h6⟩⟩
theorem spC_at : ∀ (l : List (Nat × Nat)) (i : Nat) (f t : Nat), l.reverse[i]? = some (f, t) → (spC l)[i * 2]? = some (.int .i64 (f : Int)) ∧ (spC l)[i * 2 + 1]? = some (.int .i64 (t : Int))
  | [], i, f, t, h => by simp at h
  | p :: r, i, f, t, h => by
    rw [List.reverse_cons] at h
    have hl := spC_len r
    by_cases hi : i < r.length
    · rw [List.getElem?_append_left (by rw [List.length_reverse]; exact hi)] at h
      obtain ⟨h1, h2⟩ := spC_at r i f t h
      rw [spC, List.getElem?_append_left (by omega), List.getElem?_append_left (by omega)]
      exact ⟨h1, h2⟩
    · rw [List.getElem?_append_right (by rw [List.length_reverse]; omega), List.length_reverse] at h
      have hi2 : i = r.length := by
        by_cases e : i - r.length = 0
        · omega
        · rw [show i - r.length = (i - r.length - 1) + 1 by omega] at h
          simp at h
      subst hi2
      rw [Nat.sub_self] at h
      have hp : p = (f, t) := by simpa using h
      subst hp
      rw [spC, List.getElem?_append_right (by omega), List.getElem?_append_right (by omega), hl, show r.length * 2 - r.length * 2 = 0 by omega, show r.length * 2 + 1 - r.length * 2 = 1 by omega]
      exact ⟨rfl, rfl⟩
/-- One span: where its two ends stand. -/
theorem SpnW.at_ {N i f t : Nat} {w : World} {v : Value} {l : List (Nat × Nat)} (h : SpnW N w v l) (hi : l.reverse[i]? = some (f, t)) :
    ∃ g cap, v = .slice (some ⟨g, 0, none⟩) l.length cap ∧ w.cell? ⟨g, i * 2, none⟩ = some (.int .i64 (f : Int)) ∧ w.cell? ⟨g, i * 2 + 1, none⟩ = some (.int .i64 (t : Int)) := by
  have h0 := h
  obtain ⟨h1, h2⟩ := h
  obtain ⟨c1, c2⟩ := spC_at l i f t hi
  rcases h2 with ⟨_, h2⟩ | ⟨g, cap, cur, rfl, _⟩
  · have hl := (List.getElem?_eq_some_iff.1 hi).1
    rw [List.length_reverse] at hl
    omega
  · have k1 := World.ownsRow.cells h0 (g := g) rfl _ _ c1
    have k2 := World.ownsRow.cells h0 (g := g) rfl _ _ c2
    rw [rlit, Nat.zero_add] at k1 k2
    exact ⟨g, cap, rfl, k1, k2⟩
/-- The text of the first i spans of a row, its last one first in the list. -/
def spF (l : List (Nat × Nat)) (i : Nat) : List Nat := (l.reverse.take i).flatMap spT
theorem spF_all : ∀ (l : List (Nat × Nat)), spF l l.length = spsT l
  | [] => rfl
  | p :: r => by
    have ih := spF_all r
    unfold spF at ih ⊢
    rw [List.take_of_length_le (by rw [List.length_reverse]; exact Nat.le_refl _)] at ih ⊢
    rw [List.reverse_cons, List.flatMap_append, ih, spsT]
    simp
theorem spF_step {l : List (Nat × Nat)} {i : Nat} {p : Nat × Nat} (h : l.reverse[i]? = some p) : spF l (i + 1) = spF l i ++ spT p := by
  unfold spF
  rw [List.take_add_one, h, List.flatMap_append]
  simp
theorem byte_len (b : Nat) : (byteR b).length ≤ 4 := by
  unfold byteR
  repeat' split
  all_goals simp
theorem spT_len (p : Nat × Nat) : (spT p).length ≤ 9 := by
  unfold spT
  have h1 := byte_len p.1
  have h2 := byte_len p.2
  split
  · rw [List.length_append, List.length_cons]; omega
  · rw [List.length_append]; show _ + 0 ≤ _; omega
theorem flat_len (l : List (Nat × Nat)) : (l.flatMap spT).length ≤ 9 * l.length := by
  induction l with
  | nil => exact Nat.le_refl _
  | cons p r ih =>
    have := spT_len p
    rw [List.flatMap_cons, List.length_append, List.length_cons]
    omega
theorem spF_len (l : List (Nat × Nat)) (i : Nat) : (spF l i).length ≤ 9 * l.length := by
  have h1 := flat_len (l.reverse.take i)
  have h2 : (l.reverse.take i).length ≤ l.length := by rw [List.length_take, List.length_reverse]; exact Nat.min_le_right _ _
  unfold spF
  omega
/-- A span's box. -/
def SpX (X f t : Nat) (w : World) : Prop := w.heap[X]? = some (.cells #[.int .i64 (f : Int), .int .i64 (t : Int)] 137 (0, 0))
theorem SpX.wr {X f t b : Nat} {w w' : World} (h : SpX X f t w) (hk : WrK b w w') (hne : X ≠ b) : SpX X f t w' :=
  hk.oth X _ h (fun e => hne (Option.some.inj e)) (fun c fz e => by injection e with _ e2; exact absurd e2 (by decide))
theorem SpX.cells {X f t : Nat} {w : World} (h : SpX X f t w) : w.cell? ⟨X, 0, none⟩ = some (.int .i64 (f : Int)) ∧ w.cell? ⟨X, 1, none⟩ = some (.int .i64 (t : Int)) := by
  unfold SpX at h
  constructor <;> simp [World.cell?, h]
/-- What lies in memory while writeSet goes over the spans. -/
structure WsW (w0 w : World) (b N : Nat) (L : List Nat) (v : Value) (l : List (Nat × Nat)) (i : Nat) : Prop where
  bld : BldW b (L ++ 91 :: spF l i) w
  row : SpnW N w v l
  wrk : WrK b w0 w
section
variable {b N : Nat} {L : List Nat} {w : World} {v : Value}
set_option maxRecDepth 100000 in
set_option maxHeartbeats 4000000 in
theorem pwriteSet_more (s : St4) (hv : SpnW N w v (spS s 256)) (h : BldW b L w) (hl : L.length ≤ 500000000) (hbN : b < N) (hne : spS s 256 ≠ []) (h1 : ∀ f t, spS s 256 = [(f, t)] → f ≠ t) :
    Calls Tryd.prog 51 #[.pointer (some ⟨b, 0, none⟩), v] w (WrO b L (setT s) w) := by
  have HT := Lib.hid (sp_more s hne h1)
  have hmem := (sp_inv s 256 (Nat.le_refl _)).mem
  have hlen := sp_len s 256
  obtain ⟨l, hll⟩ : ∃ l, spS s 256 = l := ⟨_, rfl⟩
  rw [hll] at hv HT hmem hlen hne h1
  obtain ⟨ao, cap, hvv⟩ := hv.form
  subst hvv
  have HW := Lib.hid (And.intro hv (And.intro h hl))
  have HM := Lib.hid hmem
  have HWB := Lib.hid (fun (c : Nat) (M : List Nat) W (hM : M.length ≤ 600000000) (hW : BldW b M W) => bwbyte_any c hW (by omega))
  have HPB := Lib.hid (fun (x : Nat) (M : List Nat) W (hx : x < 256) (hM : M.length ≤ 600000000) (hW : BldW b M W) => pwbyte_any x hx hW (by omega))
  have hn1 : 0 < l.length := List.length_pos_iff.2 hne
  have HLN : Hid (∀ i, (L ++ 91 :: spF l i).length ≤ 500100000) := fun i => by
    have := spF_len l i
    rw [List.length_append, List.length_cons]
    omega
  -- the first tests
  have b0 : ((l.length : Int) == 0) = false := beq_eq_false_iff_ne.2 (by omega)
  have hj : ((l.length : Int) == 1) = false ∨ (((l.length : Int) == 1) = true ∧ ∃ g f t, ao = some ⟨g, 0, none⟩ ∧ w.cell? ⟨g, 0, none⟩ = some (.int .i64 f) ∧ w.cell? ⟨g, 1, none⟩ = some (.int .i64 t) ∧ (f == t) = false ∧ l.length = 1) := by
    by_cases e : l.length = 1
    · refine .inr ⟨by rw [e]; rfl, ?_⟩
      obtain ⟨⟨f, t⟩, hp⟩ := List.length_eq_one_iff.1 e
      obtain ⟨g, c, hg, c1, c2⟩ := hv.at_ (i := 0) (f := f) (t := t) (by rw [hp]; rfl)
      injection hg with e1 _ _
      exact ⟨g, (f : Int), (t : Int), e1, c1, c2, beq_eq_false_iff_ne.2 (fun e3 => h1 f t hp (by omega)), e⟩
    · exact .inl (beq_eq_false_iff_ne.2 (by omega))
  obtain ⟨n, hn⟩ : ∃ n, l.length = n := ⟨_, rfl⟩
  rw [hn] at hj b0 hn1 hlen HW ⊢
  have HN := Lib.hid hn
  have HLL := Lib.hid hll
  have HBN := Lib.hid hbN
  clear hv h hl hmem hne h1 hn hll
  have HRed : Hid (∀ W nq, W = w.drewN nq → BldW b L W ∧ SpnW N W (.slice ao n cap) l ∧ WrK b w W) := fun W nq e => by
    have hb := drewN_under w nq
    rw [e]
    exact ⟨HW.out.2.1.under hb, HW.out.1.below hb, wrK_under hb (Nat.le_of_lt HW.out.2.1.lt)⟩
  have key : ∀ (nq : Nat), Hid (BldW b L (w.drewN nq) ∧ SpnW N (w.drewN nq) (.slice ao n cap) l ∧ WrK b w (w.drewN nq)) := fun nq => HRed.out _ nq rfl
  have i1 : (0 : Int) < (n : Int) := by omega
  have n256 : (n : Int) ≤ 256 := by omega
  rcases hj with e1 | ⟨e1, g, f, t, rfl, c1, c2, ef, hone⟩
  all_goals
    go_enter Tryd.func51, Tryd.ntmps51
    go_wp2_with fail
    go_quiet (fail)
    have HK := key nq
    obtain ⟨W1, hW1⟩ : ∃ W1, w.drewN nq = W1 := ⟨_, rfl⟩
    rw [hW1] at HK ⊢
    clear hW1 key HRed
    try clear c1 c2 ef hone
    try (obtain ⟨ao, hao⟩ : ∃ ao : Option Addr, some (⟨g, 0, none⟩ : Addr) = ao := ⟨_, rfl⟩; rw [hao] at HW HK ⊢; clear hao)
    have HC := Lib.hid (HWB.out 91 L W1 (by have := HW.out.2.2; omega) HK.out.1)
    go_wp2_with fail
    go_fit HC.out
    rintro e w3 ⟨rfl, h1, h2⟩
    have H0 := Lib.hid (show WsW w w3 b N L _ l 0 from ⟨h1, h2.span HK.out.2.1 HBN.out, HK.out.2.2.trans h2⟩)
    clear h1 h2 HC HK
    go_wp2_with fail
    go_loopw [36] (fun s36 wr => ∃ i : Nat, s36 = .int .i64 (i : Int) ∧ i ≤ n ∧ Hid (WsW w wr b N L _ l i)) (fun s36 _ => n - (intOf s36).toNat)
    case atStart => exact ⟨0, rfl, Nat.zero_le _, H0⟩
    case round =>
      obtain ⟨i, rfl, hi, HI⟩ := hrel
      clear H0
      have i0 : (0 : Int) ≤ (i : Int) := by omega
      by_cases hlt : i < n
      · have hli : (i : Int) < (n : Int) := by omega
        have hli2 : (i : Int) ≤ 255 := by omega
        obtain ⟨⟨f, t⟩, hft⟩ : ∃ p, l.reverse[i]? = some p := ⟨_, List.getElem?_eq_getElem (by rw [List.length_reverse, HN.out]; exact hlt)⟩
        obtain ⟨hm1, hm2, _⟩ := HM.out (f, t) (List.mem_reverse.1 (List.mem_of_getElem? hft))
        simp only at hm1 hm2
        have HST := Lib.hid (spF_step hft)
        obtain ⟨g, c, hg, c1, c2⟩ := HI.out.row.at_ hft
        have eg : ao = some ⟨g, 0, none⟩ := by injection hg
        clear hg
        subst eg
        have HBL := Lib.hid HI.out.bld.lt
        have hbX := alloc_under wr (.cells #[.int .i64 (f : Int), .int .i64 (t : Int)] 137)
        have hX : SpX wr.heap.size f t (wr.alloc (.cells #[.int .i64 (f : Int), .int .i64 (t : Int)] 137)) := heap_alloc_new wr _
        have hkX := wrK_under hbX (Nat.le_of_lt HBL.out)
        have HX := Lib.hid (And.intro hX (And.intro (HI.out.bld.under hbX) (And.intro (HI.out.row.below hbX) (HI.out.wrk.trans hkX))))
        have j0 : (0 : Int) ≤ (f : Int) := by omega
        have j1 : (f : Int) ≤ 255 := by omega
        have j2 : (0 : Int) ≤ (t : Int) := by omega
        have j3 : (t : Int) ≤ 255 := by omega
        have HF2 := Lib.hid hm2
        have HC := Lib.hid (HPB.out f _ _ (by omega) (Nat.le_trans (HLN.out i) (by omega)) HX.out.2.1)
        clear hbX hX hkX hft
        go_wp2_with fail
        go_fit HC.out
        rintro e w4 ⟨rfl, h1, h2⟩
        have H4 := Lib.hid (show SpX wr.heap.size f t w4 ∧ BldW b (L ++ 91 :: spF l i ++ byteR f) w4 ∧ SpnW N w4 _ l ∧ WrK b w w4 from
          ⟨HX.out.1.wr h2 (by have := HBL.out; omega), h1, h2.span HX.out.2.2.1 HBN.out, HX.out.2.2.2.trans h2⟩)
        clear h1 h2 HC c1 c2
        obtain ⟨X, hXX⟩ : ∃ X, wr.heap.size = X := ⟨_, rfl⟩
        rw [hXX] at HX H4 HBL ⊢
        clear hXX
        obtain ⟨y0, y1⟩ := H4.out.1.cells
        by_cases hft2 : f < t
        · have k1 : (f : Int) < (t : Int) := by omega
          have HT2 : Hid (spT (f, t) = byteR f ++ 45 :: byteR t) := by show _ = _; unfold spT; rw [if_pos hft2]
          have HC := Lib.hid (HWB.out 45 _ w4 (by have := HLN.out i; have := byte_len f; rw [List.length_append]; omega) H4.out.2.1)
          clear hft2
          go_wp2_with fail
          go_fit HC.out
          rintro e w5 ⟨rfl, h1, h2⟩
          have H5 := Lib.hid (show SpX X f t w5 ∧ BldW b (L ++ 91 :: spF l i ++ byteR f ++ [45]) w5 ∧ SpnW N w5 _ l ∧ WrK b w w5 from
            ⟨H4.out.1.wr h2 (by have := HBL.out; omega), h1, h2.span H4.out.2.2.1 HBN.out, H4.out.2.2.2.trans h2⟩)
          clear h1 h2 HC y0 y1
          obtain ⟨y0, y1⟩ := H5.out.1.cells
          have HC := Lib.hid (HPB.out t _ w5 HF2.out (by have := HLN.out i; have := byte_len f; rw [List.length_append, List.length_append]; show _ + 1 ≤ _; omega) H5.out.2.1)
          go_wp2_with fail
          go_fit HC.out
          rintro e w6 ⟨rfl, h1, h2⟩
          have H6 := Lib.hid (show WsW w w6 b N L _ l (i + 1) from ⟨by
            rw [HST.out, HT2.out]
            have h3 := h1
            rw [List.append_assoc, List.append_assoc, List.append_assoc, List.cons_append] at h3
            exact h3, h2.span H5.out.2.2.1 HBN.out, H5.out.2.2.2.trans h2⟩)
          clear h1 h2 HC y0 y1
          go_wp2_with fail
          go_roundw
          case rel => exact ⟨i + 1, by go_num, by omega, H6.out⟩
          case measure => (simp [intOf]; omega)
        · have k1 : ¬ (f : Int) < (t : Int) := by omega
          have HT2 : Hid (spT (f, t) = byteR f) := by show _ = _; unfold spT; rw [if_neg hft2, List.append_nil]
          have H6 := Lib.hid (show WsW w w4 b N L _ l (i + 1) from ⟨by
            rw [HST.out, HT2.out]
            have h3 := H4.out.2.1
            rw [List.append_assoc, List.cons_append] at h3
            exact h3, H4.out.2.2.1, H4.out.2.2.2⟩)
          clear hft2
          go_wp2_with fail
          go_roundw
          case rel => exact ⟨i + 1, by go_num, by omega, H6.out⟩
          case measure => (simp [intOf]; omega)
      · obtain rfl : n = i := by omega
        have HE := Lib.hid (show (L ++ 91 :: spF l n).length ≤ 500100000 from HLN.out n)
        have HC := Lib.hid (HWB.out 93 _ wr (Nat.le_trans HE.out (by omega)) HI.out.bld)
        clear HWB HPB
        go_wp2_with fail
        go_fit HC.out
        rintro e w5 ⟨rfl, h1, h2⟩
        have HF : Hid (BldW b (L ++ setT s) w5 ∧ WrK b w w5) := ⟨by
          rw [HT.out, ← spF_all l, HN.out]
          have h3 := h1
          rw [List.append_assoc, List.cons_append] at h3
          exact h3, HI.out.wrk.trans h2⟩
        clear h1 h2
        go_wp2_with fail
        go_end0
        exact ⟨rfl, HF.out⟩
end
end Go.Proofs.YtkopbngnhgdfhaaDoor
