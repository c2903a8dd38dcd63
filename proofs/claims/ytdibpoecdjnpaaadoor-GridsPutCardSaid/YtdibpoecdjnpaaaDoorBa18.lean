/-
  Texts of this proof, one behind the other; each begins with its own remark.
-/
import Derived.Maps.AppendAt
import Derived.Test.YtdibpoecdjnpaaaDoorBa17
import Derived.Test.YtdibpoecdjnpaaaDoorBa11
import Derived.Test.YtdibpoecdjnpaaaDoorBa12
import Derived.Test.YtdibpoecdjnpaaaDoorBa15
/-
  limnerref06.Valid: what it returns: for every frame, whatever it is.
-/
namespace Go.Proofs.YtdibpoecdjnpaaaDoor
open Go.RowKit

theorem rvalid_any {ok : Nat → Prop} {v : Value} {f : Frm} (w : World) (h : FrameW ok w v f) :
    Calls Tryd.prog 27 #[v] w fun e w' => e = .returned (.bool (validB f)) ∧ Below w.heap.size w w' := by
  obtain ⟨ao, N, cap, rfl, hn, hcap, hS⟩ := h
  cases h1 : sizedB f.rows f.cols with
  | false =>
    rw [show validB f = false by unfold validB; rw [h1]; rfl]
    exact rvalid_size f w h1
  | true =>
    obtain ⟨k1, k2, k3, k4⟩ := (sizedB_iff _ _).1 h1
    obtain ⟨m, hm⟩ : ∃ m : Nat, f.rows = (m : Int) := ⟨f.rows.toNat, by omega⟩
    obtain ⟨n, hn2⟩ : ∃ n : Nat, f.cols = (n : Int) := ⟨f.cols.toNat, by omega⟩
    have hP : f.rows * f.cols = ((m * n : Nat) : Int) := by rw [hm, hn2, Int.natCast_mul]
    have hle : m * n ≤ 20000 := Nat.mul_le_mul (show m ≤ 100 by omega) (show n ≤ 200 by omega)
    by_cases h2 : (N : Int) = ((m * n : Nat) : Int)
    · cases h3 : withinB f.rows f.cols f.row f.col with
      | false =>
        rw [show validB f = false by unfold validB; rw [h1, h3, Bool.and_false, Bool.false_and]]
        exact rvalid_cursor f w _ h1 hP (by omega) (by omega) h2 h3
      | true =>
        have hN : N = m * n := by omega
        have hpos : 0 < N := by rw [hN]; exact Nat.mul_pos (by omega) (by omega)
        obtain ⟨g, o, rfl, _⟩ := hS.ptr (i := 0) (List.getElem?_eq_getElem (show 0 < f.cells.length by omega))
        refine rvalid_cells f m n w hm hn2 (by omega) (by omega) hN hS hn.symm h3 (validB f) ?_
        rw [← rows_all (m := m) (by omega) (by omega)]
        constructor
        · intro hv
          have ho := (valid_ok hv).each
          have e1 : f.rows.toNat = m := by omega
          have e2 : f.cols.toNat = n := by omega
          rw [e1, e2] at ho
          exact ho
        · intro ho
          have hw := (withinB_iff _ _ _ _).1 h3
          exact OkF.valid ⟨hm, hn2, by omega, by omega, by omega, by omega, by omega, ho⟩
    · rw [show validB f = false by unfold validB; rw [h1, decide_eq_false (by rw [← hn, hP]; exact h2), Bool.and_false, Bool.false_and, Bool.false_and]]
      exact rvalid_len f w _ h1 hP (by omega) (by omega) h2
end Go.Proofs.YtdibpoecdjnpaaaDoor

/-
  limnerref06.Rows: what it returns: for every frame.
-/
namespace Go.Proofs.YtdibpoecdjnpaaaDoor
open Go.RowKit

theorem frb_below {w W : World} {r c a b : Int} {v : Value} (hW : Below (w.heap.size + 1) (w.alloc (.cells #[.int .i64 r, .int .i64 c, v, .int .i64 a, .int .i64 b] 28)) W) : frB W w.heap.size r c v a b ∧ Below w.heap.size w W :=
  ⟨(frB.new w).below hW (by omega), ((Below.refl _ w).alloc (Nat.le_refl _) _).trans (hW.mono (by omega))⟩
theorem frb_start {w : World} {r c a b : Int} {v : Value} : Below w.heap.size w (w.alloc (.cells #[.int .i64 r, .int .i64 c, v, .int .i64 a, .int .i64 b] 28)) := (Below.refl _ w).alloc (Nat.le_refl _) _

/-- What the first k rows show. -/
def rowsU (f : Frm) (n k : Nat) : List ByteArray := (List.range k).map fun j => shownS (rowK f.cells n j)
theorem rowsU_len (f : Frm) (n k : Nat) : (rowsU f n k).length = k := by unfold rowsU; rw [List.length_map, List.length_range]
theorem rowsU_step (f : Frm) (n k : Nat) : rowsU f n (k + 1) = rowsU f n k ++ [shownS (rowK f.cells n k)] := by unfold rowsU; rw [List.range_succ, List.map_append]; rfl
theorem rowsF_ok {f : Frm} {m n : Nat} (h : OkF f m n) : rowsF f = rowsU f n m := by
  unfold rowsF rowsU
  rw [if_pos h.valid, h.nat.1, h.nat.2]

section
variable {ok : Nat → Prop} {ao : Option Addr} {N cap : Nat} {f : Frm}
theorem rrows_bad (w : World) (hS : CelsW ok w (.slice ao N cap) f.cells) (hn : N = f.cells.length) (hcap : N ≤ cap) (hv : validB f = false) :
    Calls Tryd.prog 21 #[.agg #[.int .i64 f.rows, .int .i64 f.cols, .slice ao N cap, .int .i64 f.row, .int .i64 f.col]] w fun e w' => e = .returned (.slice none 0 0) ∧ Below w.heap.size w w' := by
  have HV : Hid (∀ W, Below w.heap.size w W → Calls Tryd.prog 27 #[.agg #[.int .i64 f.rows, .int .i64 f.cols, .slice ao N cap, .int .i64 f.row, .int .i64 f.col]] W fun e w' => e = .returned (.bool false) ∧ Below W.heap.size W w') := fun W hW => by
    have := rvalid_any W (FrameW.below ⟨ao, N, cap, rfl, hn, hcap, hS⟩ hW)
    rwa [hv] at this
  have HB := Lib.hid (frb_start (w := w) (r := f.rows) (c := f.cols) (v := .slice ao N cap) (a := f.row) (b := f.col))
  clear hS hn hcap hv
  go_enter Tryd.func21, Tryd.ntmps21
  go_wp2_with fail
  go_fit (HV.out _ HB.out)
  rintro e w2 ⟨rfl, hb2⟩
  go_wp2
  go_ret
  exact ⟨rfl, HB.out.trans (hb2.mono HB.out.size)⟩
end
section
variable {ok : Nat → Prop} {g0 o0 N cap m n : Nat} {f : Frm}
set_option maxRecDepth 100000 in
set_option maxHeartbeats 8000000 in
theorem rrows_yes (w : World) (hf : OkF f m n) (hN : N = f.cells.length) (hcap : N ≤ cap) (hS : CelsW ok w (.slice (some ⟨g0, o0, none⟩) N cap) f.cells) :
    Calls Tryd.prog 21 #[.agg #[.int .i64 f.rows, .int .i64 f.cols, .slice (some ⟨g0, o0, none⟩) N cap, .int .i64 f.row, .int .i64 f.col]] w fun e w' => ∃ v, e = .returned v ∧ StrsV AnyB w' v (rowsU f n m) ∧ Below w.heap.size w w' := by
  have HV : Hid (∀ W, Below w.heap.size w W → Calls Tryd.prog 27 #[.agg #[.int .i64 f.rows, .int .i64 f.cols, .slice (some ⟨g0, o0, none⟩) N cap, .int .i64 f.row, .int .i64 f.col]] W fun e w' => e = .returned (.bool true) ∧ Below W.heap.size W w') := fun W hW => by
    have := rvalid_any W (FrameW.below ⟨_, N, cap, rfl, hN, hcap, hS⟩ hW)
    rwa [hf.valid] at this
  have hlen := hf.len
  have hrl := hf.rows
  have hcl := hf.cols
  have hm2 := hf.hm
  have hn2 := hf.hn
  have hNle : N ≤ 20000 := by rw [hN, hlen]; exact Nat.mul_le_mul hm2.2 hn2.2
  have HB := Lib.hid (frb_start (w := w) (r := f.rows) (c := f.cols) (v := .slice (some ⟨g0, o0, none⟩) N cap) (a := f.row) (b := f.col))
  have HFr := Lib.hid (fun W hW => frb_below (w := w) (W := W) (r := f.rows) (c := f.cols) (v := .slice (some ⟨g0, o0, none⟩) N cap) (a := f.row) (b := f.col) hW)
  have HSrc : Hid (∀ i j, i < m → j < n → ∀ dj, i * n + j = dj → ∃ x, (rowK f.cells n i)[j]? = some x ∧ ∀ W, Below w.heap.size w W → cell6 W g0 (o0 + dj * 6) x) := fun i j hi hj dj hdj => by
    obtain ⟨x, hx⟩ : ∃ x, (rowK f.cells n i)[j]? = some x := ⟨_, List.getElem?_eq_getElem (by rw [rowK_len hlen hi]; exact hj)⟩
    refine ⟨x, hx, fun W hW => ?_⟩
    rw [rowK_at, if_pos hj, hdj] at hx
    rw [hN] at hS
    exact (CelsW.below hS hW).get hx
  have HLn : Hid (∀ i, i < m → (rowK f.cells n i).length = n) := fun i hi => rowK_len hlen hi
  have HP := Lib.hid (fun r w => refPut_any r w)
  have HNN : Hid (N = m * n) := by show _ = _; rw [hN, hlen]
  have HFc := Lib.hid hcl
  have HRl := Lib.hid hrl
  obtain ⟨i0, hi0, hz0, hz1, hz2⟩ := info_parts Tryd.infoStrG
  have HI0 := Lib.hid hi0
  have HZ0 := Lib.hid hz0
  have HZ1 := Lib.hid hz1
  have HZ2 := Lib.hid hz2
  have hfr : f.rows ≤ 100 := by omega
  have hfr2 : 2 ≤ f.rows := by omega
  have hfc : f.cols ≤ 200 := by omega
  have hfc2 : 8 ≤ f.cols := by omega
  have hN2 : (N : Int) ≤ 20000 := by omega
  have hmm : m ≤ 100 := hm2.2
  have hnn : n ≤ 200 := hn2.2
  clear hS hf hN hcap hlen hrl hcl hm2 hn2 hNle hi0 hz0 hz1 hz2
  go_enter Tryd.func21, Tryd.ntmps21
  go_wp2_with fail
  go_fit (HV.out _ HB.out)
  rintro e w2 ⟨rfl, hb2⟩
  have hX : Below (w.heap.size + 1) (w.alloc (.cells #[.int .i64 f.rows, .int .i64 f.cols, .slice (some ⟨g0, o0, none⟩) N cap, .int .i64 f.row, .int .i64 f.col] 28)) w2 := by simpa using hb2
  have H0 : Hid (Below (w.heap.size + 1) (w.alloc (.cells #[.int .i64 f.rows, .int .i64 f.cols, .slice (some ⟨g0, o0, none⟩) N cap, .int .i64 f.row, .int .i64 f.col] 28)) w2 ∧ w2.ownsRow (w.heap.size + 1) 9 1 (.slice none 0 0) 0 (strC (rowsU f n 0))) := ⟨hX, World.ownsRow_nil _ _ _ _⟩
  clear HV HB hb2 hX
  go_wp2
  go_loopw [3, 4] (fun s3 s4 wr => ∃ (v : Value) (i : Nat), v = s3 ∧ s4 = .int .i64 (i : Int) ∧ i ≤ m ∧ Hid (Below (w.heap.size + 1) (w.alloc (.cells #[.int .i64 f.rows, .int .i64 f.cols, .slice (some ⟨g0, o0, none⟩) N cap, .int .i64 f.row, .int .i64 f.col] 28)) wr ∧ wr.ownsRow (w.heap.size + 1) 9 1 v i (strC (rowsU f n i)))) (fun _ s4 _ => m - (intOf s4).toNat)
  case atStart => exact ⟨_, 0, rfl, rfl, Nat.zero_le _, H0⟩
  case round =>
    obtain ⟨v, i, rfl, rfl, hi, HI⟩ := hrel
    clear H0
    obtain ⟨⟨x0, x1, x2, x3, x4⟩, _⟩ := (HFr.out _ HI.out.1).1.cells
    by_cases him : i < m
    · have j1 : (i : Int) < f.rows := by have := HRl.out; omega
      obtain ⟨d, hd⟩ : ∃ d, i * n = d := ⟨_, rfl⟩
      have hroomf := row_room (n := n) him
      rw [← HNN.out, hd] at hroomf
      have hmd : (i : Int) * f.cols = (d : Int) := by rw [HFc.out, ← hd, Int.natCast_mul]
      obtain ⟨x, hx⟩ : ∃ x, i + 1 = x := ⟨_, rfl⟩
      have hx1 : (i : Int) + 1 = (x : Int) := by omega
      have HD := Lib.hid hd
      have HX := Lib.hid hx
      have hxm : x ≤ m := by omega
      have e4 : (0 : Int) ≤ (d : Int) := by omega
      have e5 : (d : Int) ≤ 20000 := by omega
      have e7 : (0 : Int) ≤ (i : Int) := by omega
      have e8 : (i : Int) < 100 := by omega
      have HRf := Lib.hid hroomf
      obtain ⟨l, hl⟩ : ∃ l, rowK f.cells n i = l := ⟨_, rfl⟩
      have HL := Lib.hid hl
      have HJ0 : Hid (Below (w.heap.size + 1) (w.alloc (.cells #[.int .i64 f.rows, .int .i64 f.cols, .slice (some ⟨g0, o0, none⟩) N cap, .int .i64 f.row, .int .i64 f.col] 28)) wr ∧ wr.ownsRow (w.heap.size + 1) 9 1 v i (strC (rowsU f n i)) ∧ ((⟨#[]⟩ : ByteArray)).data.toList = shownL (l.take 0)) := ⟨HI.out.1, HI.out.2, rfl⟩
      clear HI hd hroomf hx hl
      go_wp2
      clear x0 x1 x2 x3 x4
      go_loopw [5, 6] (fun s5 s6 wz => ∃ (S : ByteArray) (j : Nat), s5 = .string S ∧ s6 = .int .i64 (j : Int) ∧ j ≤ n ∧ S.size ≤ 4 * j ∧ Hid (Below (w.heap.size + 1) (w.alloc (.cells #[.int .i64 f.rows, .int .i64 f.cols, .slice (some ⟨g0, o0, none⟩) N cap, .int .i64 f.row, .int .i64 f.col] 28)) wz ∧ wz.ownsRow (w.heap.size + 1) 9 1 v i (strC (rowsU f n i)) ∧ S.data.toList = shownL (l.take j))) (fun _ s6 _ => n - (intOf s6).toNat)
      case atStart => exact ⟨_, 0, rfl, rfl, Nat.zero_le _, Nat.le_refl _, HJ0⟩
      case round =>
        obtain ⟨S, j, rfl, rfl, hjn, hSz, HJ⟩ := hrel
        clear HJ0
        obtain ⟨⟨x0, x1, x2, x3, x4⟩, _⟩ := (HFr.out _ HJ.out.1).1.cells
        have hBw := (HFr.out _ HJ.out.1).2
        by_cases hj : j < n
        · have k1 : (j : Int) < f.cols := by have := HFc.out; omega
          obtain ⟨dj, hdj⟩ : ∃ dj, d + j = dj := ⟨_, rfl⟩
          obtain ⟨u, hu, hcu⟩ := HSrc.out i j him hj dj (by rw [HD.out]; exact hdj)
          rw [HL.out] at hu
          obtain ⟨s0, s1, s2, s3, s4, s5⟩ := hcu wr hBw
          have hst := shownL_step l j u hu
          obtain ⟨y, hy⟩ : ∃ y, j + 1 = y := ⟨_, rfl⟩
          rw [hy] at hst
          have hro := HRf.out
          have k2 : (j : Int) + 1 = (y : Int) := by omega
          have k3 : (d : Int) + (j : Int) = (dj : Int) := by omega
          have k5 : (dj : Int) < (N : Int) := by omega
          have k7 : (0 : Int) ≤ (dj : Int) := by omega
          have k9 : (0 : Int) ≤ (j : Int) := by omega
          have k10 : S.size ≤ 800 := by omega
          have hyn : y ≤ n := by omega
          have HY := Lib.hid hy
          by_cases hw : 0 < u.2.1
          · rw [if_pos hw] at hst
            obtain ⟨T, hT⟩ : ∃ T, putB u.1 = T := ⟨_, rfl⟩
            have hTl : T.size ≤ 4 := by rw [← hT]; exact putB_len _
            have hPc := fun w => HP.out u.1 w
            rw [hT] at hst hPc
            have HPc := Lib.hid hPc
            have HS : Hid ((S ++ T).data.toList = shownL (l.take y) ∧ (S ++ T).size ≤ 4 * y) := by
              refine ⟨?_, ?_⟩
              · rw [hst, ← HJ.out.2.2, ByteArray.data_append, Array.toList_append]
              · rw [ByteArray.size_append]; omega
            have HJB : Hid (∀ W, Below wr.heap.size wr W → Below (w.heap.size + 1) (w.alloc (.cells #[.int .i64 f.rows, .int .i64 f.cols, .slice (some ⟨g0, o0, none⟩) N cap, .int .i64 f.row, .int .i64 f.col] 28)) W ∧ W.ownsRow (w.heap.size + 1) 9 1 v i (strC (rowsU f n i))) := fun W hW =>
              ⟨HJ.out.1.trans (hW.mono (by have := HJ.out.1.size; rw [World.size_alloc] at this; exact this)), own_below HJ.out.2.1 hW⟩
            clear hu hcu hst hdj hro hy hT hPc HP HJ hBw
            go_wp2_with fail
            go_fit (HPc.out _)
            rintro e w7 ⟨rfl, hb7⟩
            obtain ⟨q1, q2⟩ := HJB.out w7 hb7
            have H9 := Lib.hid (And.intro q1 (And.intro q2 HS.out.1))
            clear q1 q2 hb7 HPc HJB x0 x1 x2 x3 x4 s0 s1 s2 s3 s4 s5
            go_wp2
            go_roundw
            case rel => exact ⟨S ++ T, y, rfl, rfl, hyn, HS.out.2, H9.out⟩
            case measure => simp [intOf]; have := HY.out; omega
          · rw [if_neg hw, List.append_nil] at hst
            have H9 := Lib.hid (And.intro HJ.out.1 (And.intro HJ.out.2.1 (HJ.out.2.2.trans hst.symm)))
            clear hu hcu hst hdj hro hy HP HJ hBw
            go_wp2
            go_roundw
            case rel => exact ⟨S, y, rfl, rfl, hyn, by have := HY.out; omega, H9.out⟩
            case measure => simp [intOf]; have := HY.out; omega
        · have k1 : ¬ (j : Int) < f.cols := by have := HFc.out; omega
          have hjE : j = n := by omega
          have hS : shownS (rowK f.cells n i) = S := by
            have h1 := HJ.out.2.2
            rw [hjE, List.take_of_length_le (by rw [← HL.out, HLn.out i him]; exact Nat.le_refl _)] at h1
            unfold shownS
            rw [HL.out, ← h1]
          have HS : Hid (strC (rowsU f n x) = strC (rowsU f n i) ++ [.string S]) := by
            show _ = _
            rw [← HX.out, rowsU_step, hS, strC_app]
            rfl
          have hown := HJ.out.2.1
          have hsz := HJ.out.1.size
          rw [World.size_alloc] at hsz
          have HJB := Lib.hid HJ.out.1
          have hxl : x ≤ 100 := by omega
          have hil : i < 100 := by omega
          clear hS HJ HP HSrc hBw
          go_wp2_with (at_builtin; refine wpList_append_own _ rfl _ _ 41 rfl (w.heap.size + 1) 9 i0 (.string ⟨#[]⟩) 1 16 Tryd.underlying41 HI0.out HZ0.out HZ1.out HZ2.out rfl (by decide) _ _ _ rfl (hown.alloc _) ⟨wr.heap.size, 0, none⟩ 1 1 [.string S] rfl rfl (cell_one_new _ _ _) (fun x hx => by simp at hx; subst hx; rfl) (by unfold maxLen; omega) (by omega) (by simp; omega) ?_; intro v' w3 hown' hgrow3 hnil3)
          have H9 : Hid (Below (w.heap.size + 1) (w.alloc (.cells #[.int .i64 f.rows, .int .i64 f.cols, .slice (some ⟨g0, o0, none⟩) N cap, .int .i64 f.row, .int .i64 f.col] 28)) w3 ∧ w3.ownsRow (w.heap.size + 1) 9 1 v' x (strC (rowsU f n x))) := by
            refine ⟨Below.grown (HJB.out.alloc (by omega) _) hgrow3 (by simp; omega) (fun j hj => (hown.lt _ hj).1), ?_⟩
            rw [HS.out]
            have := HX.out
            subst this
            exact hown'
          clear hown' hgrow3 hnil3 hown HJB HS
          go_roundw
          case rel => exact ⟨v', x, rfl, rfl, hxm, H9.out⟩
          case measure => simp [intOf]; have := HX.out; omega
    · have j1 : ¬ (i : Int) < f.rows := by have := HRl.out; omega
      obtain rfl : m = i := by omega
      have HE : Hid (StrsV AnyB wr v (rowsU f n m) ∧ Below w.heap.size w wr) := ⟨own_row HI.out.2 (rowsU_len f n m).symm, (HFr.out _ HI.out.1).2⟩
      clear HI HP HSrc
      go_wp2
      go_ret
      exact ⟨_, rfl, HE.out.1, HE.out.2⟩
end
theorem rrows_any {ok : Nat → Prop} {v : Value} {f : Frm} (w : World) (h : FrameW ok w v f) :
    Calls Tryd.prog 21 #[v] w fun e w' => ∃ u, e = .returned u ∧ StrsV AnyB w' u (rowsF f) ∧ Below w.heap.size w w' := by
  obtain ⟨ao, N, cap, rfl, hn, hcap, hS⟩ := h
  cases hv : validB f with
  | false =>
    rw [show rowsF f = [] by unfold rowsF; rw [hv]; rfl]
    exact (rrows_bad w hS hn hcap hv).mono fun e w' ⟨k1, k2⟩ => ⟨_, k1, RowV.nil _ _, k2⟩
  | true =>
    have hf := valid_ok hv
    obtain ⟨m, hm⟩ : ∃ m, f.rows.toNat = m := ⟨_, rfl⟩
    obtain ⟨n, hnn⟩ : ∃ n, f.cols.toNat = n := ⟨_, rfl⟩
    rw [hm, hnn] at hf
    have h0 : 0 < f.cells.length := by rw [hf.len]; exact Nat.mul_pos (by have := hf.hm; omega) (by have := hf.hn; omega)
    obtain ⟨g, o, rfl, _⟩ := hS.ptr (i := 0) (List.getElem?_eq_getElem h0)
    rw [rowsF_ok hf]
    exact rrows_yes w hf hn hcap hS
end Go.Proofs.YtdibpoecdjnpaaaDoor
