/-
  limnerref10.rows: what it returns, where atom returns what it should from the place on.
-/
import Derived.Deep.CutBlock
import Derived.Deep.CutRange
import Derived.Test.YtkopbngnhgdfhaaDoorBe31
import Derived.Test.YtkopbngnhgdfhaaDoorBe10
namespace Go.Proofs.YtkopbngnhgdfhaaDoor
open Go.RowKit

/-- While the signs of a piece are read: its node's box beside the rows. -/
structure SgnW (w0 w : World) (A C : Nat) (v6 v7 : Value) (all row : List Nd) (n : Nd) (u : Value) : Prop where
  rws : RwsW w0 w A v6 v7 all row
  a : OutP 90 (A + 1) (fun k => (A + 1 ≤ k ∧ v7.ownBlock ≠ some k) ∧ k ≠ C) w v6 all
  r : OutP 90 (A + 1) (fun k => (A + 1 ≤ k ∧ v6.ownBlock ≠ some k) ∧ k ≠ C) w v7 row
  box : boxN 90 w C n.kind n.set u
  kids : KidsW (fun k => A + 1 ≤ k ∧ v6.ownBlock ≠ some k ∧ v7.ownBlock ≠ some k ∧ k ≠ C) w n.kids u
  ok : OkR n.set
  lo : A + 1 ≤ C ∧ v6.ownBlock ≠ some C ∧ v7.ownBlock ≠ some C
theorem SgnW.under {w0 w w' : World} {A C : Nat} {v6 v7 u : Value} {all row : List Nd} {n : Nd} (h : SgnW w0 w A C v6 v7 all row n u) (hb : Below w.heap.size w w') : SgnW w0 w' A C v6 v7 all row n u :=
  ⟨h.rws.under hb, h.a.under hb, h.r.under hb, h.box.below hb, h.kids.under hb, h.ok, h.lo⟩
theorem set6_size (w : World) (B : Nat) (k : Int) (t : St4) (u : Value) : (set6N w B k t u).heap.size = w.heap.size := by
  unfold set6N set4N World.setCell
  simp only [Array.size_modify]
theorem SgnW.sign {w0 w : World} {A C : Nat} {v6 v7 u : Value} {all row : List Nd} {n : Nd} (h : SgnW w0 w A C v6 v7 all row n u) (K : Int) :
    SgnW w0 ((set6N w C K noR (.slice (some ⟨w.heap.size, 0, none⟩) 1 1)).alloc (.cells #[.int .i64 n.kind, .int .u64 (n.set.1 : Int), .int .u64 (n.set.2.1 : Int), .int .u64 (n.set.2.2.1 : Int), .int .u64 (n.set.2.2.2 : Int), u] 90)).drew A C v6 v7 all row (.mk K noR [n]) (.slice (some ⟨w.heap.size, 0, none⟩) 1 1) := by
  have hk := keep_set6N w C K noR (.slice (some ⟨w.heap.size, 0, none⟩) 1 1)
  have hsz1 := set6_size w C K noR (.slice (some ⟨w.heap.size, 0, none⟩) 1 1)
  have hbx := h.box.set6 K noR (.slice (some ⟨w.heap.size, 0, none⟩) 1 1)
  have hCl := h.box.lt
  have hl6 := h.a.lt
  have hl7 := h.r.lt
  have hlo := h.lo
  have hsz := h.rws.sz
  have ha := h.a.keep hk (fun k e e2 => hlo.2.1 (by rw [← e2]; exact e)) fun k _ hp => hp.2
  have hr := h.r.keep hk (fun k e e2 => hlo.2.2 (by rw [← e2]; exact e)) fun k _ hp => hp.2
  have hres := h.rws.res.keep hk (by omega)
  have hbel := KeepW.below h.rws.bel hk (by omega) (fun k hk2 e => by omega)
  have hkids := h.kids.keep hk fun k _ hp => hp.2.2.2
  obtain ⟨W1, hW1⟩ : ∃ W1, set6N w C K noR (.slice (some ⟨w.heap.size, 0, none⟩) 1 1) = W1 := ⟨_, rfl⟩
  rw [hW1] at hk hsz1 hbx ha hr hres hbel hkids ⊢
  have hX := boxN_node (n := n) (boxN.new 90 W1 n.kind n.set u)
  have hb := alloc_under W1 (.cells #[.int .i64 n.kind, .int .u64 (n.set.1 : Int), .int .u64 (n.set.2.1 : Int), .int .u64 (n.set.2.2.1 : Int), .int .u64 (n.set.2.2.2 : Int), u] 90)
  rw [hsz1] at hX
  have hrw : RwsW w0 W1 A v6 v7 all row := ⟨hres, ha.mono fun k _ hp => hp.1, hr.mono fun k _ hp => hp.1, h.rws.ne, hbel, by omega⟩
  have hkid : KidsW (fun k => A + 1 ≤ k ∧ v6.ownBlock ≠ some k ∧ v7.ownBlock ≠ some k ∧ k ≠ C) (W1.alloc (.cells #[.int .i64 n.kind, .int .u64 (n.set.1 : Int), .int .u64 (n.set.2.1 : Int), .int .u64 (n.set.2.2.1 : Int), .int .u64 (n.set.2.2.2 : Int), u] 90)) [n] (.slice (some ⟨w.heap.size, 0, none⟩) 1 1) := by
    refine ⟨[n], [u], _, by simp, rfl, ⟨_, 1, rfl, Nat.le_refl _, fun j x hx => ⟨w.heap.size, 0, rfl, ⟨by omega, fun e => by have := (hl6 _ e).2; omega, fun e => by have := (hl7 _ e).2; omega, by omega⟩, ?_⟩⟩, (fun i m hm => ?_), fun i m v hm hv => ?_⟩
    · rw [Nat.zero_add]
      have hx2 : (nodeC n u)[j]? = some x := by
        have : nodesC [n] [u] = nodeC n u := by show nodeC n u ++ [] = _; rw [List.append_nil]
        rw [this] at hx; exact hx
      exact hX j x hx2
    · have : i = 0 := by have := (List.getElem?_eq_some_iff.1 hm).1; simpa using this
      subst this
      cases hm
      exact h.ok
    · have : i = 0 := by have := (List.getElem?_eq_some_iff.1 hm).1; simpa using this
      subst this
      cases hm
      cases hv
      exact hkids.under hb
  have hfin : SgnW w0 (W1.alloc (.cells #[.int .i64 n.kind, .int .u64 (n.set.1 : Int), .int .u64 (n.set.2.1 : Int), .int .u64 (n.set.2.2.1 : Int), .int .u64 (n.set.2.2.2 : Int), u] 90)) A C v6 v7 all row (.mk K noR [n]) (.slice (some ⟨w.heap.size, 0, none⟩) 1 1) :=
    ⟨hrw.under hb, ha.under hb, hr.under hb, hbx.below hb, hkid, ok_no, hlo⟩
  exact hfin.under (Below.refl _ _).drew
theorem sign_int (c : Nat) : signI (c : Int) = (signR c : Int) := by
  unfold signI signR
  by_cases h1 : c = 42
  · rw [if_pos (by omega), if_pos h1]; rfl
  by_cases h2 : c = 43
  · rw [if_neg (by omega), if_pos (by omega), if_neg h1, if_pos h2]; rfl
  by_cases h3 : c = 63
  · rw [if_neg (by omega), if_neg (by omega), if_pos (by omega), if_neg h1, if_neg h2, if_pos h3]; rfl
  · rw [if_neg (by omega), if_neg (by omega), if_neg (by omega), if_neg h1, if_neg h2, if_neg h3]; rfl
theorem sgn_pos {s : ByteArray} {k : Nat} (h : 0 < signI (atI s k)) : k < s.size ∧ ∀ n, signsR n (restR s k) = signsR (.mk (signI (atI s k)) noR [n]) (restR s (k + 1)) := by
  by_cases hk : k < s.size
  · have e : atI s k = (bR s k : Int) := if_pos hk
    rw [e, sign_int] at h ⊢
    refine ⟨hk, fun n => ?_⟩
    rw [rest_cons s k hk]
    simp only [signsR]
    rw [if_pos (by omega)]
  · have e : atI s k = -1 := if_neg hk
    rw [e] at h
    exact absurd h (by decide)
theorem sgn_zero {s : ByteArray} {k : Nat} (h : ¬ 0 < signI (atI s k)) (n : Nd) : signsR n (restR s k) = (n, restR s k) := by
  by_cases hk : k < s.size
  · have e : atI s k = (bR s k : Int) := if_pos hk
    rw [e, sign_int] at h
    rw [rest_cons s k hk]
    simp only [signsR]
    rw [if_neg (by omega)]
  · rw [rest_nil s k (by omega)]; rfl
theorem rw_res {s : ByteArray} {N : Nat} {w' : World} {n : Nd} {x : Value} {j : Nat} (hj : j ≤ s.size) (h : NodeW (fun k => N ≤ k) w' n x) : ResP s N w' (some (n, restR s j)) (.returned (.tuple #[x, .int .i64 (j : Int)])) := by
  unfold ResP
  simp only
  rw [rest_len, show s.size - (s.size - j) = j by omega]
  exact ⟨x, rfl, h⟩
set_option maxRecDepth 4000 in
set_option maxHeartbeats 16000000 in
theorem rrows_of (s : ByteArray) (i : Nat) (hi : i ≤ s.size) (hs : s.size ≤ 1000) (HA : ∀ j, i ≤ j → j ≤ s.size → AtomC s j) : RowsC s i := by
  intro w
  have HAT := Lib.hid (fun i W (h : i ≤ 100000) => rat_any s i W h)
  have HAA := Lib.hid HA
  clear HA
  obtain ⟨RES, hRES⟩ : ∃ RES, rwR (restR s i) [] [] = RES := ⟨_, rfl⟩
  rw [hRES]
  obtain ⟨W1, hW1⟩ : ∃ W1, w.alloc (.cells #[.int .i64 0, .int .u64 0, .int .u64 0, .int .u64 0, .int .u64 0, .slice none 0 0] 90) = W1 := ⟨_, rfl⟩
  have h0 : RwsW w W1 w.heap.size (.slice none 0 0) (.slice none 0 0) [] [] := by
    rw [← hW1]
    exact ⟨boxN.new 90 w 0 noR _, OutP.nil _ _ _ _, OutP.nil _ _ _ _, (fun k e => by cases e), alloc_under w _, by rw [alloc_size]; exact Nat.le_refl _⟩
  have HST : Hid (RwsW w W1 w.heap.size (.slice none 0 0) (.slice none 0 0) [] [] ∧ rwR (restR s i) [] [] = RES ∧ ([] : List Nd).length + ([] : List Nd).length ≤ i) := ⟨h0, hRES, Nat.zero_le _⟩
  have HW1 := Lib.hid hW1
  clear h0 hW1 hRES
  go_enter Tryd.func57, Tryd.ntmps57
  go_wp2
  (try rw [HW1.out])
  obtain ⟨A, hA⟩ : ∃ A, w.heap.size = A := ⟨_, rfl⟩
  rw [hA] at HST
  rw [hA]
  have HSZ := Lib.hid hA
  clear hA HW1
  go_loopw [1, 6, 7] (fun s1 s6 s7 wr => ∃ (j : Nat) (all row : List Nd), s1 = .int .i64 (j : Int) ∧ j ≤ s.size ∧ i ≤ j ∧ Hid (RwsW w wr A s6 s7 all row ∧ rwR (restR s j) all row = RES ∧ all.length + row.length ≤ j)) (fun s1 _ _ _ => s.size + 1 - (intOf s1).toNat)
  case atStart => exact ⟨i, [], [], rfl, hi, Nat.le_refl _, HST⟩
  case round =>
    obtain ⟨j, all, row, rfl, hj, hij, HI⟩ := hrel
    clear HST
    have HW := Lib.hid HI.out.1
    have HF := Lib.hid HI.out.2.1
    have hlen := HI.out.2.2
    clear HI
    have j0 : (0 : Int) ≤ (j : Int) := by omega
    have HA1 := Lib.hid (fun W => HAT.out j W (by omega))
    have hrw := rw_eq (restR s j) all row
    by_cases hend : restR s j = [] ∨ (restR s j).head? = some 41
    · rw [if_pos hend] at hrw
      have HFX := Lib.hid (HF.out.symm.trans hrw)
      have hc : atI s j = -1 ∨ atI s j = 41 := by
        rcases hend with h | h
        · refine .inl (if_neg fun hl => ?_)
          rw [rest_cons s j hl] at h
          cases h
        · exact .inr ((rest_head s j 41).1 h)
      clear hend hrw HF HAA
      rcases hc with hc | hc
      · rw [hc] at HA1
        clear hc
        go_wp2_with fail
        go_fit (HA1.out _)
        rintro e w2 ⟨rfl, rfl⟩
        have hJ := rjoin_any 2 row u7 w2 (HW.out.rowK (by omega)) (by omega)
        obtain ⟨N1, hN1⟩ : ∃ N1, joinR 2 row = N1 := ⟨_, rfl⟩
        rw [hN1] at hJ HFX
        have HJ := Lib.hid hJ
        clear hJ hN1
        go_wp2_with fail
        go_fit HJ.out
        rintro e w3 ⟨x, rfl, ⟨hs1, u, rfl, hk1⟩, hb3⟩
        obtain ⟨uo, uc, rfl, _⟩ := hk1.form
        obtain ⟨un, hun⟩ : ∃ un, N1.kids.length = un := ⟨_, rfl⟩
        rw [hun] at hk1
        rw [hun]
        clear hun
        have hb4 := alloc_under w3 (.cells #[.int .i64 N1.kind, .int .u64 (N1.set.1 : Int), .int .u64 (N1.set.2.1 : Int), .int .u64 (N1.set.2.2.1 : Int), .int .u64 (N1.set.2.2.2 : Int), .slice uo un uc] 90)
        have hX := boxN_node (n := N1) (boxN.new 90 w3 N1.kind N1.set (.slice uo un uc))
        have HW4 := (HW.out.under hb3).under hb4
        obtain ⟨v6, w5, hr, hW5⟩ := HW4.line 88 88 Tryd.underlying88 hX hs1 (hk1.under hb4) (fun k _ hk => hk) (by omega)
        have HW5 := Lib.hid hW5
        clear HW4 hX hb4 hb3 hk1 hs1 hW5 HJ HW
        unfold nodeV
        go_wp2_with (at_builtin; refine wpList_runR (by rfl) _ _ 88 (by rfl) (by rfl) (by rfl) hr ?_)
        clear hr
        have hJ2 := rjoin_any 3 (all ++ [N1]) v6 w5 (HW5.out.allK (by rw [List.length_append, List.length_singleton]; omega)) (by rw [List.length_append, List.length_singleton]; omega)
        obtain ⟨N2, hN2⟩ : ∃ N2, joinR 3 (all ++ [N1]) = N2 := ⟨_, rfl⟩
        rw [hN2] at hJ2 HFX
        have HJ2 := Lib.hid hJ2
        clear hJ2 hN2
        go_fit HJ2.out
        rintro e w6 ⟨x2, rfl, ⟨hs2, u2, rfl, hk2⟩, hb6⟩
        obtain ⟨uo2, uc2, rfl, _⟩ := hk2.form
        obtain ⟨un2, hun2⟩ : ∃ un2, N2.kids.length = un2 := ⟨_, rfl⟩
        rw [hun2] at hk2
        rw [hun2]
        clear hun2
        have HW6 := Lib.hid (HW5.out.under hb6)
        have HN6 := Lib.hid (show NodeW (fun k => A + 1 ≤ k) w6 N2 (nodeV N2 (.slice uo2 un2 uc2)) from ⟨hs2, _, rfl, hk2⟩)
        clear HW5 hb6 hk2 hs2
        unfold nodeV
        have hbx := HW6.out.res
        have hbl := HW6.out.bel
        obtain ⟨⟨a0, a1, a2, a3, a4, a5⟩, fa0, fa1, fa2, fa3, fa4, fa5⟩ := hbx.cells
        have hAlt := hbx.lt
        have hD1 := hbx.set6 (N2.kind) (N2.set) (.slice uo2 un2 uc2)
        have hD2 := KeepW.below hbl (keep_set6N w6 A (N2.kind) (N2.set) (.slice uo2 un2 uc2)) (by omega) (fun k hk => by omega)
        obtain ⟨⟨y0, y1, y2, y3, y4, y5⟩, _⟩ := hD1.cells
        unfold set6N set4N at y0 y1 y2 y3 y4 y5 hD2
        have Y0 := Lib.hid y0
        have Y1 := Lib.hid y1
        have Y2 := Lib.hid y2
        have Y3 := Lib.hid y3
        have Y4 := Lib.hid y4
        have Y5 := Lib.hid y5
        have HDB := Lib.hid hD2
        clear hD1 hD2 y0 y1 y2 y3 y4 y5 hbx hbl
        have hnf := (HN6.out.keep (keep_set6N w6 A N2.kind N2.set (.slice uo2 un2 uc2)) (fun k _ hk e => by have h8 : A + 1 ≤ k := hk; omega)).mono (ok' := fun k => A ≤ k) (fun k _ hk => by have h8 : A + 1 ≤ k := hk; show A ≤ k; omega)
        unfold set6N set4N at hnf
        have HNF := Lib.hid hnf
        clear hnf
        go_wp2_with fail
        have y0 := Y0.out
        have y1 := Y1.out
        have y2 := Y2.out
        have y3 := Y3.out
        have y4 := Y4.out
        have y5 := Y5.out
        exact bodyPost_ret (v := .tuple #[.agg #[.int .i64 N2.kind, .int .u64 ((N2.set).1 : Int), .int .u64 ((N2.set).2.1 : Int), .int .u64 ((N2.set).2.2.1 : Int), .int .u64 ((N2.set).2.2.2 : Int), .slice uo2 un2 uc2], .int .i64 (j : Int)]) (by simp [results, Tryd.results57, go_sem, y0, y1, y2, y3, y4, y5]) rfl ⟨by rw [HSZ.out]; exact (by rw [HFX.out]; exact rw_res hj HNF.out), by rw [HSZ.out]; exact HDB.out⟩
      · rw [hc] at HA1
        clear hc
        go_wp2_with fail
        go_fit (HA1.out _)
        rintro e w2 ⟨rfl, rfl⟩
        have hJ := rjoin_any 2 row u7 w2 (HW.out.rowK (by omega)) (by omega)
        obtain ⟨N1, hN1⟩ : ∃ N1, joinR 2 row = N1 := ⟨_, rfl⟩
        rw [hN1] at hJ HFX
        have HJ := Lib.hid hJ
        clear hJ hN1
        go_wp2_with fail
        go_fit HJ.out
        rintro e w3 ⟨x, rfl, ⟨hs1, u, rfl, hk1⟩, hb3⟩
        obtain ⟨uo, uc, rfl, _⟩ := hk1.form
        obtain ⟨un, hun⟩ : ∃ un, N1.kids.length = un := ⟨_, rfl⟩
        rw [hun] at hk1
        rw [hun]
        clear hun
        have hb4 := alloc_under w3 (.cells #[.int .i64 N1.kind, .int .u64 (N1.set.1 : Int), .int .u64 (N1.set.2.1 : Int), .int .u64 (N1.set.2.2.1 : Int), .int .u64 (N1.set.2.2.2 : Int), .slice uo un uc] 90)
        have hX := boxN_node (n := N1) (boxN.new 90 w3 N1.kind N1.set (.slice uo un uc))
        have HW4 := (HW.out.under hb3).under hb4
        obtain ⟨v6, w5, hr, hW5⟩ := HW4.line 88 88 Tryd.underlying88 hX hs1 (hk1.under hb4) (fun k _ hk => hk) (by omega)
        have HW5 := Lib.hid hW5
        clear HW4 hX hb4 hb3 hk1 hs1 hW5 HJ HW
        unfold nodeV
        go_wp2_with (at_builtin; refine wpList_runR (by rfl) _ _ 88 (by rfl) (by rfl) (by rfl) hr ?_)
        clear hr
        have hJ2 := rjoin_any 3 (all ++ [N1]) v6 w5 (HW5.out.allK (by rw [List.length_append, List.length_singleton]; omega)) (by rw [List.length_append, List.length_singleton]; omega)
        obtain ⟨N2, hN2⟩ : ∃ N2, joinR 3 (all ++ [N1]) = N2 := ⟨_, rfl⟩
        rw [hN2] at hJ2 HFX
        have HJ2 := Lib.hid hJ2
        clear hJ2 hN2
        go_fit HJ2.out
        rintro e w6 ⟨x2, rfl, ⟨hs2, u2, rfl, hk2⟩, hb6⟩
        obtain ⟨uo2, uc2, rfl, _⟩ := hk2.form
        obtain ⟨un2, hun2⟩ : ∃ un2, N2.kids.length = un2 := ⟨_, rfl⟩
        rw [hun2] at hk2
        rw [hun2]
        clear hun2
        have HW6 := Lib.hid (HW5.out.under hb6)
        have HN6 := Lib.hid (show NodeW (fun k => A + 1 ≤ k) w6 N2 (nodeV N2 (.slice uo2 un2 uc2)) from ⟨hs2, _, rfl, hk2⟩)
        clear HW5 hb6 hk2 hs2
        unfold nodeV
        have hbx := HW6.out.res
        have hbl := HW6.out.bel
        obtain ⟨⟨a0, a1, a2, a3, a4, a5⟩, fa0, fa1, fa2, fa3, fa4, fa5⟩ := hbx.cells
        have hAlt := hbx.lt
        have hD1 := hbx.set6 (N2.kind) (N2.set) (.slice uo2 un2 uc2)
        have hD2 := KeepW.below hbl (keep_set6N w6 A (N2.kind) (N2.set) (.slice uo2 un2 uc2)) (by omega) (fun k hk => by omega)
        obtain ⟨⟨y0, y1, y2, y3, y4, y5⟩, _⟩ := hD1.cells
        unfold set6N set4N at y0 y1 y2 y3 y4 y5 hD2
        have Y0 := Lib.hid y0
        have Y1 := Lib.hid y1
        have Y2 := Lib.hid y2
        have Y3 := Lib.hid y3
        have Y4 := Lib.hid y4
        have Y5 := Lib.hid y5
        have HDB := Lib.hid hD2
        clear hD1 hD2 y0 y1 y2 y3 y4 y5 hbx hbl
        have hnf := (HN6.out.keep (keep_set6N w6 A N2.kind N2.set (.slice uo2 un2 uc2)) (fun k _ hk e => by have h8 : A + 1 ≤ k := hk; omega)).mono (ok' := fun k => A ≤ k) (fun k _ hk => by have h8 : A + 1 ≤ k := hk; show A ≤ k; omega)
        unfold set6N set4N at hnf
        have HNF := Lib.hid hnf
        clear hnf
        go_wp2_with fail
        have y0 := Y0.out
        have y1 := Y1.out
        have y2 := Y2.out
        have y3 := Y3.out
        have y4 := Y4.out
        have y5 := Y5.out
        exact bodyPost_ret (v := .tuple #[.agg #[.int .i64 N2.kind, .int .u64 ((N2.set).1 : Int), .int .u64 ((N2.set).2.1 : Int), .int .u64 ((N2.set).2.2.1 : Int), .int .u64 ((N2.set).2.2.2 : Int), .slice uo2 un2 uc2], .int .i64 (j : Int)]) (by simp [results, Tryd.results57, go_sem, y0, y1, y2, y3, y4, y5]) rfl ⟨by rw [HSZ.out]; exact (by rw [HFX.out]; exact rw_res hj HNF.out), by rw [HSZ.out]; exact HDB.out⟩
    · rw [if_neg hend] at hrw
      have hjl : j < s.size := Classical.byContradiction fun hn => hend (.inl (rest_nil s j (by omega)))
      have n41 : atI s j ≠ 41 := fun h => hend (.inr ((rest_head s j 41).2 h))
      have nneg : 0 ≤ atI s j := by unfold atI; rw [if_pos hjl]; omega
      by_cases h124 : atI s j = 124
      · rw [if_pos ((rest_head s j 124).2 h124), rest_tail] at hrw
        have HFX := Lib.hid (HF.out.symm.trans hrw)
        rw [h124] at HA1
        clear hend hrw HF HAA n41 nneg h124
        go_wp2_with fail
        go_fit (HA1.out _)
        rintro e w2 ⟨rfl, rfl⟩
        have hJ := rjoin_any 2 row u7 w2 (HW.out.rowK (by omega)) (by omega)
        obtain ⟨N1, hN1⟩ : ∃ N1, joinR 2 row = N1 := ⟨_, rfl⟩
        rw [hN1] at hJ HFX
        have HJ := Lib.hid hJ
        clear hJ hN1
        go_wp2_with fail
        go_fit HJ.out
        rintro e w3 ⟨x, rfl, ⟨hs1, u, rfl, hk1⟩, hb3⟩
        obtain ⟨uo, uc, rfl, _⟩ := hk1.form
        obtain ⟨un, hun⟩ : ∃ un, N1.kids.length = un := ⟨_, rfl⟩
        rw [hun] at hk1
        rw [hun]
        clear hun
        have hb4 := alloc_under w3 (.cells #[.int .i64 N1.kind, .int .u64 (N1.set.1 : Int), .int .u64 (N1.set.2.1 : Int), .int .u64 (N1.set.2.2.1 : Int), .int .u64 (N1.set.2.2.2 : Int), .slice uo un uc] 90)
        have hX := boxN_node (n := N1) (boxN.new 90 w3 N1.kind N1.set (.slice uo un uc))
        have HW4 := (HW.out.under hb3).under hb4
        obtain ⟨v6, w5, hr, hW5⟩ := HW4.line 88 88 Tryd.underlying88 hX hs1 (hk1.under hb4) (fun k _ hk => hk) (by omega)
        have HW5 := Lib.hid hW5
        clear HW4 hX hb4 hb3 hk1 hs1 hW5 HJ HW
        unfold nodeV
        go_wp2_with (at_builtin; refine wpList_runR (by rfl) _ _ 88 (by rfl) (by rfl) (by rfl) hr ?_)
        clear hr
        have HEND : Hid (RwsW w w5 A v6 (.slice none 0 0) (all ++ [N1]) [] ∧ rwR (restR s (j + 1)) (all ++ [N1]) [] = RES ∧ (all ++ [N1]).length + ([] : List Nd).length ≤ j + 1) := ⟨HW5.out, HFX.out.symm, by rw [List.length_append, List.length_singleton, List.length_nil]; omega⟩
        go_roundw
        case rel => exact ⟨j + 1, all ++ [N1], [], by go_num, by omega, by omega, HEND⟩
        case measure => (simp [intOf]; omega)
      · rw [if_neg (fun h => h124 ((rest_head s j 124).1 h))] at hrw
        obtain ⟨c, hc⟩ : ∃ c, atI s j = c := ⟨_, rfl⟩
        rw [hc] at HA1 n41 nneg h124
        have bneg : decide (c < 0) = false := decide_eq_false (by omega)
        have b41 : (c == 41) = false := beq_eq_false_iff_ne.2 n41
        have b124 : (c == 124) = false := beq_eq_false_iff_ne.2 h124
        have hat := HAA.out j hij hj
        clear hend hc n41 nneg h124
        rcases hq : atR (restR s j) with _ | ⟨m, q⟩
        · rw [hq] at hrw
          have HFX := Lib.hid (HF.out.symm.trans hrw)
          have hrr : ∀ W, Calls Tryd.prog 71 #[.string s, .int .i64 (j : Int)] W fun e w' => ∃ n uo un uc, e = .returned (.tuple #[.agg #[.int .i64 n.kind, .int .u64 ((n.set).1 : Int), .int .u64 ((n.set).2.1 : Int), .int .u64 ((n.set).2.2.1 : Int), .int .u64 ((n.set).2.2.2 : Int), .slice uo un uc], .int .i64 (-1)]) ∧ True ∧ NodeW (fun k => W.heap.size ≤ k) w' n (nodeV n (.slice uo un uc)) ∧ Below W.heap.size W w' := fun W => by
            have h9 := hat W
            rw [hq] at h9
            refine h9.mono ?_
            rintro e w3 ⟨hP, hb⟩
            obtain ⟨n, x, he, hn, hnq⟩ : ∃ n x, e = .returned (.tuple #[x, .int .i64 (-1)]) ∧ NodeW (fun k => W.heap.size ≤ k) w3 n x ∧ True := by obtain ⟨n, x, he, hn⟩ := hP; exact ⟨n, x, he, hn, trivial⟩
            obtain ⟨h1, u, rfl, h2⟩ := hn
            obtain ⟨uo, uc, rfl, _⟩ := h2.form
            exact ⟨n, uo, _, uc, he, hnq, ⟨h1, _, rfl, h2⟩, hb⟩
          have HRR := Lib.hid hrr
          clear hrr hat hq hrw HF HAA
          go_wp2_with fail
          go_fit (HA1.out _)
          rintro e w2 ⟨rfl, rfl⟩
          go_wp2_with fail
          go_fit (HRR.out _)
          rintro e w3 ⟨n, uo, un, uc, rfl, _, hn, hb3⟩
          have h2s := HW.out.sz
          have hb4 := alloc_under w3 (.cells #[.int .i64 n.kind, .int .u64 (n.set.1 : Int), .int .u64 (n.set.2.1 : Int), .int .u64 (n.set.2.2.1 : Int), .int .u64 (n.set.2.2.2 : Int), .slice uo un uc] 90)
          have hc4 := boxN.new 90 w3 n.kind n.set (.slice uo un uc)
          obtain ⟨hs3, u3, he3, hk3⟩ := hn
          have e9 : .slice uo un uc = u3 := by unfold nodeV at he3; simpa using he3
          subst e9
          have hlt6 := HW.out.a.lt
          have hlt7 := HW.out.r.lt
          have hsz3 := hb3.size
          have hk4 := (hk3.mono (ok' := fun k => A + 1 ≤ k ∧ u6.ownBlock ≠ some k ∧ u7.ownBlock ≠ some k ∧ k ≠ w3.heap.size) (fun k hlt hk => ⟨Nat.le_trans h2s hk, fun e => by have := (hlt6 k e).2; omega, fun e => by have := (hlt7 k e).2; omega, by omega⟩)).under hb4
          have hsg : SgnW w (w3.alloc (.cells #[.int .i64 n.kind, .int .u64 (n.set.1 : Int), .int .u64 (n.set.2.1 : Int), .int .u64 (n.set.2.2.1 : Int), .int .u64 (n.set.2.2.2 : Int), .slice uo un uc] 90)) A w3.heap.size u6 u7 all row n (.slice uo un uc) := ⟨(HW.out.under hb3).under hb4, ((HW.out.under hb3).a.mono fun k hlt hp => ⟨hp, by omega⟩).under hb4, ((HW.out.under hb3).r.mono fun k hlt hp => ⟨hp, by omega⟩).under hb4, hc4, hk4, hs3, by omega, (fun e => by have := (hlt6 _ e).2; omega), fun e => by have := (hlt7 _ e).2; omega⟩
          obtain ⟨W4, hW4⟩ : ∃ W4, w3.alloc (.cells #[.int .i64 n.kind, .int .u64 (n.set.1 : Int), .int .u64 (n.set.2.1 : Int), .int .u64 (n.set.2.2.1 : Int), .int .u64 (n.set.2.2.2 : Int), .slice uo un uc] 90) = W4 := ⟨_, rfl⟩
          rw [hW4] at hsg
          obtain ⟨C, hC⟩ : ∃ C, w3.heap.size = C := ⟨_, rfl⟩
          rw [hC] at hsg
          have HG := Lib.hid hsg
          have HW4 := Lib.hid hW4
          have HC := Lib.hid hC
          clear hb4 hc4 hk3 hk4 hsg hW4 hC hs3 hlt6 hlt7 hsz3 h2s hb3 he3
          go_upto_region 10 with (fail)
          (try rw [HW4.out])
          (try rw [HC.out])
          clear HW4 HC
          obtain ⟨⟨c0, c1, c2, c3, c4, c5⟩, fc0, fc1, fc2, fc3, fc4, fc5⟩ := HG.out.box.cells
          have hClt := HG.out.box.lt
          have hne : A ≠ C := by have := HG.out.lo.1; omega
          have HR4 := Lib.hid HG.out.rws
          have hbx := HR4.out.res
          have hbl := HR4.out.bel
          obtain ⟨⟨a0, a1, a2, a3, a4, a5⟩, fa0, fa1, fa2, fa3, fa4, fa5⟩ := hbx.cells
          have hAlt := hbx.lt
          have hD1 := hbx.set6 (n.kind) (n.set) (.slice uo un uc)
          have hD2 := KeepW.below hbl (keep_set6N W4 A (n.kind) (n.set) (.slice uo un uc)) (by omega) (fun k hk => by omega)
          obtain ⟨⟨y0, y1, y2, y3, y4, y5⟩, _⟩ := hD1.cells
          unfold set6N set4N at y0 y1 y2 y3 y4 y5 hD2
          have Y0 := Lib.hid y0
          have Y1 := Lib.hid y1
          have Y2 := Lib.hid y2
          have Y3 := Lib.hid y3
          have Y4 := Lib.hid y4
          have Y5 := Lib.hid y5
          have HDB := Lib.hid hD2
          clear hD1 hD2 y0 y1 y2 y3 y4 y5 hbx hbl
          have hnf := (NodeW.keep (ok' := fun k => k ≠ A) ⟨HG.out.ok, _, rfl, HG.out.kids⟩ (keep_set6N W4 A n.kind n.set (.slice uo un uc)) (fun k _ hk e => by have h8 := hk.1; omega)).mono (ok' := fun k => A ≤ k) (fun k _ hk => by have h8 := hk.1; show A ≤ k; omega)
          unfold set6N set4N at hnf
          have HNF := Lib.hid hnf
          clear hnf
          go_wp2_with fail
          have y0 := Y0.out
          have y1 := Y1.out
          have y2 := Y2.out
          have y3 := Y3.out
          have y4 := Y4.out
          have y5 := Y5.out
          exact bodyPost_ret (v := .tuple #[.agg #[.int .i64 n.kind, .int .u64 ((n.set).1 : Int), .int .u64 ((n.set).2.1 : Int), .int .u64 ((n.set).2.2.1 : Int), .int .u64 ((n.set).2.2.2 : Int), .slice uo un uc], .int .i64 (-1)]) (by simp [results, Tryd.results57, go_sem, y0, y1, y2, y3, y4, y5]) rfl ⟨by rw [HSZ.out]; exact (by rw [HFX.out]; exact res_no n _ HNF.out), by rw [HSZ.out]; exact HDB.out⟩
        · rw [hq] at hrw
          simp only at hrw
          have hql := at_len hq
          rw [rest_len] at hql
          obtain ⟨kk, hkk⟩ : ∃ kk, s.size - q.length = kk := ⟨_, rfl⟩
          have hsuf : q = restR s kk := by rw [← hkk]; exact rest_of s j (at_drop hq)
          have hrr : ∀ W, Calls Tryd.prog 71 #[.string s, .int .i64 (j : Int)] W fun e w' => ∃ n uo un uc, e = .returned (.tuple #[.agg #[.int .i64 n.kind, .int .u64 ((n.set).1 : Int), .int .u64 ((n.set).2.1 : Int), .int .u64 ((n.set).2.2.1 : Int), .int .u64 ((n.set).2.2.2 : Int), .slice uo un uc], .int .i64 (kk : Int)]) ∧ n = m ∧ NodeW (fun k => W.heap.size ≤ k) w' n (nodeV n (.slice uo un uc)) ∧ Below W.heap.size W w' := fun W => by
            have h9 := hat W
            rw [hq] at h9; unfold ResP at h9; simp only [hkk] at h9
            refine h9.mono ?_
            rintro e w3 ⟨hP, hb⟩
            obtain ⟨n, x, he, hn, hnq⟩ : ∃ n x, e = .returned (.tuple #[x, .int .i64 (kk : Int)]) ∧ NodeW (fun k => W.heap.size ≤ k) w3 n x ∧ n = m := by obtain ⟨x, he, hn⟩ := hP; exact ⟨m, x, he, hn, rfl⟩
            obtain ⟨h1, u, rfl, h2⟩ := hn
            obtain ⟨uo, uc, rfl, _⟩ := h2.form
            exact ⟨n, uo, _, uc, he, hnq, ⟨h1, _, rfl, h2⟩, hb⟩
          have HRR := Lib.hid hrr
          have kk0 : (0 : Int) ≤ (kk : Int) := by omega
          have bkk : decide ((kk : Int) < 0) = false := decide_eq_false (by omega)
          have kk1 : kk ≤ s.size := by omega
          have kkj : j < kk := by omega
          rw [hsuf] at hrw
          obtain ⟨G, hG⟩ : ∃ G, signsR m (restR s kk) = G := ⟨_, rfl⟩
          rw [hG] at hrw
          have HFX := Lib.hid (HF.out.symm.trans hrw)
          have HG0 := Lib.hid hG
          clear hrr hat hq hrw HF HAA hql hkk hsuf hG
          go_wp2_with fail
          go_fit (HA1.out _)
          rintro e w2 ⟨rfl, rfl⟩
          go_wp2_with fail
          go_fit (HRR.out _)
          rintro e w3 ⟨n, uo, un, uc, rfl, rfl, hn, hb3⟩
          have h2s := HW.out.sz
          have hb4 := alloc_under w3 (.cells #[.int .i64 n.kind, .int .u64 (n.set.1 : Int), .int .u64 (n.set.2.1 : Int), .int .u64 (n.set.2.2.1 : Int), .int .u64 (n.set.2.2.2 : Int), .slice uo un uc] 90)
          have hc4 := boxN.new 90 w3 n.kind n.set (.slice uo un uc)
          obtain ⟨hs3, u3, he3, hk3⟩ := hn
          have e9 : .slice uo un uc = u3 := by unfold nodeV at he3; simpa using he3
          subst e9
          have hlt6 := HW.out.a.lt
          have hlt7 := HW.out.r.lt
          have hsz3 := hb3.size
          have hk4 := (hk3.mono (ok' := fun k => A + 1 ≤ k ∧ u6.ownBlock ≠ some k ∧ u7.ownBlock ≠ some k ∧ k ≠ w3.heap.size) (fun k hlt hk => ⟨Nat.le_trans h2s hk, fun e => by have := (hlt6 k e).2; omega, fun e => by have := (hlt7 k e).2; omega, by omega⟩)).under hb4
          have hsg : SgnW w (w3.alloc (.cells #[.int .i64 n.kind, .int .u64 (n.set.1 : Int), .int .u64 (n.set.2.1 : Int), .int .u64 (n.set.2.2.1 : Int), .int .u64 (n.set.2.2.2 : Int), .slice uo un uc] 90)) A w3.heap.size u6 u7 all row n (.slice uo un uc) := ⟨(HW.out.under hb3).under hb4, ((HW.out.under hb3).a.mono fun k hlt hp => ⟨hp, by omega⟩).under hb4, ((HW.out.under hb3).r.mono fun k hlt hp => ⟨hp, by omega⟩).under hb4, hc4, hk4, hs3, by omega, (fun e => by have := (hlt6 _ e).2; omega), fun e => by have := (hlt7 _ e).2; omega⟩
          obtain ⟨W4, hW4⟩ : ∃ W4, w3.alloc (.cells #[.int .i64 n.kind, .int .u64 (n.set.1 : Int), .int .u64 (n.set.2.1 : Int), .int .u64 (n.set.2.2.1 : Int), .int .u64 (n.set.2.2.2 : Int), .slice uo un uc] 90) = W4 := ⟨_, rfl⟩
          rw [hW4] at hsg
          obtain ⟨C, hC⟩ : ∃ C, w3.heap.size = C := ⟨_, rfl⟩
          rw [hC] at hsg
          have HG := Lib.hid hsg
          have HW4 := Lib.hid hW4
          have HC := Lib.hid hC
          clear hb4 hc4 hk3 hk4 hsg hW4 hC hs3 hlt6 hlt7 hsz3 h2s hb3 he3
          go_upto_region 10 with (fail)
          (try rw [HW4.out])
          (try rw [HC.out])
          clear HW4 HC
          have HST : Hid (∃ uo un uc, SgnW w W4 A C u6 u7 all row n (.slice uo un uc) ∧ signsR n (restR s kk) = G) := ⟨uo, un, uc, HG.out, HG0.out⟩
          clear HG HG0 HW
          go_wp2
          go_loopw [10] (fun s10 wr => ∃ (k : Nat) (n : Nd), s10 = .int .i64 (k : Int) ∧ j < k ∧ k ≤ s.size ∧ Hid (∃ uo un uc, SgnW w wr A C u6 u7 all row n (.slice uo un uc) ∧ signsR n (restR s k) = G)) (fun s10 _ => s.size + 1 - (intOf s10).toNat)
          case atStart => exact ⟨kk, n, rfl, kkj, kk1, HST⟩
          case round =>
            obtain ⟨k, nn, rfl, hjk, hks, HI⟩ := hrel
            clear HST
            obtain ⟨uo, un, uc, hSG, hSS⟩ := HI.out
            have HSG := Lib.hid hSG
            have HSS := Lib.hid hSS
            clear HI hSG hSS
            have k0 : (0 : Int) ≤ (k : Int) := by omega
            have HA2 := Lib.hid (fun W => HAT.out k W (by omega))
            have hpos := @sgn_pos s k
            have hzero := @sgn_zero s k
            obtain ⟨c2, hc2⟩ : ∃ c2, atI s k = c2 := ⟨_, rfl⟩
            rw [hc2] at HA2 hpos hzero
            have HS2 := Lib.hid (fun W => rsign_any c2 W)
            obtain ⟨K, hK⟩ : ∃ K, signI c2 = K := ⟨_, rfl⟩
            rw [hK] at hpos hzero
            simp only [hK] at HS2
            clear hc2 hK
            by_cases hKp : 0 < K
            · obtain ⟨hkl, hstep⟩ := hpos hKp
              have HNX := Lib.hid (HSS.out.symm.trans (hstep nn))
              have HSN := Lib.hid (HSG.out.sign K)
              unfold set6N set4N at HSN
              simp only [show ((noR.1 : Nat) : Int) = 0 from rfl, show ((noR.2.1 : Nat) : Int) = 0 from rfl, show ((noR.2.2.1 : Nat) : Int) = 0 from rfl, show ((noR.2.2.2 : Nat) : Int) = 0 from rfl] at HSN
              have bK : decide (K > 0) = true := decide_eq_true hKp
              clear hpos hzero hstep
              obtain ⟨⟨c0, c1, c2, c3, c4, c5⟩, fc0, fc1, fc2, fc3, fc4, fc5⟩ := HSG.out.box.cells
              have hClt := HSG.out.box.lt
              go_wp2_with fail
              go_fit (HA2.out _)
              rintro e w5 ⟨rfl, rfl⟩
              go_wp2_with fail
              go_fit (HS2.out _)
              rintro e w6 ⟨rfl, rfl⟩
              go_wp2_with fail
              go_region_with (first | (go_at_call 69; go_fit (HA2.out _); (rintro e wx ⟨rfl, rfl⟩)) | (go_at_call 72; go_fit (HS2.out _); (rintro e wx ⟨rfl, rfl⟩)))
              all_goals (go_wp2_with fail; exact ⟨⟨k + 1, .mk K noR [nn], by go_num, by omega, by omega, ⟨_, 1, 1, HSN.out, HNX.out.symm⟩⟩, by simp [intOf]; omega⟩)
            · have hz := hzero hKp nn
              have HFY : Hid (RES = rwR (restR s k) all (row ++ [nn])) := by have h9 := HFX.out; rw [← HSS.out, hz] at h9; exact h9
              have bK : decide (K > 0) = false := decide_eq_false hKp
              clear hpos hzero hz HFX HSS
              obtain ⟨⟨c0, c1, c2, c3, c4, c5⟩, fc0, fc1, fc2, fc3, fc4, fc5⟩ := HSG.out.box.cells
              have hClt := HSG.out.box.lt
              go_wp2_with fail
              go_fit (HA2.out _)
              rintro e w5 ⟨rfl, rfl⟩
              go_wp2_with fail
              go_fit (HS2.out _)
              rintro e w6 ⟨rfl, rfl⟩
              have hb4 := alloc_under w6 (.cells #[.int .i64 nn.kind, .int .u64 (nn.set.1 : Int), .int .u64 (nn.set.2.1 : Int), .int .u64 (nn.set.2.2.1 : Int), .int .u64 (nn.set.2.2.2 : Int), .slice uo un uc] 90)
              have hX := boxN_node (n := nn) (boxN.new 90 w6 nn.kind nn.set (.slice uo un uc))
              obtain ⟨v7, w8, hr, hW8⟩ := (HSG.out.rws.under hb4).piece 88 88 Tryd.underlying88 hX HSG.out.ok (HSG.out.kids.under hb4) (fun k _ hk => ⟨hk.1, hk.2.1, hk.2.2.1⟩) (by omega)
              have HEND : Hid (RwsW w w8 A u6 v7 all (row ++ [nn]) ∧ rwR (restR s k) all (row ++ [nn]) = RES ∧ all.length + (row ++ [nn]).length ≤ k) := ⟨hW8, HFY.out.symm, by rw [List.length_append, List.length_singleton]; omega⟩
              clear hb4 hX hW8 HSG HFY
              go_wp2_with (at_builtin; refine wpList_runR (by rfl) _ _ 88 (by rfl) (by rfl) (by rfl) hr ?_)
              clear hr
              go_roundw
              case rel => exact ⟨k, all, row ++ [nn], rfl, hks, by omega, HEND⟩
              case measure => (simp [intOf]; omega)
theorem rboth (s : ByteArray) (hs : s.size ≤ 1000) : ∀ (N i : Nat), i ≤ s.size → s.size - i ≤ N → (∀ j, i ≤ j → j ≤ s.size → AtomC s j) ∧ RowsC s i
  | 0, i, hi, hN => by
    have hA : ∀ j, i ≤ j → j ≤ s.size → AtomC s j := fun j hij hj => ratom_of s j hj hs fun h => by omega
    exact ⟨hA, rrows_of s i hi hs hA⟩
  | N + 1, i, hi, hN => by
    have hA : ∀ j, i ≤ j → j ≤ s.size → AtomC s j := fun j hij hj => ratom_of s j hj hs fun h => (rboth s hs N (j + 1) (by omega) (by omega)).2
    exact ⟨hA, rrows_of s i hi hs hA⟩
theorem rrows_any (s : ByteArray) (hs : s.size ≤ 1000) (i : Nat) (hi : i ≤ s.size) : RowsC s i := (rboth s hs _ i hi (Nat.le_refl _)).2
end Go.Proofs.YtkopbngnhgdfhaaDoor
