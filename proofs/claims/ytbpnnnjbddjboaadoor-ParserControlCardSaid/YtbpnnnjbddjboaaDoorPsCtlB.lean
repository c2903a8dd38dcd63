/-
  ParserControl's walk: one way of three of the control.
-/
import Derived.Test.YtbpnnnjbddjboaaDoorPsCtlM
namespace Go.Proofs.YtbpnnnjbddjboaaDoor
open Go.RowKit

set_option maxRecDepth 20000 in
set_option maxHeartbeats 8000000 in
theorem ctl_b (x : Prt) (pv : Value) (at' c : Int) (w : World) (hP : LaidP w) (h : PrtW w pv x) (a0 : 0 ≤ at') (a1 : at' ≤ 255) (c0 : 0 ≤ c) (_c1 : c ≤ 255) (hc : c % 27 = 26) :
    Calls Tryd.prog 7 #[.agg #[.int .u8 x.1, .int .i32 x.2.1, .int .u8 x.2.2.1, pv], .int .u8 at', .int .u8 c] w fun e w' => e = .returned (.bool true) ∧ Below w.heap.size w w' := by
  obtain ⟨pa, pn, pc, rfl⟩ : ∃ a b c, pv = .slice a b c := by obtain ⟨a, c, e, _⟩ := h.row; exact ⟨a, _, c, e⟩
  obtain ⟨x1, x2, x3, ps⟩ := x
  have hx : PrtW w (.slice pa pn pc) (2, x2, x3, ps) := ⟨h.row, ⟨by show (0 : Int) ≤ 2; decide, by show (2 : Int) ≤ 255; decide⟩, h.num, h.ints⟩
  have HRUN := Lib.hid (run_ctl (2, x2, x3, ps))
  have hsz := seq_small (2, x2, x3, ps)
  have hbox : Below w.heap.size w (w.alloc (.cells #[.int .u8 2, .int .i32 x2, .int .u8 x3, .slice pa pn pc] 40)) := (Below.refl _ w).alloc (Nat.le_refl _) _
  have HPA := Lib.hid (part_any (2, x2, x3, ps) (.slice pa pn pc) _ (hx.below hbox))
  have e1 : prtB (2, x2, x3, ps) = seqB (2, x2, x3, ps) := rfl
  have e2 : prtA (2, x2, x3, ps) = (3, 0, numsP (2, x2, x3, ps), finP (2, x2, x3, ps)) := rfl
  rw [e1, e2] at HPA
  obtain ⟨S, hS⟩ : ∃ S, seqB (2, x2, x3, ps) = S := ⟨_, rfl⟩
  obtain ⟨NS, hNS⟩ : ∃ NS, numsP (2, x2, x3, ps) = NS := ⟨_, rfl⟩
  obtain ⟨FN, hFN⟩ : ∃ FN, finP (2, x2, x3, ps) = FN := ⟨_, rfl⟩
  rw [hS, hNS, hFN] at HPA HRUN
  rw [hS] at hsz
  have HIS := Lib.hid (fun (s : ByteArray) v want W (hs : s.size ≤ 100000) (hW : Below w.heap.size w W) (hA : ActsW AnyP W v want) => is_any s v want W (hP.below hW) hs hA)
  have HASK := Lib.hid (fun W (hW : Below w.heap.size w W) => asked_any W (hP.below hW))
  obtain ⟨Z, hZ⟩ : ∃ Z, S.size = Z := ⟨_, rfl⟩
  obtain ⟨M, hM, hMl⟩ : ∃ M : Nat, Int.tmod at' ((Z : Int) - 1) = (M : Int) ∧ M < Z - 1 := by
    refine ⟨(at' % ((Z : Int) - 1)).toNat, ?_, ?_⟩
    · rw [Int.tmod_eq_emod_of_nonneg a0]
      have := Int.emod_nonneg at' (show (Z : Int) - 1 ≠ 0 by omega)
      omega
    · have := Int.emod_lt_of_pos at' (show (0 : Int) < (Z : Int) - 1 by omega)
      have := Int.emod_nonneg at' (show (Z : Int) - 1 ≠ 0 by omega)
      omega
  obtain ⟨D, hD⟩ : ∃ D : Nat, c % 27 = (D : Int) := ⟨(c % 27).toNat, by omega⟩
  have hDl : D < 27 := by omega
  have hDv : D = 26 := by omega
  have hD2 : Int.tmod c 27 = (D : Int) := by rw [Int.tmod_eq_emod_of_nonneg c0]; exact hD
  have hZ1 : 3 ≤ Z := by omega
  have hZ2 : Z ≤ 100 := by omega
  obtain ⟨K, hKd⟩ : ∃ K, 1 + M = K := ⟨_, rfl⟩
  have hK : 1 + (M : Int) = (K : Int) := by omega
  have hK0 : (0 : Int) ≤ (K : Int) := by omega
  have hKz : (K : Int) ≤ (Z : Int) := by omega
  have hK1 : 1 ≤ K := by omega
  have hK2 : K < S.size := by omega
  have hMi : (M : Int) ≤ 100 := by omega
  clear hsz hP h hx hS hNS hFN
  go_enter Tryd.func7, Tryd.ntmps7
  go_wp2_with fail
  go_fit HPA.out
  rintro e w1 ⟨v, rfl, hN1, hb1⟩
  obtain ⟨va, vn, vc, rfl⟩ : ∃ a b c, v = .slice a b c := by obtain ⟨a, c, e, _⟩ := hN1.1; exact ⟨a, _, c, e⟩
  have hbA := hbox.trans (hb1.mono hbox.size)
  have hNA : NumsW AnyP w1 (.slice va vn vc) NS := hN1.mono fun _ _ _ => trivial
  have HW : Hid (∀ wr, w1.alloc (.cells #[.int .i64 3, .int .i32 0, .slice va vn vc, .int .u8 (FN : Int)] 34) = wr → Below w.heap.size w wr ∧ blk4 wr w1.heap.size (.int .i64 3) (.int .i32 0) (.slice va vn vc) (.int .u8 (FN : Int)) 34 ∧ NumsW AnyP wr (.slice va vn vc) NS) := fun wr h0 => by
    rw [← h0]
    have hb : Below w1.heap.size w1 (w1.alloc (.cells #[.int .i64 3, .int .i32 0, .slice va vn vc, .int .u8 (FN : Int)] 34)) := (Below.refl _ _).alloc (Nat.le_refl _) _
    exact ⟨hbA.alloc hbA.size _, heap_alloc_new w1 _, hNA.keep (keep_below _ hb)⟩
  have hD0 : (0 : Int) ≤ (D : Int) := by omega
  have hDi : (D : Int) < 27 := by omega
  clear HPA hN1 hb1 hbox hbA hNA hMl hD hZ1 hKd
  clear hc
  subst hDv
  rw [show ((26 : Nat) : Int) = 26 from rfl] at hD2
  go_wp2_with fail
  obtain ⟨wr, hwr⟩ : ∃ wr, w1.alloc (.cells #[.int .i64 3, .int .i32 0, .slice va vn vc, .int .u8 (FN : Int)] 34) = wr := ⟨_, rfl⟩
  obtain ⟨hbr, hQ, hNR⟩ := HW.out wr hwr
  rw [hwr]
  clear HW hwr
  obtain ⟨q, hq⟩ : ∃ q, w1.heap.size = q := ⟨_, rfl⟩
  rw [hq] at hQ ⊢
  clear hq
  have hbA : Below wr.heap.size wr (wr.alloc (.cells #[.int .u8 7] 5)) := (Below.refl _ _).alloc (Nat.le_refl _) _
  have hbB : Below wr.heap.size wr (wr.alloc (.cells #[.int .i64 2, .int .i32 7, .slice none 0 0, .int .u8 0, .int .i64 3, .int .i32 0, .slice va vn vc, .int .u8 (FN : Int)] 34)) := (Below.refl _ _).alloc (Nat.le_refl _) _
  have sA : (wr.alloc (.cells #[.int .u8 7] 5)).heap.size = wr.heap.size + 1 := World.size_alloc _ _
  have sB : (wr.alloc (.cells #[.int .i64 2, .int .i32 7, .slice none 0 0, .int .u8 0, .int .i64 3, .int .i32 0, .slice va vn vc, .int .u8 (FN : Int)] 34)).heap.size = wr.heap.size + 1 := World.size_alloc _ _
  have hcA : ∀ W, Below (wr.heap.size + 1) (wr.alloc (.cells #[.int .u8 7] 5)) W → W.cell? ⟨wr.heap.size, 0, none⟩ = some (.int .u8 7) := fun W hW => by
    rw [hW.cell (p := ⟨wr.heap.size, 0, none⟩) (Nat.lt_succ_self _), cell_of_row _ _ _ _ _ (0, 0) (heap_alloc_new wr _)]
    rfl
  have cvA : (convert 46 9 (.slice (some ⟨wr.heap.size, 0, none⟩) 1 1)).run Tryd.prog (wr.alloc (.cells #[.int .u8 7] 5)) = .ok (.string (oneB 7)) (wr.alloc (.cells #[.int .u8 7] 5)) := conv_cell 7 _ _ (hcA _ (Below.refl _ _))
  have cvAB : (convert 46 9 (.slice (some ⟨wr.heap.size, 0, none⟩) 1 1)).run Tryd.prog ((wr.alloc (.cells #[.int .u8 7] 5)).alloc (.cells #[.int .i64 2, .int .i32 7, .slice none 0 0, .int .u8 0, .int .i64 3, .int .i32 0, .slice va vn vc, .int .u8 (FN : Int)] 34)) = .ok (.string (oneB 7)) ((wr.alloc (.cells #[.int .u8 7] 5)).alloc (.cells #[.int .i64 2, .int .i32 7, .slice none 0 0, .int .u8 0, .int .i64 3, .int .i32 0, .slice va vn vc, .int .u8 (FN : Int)] 34)) := conv_cell 7 _ _ (hcA _ ((Below.refl _ _).alloc (Nat.le_of_eq sA.symm) _))
  have hcB : ((wr.alloc (.cells #[.int .i64 2, .int .i32 7, .slice none 0 0, .int .u8 0, .int .i64 3, .int .i32 0, .slice va vn vc, .int .u8 (FN : Int)] 34)).alloc (.cells #[.int .u8 7] 5)).cell? ⟨wr.heap.size + 1, 0, none⟩ = some (.int .u8 7) := by
    have := cell_of_row _ _ 0 _ _ (0, 0) (heap_alloc_new (wr.alloc (.cells #[.int .i64 2, .int .i32 7, .slice none 0 0, .int .u8 0, .int .i64 3, .int .i32 0, .slice va vn vc, .int .u8 (FN : Int)] 34)) (.cells #[.int .u8 7] 5))
    rw [sB] at this
    exact this
  have cvBA : (convert 46 9 (.slice (some ⟨wr.heap.size + 1, 0, none⟩) 1 1)).run Tryd.prog ((wr.alloc (.cells #[.int .i64 2, .int .i32 7, .slice none 0 0, .int .u8 0, .int .i64 3, .int .i32 0, .slice va vn vc, .int .u8 (FN : Int)] 34)).alloc (.cells #[.int .u8 7] 5)) = .ok (.string (oneB 7)) ((wr.alloc (.cells #[.int .i64 2, .int .i32 7, .slice none 0 0, .int .u8 0, .int .i64 3, .int .i32 0, .slice va vn vc, .int .u8 (FN : Int)] 34)).alloc (.cells #[.int .u8 7] 5)) := conv_cell 7 _ _ hcB
  have cvA1 := conv_drew _ _ _ _ cvA (hcA _ (Below.refl _ _))
  have cvA2 := conv_drew _ _ _ _ cvA1 (hcA _ (Below.refl _ _).drew)
  have cvAB1 := conv_drew _ _ _ _ cvAB (hcA _ ((Below.refl _ _).alloc (Nat.le_of_eq sA.symm) _))
  have cvAB2 := conv_drew _ _ _ _ cvAB1 (hcA _ ((Below.refl _ _).alloc (Nat.le_of_eq sA.symm) _).drew)
  have cvBA1 := conv_drew _ _ _ _ cvBA hcB
  have cvBA2 := conv_drew _ _ _ _ cvBA1 hcB
  have hwrap : IntKind.i32.wrap 7 = 7 := by rw [IntKind.wrap_i32]; omega
  have HAB : Hid (Below wr.heap.size wr ((wr.alloc (.cells #[.int .u8 7] 5)).alloc (.cells #[.int .i64 2, .int .i32 7, .slice none 0 0, .int .u8 0, .int .i64 3, .int .i32 0, .slice va vn vc, .int .u8 (FN : Int)] 34)) ∧ ActsW AnyP ((wr.alloc (.cells #[.int .u8 7] 5)).alloc (.cells #[.int .i64 2, .int .i32 7, .slice none 0 0, .int .u8 0, .int .i64 3, .int .i32 0, .slice va vn vc, .int .u8 (FN : Int)] 34)) (.slice (some ⟨wr.heap.size + 1, 0, none⟩) 2 2) [(2, 7, [], 0), (3, 0, NS, FN)]) := by
    have h := acts_two 7 FN NS (.slice va vn vc) (wr.alloc (.cells #[.int .u8 7] 5)) (hNR.keep (keep_below _ hbA))
    rw [sA] at h
    exact ⟨below_alloc hbA, h⟩
  have HBA : Hid (Below wr.heap.size wr ((wr.alloc (.cells #[.int .i64 2, .int .i32 7, .slice none 0 0, .int .u8 0, .int .i64 3, .int .i32 0, .slice va vn vc, .int .u8 (FN : Int)] 34)).alloc (.cells #[.int .u8 7] 5)) ∧ ActsW AnyP ((wr.alloc (.cells #[.int .i64 2, .int .i32 7, .slice none 0 0, .int .u8 0, .int .i64 3, .int .i32 0, .slice va vn vc, .int .u8 (FN : Int)] 34)).alloc (.cells #[.int .u8 7] 5)) (.slice (some ⟨wr.heap.size, 0, none⟩) 2 2) [(2, 7, [], 0), (3, 0, NS, FN)]) := by
    have h := acts_two 7 FN NS (.slice va vn vc) wr hNR
    exact ⟨below_alloc hbB, h.below ((Below.refl _ _).alloc (Nat.le_refl _) _)⟩
  have hl1 : (S.extract 0 K).size ≤ 100 := by rw [Lib.size_eq, Lib.extract_data, List.length_take]; omega
  have hl2 : (S.extract K Z).size ≤ 100 := by rw [Lib.size_eq, Lib.extract_data, List.length_take]; omega
  have hl3 : (S.extract 0 K ++ oneB 7).size ≤ 101 := by rw [app_size, one_size]; omega
  have hl4 : (S.extract 0 K ++ oneB 7 ++ S.extract K Z).size ≤ 100000 := by rw [app_size]; omega
  have hsl1 : ∀ W, (Op.stringOp .add (S.extract 0 K) (oneB 7)).run Tryd.prog W = .ok (.string (S.extract 0 K ++ oneB 7)) W := fun W => run_string_add_sum W _ _ (by rw [one_size]; omega)
  have hsl2 : ∀ W, (Op.stringOp .add (S.extract 0 K ++ oneB 7) (S.extract K Z)).run Tryd.prog W = .ok (.string (S.extract 0 K ++ oneB 7 ++ S.extract K Z)) W := fun W => run_string_add_sum W _ _ (by omega)
  have hs1 : ∀ W, (Instr.slice 9 (.string S) none (some (.int .i64 (K : Int))) none).run Tryd.prog W = .ok (.string (S.extract 0 K)) W := fun W => by simp [go_sem, hZ, hK0, hKz]
  have hs2 : ∀ W, (Instr.slice 9 (.string S) (some (.int .i64 (K : Int))) none none).run Tryd.prog W = .ok (.string (S.extract K Z)) W := fun W => by simp [go_sem, hZ, hK0, hKz]
  have HI : Hid (∀ W k, Below wr.heap.size wr W → ActsW AnyP W (.slice (some ⟨k, 0, none⟩) 2 2) [(2, 7, [], 0), (3, 0, NS, FN)] → Calls Tryd.prog 13 #[.string (S.extract 0 K ++ oneB 7 ++ S.extract K Z), .slice (some ⟨k, 0, none⟩) 2 2] W fun e u => e = .returned (.bool true) ∧ Below wr.heap.size wr u) := fun W k hW hA => by
    have hr := HRUN.out K 7 hK1 hK2 (by omega) (by omega) (by omega)
    rw [hZ] at hr
    have h := HIS.out (S.extract 0 K ++ oneB 7 ++ S.extract K Z) _ _ W hl4 (hbr.trans (hW.mono hbr.size)) hA
    rw [hr, decide_eq_true rfl] at h
    exact h.mono fun e u ⟨h1, h2⟩ => ⟨h1, hW.trans (h2.mono hW.size)⟩
  have HC : Hid (∀ V, Below wr.heap.size wr V → V.cell? ⟨q, 0, none⟩ = some (.int .i64 3) ∧ V.cell? ⟨q, 1, none⟩ = some (.int .i32 0) ∧ V.cell? ⟨q, 2, none⟩ = some (.slice va vn vc) ∧ V.cell? ⟨q, 3, none⟩ = some (.int .u8 (FN : Int))) := fun V hV => (hQ.below hV).cells.1
  have HK2 : Hid (∀ W, Below wr.heap.size wr W → Calls Tryd.prog 8 #[] W fun e u => e = .returned (.bool true) ∧ Below wr.heap.size wr u) := fun W hW => (HASK.out W (hbr.trans (hW.mono hbr.size))).mono fun e u ⟨h1, h2⟩ => ⟨h1, hW.trans (h2.mono hW.size)⟩
  have hlq := hQ.lt
  have kk := Below.refl wr.heap.size wr
  have k0 : Below wr.heap.size wr wr.drew := kk.drew
  obtain ⟨p0, p1, p2, p3⟩ := HC.out wr kk
  clear HRUN HIS HASK hl1 hl2 hl3 hl4 hcA hcB hbA hbB sA sB hNR hQ
  obtain ⟨s0, s1, s2, s3⟩ := HC.out (wr.alloc (.cells #[.int .u8 7] 5)) (below_alloc kk)
  obtain ⟨t0, t1, t2, t3⟩ := HC.out (wr.alloc (.cells #[.int .u8 7] 5)).drew (below_alloc kk).drew
  go_region_with (first
      | (go_at_call 13; go_fit (HI.out _ _ ?_ ?_); (first | with_reducible exact HAB.out.1 | with_reducible exact HBA.out.1 | with_reducible exact HAB.out.1.drew | with_reducible exact HBA.out.1.drew | with_reducible exact HAB.out.1.drew.drew | with_reducible exact HBA.out.1.drew.drew); (first | with_reducible exact HAB.out.2 | with_reducible exact HBA.out.2 | with_reducible exact acts_drew HAB.out.2 | with_reducible exact acts_drew HBA.out.2 | with_reducible exact acts_drew (acts_drew HAB.out.2) | with_reducible exact acts_drew (acts_drew HBA.out.2)); rintro e vv ⟨rfl, kk⟩)
      | (go_at_call 8; go_fit (HK2.out _ ?_); (first | with_reducible exact kk); rintro e vv ⟨rfl, kk⟩))
  all_goals
    clear HC p0 p1 p2 p3 s0 s1 s2 s3 t0 t1 t2 t3
    go_wp2_with fail
    go_ret
    exact ⟨rfl, hbr.trans (kk.mono hbr.size)⟩
end Go.Proofs.YtbpnnnjbddjboaaDoor
