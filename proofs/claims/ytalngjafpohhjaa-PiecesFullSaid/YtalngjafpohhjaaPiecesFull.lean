/-
  For every two bytes, how many are missing and how many are put in: a text with that many bytes less than the most takes those that fit and refuses the others with 60; so the law returns true. No condition.
-/
import Derived.Test.YtalngjafpohhjaaPcPut
import Derived.Deep.OwnRows
namespace Go.Proofs.Ytalngjafpohhjaa
open Go.ChangeShapes Go.WideShapes Go.ChangeAt Go.RowKit

theorem Try.infoByte : (Try.prog.info? 5).map (fun i => (i.zero, i.size, i.bytes)) = some (some (.int .u8 0), 1, 1) := by kernel_rfl

/-- n bytes 0. -/
def zerosS (n : Nat) : ByteArray := strOfNums (List.replicate n 0)
theorem zerosS_size (n : Nat) : (zerosS n).size = n := by unfold zerosS; rw [strOfNums_size, List.length_replicate]
theorem make_zeros (k : IntKind) (n : Nat) (q : Int) (hq : (n : Int) = q) (hn : n ≤ 100000) (w : World) :
    (Instr.makeSlice 52 (.int k q) (.int k q)).run Try.prog w = .ok (.slice (some ⟨w.heap.size, 0, none⟩) n n) (w.alloc (.cells (madeCells #[.int .u8 0] n) 5)) := by
  rw [← hq]
  exact run_make_row' (P := Try.prog) 52 5 (.int .u8 0) 1 Try.underlying52 Try.infoByte rfl k k n (by omega) (by omega) w
theorem conv_zeros (n : Nat) (w : World) :
    (convert 52 9 (.slice (some ⟨w.heap.size, 0, none⟩) n n)).run Try.prog (w.alloc (.cells (madeCells #[.int .u8 0] n) 5)) = .ok (.string (zerosS n)) (w.alloc (.cells (madeCells #[.int .u8 0] n) 5)) := by
  obtain ⟨c, hc, hs, hv⟩ := World.rowIs_made w (.int .u8 0) n 5
  refine run_convert_bytes_arg (P := Try.prog) _ 52 5 Try.underlying52 Try.underlying5 w.heap.size 0 n n (List.replicate n 0) (by rw [List.length_replicate])
    (fun i hi => ?_) 9 Try.underlying9
  rw [Nat.zero_add, cell_of_row _ _ i c 5 (0, 0) hc, hv i hi]
  simp [List.getD, hi]

set_option maxRecDepth 100000 in
set_option maxHeartbeats 4000000 in
theorem piecesFull_near (m k : Nat) (w : World) (hm : m ≤ 255) (hkm : k ≤ m) :
    Calls Try.prog 7 #[.int .u8 (m : Int), .int .u8 (k : Int)] w fun e w' => e = .returned (.bool true) ∧ Below w.heap.size w w' := by
  obtain ⟨n1, h1⟩ : ∃ n1, n1 = 16384 - m := ⟨_, rfl⟩
  obtain ⟨n3, h3⟩ : ∃ n3, n3 = 16385 + k := ⟨_, rfl⟩
  have M1 := make_zeros .i64 n1 (16384 - (m : Int)) (by omega) (by omega)
  have M2 := make_zeros .u8 k (k : Int) rfl (by omega)
  have M3 := make_zeros .i64 n3 (16385 + (k : Int)) (by omega) (by omega)
  have V := conv_zeros
  have hbA : ∀ w n, Below w.heap.size w (w.alloc (.cells (madeCells #[.int .u8 0] n) 5)) := fun w n => (Below.refl _ _).alloc (Nat.le_refl _) _
  have HA := Lib.hid hbA
  have s1 := zerosS_size n1
  have s2 := zerosS_size k
  have s3 := zerosS_size n3
  have H1 := Lib.hid (fun w => new_ok (zerosS n1) w (by omega))
  have H2 : Hid (∀ u xs w, TextX w u (zerosS n1) xs → Calls Try.prog 16 #[u, .int .i64 (m : Int), .string (zerosS k)] w fun e w' => (∃ u, e = .returned (.tuple #[u, .int .i64 0]) ∧ TextX w' u (putS (zerosS n1) m m (zerosS k)) (insL xs m (zerosS k))) ∧ Below w.heap.size w w') :=
    fun u xs w h => ins_ok m (zerosS k) w h (by omega) (by omega)
  have H3 := Lib.hid (fun w => new_far (zerosS n3) w (by omega))
  have Z1 : Hid (((zerosS n1).size : Int) = 16384 - (m : Int)) := by show _ = _; omega
  have Z2 : Hid (((putS (zerosS n1) m m (zerosS k)).size : Int) = 16384 - (m : Int) + (k : Int)) := by
    show _ = _
    rw [putS_size _ _ _ _ (Nat.le_refl _) (by omega)]; omega
  have a1 : (k : Int) ≤ (m : Int) := by omega
  have a2 : (m : Int) ≤ 255 := by omega
  have P1 := Lib.hid s1
  have L2 : Hid ((putS (zerosS n1) m m (zerosS k)).size ≤ 16384) := by
    show _ ≤ _
    have := Z2.out; omega
  clear s1 s2 s3 h1 h3 hbA hm hkm
  go_enter Try.func7, Try.ntmps7
  go_wp2_with fail
  refine (H1.out _).mono ?_
  rintro e w1 ⟨⟨u1, rfl, hT1⟩, b1⟩
  have k1 := (HA.out _ _).trans (b1.mono (HA.out _ _).size)
  have H2' := Lib.hid (H2.out u1 _ _ (hT1.below (HA.out _ k)))
  go_wp2_with fail
  refine H2'.out.mono ?_
  rintro e w2 ⟨⟨u2, rfl, hT2⟩, b2⟩
  have k2 := (k1.trans ((HA.out _ _).mono k1.size)).trans (b2.mono (Nat.le_trans k1.size (HA.out _ _).size))
  have hT1 := (hT1.below (HA.out _ k)).below b2
  clear H1 H2 H2' b1 k1 b2
  go_wp2_with fail
  refine (H3.out _).mono ?_
  rintro e w3 ⟨rfl, b3⟩
  have k3 := (k2.trans ((HA.out _ _).mono k2.size)).trans (b3.mono (Nat.le_trans k2.size (HA.out _ _).size))
  have hT1 := (hT1.below (HA.out _ n3)).below b3
  have hT2 := (hT2.below (HA.out _ n3)).below b3
  have L1 := len_text w3 hT1.text
  have L2 := len_text w3 hT2.text
  rw [Z1.out] at L1
  rw [Z2.out] at L2
  have HL1 := Lib.hid L1
  have HL2 := Lib.hid L2
  have HP := Lib.hid (put_any w3)
  clear H3 b3 k2 L1 L2 hT1 hT2
  go_wp2_with fail
  refine HL1.out.mono ?_
  rintro e w4 ⟨rfl, rfl⟩
  go_wp2_with fail
  refine HL2.out.mono ?_
  rintro e w4 ⟨rfl, rfl⟩
  go_wp2_with fail
  refine HL1.out.mono ?_
  rintro e w5 ⟨rfl, rfl⟩
  go_wp2_with fail
  refine HP.out.mono ?_
  rintro e w6 ⟨rfl, b6⟩
  go_wp2
  go_ret
  exact ⟨rfl, k3.trans (b6.mono k3.size)⟩

set_option maxRecDepth 100000 in
set_option maxHeartbeats 4000000 in
theorem piecesFull_far (m k : Nat) (w : World) (hm : m ≤ 255) (hk : k ≤ 255) (hkm : m < k) :
    Calls Try.prog 7 #[.int .u8 (m : Int), .int .u8 (k : Int)] w fun e w' => e = .returned (.bool true) ∧ Below w.heap.size w w' := by
  obtain ⟨n1, h1⟩ : ∃ n1, n1 = 16384 - m := ⟨_, rfl⟩
  obtain ⟨n3, h3⟩ : ∃ n3, n3 = 16385 + k := ⟨_, rfl⟩
  have M1 := make_zeros .i64 n1 (16384 - (m : Int)) (by omega) (by omega)
  have M2 := make_zeros .u8 k (k : Int) rfl (by omega)
  have M3 := make_zeros .i64 n3 (16385 + (k : Int)) (by omega) (by omega)
  have V := conv_zeros
  have hbA : ∀ w n, Below w.heap.size w (w.alloc (.cells (madeCells #[.int .u8 0] n) 5)) := fun w n => (Below.refl _ _).alloc (Nat.le_refl _) _
  have HA := Lib.hid hbA
  have s1 := zerosS_size n1
  have s2 := zerosS_size k
  have s3 := zerosS_size n3
  have H1 := Lib.hid (fun w => new_ok (zerosS n1) w (by omega))
  have H2 : Hid (∀ u xs w, TextX w u (zerosS n1) xs → Calls Try.prog 16 #[u, .int .i64 (m : Int), .string (zerosS k)] w fun e w' => e = .returned (.tuple #[.pointer none, .int .i64 60]) ∧ Below w.heap.size w w') :=
    fun u xs w h => ins_full (m : Int) (zerosS k) w h (by unfold inB; exact decide_eq_true (by omega)) (by omega) (by omega)
  have H3 := Lib.hid (fun w => new_far (zerosS n3) w (by omega))
  have Z1 : Hid (((zerosS n1).size : Int) = 16384 - (m : Int)) := by show _ = _; omega
  have a1 : (m : Int) < (k : Int) := by omega
  have a2 : (m : Int) ≤ 255 := by omega
  have a3 : (k : Int) ≤ 255 := by omega
  clear s1 s2 s3 h1 h3 hbA hm hkm hk
  go_enter Try.func7, Try.ntmps7
  go_wp2_with fail
  refine (H1.out _).mono ?_
  rintro e w1 ⟨⟨u1, rfl, hT1⟩, b1⟩
  have k1 := (HA.out _ _).trans (b1.mono (HA.out _ _).size)
  have H2' := Lib.hid (H2.out u1 _ _ (hT1.below (HA.out _ k)))
  go_wp2_with fail
  refine H2'.out.mono ?_
  rintro e w2 ⟨rfl, b2⟩
  have k2 := (k1.trans ((HA.out _ _).mono k1.size)).trans (b2.mono (Nat.le_trans k1.size (HA.out _ _).size))
  have hT1 := (hT1.below (HA.out _ k)).below b2
  clear H1 H2 H2' b1 k1 b2
  go_wp2_with fail
  refine (H3.out _).mono ?_
  rintro e w3 ⟨rfl, b3⟩
  have k3 := (k2.trans ((HA.out _ _).mono k2.size)).trans (b3.mono (Nat.le_trans k2.size (HA.out _ _).size))
  have hT1 := (hT1.below (HA.out _ n3)).below b3
  have L1 := len_text w3 hT1.text
  rw [Z1.out] at L1
  have HL1 := Lib.hid L1
  have HP := Lib.hid (put_any w3)
  clear H3 b3 k2 L1 hT1
  go_wp2_with fail
  refine HL1.out.mono ?_
  rintro e w4 ⟨rfl, rfl⟩
  go_wp2_with fail
  refine HP.out.mono ?_
  rintro e w6 ⟨rfl, b6⟩
  go_wp2
  go_ret
  exact ⟨rfl, k3.trans (b6.mono k3.size)⟩

theorem piecesFull_any (m k : Int) (w : World) (m0 : 0 ≤ m) (m1 : m ≤ 255) (k0 : 0 ≤ k) (k1 : k ≤ 255) :
    Calls Try.prog 7 #[.int .u8 m, .int .u8 k] w fun e w' => e = .returned (.bool true) ∧ Below w.heap.size w w' := by
  obtain ⟨m', rfl⟩ : ∃ m' : Nat, m = (m' : Int) := ⟨m.toNat, by omega⟩
  obtain ⟨k', rfl⟩ : ∃ k' : Nat, k = (k' : Int) := ⟨k.toNat, by omega⟩
  by_cases h : k' ≤ m'
  · exact piecesFull_near m' k' w (by omega) h
  · exact piecesFull_far m' k' w (by omega) (by omega) (by omega)

-- FRAME
theorem piecesFull_own : ownKnob Try.prog.godebug = none := by kernel_rfl

set_option maxRecDepth 100000 in
theorem piecesFull_lifted (os : Os) (started : os.Started) (H : Type) (enc : TypeId × Value → H) :
    ReturnsInHanded {} Try.checked os 7 .any (Rows.piecesFullSpec.pre6 enc Try.prog Try.f7 Rows.piecesFullRow.domain false) (Rows.piecesFullSpec.post enc Try.prog Try.f7 false true false false) := by
  refine returnsInHanded_of_change (C := Try.checked) piecesFull_own started (by kernel_rfl) Try.func7
    (ChangeSpec.witness6 (enc := enc) (C := Try.checked) false ⟨#[], #[.int .u8 0, .int .u8 0], []⟩ 8 (by kernel_rfl) (by kernel_rfl) (by kernel_rfl) (by kernel_rfl)) ?_
  intro W base args ds gs before hval0 hW hcnd _
  have hval : ∀ (j : Nat) t v, Try.f7.params[j]? = some t → args[j]? = some v → Value.okWide Try.prog W .any base t v := hval0
  have hW' := hW
  obtain ⟨p, q, hA0, hV, rfl, hfz, hnd⟩ := hW
  have hA : DataW.TrodAll enc Try.prog W 0 (fun _ => true) true Try.f7.params.toList args.toList ds p := hA0
  rw [Try.params7] at hA hval
  obtain ⟨v0, v1, d0, d1, p0, p1, rfl, rfl, rfl, h0, h1⟩ := trodAll_two hA
  obtain ⟨rfl, rfl⟩ := trodVars_none hV
  obtain ⟨x0, rfl, rfl, rfl, wr0⟩ := open_int Try.underlying5 (hval 0 5 v0 rfl rfl) h0
  obtain ⟨x1, rfl, rfl, rfl, wr1⟩ := open_int Try.underlying5 (hval 1 5 v1 rfl rfl) h1
  clear hA0 hval0
  simp only [List.append_nil] at hW'
  have rg0 : (0 : Int) ≤ x0 ∧ x0 ≤ 255 := by
    have h := wr0
    simp only [Lit.wf, Bool.and_eq_true, decide_eq_true_eq] at h
    rwa [show IntKind.u8.min = 0 by decide, show IntKind.u8.max = 255 by decide] at h
  have rg1 : (0 : Int) ≤ x1 ∧ x1 ≤ 255 := by
    have h := wr1
    simp only [Lit.wf, Bool.and_eq_true, decide_eq_true_eq] at h
    rwa [show IntKind.u8.min = 0 by decide, show IntKind.u8.max = 255 by decide] at h
  refine (piecesFull_any x0 x1 W rg0.1 rg0.2 rg1.1 rg1.2).mono fun e W' ⟨he, hw⟩ => ?_
  subst he
  exact ⟨_, rfl, _, _, _, [], [], [], hW', trodAll_mk1 (shut_bool Try.underlying4 _), trodAll_mk2 (shut_int Try.underlying5 wr0) (shut_int Try.underlying5 wr1), rfl, hw.frame _, fun h => by cases h⟩

theorem piecesFull_holds : Rows.PiecesFullSaid :=
  OpenClaim.holds_of_wide 7 Try.f7 rfl rfl rfl rfl rfl rfl rfl ⟨rfl, rfl, rfl, rfl, rfl⟩ rfl rfl rfl rfl rfl (by kernel_rfl) Try.func7 (by kernel_rfl)
    (of_decide_eq_true (by kernel_rfl)) (by unfold Func.isWrapper; first | (rw [if_pos (by decide +kernel)]; kernel_rfl) | (rw [if_neg (by decide +kernel)]; exact ⟨rfl, rfl⟩))
    (fun os started H enc _ => piecesFull_lifted os started H enc)
end Go.Proofs.Ytalngjafpohhjaa
