/-
  limnerlaw10.RegsSet: it returns true, for every two bytes.
-/
import Derived.Test.YthokamikejnbeaaDoorBe47
import Derived.Test.YthokamikejnbeaaDoorLRgSetN
namespace Go.Proofs.YthokamikejnbeaaDoor
open Go.RowKit

abbrev hexS : ByteArray := ⟨#[48, 49, 50, 51, 52, 53, 54, 55, 56, 57, 97, 98, 99, 100, 101, 102]⟩
theorem hex_cut : ∀ d, d < 16 → hexS.extract d (d + 1) = strR [hexC d] := by decide +kernel
set_option maxRecDepth 100000 in
set_option maxHeartbeats 8000000 in
theorem regsSet_le (a b : Nat) (w : World) (he : ErrW w) (hab : a ≤ b) (hb : b < 256) (x y : Int) (hx : min x y = (a : Int)) (hy : max x y = (b : Int)) :
    Calls Tryd.prog 7 #[.int .u8 x, .int .u8 y] w fun e w' => e = .returned (.bool true) ∧ Below w.heap.size w w' := by
  have ha : a < 256 := by omega
  have a0 : (0 : Int) ≤ (a : Int) := by omega
  have a255 : (a : Int) ≤ 255 := by omega
  have b0 : (0 : Int) ≤ (b : Int) := by omega
  have b255 : (b : Int) ≤ 255 := by omega
  obtain ⟨qa, hqa⟩ : ∃ q, a / 16 = q := ⟨_, rfl⟩
  obtain ⟨ma, hma⟩ : ∃ q, a % 16 = q := ⟨_, rfl⟩
  obtain ⟨qb, hqb⟩ : ∃ q, b / 16 = q := ⟨_, rfl⟩
  obtain ⟨mb, hmb⟩ : ∃ q, b % 16 = q := ⟨_, rfl⟩
  have d1 : (a : Int).tdiv 16 = (qa : Int) := by rw [show (16 : Int) = ((16 : Nat) : Int) from rfl, ← Int.ofNat_tdiv, hqa]
  have d2 : (b : Int).tdiv 16 = (qb : Int) := by rw [show (16 : Int) = ((16 : Nat) : Int) from rfl, ← Int.ofNat_tdiv, hqb]
  have d3 : (a : Int).tmod 16 = (ma : Int) := by rw [show (16 : Int) = ((16 : Nat) : Int) from rfl, ← Int.ofNat_tmod, hma]
  have d4 : (b : Int).tmod 16 = (mb : Int) := by rw [show (16 : Int) = ((16 : Nat) : Int) from rfl, ← Int.ofNat_tmod, hmb]
  have q1 : (0 : Int) ≤ (qa : Int) ∧ (qa : Int) ≤ 15 := by omega
  have q2 : (0 : Int) ≤ (qb : Int) ∧ (qb : Int) ≤ 15 := by omega
  have q3 : (0 : Int) ≤ (ma : Int) ∧ (ma : Int) ≤ 15 := by omega
  have q4 : (0 : Int) ≤ (mb : Int) ∧ (mb : Int) ≤ 15 := by omega
  obtain ⟨q10, q11⟩ := q1
  obtain ⟨q20, q21⟩ := q2
  obtain ⟨q30, q31⟩ := q3
  obtain ⟨q40, q41⟩ := q4
  have HXA : Hid ((⟨#[92, 120]⟩ : ByteArray) ++ (⟨#[48, 49, 50, 51, 52, 53, 54, 55, 56, 57, 97, 98, 99, 100, 101, 102]⟩ : ByteArray).extract qa (qa + 1) ++ (⟨#[48, 49, 50, 51, 52, 53, 54, 55, 56, 57, 97, 98, 99, 100, 101, 102]⟩ : ByteArray).extract ma (ma + 1) = strR (hexT a)) := by
    have h1 := hex_cut qa (by omega)
    have h2 := hex_cut ma (by omega)
    show (strR [92, 120]) ++ hexS.extract qa (qa + 1) ++ hexS.extract ma (ma + 1) = _
    rw [h1, h2, ← strR_app, ← strR_app, ← hqa, ← hma]
    rfl
  have HXB : Hid ((⟨#[92, 120]⟩ : ByteArray) ++ (⟨#[48, 49, 50, 51, 52, 53, 54, 55, 56, 57, 97, 98, 99, 100, 101, 102]⟩ : ByteArray).extract qb (qb + 1) ++ (⟨#[48, 49, 50, 51, 52, 53, 54, 55, 56, 57, 97, 98, 99, 100, 101, 102]⟩ : ByteArray).extract mb (mb + 1) = strR (hexT b)) := by
    have h1 := hex_cut qb (by omega)
    have h2 := hex_cut mb (by omega)
    show (strR [92, 120]) ++ hexS.extract qb (qb + 1) ++ hexS.extract mb (mb + 1) = _
    rw [h1, h2, ← strR_app, ← strR_app, ← hqb, ← hmb]
    rfl
  obtain ⟨r1, r2, r3, r4⟩ := set_rules a b ha hb hab
  have HAB := Lib.hid (And.intro hab (And.intro ha hb))
  have f1 := fun c hc => has_one a c ha hc
  have f2 := fun c hc => has_two a b c ha hb hc
  have f3 := fun c hc => has_range a b c hb hab hc
  have f4 := fun c hc => has_others a b c hb hab hc
  have s1 : OkR (withR noR a 1) := ok_with _ _ _ (by omega) ok_no
  have s2 : OkR (withR (withR noR a 1) b 1) := ok_with _ _ _ (by omega) s1
  have s3 : OkR (withR noR a (b + 1 - a)) := ok_with _ _ _ (by omega) ok_no
  have s4 : OkR (notR (withR noR a (b + 1 - a)) 256) := ok_not _ 256 (Nat.le_refl _)
  obtain ⟨S4, hS4⟩ : ∃ S, notR (withR noR a (b + 1 - a)) 256 = S := ⟨_, rfl⟩
  obtain ⟨S3, hS3⟩ : ∃ S, withR noR a (b + 1 - a) = S := ⟨_, rfl⟩
  obtain ⟨S2, hS2⟩ : ∃ S, withR (withR noR a 1) b 1 = S := ⟨_, rfl⟩
  obtain ⟨S1, hS1⟩ : ∃ S, withR noR a 1 = S := ⟨_, rfl⟩
  rw [hS4] at r4 f4 s4
  rw [hS3] at r3 f3 s3
  rw [hS2] at r2 f2 s2
  rw [hS1] at r1 f1 s1
  clear hS1 hS2 hS3 hS4
  have HC1 := Lib.hid (fun (c : Nat) W (hc : c < 256) => phas_any S1 c W s1 hc)
  have HC2 := Lib.hid (fun (c : Nat) W (hc : c < 256) => phas_any S2 c W s2 hc)
  have HC3 := Lib.hid (fun (c : Nat) W (hc : c < 256) => phas_any S3 c W s3 hc)
  have HC4 := Lib.hid (fun (c : Nat) W (hc : c < 256) => phas_any S4 c W s4 hc)
  unfold setV at HC1 HC2 HC3 HC4
  have HF1 := Lib.hid f1
  have HF2 := Lib.hid f2
  have HF3 := Lib.hid f3
  have HF4 := Lib.hid f4
  obtain ⟨X, hX⟩ : ∃ X, strR (hexT a) = X := ⟨_, rfl⟩
  obtain ⟨Y, hY⟩ : ∃ Y, strR (hexT b) = Y := ⟨_, rfl⟩
  have t2 : (⟨#[91]⟩ : ByteArray) ++ X ++ Y ++ (⟨#[93]⟩ : ByteArray) = strR (91 :: (hexT a ++ (hexT b ++ [93]))) := by
    rw [← hX, ← hY]
    show strR [91] ++ strR (hexT a) ++ strR (hexT b) ++ strR [93] = _
    rw [← strR_app, ← strR_app, ← strR_app, List.append_assoc, List.append_assoc]
    rfl
  have t3 : (⟨#[91]⟩ : ByteArray) ++ X ++ (⟨#[45]⟩ : ByteArray) ++ Y ++ (⟨#[93]⟩ : ByteArray) = strR (91 :: (hexT a ++ 45 :: (hexT b ++ [93]))) := by
    rw [← hX, ← hY]
    show strR [91] ++ strR (hexT a) ++ strR [45] ++ strR (hexT b) ++ strR [93] = _
    rw [← strR_app, ← strR_app, ← strR_app, ← strR_app, List.append_assoc, List.append_assoc, List.append_assoc]
    rfl
  have t4 : (⟨#[91, 94]⟩ : ByteArray) ++ X ++ (⟨#[45]⟩ : ByteArray) ++ Y ++ (⟨#[93]⟩ : ByteArray) = strR (91 :: 94 :: (hexT a ++ 45 :: (hexT b ++ [93]))) := by
    rw [← hX, ← hY]
    show strR [91, 94] ++ strR (hexT a) ++ strR [45] ++ strR (hexT b) ++ strR [93] = _
    rw [← strR_app, ← strR_app, ← strR_app, ← strR_app, List.append_assoc, List.append_assoc, List.append_assoc]
    rfl
  have zx : X.size = 4 := by rw [← hX]; rfl
  have zy : Y.size = 4 := by rw [← hY]; rfl
  rw [hX] at HXA r1
  rw [hY] at HXB
  rw [← t2] at r2
  rw [← t3] at r3
  rw [← t4] at r4
  have HP1 := Lib.hid (fun W (h : ErrW W) => pparse_any X W h)
  have HP2 := Lib.hid (fun W (h : ErrW W) => pparse_any ((⟨#[91]⟩ : ByteArray) ++ X ++ Y ++ (⟨#[93]⟩ : ByteArray)) W h)
  have HP3 := Lib.hid (fun W (h : ErrW W) => pparse_any ((⟨#[91]⟩ : ByteArray) ++ X ++ (⟨#[45]⟩ : ByteArray) ++ Y ++ (⟨#[93]⟩ : ByteArray)) W h)
  have HP4 := Lib.hid (fun W (h : ErrW W) => pparse_any ((⟨#[91, 94]⟩ : ByteArray) ++ X ++ (⟨#[45]⟩ : ByteArray) ++ Y ++ (⟨#[93]⟩ : ByteArray)) W h)
  simp only [r1] at HP1
  simp only [r2] at HP2
  simp only [r3] at HP3
  simp only [r4] at HP4
  have H0 : Hid (∀ nq, ErrW (w.drewN nq) ∧ Below w.heap.size w (w.drewN nq)) := fun nq => ⟨he.below (drewN_under w nq), drewN_under w nq⟩
  clear hqa hma hqb hmb he hab hb ha t2 t3 t4 r1 r2 r3 r4 hX hY f1 f2 f3 f4 s1 s2 s3 s4
  go_enter Tryd.func7, Tryd.ntmps7
  go_wp2_with fail
  go_quiet (fail)
  rw [HXA.out, HXB.out]
  have HW0 := Lib.hid (H0.out nq)
  obtain ⟨W0, hW0⟩ : ∃ W, w.drewN nq = W := ⟨_, rfl⟩
  rw [hW0] at HW0 ⊢
  clear hW0 HXA HXB H0 hx hy d1 d2 d3 d4 q10 q11 q20 q21 q30 q31 q40 q41
  go_wp2_with fail
  go_fit (HP1.out _ HW0.out.1)
  rintro e w1 ⟨x1, rfl, hn, hb⟩
  obtain ⟨_, u1, hxe, hu⟩ := hn
  obtain ⟨o1, c1, rfl, _⟩ := hu.form
  obtain rfl : x1 = .agg #[.int .i64 1, .int .u64 (S1.1 : Int), .int .u64 (S1.2.1 : Int), .int .u64 (S1.2.2.1 : Int), .int .u64 (S1.2.2.2 : Int), .slice o1 0 c1] := hxe
  have hb2 := alloc_under w1 (.cells #[.int .i64 1, .int .u64 (S1.1 : Int), .int .u64 (S1.2.1 : Int), .int .u64 (S1.2.2.1 : Int), .int .u64 (S1.2.2.2 : Int), .slice o1 0 c1] 27)
  have hbx : boxN 27 _ w1.heap.size 1 S1 (.slice o1 0 c1) := boxN.new 27 w1 1 S1 (.slice o1 0 c1)
  have hbw := hb.trans (hb2.mono hb.size)
  have hbt := HW0.out.2.trans (hbw.mono HW0.out.2.size)
  obtain ⟨V1, hV⟩ : ∃ V, w1.alloc (.cells #[.int .i64 1, .int .u64 (S1.1 : Int), .int .u64 (S1.2.1 : Int), .int .u64 (S1.2.2.1 : Int), .int .u64 (S1.2.2.2 : Int), .slice o1 0 c1] 27) = V := ⟨_, rfl⟩
  obtain ⟨B1, hB⟩ : ∃ B, w1.heap.size = B := ⟨_, rfl⟩
  rw [hV] at hbx hbw hbt
  rw [hB] at hbx
  have HV1 := Lib.hid (show ErrW V1 ∧ Below w.heap.size w V1 ∧ boxN 27 V1 B1 1 S1 (.slice o1 0 c1) from ⟨HW0.out.1.below hbw, hbt, hbx⟩)
  clear hu hb hb2 hbx hbw hbt HW0
  go_wp2_with fail
  try rw [hV]
  try rw [hB]
  clear hV hB
  go_wp2_with fail
  go_fit (HP2.out _ HV1.out.1)
  rintro e w2 ⟨x2, rfl, hn, hb⟩
  obtain ⟨_, u2, hxe, hu⟩ := hn
  obtain ⟨o2, c2, rfl, _⟩ := hu.form
  obtain rfl : x2 = .agg #[.int .i64 1, .int .u64 (S2.1 : Int), .int .u64 (S2.2.1 : Int), .int .u64 (S2.2.2.1 : Int), .int .u64 (S2.2.2.2 : Int), .slice o2 0 c2] := hxe
  have hb2 := alloc_under w2 (.cells #[.int .i64 1, .int .u64 (S2.1 : Int), .int .u64 (S2.2.1 : Int), .int .u64 (S2.2.2.1 : Int), .int .u64 (S2.2.2.2 : Int), .slice o2 0 c2] 27)
  have hbx : boxN 27 _ w2.heap.size 1 S2 (.slice o2 0 c2) := boxN.new 27 w2 1 S2 (.slice o2 0 c2)
  have hbw := hb.trans (hb2.mono hb.size)
  have hbt := HV1.out.2.1.trans (hbw.mono HV1.out.2.1.size)
  obtain ⟨V2, hV⟩ : ∃ V, w2.alloc (.cells #[.int .i64 1, .int .u64 (S2.1 : Int), .int .u64 (S2.2.1 : Int), .int .u64 (S2.2.2.1 : Int), .int .u64 (S2.2.2.2 : Int), .slice o2 0 c2] 27) = V := ⟨_, rfl⟩
  obtain ⟨B2, hB⟩ : ∃ B, w2.heap.size = B := ⟨_, rfl⟩
  rw [hV] at hbx hbw hbt
  rw [hB] at hbx
  have HV2 := Lib.hid (show ErrW V2 ∧ Below w.heap.size w V2 ∧ boxN 27 V2 B1 1 S1 (.slice o1 0 c1) ∧ boxN 27 V2 B2 1 S2 (.slice o2 0 c2) from ⟨HV1.out.1.below hbw, hbt, (HV1.out.2.2).below hbw, hbx⟩)
  clear hu hb hb2 hbx hbw hbt HV1
  go_wp2_with fail
  try rw [hV]
  try rw [hB]
  clear hV hB
  go_wp2_with fail
  go_fit (HP3.out _ HV2.out.1)
  rintro e w3 ⟨x3, rfl, hn, hb⟩
  obtain ⟨_, u3, hxe, hu⟩ := hn
  obtain ⟨o3, c3, rfl, _⟩ := hu.form
  obtain rfl : x3 = .agg #[.int .i64 1, .int .u64 (S3.1 : Int), .int .u64 (S3.2.1 : Int), .int .u64 (S3.2.2.1 : Int), .int .u64 (S3.2.2.2 : Int), .slice o3 0 c3] := hxe
  have hb2 := alloc_under w3 (.cells #[.int .i64 1, .int .u64 (S3.1 : Int), .int .u64 (S3.2.1 : Int), .int .u64 (S3.2.2.1 : Int), .int .u64 (S3.2.2.2 : Int), .slice o3 0 c3] 27)
  have hbx : boxN 27 _ w3.heap.size 1 S3 (.slice o3 0 c3) := boxN.new 27 w3 1 S3 (.slice o3 0 c3)
  have hbw := hb.trans (hb2.mono hb.size)
  have hbt := HV2.out.2.1.trans (hbw.mono HV2.out.2.1.size)
  obtain ⟨V3, hV⟩ : ∃ V, w3.alloc (.cells #[.int .i64 1, .int .u64 (S3.1 : Int), .int .u64 (S3.2.1 : Int), .int .u64 (S3.2.2.1 : Int), .int .u64 (S3.2.2.2 : Int), .slice o3 0 c3] 27) = V := ⟨_, rfl⟩
  obtain ⟨B3, hB⟩ : ∃ B, w3.heap.size = B := ⟨_, rfl⟩
  rw [hV] at hbx hbw hbt
  rw [hB] at hbx
  have HV3 := Lib.hid (show ErrW V3 ∧ Below w.heap.size w V3 ∧ boxN 27 V3 B1 1 S1 (.slice o1 0 c1) ∧ boxN 27 V3 B2 1 S2 (.slice o2 0 c2) ∧ boxN 27 V3 B3 1 S3 (.slice o3 0 c3) from ⟨HV2.out.1.below hbw, hbt, (HV2.out.2.2.1).below hbw, (HV2.out.2.2.2).below hbw, hbx⟩)
  clear hu hb hb2 hbx hbw hbt HV2
  go_wp2_with fail
  try rw [hV]
  try rw [hB]
  clear hV hB
  go_wp2_with fail
  go_fit (HP4.out _ HV3.out.1)
  rintro e w4 ⟨x4, rfl, hn, hb⟩
  obtain ⟨_, u4, hxe, hu⟩ := hn
  obtain ⟨o4, c4, rfl, _⟩ := hu.form
  obtain rfl : x4 = .agg #[.int .i64 1, .int .u64 (S4.1 : Int), .int .u64 (S4.2.1 : Int), .int .u64 (S4.2.2.1 : Int), .int .u64 (S4.2.2.2 : Int), .slice o4 0 c4] := hxe
  have hb2 := alloc_under w4 (.cells #[.int .i64 1, .int .u64 (S4.1 : Int), .int .u64 (S4.2.1 : Int), .int .u64 (S4.2.2.1 : Int), .int .u64 (S4.2.2.2 : Int), .slice o4 0 c4] 27)
  have hbx : boxN 27 _ w4.heap.size 1 S4 (.slice o4 0 c4) := boxN.new 27 w4 1 S4 (.slice o4 0 c4)
  have hbw := hb.trans (hb2.mono hb.size)
  have hbt := HV3.out.2.1.trans (hbw.mono HV3.out.2.1.size)
  obtain ⟨V4, hV⟩ : ∃ V, w4.alloc (.cells #[.int .i64 1, .int .u64 (S4.1 : Int), .int .u64 (S4.2.1 : Int), .int .u64 (S4.2.2.1 : Int), .int .u64 (S4.2.2.2 : Int), .slice o4 0 c4] 27) = V := ⟨_, rfl⟩
  obtain ⟨B4, hB⟩ : ∃ B, w4.heap.size = B := ⟨_, rfl⟩
  rw [hV] at hbx hbw hbt
  rw [hB] at hbx
  have HV4 := Lib.hid (show ErrW V4 ∧ Below w.heap.size w V4 ∧ boxN 27 V4 B1 1 S1 (.slice o1 0 c1) ∧ boxN 27 V4 B2 1 S2 (.slice o2 0 c2) ∧ boxN 27 V4 B3 1 S3 (.slice o3 0 c3) ∧ boxN 27 V4 B4 1 S4 (.slice o4 0 c4) from ⟨HV3.out.1.below hbw, hbt, (HV3.out.2.2.1).below hbw, (HV3.out.2.2.2.1).below hbw, (HV3.out.2.2.2.2).below hbw, hbx⟩)
  clear hu hb hb2 hbx hbw hbt HV3
  go_upto_region 8 with (fail)
  try rw [hV]
  try rw [hB]
  clear hV hB
  obtain ⟨⟨p00, p01, p02, p03, p04, _⟩, _⟩ := HV4.out.2.2.1.cells
  obtain ⟨⟨p10, p11, p12, p13, p14, _⟩, _⟩ := HV4.out.2.2.2.1.cells
  obtain ⟨⟨p20, p21, p22, p23, p24, _⟩, _⟩ := HV4.out.2.2.2.2.1.cells
  obtain ⟨⟨p30, p31, p32, p33, p34, _⟩, _⟩ := HV4.out.2.2.2.2.2.cells
  go_wp2_with fail
  clear p00 p01 p02 p03 p04 p10 p11 p12 p13 p14 p20 p21 p22 p23 p24 p30 p31 p32 p33 p34
  go_loopw [16] (fun s16 wr => ∃ i : Nat, s16 = .int .i64 (i : Int) ∧ i ≤ 256 ∧ Hid (ErrW wr ∧ Below w.heap.size w wr ∧ boxN 27 wr B1 1 S1 (.slice o1 0 c1) ∧ boxN 27 wr B2 1 S2 (.slice o2 0 c2) ∧ boxN 27 wr B3 1 S3 (.slice o3 0 c3) ∧ boxN 27 wr B4 1 S4 (.slice o4 0 c4))) (fun s16 _ => 256 - (intOf s16).toNat)
  case atStart => exact ⟨0, rfl, Nat.zero_le _, HV4.out⟩
  case round =>
    obtain ⟨i, rfl, hi, HI⟩ := hrel
    clear HV4
    have i0 : (0 : Int) ≤ (i : Int) := by omega
    by_cases hlt : i < 256
    · have hli : (i : Int) < 256 := by omega
      have hli2 : (i : Int) ≤ 255 := by omega
      have g1 := HC1.out i wr hlt
      rw [HF1.out i hlt] at g1
      have G2 : Hid (∀ W, Calls _ _ _ W _) := fun W => HC2.out i W hlt
      have G3 : Hid (∀ W, Calls _ _ _ W _) := fun W => HC3.out i W hlt
      have G4 : Hid (∀ W, Calls _ _ _ W _) := fun W => HC4.out i W hlt
      simp only [HF2.out i hlt] at G2
      simp only [HF3.out i hlt] at G3
      simp only [HF4.out i hlt] at G4
      have hNx : Hid (∀ W, Below wr.heap.size wr W → ErrW W ∧ Below w.heap.size w W ∧ boxN 27 W B1 1 S1 (.slice o1 0 c1) ∧ boxN 27 W B2 1 S2 (.slice o2 0 c2) ∧ boxN 27 W B3 1 S3 (.slice o3 0 c3) ∧ boxN 27 W B4 1 S4 (.slice o4 0 c4)) := fun W hb =>
        ⟨HI.out.1.below hb, HI.out.2.1.trans (hb.mono HI.out.2.1.size), HI.out.2.2.1.below hb, HI.out.2.2.2.1.below hb, HI.out.2.2.2.2.1.below hb, HI.out.2.2.2.2.2.below hb⟩
      obtain ⟨A, hA⟩ : ∃ A, decide (i = a) = A := ⟨_, rfl⟩
      obtain ⟨B, hB⟩ : ∃ A, decide (i = b) = A := ⟨_, rfl⟩
      have ia : ((i : Int) == (a : Int)) = A := by
        rw [← hA]
        by_cases e : i = a
        · rw [e]; simp
        · rw [decide_eq_false e]; exact beq_eq_false_iff_ne.2 (by omega)
      have ib : ((i : Int) == (b : Int)) = B := by
        rw [← hB]
        by_cases e : i = b
        · rw [e]; simp
        · rw [decide_eq_false e]; exact beq_eq_false_iff_ne.2 (by omega)
      have hin : ∃ I : Bool, decide (a ≤ i ∧ i ≤ b) = I ∧ ((I = true ∧ (a : Int) ≤ (i : Int) ∧ (i : Int) ≤ (b : Int)) ∨ (I = false ∧ (a : Int) ≤ (i : Int) ∧ ¬ (i : Int) ≤ (b : Int)) ∨ (I = false ∧ ¬ (a : Int) ≤ (i : Int))) := by
        refine ⟨_, rfl, ?_⟩
        by_cases e1 : a ≤ i
        · by_cases e2 : i ≤ b
          · exact .inl ⟨decide_eq_true ⟨e1, e2⟩, by omega, by omega⟩
          · exact .inr (.inl ⟨decide_eq_false (fun h => e2 h.2), by omega, by omega⟩)
        · exact .inr (.inr ⟨decide_eq_false (fun h => e1 h.1), by omega⟩)
      obtain ⟨I, hI, hin⟩ := hin
      rw [hA] at g1
      simp only [hA, hB] at G2
      simp only [hI] at G3 G4
      have G1 := Lib.hid g1
      clear g1 hA hB hI HC1 HC2 HC3 HC4 HF1 HF2 HF3 HF4 HP1 HP2 HP3 HP4
      obtain ⟨⟨p00, p01, p02, p03, p04, _⟩, _⟩ := HI.out.2.2.1.cells
      obtain ⟨⟨p10, p11, p12, p13, p14, _⟩, _⟩ := HI.out.2.2.2.1.cells
      obtain ⟨⟨p20, p21, p22, p23, p24, _⟩, _⟩ := HI.out.2.2.2.2.1.cells
      obtain ⟨⟨p30, p31, p32, p33, p34, _⟩, _⟩ := HI.out.2.2.2.2.2.cells
      rcases hin with ⟨rfl, e1, e2⟩ | ⟨rfl, e1, e2⟩ | ⟨rfl, e1⟩ <;> cases A <;> cases B
      all_goals
        go_wp2_with fail
        go_fit G1.out
        rintro e w1' ⟨rfl, hb⟩
        have HI1 := Lib.hid (hNx.out _ hb)
        clear hb p00 p01 p02 p03 p04 p10 p11 p12 p13 p14 p20 p21 p22 p23 p24 p30 p31 p32 p33 p34
        obtain ⟨⟨p00, p01, p02, p03, p04, _⟩, _⟩ := HI1.out.2.2.1.cells
        obtain ⟨⟨p10, p11, p12, p13, p14, _⟩, _⟩ := HI1.out.2.2.2.1.cells
        obtain ⟨⟨p20, p21, p22, p23, p24, _⟩, _⟩ := HI1.out.2.2.2.2.1.cells
        obtain ⟨⟨p30, p31, p32, p33, p34, _⟩, _⟩ := HI1.out.2.2.2.2.2.cells
        go_wp2_with fail
        go_fit (G2.out _)
        rintro e w2' ⟨rfl, hb⟩
        have HI2 := Lib.hid (show ErrW w2' ∧ Below w.heap.size w w2' ∧ boxN 27 w2' B1 1 S1 (.slice o1 0 c1) ∧ boxN 27 w2' B2 1 S2 (.slice o2 0 c2) ∧ boxN 27 w2' B3 1 S3 (.slice o3 0 c3) ∧ boxN 27 w2' B4 1 S4 (.slice o4 0 c4) from ⟨HI1.out.1.below hb, HI1.out.2.1.trans (hb.mono HI1.out.2.1.size), HI1.out.2.2.1.below hb, HI1.out.2.2.2.1.below hb, HI1.out.2.2.2.2.1.below hb, HI1.out.2.2.2.2.2.below hb⟩)
        clear hb p00 p01 p02 p03 p04 p10 p11 p12 p13 p14 p20 p21 p22 p23 p24 p30 p31 p32 p33 p34
        obtain ⟨⟨p00, p01, p02, p03, p04, _⟩, _⟩ := HI2.out.2.2.1.cells
        obtain ⟨⟨p10, p11, p12, p13, p14, _⟩, _⟩ := HI2.out.2.2.2.1.cells
        obtain ⟨⟨p20, p21, p22, p23, p24, _⟩, _⟩ := HI2.out.2.2.2.2.1.cells
        obtain ⟨⟨p30, p31, p32, p33, p34, _⟩, _⟩ := HI2.out.2.2.2.2.2.cells
        go_wp2_with fail
        go_fit (G3.out _)
        rintro e w3' ⟨rfl, hb⟩
        have HI3 := Lib.hid (show ErrW w3' ∧ Below w.heap.size w w3' ∧ boxN 27 w3' B1 1 S1 (.slice o1 0 c1) ∧ boxN 27 w3' B2 1 S2 (.slice o2 0 c2) ∧ boxN 27 w3' B3 1 S3 (.slice o3 0 c3) ∧ boxN 27 w3' B4 1 S4 (.slice o4 0 c4) from ⟨HI2.out.1.below hb, HI2.out.2.1.trans (hb.mono HI2.out.2.1.size), HI2.out.2.2.1.below hb, HI2.out.2.2.2.1.below hb, HI2.out.2.2.2.2.1.below hb, HI2.out.2.2.2.2.2.below hb⟩)
        clear hb p00 p01 p02 p03 p04 p10 p11 p12 p13 p14 p20 p21 p22 p23 p24 p30 p31 p32 p33 p34
        obtain ⟨⟨p00, p01, p02, p03, p04, _⟩, _⟩ := HI3.out.2.2.1.cells
        obtain ⟨⟨p10, p11, p12, p13, p14, _⟩, _⟩ := HI3.out.2.2.2.1.cells
        obtain ⟨⟨p20, p21, p22, p23, p24, _⟩, _⟩ := HI3.out.2.2.2.2.1.cells
        obtain ⟨⟨p30, p31, p32, p33, p34, _⟩, _⟩ := HI3.out.2.2.2.2.2.cells
        go_wp2_with fail
        go_fit (G4.out _)
        rintro e w4' ⟨rfl, hb⟩
        have HI4 := Lib.hid (show ErrW w4' ∧ Below w.heap.size w w4' ∧ boxN 27 w4' B1 1 S1 (.slice o1 0 c1) ∧ boxN 27 w4' B2 1 S2 (.slice o2 0 c2) ∧ boxN 27 w4' B3 1 S3 (.slice o3 0 c3) ∧ boxN 27 w4' B4 1 S4 (.slice o4 0 c4) from ⟨HI3.out.1.below hb, HI3.out.2.1.trans (hb.mono HI3.out.2.1.size), HI3.out.2.2.1.below hb, HI3.out.2.2.2.1.below hb, HI3.out.2.2.2.2.1.below hb, HI3.out.2.2.2.2.2.below hb⟩)
        clear hb p00 p01 p02 p03 p04 p10 p11 p12 p13 p14 p20 p21 p22 p23 p24 p30 p31 p32 p33 p34
        go_wp2_with fail
        go_roundw
        case rel => exact ⟨i + 1, by go_num, by omega, HI4.out⟩
        case measure => (simp [intOf]; omega)
    · have hie : i = 256 := by omega
      subst hie
      have HR := Lib.hid (ruled_any wr HI.out.1)
      go_wp2_with fail
      go_fit HR.out
      rintro e w9 ⟨rfl, hb⟩
      have HB := Lib.hid (HI.out.2.1.trans (hb.mono HI.out.2.1.size))
      clear hb
      go_wp2_with fail
      go_ret
      exact ⟨rfl, HB.out⟩
theorem regsSet_any (x y : Int) (w : World) (he : ErrW w) (hx0 : 0 ≤ x) (hx1 : x ≤ 255) (hy0 : 0 ≤ y) (hy1 : y ≤ 255) :
    Calls Tryd.prog 7 #[.int .u8 x, .int .u8 y] w fun e w' => e = .returned (.bool true) ∧ Below w.heap.size w w' :=
  regsSet_le (min x y).toNat (max x y).toNat w he (by omega) (by omega) x y (by omega) (by omega)
end Go.Proofs.YthokamikejnbeaaDoor
