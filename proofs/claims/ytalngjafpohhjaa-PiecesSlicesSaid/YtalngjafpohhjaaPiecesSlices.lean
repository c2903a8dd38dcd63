/-
  For every list of at most 40 texts of at most 100 bytes, put in one by one, and every three places: slices side by side are the whole text; so the law returns true. A longer list, or a longer text in it: the examples alone, as the law says. No condition.
-/
import Derived.Test.YtalngjafpohhjaaPcPut
import Derived.Test.YtalngjafpohhjaaPcOpen
namespace Go.Proofs.Ytalngjafpohhjaa
open Go.ChangeShapes Go.WideShapes Go.ChangeAt Go.RowKit
open Go.ChangeMaps (open_string shut_string)

theorem three_parts (s : ByteArray) (a c : Nat) (h : a ≤ c) : s.extract 0 a ++ s.extract a c ++ s.extract c s.size = s := by
  apply ba_ext
  rw [show ∀ a b : ByteArray, (a ++ b).data.toList = a.data.toList ++ b.data.toList from fun a b => by rw [ByteArray.data_append, Array.toList_append],
    show ∀ a b : ByteArray, (a ++ b).data.toList = a.data.toList ++ b.data.toList from fun a b => by rw [ByteArray.data_append, Array.toList_append], ex_data, ex_data, ex_data, List.drop_zero, Nat.sub_zero,
    List.take_of_length_le (l := s.data.toList.drop c) (by rw [List.length_drop, len_bytes]; exact Nat.le_refl _)]
  have e2 : s.data.toList.drop c = (s.data.toList.drop a).drop (c - a) := by rw [List.drop_drop]; congr 1; omega
  rw [e2, List.append_assoc, List.take_append_drop, List.take_append_drop]

/-- The number at one of the three places. -/
def zAt (z0 z1 z2 : Int) (j : Nat) : Int := if j = 0 then z0 else if j = 1 then z1 else z2

set_option maxRecDepth 100000 in
set_option maxHeartbeats 1000000 in
theorem piecesSlices_far (v : Value) (xs : List ByteArray) (z0 z1 z2 : Int) (w : World) (hS : StrsW w v xs) (h : 40 < xs.length) :
    Calls Try.prog 6 #[v, .agg #[.int .u16 z0, .int .u16 z1, .int .u16 z2]] w fun e w' => e = .returned (.bool true) ∧ Below w.heap.size w w' := by
  have hb0 : Below w.heap.size w (w.alloc (.cells #[.int .u16 z0, .int .u16 z1, .int .u16 z2] 50)) := (Below.refl _ _).alloc (Nat.le_refl _) _
  have HP := Lib.hid (put_any (w.alloc (.cells #[.int .u16 z0, .int .u16 z1, .int .u16 z2] 50)))
  obtain ⟨ao, cap, rfl, _, _⟩ := hS
  have h' : 40 < (xs.length : Int) := by omega
  go_enter Try.func6, Try.ntmps6
  go_wp2_with fail
  go_fit HP.out
  rintro e w3 ⟨rfl, b3⟩
  go_wp2
  go_ret
  exact ⟨rfl, hb0.trans (b3.mono hb0.size)⟩

set_option maxRecDepth 100000 in
set_option maxHeartbeats 1000000 in
theorem piecesSlices_near (v : Value) (xs : List ByteArray) (z0 z1 z2 : Int) (w : World) (hS : StrsW w v xs) (hxs : xs.length ≤ 40) (l0 : 0 ≤ z0) (u0 : z0 ≤ 65535) (l1 : 0 ≤ z1) (u1 : z1 ≤ 65535) (l2 : 0 ≤ z2) (u2 : z2 ≤ 65535) :
    Calls Try.prog 6 #[v, .agg #[.int .u16 z0, .int .u16 z1, .int .u16 z2]] w fun e w' => e = .returned (.bool true) ∧ Below w.heap.size w w' := by
  have hb0 : Below w.heap.size w (w.alloc (.cells #[.int .u16 z0, .int .u16 z1, .int .u16 z2] 50)) := (Below.refl _ _).alloc (Nat.le_refl _) _
  have HX : Hid (∀ W, Below (w.alloc (.cells #[.int .u16 z0, .int .u16 z1, .int .u16 z2] 50)).heap.size (w.alloc (.cells #[.int .u16 z0, .int .u16 z1, .int .u16 z2] 50)) W → ∀ j, j < 3 → W.cell? ⟨w.heap.size, j, none⟩ = some (.int .u16 (zAt z0 z1 z2 j))) := fun W hW j hj => by
    rw [hW.cell (p := ⟨w.heap.size, j, none⟩) (by simp), cell_of_row _ _ _ _ 50 (0, 0) (heap_alloc_new w _)]
    match j, hj with
    | 0, _ => rfl
    | 1, _ => rfl
    | 2, _ => rfl
  have ZB : Hid (∀ j, 0 ≤ zAt z0 z1 z2 j ∧ zAt z0 z1 z2 j ≤ 65535) := fun j => by
    unfold zAt
    split
    · exact ⟨l0, u0⟩
    · split
      · exact ⟨l1, u1⟩
      · exact ⟨l2, u2⟩
  have HSW : Hid (∀ W, Below (w.alloc (.cells #[.int .u16 z0, .int .u16 z1, .int .u16 z2] 50)).heap.size (w.alloc (.cells #[.int .u16 z0, .int .u16 z1, .int .u16 z2] 50)) W → StrsW W v xs) := fun W hW => hS.below (hb0.trans (hW.mono hb0.size))
  have H1 := Lib.hid (new_ok ⟨#[]⟩ (w.alloc (.cells #[.int .u16 z0, .int .u16 z1, .int .u16 z2] 50)) (by decide))
  obtain ⟨ao, cap, rfl, _, _⟩ := hS
  have hx1 : (xs.length : Int) ≤ 40 := by omega
  go_enter Try.func6, Try.ntmps6
  go_wp2_with fail
  go_fit H1.out
  rintro e w1 ⟨⟨t1, rfl, T1⟩, b1⟩
  obtain ⟨tb1, rfl⟩ := T1.ptr
  go_wp2
  go_loopw [5, 6, 7] (fun s5 s6 s7 wr => ∃ (i tb : Nat) (s : ByteArray) (ys : List ByteArray), s5 = .pointer (some ⟨tb, 0, none⟩) ∧ s6 = .int .i64 0 ∧ s7 = .int .i64 (i : Int) ∧ i ≤ xs.length ∧ TextX wr (.pointer (some ⟨tb, 0, none⟩)) s ys ∧ s.size ≤ 100 * i ∧ Below (w.heap.size + 1) (w.alloc (.cells #[.int .u16 z0, .int .u16 z1, .int .u16 z2] 50)) wr) (fun _ _ s7 _ => xs.length - (intOf s7).toNat)
  case atStart => exact ⟨0, tb1, ⟨#[]⟩, [], rfl, rfl, rfl, Nat.zero_le _, T1, Nat.le_refl _, by simpa using b1⟩
  case round =>
    clear T1 b1 H1
    obtain ⟨i, tb, s, ys, rfl, rfl, rfl, hil, hT, hsz, hk⟩ := hrel
    have k : Below (w.alloc (.cells #[.int .u16 z0, .int .u16 z1, .int .u16 z2] 50)).heap.size (w.alloc (.cells #[.int .u16 z0, .int .u16 z1, .int .u16 z2] 50)) wr := by simpa using hk
    clear hk
    by_cases hlt : i < xs.length
    · obtain ⟨x, hx⟩ : ∃ x, xs[i]? = some x := ⟨_, List.getElem?_eq_getElem hlt⟩
      obtain ⟨ao', cap', he, _, hcell⟩ := HSW.out wr k
      obtain ⟨g, o, hao, hcx⟩ := hcell i x hx
      cases he
      subst hao
      clear hcell hx
      by_cases hx100 : x.size ≤ 100
      · obtain ⟨J, hJ⟩ : ∃ J : Nat, (i : Int) % 3 = (J : Int) := ⟨i % 3, by omega⟩
        have hJ3 : J < 3 := by omega
        have j0 : (0 : Int) ≤ (J : Int) := by omega
        have j1 : (J : Int) < 3 := by omega
        have hcJ := HX.out wr k J hJ3
        obtain ⟨Z0, Z1⟩ := ZB.out J
        have HK : Hid (∀ W, Below wr.heap.size wr W → W.cell? ⟨w.heap.size, J, none⟩ = some (.int .u16 (zAt z0 z1 z2 J)) ∧ W.cell? ⟨g, o + i, none⟩ = some (.string x)) := fun W hW =>
          ⟨by rw [hW.cell (p := ⟨w.heap.size, J, none⟩) (cell_lt (p := ⟨w.heap.size, J, none⟩) hcJ)]; exact hcJ, by rw [hW.cell (p := ⟨g, o + i, none⟩) (cell_lt (p := ⟨g, o + i, none⟩) hcx)]; exact hcx⟩
        obtain ⟨z, hz⟩ : ∃ z, zAt z0 z1 z2 J = z := ⟨_, rfl⟩
        rw [hz] at hcJ Z0 Z1 HK
        have p0 : (0 : Int) < (s.size : Int) + 1 := by omega
        have r0 := Int.emod_nonneg z (show ((s.size : Int) + 1) ≠ 0 by omega)
        have q0 := Int.emod_lt_of_pos z p0
        obtain ⟨P, hP⟩ : ∃ P : Nat, z % ((s.size : Int) + 1) = (P : Int) := ⟨(z % ((s.size : Int) + 1)).toNat, by omega⟩
        rw [hP] at r0 q0
        have HL : Hid (∀ W, Below wr.heap.size wr W → Calls Try.prog 19 #[.pointer (some ⟨tb, 0, none⟩)] W fun e w' => e = .returned (.int .i64 (s.size : Int)) ∧ w' = W) := fun W hW => len_text W (hT.below hW).text
        have HI : Hid (∀ W, Below wr.heap.size wr W → Calls Try.prog 16 #[.pointer (some ⟨tb, 0, none⟩), .int .i64 (P : Int), .string x] W fun e w' => (∃ u, e = .returned (.tuple #[u, .int .i64 0]) ∧ TextX w' u (putS s P P x) (insL ys P x)) ∧ Below W.heap.size W w') := fun W hW => ins_ok P x W (hT.below hW) (by omega) (by omega)
        have hsz2 := putS_size s P P x (Nat.le_refl _) (by omega)
        have SZ : Hid ((putS s P P x).size ≤ 100 * (i + 1)) := by show _ ≤ _; omega
        have s1 : (s.size : Int) ≤ 4000 := by omega
        have x1 : (x.size : Int) ≤ 100 := by omega
        have m1 : (i : Int).tmod 3 = (J : Int) := by rw [Int.tmod_eq_emod_of_nonneg (by omega)]; exact hJ
        have m2 : z.tmod ((s.size : Int) + 1) = (P : Int) := by rw [Int.tmod_eq_emod_of_nonneg Z0]; exact hP
        have m3 : IntKind.i64.wrap ((s.size : Int) + 1) = (s.size : Int) + 1 := by rw [IntKind.wrap_i64]; omega
        have m5 : IntKind.i64.wrap z = z := by rw [IntKind.wrap_i64]; omega
        have m4 : ¬ (s.size : Int) + 1 = 0 := by omega
        clear hsz2 hz ZB
        go_wp2
        go_region_held3 (fun W => W.cell? ⟨w.heap.size, J, none⟩ = some (.int .u16 z) ∧ W.cell? ⟨g, o + i, none⟩ = some (.string x)) (first | go_keep | exact HK.out _ ⟨b2.os, b2.tape, b2.output, b2.size, b2.block⟩)
          (first
            | (go_at_call 19; go_must (go_fit (HL.out _ ?_)); exact ⟨rfl, rfl, rfl, Nat.le_refl _, fun _ _ => rfl⟩; rintro e w' ⟨rfl, rfl⟩)
            | (go_at_call 16; go_must (go_fit (HI.out _ ?_)); exact ⟨rfl, rfl, rfl, Nat.le_refl _, fun _ _ => rfl⟩; rintro e w2 ⟨⟨u, rfl, T2⟩, b2⟩))
        have bw : Below wr.heap.size wr w2 := ⟨b2.os, b2.tape, b2.output, b2.size, b2.block⟩
        have k2 := k.trans (bw.mono k.size)
        have SZ' := SZ.out
        obtain ⟨tb2, rfl⟩ := T2.ptr
        clear b2 bw HK HL HI SZ hT k hcx hcJ
        go_wp2
        go_roundw
        case rel => exact ⟨i + 1, tb2, _, _, by trivial, by trivial, by go_num, by omega, T2, SZ', by simpa using k2⟩
        case measure => simp [intOf]; omega
      · have HP := Lib.hid (put_any wr)
        have x1 : 100 < (x.size : Int) := by omega
        clear hT ZB HX
        go_wp2_with fail
        go_fit HP.out
        rintro e w3 ⟨rfl, b3⟩
        go_wp2
        go_ret
        exact ⟨rfl, hb0.trans ((k.trans (b3.mono k.size)).mono hb0.size)⟩
    · obtain rfl : i = xs.length := by omega
      have hs4 : s.size ≤ 4000 := by omega
      have c0 := HX.out wr k 0 (by decide)
      have c1 := HX.out wr k 1 (by decide)
      rw [show zAt z0 z1 z2 0 = z0 from rfl] at c0
      rw [show zAt z0 z1 z2 1 = z1 from rfl] at c1
      have p0 : (0 : Int) < (s.size : Int) + 1 := by omega
      have r0 := Int.emod_nonneg z0 (show ((s.size : Int) + 1) ≠ 0 by omega)
      have q0 := Int.emod_lt_of_pos z0 p0
      have r1 := Int.emod_nonneg z1 (show ((s.size : Int) + 1) ≠ 0 by omega)
      have q1 := Int.emod_lt_of_pos z1 p0
      obtain ⟨A, hA⟩ : ∃ A : Nat, z0 % ((s.size : Int) + 1) = (A : Int) := ⟨(z0 % ((s.size : Int) + 1)).toNat, by omega⟩
      obtain ⟨B, hB⟩ : ∃ B : Nat, z1 % ((s.size : Int) + 1) = (B : Int) := ⟨(z1 % ((s.size : Int) + 1)).toNat, by omega⟩
      rw [hA] at r0 q0
      rw [hB] at r1 q1
      obtain ⟨LO, hLO⟩ : ∃ LO : Nat, min (A : Int) (B : Int) = (LO : Int) := ⟨min A B, by omega⟩
      obtain ⟨HI, hHI⟩ : ∃ HI : Nat, max (A : Int) (B : Int) = (HI : Int) := ⟨max A B, by omega⟩
      have m1 : z0.tmod ((s.size : Int) + 1) = (A : Int) := by rw [Int.tmod_eq_emod_of_nonneg l0]; exact hA
      have m2 : z1.tmod ((s.size : Int) + 1) = (B : Int) := by rw [Int.tmod_eq_emod_of_nonneg l1]; exact hB
      have m3 : IntKind.i64.wrap ((s.size : Int) + 1) = (s.size : Int) + 1 := by rw [IntKind.wrap_i64]; omega
      have m4 : ¬ (s.size : Int) + 1 = 0 := by omega
      have m5 : IntKind.i64.wrap z0 = z0 := by rw [IntKind.wrap_i64]; omega
      have m6 : IntKind.i64.wrap z1 = z1 := by rw [IntKind.wrap_i64]; omega
      have lh : LO ≤ HI := by omega
      have hz : HI ≤ s.size := by omega
      have HL := Lib.hid (len_text wr hT.text)
      have S1 : Hid (∀ W, TextX W (.pointer (some ⟨tb, 0, none⟩)) s ys → Calls Try.prog 14 #[.pointer (some ⟨tb, 0, none⟩), .int .i64 0, .int .i64 (LO : Int)] W fun e w' => e = .returned (.string (s.extract 0 LO)) ∧ Below W.heap.size W w') := fun W h => slice_ok 0 LO W h (Nat.zero_le _) (by omega) (by omega)
      have S2 : Hid (∀ W, TextX W (.pointer (some ⟨tb, 0, none⟩)) s ys → Calls Try.prog 14 #[.pointer (some ⟨tb, 0, none⟩), .int .i64 (LO : Int), .int .i64 (HI : Int)] W fun e w' => e = .returned (.string (s.extract LO HI)) ∧ Below W.heap.size W w') := fun W h => slice_ok LO HI W h lh hz (by omega)
      have S3 : Hid (∀ W, TextX W (.pointer (some ⟨tb, 0, none⟩)) s ys → Calls Try.prog 14 #[.pointer (some ⟨tb, 0, none⟩), .int .i64 (HI : Int), .int .i64 (s.size : Int)] W fun e w' => e = .returned (.string (s.extract HI s.size)) ∧ Below W.heap.size W w') := fun W h => slice_ok HI s.size W h hz (Nat.le_refl _) (by omega)
      have S4 : Hid (∀ W, TextX W (.pointer (some ⟨tb, 0, none⟩)) s ys → Calls Try.prog 20 #[.pointer (some ⟨tb, 0, none⟩)] W fun e w' => e = .returned (.string s) ∧ Below W.heap.size W w') := fun W h => string_text W h.text (by omega)
      have hcat := three_parts s LO HI lh
      have g1 := ex_size s 0 LO (by omega)
      have g2 := ex_size s LO HI hz
      have g3 := ex_size s HI s.size (Nat.le_refl _)
      obtain ⟨P1, hP1⟩ : ∃ P, s.extract 0 LO = P := ⟨_, rfl⟩
      obtain ⟨P2, hP2⟩ : ∃ P, s.extract LO HI = P := ⟨_, rfl⟩
      obtain ⟨P3, hP3⟩ : ∃ P, s.extract HI s.size = P := ⟨_, rfl⟩
      rw [hP1] at S1 hcat g1
      rw [hP2] at S2 hcat g2
      rw [hP3] at S3 hcat g3
      have g1' : (P1.size : Int) ≤ 4000 := by omega
      have g2' : (P2.size : Int) ≤ 4000 := by omega
      have g3' : (P3.size : Int) ≤ 4000 := by omega
      have g4 : (P1 ++ P2).size ≤ 8000 := by
        rw [← len_bytes, ByteArray.data_append, Array.toList_append, List.length_append, len_bytes, len_bytes]; omega
      have g4' : ((P1 ++ P2).size : Int) ≤ 8000 := by omega
      have n1 : (LO : Int) ≤ (HI : Int) := by omega
      have n2 : (HI : Int) ≤ (s.size : Int) := by omega
      have n3 : (s.size : Int) ≤ 4000 := by omega
      clear hP1 hP2 hP3 g1 g2 g3 g4 lh hz hsz HX HSW ZB
      go_wp2_with fail
      go_fit HL.out
      rintro e w2 ⟨rfl, rfl⟩
      go_wp2
      go_quiet (fail)
      have hT := hT.below (below_drewN _ nq)
      have k := k.trans ((below_drewN _ nq).mono k.size)
      go_wp2_with fail
      go_fit (S1.out _ hT)
      rintro e w3 ⟨rfl, b3⟩
      have hT := hT.below b3
      have k := k.trans (b3.mono k.size)
      clear b3
      go_wp2_with fail
      go_fit (S2.out _ hT)
      rintro e w4 ⟨rfl, b4⟩
      have hT := hT.below b4
      have k := k.trans (b4.mono k.size)
      clear b4
      go_wp2_with fail
      go_fit (S3.out _ hT)
      rintro e w5 ⟨rfl, b5⟩
      have hT := hT.below b5
      have k := k.trans (b5.mono k.size)
      clear b5
      go_wp2_with fail
      go_fit (S4.out _ hT)
      rintro e w6 ⟨rfl, b6⟩
      have hT := hT.below b6
      have k := k.trans (b6.mono k.size)
      clear b6
      go_wp2_with fail
      go_fit (S4.out _ hT)
      rintro e w7 ⟨rfl, b7⟩
      have k := k.trans (b7.mono k.size)
      clear b7 hT
      have HP := Lib.hid (put_any w7)
      go_wp2_with fail
      go_fit HP.out
      rintro e w8 ⟨rfl, b8⟩
      have k := k.trans (b8.mono k.size)
      go_wp2
      go_ret
      exact ⟨rfl, hb0.trans (k.mono hb0.size)⟩

theorem piecesSlices_any (v : Value) (xs : List ByteArray) (z0 z1 z2 : Int) (w : World) (hS : StrsW w v xs) (l0 : 0 ≤ z0) (u0 : z0 ≤ 65535) (l1 : 0 ≤ z1) (u1 : z1 ≤ 65535) (l2 : 0 ≤ z2) (u2 : z2 ≤ 65535) :
    Calls Try.prog 6 #[v, .agg #[.int .u16 z0, .int .u16 z1, .int .u16 z2]] w fun e w' => e = .returned (.bool true) ∧ Below w.heap.size w w' := by
  by_cases h : 40 < xs.length
  · exact piecesSlices_far v xs z0 z1 z2 w hS h
  · exact piecesSlices_near v xs z0 z1 z2 w hS (by omega) l0 u0 l1 u1 l2 u2

-- FRAME
theorem piecesSlices_own : ownKnob Try.prog.godebug = none := by kernel_rfl

set_option maxRecDepth 100000 in
theorem piecesSlices_lifted (os : Os) (started : os.Started) (H : Type) (enc : TypeId × Value → H) :
    ReturnsInHanded {} Try.checked os 6 .any (Rows.piecesSlicesSpec.pre6 enc Try.prog Try.f6 Rows.piecesSlicesRow.domain false) (Rows.piecesSlicesSpec.post enc Try.prog Try.f6 false true false false) := by
  refine returnsInHanded_of_change (C := Try.checked) piecesSlices_own started (by kernel_rfl) Try.func6
    (ChangeSpec.witness6 (enc := enc) (C := Try.checked) false ⟨#[], #[.slice none 0 0, .agg #[.int .u16 0, .int .u16 0, .int .u16 0]], []⟩ 8 (by kernel_rfl) (by kernel_rfl) (by kernel_rfl) (by kernel_rfl)) ?_
  intro W base args ds gs before hval0 hW hcnd _
  have hval : ∀ (j : Nat) t v, Try.f6.params[j]? = some t → args[j]? = some v → Value.okWide Try.prog W .any base t v := hval0
  have hW' := hW
  obtain ⟨p, q, hA0, hV, rfl, hfz, hnd⟩ := hW
  have hA : DataW.TrodAll enc Try.prog W 0 (fun _ => true) true Try.f6.params.toList args.toList ds p := hA0
  rw [Try.params6] at hA hval
  obtain ⟨v0, v1, d0, d1, p0, p1, rfl, rfl, rfl, h0, h1⟩ := trodAll_two hA
  obtain ⟨rfl, rfl⟩ := trodVars_none hV
  have k0 := h0
  obtain ⟨x0, hS0⟩ := open_strsW (hval 0 31 v0 rfl rfl) h0
  have k1 := h1
  obtain ⟨cs1, rfl, sz1, ea1⟩ := open_arrU16 (n := 3) Try.underlying50 (by kernel_rfl) (hval 1 50 v1 rfl rfl) h1
  obtain ⟨c10, c11, c12, rfl⟩ := Go.Joins.array3 sz1
  obtain ⟨z10, e10, l10, u10⟩ := ea1 0 (by decide)
  simp at e10
  subst e10
  obtain ⟨z11, e11, l11, u11⟩ := ea1 1 (by decide)
  simp at e11
  subst e11
  obtain ⟨z12, e12, l12, u12⟩ := ea1 2 (by decide)
  simp at e12
  subst e12
  clear hA0 hval0
  simp only [List.append_nil] at hW'
  have hlt : ∀ x ∈ (p0 ++ p1), x.block < W.heap.size := fun x hx => hW'.lt x (by simp [hx])
  refine (piecesSlices_any v0 x0 z10 z11 z12 W hS0 l10 u10 l11 u11 l12 u12).mono fun e W' ⟨he, hw⟩ => ?_
  subst he
  exact ⟨_, rfl, _, _, _, [], (p0 ++ p1), [], hW', trodAll_mk1 (shut_bool Try.underlying4 _), trodAll_mk2 (Below.trod Try.laidOut (by kernel_rfl) (of_decide_eq_true (by kernel_rfl)) k0 hw (fun x hx => hlt x (by simp [hx]))) (Below.trod Try.laidOut (by kernel_rfl) (of_decide_eq_true (by kernel_rfl)) k1 hw (fun x hx => hlt x (by simp [hx]))), rfl, hw.frame _, fun h => by cases h⟩

theorem piecesSlices_holds : Rows.PiecesSlicesSaid :=
  OpenClaim.holds_of_wide 6 Try.f6 rfl rfl rfl rfl rfl rfl rfl ⟨rfl, rfl, rfl, rfl, rfl⟩ rfl rfl rfl rfl rfl (by kernel_rfl) Try.func6 (by kernel_rfl)
    (of_decide_eq_true (by kernel_rfl)) (by unfold Func.isWrapper; first | (rw [if_pos (by decide +kernel)]; kernel_rfl) | (rw [if_neg (by decide +kernel)]; exact ⟨rfl, rfl⟩))
    (fun os started H enc _ => piecesSlices_lifted os started H enc)
end Go.Proofs.Ytalngjafpohhjaa
