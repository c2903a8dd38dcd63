/-
  TermValid: the frame of a terminal may be, whatever is written, in whatever sizes; how bytes are parted makes no difference: the law's walk: it returns true.
-/
import Derived.Test.YtpkjaallhhjleaaGreatDoorBa29
import Derived.Test.YtpkjaallhhjleaaGreatDoorLTmResT
import Derived.Test.YtpkjaallhhjleaaGreatDoorLTmGreat
import Derived.Test.YtpkjaallhhjleaaGreatDoorBa30
import Derived.Test.YtpkjaallhhjleaaGreatDoorBa12
namespace Go.Proofs.YtpkjaallhhjleaaGreatDoor
open Go.RowKit

theorem i64_and15 (n : Int) : bits .and .i64 n 15 = n % 16 := by
  have h : (BitVec.ofInt 64 15).toNat = 2 ^ 4 - 1 := by decide
  have key : (BitVec.ofInt 64 n &&& BitVec.ofInt 64 15).toNat = (n % ((2 ^ 64 : Nat) : Int)).toNat % 2 ^ 4 := by
    rw [BitVec.toNat_and, BitVec.toNat_ofInt, h, Nat.and_two_pow_sub_one_eq_mod]
  show IntKind.i64.wrap ((BitVec.ofInt 64 n &&& BitVec.ofInt 64 15).toNat : Nat) = n % 16
  rw [key, IntKind.wrap_i64]
  omega
theorem i64_and31 (n : Int) : bits .and .i64 n 31 = n % 32 := by
  have h : (BitVec.ofInt 64 31).toNat = 2 ^ 5 - 1 := by decide
  have key : (BitVec.ofInt 64 n &&& BitVec.ofInt 64 31).toNat = (n % ((2 ^ 64 : Nat) : Int)).toNat % 2 ^ 5 := by
    rw [BitVec.toNat_and, BitVec.toNat_ofInt, h, Nat.and_two_pow_sub_one_eq_mod]
  show IntKind.i64.wrap ((BitVec.ofInt 64 n &&& BitVec.ofInt 64 31).toNat : Nat) = n % 32
  rw [key, IntKind.wrap_i64]
  omega
/-- Two terminals that are one, each with its own memory. -/
structure TwoT (w W : World) (B B2 : Nat) (T : Tm) (m n G N c G2 N2 c2 : Nat) : Prop where
  ok : OkT T m n
  t : TmS w W B G N c T
  u : TmS w W B2 G2 N2 c2 T
  bb : B ≠ B2
  bg : B ≠ G2
  gb : G ≠ B2
  gg : G ≠ G2
theorem TwoT.next {w W W' : World} {B B2 m n G N c G2 N2 c2 : Nat} {T : Tm} (h : TwoT w W B B2 T m n G N c G2 N2 c2) (hb : Below W.heap.size W W') : TwoT w W' B B2 T m n G N c G2 N2 c2 :=
  ⟨h.ok, h.t.next hb, h.u.next hb, h.bb, h.bg, h.gb, h.gg⟩
theorem parted (s : ByteArray) (T : Tm) (k : Nat) (hk : k ≤ s.size) : writeT (writeT T (s.extract 0 k).data.toList) (s.extract k s.size).data.toList = writeT T s.data.toList := by
  rw [← write_app, Lib.extract_data, Lib.extract_data, List.drop_zero, Nat.sub_zero, List.take_of_length_le (show (s.data.toList.drop k).length ≤ s.size - k by rw [List.length_drop, ← Lib.size_eq]; exact Nat.le_refl _), List.take_append_drop]

set_option maxRecDepth 20000 in
set_option maxHeartbeats 16000000 in
theorem termValid_any (v : Value) (l : List TAct) (z : Int) (w : World) (hL : LaidT w) (hA : TActsW w v l) (hz0 : 0 ≤ z) (hz1 : z ≤ 65535) :
    Calls Tryz.prog 5 #[v, .int .u16 z] w fun e w' => e = .returned (.bool true) ∧ Below w.heap.size w w' := by
  have HG := Lib.hid (great_any 20 w hA)
  have HE := Lib.hid (fun W (hW : Below w.heap.size w W) => wrapped_any W (hL.below hW))
  have HNw : Hid (∀ W, Below w.heap.size w W → Calls Tryz.prog 9 #[.int .i64 4, .int .i64 10] W fun e w' => ∃ B G, e = .returned (.tuple #[.pointer (some ⟨B, 0, none⟩), .int .i64 0]) ∧ TmS w w' B G 40 40 (newT 4 10) ∧ Below W.heap.size W w' ∧ W.heap.size ≤ B ∧ W.heap.size ≤ G) := fun W hW => tnew_any 4 10 W (by omega) (by omega) (hL.below hW).fr hW
  have hT0 : OkT (newT 4 10) 4 10 := newT_ok 4 10 (by omega) (by omega)
  -- one round: the two are written to
  have HWr := Lib.hid (fun W B G N c T m n s (hok : OkT T m n) (hs : s.size ≤ 600) (hS : TmS w W B G N c T) => twrite_any s W hS hok hL (by omega))
  have HFr := Lib.hid (fun W B G N c T m n (hok : OkT T m n) (hS : TmS w W B G N c T) => tframe_any W hS hok.fr)
  have HBl := Lib.hid (fun W B G N c T (hS : TmS w W B G N c T) => tbells_any W hS)
  have HRz := Lib.hid (fun W B G N c T m n p q (hok : OkT T m n) (hp : 2 ≤ p ∧ p ≤ 100) (hq : 8 ≤ q ∧ q ≤ 200) (hS : TmS w W B G N c T) => tresize_any p q W hS hok.fr hL hp hq)
  have HVa : Hid (∀ W x f m n, Below w.heap.size w W → OkF f m n → FrameW AnyB W x f → Calls Tryz.prog 19 #[x] W fun e w' => e = .returned (.bool true) ∧ Below W.heap.size W w') := fun W x f m n hW hf hx => by
    have := gvalid_any W hx (hL.below hW).fr
    rwa [hf.valid] at this
  have HSm : Hid (∀ W x y f m n, OkF f m n → FrameW AnyB W x f → FrameW AnyB W y f → Calls Tryz.prog 16 #[x, y] W fun e w' => e = .returned (.bool true) ∧ Below W.heap.size W w') := fun W x y f m n hf h1 h2 => by
    have := gsame_any W h1 h2 (Nat.le_trans hf.room (by omega))
    rwa [sameB_self] at this
  obtain ⟨ao, nl, cl, rfl, hnl, hcl, hrl, hbl⟩ := hA
  have hA : TActsW w (.slice ao nl cl) l := ⟨ao, nl, cl, rfl, hnl, hcl, hrl, hbl⟩
  have HA : Hid (∀ W i, Below w.heap.size w W → i < nl → ∃ x g o, x ∈ l ∧ ao = some ⟨g, o, none⟩ ∧ W.cell? ⟨g, o + i * 4, none⟩ = some (.int .u8 x.1) ∧ W.cell? ⟨g, o + i * 4 + 1, none⟩ = some (.string x.2.1) ∧ W.cell? ⟨g, o + i * 4 + 2, none⟩ = some (.int .i64 x.2.2.1) ∧ W.cell? ⟨g, o + i * 4 + 3, none⟩ = some (.int .i64 x.2.2.2)) := fun W i hW hi => by
    obtain ⟨x, hx⟩ : ∃ x, l[i]? = some x := ⟨_, List.getElem?_eq_getElem (by omega)⟩
    obtain ⟨g, o, e, h0, h1, h2, h3⟩ := (TActsW.below hA hW).at_ hx
    exact ⟨x, g, o, List.mem_of_getElem? hx, e, h0, h1, h2, h3⟩
  have HNL := Lib.hid hnl
  obtain ⟨T0, hT0e⟩ : ∃ T, newT 4 10 = T := ⟨_, rfl⟩
  rw [hT0e] at HNw hT0
  have HT0 := Lib.hid hT0
  clear hL hA hnl hrl hbl hT0 hT0e
  go_enter Tryz.func5, Tryz.ntmps5
  go_wp2_with fail
  go_fit HG.out
  rintro e w1 ⟨rfl, gb, rfl, hgb⟩
  cases gb with
  | true =>
    clear HNw HWr HFr HBl HRz HVa HSm HA
    go_wp2_with fail
    go_fit (HE.out _ (Below.refl _ _))
    rintro e w2 ⟨rfl, hb2⟩
    go_wp2_with fail
    go_ret
    exact ⟨rfl, hb2⟩
  | false =>
    obtain ⟨hl20, hl600⟩ := hgb rfl
    have H600 := Lib.hid hl600
    have hn20 : (nl : Int) ≤ 20 := by have := HNL.out; omega
    clear hgb hl600 hl20
    go_wp2_with fail
    go_fit (HNw.out _ (Below.refl _ _))
    rintro e w2 ⟨B, G, rfl, hS2, hb2, hB2, hG2⟩
    have HS2 := Lib.hid hS2
    have HB2 := Lib.hid hb2
    clear hS2 hb2 hB2 hG2
    go_wp2_with fail
    go_fit (HNw.out _ HB2.out)
    rintro e w3 ⟨B2, G2, rfl, hS3, hb3, hB3, hG3⟩
    have H3 : Hid (TwoT w1 w3 B B2 T0 4 10 G 40 40 G2 40 40) := by
      have a := HS2.out.box.lt
      have b := HS2.out.gt
      exact ⟨HT0.out, HS2.out.next hb3, hS3, by omega, by omega, by omega, by omega⟩
    clear hS3 hb3 hB3 hG3 HS2 HB2 HNw
    go_wp2_with fail
    go_loopw [9] (fun s9 wr => ∃ (i : Nat) (T : Tm) (m n G N c G2 N2 c2 : Nat), s9 = .int .i64 (i : Int) ∧ i ≤ nl ∧ Hid (TwoT w1 wr B B2 T m n G N c G2 N2 c2)) (fun s9 _ => nl - (intOf s9).toNat)
    case atStart => exact ⟨0, T0, 4, 10, G, 40, 40, G2, 40, 40, rfl, Nat.zero_le _, H3⟩
    case round =>
      clear H3
      obtain ⟨i, T, m, n, G, N, c, G2, N2, c2, rfl, hi, HI⟩ := hrel
      by_cases hlt : i < nl
      · obtain ⟨x, g, o, hx, rfl, x0, x1, x2, x3⟩ := HA.out wr i HI.out.t.below hlt
        have hsz := H600.out x hx
        have i0 : (i : Int) < (nl : Int) := by omega
        have i1 : (0 : Int) ≤ (i : Int) := by omega
        obtain ⟨s, hs⟩ : ∃ s, x.2.1 = s := ⟨_, rfl⟩
        obtain ⟨z1, hz1'⟩ : ∃ s, x.1 = s := ⟨_, rfl⟩
        obtain ⟨z2, hz2'⟩ : ∃ s, x.2.2.1 = s := ⟨_, rfl⟩
        obtain ⟨z3, hz3'⟩ : ∃ s, x.2.2.2 = s := ⟨_, rfl⟩
        rw [hs] at x1 hsz
        rw [hz1'] at x0
        rw [hz2'] at x2
        rw [hz3'] at x3
        obtain ⟨k, hk⟩ : ∃ k : Nat, z % ((s.size : Int) + 1) = (k : Int) := ⟨(z % ((s.size : Int) + 1)).toNat, by have := Int.emod_nonneg z (show (s.size : Int) + 1 ≠ 0 by omega); omega⟩
        have hks : k ≤ s.size := by have := Int.emod_lt_of_pos z (show 0 < (s.size : Int) + 1 by omega); omega
        have hki : (k : Int) ≤ (s.size : Int) := by omega
        have hk0 : (0 : Int) ≤ (k : Int) := by omega
        have hs1 : ∀ W, (Instr.slice 9 (.string s) none (some (.int .i64 (k : Int))) none).run Tryz.prog W = .ok (.string (s.extract 0 k)) W := fun W => by simp [go_sem, hk0, hki]
        have hs2 : ∀ W, (Instr.slice 9 (.string s) (some (.int .i64 (k : Int))) none none).run Tryz.prog W = .ok (.string (s.extract k s.size)) W := fun W => by simp [go_sem, hk0, hki]
        have hsz1 : (s.extract 0 k).size ≤ 600 := by rw [ByteArray.size_extract]; omega
        have hsz2 : (s.extract k s.size).size ≤ 600 := by rw [ByteArray.size_extract]; omega
        have hpart := Lib.hid (parted s T k hks)
        obtain ⟨sa, hsa⟩ : ∃ x, s.extract 0 k = x := ⟨_, rfl⟩
        obtain ⟨sb, hsb⟩ : ∃ x, s.extract k s.size = x := ⟨_, rfl⟩
        rw [hsa] at hs1 hsz1 hpart
        rw [hsb] at hs2 hsz2 hpart
        obtain ⟨p, hp⟩ : ∃ p : Nat, 2 + z2 % 16 = (p : Int) := ⟨(2 + z2 % 16).toNat, by omega⟩
        obtain ⟨q, hq⟩ : ∃ q : Nat, 8 + z3 % 32 = (q : Int) := ⟨(8 + z3 % 32).toNat, by omega⟩
        obtain ⟨y2, hy2⟩ : ∃ y : Nat, z2 % 16 = (y : Int) := ⟨(z2 % 16).toNat, by omega⟩
        obtain ⟨y3, hy3⟩ : ∃ y : Nat, z3 % 32 = (y : Int) := ⟨(z3 % 32).toNat, by omega⟩
        have hpb : 2 ≤ p ∧ p ≤ 100 := by omega
        have hqb : 8 ≤ q ∧ q ≤ 200 := by omega
        have b2 : bits BinOp.and IntKind.i64 z2 15 = (y2 : Int) := by rw [i64_and15]; exact hy2
        have b3 : bits BinOp.and IntKind.i64 z3 31 = (y3 : Int) := by rw [i64_and31]; exact hy3
        have p2 : (2 : Int) + (y2 : Int) = (p : Int) := by omega
        have p3 : (8 : Int) + (y3 : Int) = (q : Int) := by omega
        have y2b : (y2 : Int) < 16 := by omega
        have y3b : (y3 : Int) < 32 := by omega
        have pw : IntKind.i64.wrap (p : Int) = (p : Int) := IntWalk.i64_in _ (by omega)
        have qw : IntKind.i64.wrap (q : Int) = (q : Int) := IntWalk.i64_in _ (by omega)
        clear hs hz1' hz2' hz3' hx HA hsa hsb hp hq hy2 hy3 hks
        go_wp2_with fail
        · clear HWr HFr HBl HVa HSm hs1 hs2 hsz1 hsz2 hpart
          go_quiet (fail)
          obtain ⟨W4, hW4⟩ : ∃ W4, wr.drewN nq = W4 := ⟨_, rfl⟩
          have HI4 : Hid (TwoT w1 W4 B B2 T m n G N c G2 N2 c2) := by rw [← hW4]; exact HI.out.next (below_drewN (Below.refl _ _) nq)
          try rw [hW4]
          clear HI hW4 x0 x1 x2 x3
          go_wp2_with fail
          go_fit (HRz.out _ B G N c T m n p q HI4.out.ok hpb hqb HI4.out.t)
          rintro e w5 ⟨rfl, G5, hG5, hT5, hK5⟩
          have HU5 : Hid (TmS w1 w5 B2 G2 N2 c2 T) := HI4.out.u.keep hK5 (fun k hk => by have := HI4.out.t.hB; show k ≠ B; omega) (fun e => HI4.out.bb e.symm) (fun e => HI4.out.bg e.symm)
          have HN5 : Hid (G5 ≠ B2) := by have := HI4.out.u.box.lt; show _ ≠ _; omega
          have HT5 := Lib.hid hT5
          clear hT5 hK5 hG5
          go_wp2_with fail
          go_fit (HRz.out _ B2 G2 N2 c2 T m n p q HI4.out.ok hpb hqb HU5.out)
          rintro e w6 ⟨rfl, G6, hG6, hU6, hK6⟩
          have hT6 := HT5.out.keep hK6 (fun k hk => by have := HU5.out.hB; show k ≠ B2; omega) HI4.out.bb HN5.out
          have HEnd : Hid (TwoT w1 w6 B B2 { T with f := resF T.f p q, waits := false } p q G5 (p * q) (p * q) G6 (p * q) (p * q)) := by
            have l1 := HT5.out.gt
            have l2 := HT5.out.box.lt
            exact ⟨⟨res_okF HI4.out.ok.fr p q hpb hqb, HI4.out.ok.st, HI4.out.ok.ps⟩, hT6, hU6, HI4.out.bb, by omega, HN5.out, by omega⟩
          clear hT6 hU6 hK6 hG6 HU5 HT5 HN5 HI4 HRz
          go_wp2_with fail
          go_roundw
          case rel => exact ⟨i + 1, _, p, q, G5, _, _, G6, _, _, by rw [Int.natCast_add]; rfl, by omega, HEnd⟩
          case measure => simp only [intOf]; omega
        · rw [hk]
          go_fit (HWr.out _ B G N c T m n s HI.out.ok hsz HI.out.t)
          rintro e w5 ⟨rfl, hT5, hK5⟩
          obtain ⟨q1, q2, q3, q4, q5, q6, q7⟩ := HI.out
          have h0a : ∀ k, k < w1.heap.size → NotBG B G k := fun k hk => by have a := q2.hB; have b := q2.hG; show _ ∧ _; omega
          have h0b : ∀ k, k < w1.heap.size → NotBG B2 G2 k := fun k hk => by have a := q3.hB; have b := q3.hG; show _ ∧ _; omega
          have HT5 := Lib.hid hT5
          have HU5 := Lib.hid (q3.keep hK5 h0a ⟨fun e => q4 e.symm, fun e => q6 e.symm⟩ ⟨fun e => q5 e.symm, fun e => q7 e.symm⟩)
          have H0B := Lib.hid h0b
          have HOK := Lib.hid q1
          have HNE : Hid (NotBG B2 G2 B ∧ NotBG B2 G2 G) := ⟨⟨q4, q5⟩, q6, q7⟩
          have HNQ : Hid (B ≠ B2 ∧ B ≠ G2 ∧ G ≠ B2 ∧ G ≠ G2) := ⟨q4, q5, q6, q7⟩
          clear hT5 hK5 h0a h0b q1 q2 q3 q4 q5 q6 q7 HI x0 x1 x2 x3
          go_wp2_with fail
          go_fit (HWr.out _ B2 G2 N2 c2 T m n sa HOK.out hsz1 HU5.out)
          rintro e w6 ⟨rfl, hU6, hK6⟩
          have HT6 := Lib.hid (HT5.out.keep hK6 H0B.out HNE.out.1 HNE.out.2)
          have HU6 := Lib.hid hU6
          clear hU6 hK6 HT5 HU5
          go_wp2_with fail
          go_fit (HWr.out _ B2 G2 N2 c2 (writeT T sa.data.toList) m n sb (write_ok HOK.out _) hsz2 HU6.out)
          rintro e w7 ⟨rfl, hU7, hK7⟩
          rw [hpart.out] at hU7
          obtain ⟨T2, hT2⟩ : ∃ x, writeT T s.data.toList = x := ⟨_, rfl⟩
          have hok2 : OkT T2 m n := by rw [← hT2]; exact write_ok HOK.out _
          have hT7 := HT6.out.keep hK7 H0B.out HNE.out.1 HNE.out.2
          rw [hT2] at hU7 hT7
          have HT7 := Lib.hid hT7
          have HU7 := Lib.hid hU7
          have HK2 := Lib.hid hok2
          clear hU7 hT7 hK7 hok2 hT2 HT6 HU6 hpart HOK HWr HRz
          go_wp2_with fail
          go_fit (HFr.out _ B G N c T2 m n HK2.out HT7.out)
          rintro e w8 ⟨v8, rfl, hf8, hb8⟩
          have HT8 := Lib.hid (HT7.out.next hb8)
          have HU8 := Lib.hid (HU7.out.next hb8)
          have HF8 := Lib.hid hf8
          clear hf8 hb8 HT7 HU7
          go_wp2_with fail
          go_fit (HFr.out _ B2 G2 N2 c2 T2 m n HK2.out HU8.out)
          rintro e w9 ⟨v9, rfl, hf9, hb9⟩
          have HT9 := Lib.hid (HT8.out.next hb9)
          have HU9 := Lib.hid (HU8.out.next hb9)
          have HF89 := Lib.hid (HF8.out.below hb9)
          have HF9 := Lib.hid hf9
          clear hf9 hb9 HT8 HU8 HF8
          obtain ⟨a8, n8, c8, rfl, hn8, hc8, _⟩ := HF89.out
          obtain ⟨a9, n9, c9, rfl, hn9, hc9, _⟩ := HF9.out
          subst hn8 hn9
          go_wp2_with fail
          obtain ⟨W10, hW10⟩ : ∃ W, (w9.alloc (.cells #[.int .i64 T2.f.rows, .int .i64 T2.f.cols, .slice a8 T2.f.cells.length c8, .int .i64 T2.f.row, .int .i64 T2.f.col] 35)).alloc (.cells #[.int .i64 T2.f.rows, .int .i64 T2.f.cols, .slice a9 T2.f.cells.length c9, .int .i64 T2.f.row, .int .i64 T2.f.col] 35) = W := ⟨_, rfl⟩
          have hb10 : Below w9.heap.size w9 W10 := by rw [← hW10]; exact ((Below.refl _ w9).alloc (Nat.le_refl _) _).alloc (by rw [World.size_alloc]; omega) _
          have hA10 : frB W10 w9.heap.size T2.f.rows T2.f.cols (.slice a8 T2.f.cells.length c8) T2.f.row T2.f.col := by
            rw [← hW10]
            exact (frB.new w9).below ((Below.refl _ (w9.alloc (.cells #[.int .i64 T2.f.rows, .int .i64 T2.f.cols, .slice a8 T2.f.cells.length c8, .int .i64 T2.f.row, .int .i64 T2.f.col] 35))).alloc (Nat.le_refl _) _) (by rw [World.size_alloc]; omega)
          have hB10 : frB W10 (w9.heap.size + 1) T2.f.rows T2.f.cols (.slice a9 T2.f.cells.length c9) T2.f.row T2.f.col := by
            rw [← hW10]
            have := frB.new (r := T2.f.rows) (c := T2.f.cols) (v := .slice a9 T2.f.cells.length c9) (a := T2.f.row) (b := T2.f.col) (w9.alloc (.cells #[.int .i64 T2.f.rows, .int .i64 T2.f.cols, .slice a8 T2.f.cells.length c8, .int .i64 T2.f.row, .int .i64 T2.f.col] 35))
            rwa [World.size_alloc] at this
          rw [hW10]
          have HT10 := Lib.hid (HT9.out.next hb10)
          have HU10 := Lib.hid (HU9.out.next hb10)
          have HX10 := Lib.hid (HF89.out.below hb10)
          have HY10 := Lib.hid (HF9.out.below hb10)
          clear hW10 hb10 HT9 HU9 HF89 HF9
          go_fit (HVa.out _ _ T2.f m n HT10.out.below HK2.out.fr HX10.out)
          rintro e w11 ⟨rfl, hb11⟩
          have HT11 := Lib.hid (HT10.out.next hb11)
          have HU11 := Lib.hid (HU10.out.next hb11)
          have HX11 := Lib.hid (HX10.out.below hb11)
          have HY11 := Lib.hid (HY10.out.below hb11)
          obtain ⟨⟨r0, r1, r2, r3, r4⟩, _⟩ := (hA10.below hb11 hA10.lt).cells
          obtain ⟨⟨t0, t1, t2, t3, t4⟩, _⟩ := (hB10.below hb11 hB10.lt).cells
          clear hb11 HT10 HU10 HX10 HY10 hA10 hB10
          go_wp2_with fail
          go_fit (HSm.out _ _ _ T2.f m n HK2.out.fr HX11.out HY11.out)
          rintro e w12 ⟨rfl, hb12⟩
          have HT12 := Lib.hid (HT11.out.next hb12)
          have HU12 := Lib.hid (HU11.out.next hb12)
          clear hb12 HT11 HU11 HX11 HY11 r0 r1 r2 r3 r4 t0 t1 t2 t3 t4
          go_wp2_with fail
          go_fit (HBl.out _ B G N c T2 HT12.out)
          rintro e w13 ⟨rfl, rfl⟩
          go_wp2_with fail
          go_fit (HBl.out _ B2 G2 N2 c2 T2 HU12.out)
          rintro e w14 ⟨rfl, rfl⟩
          have HEnd : Hid (TwoT w1 w14 B B2 T2 m n G N c G2 N2 c2) := ⟨HK2.out, HT12.out, HU12.out, HNQ.out.1, HNQ.out.2.1, HNQ.out.2.2.1, HNQ.out.2.2.2⟩
          clear HT12 HU12 HBl HSm HVa HFr
          go_wp2_with fail
          go_roundw
          case rel => exact ⟨i + 1, _, m, n, G, _, _, G2, _, _, by rw [Int.natCast_add]; rfl, by omega, HEnd⟩
          case measure => simp only [intOf]; omega
      · obtain rfl : i = nl := by omega
        have i0 : ¬ (i : Int) < (i : Int) := by omega
        have HBW := Lib.hid HI.out.t.below
        clear HI HA HWr HFr HBl HRz HVa HSm
        go_wp2_with fail
        go_fit (HE.out _ HBW.out)
        rintro e w4 ⟨rfl, hb4⟩
        go_wp2_with fail
        go_ret
        exact ⟨rfl, HBW.out.trans (hb4.mono HBW.out.size)⟩
end Go.Proofs.YtpkjaallhhjleaaGreatDoor
