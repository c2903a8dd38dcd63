/-
  Texts of this proof, one behind the other; each begins with its own remark.
-/
import Derived.Deep.RegionLaw
import Derived.IntWalk
import Derived.RegionTactic
import Derived.RangeFuncCalls
import Derived.RangeFuncLeaves
import Derived.OwnWalkIn
import Derived.Test.YtpkjaallhhjleaaGreatDoorBa26
import Derived.Test.YtpkjaallhhjleaaGreatDoorBa9
import Derived.Test.YtpkjaallhhjleaaGreatDoorBa12
import Derived.Test.YtpkjaallhhjleaaGreatDoorBa5
import Derived.Test.YtpkjaallhhjleaaGreatDoorBa7
import Derived.Test.YtpkjaallhhjleaaGreatDoorBa1
/-
  slices.Repeat of one cell: what it returns, and lays.
-/
namespace Go.Proofs.YtpkjaallhhjleaaGreatDoor
open Go.RowKit

def zeroC : Cel := (0, 0, 0, false, false, false)
/-- k cells of one kind, then zeros. -/
def fillL (c : Cel) (N k : Nat) : List Cel := List.replicate k c ++ List.replicate (N - k) zeroC
theorem fill_len (c : Cel) (N k : Nat) (h : k ≤ N) : (fillL c N k).length = N := by unfold fillL; simp; omega
theorem fill_step (c : Cel) (N k j : Nat) (h : k + j ≤ N) : (fillL c N k).take k ++ List.replicate j c ++ (fillL c N k).drop (k + j) = fillL c N (k + j) := by
  unfold fillL
  rw [List.take_append_of_le_length (by simp), List.drop_append, List.take_of_length_le (by simp), List.drop_of_length_le (by simp), List.nil_append, List.length_replicate, List.drop_replicate, List.replicate_append_replicate]
  congr 2; omega

def AnyD (W : World) : Prop := W.drawn = W.drawn
theorem AnyD.mk (W : World) : AnyD W := rfl
theorem made_cells (N : Nat) : madeCells (.agg #[.int .i32 0, .int .i64 0, .int .i64 0, .bool false, .bool false, .bool false] : Value).cells (N * 6) = (celC (List.replicate N zeroC)).toArray := by
  apply Array.ext'
  apply List.ext_getElem?
  intro j
  unfold madeCells
  rw [Array.toList_map, Array.toList_range, List.getElem?_map]
  by_cases hj : j < N * 6
  · rw [List.getElem?_range hj, Option.map_some]
    have hi : j / 6 < N := by omega
    have hc : (List.replicate N zeroC)[j / 6]? = some zeroC := by rw [List.getElem?_replicate, if_pos hi]
    have := celC_at _ _ _ hc (j % 6) (by omega)
    rw [show j / 6 * 6 + j % 6 = j by omega] at this
    rw [this]
    have h6 : j % 6 = 0 ∨ j % 6 = 1 ∨ j % 6 = 2 ∨ j % 6 = 3 ∨ j % 6 = 4 ∨ j % 6 = 5 := by omega
    have hsz : (Value.agg #[.int .i32 0, .int .i64 0, .int .i64 0, .bool false, .bool false, .bool false] : Value).cells.size = 6 := rfl
    rw [hsz]
    rcases h6 with h | h | h | h | h | h <;> (rw [h]; rfl)
  · rw [List.getElem?_eq_none (by simp; omega), List.getElem?_eq_none (by simp [celC_len]; omega)]; rfl
theorem make_cells (N : Nat) (hN : N ≤ 20000) (w : World) : (Instr.makeSlice 33 (.int .i64 (N : Int)) (.int .i64 (N : Int))).run Tryz.prog w = .ok (.slice (some ⟨w.heap.size, 0, none⟩) N N) (w.alloc (.cells (celC (List.replicate N zeroC)).toArray 82)) := by
  obtain ⟨i, hi, hz0, hz1, hz2⟩ := info_parts Tryz.infoCell
  have hr := run_make (P := Tryz.prog) w 33 82 i _ Tryz.underlying33 hi hz0 .i64 .i64 (N : Int) (N : Int) (by omega) (Int.le_refl _) (by rw [hz2]; omega) (by omega)
  simp only [Int.toNat_natCast, hz1] at hr
  rw [made_cells] at hr
  exact hr

set_option maxRecDepth 100000 in
set_option maxHeartbeats 4000000 in
theorem repeat_any {ok : Nat → Prop} {so : Option Addr} {cap : Nat} (c : Cel) (N : Nat) (w : World) (hS : CelsW ok w (.slice so 1 cap) [c]) (h0 : 0 < N) (hN : N ≤ 20000) :
    Calls Tryz.prog 50 #[.slice so 1 cap, .int .i64 (N : Int)] w fun e w' => e = .returned (.slice (some ⟨w.heap.size, 0, none⟩) N N) ∧ blkL w' w.heap.size (List.replicate N c) [] ∧ Below w.heap.size w w' := by
  have HM := Lib.hid (fun w => mul_one N w (by omega))
  have hmk := make_cells N hN
  obtain ⟨Z, hZ⟩ : ∃ Z, (celC (List.replicate N zeroC)).toArray = Z := ⟨_, rfl⟩
  rw [hZ] at hmk
  have H1 : Hid (blkL (w.alloc (.cells Z 82)) w.heap.size (fillL c N 0) [] ∧ CelsW ok (w.alloc (.cells Z 82)) (.slice so 1 cap) [c]) := by
    refine ⟨?_, hS.below ((Below.refl _ _).alloc (Nat.le_refl _) _)⟩
    rw [← hZ]
    have := heap_alloc_new w (.cells (celC (List.replicate N zeroC)).toArray 82)
    unfold blkL fillL
    rw [List.append_nil, List.replicate_zero, List.nil_append, Nat.sub_zero]
    exact this
  have hbA : Below w.heap.size w (w.alloc (.cells Z 82)) := (Below.refl _ _).alloc (Nat.le_refl _) _
  have HL0 := Lib.hid (fill_len c N 0 (Nat.zero_le _))
  have i1 : (N : Int) ≤ 20000 := by omega
  have i2 : (0 : Int) < (N : Int) := by omega
  have HF := Lib.hid (fun k j h => fill_step c N k j h)
  clear hS hZ
  go_enter Tryz.func50, Tryz.ntmps50
  go_wp2_with fail
  go_fit (HM.out _)
  rintro e w2 ⟨rfl, rfl⟩
  go_wp2_with (refine wpList_copy6 (o := ⟨some 33, _, _, _, _, _⟩) (p := 0) (k := 1) rfl (.tmp 31) (.tmp 32) rfl (by rfl) (by rfl) H1.out.1 H1.out.2 rfl (show min 1 N = 1 by omega) (by omega) (by rw [HL0.out]; omega) ?_; intro w3 hg3 hk3)
  rw [show ([c] : List Cel).take 1 = List.replicate 1 c from rfl, fill_step c N 0 1 (by omega)] at hg3
  have hb3 : Below w.heap.size w w3 := KeepW.below hbA hk3.out (by rw [World.size_alloc]; omega) (fun k hk => by omega)
  clear H1 hk3 hmk
  go_loopw [8] (fun s8 wr => ∃ k : Nat, s8 = .int .i64 (k : Int) ∧ 1 ≤ k ∧ k ≤ N ∧ Hid (blkL wr w.heap.size (fillL c N k) []) ∧ Below w.heap.size w wr) (fun s8 _ => N - (intOf s8).toNat)
  case atStart => exact ⟨1, rfl, Nat.le_refl _, by omega, hg3, hb3⟩
  case round =>
    obtain ⟨k, rfl, hk1, hk, HB, hbw⟩ := hrel
    clear hg3 hb3
    by_cases hlt : k < N
    · obtain ⟨j, hj⟩ : ∃ j, min k (N - k) = j := ⟨_, rfl⟩
      have hT : Hid ((fillL c N k).take k = List.replicate k c) := by
        show _ = _
        unfold fillL
        rw [List.take_append_of_le_length (by simp), List.take_of_length_le (by simp)]
      have hlen := Lib.hid (fill_len c N k hk)
      have HS : Hid (CelsW AnyB wr (.slice (some ⟨w.heap.size, 0, none⟩) k N) (List.replicate k c)) := by
        have := HB.out.part (ok := AnyB) (a := 0) (n := k) (cap := N) trivial (by rw [hlen.out]; omega) hk
        rw [List.drop_zero, hT.out] at this
        show CelsW _ _ _ _
        simpa using this
      have HJ := Lib.hid hj
      obtain ⟨z, hz⟩ : ∃ z, k + j = z := ⟨_, rfl⟩
      have HF2 : Hid ((fillL c N k).take k ++ (List.replicate k c).take j ++ (fillL c N k).drop (k + j) = fillL c N z) := by
        show _ = _
        rw [List.take_replicate, Nat.min_eq_left (by omega), HF.out k j (by omega), hz]
      have hz1 : 1 ≤ z := by omega
      have hzN : z ≤ N := by omega
      have HZ : Hid (N - z < N - k) := by show _ < _; omega
      have hj0 : 0 < j := by omega
      have hjk : k + j ≤ N := by omega
      have j1 : (k : Int) ≤ (N : Int) := by omega
      have j2 : (0 : Int) ≤ (k : Int) := by omega
      have j3 : (k : Int) < (N : Int) := by omega
      have j5 : ¬ N = k := by omega
      have j4 : IntKind.i64.wrap ((k : Int) + (j : Int)) = (z : Int) := by
        rw [IntWalk.i64_in _ (by omega)]; omega
      clear hj HF hz
      go_wp2
      go_region_held3 AnyD (first | exact AnyD.mk _ | go_keep)
        ((refine step_copy6 (w := wr.drew) (p := k) (k := j) (by rfl) (.tmp 41) (.tmp 44) (by rfl) (by rfl) (by rfl) (M := fillL c N k) (zs := []) HB.out HS.out (by simp) (show min k (N - k) = j from HJ.out) hj0 (by rw [hlen.out]; omega) ?_; intro w4 hg4 hk4))
      all_goals
        rw [HF2.out] at hg4
        have hb4 : Below w.heap.size w w4 := KeepW.below (b := wr) hbw ((keep_drew _ wr).trans hk4.out) hbw.size (fun k hk => by show k ≠ w.heap.size; omega)
        clear hk4 HB HS
        go_wp2
        go_roundw
        case rel => exact ⟨z, rfl, hz1, hzN, hg4, hb4⟩
        case measure => simp [intOf]; exact HZ.out
    · obtain rfl : k = N := by omega
      have HE : Hid (blkL wr w.heap.size (List.replicate k c) []) := by
        have := HB.out
        unfold fillL at this
        rw [Nat.sub_self, List.replicate_zero, List.append_nil] at this
        exact this
      go_wp2
      go_ret
      exact ⟨rfl, HE.out, hbw⟩

end Go.Proofs.YtpkjaallhhjleaaGreatDoor

/-
  grids.New: what it returns, and lays.
-/
namespace Go.Proofs.YtpkjaallhhjleaaGreatDoor
open Go.RowKit

/-- A row of one cell that a literal lays. -/
theorem one_cell {w : World} (c : Cel) : CelsW AnyB (w.alloc (.cells #[.int .i32 c.1, .int .i64 c.2.1, .int .i64 c.2.2.1, .bool c.2.2.2.1, .bool c.2.2.2.2.1, .bool c.2.2.2.2.2] 82)) (.slice (some ⟨w.heap.size, 0, none⟩) 1 1) [c] := by
  refine ⟨_, 1, rfl, Nat.le_refl _, fun _ _ => trivial, fun j u hu => ⟨_, 0, rfl, ?_⟩⟩
  rw [celC_one] at hu
  rw [cell_of_row _ _ _ _ _ _ (heap_alloc_new w _), Nat.zero_add, ← Array.getElem?_toList]
  exact hu
set_option maxHeartbeats 1000000 in
theorem gnew_bad (r c : Int) (w : World) (hb : sizedB r c = false) :
    Calls Tryz.prog 26 #[.int .i64 r, .int .i64 c] w fun e w' => e = .returned (.tuple #[.agg #[.int .i64 0, .int .i64 0, .slice none 0 0, .int .i64 0, .int .i64 0], .int .i64 2]) ∧ Below w.heap.size w w' := by
  have H := Lib.hid (fun w => sized_any r c w)
  rw [hb] at H
  clear hb
  go_enter Tryz.func26, Tryz.ntmps26
  go_wp2_with fail
  go_fit (H.out _)
  rintro e w2 ⟨rfl, rfl⟩
  go_wp2
  exact bodyPost_ret (v := .tuple #[.agg #[.int .i64 0, .int .i64 0, .slice none 0 0, .int .i64 0, .int .i64 0], .int .i64 2]) (by simp [results, Tryz.results26, go_sem]) rfl ⟨rfl, (Below.refl _ w).alloc (Nat.le_refl _) _⟩
set_option maxHeartbeats 2000000 in
theorem gnew_any (m n : Nat) (w : World) (hm : 2 ≤ m ∧ m ≤ 100) (hn : 8 ≤ n ∧ n ≤ 200) (hL : BlankW w) :
    Calls Tryz.prog 26 #[.int .i64 (m : Int), .int .i64 (n : Int)] w fun e w' => ∃ g, e = .returned (.tuple #[.agg #[.int .i64 (m : Int), .int .i64 (n : Int), .slice (some ⟨g, 0, none⟩) (m * n) (m * n), .int .i64 0, .int .i64 0], .int .i64 0]) ∧ NewL w w' g (List.replicate (m * n) blkC) ∧ Below w.heap.size w w' := by
  have H := Lib.hid (fun w => sized_any (m : Int) (n : Int) w)
  rw [(sizedB_iff _ _).2 (by omega)] at H
  have hmul : (m : Int) * (n : Int) = ((m * n : Nat) : Int) := by rw [Int.natCast_mul]
  have hle : m * n ≤ 20000 := Nat.mul_le_mul hm.2 hn.2
  have hpos : 0 < m * n := Nat.mul_pos (by omega) (by omega)
  obtain ⟨N, hN⟩ : ∃ N, m * n = N := ⟨_, rfl⟩
  rw [hN] at hmul hle hpos ⊢
  obtain ⟨b0, b1, b2, b3, b4, b5⟩ := hL.2
  simp only [blkC, Nat.zero_add] at b0 b1 b2 b3 b4 b5
  have hg := hL.1
  have HR : Hid (∀ W g, W.heap.size = g → Calls Tryz.prog 50 #[.slice (some ⟨g, 0, none⟩) 1 1, .int .i64 (N : Int)] (W.alloc (.cells #[.int .i32 32, .int .i64 1, .int .i64 0, .bool false, .bool false, .bool false] 82)) fun e w' => e = .returned (.slice (some ⟨g + 1, 0, none⟩) N N) ∧ blkL w' (g + 1) (List.replicate N blkC) [] ∧ Below W.heap.size W w') := fun W g hW => by
    subst hW
    have := repeat_any blkC N (W.alloc (.cells #[.int .i32 32, .int .i64 1, .int .i64 0, .bool false, .bool false, .bool false] 82)) (one_cell (w := W) blkC) hpos hle
    rw [World.size_alloc] at this
    exact this.mono fun e w' ⟨k1, k2, k3⟩ => ⟨k1, k2, ((Below.refl _ W).alloc (Nat.le_refl _) _).trans (k3.mono (by omega))⟩
  have i1 : (m : Int) ≤ 100 := by omega
  have i2 : (n : Int) ≤ 200 := by omega
  have i3 : (0 : Int) ≤ (m : Int) := by omega
  have i4 : (0 : Int) ≤ (n : Int) := by omega
  have i5 : (N : Int) ≤ 20000 := by omega
  clear hL hN
  go_enter Tryz.func26, Tryz.ntmps26
  go_wp2_with fail
  go_fit (H.out _)
  rintro e w2 ⟨rfl, rfl⟩
  go_wp2_with fail
  go_fit (HR.out _ (w.heap.size + 1) (size_alloc _ _))
  rintro e w3 ⟨rfl, hg3, hb3⟩
  have hB := (frB.new (r := 0) (c := 0) (v := .slice none 0 0) (a := 0) (b := 0) w).below hb3 (by rw [World.size_alloc]; omega)
  obtain ⟨⟨d0, d1, d2, d3, d4⟩, f0, f1, f2, f3, f4⟩ := hB.cells
  have HE := Lib.hid (hB.all (r' := (m : Int)) (c' := (n : Int)) (v' := .slice (some ⟨w.heap.size + 1 + 1, 0, none⟩) N N) (a' := 0) (b' := 0))
  have HK : Hid (NewL w (set5 w3 w.heap.size (m : Int) (n : Int) (.slice (some ⟨w.heap.size + 1 + 1, 0, none⟩) N N) 0 0) (w.heap.size + 1 + 1) (List.replicate N blkC) ∧ Below w.heap.size w (set5 w3 w.heap.size (m : Int) (n : Int) (.slice (some ⟨w.heap.size + 1 + 1, 0, none⟩) N N) 0 0)) := by
    have b1 : Below w.heap.size w w3 := ((Below.refl _ w).alloc (Nat.le_refl _) _).trans (hb3.mono (by rw [World.size_alloc]; omega))
    exact ⟨⟨[], by omega, hg3.keep (set5_keep (ok := fun k => k ≠ w.heap.size) _ _ _ _ _ _ _ fun k => k rfl) (by show _ ≠ _; omega)⟩, KeepW.below b1 (set5_keep (ok := fun k => k ≠ w.heap.size) _ _ _ _ _ _ _ fun k => k rfl) b1.size (fun k hk => by omega)⟩
  have hlt : w.heap.size < w3.heap.size := hB.lt
  clear hB hg3 hb3 HR H b0 b1 b2 b3 b4 b5
  go_wp2
  obtain ⟨⟨y0, y1, y2, y3, y4⟩, _⟩ := HE.out.cells
  exact bodyPost_ret (v := .tuple #[.agg #[.int .i64 (m : Int), .int .i64 (n : Int), .slice (some ⟨w.heap.size + 1 + 1, 0, none⟩) N N, .int .i64 0, .int .i64 0], .int .i64 0]) (by unfold set5 at y0 y1 y2 y3 y4; simp [results, Tryz.results26, go_sem, y0, y1, y2, y3, y4]) rfl ⟨_, rfl, HK.out.1, HK.out.2⟩
end Go.Proofs.YtpkjaallhhjleaaGreatDoor

/-
  term: New, Frame, Bells: what each returns, and lays.
-/
namespace Go.Proofs.YtpkjaallhhjleaaGreatDoor
open Go.RowKit

section
variable {w0 : World} {B G N cap : Nat} {t : Tm}
set_option maxRecDepth 20000 in
set_option maxHeartbeats 4000000 in
theorem tnew_bad (r c : Int) (w : World) (hb : sizedB r c = false) :
    Calls Tryz.prog 9 #[.int .i64 r, .int .i64 c] w fun e w' => e = .returned (.tuple #[.pointer none, .int .i64 2]) ∧ Below w.heap.size w w' := by
  have H := Lib.hid (gnew_bad r c w hb)
  go_enter Tryz.func9, Tryz.ntmps9
  go_wp2_with fail
  go_fit H.out
  rintro e w1 ⟨rfl, hb1⟩
  go_wp2_with fail
  exact bodyPost_ret (v := .tuple #[.pointer none, .int .i64 2]) (by simp [results, Tryz.results9, go_sem]) rfl ⟨rfl, hb1.alloc hb1.size _⟩
set_option maxRecDepth 20000 in
set_option maxHeartbeats 4000000 in
theorem tnew_any (m n : Nat) (w : World) (hm : 2 ≤ m ∧ m ≤ 100) (hn : 8 ≤ n ∧ n ≤ 200) (hL : LaidW w) (hw : Below w0.heap.size w0 w) :
    Calls Tryz.prog 9 #[.int .i64 (m : Int), .int .i64 (n : Int)] w fun e w' => ∃ B G, e = .returned (.tuple #[.pointer (some ⟨B, 0, none⟩), .int .i64 0]) ∧ TmS w0 w' B G (m * n) (m * n) (newT m n) ∧ Below w.heap.size w w' ∧ w.heap.size ≤ B ∧ w.heap.size ≤ G := by
  have H := Lib.hid (gnew_any m n w hm hn hL.2)
  have HN : Hid (newT (m : Int) (n : Int) = ⟨⟨(m : Int), (n : Int), List.replicate (m * n) blkC, 0, 0⟩, sty0, 0, false, .zero⟩) := by
    show _ = _
    unfold newT newF
    rw [if_pos ((sizedB_iff _ _).2 (by omega)), ← Int.natCast_mul, Int.toNat_natCast]
  have HW := Lib.hid hw
  obtain ⟨P, hP⟩ : ∃ P, m * n = P := ⟨_, rfl⟩
  rw [hP] at H HN ⊢
  clear hL hw hP
  go_enter Tryz.func9, Tryz.ntmps9
  go_wp2_with fail
  go_fit H.out
  rintro e w1 ⟨g, rfl, ⟨zs, hg, hz⟩, hb1⟩
  go_wp2_with fail
  refine bodyPost_ret (v := .tuple #[.pointer (some ⟨w1.heap.size + 1, 0, none⟩), .int .i64 0]) (by simp [results, Tryz.results9, go_sem]) rfl ⟨w1.heap.size + 1, g, rfl, ?_, ?_, ?_, hg⟩
  · rw [HN.out]
    have hw := HW.out
    have h1 := hb1.size
    have h2 := hw.size
    have hgl := hz.lt
    have hbA := blw_alloc (o := .cells #[.int .i64 (m : Int), .int .i64 (n : Int), .slice (some ⟨g, 0, none⟩) P P, .int .i64 0, .int .i64 0] 35) hb1
    have hbB := hbA.alloc (o := .cells #[.int .i64 (m : Int), .int .i64 (n : Int), .slice (some ⟨g, 0, none⟩) P P, .int .i64 0, .int .i64 0, .int .i64 0, .bool false, .bool false, .bool false, .int .i64 0, .bool false, .int .i64 0, .string ⟨#[]⟩] 47) hbA.size
    refine ⟨hw.trans (hbB.mono h2), by omega, by omega, by omega, ?_, ⟨zs, ?_⟩, by simp, Nat.le_refl _⟩
    · have := heap_alloc_new (w1.alloc (.cells #[.int .i64 (m : Int), .int .i64 (n : Int), .slice (some ⟨g, 0, none⟩) P P, .int .i64 0, .int .i64 0] 35)) (.cells #[.int .i64 (m : Int), .int .i64 (n : Int), .slice (some ⟨g, 0, none⟩) P P, .int .i64 0, .int .i64 0, .int .i64 0, .bool false, .bool false, .bool false, .int .i64 0, .bool false, .int .i64 0, .string ⟨#[]⟩] 47)
      rw [World.size_alloc] at this
      exact this
    · unfold blkL
      rw [Below.heap_alloc _ _ _ (by rw [World.size_alloc]; omega), Below.heap_alloc _ _ _ hgl]
      exact hz
  · exact (blw_alloc hb1).alloc (blw_alloc hb1).size _
  · have := hb1.size
    omega
set_option maxRecDepth 20000 in
set_option maxHeartbeats 4000000 in
theorem tbells_nil (w : World) : Calls Tryz.prog 15 #[.pointer none] w fun e w' => e = .returned (.int .i64 0) ∧ w' = w := by
  have H := Lib.hid (fun w => tnone_nil w)
  go_enter Tryz.func15, Tryz.ntmps15
  go_wp2_with fail
  go_fit (H.out _)
  rintro e w1 ⟨rfl, rfl⟩
  go_wp2_with fail
  go_ret
  exact ⟨rfl, rfl⟩
set_option maxRecDepth 20000 in
set_option maxHeartbeats 4000000 in
theorem tbells_zero (B : Nat) (w : World) (h : w.cell? ⟨B, 2, none⟩ = some (.slice none 0 0)) : Calls Tryz.prog 15 #[.pointer (some ⟨B, 0, none⟩)] w fun e w' => e = .returned (.int .i64 0) ∧ w' = w := by
  have H := Lib.hid (tnone_zero B w h)
  clear h
  go_enter Tryz.func15, Tryz.ntmps15
  go_wp2_with fail
  go_fit H.out
  rintro e w1 ⟨rfl, rfl⟩
  go_wp2_with fail
  go_ret
  exact ⟨rfl, rfl⟩
set_option maxRecDepth 20000 in
set_option maxHeartbeats 4000000 in
theorem tbells_any (w : World) (h : TmS w0 w B G N cap t) : Calls Tryz.prog 15 #[.pointer (some ⟨B, 0, none⟩)] w fun e w' => e = .returned (.int .i64 t.bells) ∧ w' = w := by
  obtain ⟨⟨_, _, x2, _, _⟩, _, ⟨x9, _⟩, _⟩ := h.box.cells
  have H := Lib.hid (tnone_no B G N cap w x2)
  clear h x2
  go_enter Tryz.func15, Tryz.ntmps15
  go_wp2_with fail
  go_fit H.out
  rintro e w1 ⟨rfl, rfl⟩
  go_wp2_with fail
  go_ret
  exact ⟨rfl, rfl⟩
/-- The zero frame is told of none. -/
theorem zero_box (w : World) : Below w.heap.size w (w.alloc (.cells #[.int .i64 0, .int .i64 0, .slice none 0 0, .int .i64 0, .int .i64 0] 35)) := (Below.refl _ _).alloc (Nat.le_refl _) _
set_option maxRecDepth 20000 in
set_option maxHeartbeats 4000000 in
theorem tframe_nil (w : World) : Calls Tryz.prog 14 #[.pointer none] w fun e w' => e = .returned (.agg #[.int .i64 0, .int .i64 0, .slice none 0 0, .int .i64 0, .int .i64 0]) ∧ Below w.heap.size w w' := by
  have H := Lib.hid (fun w => tnone_nil w)
  go_enter Tryz.func14, Tryz.ntmps14
  go_wp2_with fail
  go_fit (H.out _)
  rintro e w1 ⟨rfl, rfl⟩
  go_wp2_with fail
  exact bodyPost_ret (v := .agg #[.int .i64 0, .int .i64 0, .slice none 0 0, .int .i64 0, .int .i64 0]) (by simp [results, Tryz.results14, go_sem]) rfl ⟨rfl, zero_box _⟩
set_option maxRecDepth 20000 in
set_option maxHeartbeats 4000000 in
theorem tframe_zero (B : Nat) (w : World) (h : w.cell? ⟨B, 2, none⟩ = some (.slice none 0 0)) : Calls Tryz.prog 14 #[.pointer (some ⟨B, 0, none⟩)] w fun e w' => e = .returned (.agg #[.int .i64 0, .int .i64 0, .slice none 0 0, .int .i64 0, .int .i64 0]) ∧ Below w.heap.size w w' := by
  have H := Lib.hid (fun w h => tnone_zero B w h)
  have HC : Hid ((w.alloc (.cells #[.int .i64 0, .int .i64 0, .slice none 0 0, .int .i64 0, .int .i64 0] 35)).cell? ⟨B, 2, none⟩ = some (.slice none 0 0)) := by
    show _ = _
    rw [(zero_box w).cell (p := ⟨B, 2, none⟩) (rlt (p := ⟨B, 2, none⟩) h)]
    exact h
  have HB := Lib.hid (zero_box w)
  go_enter Tryz.func14, Tryz.ntmps14
  go_wp2_with fail
  go_fit (H.out _ HC.out)
  rintro e w1 ⟨rfl, rfl⟩
  go_wp2_with fail
  exact bodyPost_ret (v := .agg #[.int .i64 0, .int .i64 0, .slice none 0 0, .int .i64 0, .int .i64 0]) (by simp [results, Tryz.results14, go_sem]) rfl ⟨rfl, HB.out⟩
set_option maxRecDepth 20000 in
set_option maxHeartbeats 4000000 in
theorem tframe_any {m n : Nat} (w : World) (h : TmS w0 w B G N cap t) (hok : OkF t.f m n) : Calls Tryz.prog 14 #[.pointer (some ⟨B, 0, none⟩)] w fun e w' => ∃ v', e = .returned v' ∧ FrameW AnyB w' v' t.f ∧ Below w.heap.size w w' := by
  have hN : t.f.cells.length = N := h.len
  have hroom : N ≤ 20000 := by rw [← hN]; exact hok.room
  have hpos : 0 < N := by rw [← hN, hok.len]; exact Nat.mul_pos (by have := hok.hm; omega) (by have := hok.hn; omega)
  have HS := Lib.hid h
  have HB := Lib.hid (zero_box w)
  have H := Lib.hid (fun w h => tnone_no B G N cap w h)
  have HC : Hid (∀ W, Below w.heap.size w W → Calls Tryz.prog 36 #[.slice (some ⟨G, 0, none⟩) N cap] W fun e w' => ∃ g' c', e = .returned (.slice (some ⟨g', 0, none⟩) N c') ∧ N ≤ c' ∧ NewL W w' g' t.f.cells ∧ Below W.heap.size W w') := fun W hW => clone_any G 0 cap N W (h.next hW).cels hN hpos (by omega)
  obtain ⟨W1, hW1⟩ : ∃ W1, w.alloc (.cells #[.int .i64 0, .int .i64 0, .slice none 0 0, .int .i64 0, .int .i64 0] 35) = W1 := ⟨_, rfl⟩
  have hb1 : Below w.heap.size w W1 := by rw [← hW1]; exact HB.out
  have hf1 : frB W1 w.heap.size 0 0 (.slice none 0 0) 0 0 := by rw [← hW1]; exact frB.new w
  have HL : Hid (t.f.cells.length = N) := hN
  obtain ⟨⟨x0, x1, x2, x3, x4⟩, _⟩ := (h.next hb1).box.cells
  obtain ⟨⟨z0, z1, z2, z3, z4⟩, y0, y1, y2, y3, y4⟩ := hf1.cells
  have hlt := hf1.lt
  have HF := Lib.hid (hf1.all (r' := t.f.rows) (c' := t.f.cols) (v' := .slice (some ⟨G, 0, none⟩) N cap) (a' := t.f.row) (b' := t.f.col))
  have HK := Lib.hid (set5_keep (ok := fun k => k ≠ w.heap.size) W1 w.heap.size t.f.rows t.f.cols (.slice (some ⟨G, 0, none⟩) N cap) t.f.row t.f.col (fun k => k rfl))
  have HB1 := Lib.hid hb1
  unfold set5 at HF HK
  clear h hok hN HB hb1 hf1
  go_enter Tryz.func14, Tryz.ntmps14
  go_wp2_with fail
  try rw [hW1]
  go_fit (H.out _ x2)
  rintro e w2 ⟨rfl, rfl⟩
  go_wp2_with fail
  obtain ⟨W3, hW3⟩ : ∃ W3, ((((w2.setCell ⟨w.heap.size, 0, none⟩ (.int .i64 t.f.rows)).setCell ⟨w.heap.size, 1, none⟩ (.int .i64 t.f.cols)).setCell ⟨w.heap.size, 2, none⟩ (.slice (some ⟨G, 0, none⟩) N cap)).setCell ⟨w.heap.size, 3, none⟩ (.int .i64 t.f.row)).setCell ⟨w.heap.size, 4, none⟩ (.int .i64 t.f.col) = W3 := ⟨_, rfl⟩
  rw [hW3] at HF HK ⊢
  have hb3 : Below w.heap.size w W3 := KeepW.below HB1.out HK.out HB1.out.size fun k hk => by omega
  clear x0 x1 x2 x3 x4 z0 z1 z2 z3 z4 y0 y1 y2 y3 y4 hlt hW3 hW1
  go_fit (HC.out _ hb3)
  rintro e w4 ⟨g', c', rfl, hc, ⟨zs, hg, hz⟩, hb4⟩
  have hf4 := HF.out.below hb4 HF.out.lt
  have hb04 := hb3.trans (hb4.mono hb3.size)
  have hlt := hf4.lt
  have hne : g' ≠ w.heap.size := by have := HF.out.lt; omega
  have hf5 := hf4.set2 (.slice (some ⟨g', 0, none⟩) N c')
  have k5 := keep_set (ok := fun k => k ≠ w.heap.size) w.heap.size 2 none (.slice (some ⟨g', 0, none⟩) N c') w4 (fun k => k rfl)
  obtain ⟨W5, hW5⟩ : ∃ W5, w4.setCell ⟨w.heap.size, 2, none⟩ (.slice (some ⟨g', 0, none⟩) N c') = W5 := ⟨_, rfl⟩
  rw [hW5] at hf5 k5
  have hf6 := hf5.all (r' := t.f.rows) (c' := t.f.cols) (v' := .slice (some ⟨g', 0, none⟩) N c') (a' := t.f.row) (b' := t.f.col)
  have k6 := k5.trans (set5_keep (ok := fun k => k ≠ w.heap.size) W5 w.heap.size t.f.rows t.f.cols (.slice (some ⟨g', 0, none⟩) N c') t.f.row t.f.col (fun k => k rfl))
  have hz6 := hz.keep k6 hne
  have HFr : Hid (FrameW AnyB (set5 W5 w.heap.size t.f.rows t.f.cols (.slice (some ⟨g', 0, none⟩) N c') t.f.row t.f.col) (.agg #[.int .i64 t.f.rows, .int .i64 t.f.cols, .slice (some ⟨g', 0, none⟩) N c', .int .i64 t.f.row, .int .i64 t.f.col]) t.f) := ⟨_, N, c', rfl, HL.out.symm, hc, hz6.slice trivial HL.out hc⟩
  have HB6 : Hid (Below w.heap.size w (set5 W5 w.heap.size t.f.rows t.f.cols (.slice (some ⟨g', 0, none⟩) N c') t.f.row t.f.col)) := KeepW.below hb04 k6 hb04.size fun k hk => by omega
  have HF6 := Lib.hid hf6
  obtain ⟨⟨z0, z1, z2, z3, z4⟩, y0, y1, y2, y3, y4⟩ := hf4.cells
  obtain ⟨⟨v0, v1, v2, v3, v4⟩, q0, q1, q2, q3, q4⟩ := hf5.cells
  have hlt5 := hf5.lt
  clear hf4 hf5 hf6 hz6 k5 k6 hb04 hb3 hb4 hz HC HF HK
  go_wp2_with fail
  try rw [hW5]
  obtain ⟨⟨t0, t1, t2, t3, t4⟩, _⟩ := HF6.out.cells
  unfold set5 at t0 t1 t2 t3 t4
  exact bodyPost_ret (v := .agg #[.int .i64 t.f.rows, .int .i64 t.f.cols, .slice (some ⟨g', 0, none⟩) N c', .int .i64 t.f.row, .int .i64 t.f.col]) (by simp [results, Tryz.results14, go_sem, t0, t1, t2, t3, t4]) rfl ⟨_, rfl, HFr.out, HB6.out⟩
end
end Go.Proofs.YtpkjaallhhjleaaGreatDoor

/-
  Plain facts: the chapter's terminal: what its five texts show. Nothing of the program is run here.
-/
namespace Go.Proofs.YtpkjaallhhjleaaGreatDoor
open Go.RowKit

def exT (L : List UInt8) : Frm := (writeT (newT 2 8) L).f
def spB (n : Nat) : ByteArray := ⟨(List.replicate n (32 : UInt8)).toArray⟩
theorem exT_1 : rowsF (exT [49, 50, 51, 52, 53, 54, 55, 56]) = [⟨#[49, 50, 51, 52, 53, 54, 55, 56]⟩, ⟨#[32, 32, 32, 32, 32, 32, 32, 32]⟩] ∧ (exT [49, 50, 51, 52, 53, 54, 55, 56]).row = 0 ∧ (exT [49, 50, 51, 52, 53, 54, 55, 56]).col = 7 := by decide +kernel
theorem exT_2 : rowsF (exT [49, 50, 51, 52, 53, 54, 55, 56, 57]) = [⟨#[49, 50, 51, 52, 53, 54, 55, 56]⟩, ⟨#[57, 32, 32, 32, 32, 32, 32, 32]⟩] ∧ (exT [49, 50, 51, 52, 53, 54, 55, 56, 57]).row = 1 ∧ (exT [49, 50, 51, 52, 53, 54, 55, 56, 57]).col = 1 := by decide +kernel
theorem exT_3 : rowsF (exT [97, 98, 27, 91, 49, 59, 49, 72, 120]) = [⟨#[120, 98, 32, 32, 32, 32, 32, 32]⟩, ⟨#[32, 32, 32, 32, 32, 32, 32, 32]⟩] ∧ (exT [97, 98, 27, 91, 49, 59, 49, 72, 120]).row = 0 ∧ (exT [97, 98, 27, 91, 49, 59, 49, 72, 120]).col = 1 := by decide +kernel
theorem exT_4 : rowsF (exT [49, 50, 51, 52, 53, 54, 55, 230, 151, 165]) = [⟨#[49, 50, 51, 52, 53, 54, 55, 32]⟩, ⟨#[230, 151, 165, 32, 32, 32, 32, 32, 32]⟩] ∧ (exT [49, 50, 51, 52, 53, 54, 55, 230, 151, 165]).row = 1 ∧ (exT [49, 50, 51, 52, 53, 54, 55, 230, 151, 165]).col = 2 := by decide +kernel
theorem exT_5 : rowsF (exT [97, 10, 10, 10]) = [⟨#[32, 32, 32, 32, 32, 32, 32, 32]⟩, ⟨#[32, 32, 32, 32, 32, 32, 32, 32]⟩] ∧ (exT [97, 10, 10, 10]).row = 1 ∧ (exT [97, 10, 10, 10]).col = 1 := by decide +kernel
end Go.Proofs.YtpkjaallhhjleaaGreatDoor

/-
  A region that draws its order, in a round of a loop over a function: what is owed of it is what is owed of it anywhere. No call of the program is walked here.
-/
namespace Go.Proofs.YtpkjaallhhjleaaGreatDoor
open Go.RowKit

theorem upon_round {P : Program} {o : Oper} {a : Act} {K : Act → World → Prop} {Q : Exit → Act → World → Prop} (l n : Nat) {r : Result Next} (h : o.upon P a K Q r) : o.uponIn (Fence.wide.inRound l) n P a K Q r := by
  cases r with
  | ok x w' =>
    cases x with
    | value v => exact h
    | skip => exact h
    | defer d => exact h
    | enter f args => exact ⟨fun h => (by cases h), CallsIn.inRound l ((callsIn_wide.2 h).mono fun e w'' he => by cases e <;> exact he)⟩
    | row row args =>
      refine ⟨fun h => (by cases h), fun c cs _ => ?_⟩
      obtain ⟨v, w', hr, hs⟩ := h c cs
      exact ⟨v, w', hr, stepsIn_wide.2 hs⟩
    | _ => exact h.elim
  | halt x w' => cases x <;> first | exact h | exact h.elim
theorem wp_round {P : Program} {o : Oper} {a : Act} {w : World} {K : Act → World → Prop} {Q : Exit → Act → World → Prop} (l n : Nat) (hd : ∀ c, o.op ≠ .defer c) (h : o.wp P a w K Q) : o.wpIn (Fence.wide.inRound l) n P a w K Q := by
  refine ⟨fun _ _ => trivial, ?_⟩
  rw [Oper.semAt_plain _ _ _ hd]
  exact upon_round l n h
theorem wpOps_round {P : Program} {ops : Array Oper} {Q : Exit → Act → World → Prop} (l n : Nat) (hL : ¬ LetsOut Q) (hd : ∀ (i : Nat) (o : Oper), ops[i]? = some o → ∀ c, o.op ≠ .defer c) :
    ∀ (is : List Nat) (a : Act) (w : World), wpOps P ops Q is a w → wpOpsIn (Fence.wide.inRound l) n P ops Q is a w
  | [], a, w, h => h
  | i :: rest, a, w, h => by
    simp only [wpOps, wpOpsIn] at h ⊢
    cases ho : ops[i]? with
    | none =>
      simp only [ho] at h ⊢
      exact wpOps_round l n hL hd rest a w h
    | some o =>
      simp only [ho] at h ⊢
      split
      · rename_i hw
        simp only [hw, if_true] at h
        exact wp_round l n (hd i o ho) (Oper.wp_mono (fun a w => wpOps_round l n hL hd rest a w) (h.resolve_right fun k => hL k.2))
      · rename_i hw
        simp only [hw, if_false, Bool.false_eq_true] at h
        exact ⟨fun _ _ => trivial, wpOps_round l n hL hd rest _ w h⟩
theorem wpRound_any {P : Program} {id : Nat} {ops : Array Oper} {Q : Exit → Act → World → Prop} {a : Act} {w : World} {l n : Nat} (hm : P.follows .mixedOrders = true) (hL : ¬ LetsOut Q) (hd : ∀ (i : Nat) (o : Oper), ops[i]? = some o → ∀ c, o.op ≠ .defer c)
    (h : wpAny P .any ops Q ops.size (Array.replicate ops.size false) a w.drew) : (Code.region id ops true).wpIn (Fence.wide.inRound l) n P Q a w :=
  wpIn_region_draw fun t => by
    simp only [Region.schedule, hm, Bool.true_or, if_true]
    exact wpOps_round l n hL hd _ _ _ (wpAny_sound ops.size t _ a _ h)
end Go.Proofs.YtpkjaallhhjleaaGreatDoor
