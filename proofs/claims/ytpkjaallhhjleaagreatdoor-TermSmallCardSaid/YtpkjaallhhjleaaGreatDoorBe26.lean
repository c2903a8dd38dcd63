/-
  Texts of this proof, one behind the other; each begins with its own remark.
-/
import Derived.Deep.DeepFit
import Derived.Test.YtpkjaallhhjleaaGreatDoorBe24
import Derived.Test.YtpkjaallhhjleaaGreatDoorBe25
import Derived.Test.YtpkjaallhhjleaaGreatDoorBe14
import Derived.Test.YtpkjaallhhjleaaGreatDoorBe12
import Derived.Test.YtpkjaallhhjleaaGreatDoorBe13
import Derived.Test.YtpkjaallhhjleaaGreatDoorBe16
/-
  grids.front and ofRunes: what each returns: for every row.
-/
namespace Go.Proofs.YtpkjaallhhjleaaGreatDoor
open Go.RowKit

theorem CelsW.any {ok : Nat → Prop} {w : World} {v : Value} {l : List Cel} (h : CelsW ok w v l) : CelsW AnyB w v l := by
  obtain ⟨ao, cap, hv, hn, _, hc⟩ := h
  exact ⟨ao, cap, hv, hn, fun _ _ => trivial, hc⟩
theorem CelsW.ptr {ok : Nat → Prop} {w : World} {ao : Option Addr} {n cap i : Nat} {l : List Cel} {c : Cel} (h : CelsW ok w (.slice ao n cap) l) (hc : l[i]? = some c) : ∃ g o, ao = some ⟨g, o, none⟩ ∧ ∀ i c, l[i]? = some c → cell6 w g (o + i * 6) c := by
  obtain ⟨g, o, cap', he, _, _, H⟩ := h.at_ hc
  injection he with e1 e2 e3
  exact ⟨g, o, e1, H⟩
theorem gfront_any {ok : Nat → Prop} {g o n cap : Nat} {c : Cel} {t : List Cel} (w : World) (hS : CelsW ok w (.slice (some ⟨g, o, none⟩) n cap) (c :: t)) (hn : n = (c :: t).length) (hL : LaidW w) :
    Calls Tryz.prog 75 #[.slice (some ⟨g, o, none⟩) n cap] w fun e w' => e = .returned (.int .i64 (frontN (c :: t) : Int)) ∧ Below w.heap.size w w' := by
  have h0 : 0 < n := by rw [hn]; simp
  by_cases hb : c = blkC
  · exact front_blank w hS h0 hL hb
  by_cases hw : c.2.1 = (ofN c.1 : Int)
  · cases hy : styB c.2.2 with
    | false => exact front_style w hS h0 hL hb hw hy
    | true =>
      by_cases h2 : c.2.1 = 2
      · cases t with
        | nil => exact front_end w hS hn hL hb hw hy h2
        | cons d t => exact front_wide w hS (by rw [hn]; simp) hL hb hw hy h2
      · exact front_thin w hS h0 hL hb hw hy h2
  · exact front_width w hS h0 hL hb hw

def lenV : Value → Nat
  | .slice _ k _ => k
  | _ => 0
theorem RowV.nil_any (w : World) (ao : Option Addr) (cap : Nat) : RowV AnyB w (.slice ao 0 cap) 0 [] := ⟨ao, cap, rfl, Nat.zero_le _, fun _ _ => trivial, fun j u h => by simp at h⟩

set_option maxHeartbeats 4000000 in
theorem ofRunes_any {ok : Nat → Prop} {ao : Option Addr} {n cap : Nat} (l : List Cel) (w : World) (hS : CelsW ok w (.slice ao n cap) l) (hn : n = l.length) (hl : n ≤ 1000000) (hL : LaidW w) :
    Calls Tryz.prog 43 #[.slice ao n cap] w fun e w' => e = .returned (.bool (rowB l)) ∧ Below w.heap.size w w' := by
  have H0 : Hid (l.length = n) := hn.symm
  have H1 : Hid (CelsW AnyB w (.slice ao n cap) l) := hS.any
  have hcap : n ≤ cap := by
    obtain ⟨_, _, he, hc, _⟩ := hS
    cases he; rw [hn]; exact hc
  obtain ⟨B, hB⟩ : ∃ B, rowB l = B := ⟨_, rfl⟩
  have H2 : Hid (rowB l = B) := hB
  rw [hB]
  clear hS hn hB
  go_enter Tryz.func43, Tryz.ntmps43
  go_wp2
  go_loopw [0, 3] (fun s0 _ wr => ∃ (m : List Cel) (ao : Option Addr) (k cap : Nat), s0 = .slice ao k cap ∧ Hid (m.length = k) ∧ Hid (CelsW AnyB w (.slice ao k cap) m) ∧ Hid (rowB m = B) ∧ k ≤ 1000000 ∧ k ≤ cap ∧ Below w.heap.size w wr) (fun s0 _ _ => lenV s0)
  case atStart => exact ⟨l, ao, n, cap, rfl, H0, H1, H2, hl, hcap, Below.refl _ _⟩
  case round =>
    obtain ⟨m, ao, k, cap, rfl, HM, HS, HR, hk, hkc, hbw⟩ := hrel
    clear H0 H1 H2
    by_cases h0 : 0 < k
    · obtain ⟨c, t, rfl⟩ : ∃ c t, m = c :: t := by
        cases m with
        | nil => have := HM.out; simp at this; omega
        | cons c t => exact ⟨c, t, rfl⟩
      obtain ⟨g, o, hao⟩ : ∃ g o, ao = some ⟨g, o, none⟩ := by
        obtain ⟨g, o, _, he, _⟩ := HS.out.at_ (i := 0) (c := c) rfl
        cases he; exact ⟨g, o, rfl⟩
      subst hao
      have HF := Lib.hid (gfront_any wr (HS.out.below hbw) HM.out.symm (hL.below hbw))
      have hz := front_zero c t
      have hs := front_some c t
      obtain ⟨F, hF⟩ : ∃ F, frontN (c :: t) = F := ⟨_, rfl⟩
      rw [hF] at HF hz hs
      have hs := hs F rfl
      rw [HM.out, HR.out] at hs
      rw [HR.out] at hz
      clear hF
      have i0 : (0 : Int) < (k : Int) := by omega
      by_cases hf : F = 0
      · subst hf
        have HB : Hid (B = false) := hz rfl
        clear hz hs
        go_wp2_with fail
        go_fit (HF.out)
        rintro e w2 ⟨rfl, hb2⟩
        go_wp2
        go_ret
        exact ⟨by rw [HB.out]; rfl, hbw.trans (hb2.mono hbw.size)⟩
      · obtain ⟨f1, f2, f3⟩ := hs hf
        have HD : Hid (((c :: t).drop F).length = k - F) := by show _ = _; rw [List.length_drop, HM.out]
        have HB : Hid (rowB ((c :: t).drop F) = B) := f3.symm
        have HC : Hid (∀ c2, k - F ≤ c2 → CelsW AnyB w (.slice (some ⟨g, o + F * 6, none⟩) (k - F) c2) ((c :: t).drop F)) := fun c2 h2 => by
          have h := HS.out
          unfold CelsW at h ⊢
          rw [HM.out] at h
          rw [show ((c :: t).drop F).length = k - F from HD.out]
          have := RowV.drop (i := F) (c2 := c2) 6 h h2
          rwa [celC_drop] at this
        have j1 : (F : Int) ≤ (k : Int) := by omega
        have j2 : ¬ (F : Int) = 0 := by omega
        have j3 : (F : Int) ≤ (cap : Int) := by omega
        have j4 : (0 : Int) ≤ (F : Int) := by omega
        clear hz hs f3
        by_cases hcF : cap = F
        · subst hcF
          have hkF : k = cap := by omega
          subst hkF
          have HN : Hid ((c :: t).drop k = []) := by show _ = _; exact List.drop_of_length_le (by rw [HM.out]; exact Nat.le_refl _)
          go_wp2_with fail
          go_fit (HF.out)
          rintro e w2 ⟨rfl, hb2⟩
          have hb3 := hbw.trans (hb2.mono hbw.size)
          clear hb2
          go_wp2
          go_roundw
          case rel => 
            refine ⟨[], some ⟨g, o, none⟩, 0, 0, by simp, rfl, RowV.nil_any _ _ _, ?_, Nat.zero_le _, Nat.zero_le _, hb3⟩
            show _ = _
            rw [← HB.out, HN.out]
          case measure => simp [lenV]; omega
        · have j5 : (F : Int) < (cap : Int) := by omega
          go_wp2_with fail
          go_fit (HF.out)
          rintro e w2 ⟨rfl, hb2⟩
          have hb3 := hbw.trans (hb2.mono hbw.size)
          clear hb2
          go_wp2
          go_roundw
          case rel => exact ⟨(c :: t).drop F, _, k - F, cap - F, rfl, HD, HC.out _ (by omega), HB, by omega, by omega, hb3⟩
          case measure => simp [lenV]; omega
    · have HB : Hid (B = true) := by
        show _ = _
        rw [← HR.out, List.eq_nil_of_length_eq_zero (show m.length = 0 by rw [HM.out]; omega)]
        rfl
      obtain rfl : k = 0 := by omega
      go_wp2
      go_ret
      exact ⟨by rw [HB.out]; rfl, hbw⟩
end Go.Proofs.YtpkjaallhhjleaaGreatDoor

/-
  limnerref06.Valid: what it returns: for every frame.
-/
namespace Go.Proofs.YtpkjaallhhjleaaGreatDoor
open Go.RowKit

section
variable {ok : Nat → Prop} {ao : Option Addr} {N cap : Nat}
set_option maxRecDepth 100000 in
set_option maxHeartbeats 1000000 in
/-- What stands ahead of the cells refuses it. -/
theorem rvalid_size (f : Frm) (w : World) (h : sizedB f.rows f.cols = false) :
    Calls Tryz.prog 101 #[.agg #[.int .i64 f.rows, .int .i64 f.cols, .slice ao N cap, .int .i64 f.row, .int .i64 f.col]] w fun e w' => e = .returned (.bool false) ∧ Below w.heap.size w w' := by
  have H := Lib.hid (fun w => may_any f.rows f.cols w)
  rw [h] at H
  clear h
  go_enter Tryz.func101, Tryz.ntmps101
  go_wp2_with fail
  go_fit (H.out _)
  rintro e w2 ⟨rfl, rfl⟩
  go_wp2
  go_ret
  exact ⟨rfl, (Below.refl _ w).alloc (Nat.le_refl _) _⟩
set_option maxRecDepth 100000 in
set_option maxHeartbeats 1000000 in
theorem rvalid_len (f : Frm) (w : World) (P : Int) (h : sizedB f.rows f.cols = true) (hP : f.rows * f.cols = P) (r1 : 0 ≤ P) (r2 : P ≤ 20000) (h2 : (N : Int) ≠ P) :
    Calls Tryz.prog 101 #[.agg #[.int .i64 f.rows, .int .i64 f.cols, .slice ao N cap, .int .i64 f.row, .int .i64 f.col]] w fun e w' => e = .returned (.bool false) ∧ Below w.heap.size w w' := by
  have H := Lib.hid (fun w => may_any f.rows f.cols w)
  rw [h] at H
  have b2 : ((N : Int) != P) = true := by simpa using h2
  clear h h2
  go_enter Tryz.func101, Tryz.ntmps101
  go_wp2_with fail
  go_fit (H.out _)
  rintro e w2 ⟨rfl, rfl⟩
  go_wp2
  go_ret
  exact ⟨rfl, (Below.refl _ w).alloc (Nat.le_refl _) _⟩
set_option maxRecDepth 100000 in
set_option maxHeartbeats 1000000 in
theorem rvalid_cursor (f : Frm) (w : World) (P : Int) (h : sizedB f.rows f.cols = true) (hP : f.rows * f.cols = P) (r1 : 0 ≤ P) (r2 : P ≤ 20000) (h2 : (N : Int) = P) (h3 : withinB f.rows f.cols f.row f.col = false) :
    Calls Tryz.prog 101 #[.agg #[.int .i64 f.rows, .int .i64 f.cols, .slice ao N cap, .int .i64 f.row, .int .i64 f.col]] w fun e w' => e = .returned (.bool false) ∧ Below w.heap.size w w' := by
  have H := Lib.hid (fun w => may_any f.rows f.cols w)
  rw [h] at H
  have b2 : ((N : Int) != P) = false := by simpa using h2
  have hc : f.row < 0 ∨ (0 ≤ f.row ∧ f.rows ≤ f.row) ∨ (0 ≤ f.row ∧ f.row < f.rows ∧ f.col < 0) ∨ (0 ≤ f.row ∧ f.row < f.rows ∧ 0 ≤ f.col ∧ f.cols ≤ f.col) := by
    have hno : ¬ (0 ≤ f.row ∧ f.row < f.rows ∧ 0 ≤ f.col ∧ f.col < f.cols) := fun k => Bool.eq_false_iff.1 h3 ((withinB_iff _ _ _ _).2 k)
    omega
  clear h h2 h3
  rcases hc with k1 | ⟨k1, k2⟩ | ⟨k1, k2, k3⟩ | ⟨k1, k2, k3, k4⟩
  all_goals
    go_enter Tryz.func101, Tryz.ntmps101
    go_wp2_with fail
    go_fit (H.out _)
    rintro e w2 ⟨rfl, rfl⟩
    go_wp2
    go_ret
    exact ⟨rfl, (Below.refl _ w).alloc (Nat.le_refl _) _⟩
end
end Go.Proofs.YtpkjaallhhjleaaGreatDoor

/-
  limnerref06.Valid: what it returns where the size, the number of cells and the cursor are as they should be: cell by cell.
-/
namespace Go.Proofs.YtpkjaallhhjleaaGreatDoor
open Go.RowKit

set_option maxRecDepth 100000 in
set_option maxHeartbeats 8000000 in
theorem rvalid_cells {ok : Nat → Prop} {g o N cap : Nat} (f : Frm) (m n : Nat) (w : World) (hr : f.rows = (m : Int)) (hc : f.cols = (n : Int)) (hm : 2 ≤ m ∧ m ≤ 100) (hn : 8 ≤ n ∧ n ≤ 200) (hN : N = m * n) (hS : CelsW ok w (.slice (some ⟨g, o, none⟩) N cap) f.cells) (hlen : f.cells.length = N) (h3 : withinB f.rows f.cols f.row f.col = true) (B : Bool) (hB : B = true ↔ ∀ i c, f.cells[i]? = some c → okA n f.cells i c) :
    Calls Tryz.prog 101 #[.agg #[.int .i64 f.rows, .int .i64 f.cols, .slice (some ⟨g, o, none⟩) N cap, .int .i64 f.row, .int .i64 f.col]] w fun e w' => e = .returned (.bool B) ∧ Below w.heap.size w w' := by
  rw [hr, hc] at h3 ⊢
  have H := Lib.hid (fun w => may_any (m : Int) (n : Int) w)
  rw [(sizedB_iff _ _).2 (by omega)] at H
  have HSt := Lib.hid (fun s w => style_any s w)
  have HOf := Lib.hid (fun r w => refOf_any r w)
  have hmul : (m : Int) * (n : Int) = (N : Int) := by rw [hN, Int.natCast_mul]
  have hle : N ≤ 20000 := by rw [hN]; exact Nat.mul_le_mul hm.2 hn.2
  obtain ⟨k1, k2, k3, k4⟩ := (withinB_iff _ _ _ _).1 h3
  have i1 : (m : Int) ≤ 100 := by omega
  have i2 : (n : Int) ≤ 200 := by omega
  have i3 : (0 : Int) ≤ (m : Int) := by omega
  have i4 : (0 : Int) < (n : Int) := by omega
  have i5 : (N : Int) ≤ 20000 := by omega
  have hf0 := (frB.new (r := (m : Int)) (c := (n : Int)) (v := .slice (some ⟨g, o, none⟩) N cap) (a := f.row) (b := f.col) w)
  have H0 : Hid (Below (w.heap.size + 1) (w.alloc (.cells #[.int .i64 (m : Int), .int .i64 (n : Int), .slice (some ⟨g, o, none⟩) N cap, .int .i64 f.row, .int .i64 f.col] 35)) (w.alloc (.cells #[.int .i64 (m : Int), .int .i64 (n : Int), .slice (some ⟨g, o, none⟩) N cap, .int .i64 f.row, .int .i64 f.col] 35))) := Below.refl _ _
  have HX : Hid (∀ W, Below (w.heap.size + 1) (w.alloc (.cells #[.int .i64 (m : Int), .int .i64 (n : Int), .slice (some ⟨g, o, none⟩) N cap, .int .i64 f.row, .int .i64 f.col] 35)) W →
      Below w.heap.size w W ∧ frB W w.heap.size (m : Int) (n : Int) (.slice (some ⟨g, o, none⟩) N cap) f.row f.col ∧ ∀ j d, f.cells[j]? = some d → cell6 W g (o + j * 6) d) := fun W hW => by
    have hb : Below w.heap.size w W := ((Below.refl _ w).alloc (Nat.le_refl _) _).trans (hW.mono (by omega))
    exact ⟨hb, hf0.below hW (by omega), fun j d hd => by have h6 := hS.get hd; exact h6.below hb h6.lt⟩
  have HB := Lib.hid hB
  have HLn := Lib.hid hlen
  have HNm := Lib.hid hN
  have hn8 := hn.1
  obtain ⟨L, hL⟩ : ∃ L, f.cells = L := ⟨_, rfl⟩
  rw [hL] at HX HB HLn
  obtain ⟨fr, hfr⟩ : ∃ fr, f.row = fr := ⟨_, rfl⟩
  obtain ⟨fc, hfc⟩ : ∃ fc, f.col = fc := ⟨_, rfl⟩
  rw [hfr, hfc] at HX H0
  rw [hfr] at k1 k2
  rw [hfc] at k3 k4
  rw [hfr, hfc]
  clear hS hN hlen hf0 h3 hB hL hr hc hfr hfc hm hn
  go_enter Tryz.func101, Tryz.ntmps101
  go_wp2_with fail
  go_fit (H.out _)
  rintro e w2 ⟨rfl, rfl⟩
  go_wp2
  go_loopw [3] (fun s3 wr => ∃ i : Nat, s3 = .int .i64 (i : Int) ∧ i ≤ N ∧ Hid (∀ j c, j < i → L[j]? = some c → okA n L j c) ∧ Hid (Below (w.heap.size + 1) (w.alloc (.cells #[.int .i64 (m : Int), .int .i64 (n : Int), .slice (some ⟨g, o, none⟩) N cap, .int .i64 fr, .int .i64 fc] 35)) wr)) (fun s3 _ => N - (intOf s3).toNat)
  case atStart => exact ⟨0, rfl, Nat.zero_le _, (fun j c hj => by omega), H0⟩
  case round =>
    obtain ⟨i, rfl, hi, HU, HBW⟩ := hrel
    clear H0
    obtain ⟨hbw, hfr, hcel⟩ := HX.out wr HBW.out
    obtain ⟨⟨x0, x1, x2, x3, x4⟩, _⟩ := hfr.cells
    by_cases hin : i < N
    · obtain ⟨c, hc⟩ : ∃ c, L[i]? = some c := ⟨_, List.getElem?_eq_getElem (by rw [HLn.out]; exact hin)⟩
      obtain ⟨c0, c1, c2, c3, c4, c5⟩ := hcel i c hc
      have HY : Hid (∀ W, Below (wr.alloc (.cells #[.int .i32 c.1, .int .i64 c.2.1, .int .i64 c.2.2.1, .bool c.2.2.2.1, .bool c.2.2.2.2.1, .bool c.2.2.2.2.2] 82)).heap.size (wr.alloc (.cells #[.int .i32 c.1, .int .i64 c.2.1, .int .i64 c.2.2.1, .bool c.2.2.2.1, .bool c.2.2.2.2.1, .bool c.2.2.2.2.2] 82)) W →
          cell6 W wr.heap.size 0 c ∧ frB W w.heap.size (m : Int) (n : Int) (.slice (some ⟨g, o, none⟩) N cap) fr fc ∧ (∀ j d, L[j]? = some d → cell6 W g (o + j * 6) d) ∧ Below w.heap.size w W ∧ Below (w.heap.size + 1) (w.alloc (.cells #[.int .i64 (m : Int), .int .i64 (n : Int), .slice (some ⟨g, o, none⟩) N cap, .int .i64 fr, .int .i64 fc] 35)) W) := fun W hW => by
        rw [World.size_alloc] at hW
        have hb := box6 hW
        have h2 := HBW.out.trans (hb.2.mono (by have := HBW.out.size; rw [World.size_alloc] at this; exact this))
        obtain ⟨q1, q2, q3⟩ := HX.out W h2
        exact ⟨hb.1, q2, q3, q1, h2⟩
      have HNO : Hid (¬ okA n L i c → B = false) := fun hno => Bool.eq_false_iff.2 fun k => hno (HB.out.1 k i c hc)
      have HYES : Hid (okA n L i c → ∀ j d, j < i + 1 → L[j]? = some d → okA n L j d) := fun hy j d hj hd => by
        by_cases e : j = i
        · subst e; rw [hc] at hd; cases hd; exact hy
        · exact HU.out j d (by omega) hd
      have HOK : Hid (okA n L i c ↔ okA n L i c) := Iff.rfl
      have HC := Lib.hid hc
      obtain ⟨q, hq⟩ : ∃ q, i % n = q := ⟨_, rfl⟩
      have hq1 : (i : Int) % (n : Int) = (q : Int) := by rw [← hq]; exact (Int.natCast_emod i n).symm
      have hq2 : (i : Int).tmod (n : Int) = (q : Int) := by rw [Int.tmod_eq_emod_of_nonneg (by omega)]; exact hq1
      obtain ⟨n1, hn1⟩ : ∃ n1, n - 1 = n1 := ⟨_, rfl⟩
      have hn2 : (n : Int) - 1 = (n1 : Int) := by omega
      have hn3 : IntKind.i64.wrap ((n : Int) - 1) = (n1 : Int) := by rw [IntWalk.i64_in _ (by omega)]; exact hn2
      have i6 : (i : Int) < (N : Int) := by omega
      have i7 : (0 : Int) ≤ (i : Int) := by omega
      have n0 : ((n : Int) == 0) = false := by rw [beq_eq_false_iff_ne]; omega
      have n00 : ¬ n = 0 := by omega
      have hlw : w.heap.size < wr.heap.size := hfr.lt
      have hlg : g < wr.heap.size := (hcel i c hc).lt
      have HQ := Lib.hid hq
      have HN1 := Lib.hid hn1
      obtain ⟨bf, hbf⟩ : ∃ bf, ((q : Int) == 0) = bf := ⟨_, rfl⟩
      obtain ⟨bl, hbl⟩ : ∃ bl, ((q : Int) == (n1 : Int)) = bl := ⟨_, rfl⟩
      have hbf2 : decide ((q : Int) = 0) = bf := by rw [← hbf]; rfl
      have hbl2 : decide ((q : Int) = (n1 : Int)) = bl := by rw [← hbl]; rfl
      have HBF : Hid (bf = true ↔ i % n = 0) := by
        show _ ↔ _
        rw [← hbf, beq_iff_eq, hq]; omega
      have HBL : Hid (bl = true ↔ i % n = n - 1) := by
        show _ ↔ _
        rw [← hbl, beq_iff_eq, hq, hn1]; omega
      have HI : Hid (N - (i + 1) < N - i) := by show _ < _; omega
      have hi1 : i + 1 ≤ N := hin
      clear hc hcel hfr hbw hq hn1 HX HBW HU
      by_cases s1 : styB c.2.2 = true
      · have hsty := s1
        by_cases hw0 : c.2.1 < 0
        · have HF := Lib.hid (HNO.out fun k => by have := k.2.1; omega)
          clear HNO HYES HOK HOf
          have HS1 : Hid (∀ W, Calls Tryz.prog 103 #[.agg #[.int .i64 c.2.2.1, .bool c.2.2.2.1, .bool c.2.2.2.2.1, .bool c.2.2.2.2.2]] W fun e w' => e = .returned (.bool true) ∧ Below W.heap.size W w') := fun W => by
            have := HSt.out c.2.2 W
            rwa [s1] at this
          clear s1 HSt
          go_wp2
          go_quiet (fail)
          go_wp2_with fail
          go_fit (HS1.out _)
          rintro e w2 ⟨rfl, hb2⟩
          have q2 : Below (wr.alloc (.cells #[.int .i32 c.1, .int .i64 c.2.1, .int .i64 c.2.2.1, .bool c.2.2.2.1, .bool c.2.2.2.2.1, .bool c.2.2.2.2.2] 82)).heap.size (wr.alloc (.cells #[.int .i32 c.1, .int .i64 c.2.1, .int .i64 c.2.2.1, .bool c.2.2.2.1, .bool c.2.2.2.2.1, .bool c.2.2.2.2.2] 82)) w2 := ⟨hb2.os, hb2.tape, hb2.output, hb2.size, hb2.block⟩
          obtain ⟨⟨b0, b1, b2, b3, b4, b5⟩, hfr2, hce2, kb, kB⟩ := HY.out w2 q2
          obtain ⟨⟨y0, y1, y2, y3, y4⟩, _⟩ := hfr2.cells
          simp only [Nat.zero_add] at b1 b2 b3 b4 b5
          have HB2 := Lib.hid q2
          have HCE := Lib.hid hce2
          have KB := Lib.hid kb
          have KBB := Lib.hid kB
          clear hb2 q2 hfr2 hce2 HS1 kb kB
          clear HY HB2 HCE KBB
          go_wp2
          go_ret
          exact ⟨by rw [HF.out]; rfl, KB.out⟩
        by_cases hw2 : 2 < c.2.1
        · have HF := Lib.hid (HNO.out fun k => by have := k.2.2.1; omega)
          clear HNO HYES HOK HOf
          have HS1 : Hid (∀ W, Calls Tryz.prog 103 #[.agg #[.int .i64 c.2.2.1, .bool c.2.2.2.1, .bool c.2.2.2.2.1, .bool c.2.2.2.2.2]] W fun e w' => e = .returned (.bool true) ∧ Below W.heap.size W w') := fun W => by
            have := HSt.out c.2.2 W
            rwa [s1] at this
          clear s1 HSt
          go_wp2
          go_quiet (fail)
          go_wp2_with fail
          go_fit (HS1.out _)
          rintro e w2 ⟨rfl, hb2⟩
          have q2 : Below (wr.alloc (.cells #[.int .i32 c.1, .int .i64 c.2.1, .int .i64 c.2.2.1, .bool c.2.2.2.1, .bool c.2.2.2.2.1, .bool c.2.2.2.2.2] 82)).heap.size (wr.alloc (.cells #[.int .i32 c.1, .int .i64 c.2.1, .int .i64 c.2.2.1, .bool c.2.2.2.1, .bool c.2.2.2.2.1, .bool c.2.2.2.2.2] 82)) w2 := ⟨hb2.os, hb2.tape, hb2.output, hb2.size, hb2.block⟩
          obtain ⟨⟨b0, b1, b2, b3, b4, b5⟩, hfr2, hce2, kb, kB⟩ := HY.out w2 q2
          obtain ⟨⟨y0, y1, y2, y3, y4⟩, _⟩ := hfr2.cells
          simp only [Nat.zero_add] at b1 b2 b3 b4 b5
          have HB2 := Lib.hid q2
          have HCE := Lib.hid hce2
          have KB := Lib.hid kb
          have KBB := Lib.hid kB
          clear hb2 q2 hfr2 hce2 HS1 kb kB
          clear HY HB2 HCE KBB
          go_wp2
          go_ret
          exact ⟨by rw [HF.out]; rfl, KB.out⟩
        have hw0' : 0 ≤ c.2.1 := by omega
        have hw2' : c.2.1 ≤ 2 := by omega
        by_cases hz : c.2.1 = 0
        · have d0 : decide (0 < c.2.1) = false := decide_eq_false (by omega)
          have d00 : ¬ 0 < c.2.1 := by omega
          have d2 : (c.2.1 == 2) = false := by rw [beq_eq_false_iff_ne]; omega
          have d1 : (c.2.1 == 0) = true := by rw [beq_iff_eq]; omega
          clear HOf
          cases bf with
          | true =>
            have HF := Lib.hid (HNO.out fun k => (k.2.2.2.2.2 hz).1 (HBF.out.1 rfl))
            clear HNO HYES HOK hz hw0 hw2
            have HS1 : Hid (∀ W, Calls Tryz.prog 103 #[.agg #[.int .i64 c.2.2.1, .bool c.2.2.2.1, .bool c.2.2.2.2.1, .bool c.2.2.2.2.2]] W fun e w' => e = .returned (.bool true) ∧ Below W.heap.size W w') := fun W => by
              have := HSt.out c.2.2 W
              rwa [s1] at this
            clear s1 HSt
            go_wp2
            go_quiet (fail)
            go_wp2_with fail
            go_fit (HS1.out _)
            rintro e w2 ⟨rfl, hb2⟩
            have q2 : Below (wr.alloc (.cells #[.int .i32 c.1, .int .i64 c.2.1, .int .i64 c.2.2.1, .bool c.2.2.2.1, .bool c.2.2.2.2.1, .bool c.2.2.2.2.2] 82)).heap.size (wr.alloc (.cells #[.int .i32 c.1, .int .i64 c.2.1, .int .i64 c.2.2.1, .bool c.2.2.2.1, .bool c.2.2.2.2.1, .bool c.2.2.2.2.2] 82)) w2 := ⟨hb2.os, hb2.tape, hb2.output, hb2.size, hb2.block⟩
            obtain ⟨⟨b0, b1, b2, b3, b4, b5⟩, hfr2, hce2, kb, kB⟩ := HY.out w2 q2
            obtain ⟨⟨y0, y1, y2, y3, y4⟩, _⟩ := hfr2.cells
            simp only [Nat.zero_add] at b1 b2 b3 b4 b5
            have HB2 := Lib.hid q2
            have HCE := Lib.hid hce2
            have KB := Lib.hid kb
            have KBB := Lib.hid kB
            clear hb2 q2 hfr2 hce2 HS1 kb kB
            clear HY HB2 HCE KBB
            go_wp2
            go_quiet (fail)
            go_wp2
            go_quiet (fail)
            go_wp2
            go_ret
            exact ⟨by rw [HF.out]; rfl, KB.out.trans ⟨rfl, rfl, rfl, Nat.le_refl _, fun _ _ => rfl⟩⟩
          | false =>
            have hq0 : i % n ≠ 0 := fun k => by have := HBF.out.2 k; cases this
            obtain ⟨y, hy⟩ : ∃ y, i = y + 1 := ⟨i - 1, by have := Nat.zero_mod n; by_cases e : i = 0; (subst e; omega); omega⟩
            obtain ⟨p, hp⟩ : ∃ p, L[y]? = some p := ⟨_, List.getElem?_eq_getElem (by rw [HLn.out]; omega)⟩
            have hpi : L[i - 1]? = some p := by rw [hy]; exact hp
            have HP := Lib.hid hp
            have hy1 : (i : Int) - 1 = (y : Int) := by omega
            have hy2 : IntKind.i64.wrap ((i : Int) - 1) = (y : Int) := by rw [IntWalk.i64_in _ (by omega)]; exact hy1
            have hy3 : (y : Int) < (N : Int) := by omega
            have hy4 : (0 : Int) ≤ (y : Int) := by omega
            by_cases hp2 : p.2.1 = 2
            · have e2 : (p.2.1 != 2) = false := by simpa using hp2
              by_cases hr0 : c.1 = 0
              · have e0 : (c.1 != 0) = false := by simpa using hr0
                have hsq := fun w => sty_neq c.2.2 p.2.2 w
                by_cases hst : c.2.2 = p.2.2
                · have HYE := Lib.hid (HYES.out ⟨hsty, by omega, by omega, fun k => by omega, fun k => by omega, fun _ => ⟨hq0, p, hpi, hp2, hr0, hst⟩⟩)
                  rw [decide_eq_true hst] at hsq
                  clear HNO HYES HOK hz hw0 hw2 hp2 hr0 hst hq0 hy hp hpi hsty
                  have HS1 : Hid (∀ W, Calls Tryz.prog 103 #[.agg #[.int .i64 c.2.2.1, .bool c.2.2.2.1, .bool c.2.2.2.2.1, .bool c.2.2.2.2.2]] W fun e w' => e = .returned (.bool true) ∧ Below W.heap.size W w') := fun W => by
                    have := HSt.out c.2.2 W
                    rwa [s1] at this
                  clear s1 HSt
                  go_wp2
                  go_quiet (fail)
                  go_wp2_with fail
                  go_fit (HS1.out _)
                  rintro e w2 ⟨rfl, hb2⟩
                  have q2 : Below (wr.alloc (.cells #[.int .i32 c.1, .int .i64 c.2.1, .int .i64 c.2.2.1, .bool c.2.2.2.1, .bool c.2.2.2.2.1, .bool c.2.2.2.2.2] 82)).heap.size (wr.alloc (.cells #[.int .i32 c.1, .int .i64 c.2.1, .int .i64 c.2.2.1, .bool c.2.2.2.1, .bool c.2.2.2.2.1, .bool c.2.2.2.2.2] 82)) w2 := ⟨hb2.os, hb2.tape, hb2.output, hb2.size, hb2.block⟩
                  obtain ⟨⟨b0, b1, b2, b3, b4, b5⟩, hfr2, hce2, kb, kB⟩ := HY.out w2 q2
                  obtain ⟨⟨y0, y1, y2, y3, y4⟩, _⟩ := hfr2.cells
                  simp only [Nat.zero_add] at b1 b2 b3 b4 b5
                  have HB2 := Lib.hid q2
                  have HCE := Lib.hid hce2
                  have KB := Lib.hid kb
                  have KBB := Lib.hid kB
                  clear hb2 q2 hfr2 hce2 HS1 kb kB
                  clear HY HB2
                  obtain ⟨p0, p1, p2, p3, p4, p5⟩ := HCE.out y p HP.out
                  clear HCE
                  go_wp2
                  go_quiet (fail)
                  go_wp2
                  go_quiet (fail)
                  go_wp2
                  go_roundw
                  case rel => exact ⟨i + 1, by go_num, hi1, HYE.out, KBB.out.trans ⟨rfl, rfl, rfl, Nat.le_refl _, fun _ _ => rfl⟩⟩
                  case measure => simp [intOf]; exact HI.out
                · have HF := Lib.hid (HNO.out fun k => by obtain ⟨_, p', h1, _, _, h2⟩ := k.2.2.2.2.2 hz; rw [hpi] at h1; cases h1; exact hst h2)
                  rw [decide_eq_false hst] at hsq
                  clear HNO HYES HOK hz hw0 hw2 hp2 hr0 hst hq0 hy hp hpi hsty
                  have HS1 : Hid (∀ W, Calls Tryz.prog 103 #[.agg #[.int .i64 c.2.2.1, .bool c.2.2.2.1, .bool c.2.2.2.2.1, .bool c.2.2.2.2.2]] W fun e w' => e = .returned (.bool true) ∧ Below W.heap.size W w') := fun W => by
                    have := HSt.out c.2.2 W
                    rwa [s1] at this
                  clear s1 HSt
                  go_wp2
                  go_quiet (fail)
                  go_wp2_with fail
                  go_fit (HS1.out _)
                  rintro e w2 ⟨rfl, hb2⟩
                  have q2 : Below (wr.alloc (.cells #[.int .i32 c.1, .int .i64 c.2.1, .int .i64 c.2.2.1, .bool c.2.2.2.1, .bool c.2.2.2.2.1, .bool c.2.2.2.2.2] 82)).heap.size (wr.alloc (.cells #[.int .i32 c.1, .int .i64 c.2.1, .int .i64 c.2.2.1, .bool c.2.2.2.1, .bool c.2.2.2.2.1, .bool c.2.2.2.2.2] 82)) w2 := ⟨hb2.os, hb2.tape, hb2.output, hb2.size, hb2.block⟩
                  obtain ⟨⟨b0, b1, b2, b3, b4, b5⟩, hfr2, hce2, kb, kB⟩ := HY.out w2 q2
                  obtain ⟨⟨y0, y1, y2, y3, y4⟩, _⟩ := hfr2.cells
                  simp only [Nat.zero_add] at b1 b2 b3 b4 b5
                  have HB2 := Lib.hid q2
                  have HCE := Lib.hid hce2
                  have KB := Lib.hid kb
                  have KBB := Lib.hid kB
                  clear hb2 q2 hfr2 hce2 HS1 kb kB
                  clear HY HB2 KBB
                  obtain ⟨p0, p1, p2, p3, p4, p5⟩ := HCE.out y p HP.out
                  clear HCE
                  go_wp2
                  go_quiet (fail)
                  go_wp2
                  go_quiet (fail)
                  go_wp2
                  go_ret
                  exact ⟨by rw [HF.out]; rfl, KB.out.trans ⟨rfl, rfl, rfl, Nat.le_refl _, fun _ _ => rfl⟩⟩
              · have HF := Lib.hid (HNO.out fun k => by obtain ⟨_, p', h1, _, h2, _⟩ := k.2.2.2.2.2 hz; exact hr0 h2)
                have e0 : (c.1 != 0) = true := by simpa using hr0
                clear HNO HYES HOK hz hw0 hw2 hp2 hr0 hq0 hy hp hpi hsty
                have HS1 : Hid (∀ W, Calls Tryz.prog 103 #[.agg #[.int .i64 c.2.2.1, .bool c.2.2.2.1, .bool c.2.2.2.2.1, .bool c.2.2.2.2.2]] W fun e w' => e = .returned (.bool true) ∧ Below W.heap.size W w') := fun W => by
                  have := HSt.out c.2.2 W
                  rwa [s1] at this
                clear s1 HSt
                go_wp2
                go_quiet (fail)
                go_wp2_with fail
                go_fit (HS1.out _)
                rintro e w2 ⟨rfl, hb2⟩
                have q2 : Below (wr.alloc (.cells #[.int .i32 c.1, .int .i64 c.2.1, .int .i64 c.2.2.1, .bool c.2.2.2.1, .bool c.2.2.2.2.1, .bool c.2.2.2.2.2] 82)).heap.size (wr.alloc (.cells #[.int .i32 c.1, .int .i64 c.2.1, .int .i64 c.2.2.1, .bool c.2.2.2.1, .bool c.2.2.2.2.1, .bool c.2.2.2.2.2] 82)) w2 := ⟨hb2.os, hb2.tape, hb2.output, hb2.size, hb2.block⟩
                obtain ⟨⟨b0, b1, b2, b3, b4, b5⟩, hfr2, hce2, kb, kB⟩ := HY.out w2 q2
                obtain ⟨⟨y0, y1, y2, y3, y4⟩, _⟩ := hfr2.cells
                simp only [Nat.zero_add] at b1 b2 b3 b4 b5
                have HB2 := Lib.hid q2
                have HCE := Lib.hid hce2
                have KB := Lib.hid kb
                have KBB := Lib.hid kB
                clear hb2 q2 hfr2 hce2 HS1 kb kB
                clear HY HB2 KBB
                obtain ⟨p0, p1, p2, p3, p4, p5⟩ := HCE.out y p HP.out
                clear HCE
                go_wp2
                go_quiet (fail)
                go_wp2
                go_quiet (fail)
                go_wp2
                go_ret
                exact ⟨by rw [HF.out]; rfl, KB.out.trans ⟨rfl, rfl, rfl, Nat.le_refl _, fun _ _ => rfl⟩⟩
            · have HF := Lib.hid (HNO.out fun k => by obtain ⟨_, p', h1, h2, _, _⟩ := k.2.2.2.2.2 hz; rw [hpi] at h1; cases h1; exact hp2 h2)
              have e2 : (p.2.1 != 2) = true := by simpa using hp2
              clear HNO HYES HOK hz hw0 hw2 hp2 hq0 hy hp hpi hsty
              have HS1 : Hid (∀ W, Calls Tryz.prog 103 #[.agg #[.int .i64 c.2.2.1, .bool c.2.2.2.1, .bool c.2.2.2.2.1, .bool c.2.2.2.2.2]] W fun e w' => e = .returned (.bool true) ∧ Below W.heap.size W w') := fun W => by
                have := HSt.out c.2.2 W
                rwa [s1] at this
              clear s1 HSt
              go_wp2
              go_quiet (fail)
              go_wp2_with fail
              go_fit (HS1.out _)
              rintro e w2 ⟨rfl, hb2⟩
              have q2 : Below (wr.alloc (.cells #[.int .i32 c.1, .int .i64 c.2.1, .int .i64 c.2.2.1, .bool c.2.2.2.1, .bool c.2.2.2.2.1, .bool c.2.2.2.2.2] 82)).heap.size (wr.alloc (.cells #[.int .i32 c.1, .int .i64 c.2.1, .int .i64 c.2.2.1, .bool c.2.2.2.1, .bool c.2.2.2.2.1, .bool c.2.2.2.2.2] 82)) w2 := ⟨hb2.os, hb2.tape, hb2.output, hb2.size, hb2.block⟩
              obtain ⟨⟨b0, b1, b2, b3, b4, b5⟩, hfr2, hce2, kb, kB⟩ := HY.out w2 q2
              obtain ⟨⟨y0, y1, y2, y3, y4⟩, _⟩ := hfr2.cells
              simp only [Nat.zero_add] at b1 b2 b3 b4 b5
              have HB2 := Lib.hid q2
              have HCE := Lib.hid hce2
              have KB := Lib.hid kb
              have KBB := Lib.hid kB
              clear hb2 q2 hfr2 hce2 HS1 kb kB
              clear HY HB2 KBB
              obtain ⟨p0, p1, p2, p3, p4, p5⟩ := HCE.out y p HP.out
              clear HCE
              go_wp2
              go_quiet (fail)
              go_wp2
              go_quiet (fail)
              go_wp2
              go_ret
              exact ⟨by rw [HF.out]; rfl, KB.out.trans ⟨rfl, rfl, rfl, Nat.le_refl _, fun _ _ => rfl⟩⟩
        · have d0 : decide (0 < c.2.1) = true := decide_eq_true (by omega)
          have d00 : 0 < c.2.1 := by omega
          have d1 : (c.2.1 == 0) = false := by rw [beq_eq_false_iff_ne]; omega
          have HO : Hid (∀ W, Calls Tryz.prog 67 #[.int .i32 c.1] W fun e w' => e = .returned (.int .i64 (ofN c.1 : Int)) ∧ Below W.heap.size W w') := fun W => HOf.out c.1 W
          clear HOf
          by_cases hd : (ofN c.1 : Int) = c.2.1
          · have hdok := hd
            have dd : ((ofN c.1 : Int) != c.2.1) = false := by simpa using hd
            obtain ⟨D, hD⟩ : ∃ D, (ofN c.1 : Int) = D := ⟨_, rfl⟩
            rw [hD] at dd HO
            by_cases h2 : c.2.1 = 2
            · have d2 : (c.2.1 == 2) = true := by simpa using h2
              cases bl with
              | true =>
                have HF := Lib.hid (HNO.out fun k => (k.2.2.2.2.1 h2).1 (HBL.out.1 rfl))
                clear HNO HYES HOK hz hw0 hw2 hd hdok hD h2 hsty
                have HS1 : Hid (∀ W, Calls Tryz.prog 103 #[.agg #[.int .i64 c.2.2.1, .bool c.2.2.2.1, .bool c.2.2.2.2.1, .bool c.2.2.2.2.2]] W fun e w' => e = .returned (.bool true) ∧ Below W.heap.size W w') := fun W => by
                  have := HSt.out c.2.2 W
                  rwa [s1] at this
                clear s1 HSt
                go_wp2
                go_quiet (fail)
                go_wp2_with fail
                go_fit (HS1.out _)
                rintro e w2 ⟨rfl, hb2⟩
                have q2 : Below (wr.alloc (.cells #[.int .i32 c.1, .int .i64 c.2.1, .int .i64 c.2.2.1, .bool c.2.2.2.1, .bool c.2.2.2.2.1, .bool c.2.2.2.2.2] 82)).heap.size (wr.alloc (.cells #[.int .i32 c.1, .int .i64 c.2.1, .int .i64 c.2.2.1, .bool c.2.2.2.1, .bool c.2.2.2.2.1, .bool c.2.2.2.2.2] 82)) w2 := ⟨hb2.os, hb2.tape, hb2.output, hb2.size, hb2.block⟩
                obtain ⟨⟨b0, b1, b2, b3, b4, b5⟩, hfr2, hce2, kb, kB⟩ := HY.out w2 q2
                obtain ⟨⟨y0, y1, y2, y3, y4⟩, _⟩ := hfr2.cells
                simp only [Nat.zero_add] at b1 b2 b3 b4 b5
                have HB2 := Lib.hid q2
                have HCE := Lib.hid hce2
                have KB := Lib.hid kb
                have KBB := Lib.hid kB
                clear hb2 q2 hfr2 hce2 HS1 kb kB
                have HSK : Hid (∀ W, Below w2.heap.size w2 W → (fun W => W.cell? ⟨wr.heap.size, 0, none⟩ = some (.int .i32 c.1) ∧ W.cell? ⟨wr.heap.size, 1, none⟩ = some (.int .i64 c.2.1)) W) := fun W hW => by
                  obtain ⟨⟨z0, z1, _⟩, _⟩ := HY.out W (HB2.out.trans (hW.mono HB2.out.size))
                  exact ⟨z0, z1⟩
                clear HCE KB KBB
                go_wp2
                clear b2 b3 b4 b5 y0 y1 y2 y3 y4
                first
                  | go_region_held3 (fun W => W.cell? ⟨wr.heap.size, 0, none⟩ = some (.int .i32 c.1) ∧ W.cell? ⟨wr.heap.size, 1, none⟩ = some (.int .i64 c.2.1)) (first | exact HSK.out _ ⟨hb3.os, hb3.tape, hb3.output, hb3.size, hb3.block⟩ | go_keep)
                      ((go_at_call 67; go_must (go_fit (HO.out _)); rintro e w3 ⟨rfl, hb3⟩))
                  | fail
                have q3 : Below w2.heap.size w2 w3 := ⟨hb3.os, hb3.tape, hb3.output, hb3.size, hb3.block⟩
                clear b0 b1
                obtain ⟨⟨b0, b1, b2, b3, b4, b5⟩, hfr3, hce3, kb, kB⟩ := HY.out w3 (HB2.out.trans (q3.mono HB2.out.size))
                obtain ⟨⟨y0, y1, y2, y3, y4⟩, _⟩ := hfr3.cells
                simp only [Nat.zero_add] at b1 b2 b3 b4 b5
                have KB := Lib.hid kb
                have KBB := Lib.hid kB
                have HCE := Lib.hid hce3
                clear kb kB hce3 hfr3 hb3 q3 HSK HO HY HB2
                clear HCE KBB
                go_wp2
                go_ret
                exact ⟨by rw [HF.out]; rfl, KB.out⟩
              | false =>
                have hq0 : i % n ≠ n - 1 := fun k => by have := HBL.out.2 k; cases this
                obtain ⟨x, hx⟩ : ∃ x, i + 1 = x := ⟨_, rfl⟩
                have hx1 : (i : Int) + 1 = (x : Int) := by omega
                have hxN : x < N := by
                  rcases Nat.lt_or_ge x N with k | k
                  · exact k
                  · exfalso
                    have e : i + 1 = m * n := by rw [← HNm.out]; omega
                    have h1 := Nat.div_add_mod' i n
                    apply hq0
                    obtain ⟨m', hm'⟩ : ∃ m', m = m' + 1 := ⟨m - 1, by have := HNm.out; by_cases z : m = 0; (subst z; omega); omega⟩
                    rw [hm', Nat.add_mul, Nat.one_mul] at e
                    rw [show i = m' * n + (n - 1) by omega, Nat.mul_comm, Nat.mul_add_mod]
                    exact Nat.mod_eq_of_lt (by omega)
                obtain ⟨p, hp⟩ : ∃ p, L[x]? = some p := ⟨_, List.getElem?_eq_getElem (by rw [HLn.out]; exact hxN)⟩
                have hpi : L[i + 1]? = some p := by rw [hx]; exact hp
                have HP := Lib.hid hp
                have hx3 : (x : Int) < (N : Int) := by omega
                by_cases hp0 : p.2.1 = 0
                · have e2 : (p.2.1 != 0) = false := by simpa using hp0
                  have HYE := Lib.hid (HYES.out ⟨hsty, by omega, by omega, fun _ => hdok, fun _ => ⟨hq0, p, hpi, hp0⟩, fun k => by omega⟩)
                  rw [hx] at HYE hi1 HI
                  clear HNO HYES HOK hz hw0 hw2 hd hdok hD h2 hp0 hq0 hx hp hpi hsty hxN
                  have HS1 : Hid (∀ W, Calls Tryz.prog 103 #[.agg #[.int .i64 c.2.2.1, .bool c.2.2.2.1, .bool c.2.2.2.2.1, .bool c.2.2.2.2.2]] W fun e w' => e = .returned (.bool true) ∧ Below W.heap.size W w') := fun W => by
                    have := HSt.out c.2.2 W
                    rwa [s1] at this
                  clear s1 HSt
                  go_wp2
                  go_quiet (fail)
                  go_wp2_with fail
                  go_fit (HS1.out _)
                  rintro e w2 ⟨rfl, hb2⟩
                  have q2 : Below (wr.alloc (.cells #[.int .i32 c.1, .int .i64 c.2.1, .int .i64 c.2.2.1, .bool c.2.2.2.1, .bool c.2.2.2.2.1, .bool c.2.2.2.2.2] 82)).heap.size (wr.alloc (.cells #[.int .i32 c.1, .int .i64 c.2.1, .int .i64 c.2.2.1, .bool c.2.2.2.1, .bool c.2.2.2.2.1, .bool c.2.2.2.2.2] 82)) w2 := ⟨hb2.os, hb2.tape, hb2.output, hb2.size, hb2.block⟩
                  obtain ⟨⟨b0, b1, b2, b3, b4, b5⟩, hfr2, hce2, kb, kB⟩ := HY.out w2 q2
                  obtain ⟨⟨y0, y1, y2, y3, y4⟩, _⟩ := hfr2.cells
                  simp only [Nat.zero_add] at b1 b2 b3 b4 b5
                  have HB2 := Lib.hid q2
                  have HCE := Lib.hid hce2
                  have KB := Lib.hid kb
                  have KBB := Lib.hid kB
                  clear hb2 q2 hfr2 hce2 HS1 kb kB
                  have HSK : Hid (∀ W, Below w2.heap.size w2 W → (fun W => W.cell? ⟨wr.heap.size, 0, none⟩ = some (.int .i32 c.1) ∧ W.cell? ⟨wr.heap.size, 1, none⟩ = some (.int .i64 c.2.1)) W) := fun W hW => by
                    obtain ⟨⟨z0, z1, _⟩, _⟩ := HY.out W (HB2.out.trans (hW.mono HB2.out.size))
                    exact ⟨z0, z1⟩
                  clear HCE KB KBB
                  go_wp2
                  clear b2 b3 b4 b5 y0 y1 y2 y3 y4
                  first
                    | go_region_held3 (fun W => W.cell? ⟨wr.heap.size, 0, none⟩ = some (.int .i32 c.1) ∧ W.cell? ⟨wr.heap.size, 1, none⟩ = some (.int .i64 c.2.1)) (first | exact HSK.out _ ⟨hb3.os, hb3.tape, hb3.output, hb3.size, hb3.block⟩ | go_keep)
                        ((go_at_call 67; go_must (go_fit (HO.out _)); rintro e w3 ⟨rfl, hb3⟩))
                    | fail
                  have q3 : Below w2.heap.size w2 w3 := ⟨hb3.os, hb3.tape, hb3.output, hb3.size, hb3.block⟩
                  clear b0 b1
                  obtain ⟨⟨b0, b1, b2, b3, b4, b5⟩, hfr3, hce3, kb, kB⟩ := HY.out w3 (HB2.out.trans (q3.mono HB2.out.size))
                  obtain ⟨⟨y0, y1, y2, y3, y4⟩, _⟩ := hfr3.cells
                  simp only [Nat.zero_add] at b1 b2 b3 b4 b5
                  have KB := Lib.hid kb
                  have KBB := Lib.hid kB
                  have HCE := Lib.hid hce3
                  clear kb kB hce3 hfr3 hb3 q3 HSK HO HY HB2
                  obtain ⟨p0, p1, p2, p3, p4, p5⟩ := HCE.out x p HP.out
                  clear HCE
                  go_wp2
                  go_quiet (fail)
                  go_wp2
                  go_roundw
                  case rel => exact ⟨x, rfl, hi1, HYE.out, KBB.out.trans ⟨rfl, rfl, rfl, Nat.le_refl _, fun _ _ => rfl⟩⟩
                  case measure => simp [intOf]; exact HI.out
                · have HF := Lib.hid (HNO.out fun k => by obtain ⟨_, p', h1, h3⟩ := k.2.2.2.2.1 h2; rw [hpi] at h1; cases h1; exact hp0 h3)
                  have e2 : (p.2.1 != 0) = true := by simpa using hp0
                  clear HNO HYES HOK hz hw0 hw2 hd hdok hD h2 hp0 hq0 hx hp hpi hsty hxN
                  have HS1 : Hid (∀ W, Calls Tryz.prog 103 #[.agg #[.int .i64 c.2.2.1, .bool c.2.2.2.1, .bool c.2.2.2.2.1, .bool c.2.2.2.2.2]] W fun e w' => e = .returned (.bool true) ∧ Below W.heap.size W w') := fun W => by
                    have := HSt.out c.2.2 W
                    rwa [s1] at this
                  clear s1 HSt
                  go_wp2
                  go_quiet (fail)
                  go_wp2_with fail
                  go_fit (HS1.out _)
                  rintro e w2 ⟨rfl, hb2⟩
                  have q2 : Below (wr.alloc (.cells #[.int .i32 c.1, .int .i64 c.2.1, .int .i64 c.2.2.1, .bool c.2.2.2.1, .bool c.2.2.2.2.1, .bool c.2.2.2.2.2] 82)).heap.size (wr.alloc (.cells #[.int .i32 c.1, .int .i64 c.2.1, .int .i64 c.2.2.1, .bool c.2.2.2.1, .bool c.2.2.2.2.1, .bool c.2.2.2.2.2] 82)) w2 := ⟨hb2.os, hb2.tape, hb2.output, hb2.size, hb2.block⟩
                  obtain ⟨⟨b0, b1, b2, b3, b4, b5⟩, hfr2, hce2, kb, kB⟩ := HY.out w2 q2
                  obtain ⟨⟨y0, y1, y2, y3, y4⟩, _⟩ := hfr2.cells
                  simp only [Nat.zero_add] at b1 b2 b3 b4 b5
                  have HB2 := Lib.hid q2
                  have HCE := Lib.hid hce2
                  have KB := Lib.hid kb
                  have KBB := Lib.hid kB
                  clear hb2 q2 hfr2 hce2 HS1 kb kB
                  have HSK : Hid (∀ W, Below w2.heap.size w2 W → (fun W => W.cell? ⟨wr.heap.size, 0, none⟩ = some (.int .i32 c.1) ∧ W.cell? ⟨wr.heap.size, 1, none⟩ = some (.int .i64 c.2.1)) W) := fun W hW => by
                    obtain ⟨⟨z0, z1, _⟩, _⟩ := HY.out W (HB2.out.trans (hW.mono HB2.out.size))
                    exact ⟨z0, z1⟩
                  clear HCE KB KBB
                  go_wp2
                  clear b2 b3 b4 b5 y0 y1 y2 y3 y4
                  first
                    | go_region_held3 (fun W => W.cell? ⟨wr.heap.size, 0, none⟩ = some (.int .i32 c.1) ∧ W.cell? ⟨wr.heap.size, 1, none⟩ = some (.int .i64 c.2.1)) (first | exact HSK.out _ ⟨hb3.os, hb3.tape, hb3.output, hb3.size, hb3.block⟩ | go_keep)
                        ((go_at_call 67; go_must (go_fit (HO.out _)); rintro e w3 ⟨rfl, hb3⟩))
                    | fail
                  have q3 : Below w2.heap.size w2 w3 := ⟨hb3.os, hb3.tape, hb3.output, hb3.size, hb3.block⟩
                  clear b0 b1
                  obtain ⟨⟨b0, b1, b2, b3, b4, b5⟩, hfr3, hce3, kb, kB⟩ := HY.out w3 (HB2.out.trans (q3.mono HB2.out.size))
                  obtain ⟨⟨y0, y1, y2, y3, y4⟩, _⟩ := hfr3.cells
                  simp only [Nat.zero_add] at b1 b2 b3 b4 b5
                  have KB := Lib.hid kb
                  have KBB := Lib.hid kB
                  have HCE := Lib.hid hce3
                  clear kb kB hce3 hfr3 hb3 q3 HSK HO HY HB2
                  obtain ⟨p0, p1, p2, p3, p4, p5⟩ := HCE.out x p HP.out
                  clear HCE KBB
                  go_wp2
                  go_ret
                  exact ⟨by rw [HF.out]; rfl, KB.out⟩
            · have d2 : (c.2.1 == 2) = false := by simpa using h2
              have HYE := Lib.hid (HYES.out ⟨hsty, by omega, by omega, fun _ => hdok, fun k => by omega, fun k => by omega⟩)
              clear HNO HYES HOK hz hw0 hw2 hd hdok hD h2 hsty
              have HS1 : Hid (∀ W, Calls Tryz.prog 103 #[.agg #[.int .i64 c.2.2.1, .bool c.2.2.2.1, .bool c.2.2.2.2.1, .bool c.2.2.2.2.2]] W fun e w' => e = .returned (.bool true) ∧ Below W.heap.size W w') := fun W => by
                have := HSt.out c.2.2 W
                rwa [s1] at this
              clear s1 HSt
              go_wp2
              go_quiet (fail)
              go_wp2_with fail
              go_fit (HS1.out _)
              rintro e w2 ⟨rfl, hb2⟩
              have q2 : Below (wr.alloc (.cells #[.int .i32 c.1, .int .i64 c.2.1, .int .i64 c.2.2.1, .bool c.2.2.2.1, .bool c.2.2.2.2.1, .bool c.2.2.2.2.2] 82)).heap.size (wr.alloc (.cells #[.int .i32 c.1, .int .i64 c.2.1, .int .i64 c.2.2.1, .bool c.2.2.2.1, .bool c.2.2.2.2.1, .bool c.2.2.2.2.2] 82)) w2 := ⟨hb2.os, hb2.tape, hb2.output, hb2.size, hb2.block⟩
              obtain ⟨⟨b0, b1, b2, b3, b4, b5⟩, hfr2, hce2, kb, kB⟩ := HY.out w2 q2
              obtain ⟨⟨y0, y1, y2, y3, y4⟩, _⟩ := hfr2.cells
              simp only [Nat.zero_add] at b1 b2 b3 b4 b5
              have HB2 := Lib.hid q2
              have HCE := Lib.hid hce2
              have KB := Lib.hid kb
              have KBB := Lib.hid kB
              clear hb2 q2 hfr2 hce2 HS1 kb kB
              have HSK : Hid (∀ W, Below w2.heap.size w2 W → (fun W => W.cell? ⟨wr.heap.size, 0, none⟩ = some (.int .i32 c.1) ∧ W.cell? ⟨wr.heap.size, 1, none⟩ = some (.int .i64 c.2.1)) W) := fun W hW => by
                obtain ⟨⟨z0, z1, _⟩, _⟩ := HY.out W (HB2.out.trans (hW.mono HB2.out.size))
                exact ⟨z0, z1⟩
              clear HCE KB KBB
              go_wp2
              clear b2 b3 b4 b5 y0 y1 y2 y3 y4
              first
                | go_region_held3 (fun W => W.cell? ⟨wr.heap.size, 0, none⟩ = some (.int .i32 c.1) ∧ W.cell? ⟨wr.heap.size, 1, none⟩ = some (.int .i64 c.2.1)) (first | exact HSK.out _ ⟨hb3.os, hb3.tape, hb3.output, hb3.size, hb3.block⟩ | go_keep)
                    ((go_at_call 67; go_must (go_fit (HO.out _)); rintro e w3 ⟨rfl, hb3⟩))
                | fail
              have q3 : Below w2.heap.size w2 w3 := ⟨hb3.os, hb3.tape, hb3.output, hb3.size, hb3.block⟩
              clear b0 b1
              obtain ⟨⟨b0, b1, b2, b3, b4, b5⟩, hfr3, hce3, kb, kB⟩ := HY.out w3 (HB2.out.trans (q3.mono HB2.out.size))
              obtain ⟨⟨y0, y1, y2, y3, y4⟩, _⟩ := hfr3.cells
              simp only [Nat.zero_add] at b1 b2 b3 b4 b5
              have KB := Lib.hid kb
              have KBB := Lib.hid kB
              have HCE := Lib.hid hce3
              clear kb kB hce3 hfr3 hb3 q3 HSK HO HY HB2
              clear HCE
              go_wp2
              go_quiet (fail)
              go_wp2
              go_roundw
              case rel => exact ⟨i + 1, by go_num, hi1, HYE.out, KBB.out.trans ⟨rfl, rfl, rfl, Nat.le_refl _, fun _ _ => rfl⟩⟩
              case measure => simp [intOf]; exact HI.out
          · have HF := Lib.hid (HNO.out fun k => hd (k.2.2.2.1 (by omega)))
            have dd : ((ofN c.1 : Int) != c.2.1) = true := by simpa using hd
            obtain ⟨D, hD⟩ : ∃ D, (ofN c.1 : Int) = D := ⟨_, rfl⟩
            rw [hD] at dd HO
            clear HNO HYES HOK hz hw0 hw2 hd hD hsty
            have HS1 : Hid (∀ W, Calls Tryz.prog 103 #[.agg #[.int .i64 c.2.2.1, .bool c.2.2.2.1, .bool c.2.2.2.2.1, .bool c.2.2.2.2.2]] W fun e w' => e = .returned (.bool true) ∧ Below W.heap.size W w') := fun W => by
              have := HSt.out c.2.2 W
              rwa [s1] at this
            clear s1 HSt
            go_wp2
            go_quiet (fail)
            go_wp2_with fail
            go_fit (HS1.out _)
            rintro e w2 ⟨rfl, hb2⟩
            have q2 : Below (wr.alloc (.cells #[.int .i32 c.1, .int .i64 c.2.1, .int .i64 c.2.2.1, .bool c.2.2.2.1, .bool c.2.2.2.2.1, .bool c.2.2.2.2.2] 82)).heap.size (wr.alloc (.cells #[.int .i32 c.1, .int .i64 c.2.1, .int .i64 c.2.2.1, .bool c.2.2.2.1, .bool c.2.2.2.2.1, .bool c.2.2.2.2.2] 82)) w2 := ⟨hb2.os, hb2.tape, hb2.output, hb2.size, hb2.block⟩
            obtain ⟨⟨b0, b1, b2, b3, b4, b5⟩, hfr2, hce2, kb, kB⟩ := HY.out w2 q2
            obtain ⟨⟨y0, y1, y2, y3, y4⟩, _⟩ := hfr2.cells
            simp only [Nat.zero_add] at b1 b2 b3 b4 b5
            have HB2 := Lib.hid q2
            have HCE := Lib.hid hce2
            have KB := Lib.hid kb
            have KBB := Lib.hid kB
            clear hb2 q2 hfr2 hce2 HS1 kb kB
            have HSK : Hid (∀ W, Below w2.heap.size w2 W → (fun W => W.cell? ⟨wr.heap.size, 0, none⟩ = some (.int .i32 c.1) ∧ W.cell? ⟨wr.heap.size, 1, none⟩ = some (.int .i64 c.2.1)) W) := fun W hW => by
              obtain ⟨⟨z0, z1, _⟩, _⟩ := HY.out W (HB2.out.trans (hW.mono HB2.out.size))
              exact ⟨z0, z1⟩
            clear HCE KB KBB
            go_wp2
            clear b2 b3 b4 b5 y0 y1 y2 y3 y4
            first
              | go_region_held3 (fun W => W.cell? ⟨wr.heap.size, 0, none⟩ = some (.int .i32 c.1) ∧ W.cell? ⟨wr.heap.size, 1, none⟩ = some (.int .i64 c.2.1)) (first | exact HSK.out _ ⟨hb3.os, hb3.tape, hb3.output, hb3.size, hb3.block⟩ | go_keep)
                  ((go_at_call 67; go_must (go_fit (HO.out _)); rintro e w3 ⟨rfl, hb3⟩))
              | fail
            have q3 : Below w2.heap.size w2 w3 := ⟨hb3.os, hb3.tape, hb3.output, hb3.size, hb3.block⟩
            clear b0 b1
            obtain ⟨⟨b0, b1, b2, b3, b4, b5⟩, hfr3, hce3, kb, kB⟩ := HY.out w3 (HB2.out.trans (q3.mono HB2.out.size))
            obtain ⟨⟨y0, y1, y2, y3, y4⟩, _⟩ := hfr3.cells
            simp only [Nat.zero_add] at b1 b2 b3 b4 b5
            have KB := Lib.hid kb
            have KBB := Lib.hid kB
            have HCE := Lib.hid hce3
            clear kb kB hce3 hfr3 hb3 q3 HSK HO HY HB2
            clear HCE KBB
            go_wp2
            go_ret
            exact ⟨by rw [HF.out]; rfl, KB.out⟩
      · have HF := Lib.hid (HNO.out fun k => s1 k.1)
        clear HNO HYES HOK HOf
        have HS1 : Hid (∀ W, Calls Tryz.prog 103 #[.agg #[.int .i64 c.2.2.1, .bool c.2.2.2.1, .bool c.2.2.2.2.1, .bool c.2.2.2.2.2]] W fun e w' => e = .returned (.bool false) ∧ Below W.heap.size W w') := fun W => by
          have := HSt.out c.2.2 W
          rwa [Bool.eq_false_iff.2 s1] at this
        clear s1 HSt
        go_wp2
        go_quiet (fail)
        go_wp2_with fail
        go_fit (HS1.out _)
        rintro e w2 ⟨rfl, hb2⟩
        have q2 : Below (wr.alloc (.cells #[.int .i32 c.1, .int .i64 c.2.1, .int .i64 c.2.2.1, .bool c.2.2.2.1, .bool c.2.2.2.2.1, .bool c.2.2.2.2.2] 82)).heap.size (wr.alloc (.cells #[.int .i32 c.1, .int .i64 c.2.1, .int .i64 c.2.2.1, .bool c.2.2.2.1, .bool c.2.2.2.2.1, .bool c.2.2.2.2.2] 82)) w2 := ⟨hb2.os, hb2.tape, hb2.output, hb2.size, hb2.block⟩
        obtain ⟨⟨b0, b1, b2, b3, b4, b5⟩, hfr2, hce2, kb, kB⟩ := HY.out w2 q2
        obtain ⟨⟨y0, y1, y2, y3, y4⟩, _⟩ := hfr2.cells
        simp only [Nat.zero_add] at b1 b2 b3 b4 b5
        have HB2 := Lib.hid q2
        have HCE := Lib.hid hce2
        have KB := Lib.hid kb
        have KBB := Lib.hid kB
        clear hb2 q2 hfr2 hce2 HS1 kb kB
        clear HY HB2 HCE KBB
        go_wp2
        go_ret
        exact ⟨by rw [HF.out]; rfl, KB.out⟩
    · have HF : Hid (B = true) := HB.out.2 fun j c hj => HU.out j c (by have := (List.getElem?_eq_some_iff.1 hj).1; rw [HLn.out] at this; omega) hj
      obtain rfl : i = N := by omega
      have KB := Lib.hid hbw
      clear HX HBW HU hfr hcel hbw
      go_wp2
      go_ret
      exact ⟨by rw [HF.out]; rfl, KB.out⟩
end Go.Proofs.YtpkjaallhhjleaaGreatDoor

/-
  limnerref06.Valid: what it returns: for every frame, whatever it is.
-/
namespace Go.Proofs.YtpkjaallhhjleaaGreatDoor
open Go.RowKit

theorem rvalid_any {ok : Nat → Prop} {v : Value} {f : Frm} (w : World) (h : FrameW ok w v f) :
    Calls Tryz.prog 101 #[v] w fun e w' => e = .returned (.bool (validB f)) ∧ Below w.heap.size w w' := by
  obtain ⟨ao, N, cap, rfl, hn, hcap, hS⟩ := h
  cases h1 : sizedB f.rows f.cols with
  | false =>
    rw [show validB f = false by unfold validB; rw [h1]; rfl]
    exact rvalid_size f w h1
  | true =>
    obtain ⟨k1, k2, k3, k4⟩ := (sizedB_iff _ _).1 h1
    obtain ⟨m, hm⟩ : ∃ m : Nat, f.rows = (m : Int) := ⟨f.rows.toNat, by omega⟩
    obtain ⟨n, hn2⟩ : ∃ n : Nat, f.cols = (n : Int) := ⟨f.cols.toNat, by omega⟩
    have hP : f.rows * f.cols = ((m * n : Nat) : Int) := by rw [hm, hn2, Int.natCast_mul]
    have hle : m * n ≤ 20000 := Nat.mul_le_mul (show m ≤ 100 by omega) (show n ≤ 200 by omega)
    by_cases h2 : (N : Int) = ((m * n : Nat) : Int)
    · cases h3 : withinB f.rows f.cols f.row f.col with
      | false =>
        rw [show validB f = false by unfold validB; rw [h1, h3, Bool.and_false, Bool.false_and]]
        exact rvalid_cursor f w _ h1 hP (by omega) (by omega) h2 h3
      | true =>
        have hN : N = m * n := by omega
        have hpos : 0 < N := by rw [hN]; exact Nat.mul_pos (by omega) (by omega)
        obtain ⟨g, o, rfl, _⟩ := hS.ptr (i := 0) (List.getElem?_eq_getElem (show 0 < f.cells.length by omega))
        refine rvalid_cells f m n w hm hn2 (by omega) (by omega) hN hS hn.symm h3 (validB f) ?_
        rw [← rows_all (m := m) (by omega) (by omega)]
        constructor
        · intro hv
          have ho := (valid_ok hv).each
          have e1 : f.rows.toNat = m := by omega
          have e2 : f.cols.toNat = n := by omega
          rw [e1, e2] at ho
          exact ho
        · intro ho
          have hw := (withinB_iff _ _ _ _).1 h3
          exact OkF.valid ⟨hm, hn2, by omega, by omega, by omega, by omega, by omega, ho⟩
    · rw [show validB f = false by unfold validB; rw [h1, decide_eq_false (by rw [← hn, hP]; exact h2), Bool.and_false, Bool.false_and, Bool.false_and]]
      exact rvalid_len f w _ h1 hP (by omega) (by omega) h2
end Go.Proofs.YtpkjaallhhjleaaGreatDoor

/-
  limnerref06.Put: what it returns, and lays: a frame that may not be; what the calls on the way give.
-/
namespace Go.Proofs.YtpkjaallhhjleaaGreatDoor
open Go.RowKit

section
variable {ok : Nat → Prop} {g0 o0 N cap : Nat} {f : Frm} {m n : Nat}

theorem rput_bad {ao : Option Addr} (row col r : Int) (s : Sty) (w : World) (hS : CelsW ok w (.slice ao N cap) f.cells) (hn : N = f.cells.length) (hcap : N ≤ cap) (hv : validB f = false) :
    Calls Tryz.prog 68 #[.agg #[.int .i64 f.rows, .int .i64 f.cols, .slice ao N cap, .int .i64 f.row, .int .i64 f.col], .int .i64 row, .int .i64 col, .int .i32 r, .agg #[.int .i64 s.1, .bool s.2.1, .bool s.2.2.1, .bool s.2.2.2]] w fun e w' => e = .returned (.agg #[.int .i64 0, .int .i64 0, .slice none 0 0, .int .i64 0, .int .i64 0]) ∧ Below w.heap.size w w' := by
  have HV : Hid (∀ W, Below w.heap.size w W → Calls Tryz.prog 101 #[.agg #[.int .i64 f.rows, .int .i64 f.cols, .slice ao N cap, .int .i64 f.row, .int .i64 f.col]] W fun e w' => e = .returned (.bool false) ∧ Below W.heap.size W w') := fun W hW => by
    have := rvalid_any W (FrameW.below ⟨ao, N, cap, rfl, hn, hcap, hS⟩ hW)
    rwa [hv] at this
  have H0 := put0_is w f s ao N cap
  obtain ⟨hz, hb, _, _, hres⟩ := H0
  have HZ := Lib.hid hz
  have HR := Lib.hid hres
  have HB := Lib.hid hb
  unfold put0 at HZ HR HB
  clear hS hn hcap hv hz hb hres
  go_enter Tryz.func68, Tryz.ntmps68
  go_wp2_with fail
  go_fit (HV.out _ HB.out)
  rintro e w2 ⟨rfl, hb2⟩
  have hr := HR.out.below hb2 HR.out.lt
  have HE : Hid (frB (set5 w2 (w.heap.size + 1 + 1) 0 0 (.slice none 0 0) 0 0) (w.heap.size + 1 + 1) 0 0 (.slice none 0 0) 0 0 ∧ Below w.heap.size w (set5 w2 (w.heap.size + 1 + 1) 0 0 (.slice none 0 0) 0 0)) := by
    have b := HB.out.trans (hb2.mono HB.out.size)
    have hk := set5_keep (ok := fun k => k ≠ w.heap.size + 1 + 1) w2 (w.heap.size + 1 + 1) 0 0 (.slice none 0 0) 0 0 (fun k => k rfl)
    exact ⟨hr.all, KeepW.below b hk b.size (fun k hk => by show _ ≠ _; omega)⟩
  obtain ⟨⟨d0, d1, d2, d3, d4⟩, f0, f1, f2, f3, f4⟩ := hr.cells
  have hlt := hr.lt
  clear hr hb2 HR HB HV HZ
  go_wp2
  obtain ⟨⟨y0, y1, y2, y3, y4⟩, _⟩ := HE.out.1.cells
  unfold set5 at y0 y1 y2 y3 y4
  exact bodyPost_ret (v := .agg #[.int .i64 0, .int .i64 0, .slice none 0 0, .int .i64 0, .int .i64 0]) (by simp [results, Tryz.results68, go_sem, y0, y1, y2, y3, y4]) rfl ⟨rfl, HE.out.2⟩

theorem rput_calls (r : Int) (s : Sty) (w : World) (hf : OkF f m n) (hN : N = f.cells.length) (hcap : N ≤ cap) (hS : CelsW ok w (.slice (some ⟨g0, o0, none⟩) N cap) f.cells) :
    Hid (∀ W, Below w.heap.size w W → Calls Tryz.prog 101 #[.agg #[.int .i64 f.rows, .int .i64 f.cols, .slice (some ⟨g0, o0, none⟩) N cap, .int .i64 f.row, .int .i64 f.col]] W fun e w' => e = .returned (.bool true) ∧ Below W.heap.size W w') ∧
    Hid (∀ W, Below w.heap.size w W → Calls Tryz.prog 102 #[.agg #[.int .i64 f.rows, .int .i64 f.cols, .slice (some ⟨g0, o0, none⟩) N cap, .int .i64 f.row, .int .i64 f.col]] W fun e w' => ∃ g' c', e = .returned (.agg #[.int .i64 f.rows, .int .i64 f.cols, .slice (some ⟨g', 0, none⟩) N c', .int .i64 f.row, .int .i64 f.col]) ∧ N ≤ c' ∧ NewL W w' g' f.cells ∧ Below W.heap.size W w') ∧
    Hid (∀ W, Calls Tryz.prog 67 #[.int .i32 r] W fun e w' => e = .returned (.int .i64 (ofN r : Int)) ∧ Below W.heap.size W w') ∧
    Hid (∀ W, Calls Tryz.prog 103 #[.agg #[.int .i64 s.1, .bool s.2.1, .bool s.2.2.1, .bool s.2.2.2]] W fun e w' => e = .returned (.bool (styB s)) ∧ Below W.heap.size W w') := by
  have hroom := hf.room
  have hpos : 0 < N := by
    have h1 := hf.len; have h2 := hf.hm; have h3 := hf.hn
    rw [hN, h1]; exact Nat.mul_pos (by omega) (by omega)
  refine ⟨fun W hW => ?_, fun W hW => ?_, fun W => ?_, fun W => ?_⟩
  · have := rvalid_any W (FrameW.below ⟨_, N, cap, rfl, hN, hcap, hS⟩ hW)
    rwa [hf.valid] at this
  · exact copy_any g0 o0 cap N f.rows f.cols f.row f.col W (hS.below hW) hN.symm hpos (by omega)
  · exact refOf_any r W
  · exact style_any s W
/-- The frame's cells are of its own now. -/
theorem rput_own {w W3 : World} {s : Sty} {g c : Nat} {zs : List Value} {W2 : World} (hN : N = f.cells.length) (hc : N ≤ c) (h2 : Below (put0 w f s (some ⟨g0, o0, none⟩) N cap).heap.size (put0 w f s (some ⟨g0, o0, none⟩) N cap) W2) (h3 : Below W2.heap.size W2 W3) (hg : W2.heap.size ≤ g) (hb : blkL W3 g f.cells zs) :
    PutS w (set5 W3 w.heap.size f.rows f.cols (.slice (some ⟨g, 0, none⟩) N c) f.row f.col) f s N g c f.cells zs ∧ frB W3 w.heap.size f.rows f.cols (.slice (some ⟨g0, o0, none⟩) N cap) f.row f.col := by
  obtain ⟨hz, q0, q1, q2, q3⟩ := put0_is w f s (some ⟨g0, o0, none⟩) N cap
  have h := h2.trans (h3.mono h2.size)
  rw [hz] at h h2
  have hsz := h2.size
  have r1 := q1.below h (by omega)
  have r2 := (h.block (w.heap.size + 1) (by omega)).trans q2
  have r3 := q3.below h (by omega)
  have hk := set5_keep (ok := fun k => k ≠ w.heap.size) W3 w.heap.size f.rows f.cols (.slice (some ⟨g, 0, none⟩) N c) f.row f.col (fun k => k rfl)
  have hb1 : Below w.heap.size w W3 := q0.trans (h.mono (by omega))
  exact ⟨⟨KeepW.below hb1 hk hb1.size (fun k hk => by show _ ≠ _; omega), r1.all, (hk.same _ (Array.getElem?_eq_some_iff.1 r2).1 (by show _ ≠ _; omega)).trans r2, r3.keep hk (by show _ ≠ _; omega), by omega, hb.keep hk (by show _ ≠ _; omega), hN.symm, hc⟩, r1⟩
end
end Go.Proofs.YtpkjaallhhjleaaGreatDoor

/-
  limnerref06.Put lays the cells in a block of its own: what that says. No call is walked here.
-/
namespace Go.Proofs.YtpkjaallhhjleaaGreatDoor
open Go.RowKit

/-- A frame as a value, its cells alone in a block behind these; there may be room behind them. -/
def OwnR (n0 : Nat) (w : World) (v : Value) (f : Frm) : Prop :=
  ∃ g N c, v = .agg #[.int .i64 f.rows, .int .i64 f.cols, .slice (some ⟨g, 0, none⟩) N c, .int .i64 f.row, .int .i64 f.col] ∧ n0 ≤ g ∧ N ≤ c ∧ (∃ zs, blkL w g f.cells zs) ∧ f.cells.length = N
theorem PutS.doneR {w W : World} {f : Frm} {s : Sty} {N g c : Nat} {L : List Cel} {zs : List Value} (h : PutS w W f s N g c L zs) : frB (set5 W (w.heap.size + 1 + 1) f.rows f.cols (.slice (some ⟨g, 0, none⟩) N c) f.row f.col) (w.heap.size + 1 + 1) f.rows f.cols (.slice (some ⟨g, 0, none⟩) N c) f.row f.col ∧
    OwnR w.heap.size (set5 W (w.heap.size + 1 + 1) f.rows f.cols (.slice (some ⟨g, 0, none⟩) N c) f.row f.col) (.agg #[.int .i64 f.rows, .int .i64 f.cols, .slice (some ⟨g, 0, none⟩) N c, .int .i64 f.row, .int .i64 f.col]) { f with cells := L } ∧
    Below w.heap.size w (set5 W (w.heap.size + 1 + 1) f.rows f.cols (.slice (some ⟨g, 0, none⟩) N c) f.row f.col) := by
  have ho := h.own
  have hk := set5_keep (ok := fun k => k ≠ w.heap.size + 1 + 1) W (w.heap.size + 1 + 1) f.rows f.cols (.slice (some ⟨g, 0, none⟩) N c) f.row f.col (fun k => k rfl)
  exact ⟨h.res.all, ⟨g, N, c, rfl, by omega, h.cap, ⟨zs, h.blk.keep hk (by show _ ≠ _; omega)⟩, h.len⟩, KeepW.below h.below hk h.below.size (fun k hk => by omega)⟩
end Go.Proofs.YtpkjaallhhjleaaGreatDoor
