/-
  term: Resize: what it returns, and leaves, where the size may be.
-/
import Derived.Test.YtpkjaallhhjleaaGreatDoorBa27
import Derived.Test.YtpkjaallhhjleaaGreatDoorLTmRes
namespace Go.Proofs.YtpkjaallhhjleaaGreatDoor
open Go.RowKit

theorem gresO_any {ok : Nat → Prop} {v : Value} {f : Frm} {m n : Nat} (p q : Nat) (w : World) (h : FrameW ok w v f) (hf : OkF f m n) (hL : LaidW w) (hp : 2 ≤ p ∧ p ≤ 100) (hq : 8 ≤ q ∧ q ≤ 200) :
    Calls Tryz.prog 39 #[v, .int .i64 (p : Int), .int .i64 (q : Int)] w fun e w' => ∃ v', e = .returned (.tuple #[v', .int .i64 0]) ∧ OwnF w.heap.size w' v' (resF f p q) ∧ Below w.heap.size w w' := by
  obtain ⟨ao, N, cap, rfl, hn, hcap, hS⟩ := h
  have h0 : 0 < f.cells.length := by rw [hf.len]; exact Nat.mul_pos (by have := hf.hm; omega) (by have := hf.hn; omega)
  obtain ⟨g, o, rfl, _⟩ := hS.ptr (i := 0) (List.getElem?_eq_getElem h0)
  rw [(resF_is hf p q hp hq).1]
  by_cases hpm : p ≤ m
  · exact gresO_le w hf hn hcap hS hL hp hq hpm
  · exact gresO_gt w hf hn hcap hS hL hp hq (by omega)
theorem tmB.store {W : World} {B : Nat} {t t' : Tm} {v v' : Value} (h : tmB W B t v) (i : Nat) (u : Value) (ht : (tmA t v).modify i (fun _ => u) = tmA t' v') : tmB (W.setCell ⟨B, i, none⟩ u) B t' v' := by
  unfold tmB
  rw [h.set i u, ht]
section
variable {w0 : World} {B G N cap : Nat} {t : Tm}
set_option maxRecDepth 20000 in
set_option maxHeartbeats 8000000 in
theorem tresize_any {m n : Nat} (p q : Nat) (w : World) (h : TmS w0 w B G N cap t) (hok : OkF t.f m n) (hL : LaidT w0) (hp : 2 ≤ p ∧ p ≤ 100) (hq : 8 ≤ q ∧ q ≤ 200) :
    Calls Tryz.prog 17 #[.pointer (some ⟨B, 0, none⟩), .int .i64 (p : Int), .int .i64 (q : Int)] w fun e w' => e = .returned (.int .i64 0) ∧ ∃ G', w.heap.size ≤ G' ∧ TmS w0 w' B G' (p * q) (p * q) { t with f := resF t.f p q, waits := false } ∧ KeepW (fun k => k ≠ B) w w' := by
  have HR := Lib.hid (gresO_any p q w h.frame hok (hL.below h.below).fr hp hq)
  have hro := res_okF hok p q hp hq
  have HF : Hid (∀ w1 G1, Below w.heap.size w w1 → w.heap.size ≤ G1 → (∃ zs, blkL w1 G1 (resF t.f p q).cells zs) →
      (∀ i, w1.frozen? ⟨B, i, none⟩ = false) ∧ B < w1.heap.size ∧ (∃ a0 a1 a2 a3 a4 a5 a6, w1.cell? ⟨B, 0, none⟩ = some a0 ∧ w1.cell? ⟨B, 1, none⟩ = some a1 ∧ w1.cell? ⟨B, 2, none⟩ = some a2 ∧ w1.cell? ⟨B, 3, none⟩ = some a3 ∧ w1.cell? ⟨B, 4, none⟩ = some a4 ∧ w1.cell? ⟨B, 10, none⟩ = some a5 ∧ a6 = a5) ∧
      Hid (TmS w0 ((set5 w1 B (resF t.f p q).rows (resF t.f p q).cols (.slice (some ⟨G1, 0, none⟩) (p * q) (p * q)) (resF t.f p q).row (resF t.f p q).col).setCell ⟨B, 10, none⟩ (.bool false)) B G1 (p * q) (p * q) { t with f := resF t.f p q, waits := false } ∧
        KeepW (fun k => k ≠ B) w ((set5 w1 B (resF t.f p q).rows (resF t.f p q).cols (.slice (some ⟨G1, 0, none⟩) (p * q) (p * q)) (resF t.f p q).row (resF t.f p q).col).setCell ⟨B, 10, none⟩ (.bool false)))) := fun w1 G1 hb hG ⟨zs, hz⟩ => by
    have h1 := h.next hb
    obtain ⟨⟨c0, c1, c2, c3, c4⟩, _, ⟨_, c10, _⟩, hf⟩ := h1.box.cells
    have hk := (set5_keep (ok := fun k => k ≠ B) w1 B (resF t.f p q).rows (resF t.f p q).cols (.slice (some ⟨G1, 0, none⟩) (p * q) (p * q)) (resF t.f p q).row (resF t.f p q).col (fun k => k rfl)).trans (keep_set B 10 none (.bool false) _ (fun k => k rfl))
    refine ⟨hf, h1.box.lt, ⟨_, _, _, _, _, _, _, c0, c1, c2, c3, c4, c10, rfl⟩, ?_, (keep_below _ hb).trans hk⟩
    have hBl := h.box.lt
    have hbs := h.below.size
    refine ⟨KeepW.below h1.below hk h1.below.size fun k hk => by have := h.hB; omega, h.hB, by omega, by omega, ?_, ⟨zs, hz.keep hk (by show _ ≠ _; omega)⟩, hro.len, Nat.le_refl _⟩
    obtain ⟨F, hF⟩ : ∃ F, resF t.f (p : Int) (q : Int) = F := ⟨_, rfl⟩
    rw [hF]
    have e0 := h1.box
    have e1 := e0.store 0 (.int .i64 F.rows) (t' := { t with f := { t.f with rows := F.rows } }) (v' := .slice (some ⟨G, 0, none⟩) N cap) rfl
    have e2 := e1.store 1 (.int .i64 F.cols) (t' := { t with f := { t.f with rows := F.rows, cols := F.cols } }) (v' := .slice (some ⟨G, 0, none⟩) N cap) rfl
    have e3 := e2.store 2 (.slice (some ⟨G1, 0, none⟩) (p * q) (p * q)) (t' := { t with f := { t.f with rows := F.rows, cols := F.cols } }) (v' := .slice (some ⟨G1, 0, none⟩) (p * q) (p * q)) rfl
    have e4 := e3.store 3 (.int .i64 F.row) (t' := { t with f := { t.f with rows := F.rows, cols := F.cols, row := F.row } }) (v' := .slice (some ⟨G1, 0, none⟩) (p * q) (p * q)) rfl
    have e5 := e4.store 4 (.int .i64 F.col) (t' := { t with f := { t.f with rows := F.rows, cols := F.cols, row := F.row, col := F.col } }) (v' := .slice (some ⟨G1, 0, none⟩) (p * q) (p * q)) rfl
    have e6 := e5.store 10 (.bool false) (t' := { t with f := F, waits := false }) (v' := .slice (some ⟨G1, 0, none⟩) (p * q) (p * q)) rfl
    exact e6
  obtain ⟨⟨_, _, x2, _, _⟩, _⟩ := h.box.cells
  have HN := Lib.hid (tnone_no B G N cap w x2)
  obtain ⟨⟨x0, x1, _, x3, x4⟩, _⟩ := h.box.cells
  obtain ⟨P, hP⟩ : ∃ P, p * q = P := ⟨_, rfl⟩
  obtain ⟨F, hF⟩ : ∃ F, resF t.f (p : Int) (q : Int) = F := ⟨_, rfl⟩
  rw [hF] at HR HF hro
  have hPl := hro.len
  rw [hP] at HF hPl ⊢
  rw [hF]
  have HPL := Lib.hid hPl
  clear h hok hL hp hq hro hP hF hPl
  go_enter Tryz.func17, Tryz.ntmps17
  go_wp2_with fail
  go_fit HN.out
  rintro e w1 ⟨rfl, rfl⟩
  go_wp2_with fail
  go_fit HR.out
  rintro e w2 ⟨v', rfl, ⟨G1, P1, rfl, hG1, hz1, hl1⟩, hb2⟩
  obtain rfl : P1 = P := hl1.symm.trans HPL.out
  have hbA := blw_alloc (o := .cells #[.int .i64 F.rows, .int .i64 F.cols, .slice (some ⟨G1, 0, none⟩) P1 P1, .int .i64 F.row, .int .i64 F.col] 35) hb2
  have hzA : ∃ zs, blkL (w2.alloc (.cells #[.int .i64 F.rows, .int .i64 F.cols, .slice (some ⟨G1, 0, none⟩) P1 P1, .int .i64 F.row, .int .i64 F.col] 35)) G1 F.cells zs := by
    obtain ⟨zs, hz⟩ := hz1
    exact ⟨zs, hz.below ((Below.refl _ w2).alloc (Nat.le_refl _) _) hz.lt⟩
  have hfb : frB (w2.alloc (.cells #[.int .i64 F.rows, .int .i64 F.cols, .slice (some ⟨G1, 0, none⟩) P1 P1, .int .i64 F.row, .int .i64 F.col] 35)) w2.heap.size F.rows F.cols (.slice (some ⟨G1, 0, none⟩) P1 P1) F.row F.col := frB.new w2
  obtain ⟨hfz, hlB, ⟨a0, a1, a2, a3, a4, a5, _, c0, c1, c2, c3, c4, c5, _⟩, hEnd⟩ := HF.out _ G1 hbA hG1 hzA
  obtain ⟨W3, hW3⟩ : ∃ W3, w2.alloc (.cells #[.int .i64 F.rows, .int .i64 F.cols, .slice (some ⟨G1, 0, none⟩) P1 P1, .int .i64 F.row, .int .i64 F.col] 35) = W3 := ⟨_, rfl⟩
  rw [hW3] at hfz hlB c0 c1 c2 c3 c4 c5 hEnd hfb
  obtain ⟨⟨y0, y1, y2, y3, y4⟩, _⟩ := hfb.cells
  have f0 := hfz 0
  have f1 := hfz 1
  have f2 := hfz 2
  have f3 := hfz 3
  have f4 := hfz 4
  have f10 := hfz 10
  unfold set5 at hEnd
  clear HF HR HN x0 x1 x2 x3 x4 hbA hzA hfb hb2 hz1 hl1 hfz HPL
  go_wp2_with fail
  go_ret
  exact ⟨rfl, G1, hG1, hEnd.out.1, hEnd.out.2⟩
end
end Go.Proofs.YtpkjaallhhjleaaGreatDoor
