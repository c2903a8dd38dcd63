/-
  limnerref05: Go: what it returns, and leaves.
-/
import Derived.Test.YtpkfmhggaiifgaaUnRef1
namespace Go.Proofs.Ytpkfmhggaiifgaa
open Go.RowKit

theorem size_set (w : World) (a : Addr) (v : Value) : (w.setCell a v).heap.size = w.heap.size := by
  show (w.heap.modify _ _).size = _
  rw [Array.size_modify]

section
variable {ok : Nat → Prop} {R t : Nat} {L : List (ByteArray × Int)} {op : Int} {sl : Value}

set_option maxHeartbeats 1000000 in
theorem rgo_no (way v : Int) (w : World) (h : RefW ok w R L t op sl) (hv : (t : Int) + way = v) (hw : -1 ≤ way ∧ way ≤ 1) (hno : v < 0 ∨ (L.length : Int) ≤ v) :
    Calls Try.prog 13 #[.pointer (some ⟨R, 0, none⟩), .int .i64 way] w fun e w' => e = .returned (.tuple #[.agg #[.string ⟨#[]⟩, .int .i64 0], .bool false]) ∧ Below w.heap.size w w' := by
  obtain ⟨⟨c0, c1, _⟩, _⟩ := h.blk.cells
  obtain ⟨ao, cap, rfl, hcap, _⟩ := h.row
  have hnow := h.now
  have hfew := h.few
  obtain ⟨n, hn⟩ : ∃ n, L.length = n := ⟨_, rfl⟩
  rw [hn] at hnow c0 hno hfew
  have t0 : (0 : Int) ≤ (t : Int) := by omega
  have t1 : (t : Int) ≤ 101 := by omega
  have w1 : -1 ≤ way := hw.1
  have w2 : way ≤ 1 := hw.2
  have v0 : -1 ≤ v := by omega
  have v1 : v ≤ 102 := by omega
  have vw : IntKind.i64.wrap v = v := by rw [IntKind.wrap_i64]; omega
  have HW : Hid (∀ W, w.alloc (.cells #[.string ⟨#[]⟩, .int .i64 0] 35) = W → Below w.heap.size w W ∧ blk2 W w.heap.size (.string ⟨#[]⟩) (.int .i64 0) ∧
      W.cell? ⟨R, 0, none⟩ = some (.slice ao n cap) ∧ W.cell? ⟨R, 1, none⟩ = some (.int .i64 (t : Int))) := fun W hW => by
    have hb : Below w.heap.size w W := by rw [← hW]; exact (Below.refl _ w).alloc (Nat.le_refl _) _
    refine ⟨hb, by rw [← hW]; exact heap_alloc_new w _, ?_, ?_⟩
    · rw [hb.cell (p := ⟨R, 0, none⟩) (rlt c0)]; exact c0
    · rw [hb.cell (p := ⟨R, 1, none⟩) (rlt c1)]; exact c1
  have fin : Hid (∀ W q, Below w.heap.size w W → blk2 W w.heap.size (.string ⟨#[]⟩) (.int .i64 0) → Below w.heap.size w (((W.drewN q).setCell ⟨w.heap.size, 0, none⟩ (.string ⟨#[]⟩)).setCell ⟨w.heap.size, 1, none⟩ (.int .i64 0)) ∧
      blk2 (((W.drewN q).setCell ⟨w.heap.size, 0, none⟩ (.string ⟨#[]⟩)).setCell ⟨w.heap.size, 1, none⟩ (.int .i64 0)) w.heap.size (.string ⟨#[]⟩) (.int .i64 0)) := fun W q hb hB => by
    have hB' : blk2 (W.drewN q) w.heap.size (.string ⟨#[]⟩) (.int .i64 0) := hB
    exact ⟨((hb.trans ((below_drewNr W q).mono hb.size)).setCell (p := ⟨w.heap.size, 0, none⟩) (Nat.le_refl _) _).setCell (p := ⟨w.heap.size, 1, none⟩) (Nat.le_refl _) _, (hB'.set0 _).set1 _⟩
  clear h hcap hn c0 c1
  by_cases hneg : v < 0
  · have d0 : decide (v < 0) = true := decide_eq_true hneg
    clear hno
    go_enter Try.func13, Try.ntmps13
    go_wp2
    obtain ⟨W, hW⟩ : ∃ W, w.alloc (.cells #[.string ⟨#[]⟩, .int .i64 0] 35) = W := ⟨_, rfl⟩
    obtain ⟨hb, hB, c0, c1⟩ := HW.out W hW
    obtain ⟨⟨b0, b1⟩, f0, f1⟩ := hB.cells
    rw [hW]
    clear hW HW
    go_quiet (fail)
    obtain ⟨k1, k2⟩ := fin.out W nq hb hB
    obtain ⟨⟨y0, y1⟩, _⟩ := k2.cells
    have K1 := Lib.hid k1
    have Y0 := Lib.hid y0
    have Y1 := Lib.hid y1
    clear hb hB fin k1 k2 y0 y1 hv
    go_wp2
    obtain ⟨X, hX⟩ : ∃ X, ((W.drewN nq).setCell ⟨w.heap.size, 0, none⟩ (.string ⟨#[]⟩)).setCell ⟨w.heap.size, 1, none⟩ (.int .i64 0) = X := ⟨_, rfl⟩
    have kb := K1.out
    have y0 := Y0.out
    have y1 := Y1.out
    rw [hX] at kb y0 y1 ⊢
    exact bodyPost_ret (v := .tuple #[.agg #[.string ⟨#[]⟩, .int .i64 0], .bool false]) (by simp [results, Try.results13, go_sem, y0, y1]) rfl ⟨rfl, kb⟩
  · have d0 : decide (v < 0) = false := decide_eq_false hneg
    have hge : (n : Int) ≤ v := by omega
    have d1 : decide ((n : Int) ≤ v) = true := decide_eq_true hge
    clear hno
    go_enter Try.func13, Try.ntmps13
    go_wp2
    obtain ⟨W, hW⟩ : ∃ W, w.alloc (.cells #[.string ⟨#[]⟩, .int .i64 0] 35) = W := ⟨_, rfl⟩
    obtain ⟨hb, hB, c0, c1⟩ := HW.out W hW
    obtain ⟨⟨b0, b1⟩, f0, f1⟩ := hB.cells
    rw [hW]
    clear hW HW
    go_quiet (fail)
    obtain ⟨k1, k2⟩ := fin.out W nq hb hB
    obtain ⟨⟨y0, y1⟩, _⟩ := k2.cells
    have K1 := Lib.hid k1
    have Y0 := Lib.hid y0
    have Y1 := Lib.hid y1
    clear hb hB fin k1 k2 y0 y1 hv
    go_wp2
    obtain ⟨X, hX⟩ : ∃ X, ((W.drewN nq).setCell ⟨w.heap.size, 0, none⟩ (.string ⟨#[]⟩)).setCell ⟨w.heap.size, 1, none⟩ (.int .i64 0) = X := ⟨_, rfl⟩
    have kb := K1.out
    have y0 := Y0.out
    have y1 := Y1.out
    rw [hX] at kb y0 y1 ⊢
    exact bodyPost_ret (v := .tuple #[.agg #[.string ⟨#[]⟩, .int .i64 0], .bool false]) (by simp [results, Try.results13, go_sem, y0, y1]) rfl ⟨rfl, kb⟩

set_option maxHeartbeats 2000000 in
theorem rgo_yes {s : ByteArray} {c : Int} (t' : Nat) (way : Int) (w : World) (h : RefW ok w R L t op sl) (hv : (t : Int) + way = (t' : Int)) (hw : -1 ≤ way ∧ way ≤ 1) (hp : L[t']? = some (s, c)) :
    Calls Try.prog 13 #[.pointer (some ⟨R, 0, none⟩), .int .i64 way] w fun e w' => e = .returned (.tuple #[.agg #[.string s, .int .i64 c], .bool true]) ∧ RefW ok w' R L t' 0 sl ∧ KeepW (fun k => k ≠ R) w w' := by
  have hR := h.blk.lt
  obtain ⟨⟨c0, c1, c2⟩, _⟩ := h.blk.cells
  obtain ⟨ao, cap, rfl, hcap, _⟩ := id h.row
  have hfew := h.few
  have hlt := (List.getElem?_eq_some_iff.1 hp).1
  obtain ⟨n, hn⟩ : ∃ n, L.length = n := ⟨_, rfl⟩
  have t0 : (0 : Int) ≤ (t : Int) := by omega
  have t1 : (t : Int) ≤ 101 := by have := h.now; omega
  have w1 : -1 ≤ way := hw.1
  have w2 : way ≤ 1 := hw.2
  have v0 : (0 : Int) ≤ (t' : Int) := by omega
  have v1 : (t' : Int) < (n : Int) := by omega
  have v2 : (n : Int) ≤ 101 := by omega
  have vw : IntKind.i64.wrap (t' : Int) = (t' : Int) := by rw [IntKind.wrap_i64]; omega
  have HW : Hid (∀ W, w.alloc (.cells #[.string ⟨#[]⟩, .int .i64 0] 35) = W → (W.cell? ⟨R, 0, none⟩ = some (.slice ao n cap) ∧ W.cell? ⟨R, 1, none⟩ = some (.int .i64 (t : Int)) ∧ W.cell? ⟨R, 2, none⟩ = some (.int .i64 op)) ∧
      (W.frozen? ⟨R, 1, none⟩ = false ∧ W.frozen? ⟨R, 2, none⟩ = false) ∧
      ∀ q X, ((W.drewN q).setCell ⟨R, 1, none⟩ (.int .i64 (t' : Int))).setCell ⟨R, 2, none⟩ (.int .i64 0) = X →
        Calls Try.prog 21 #[.pointer (some ⟨R, 0, none⟩)] X (fun e w' => e = .returned (.agg #[.string s, .int .i64 c]) ∧ Below X.heap.size X w') ∧
        ∀ V, Below X.heap.size X V → blk2 V w.heap.size (.string ⟨#[]⟩) (.int .i64 0) ∧ ∀ Y, (V.setCell ⟨w.heap.size, 0, none⟩ (.string s)).setCell ⟨w.heap.size, 1, none⟩ (.int .i64 c) = Y →
          blk2 Y w.heap.size (.string s) (.int .i64 c) ∧ RefW ok Y R L t' 0 (.slice ao L.length cap) ∧ KeepW (fun k => k ≠ R) w Y) := fun W hW => by
    have hb : Below w.heap.size w W := by rw [← hW]; exact (Below.refl _ w).alloc (Nat.le_refl _) _
    have hB : blk2 W w.heap.size (.string ⟨#[]⟩) (.int .i64 0) := by rw [← hW]; exact heap_alloc_new w _
    have hsz : W.heap.size = w.heap.size + 1 := by rw [← hW]; simp
    have hk : blk3 W R (.slice ao L.length cap) (.int .i64 (t : Int)) (.int .i64 op) := (hb.block R hR).trans h.blk
    obtain ⟨⟨k0, k1, k2⟩, kf⟩ := hk.cells
    rw [hn] at k0
    refine ⟨⟨k0, k1, k2⟩, ⟨kf 1, kf 2⟩, fun q X hX => ?_⟩
    have hkX : blk3 X R (.slice ao L.length cap) (.int .i64 (t' : Int)) (.int .i64 0) := by
      have hkq : blk3 (W.drewN q) R (.slice ao L.length cap) (.int .i64 (t : Int)) (.int .i64 op) := hk
      rw [← hX]; exact (hkq.set1 _).set2 _
    have kX : ∀ ok' : Nat → Prop, ¬ ok' R → KeepW ok' w X := fun ok' ho => by
      rw [← hX]
      exact ((keep_below ok' hb).trans (keep_drewN ok' W q)).trans ((keep_set _ _ _ _ _ ho).trans (keep_set _ _ _ _ _ ho))
    have hXs : X.heap.size = w.heap.size + 1 := by
      rw [← hX, ← hsz, size_set, size_set]
      rfl
    have hBX : blk2 X w.heap.size (.string ⟨#[]⟩) (.int .i64 0) := by
      have hBq : blk2 (W.drewN q) w.heap.size (.string ⟨#[]⟩) (.int .i64 0) := hB
      have : X.heap[w.heap.size]? = (W.drewN q).heap[w.heap.size]? := by
        rw [← hX, Below.heap_setCell _ _ _ _ (show w.heap.size ≠ R by omega), Below.heap_setCell _ _ _ _ (show w.heap.size ≠ R by omega)]
      exact this.trans hBq
    have hRX : RefW ok X R L t' 0 (.slice ao L.length cap) := ⟨hkX, h.out, h.row.keep (kX ok h.out), hlt, h.few⟩
    refine ⟨rnow_any X hRX hp, fun V hV => ?_⟩
    have hBV : blk2 V w.heap.size (.string ⟨#[]⟩) (.int .i64 0) := (hV.block _ (by omega)).trans hBX
    refine ⟨hBV, fun Y hY => ?_⟩
    have kY : ∀ ok' : Nat → Prop, ¬ ok' R → KeepW ok' w Y := fun ok' ho => by
      have h1 := (kX (fun k => ok' k ∧ k < w.heap.size) (fun k => ho k.1)).trans (keep_below _ hV)
      have h2 : KeepW (fun k => ok' k ∧ k < w.heap.size) V Y := by
        rw [← hY]
        exact (keep_set _ _ _ _ _ (fun k => Nat.lt_irrefl _ k.2)).trans (keep_set _ _ _ _ _ (fun k => Nat.lt_irrefl _ k.2))
      exact (h1.trans h2).mono fun k hk ho => ⟨ho, hk⟩
    have hRY : Y.heap[R]? = X.heap[R]? := by
      rw [← hV.block R (by omega), ← hY, Below.heap_setCell _ _ _ _ (show R ≠ w.heap.size by omega), Below.heap_setCell _ _ _ _ (show R ≠ w.heap.size by omega)]
    exact ⟨by rw [← hY]; exact (hBV.set0 _).set1 _, ⟨hRY.trans hkX, h.out, h.row.keep (kY ok h.out), hlt, h.few⟩, kY _ fun k => k rfl⟩
  obtain ⟨N, hN⟩ : ∃ N, L.length = N := ⟨_, rfl⟩
  rw [hN] at HW ⊢
  have d0 : decide ((t' : Int) < 0) = false := decide_eq_false (by omega)
  have d1 : decide ((n : Int) ≤ (t' : Int)) = false := decide_eq_false (by omega)
  clear h hcap hn c0 c1 c2 hlt hp hfew hN hR hw
  go_enter Try.func13, Try.ntmps13
  go_wp2
  obtain ⟨W, hW⟩ : ∃ W, w.alloc (.cells #[.string ⟨#[]⟩, .int .i64 0] 35) = W := ⟨_, rfl⟩
  obtain ⟨⟨c0, c1, c2⟩, ⟨f1, f2⟩, Z⟩ := HW.out W hW
  rw [hW]
  have HZ := Lib.hid Z
  clear hW HW Z
  go_quiet (fail)
  obtain ⟨X, hX⟩ : ∃ X, ((W.drewN nq).setCell ⟨R, 1, none⟩ (.int .i64 (t' : Int))).setCell ⟨R, 2, none⟩ (.int .i64 0) = X := ⟨_, rfl⟩
  obtain ⟨C, D⟩ := HZ.out nq X hX
  have HC := Lib.hid C
  have HD := Lib.hid D
  have EX := Lib.hid hX
  clear HZ C D hX
  go_wp2_with fail
  rw [EX.out]
  go_fit HC.out
  rintro e V ⟨rfl, hV⟩
  obtain ⟨hB, Y⟩ := HD.out V hV
  obtain ⟨⟨b0, b1⟩, g0, g1⟩ := hB.cells
  have HY := Lib.hid Y
  clear HC HD EX hB Y hV c0 c1 c2 f1 f2
  go_wp2
  obtain ⟨Y, hY⟩ : ∃ Y, (V.setCell ⟨w.heap.size, 0, none⟩ (.string s)).setCell ⟨w.heap.size, 1, none⟩ (.int .i64 c) = Y := ⟨_, rfl⟩
  obtain ⟨hBY, hRY, hKY⟩ := HY.out Y hY
  obtain ⟨⟨y0, y1⟩, _⟩ := hBY.cells
  rw [hY]
  exact bodyPost_ret (v := .tuple #[.agg #[.string s, .int .i64 c], .bool true]) (by simp [results, Try.results13, go_sem, y0, y1]) rfl ⟨rfl, hRY, hKY⟩
end
end Go.Proofs.Ytpkfmhggaiifgaa
