/-
  limnerref05: Do: what it leaves.
-/
import Derived.Test.YtpkfmhggaiifgaaUnRefMove
namespace Go.Proofs.Ytpkfmhggaiifgaa
open Go.RowKit

section
variable {ok : Nat → Prop} {R t : Nat} {L : List (ByteArray × Int)} {op : Int} {sl : Value}

/-- The last stores. -/
theorem rdo_fin {w V : World} {n t' : Nat} {v : Value} {L' : List (ByteArray × Int)} {op' : Int} (h : RefW ok w R L t op sl) (hV : Below w.heap.size w V) (hr : RowV ok V v n (rfC L')) (hn : L'.length = n) (ht : t' < n) (hf : n ≤ 101) :
    (∃ sl', RefW ok (((V.setCell ⟨R, 0, none⟩ v).setCell ⟨R, 1, none⟩ (.int .i64 (t' : Int))).setCell ⟨R, 2, none⟩ (.int .i64 op')) R L' t' op' sl') ∧ KeepW (fun k => k ≠ R) w (((V.setCell ⟨R, 0, none⟩ v).setCell ⟨R, 1, none⟩ (.int .i64 (t' : Int))).setCell ⟨R, 2, none⟩ (.int .i64 op')) := by
  have hk : blk3 V R sl (.int .i64 (t : Int)) (.int .i64 op) := (hV.block R h.blk.lt).trans h.blk
  have kY : ∀ ok' : Nat → Prop, ¬ ok' R → KeepW ok' V (((V.setCell ⟨R, 0, none⟩ v).setCell ⟨R, 1, none⟩ (.int .i64 (t' : Int))).setCell ⟨R, 2, none⟩ (.int .i64 op')) := fun ok' ho =>
    ((keep_set _ _ _ _ _ ho).trans (keep_set _ _ _ _ _ ho)).trans (keep_set _ _ _ _ _ ho)
  exact ⟨⟨v, ((hk.set0 _).set1 _).set2 _, h.out, by rw [hn]; exact hr.keep (kY _ h.out), by omega, by omega⟩, (keep_below _ hV).trans (kY _ fun k => k rfl)⟩
theorem rdo_fin2 {w V : World} {n t' : Nat} {v : Value} {L' : List (ByteArray × Int)} {op' : Int} (h : RefW ok w R L t op sl) (hV : Below w.heap.size w V) (hr : RowV ok V v n (rfC L')) (hn : L'.length = n) (ht : t' < n) (hf : n ≤ 101) :
    (∃ sl', RefW ok ((((V.setCell ⟨R, 0, none⟩ v).setCell ⟨R, 1, none⟩ (.int .i64 (t' : Int))).setCell ⟨R, 2, none⟩ (.int .i64 0)).setCell ⟨R, 2, none⟩ (.int .i64 op')) R L' t' op' sl') ∧ KeepW (fun k => k ≠ R) w ((((V.setCell ⟨R, 0, none⟩ v).setCell ⟨R, 1, none⟩ (.int .i64 (t' : Int))).setCell ⟨R, 2, none⟩ (.int .i64 0)).setCell ⟨R, 2, none⟩ (.int .i64 op')) := by
  have hk : blk3 V R sl (.int .i64 (t : Int)) (.int .i64 op) := (hV.block R h.blk.lt).trans h.blk
  have kY : ∀ ok' : Nat → Prop, ¬ ok' R → KeepW ok' V ((((V.setCell ⟨R, 0, none⟩ v).setCell ⟨R, 1, none⟩ (.int .i64 (t' : Int))).setCell ⟨R, 2, none⟩ (.int .i64 0)).setCell ⟨R, 2, none⟩ (.int .i64 op')) := fun ok' ho =>
    (((keep_set _ _ _ _ _ ho).trans (keep_set _ _ _ _ _ ho)).trans (keep_set _ _ _ _ _ ho)).trans (keep_set _ _ _ _ _ ho)
  exact ⟨⟨v, (((hk.set0 _).set1 _).set2 _).set2 _, h.out, by rw [hn]; exact hr.keep (kY _ h.out), by omega, by omega⟩, (keep_below _ hV).trans (kY _ fun k => k rfl)⟩
theorem pair_one (s : ByteArray) (c : Int) : ∀ u ∈ ([.string s, .int .i64 c] : List Value), u.oneCell' = true := rfC_cell [(s, c)]
theorem take_set (L : List (ByteArray × Int)) (t : Nat) (p : ByteArray × Int) (h : t < L.length) : (L.take (t + 1)).set t p = L.take t ++ [p] := by
  rw [List.take_succ_eq_append_getElem h, List.set_append, List.length_take, Nat.min_eq_left (Nat.le_of_lt h), if_neg (Nat.lt_irrefl _), Nat.sub_self]
  rfl

set_option maxHeartbeats 4000000 in
theorem rdo_open (s : ByteArray) (c g : Int) (w : World) (h : RefW ok w R L t op sl) (hg : 0 < g ∧ op = g) (hok : ∀ k, w.heap.size ≤ k → ok k) :
    Calls Try.prog 19 #[.pointer (some ⟨R, 0, none⟩), .string s, .int .i64 c, .int .i64 g] w fun e w' => e = .returned (.tuple #[]) ∧ (∃ sl', RefW ok w' R (L.take t ++ [(s, c)]) t g sl') ∧ KeepW (fun k => k ≠ R) w w' := by
  obtain ⟨i0, hi, hz0, hz1, hz2⟩ := info_parts Try.infoRState
  have hR := h.blk.lt
  have hnow := h.now
  have hfew := h.few
  obtain ⟨p0, hp⟩ : ∃ p0, L[t]? = some p0 := ⟨_, List.getElem?_eq_getElem hnow⟩
  have hat := rfC_at L t p0 hp
  obtain ⟨gl, o, cap, hsl, hcap, _, hcell⟩ := h.row.at_ hat.1
  have hlt1 : (L.take (t + 1)).length = t + 1 := by rw [List.length_take]; omega
  have HRF : Hid (∀ W, Below w.heap.size w W → (W.cell? ⟨R, 0, none⟩ = some sl ∧ W.cell? ⟨R, 1, none⟩ = some (.int .i64 (t : Int)) ∧ W.cell? ⟨R, 2, none⟩ = some (.int .i64 op)) ∧
      (W.frozen? ⟨R, 0, none⟩ = false ∧ W.frozen? ⟨R, 1, none⟩ = false ∧ W.frozen? ⟨R, 2, none⟩ = false) ∧
      Hid (∀ j u, (rfC (L.take (t + 1)))[j]? = some u → W.cell? ((⟨gl, o, none⟩ : Addr).add j) = some u)) := fun W hW => by
    have hk : blk3 W R sl (.int .i64 (t : Int)) (.int .i64 op) := (hW.block R hR).trans h.blk
    obtain ⟨q, qf⟩ := hk.cells
    refine ⟨q, ⟨qf 0, qf 1, qf 2⟩, fun j u hu => ?_⟩
    rw [← rfC_take, List.getElem?_take] at hu
    split at hu
    · have := hcell j u hu
      rw [rlit, hW.cell (p := ⟨gl, o + j, none⟩) (rlt this)]
      exact this
    · cases hu
  have HW1 : Hid (∀ W1, w.alloc (.cells #[.string s, .int .i64 c] 35) = W1 → Below w.heap.size w W1 ∧ W1.heap.size = w.heap.size + 1 ∧ blk2 W1 w.heap.size (.string s) (.int .i64 c)) := fun W1 hW1 => by
    refine ⟨?_, ?_, by rw [← hW1]; exact heap_alloc_new w _⟩
    · rw [← hW1]; exact (Below.refl _ w).alloc (Nat.le_refl _) _
    · rw [← hW1]; simp
  have HOK := Lib.hid hok
  have HNL := Lib.hid h.now
  have HF := Lib.hid (fun (V : World) n t' v L' op' (hV : Below w.heap.size w V) (hr : RowV ok V v n (rfC L')) (hn : L'.length = n) (ht : t' < n) (hf : n ≤ 101) => rdo_fin2 (V := V) (t' := t') (op' := op') h hV hr hn ht hf)
  have HL : Hid ((rfC (L.take (t + 1))).length = (t + 1) * 2) := by show _ = _; rw [rfC_len, hlt1]
  have HLt := Lib.hid hlt1
  have HO := Lib.hid (rfC_cell (L.take (t + 1)))
  have HI := Lib.hid hi
  have H0 := Lib.hid hz0
  have H1 := Lib.hid hz1
  have H2 := Lib.hid hz2
  subst hsl
  have t0 : (0 : Int) ≤ (t : Int) := by omega
  have t1 : (t : Int) ≤ 100 := by omega
  have t2 : (t : Int) + 1 ≤ (cap : Int) := by omega
  have t3 : (0 : Int) ≤ (t : Int) + 1 := by omega
  have tn : ((t : Int) + 1).toNat = t + 1 := by omega
  have tw : IntKind.i64.wrap ((t : Int) + 1) = (t : Int) + 1 := by rw [IntKind.wrap_i64]; omega
  obtain ⟨n, hn⟩ : ∃ n, L.length = n := ⟨_, rfl⟩
  rw [hn] at HRF hnow hcap hfew
  have tcn : (n : Int) ≤ (cap : Int) := by omega
  have tcm : (t : Int) + 1 ≤ (n : Int) := by omega
  have g0 : 0 < g := hg.1
  obtain rfl := hg.2
  clear h hat hcell hp hok hi hz0 hz1 hz2 hlt1 hn hcap hg
  go_enter Try.func19, Try.ntmps19
  go_wp2
  obtain ⟨W1, hW1⟩ : ∃ W1, w.alloc (.cells #[.string s, .int .i64 c] 35) = W1 := ⟨_, rfl⟩
  obtain ⟨b1, s1, B1⟩ := HW1.out W1 hW1
  obtain ⟨⟨r0, r1, r2⟩, _, N1⟩ := HRF.out W1 b1
  rw [hW1]
  have HB1 := Lib.hid B1
  have HS1 := Lib.hid s1
  have Hb1 := Lib.hid b1
  clear hW1 HW1 B1 s1 b1
  go_region_held3 (fun W => W.cell? ⟨R, 0, none⟩ = some (.slice (some ⟨gl, o, none⟩) n cap) ∧ W.cell? ⟨R, 1, none⟩ = some (.int .i64 (t : Int))) (first | go_keep | exact ⟨q0, q1⟩)
    ((refine step_append_lies _ (by rfl) _ _ _ (by rfl) (w.heap.size + 1) 35 i0 _ 2 24 Try.underlying47 HI.out H0.out H1.out H2.out (by rfl) (by omega) (.slice none 0 0) 0 [] (by rfl) (World.ownsRow_nil _ _ _ _) ⟨gl, o, none⟩ (t + 1) cap (rfC (L.take (t + 1))) (by rfl) HL.out N1.out HO.out (by omega) (by unfold maxLen; omega) (by omega) (by show w.heap.size + 1 ≤ W1.heap.size; rw [HS1.out]; exact Nat.le_refl _) W1.heap.size (by rfl) ?_; intro g2 cap2 w2 hown hgr hat2 hlt2; obtain ⟨⟨q0, q1, q2⟩, ⟨f0, f1, f2⟩, N2⟩ := HRF.out w2 (Hb1.out.grown ⟨hgr.os, hgr.tape, hgr.output, hgr.size, hgr.block⟩ Hb1.out.size (fun k e => by cases e))))
  have b2 : Below w.heap.size w w2 := Hb1.out.grown ⟨hgr.os, hgr.tape, hgr.output, hgr.size, hgr.block⟩ Hb1.out.size (fun k e => by cases e)
  rw [Nat.zero_add, List.nil_append] at hown
  have hgl := hown.lt g2 rfl
  have B2 : blk2 w2 w.heap.size (.string s) (.int .i64 c) := (hgr.block w.heap.size (by show _ < W1.heap.size; rw [HS1.out]; omega) (by simp [Value.ownBlock])).trans HB1.out
  obtain ⟨⟨z0, z1⟩, _⟩ := B2.cells
  have Hg2 : Hid (w.heap.size + 1 ≤ g2) := hgl.1
  have Hb2 := Lib.hid b2
  have Hown := Lib.hid hown
  have a0 := hown.cellAt (t * 2) (by omega)
  have a1 := hown.cellAt (t * 2 + 1) (by omega)
  obtain ⟨e0, he0⟩ : ∃ e0, (rfC (L.take (t + 1)))[t * 2]? = some e0 := ⟨_, List.getElem?_eq_getElem (by rw [HL.out]; omega)⟩
  obtain ⟨e1, he1⟩ : ∃ e1, (rfC (L.take (t + 1)))[t * 2 + 1]? = some e1 := ⟨_, List.getElem?_eq_getElem (by rw [HL.out]; omega)⟩
  rw [he0] at a0
  rw [he1] at a1
  have fa0 := hown.frozenAt (t * 2)
  have fa1 := hown.frozenAt (t * 2 + 1)
  clear hgr hat2 hlt2 N1 N2 r0 r1 r2 hown hgl b2 B2 HB1 HS1 Hb1 he0 he1
  go_wp2
  go_region
  have st1 := Hown.out.stored (t * 2) (.string s)
  have st2 := st1.1.stored (t * 2 + 1) (.int .i64 c)
  rw [rfC_set (L.take (t + 1)) t (s, c) (by rw [HLt.out]; omega), take_set L t (s, c) HNL.out] at st2
  have bX : Below w.heap.size w ((w2.setCell ⟨g2, t * 2, none⟩ (.string s)).setCell ⟨g2, t * 2 + 1, none⟩ (.int .i64 c)).drew :=
    ((Hb2.out.setCell (p := ⟨g2, t * 2, none⟩) (by have := Hg2.out; show _ ≤ g2; omega) _).setCell (p := ⟨g2, t * 2 + 1, none⟩) (by have := Hg2.out; show _ ≤ g2; omega) _).drew
  have rX : RowV ok ((w2.setCell ⟨g2, t * 2, none⟩ (.string s)).setCell ⟨g2, t * 2 + 1, none⟩ (.int .i64 c)).drew (.slice (some ⟨g2, 0, none⟩) (t + 1) cap2) (t + 1) (rfC (L.take t ++ [(s, c)])) := (own_row st2.1 (HOK.out g2 (by have := Hg2.out; omega))).keep (keep_drew _ _)
  obtain ⟨X, hX⟩ : ∃ X, ((w2.setCell ⟨g2, t * 2, none⟩ (.string s)).setCell ⟨g2, t * 2 + 1, none⟩ (.int .i64 c)).drew = X := ⟨_, rfl⟩
  rw [hX] at bX rX ⊢
  obtain ⟨⟨q0, q1, q2⟩, ⟨f0, f1, f2⟩, _⟩ := HRF.out X bX
  have HZ := Lib.hid (HF.out X (t + 1) t _ (L.take t ++ [(s, c)]) op bX rX (by rw [List.length_append, List.length_take, Nat.min_eq_left (Nat.le_of_lt HNL.out)]; rfl) (by omega) (by omega))
  have t5 : (t : Int) + 1 ≤ 101 := by omega
  clear st1 st2 bX rX hX HRF HF Hown a0 a1 fa0 fa1 z0 z1
  go_wp2
  go_end0
  exact ⟨rfl, HZ.out⟩

set_option maxHeartbeats 4000000 in
theorem rdo_few0 (s : ByteArray) (c g : Int) (w : World) (h : RefW ok w R L t op sl) (hg : g ≤ 0 ∧ t ≤ 99) (hok : ∀ k, w.heap.size ≤ k → ok k) :
    Calls Try.prog 19 #[.pointer (some ⟨R, 0, none⟩), .string s, .int .i64 c, .int .i64 g] w fun e w' => e = .returned (.tuple #[]) ∧ (∃ sl', RefW ok w' R (L.take (t + 1) ++ [(s, c)]) (t + 1) 0 sl') ∧ KeepW (fun k => k ≠ R) w w' := by
  obtain ⟨i0, hi, hz0, hz1, hz2⟩ := info_parts Try.infoRState
  have hR := h.blk.lt
  have hnow := h.now
  have hfew := h.few
  obtain ⟨p0, hp⟩ : ∃ p0, L[t]? = some p0 := ⟨_, List.getElem?_eq_getElem hnow⟩
  have hat := rfC_at L t p0 hp
  obtain ⟨gl, o, cap, hsl, hcap, _, hcell⟩ := h.row.at_ hat.1
  have hlt1 : (L.take (t + 1)).length = t + 1 := by rw [List.length_take]; omega
  have HRF : Hid (∀ W, Below w.heap.size w W → (W.cell? ⟨R, 0, none⟩ = some sl ∧ W.cell? ⟨R, 1, none⟩ = some (.int .i64 (t : Int)) ∧ W.cell? ⟨R, 2, none⟩ = some (.int .i64 op)) ∧
      (W.frozen? ⟨R, 0, none⟩ = false ∧ W.frozen? ⟨R, 1, none⟩ = false ∧ W.frozen? ⟨R, 2, none⟩ = false) ∧
      Hid (∀ j u, (rfC (L.take (t + 1)))[j]? = some u → W.cell? ((⟨gl, o, none⟩ : Addr).add j) = some u)) := fun W hW => by
    have hk : blk3 W R sl (.int .i64 (t : Int)) (.int .i64 op) := (hW.block R hR).trans h.blk
    obtain ⟨q, qf⟩ := hk.cells
    refine ⟨q, ⟨qf 0, qf 1, qf 2⟩, fun j u hu => ?_⟩
    rw [← rfC_take, List.getElem?_take] at hu
    split at hu
    · have := hcell j u hu
      rw [rlit, hW.cell (p := ⟨gl, o + j, none⟩) (rlt this)]
      exact this
    · cases hu
  have HW1 : Hid (∀ W1, w.alloc (.cells #[.string s, .int .i64 c] 35) = W1 → Below w.heap.size w W1 ∧ W1.heap.size = w.heap.size + 1 ∧ blk2 W1 w.heap.size (.string s) (.int .i64 c)) := fun W1 hW1 => by
    refine ⟨?_, ?_, by rw [← hW1]; exact heap_alloc_new w _⟩
    · rw [← hW1]; exact (Below.refl _ w).alloc (Nat.le_refl _) _
    · rw [← hW1]; simp
  have HOK := Lib.hid hok
  have HNL := Lib.hid h.now
  have HF := Lib.hid (fun (V : World) n t' v L' op' (hV : Below w.heap.size w V) (hr : RowV ok V v n (rfC L')) (hn : L'.length = n) (ht : t' < n) (hf : n ≤ 101) => rdo_fin (V := V) (t' := t') (op' := op') h hV hr hn ht hf)
  have HL : Hid ((rfC (L.take (t + 1))).length = (t + 1) * 2) := by show _ = _; rw [rfC_len, hlt1]
  have HLt := Lib.hid hlt1
  have HO := Lib.hid (rfC_cell (L.take (t + 1)))
  have HI := Lib.hid hi
  have H0 := Lib.hid hz0
  have H1 := Lib.hid hz1
  have H2 := Lib.hid hz2
  subst hsl
  have t0 : (0 : Int) ≤ (t : Int) := by omega
  have t1 : (t : Int) ≤ 100 := by omega
  have t2 : (t : Int) + 1 ≤ (cap : Int) := by omega
  have t3 : (0 : Int) ≤ (t : Int) + 1 := by omega
  have tn : ((t : Int) + 1).toNat = t + 1 := by omega
  have tw : IntKind.i64.wrap ((t : Int) + 1) = (t : Int) + 1 := by rw [IntKind.wrap_i64]; omega
  obtain ⟨n, hn⟩ : ∃ n, L.length = n := ⟨_, rfl⟩
  rw [hn] at HRF hnow hcap hfew
  have tcn : (n : Int) ≤ (cap : Int) := by omega
  have tcm : (t : Int) + 1 ≤ (n : Int) := by omega
  have g0 : g ≤ 0 := hg.1
  have t9 : (t : Int) ≤ 99 := by omega
  clear h hat hcell hp hok hi hz0 hz1 hz2 hlt1 hn hcap hg
  go_enter Try.func19, Try.ntmps19
  go_wp2
  obtain ⟨W1, hW1⟩ : ∃ W1, w.alloc (.cells #[.string s, .int .i64 c] 35) = W1 := ⟨_, rfl⟩
  obtain ⟨b1, s1, B1⟩ := HW1.out W1 hW1
  obtain ⟨⟨r0, r1, r2⟩, _, N1⟩ := HRF.out W1 b1
  rw [hW1]
  have HB1 := Lib.hid B1
  have HS1 := Lib.hid s1
  have Hb1 := Lib.hid b1
  clear hW1 HW1 B1 s1 b1
  go_region_held3 (fun W => W.cell? ⟨R, 0, none⟩ = some (.slice (some ⟨gl, o, none⟩) n cap) ∧ W.cell? ⟨R, 1, none⟩ = some (.int .i64 (t : Int))) (first | go_keep | exact ⟨q0, q1⟩)
    ((refine step_append_lies _ (by rfl) _ _ _ (by rfl) (w.heap.size + 1) 35 i0 _ 2 24 Try.underlying47 HI.out H0.out H1.out H2.out (by rfl) (by omega) (.slice none 0 0) 0 [] (by rfl) (World.ownsRow_nil _ _ _ _) ⟨gl, o, none⟩ (t + 1) cap (rfC (L.take (t + 1))) (by rfl) HL.out N1.out HO.out (by omega) (by unfold maxLen; omega) (by omega) (by show w.heap.size + 1 ≤ W1.heap.size; rw [HS1.out]; exact Nat.le_refl _) W1.heap.size (by rfl) ?_; intro g2 cap2 w2 hown hgr hat2 hlt2; obtain ⟨⟨q0, q1, q2⟩, ⟨f0, f1, f2⟩, N2⟩ := HRF.out w2 (Hb1.out.grown ⟨hgr.os, hgr.tape, hgr.output, hgr.size, hgr.block⟩ Hb1.out.size (fun k e => by cases e))))
  have b2 : Below w.heap.size w w2 := Hb1.out.grown ⟨hgr.os, hgr.tape, hgr.output, hgr.size, hgr.block⟩ Hb1.out.size (fun k e => by cases e)
  rw [Nat.zero_add, List.nil_append] at hown
  have hgl := hown.lt g2 rfl
  have B2 : blk2 w2 w.heap.size (.string s) (.int .i64 c) := (hgr.block w.heap.size (by show _ < W1.heap.size; rw [HS1.out]; omega) (by simp [Value.ownBlock])).trans HB1.out
  obtain ⟨⟨z0, z1⟩, _⟩ := B2.cells
  have Hg2 : Hid (w.heap.size + 1 ≤ g2) := hgl.1
  have Hb2 := Lib.hid b2
  have Hown := Lib.hid hown
  clear hgr hat2 hlt2 N1 N2 r0 r1 r2 hown hgl b2 B2 HB1 HS1 Hb1
  have HA : Hid (∀ (W : World) H, W = w2.alloc (.cells #[.string s, .int .i64 c] 35) → w2.heap.size = H → W.ownsRow (w.heap.size + 1) 35 2 (.slice (some ⟨g2, 0, none⟩) (t + 1) cap2) (t + 1) (rfC (L.take (t + 1))) ∧ (∀ j u, ([.string s, .int .i64 c] : List Value)[j]? = some u → W.cell? ((⟨H, 0, none⟩ : Addr).add j) = some u) ∧ w.heap.size + 1 ≤ W.heap.size ∧
      ∀ V g3 cap3, V.ownsRow (w.heap.size + 1) 35 2 (.slice (some ⟨g3, 0, none⟩) (t + 1 + 1) cap3) (t + 1 + 1) (rfC (L.take (t + 1)) ++ [.string s, .int .i64 c]) → W.grownBy V (some g2) → Below w.heap.size w V ∧ RowV ok V (.slice (some ⟨g3, 0, none⟩) (t + 1 + 1) cap3) (t + 1 + 1) (rfC (L.take (t + 1) ++ [(s, c)])) ∧ w.heap.size + 1 ≤ g3) := fun W H hW hH => by
    subst hW
    have hb : Below w.heap.size w (w2.alloc (.cells #[.string s, .int .i64 c] 35)) := Hb2.out.alloc Hb2.out.size _
    have hg := Hown.out.lt g2 rfl
    refine ⟨Hown.out.alloc _, fun j u hu => ?_, by rw [World.size_alloc]; omega, fun V g3 cap3 hV hgV => ?_⟩
    · subst hH
      rw [rlit, cell_of_row _ _ _ _ _ (0, 0) (heap_alloc_new w2 _), Nat.zero_add, ← Array.getElem?_toList]
      exact hu
    · have h3 := hV.lt g3 rfl
      refine ⟨hb.grown hgV hb.size (fun k e => by cases e; omega), ?_, h3.1⟩
      rw [rfC_app, rfC_one]
      exact own_row hV (HOK.out g3 (by omega))
  go_wp2_with (at_builtin; obtain ⟨o1, n1, l1, o2⟩ := HA.out _ _ rfl rfl; have HN1 := Lib.hid n1; have HO2 := Lib.hid o2; clear n1 o2; refine wpList_append_lies _ rfl _ _ _ rfl (w.heap.size + 1) 35 i0 _ 2 24 Try.underlying47 HI.out H0.out H1.out H2.out rfl (by omega) (.slice (some ⟨g2, 0, none⟩) (t + 1) cap2) (t + 1) (rfC (L.take (t + 1))) (by rfl) o1 ⟨w2.heap.size, 0, none⟩ 1 1 [.string s, .int .i64 c] (by rfl) (by rfl) HN1.out (pair_one s c) (by omega) (by unfold maxLen; omega) (by omega) l1 _ rfl ?_; intro g3 cap3 w3 hown3 hgr3 _ hlt3; obtain ⟨b3, r3, Hg3⟩ := HO2.out w3 g3 cap3 hown3 hgr3; obtain ⟨⟨q0, q1, q2⟩, ⟨f0, f1, f2⟩, _⟩ := HRF.out w3 b3; have c3 := r3.cap; have c3i : (t : Int) + 2 ≤ (cap3 : Int) := (by omega); have Hb3 := Lib.hid b3; have Hr3 := Lib.hid r3; clear b3 r3 hown3 hgr3 hlt3)
  go_end0
  have Z := HF.out w3 (t + 1 + 1) (t + 1) _ (L.take (t + 1) ++ [(s, c)]) 0 Hb3.out Hr3.out (by rw [List.length_append, HLt.out]; rfl) (by omega) (by omega)
  have e : ((t + 1 : Nat) : Int) = (t : Int) + 1 := by omega
  rw [e] at Z
  exact ⟨rfl, Z⟩

set_option maxHeartbeats 4000000 in
theorem rdo_few1 (s : ByteArray) (c g : Int) (w : World) (h : RefW ok w R L t op sl) (hg : (0 < g ∧ op ≠ g) ∧ t ≤ 99) (hok : ∀ k, w.heap.size ≤ k → ok k) :
    Calls Try.prog 19 #[.pointer (some ⟨R, 0, none⟩), .string s, .int .i64 c, .int .i64 g] w fun e w' => e = .returned (.tuple #[]) ∧ (∃ sl', RefW ok w' R (L.take (t + 1) ++ [(s, c)]) (t + 1) g sl') ∧ KeepW (fun k => k ≠ R) w w' := by
  obtain ⟨i0, hi, hz0, hz1, hz2⟩ := info_parts Try.infoRState
  have hR := h.blk.lt
  have hnow := h.now
  have hfew := h.few
  obtain ⟨p0, hp⟩ : ∃ p0, L[t]? = some p0 := ⟨_, List.getElem?_eq_getElem hnow⟩
  have hat := rfC_at L t p0 hp
  obtain ⟨gl, o, cap, hsl, hcap, _, hcell⟩ := h.row.at_ hat.1
  have hlt1 : (L.take (t + 1)).length = t + 1 := by rw [List.length_take]; omega
  have HRF : Hid (∀ W, Below w.heap.size w W → (W.cell? ⟨R, 0, none⟩ = some sl ∧ W.cell? ⟨R, 1, none⟩ = some (.int .i64 (t : Int)) ∧ W.cell? ⟨R, 2, none⟩ = some (.int .i64 op)) ∧
      (W.frozen? ⟨R, 0, none⟩ = false ∧ W.frozen? ⟨R, 1, none⟩ = false ∧ W.frozen? ⟨R, 2, none⟩ = false) ∧
      Hid (∀ j u, (rfC (L.take (t + 1)))[j]? = some u → W.cell? ((⟨gl, o, none⟩ : Addr).add j) = some u)) := fun W hW => by
    have hk : blk3 W R sl (.int .i64 (t : Int)) (.int .i64 op) := (hW.block R hR).trans h.blk
    obtain ⟨q, qf⟩ := hk.cells
    refine ⟨q, ⟨qf 0, qf 1, qf 2⟩, fun j u hu => ?_⟩
    rw [← rfC_take, List.getElem?_take] at hu
    split at hu
    · have := hcell j u hu
      rw [rlit, hW.cell (p := ⟨gl, o + j, none⟩) (rlt this)]
      exact this
    · cases hu
  have HW1 : Hid (∀ W1, w.alloc (.cells #[.string s, .int .i64 c] 35) = W1 → Below w.heap.size w W1 ∧ W1.heap.size = w.heap.size + 1 ∧ blk2 W1 w.heap.size (.string s) (.int .i64 c)) := fun W1 hW1 => by
    refine ⟨?_, ?_, by rw [← hW1]; exact heap_alloc_new w _⟩
    · rw [← hW1]; exact (Below.refl _ w).alloc (Nat.le_refl _) _
    · rw [← hW1]; simp
  have HOK := Lib.hid hok
  have HNL := Lib.hid h.now
  have HF := Lib.hid (fun (V : World) n t' v L' op' (hV : Below w.heap.size w V) (hr : RowV ok V v n (rfC L')) (hn : L'.length = n) (ht : t' < n) (hf : n ≤ 101) => rdo_fin2 (V := V) (t' := t') (op' := op') h hV hr hn ht hf)
  have HL : Hid ((rfC (L.take (t + 1))).length = (t + 1) * 2) := by show _ = _; rw [rfC_len, hlt1]
  have HLt := Lib.hid hlt1
  have HO := Lib.hid (rfC_cell (L.take (t + 1)))
  have HI := Lib.hid hi
  have H0 := Lib.hid hz0
  have H1 := Lib.hid hz1
  have H2 := Lib.hid hz2
  subst hsl
  have t0 : (0 : Int) ≤ (t : Int) := by omega
  have t1 : (t : Int) ≤ 100 := by omega
  have t2 : (t : Int) + 1 ≤ (cap : Int) := by omega
  have t3 : (0 : Int) ≤ (t : Int) + 1 := by omega
  have tn : ((t : Int) + 1).toNat = t + 1 := by omega
  have tw : IntKind.i64.wrap ((t : Int) + 1) = (t : Int) + 1 := by rw [IntKind.wrap_i64]; omega
  obtain ⟨n, hn⟩ : ∃ n, L.length = n := ⟨_, rfl⟩
  rw [hn] at HRF hnow hcap hfew
  have tcn : (n : Int) ≤ (cap : Int) := by omega
  have tcm : (t : Int) + 1 ≤ (n : Int) := by omega
  have g0 : 0 < g := hg.1.1
  have d0 : (op == g) = false := by simpa using hg.1.2
  have t9 : (t : Int) ≤ 99 := by omega
  clear h hat hcell hp hok hi hz0 hz1 hz2 hlt1 hn hcap hg
  go_enter Try.func19, Try.ntmps19
  go_wp2
  obtain ⟨W1, hW1⟩ : ∃ W1, w.alloc (.cells #[.string s, .int .i64 c] 35) = W1 := ⟨_, rfl⟩
  obtain ⟨b1, s1, B1⟩ := HW1.out W1 hW1
  obtain ⟨⟨r0, r1, r2⟩, _, N1⟩ := HRF.out W1 b1
  rw [hW1]
  have HB1 := Lib.hid B1
  have HS1 := Lib.hid s1
  have Hb1 := Lib.hid b1
  clear hW1 HW1 B1 s1 b1
  go_region_held3 (fun W => W.cell? ⟨R, 0, none⟩ = some (.slice (some ⟨gl, o, none⟩) n cap) ∧ W.cell? ⟨R, 1, none⟩ = some (.int .i64 (t : Int))) (first | go_keep | exact ⟨q0, q1⟩)
    ((refine step_append_lies _ (by rfl) _ _ _ (by rfl) (w.heap.size + 1) 35 i0 _ 2 24 Try.underlying47 HI.out H0.out H1.out H2.out (by rfl) (by omega) (.slice none 0 0) 0 [] (by rfl) (World.ownsRow_nil _ _ _ _) ⟨gl, o, none⟩ (t + 1) cap (rfC (L.take (t + 1))) (by rfl) HL.out N1.out HO.out (by omega) (by unfold maxLen; omega) (by omega) (by show w.heap.size + 1 ≤ W1.heap.size; rw [HS1.out]; exact Nat.le_refl _) W1.heap.size (by rfl) ?_; intro g2 cap2 w2 hown hgr hat2 hlt2; obtain ⟨⟨q0, q1, q2⟩, ⟨f0, f1, f2⟩, N2⟩ := HRF.out w2 (Hb1.out.grown ⟨hgr.os, hgr.tape, hgr.output, hgr.size, hgr.block⟩ Hb1.out.size (fun k e => by cases e))))
  have b2 : Below w.heap.size w w2 := Hb1.out.grown ⟨hgr.os, hgr.tape, hgr.output, hgr.size, hgr.block⟩ Hb1.out.size (fun k e => by cases e)
  rw [Nat.zero_add, List.nil_append] at hown
  have hgl := hown.lt g2 rfl
  have B2 : blk2 w2 w.heap.size (.string s) (.int .i64 c) := (hgr.block w.heap.size (by show _ < W1.heap.size; rw [HS1.out]; omega) (by simp [Value.ownBlock])).trans HB1.out
  obtain ⟨⟨z0, z1⟩, _⟩ := B2.cells
  have Hg2 : Hid (w.heap.size + 1 ≤ g2) := hgl.1
  have Hb2 := Lib.hid b2
  have Hown := Lib.hid hown
  clear hgr hat2 hlt2 N1 N2 r0 r1 r2 hown hgl b2 B2 HB1 HS1 Hb1
  have HA : Hid (∀ (W : World) H, W = w2.alloc (.cells #[.string s, .int .i64 c] 35) → w2.heap.size = H → W.ownsRow (w.heap.size + 1) 35 2 (.slice (some ⟨g2, 0, none⟩) (t + 1) cap2) (t + 1) (rfC (L.take (t + 1))) ∧ (∀ j u, ([.string s, .int .i64 c] : List Value)[j]? = some u → W.cell? ((⟨H, 0, none⟩ : Addr).add j) = some u) ∧ w.heap.size + 1 ≤ W.heap.size ∧
      ∀ V g3 cap3, V.ownsRow (w.heap.size + 1) 35 2 (.slice (some ⟨g3, 0, none⟩) (t + 1 + 1) cap3) (t + 1 + 1) (rfC (L.take (t + 1)) ++ [.string s, .int .i64 c]) → W.grownBy V (some g2) → Below w.heap.size w V ∧ RowV ok V (.slice (some ⟨g3, 0, none⟩) (t + 1 + 1) cap3) (t + 1 + 1) (rfC (L.take (t + 1) ++ [(s, c)])) ∧ w.heap.size + 1 ≤ g3) := fun W H hW hH => by
    subst hW
    have hb : Below w.heap.size w (w2.alloc (.cells #[.string s, .int .i64 c] 35)) := Hb2.out.alloc Hb2.out.size _
    have hg := Hown.out.lt g2 rfl
    refine ⟨Hown.out.alloc _, fun j u hu => ?_, by rw [World.size_alloc]; omega, fun V g3 cap3 hV hgV => ?_⟩
    · subst hH
      rw [rlit, cell_of_row _ _ _ _ _ (0, 0) (heap_alloc_new w2 _), Nat.zero_add, ← Array.getElem?_toList]
      exact hu
    · have h3 := hV.lt g3 rfl
      refine ⟨hb.grown hgV hb.size (fun k e => by cases e; omega), ?_, h3.1⟩
      rw [rfC_app, rfC_one]
      exact own_row hV (HOK.out g3 (by omega))
  go_wp2_with (at_builtin; obtain ⟨o1, n1, l1, o2⟩ := HA.out _ _ rfl rfl; have HN1 := Lib.hid n1; have HO2 := Lib.hid o2; clear n1 o2; refine wpList_append_lies _ rfl _ _ _ rfl (w.heap.size + 1) 35 i0 _ 2 24 Try.underlying47 HI.out H0.out H1.out H2.out rfl (by omega) (.slice (some ⟨g2, 0, none⟩) (t + 1) cap2) (t + 1) (rfC (L.take (t + 1))) (by rfl) o1 ⟨w2.heap.size, 0, none⟩ 1 1 [.string s, .int .i64 c] (by rfl) (by rfl) HN1.out (pair_one s c) (by omega) (by unfold maxLen; omega) (by omega) l1 _ rfl ?_; intro g3 cap3 w3 hown3 hgr3 _ hlt3; obtain ⟨b3, r3, Hg3⟩ := HO2.out w3 g3 cap3 hown3 hgr3; obtain ⟨⟨q0, q1, q2⟩, ⟨f0, f1, f2⟩, _⟩ := HRF.out w3 b3; have c3 := r3.cap; have c3i : (t : Int) + 2 ≤ (cap3 : Int) := (by omega); have Hb3 := Lib.hid b3; have Hr3 := Lib.hid r3; clear b3 r3 hown3 hgr3 hlt3)
  go_end0
  have Z := HF.out w3 (t + 1 + 1) (t + 1) _ (L.take (t + 1) ++ [(s, c)]) g Hb3.out Hr3.out (by rw [List.length_append, HLt.out]; rfl) (by omega) (by omega)
  have e : ((t + 1 : Nat) : Int) = (t : Int) + 1 := by omega
  rw [e] at Z
  exact ⟨rfl, Z⟩

set_option maxHeartbeats 4000000 in
theorem rdo_full0 (s : ByteArray) (c g : Int) (w : World) (h : RefW ok w R L t op sl) (hg : g ≤ 0 ∧ 100 ≤ t) (hok : ∀ k, w.heap.size ≤ k → ok k) :
    Calls Try.prog 19 #[.pointer (some ⟨R, 0, none⟩), .string s, .int .i64 c, .int .i64 g] w fun e w' => e = .returned (.tuple #[]) ∧ (∃ sl', RefW ok w' R ((L.take (t + 1) ++ [(s, c)]).drop 1) t 0 sl') ∧ KeepW (fun k => k ≠ R) w w' := by
  obtain ⟨i0, hi, hz0, hz1, hz2⟩ := info_parts Try.infoRState
  have hR := h.blk.lt
  have hnow := h.now
  have hfew := h.few
  obtain ⟨p0, hp⟩ : ∃ p0, L[t]? = some p0 := ⟨_, List.getElem?_eq_getElem hnow⟩
  have hat := rfC_at L t p0 hp
  obtain ⟨gl, o, cap, hsl, hcap, _, hcell⟩ := h.row.at_ hat.1
  have hlt1 : (L.take (t + 1)).length = t + 1 := by rw [List.length_take]; omega
  have HRF : Hid (∀ W, Below w.heap.size w W → (W.cell? ⟨R, 0, none⟩ = some sl ∧ W.cell? ⟨R, 1, none⟩ = some (.int .i64 (t : Int)) ∧ W.cell? ⟨R, 2, none⟩ = some (.int .i64 op)) ∧
      (W.frozen? ⟨R, 0, none⟩ = false ∧ W.frozen? ⟨R, 1, none⟩ = false ∧ W.frozen? ⟨R, 2, none⟩ = false) ∧
      Hid (∀ j u, (rfC (L.take (t + 1)))[j]? = some u → W.cell? ((⟨gl, o, none⟩ : Addr).add j) = some u)) := fun W hW => by
    have hk : blk3 W R sl (.int .i64 (t : Int)) (.int .i64 op) := (hW.block R hR).trans h.blk
    obtain ⟨q, qf⟩ := hk.cells
    refine ⟨q, ⟨qf 0, qf 1, qf 2⟩, fun j u hu => ?_⟩
    rw [← rfC_take, List.getElem?_take] at hu
    split at hu
    · have := hcell j u hu
      rw [rlit, hW.cell (p := ⟨gl, o + j, none⟩) (rlt this)]
      exact this
    · cases hu
  have HW1 : Hid (∀ W1, w.alloc (.cells #[.string s, .int .i64 c] 35) = W1 → Below w.heap.size w W1 ∧ W1.heap.size = w.heap.size + 1 ∧ blk2 W1 w.heap.size (.string s) (.int .i64 c)) := fun W1 hW1 => by
    refine ⟨?_, ?_, by rw [← hW1]; exact heap_alloc_new w _⟩
    · rw [← hW1]; exact (Below.refl _ w).alloc (Nat.le_refl _) _
    · rw [← hW1]; simp
  have HOK := Lib.hid hok
  have HNL := Lib.hid h.now
  have HF := Lib.hid (fun (V : World) n t' v L' op' (hV : Below w.heap.size w V) (hr : RowV ok V v n (rfC L')) (hn : L'.length = n) (ht : t' < n) (hf : n ≤ 101) => rdo_fin (V := V) (t' := t') (op' := op') h hV hr hn ht hf)
  have HL : Hid ((rfC (L.take (t + 1))).length = (t + 1) * 2) := by show _ = _; rw [rfC_len, hlt1]
  have HLt := Lib.hid hlt1
  have HO := Lib.hid (rfC_cell (L.take (t + 1)))
  have HI := Lib.hid hi
  have H0 := Lib.hid hz0
  have H1 := Lib.hid hz1
  have H2 := Lib.hid hz2
  subst hsl
  have t0 : (0 : Int) ≤ (t : Int) := by omega
  have t1 : (t : Int) ≤ 100 := by omega
  have t2 : (t : Int) + 1 ≤ (cap : Int) := by omega
  have t3 : (0 : Int) ≤ (t : Int) + 1 := by omega
  have tn : ((t : Int) + 1).toNat = t + 1 := by omega
  have tw : IntKind.i64.wrap ((t : Int) + 1) = (t : Int) + 1 := by rw [IntKind.wrap_i64]; omega
  obtain ⟨n, hn⟩ : ∃ n, L.length = n := ⟨_, rfl⟩
  rw [hn] at HRF hnow hcap hfew
  have tcn : (n : Int) ≤ (cap : Int) := by omega
  have tcm : (t : Int) + 1 ≤ (n : Int) := by omega
  have g0 : g ≤ 0 := hg.1
  have t9 : 100 ≤ (t : Int) := by omega
  obtain ⟨LL, hLL⟩ : ∃ LL, (L.take (t + 1) ++ [(s, c)]).drop 1 = LL := ⟨_, rfl⟩
  rw [hLL]
  have HLL := Lib.hid hLL
  clear hLL
  clear h hat hcell hp hok hi hz0 hz1 hz2 hlt1 hn hcap hg
  go_enter Try.func19, Try.ntmps19
  go_wp2
  obtain ⟨W1, hW1⟩ : ∃ W1, w.alloc (.cells #[.string s, .int .i64 c] 35) = W1 := ⟨_, rfl⟩
  obtain ⟨b1, s1, B1⟩ := HW1.out W1 hW1
  obtain ⟨⟨r0, r1, r2⟩, _, N1⟩ := HRF.out W1 b1
  rw [hW1]
  have HB1 := Lib.hid B1
  have HS1 := Lib.hid s1
  have Hb1 := Lib.hid b1
  clear hW1 HW1 B1 s1 b1
  go_region_held3 (fun W => W.cell? ⟨R, 0, none⟩ = some (.slice (some ⟨gl, o, none⟩) n cap) ∧ W.cell? ⟨R, 1, none⟩ = some (.int .i64 (t : Int))) (first | go_keep | exact ⟨q0, q1⟩)
    ((refine step_append_lies _ (by rfl) _ _ _ (by rfl) (w.heap.size + 1) 35 i0 _ 2 24 Try.underlying47 HI.out H0.out H1.out H2.out (by rfl) (by omega) (.slice none 0 0) 0 [] (by rfl) (World.ownsRow_nil _ _ _ _) ⟨gl, o, none⟩ (t + 1) cap (rfC (L.take (t + 1))) (by rfl) HL.out N1.out HO.out (by omega) (by unfold maxLen; omega) (by omega) (by show w.heap.size + 1 ≤ W1.heap.size; rw [HS1.out]; exact Nat.le_refl _) W1.heap.size (by rfl) ?_; intro g2 cap2 w2 hown hgr hat2 hlt2; obtain ⟨⟨q0, q1, q2⟩, ⟨f0, f1, f2⟩, N2⟩ := HRF.out w2 (Hb1.out.grown ⟨hgr.os, hgr.tape, hgr.output, hgr.size, hgr.block⟩ Hb1.out.size (fun k e => by cases e))))
  have b2 : Below w.heap.size w w2 := Hb1.out.grown ⟨hgr.os, hgr.tape, hgr.output, hgr.size, hgr.block⟩ Hb1.out.size (fun k e => by cases e)
  rw [Nat.zero_add, List.nil_append] at hown
  have hgl := hown.lt g2 rfl
  have B2 : blk2 w2 w.heap.size (.string s) (.int .i64 c) := (hgr.block w.heap.size (by show _ < W1.heap.size; rw [HS1.out]; omega) (by simp [Value.ownBlock])).trans HB1.out
  obtain ⟨⟨z0, z1⟩, _⟩ := B2.cells
  have Hg2 : Hid (w.heap.size + 1 ≤ g2) := hgl.1
  have Hb2 := Lib.hid b2
  have Hown := Lib.hid hown
  clear hgr hat2 hlt2 N1 N2 r0 r1 r2 hown hgl b2 B2 HB1 HS1 Hb1
  have HA : Hid (∀ (W : World) H, W = w2.alloc (.cells #[.string s, .int .i64 c] 35) → w2.heap.size = H → W.ownsRow (w.heap.size + 1) 35 2 (.slice (some ⟨g2, 0, none⟩) (t + 1) cap2) (t + 1) (rfC (L.take (t + 1))) ∧ (∀ j u, ([.string s, .int .i64 c] : List Value)[j]? = some u → W.cell? ((⟨H, 0, none⟩ : Addr).add j) = some u) ∧ w.heap.size + 1 ≤ W.heap.size ∧
      ∀ V g3 cap3, V.ownsRow (w.heap.size + 1) 35 2 (.slice (some ⟨g3, 0, none⟩) (t + 1 + 1) cap3) (t + 1 + 1) (rfC (L.take (t + 1)) ++ [.string s, .int .i64 c]) → W.grownBy V (some g2) → Below w.heap.size w V ∧ RowV ok V (.slice (some ⟨g3, 0, none⟩) (t + 1 + 1) cap3) (t + 1 + 1) (rfC (L.take (t + 1) ++ [(s, c)])) ∧ w.heap.size + 1 ≤ g3) := fun W H hW hH => by
    subst hW
    have hb : Below w.heap.size w (w2.alloc (.cells #[.string s, .int .i64 c] 35)) := Hb2.out.alloc Hb2.out.size _
    have hg := Hown.out.lt g2 rfl
    refine ⟨Hown.out.alloc _, fun j u hu => ?_, by rw [World.size_alloc]; omega, fun V g3 cap3 hV hgV => ?_⟩
    · subst hH
      rw [rlit, cell_of_row _ _ _ _ _ (0, 0) (heap_alloc_new w2 _), Nat.zero_add, ← Array.getElem?_toList]
      exact hu
    · have h3 := hV.lt g3 rfl
      refine ⟨hb.grown hgV hb.size (fun k e => by cases e; omega), ?_, h3.1⟩
      rw [rfC_app, rfC_one]
      exact own_row hV (HOK.out g3 (by omega))
  go_wp2_with (at_builtin; obtain ⟨o1, n1, l1, o2⟩ := HA.out _ _ rfl rfl; have HN1 := Lib.hid n1; have HO2 := Lib.hid o2; clear n1 o2; refine wpList_append_lies _ rfl _ _ _ rfl (w.heap.size + 1) 35 i0 _ 2 24 Try.underlying47 HI.out H0.out H1.out H2.out rfl (by omega) (.slice (some ⟨g2, 0, none⟩) (t + 1) cap2) (t + 1) (rfC (L.take (t + 1))) (by rfl) o1 ⟨w2.heap.size, 0, none⟩ 1 1 [.string s, .int .i64 c] (by rfl) (by rfl) HN1.out (pair_one s c) (by omega) (by unfold maxLen; omega) (by omega) l1 _ rfl ?_; intro g3 cap3 w3 hown3 hgr3 _ hlt3; obtain ⟨b3, r3, Hg3⟩ := HO2.out w3 g3 cap3 hown3 hgr3; obtain ⟨⟨q0, q1, q2⟩, ⟨f0, f1, f2⟩, _⟩ := HRF.out w3 b3; have c3 := r3.cap; have c3i : (t : Int) + 2 ≤ (cap3 : Int) := (by omega); have Hb3 := Lib.hid b3; have Hr3 := Lib.hid r3; clear b3 r3 hown3 hgr3 hlt3)
  go_end0
  have hr := RowV.drop (i := 1) (c2 := cap3 - 1) 2 Hr3.out (by omega)
  rw [show t + 1 + 1 - 1 = t + 1 by omega, rfC_drop] at hr
  have Z := HF.out w3 (t + 1) t _ ((L.take (t + 1) ++ [(s, c)]).drop 1) 0 Hb3.out hr (by rw [List.length_drop, List.length_append, HLt.out]; rfl) (by omega) (by omega)
  rw [HLL.out] at Z
  exact ⟨rfl, Z⟩

set_option maxHeartbeats 4000000 in
theorem rdo_full1 (s : ByteArray) (c g : Int) (w : World) (h : RefW ok w R L t op sl) (hg : (0 < g ∧ op ≠ g) ∧ 100 ≤ t) (hok : ∀ k, w.heap.size ≤ k → ok k) :
    Calls Try.prog 19 #[.pointer (some ⟨R, 0, none⟩), .string s, .int .i64 c, .int .i64 g] w fun e w' => e = .returned (.tuple #[]) ∧ (∃ sl', RefW ok w' R ((L.take (t + 1) ++ [(s, c)]).drop 1) t g sl') ∧ KeepW (fun k => k ≠ R) w w' := by
  obtain ⟨i0, hi, hz0, hz1, hz2⟩ := info_parts Try.infoRState
  have hR := h.blk.lt
  have hnow := h.now
  have hfew := h.few
  obtain ⟨p0, hp⟩ : ∃ p0, L[t]? = some p0 := ⟨_, List.getElem?_eq_getElem hnow⟩
  have hat := rfC_at L t p0 hp
  obtain ⟨gl, o, cap, hsl, hcap, _, hcell⟩ := h.row.at_ hat.1
  have hlt1 : (L.take (t + 1)).length = t + 1 := by rw [List.length_take]; omega
  have HRF : Hid (∀ W, Below w.heap.size w W → (W.cell? ⟨R, 0, none⟩ = some sl ∧ W.cell? ⟨R, 1, none⟩ = some (.int .i64 (t : Int)) ∧ W.cell? ⟨R, 2, none⟩ = some (.int .i64 op)) ∧
      (W.frozen? ⟨R, 0, none⟩ = false ∧ W.frozen? ⟨R, 1, none⟩ = false ∧ W.frozen? ⟨R, 2, none⟩ = false) ∧
      Hid (∀ j u, (rfC (L.take (t + 1)))[j]? = some u → W.cell? ((⟨gl, o, none⟩ : Addr).add j) = some u)) := fun W hW => by
    have hk : blk3 W R sl (.int .i64 (t : Int)) (.int .i64 op) := (hW.block R hR).trans h.blk
    obtain ⟨q, qf⟩ := hk.cells
    refine ⟨q, ⟨qf 0, qf 1, qf 2⟩, fun j u hu => ?_⟩
    rw [← rfC_take, List.getElem?_take] at hu
    split at hu
    · have := hcell j u hu
      rw [rlit, hW.cell (p := ⟨gl, o + j, none⟩) (rlt this)]
      exact this
    · cases hu
  have HW1 : Hid (∀ W1, w.alloc (.cells #[.string s, .int .i64 c] 35) = W1 → Below w.heap.size w W1 ∧ W1.heap.size = w.heap.size + 1 ∧ blk2 W1 w.heap.size (.string s) (.int .i64 c)) := fun W1 hW1 => by
    refine ⟨?_, ?_, by rw [← hW1]; exact heap_alloc_new w _⟩
    · rw [← hW1]; exact (Below.refl _ w).alloc (Nat.le_refl _) _
    · rw [← hW1]; simp
  have HOK := Lib.hid hok
  have HNL := Lib.hid h.now
  have HF := Lib.hid (fun (V : World) n t' v L' op' (hV : Below w.heap.size w V) (hr : RowV ok V v n (rfC L')) (hn : L'.length = n) (ht : t' < n) (hf : n ≤ 101) => rdo_fin2 (V := V) (t' := t') (op' := op') h hV hr hn ht hf)
  have HL : Hid ((rfC (L.take (t + 1))).length = (t + 1) * 2) := by show _ = _; rw [rfC_len, hlt1]
  have HLt := Lib.hid hlt1
  have HO := Lib.hid (rfC_cell (L.take (t + 1)))
  have HI := Lib.hid hi
  have H0 := Lib.hid hz0
  have H1 := Lib.hid hz1
  have H2 := Lib.hid hz2
  subst hsl
  have t0 : (0 : Int) ≤ (t : Int) := by omega
  have t1 : (t : Int) ≤ 100 := by omega
  have t2 : (t : Int) + 1 ≤ (cap : Int) := by omega
  have t3 : (0 : Int) ≤ (t : Int) + 1 := by omega
  have tn : ((t : Int) + 1).toNat = t + 1 := by omega
  have tw : IntKind.i64.wrap ((t : Int) + 1) = (t : Int) + 1 := by rw [IntKind.wrap_i64]; omega
  obtain ⟨n, hn⟩ : ∃ n, L.length = n := ⟨_, rfl⟩
  rw [hn] at HRF hnow hcap hfew
  have tcn : (n : Int) ≤ (cap : Int) := by omega
  have tcm : (t : Int) + 1 ≤ (n : Int) := by omega
  have g0 : 0 < g := hg.1.1
  have d0 : (op == g) = false := by simpa using hg.1.2
  have t9 : 100 ≤ (t : Int) := by omega
  obtain ⟨LL, hLL⟩ : ∃ LL, (L.take (t + 1) ++ [(s, c)]).drop 1 = LL := ⟨_, rfl⟩
  rw [hLL]
  have HLL := Lib.hid hLL
  clear hLL
  clear h hat hcell hp hok hi hz0 hz1 hz2 hlt1 hn hcap hg
  go_enter Try.func19, Try.ntmps19
  go_wp2
  obtain ⟨W1, hW1⟩ : ∃ W1, w.alloc (.cells #[.string s, .int .i64 c] 35) = W1 := ⟨_, rfl⟩
  obtain ⟨b1, s1, B1⟩ := HW1.out W1 hW1
  obtain ⟨⟨r0, r1, r2⟩, _, N1⟩ := HRF.out W1 b1
  rw [hW1]
  have HB1 := Lib.hid B1
  have HS1 := Lib.hid s1
  have Hb1 := Lib.hid b1
  clear hW1 HW1 B1 s1 b1
  go_region_held3 (fun W => W.cell? ⟨R, 0, none⟩ = some (.slice (some ⟨gl, o, none⟩) n cap) ∧ W.cell? ⟨R, 1, none⟩ = some (.int .i64 (t : Int))) (first | go_keep | exact ⟨q0, q1⟩)
    ((refine step_append_lies _ (by rfl) _ _ _ (by rfl) (w.heap.size + 1) 35 i0 _ 2 24 Try.underlying47 HI.out H0.out H1.out H2.out (by rfl) (by omega) (.slice none 0 0) 0 [] (by rfl) (World.ownsRow_nil _ _ _ _) ⟨gl, o, none⟩ (t + 1) cap (rfC (L.take (t + 1))) (by rfl) HL.out N1.out HO.out (by omega) (by unfold maxLen; omega) (by omega) (by show w.heap.size + 1 ≤ W1.heap.size; rw [HS1.out]; exact Nat.le_refl _) W1.heap.size (by rfl) ?_; intro g2 cap2 w2 hown hgr hat2 hlt2; obtain ⟨⟨q0, q1, q2⟩, ⟨f0, f1, f2⟩, N2⟩ := HRF.out w2 (Hb1.out.grown ⟨hgr.os, hgr.tape, hgr.output, hgr.size, hgr.block⟩ Hb1.out.size (fun k e => by cases e))))
  have b2 : Below w.heap.size w w2 := Hb1.out.grown ⟨hgr.os, hgr.tape, hgr.output, hgr.size, hgr.block⟩ Hb1.out.size (fun k e => by cases e)
  rw [Nat.zero_add, List.nil_append] at hown
  have hgl := hown.lt g2 rfl
  have B2 : blk2 w2 w.heap.size (.string s) (.int .i64 c) := (hgr.block w.heap.size (by show _ < W1.heap.size; rw [HS1.out]; omega) (by simp [Value.ownBlock])).trans HB1.out
  obtain ⟨⟨z0, z1⟩, _⟩ := B2.cells
  have Hg2 : Hid (w.heap.size + 1 ≤ g2) := hgl.1
  have Hb2 := Lib.hid b2
  have Hown := Lib.hid hown
  clear hgr hat2 hlt2 N1 N2 r0 r1 r2 hown hgl b2 B2 HB1 HS1 Hb1
  have HA : Hid (∀ (W : World) H, W = w2.alloc (.cells #[.string s, .int .i64 c] 35) → w2.heap.size = H → W.ownsRow (w.heap.size + 1) 35 2 (.slice (some ⟨g2, 0, none⟩) (t + 1) cap2) (t + 1) (rfC (L.take (t + 1))) ∧ (∀ j u, ([.string s, .int .i64 c] : List Value)[j]? = some u → W.cell? ((⟨H, 0, none⟩ : Addr).add j) = some u) ∧ w.heap.size + 1 ≤ W.heap.size ∧
      ∀ V g3 cap3, V.ownsRow (w.heap.size + 1) 35 2 (.slice (some ⟨g3, 0, none⟩) (t + 1 + 1) cap3) (t + 1 + 1) (rfC (L.take (t + 1)) ++ [.string s, .int .i64 c]) → W.grownBy V (some g2) → Below w.heap.size w V ∧ RowV ok V (.slice (some ⟨g3, 0, none⟩) (t + 1 + 1) cap3) (t + 1 + 1) (rfC (L.take (t + 1) ++ [(s, c)])) ∧ w.heap.size + 1 ≤ g3) := fun W H hW hH => by
    subst hW
    have hb : Below w.heap.size w (w2.alloc (.cells #[.string s, .int .i64 c] 35)) := Hb2.out.alloc Hb2.out.size _
    have hg := Hown.out.lt g2 rfl
    refine ⟨Hown.out.alloc _, fun j u hu => ?_, by rw [World.size_alloc]; omega, fun V g3 cap3 hV hgV => ?_⟩
    · subst hH
      rw [rlit, cell_of_row _ _ _ _ _ (0, 0) (heap_alloc_new w2 _), Nat.zero_add, ← Array.getElem?_toList]
      exact hu
    · have h3 := hV.lt g3 rfl
      refine ⟨hb.grown hgV hb.size (fun k e => by cases e; omega), ?_, h3.1⟩
      rw [rfC_app, rfC_one]
      exact own_row hV (HOK.out g3 (by omega))
  go_wp2_with (at_builtin; obtain ⟨o1, n1, l1, o2⟩ := HA.out _ _ rfl rfl; have HN1 := Lib.hid n1; have HO2 := Lib.hid o2; clear n1 o2; refine wpList_append_lies _ rfl _ _ _ rfl (w.heap.size + 1) 35 i0 _ 2 24 Try.underlying47 HI.out H0.out H1.out H2.out rfl (by omega) (.slice (some ⟨g2, 0, none⟩) (t + 1) cap2) (t + 1) (rfC (L.take (t + 1))) (by rfl) o1 ⟨w2.heap.size, 0, none⟩ 1 1 [.string s, .int .i64 c] (by rfl) (by rfl) HN1.out (pair_one s c) (by omega) (by unfold maxLen; omega) (by omega) l1 _ rfl ?_; intro g3 cap3 w3 hown3 hgr3 _ hlt3; obtain ⟨b3, r3, Hg3⟩ := HO2.out w3 g3 cap3 hown3 hgr3; obtain ⟨⟨q0, q1, q2⟩, ⟨f0, f1, f2⟩, _⟩ := HRF.out w3 b3; have c3 := r3.cap; have c3i : (t : Int) + 2 ≤ (cap3 : Int) := (by omega); have Hb3 := Lib.hid b3; have Hr3 := Lib.hid r3; clear b3 r3 hown3 hgr3 hlt3)
  go_end0
  have hr := RowV.drop (i := 1) (c2 := cap3 - 1) 2 Hr3.out (by omega)
  rw [show t + 1 + 1 - 1 = t + 1 by omega, rfC_drop] at hr
  have Z := HF.out w3 (t + 1) t _ ((L.take (t + 1) ++ [(s, c)]).drop 1) g Hb3.out hr (by rw [List.length_drop, List.length_append, HLt.out]; rfl) (by omega) (by omega)
  rw [HLL.out] at Z
  exact ⟨rfl, Z⟩

/-- Whatever the group: the document's list, and which one is now. -/
theorem rdo_any (s : ByteArray) (c g : Int) (w : World) (h : RefW ok w R L t op sl) (hok : ∀ k, w.heap.size ≤ k → ok k) :
    Calls Try.prog 19 #[.pointer (some ⟨R, 0, none⟩), .string s, .int .i64 c, .int .i64 g] w fun e w' => e = .returned (.tuple #[]) ∧ (∃ sl', RefW ok w' R (if 0 < g ∧ op = g then L.take t ++ [(s, c)] else (L.take (t + 1) ++ [(s, c)]).drop (t + 1 - 100)) (if 0 < g ∧ op = g then t else min (t + 1) 100) (if 0 < g then g else 0) sl') ∧ KeepW (fun k => k ≠ R) w w' := by
  have h1 := h.now
  have h2 := h.few
  by_cases ho : 0 < g ∧ op = g
  · rw [if_pos ho, if_pos ho, if_pos ho.1]
    exact rdo_open s c g w h ho hok
  · rw [if_neg ho, if_neg ho]
    by_cases ht : t ≤ 99
    · rw [show t + 1 - 100 = 0 by omega, show min (t + 1) 100 = t + 1 by omega, List.drop_zero]
      by_cases hg : 0 < g
      · rw [if_pos hg]
        exact rdo_few1 s c g w h ⟨⟨hg, fun e => ho ⟨hg, e⟩⟩, ht⟩ hok
      · rw [if_neg hg]
        exact rdo_few0 s c g w h ⟨by omega, ht⟩ hok
    · rw [show t + 1 - 100 = 1 by omega, show min (t + 1) 100 = t by omega]
      by_cases hg : 0 < g
      · rw [if_pos hg]
        exact rdo_full1 s c g w h ⟨⟨hg, fun e => ho ⟨hg, e⟩⟩, by omega⟩ hok
      · rw [if_neg hg]
        exact rdo_full0 s c g w h ⟨by omega, by omega⟩ hok
end
end Go.Proofs.Ytpkfmhggaiifgaa
