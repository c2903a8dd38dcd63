/-
  limnerref05: Move: what it returns, and leaves.
-/
import Derived.Test.YtpkfmhggaiifgaaUnRefGo
import Derived.Deep.AppendLies
namespace Go.Proofs.Ytpkfmhggaiifgaa
open Go.RowKit

/-- A row of the call's own, as a row. -/
theorem own_row {ok : Nat → Prop} {w : World} {B g n cap size : Nat} {e : TypeId} {xs : List Value} (h : w.ownsRow B e size (.slice (some ⟨g, 0, none⟩) n cap) n xs) (hg : ok g) : RowV ok w (.slice (some ⟨g, 0, none⟩) n cap) n xs := by
  have hc := h.cells (g := g) rfl
  refine ⟨_, cap, rfl, ?_, fun a e => by cases e; exact hg, fun j u hu => ⟨g, 0, rfl, ?_⟩⟩
  · rcases h.2 with ⟨h', _⟩ | ⟨g', cap', cur, h', _, _, hn, _⟩
    · cases h'
    · cases h'; exact hn
  · have := hc j u hu
    rwa [rlit] at this
theorem keep_grown {ok : Nat → Prop} {w w' : World} {row : Option Nat} (h : w.grownBy w' row) (hr : ∀ k, ok k → row ≠ some k) : KeepW ok w w' :=
  ⟨h.os, h.tape, h.output, h.size, fun k hk ho => h.block k hk fun e => hr k ho e.symm⟩

section
variable {ok : Nat → Prop} {R t : Nat} {L : List (ByteArray × Int)} {op : Int} {sl : Value}

set_option maxHeartbeats 2000000 in
theorem rmove_any {s : ByteArray} {c0 : Int} (c : Int) (w : World) (h : RefW ok w R L t op sl) (hp : L[t]? = some (s, c0)) (hok : ∀ k, w.heap.size ≤ k → ok k) :
    Calls Try.prog 16 #[.pointer (some ⟨R, 0, none⟩), .int .i64 c] w fun e w' => e = .returned (.tuple #[]) ∧ (∃ sl', RefW ok w' R (L.set t (s, c)) t op sl') ∧ KeepW (fun k => k ≠ R) w w' := by
  obtain ⟨i0, hi, hz0, hz1, hz2⟩ := info_parts Try.infoRState
  have hR := h.blk.lt
  obtain ⟨⟨k0, k1, k2⟩, _⟩ := h.blk.cells
  have hat := rfC_at L t (s, c0) hp
  obtain ⟨g, o, cap, hsl, hcap, hg, hcell⟩ := h.row.at_ hat.1
  have hl := rfC_len L
  have hnow := h.now
  have hfew := h.few
  have HY : Hid (∀ W g2 cap2, W.ownsRow w.heap.size 35 2 (.slice (some ⟨g2, 0, none⟩) (0 + L.length) cap2) (0 + L.length) ([] ++ rfC L) → w.grownBy W none →
      (W.cell? ⟨R, 0, none⟩ = some sl ∧ W.cell? ⟨R, 1, none⟩ = some (.int .i64 (t : Int)) ∧ W.frozen? ⟨R, 0, none⟩ = false ∧ (∃ c1, W.cell? ⟨g2, t * 2 + 1, none⟩ = some (.int .i64 c1)) ∧ W.frozen? ⟨g2, t * 2 + 1, none⟩ = false ∧ g2 ≠ R) ∧
      ∀ X, W.setCell ⟨g2, t * 2 + 1, none⟩ (.int .i64 c) = X → X.cell? ⟨R, 0, none⟩ = some sl ∧ X.frozen? ⟨R, 0, none⟩ = false ∧
        (∃ sl', RefW ok (X.setCell ⟨R, 0, none⟩ (.slice (some ⟨g2, 0, none⟩) L.length cap2)) R (L.set t (s, c)) t op sl') ∧ KeepW (fun k => k ≠ R) w (X.setCell ⟨R, 0, none⟩ (.slice (some ⟨g2, 0, none⟩) L.length cap2))) := fun W g2 cap2 hown hgr => by
    rw [Nat.zero_add, List.nil_append] at hown
    have hgl := hown.lt g2 rfl
    have hkW : blk3 W R sl (.int .i64 (t : Int)) (.int .i64 op) := (hgr.block R hR (by simp)).trans h.blk
    obtain ⟨⟨q0, q1, _⟩, qf⟩ := hkW.cells
    have hne : g2 ≠ R := by omega
    refine ⟨⟨q0, q1, qf 0, ⟨c0, ?_⟩, hown.frozenAt _, hne⟩, fun X hX => ?_⟩
    · rw [hown.cellAt _ (by omega)]
      exact hat.2
    · have hst := hown.stored (t * 2 + 1) (.int .i64 c)
      rw [hX, rfC_set2 L t (s, c0) c hp] at hst
      have hkX : blk3 X R sl (.int .i64 (t : Int)) (.int .i64 op) := (hst.2.block R (by omega) (fun e => hne (Option.some.inj e).symm)).trans hkW
      obtain ⟨⟨x0, _, _⟩, xf⟩ := hkX.cells
      have kX : ∀ ok' : Nat → Prop, KeepW ok' w X := fun ok' => by
        have a1 : KeepW (fun k => ok' k ∧ k < w.heap.size) w W := keep_grown hgr (fun _ _ e => by cases e)
        have a2 : KeepW (fun k => ok' k ∧ k < w.heap.size) W X := keep_grown hst.2 (fun k hk e => by have := Option.some.inj e; omega)
        exact (a1.trans a2).mono fun k hk ho => ⟨ho, hk⟩
      refine ⟨x0, xf 0, ⟨.slice (some ⟨g2, 0, none⟩) L.length cap2, hkX.set0 _, h.out, ?_, by rw [List.length_set]; exact hnow, by rw [List.length_set]; exact hfew⟩, (kX _).trans (keep_set _ _ _ _ _ fun k => k rfl)⟩
      rw [List.length_set]
      exact (own_row hst.1 (hok _ hgl.1)).keep (keep_set _ _ _ _ _ h.out)
  subst hsl
  have hnews : ∀ j u, (rfC L)[j]? = some u → w.cell? ((⟨g, o, none⟩ : Addr).add j) = some u := fun j u hu => by rw [rlit]; exact hcell j u hu
  have HN := Lib.hid hnews
  have HL := Lib.hid hl
  have HI := Lib.hid hi
  have H0 := Lib.hid hz0
  have H1 := Lib.hid hz1
  have H2 := Lib.hid hz2
  have HO := Lib.hid (rfC_cell L)
  obtain ⟨n, hn⟩ : ∃ n, L.length = n := ⟨_, rfl⟩
  rw [hn] at HY HL hnow hfew k0
  have t0 : (0 : Int) ≤ (t : Int) := by omega
  have t1 : (t : Int) < (n : Int) := by omega
  clear h hat hcell hl hn hnews hi hz0 hz1 hz2 hp hok k1 k2 hR
  go_enter Try.func16, Try.ntmps16
  go_wp2_with (at_builtin; refine wpList_append_lies _ rfl _ _ _ rfl w.heap.size 35 i0 _ 2 24 Try.underlying47 HI.out H0.out H1.out H2.out rfl (by omega) (.slice none 0 0) 0 [] (by rfl) (World.ownsRow_nil _ _ _ _) ⟨g, o, none⟩ n cap (rfC L) (by rfl) HL.out HN.out HO.out (by omega) (by unfold maxLen; omega) (by omega) (Nat.le_refl _) w.heap.size rfl ?_; intro g2 cap2 w2 hown hgr _ hlt; obtain ⟨⟨q0, q1, f0, ⟨c1, q2⟩, f1, hne⟩, Z⟩ := HY.out w2 g2 cap2 hown hgr; have HZ := Lib.hid Z; clear Z hown hgr hlt HY k0)
  go_end0
  obtain ⟨_, _, Z1, Z2⟩ := HZ.out _ rfl
  exact ⟨rfl, Z1, Z2⟩
end
end Go.Proofs.Ytpkfmhggaiifgaa
