/-
  nfas.NFA.mark: what it leaves.
-/
import Derived.Deep.Cut
import Derived.Deep.DeepFit
import Derived.Test.YtkopbngnhgdfhaaDoorBe7
namespace Go.Proofs.YtkopbngnhgdfhaaDoor
open Go.RowKit

def boolC (l : List Bool) : List Value := l.map Value.bool
/-- A block of marks, known whole. -/
def blkM (w : World) (G : Nat) (l : List Bool) : Prop := w.heap[G]? = some (.cells (boolC l).toArray 4 (0, 0))
section
variable {w : World} {G : Nat} {l : List Bool}
theorem blkM.lt (h : blkM w G l) : G < w.heap.size := (Array.getElem?_eq_some_iff.1 h).1
theorem blkM.at_ (h : blkM w G l) {i : Nat} (hi : i < l.length) (d : Bool) : w.cell? ⟨G, i, none⟩ = some (.bool (l.getD i d)) := by
  rw [cell_of_row w G i _ _ (0, 0) h, List.getElem?_toArray, boolC, List.getElem?_map, List.getElem?_eq_getElem hi]
  simp [List.getD, List.getElem?_eq_getElem hi]
theorem blkM.frozen (h : blkM w G l) (i : Nat) : w.frozen? ⟨G, i, none⟩ = false := frozen_of_row w G i _ _ h
theorem blkM.set (h : blkM w G l) (i : Nat) (b : Bool) : blkM (w.setCell ⟨G, i, none⟩ (.bool b)) G (l.set i b) := by
  unfold blkM at h ⊢
  rw [heap_setCell_same w G i _ _ _ h]
  unfold boolC
  congr 2
  rw [List.map_set]
  simp
end
section
variable {w0 : World} {v : Value} {q : List Sta} {first : List Int}
set_option maxHeartbeats 1000000 in
theorem nmark_any (h0 : NfaR w0 v q first) (hq : ∀ (i : Nat) (s : Sta), q[i]? = some s → StOk q.length s) : ∀ (f G : Nat) (l : List Bool) (a : Nat) (w : World) (cap : Nat), q.length ≤ cap → w0.heap.size ≤ G → Below w0.heap.size w0 w → blkM w G l → l.length = q.length → a < q.length → openB l ≤ f →
    Calls Tryd.prog 62 #[v, .slice (some ⟨G, 0, none⟩) q.length cap, .int .i64 (a : Int)] w fun e w' => e = .returned (.tuple #[]) ∧ blkM w' G (markF f q l a) ∧ Below w0.heap.size w0 w' := by
  intro f
  induction f with
  | zero =>
    intro G l a w cap hcap hG hb hM hl ha hf
    have hx := hM.at_ (i := a) (by omega) true
    rw [open_zero l a (by omega)] at hx
    have HM := Lib.hid (And.intro hM hb)
    rw [markF]
    clear hM hb h0 hq
    have h1 : (a : Int) < (q.length : Int) := by omega
    have h2 : (0 : Int) ≤ (a : Int) := by omega
    go_enter Tryd.func62, Tryd.ntmps62
    go_wp2_with fail
    (try simp only [Exit.inBlock, Exit.then])
    refine bodyPost_ret (results_none rfl _ _ _) rfl ?_
    exact ⟨rfl, HM.out⟩
  | succ f ih =>
    intro G l a w cap hcap hG hb hM hl ha hf
    have hx := hM.at_ (i := a) (by omega) true
    have h1 : (a : Int) < (q.length : Int) := by omega
    have h2 : (0 : Int) ≤ (a : Int) := by omega
    rw [markF]
    by_cases hs : l.getD a true = true
    · rw [if_pos hs]
      rw [hs] at hx
      have HM := Lib.hid (And.intro hM hb)
      clear hM hb h0 hq hs
      go_enter Tryd.func62, Tryd.ntmps62
      go_wp2_with fail
      (try simp only [Exit.inBlock, Exit.then])
      refine bodyPost_ret (results_none rfl _ _ _) rfl ?_
      exact ⟨rfl, HM.out⟩
    rw [if_neg hs]
    have hs' : l.getD a true = false := by simpa using hs
    rw [hs'] at hx
    have hcnt := open_set l a hs'
    obtain ⟨s, hsa⟩ : ∃ s, q[a]? = some s := ⟨_, List.getElem?_eq_getElem ha⟩
    obtain ⟨o1, o2, _⟩ := hq a s hsa
    have hfz := hM.frozen a
    have hGl := hM.lt
    have hM1 := hM.set a true
    have hk1 : KeepW (fun k => k ≠ G) w (w.setCell ⟨G, a, none⟩ (.bool true)) := keep_set G a none _ w fun h => h rfl
    have hb1 : Below w0.heap.size w0 (w.setCell ⟨G, a, none⟩ (.bool true)) := KeepW.below hb hk1 hb.size fun k hk => by omega
    obtain ⟨W1, hW1⟩ : ∃ W1, w.setCell ⟨G, a, none⟩ (.bool true) = W1 := ⟨_, rfl⟩
    have hR1 := h0.below (w' := w.setCell ⟨G, a, none⟩ (.bool true)) hb1
    have HI := Lib.hid (nis_any hR1 (a : Int) 1)
    rw [show isP q (a : Int) 1 = (s.kind == 1) by unfold isP lookS; rw [if_pos (by omega), Int.toNat_natCast, hsa]] at HI
    have HX := Lib.hid (show blkM W1 G (l.set a true) ∧ Below w0.heap.size w0 W1 from by rw [← hW1]; exact ⟨hM1, hb1⟩)
    rw [hsa]
    show Calls _ _ _ _ fun e w' => e = .returned (.tuple #[]) ∧ blkM w' G (if s.kind = 1 then markF f q (markF f q (l.set a true) s.next) s.also else l.set a true) ∧ Below w0.heap.size w0 w'
    by_cases hk : s.kind = 1
    · rw [if_pos hk]
      rw [hk] at HI
      obtain ⟨B, g, o, cp, rfl, c0, hn, hc⟩ := hR1.sta hsa
      have c5 := hc 5 _ (by decide) rfl
      have c6 := hc 6 _ (by decide) rfl
      have i5 : o + (a * 8 + 5) = o + a * 8 + 5 := by omega
      have i6 : o + (a * 8 + 6) = o + a * 8 + 6 := by omega
      rw [i5] at c5
      rw [i6] at c6
      have H1 := Lib.hid (ih G (l.set a true) s.next W1 cap hcap hG HX.out.2 HX.out.1 (by rw [List.length_set]; exact hl) o1 (by omega))
      have hm1 := mark_ok q hq f (l.set a true) s.next (by rw [List.length_set]; exact hl) o1 (by omega)
      have hm1l := hm1.len
      have hm1c := hm1.cnt
      rw [List.length_set] at hm1l
      have H2 := Lib.hid (fun W (x : blkM W G (markF f q (l.set a true) s.next) ∧ Below w0.heap.size w0 W) => ih G (markF f q (l.set a true) s.next) s.also W cap hcap hG x.2 x.1 (by rw [hm1l]; exact hl) o2 (by omega))
      have HC := Lib.hid (fun W (x : Below w0.heap.size w0 W) => by
        obtain ⟨B', g', o', cp', hv', c0', hn', hc'⟩ := (h0.below x).sta hsa
        cases hv'
        have c6' := hc' 6 _ (by decide) rfl
        have i6 : o' + (a * 8 + 6) = o' + a * 8 + 6 := by omega
        rw [i6] at c6'
        exact (show ∃ g' o' cp', W.cell? ⟨B, 0, none⟩ = some (.slice (some ⟨g', o', none⟩) q.length cp') ∧ W.cell? ⟨g', o' + a * 8 + 6, none⟩ = some (.int .i64 (s.also : Int)) from ⟨_, _, _, c0', c6'⟩))
      obtain ⟨nx, hnx⟩ : ∃ nx : Nat, s.next = nx := ⟨_, rfl⟩
      obtain ⟨al, hal⟩ : ∃ al : Nat, s.also = al := ⟨_, rfl⟩
      rw [hnx] at c5 H1 H2
      rw [hal] at c6 HC H2
      rw [hnx, hal]
      rw [hW1] at HI c0 c5 c6
      clear hM hb h0 hq hs hs' hcnt hsa o1 o2 hM1 hk1 hb1 hR1 ih hc hm1 hm1l hm1c hnx hal i5 i6 hk
      go_enter Tryd.func62, Tryd.ntmps62
      go_upto_region 2 with (fail)
      (try rw [hW1])
      clear hW1 hx hfz
      go_wp2_with fail
      go_fit HI.out
      rintro e w1 ⟨rfl, rfl⟩
      go_wp2_with fail
      go_fit H1.out
      rintro e w2 ⟨rfl, hM2, hb2⟩
      have HX2 := Lib.hid (And.intro hM2 hb2)
      obtain ⟨g2, o2, cp2, d0, d6⟩ := HC.out w2 hb2
      clear hM2 hb2
      go_wp2_with fail
      go_fit (H2.out _ HX2.out)
      rintro e w3 ⟨rfl, hM3, hb3⟩
      have HX3 := Lib.hid (And.intro hM3 hb3)
      clear hM3 hb3
      go_wp2_with fail
      go_end0
      exact ⟨rfl, HX3.out⟩
    · rw [if_neg hk]
      rw [show (s.kind == 1) = false from beq_eq_false_iff_ne.2 hk] at HI
      rw [hW1] at HI
      clear hM hb h0 hq hs hs' hcnt hsa o1 o2 hM1 hk1 hb1 hR1 ih hk
      go_enter Tryd.func62, Tryd.ntmps62
      go_upto_region 2 with (fail)
      (try rw [hW1])
      clear hW1 hx hfz
      go_wp2_with fail
      go_fit HI.out
      rintro e w1 ⟨rfl, rfl⟩
      go_wp2_with fail
      go_end0
      exact ⟨rfl, HX.out⟩
end
end Go.Proofs.YtkopbngnhgdfhaaDoor
