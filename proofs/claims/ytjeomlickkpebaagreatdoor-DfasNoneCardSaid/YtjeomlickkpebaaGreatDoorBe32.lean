/-
  dfas.maker: number: what it returns, and leaves.
-/
import Derived.Test.YtjeomlickkpebaaGreatDoorBe27
namespace Go.Proofs.YtjeomlickkpebaaGreatDoor
open Go.RowKit

section
variable {c : Col} {w : World} {M mb : Nat} {nv lv v : Value} {xs : List (List Int)} {us : List Value} {l : List Int}
/-- What number leaves. -/
def NumO (c : Col) (w w' : World) (M : Nat) (nv : Value) (xs : List (List Int)) (mb : Nat) (l : List Int) (e : Ending) : Prop :=
  e = .returned (.int .i64 (numR xs l)) ∧ ∃ c' lv' us', StepC (fun a => a = 1) c c' w w' ∧ MkC c' w' M nv (numX xs l) lv' mb us'
set_option maxRecDepth 8000 in
set_option maxHeartbeats 4000000 in
theorem pnum_any (h : MkC c w M nv xs lv mb us) (hp : PowW w) (hl : CelC c w v (numC l)) (hll : l.length ≤ 100000) (hn : NonN l) (hx : ∀ x, x ∈ xs → NonN x) (hxs : xs.length ≤ 100000) :
    Calls Tryz.prog 45 #[.pointer (some ⟨M, 0, none⟩), v] w fun e w' => NumO c w w' M nv xs mb l e := by
  have hI := cel_ints hl (by omega)
  obtain ⟨ao, cap, rfl, hcap⟩ := hI.form
  by_cases h0 : l = []
  · have HF : Hid (NumO c w w M nv xs mb l (.returned (.int .i64 (-1)))) := Lib.hid (by
      subst h0
      exact ⟨rfl, c, lv, us, StepC.below h.fresh (Below.refl _ _), h⟩)
    have hz : l.length = 0 := by rw [h0]; rfl
    rw [hz]
    clear h hl hn hx hI h0 hz hcap
    go_enter Tryz.func45, Tryz.ntmps45
    go_wp2_with fail
    go_ret
    exact HF.out
  have hpos : 0 < l.length := List.length_pos_iff.2 h0
  have hnil : nilL l = false := by
    unfold nilL
    cases l with
    | nil => exact absurd rfl h0
    | cons a l => rfl
  have HT := Lib.hid (ptext_any hI hp hn hll)
  have HM := Lib.hid h
  have hidx := idx_find hx hn (j := 0)
  have hlow := findX_low (same := sameL) (y := l) xs 0
  have hb3 := h.box.lt
  obtain ⟨lo, lc, hlv, hlc⟩ := h.row.form
  obtain ⟨n, hnl⟩ : ∃ n, l.length = n := ⟨_, rfl⟩
  obtain ⟨k, hk⟩ : ∃ k, findX sameL xs l 0 = k := ⟨_, rfl⟩
  rw [hk] at hidx hlow
  by_cases hf : k < 0
  · rw [if_pos hf] at hidx
    have HF : Hid (numR xs l = (xs.length : Int) ∧ numX xs l = xs ++ [l]) := Lib.hid (by
      unfold numR numX
      rw [hk, if_neg (by rw [hnil]; decide), if_pos hf, if_neg (by rw [hnil]; decide), if_pos hf]
      exact ⟨rfl, rfl⟩)
    have HP := Lib.hid (fun (W : World) (hb : Below w.heap.size w W) => (h.under hb).push (hl.step (S := fun _ => False) (StepC.below h.fresh hb) (fun e => e)) (by omega) hidx (by rw [h.el.1]; exact hxs) rfl)
    have HL := Lib.hid (fun (W : World) (hb : Below w.heap.size w W) => mapT_no (h.under hb).map hidx)
    have HC := Lib.hid (fun (W : World) (hb : Below w.heap.size w W) => (h.under hb).box)
    have HS := Lib.hid (fun (W : World) (hb : Below w.heap.size w W) => StepC.below (S := fun a => a = 1) h.fresh hb)
    have hel := h.el.1
    obtain ⟨s, hs⟩ : ∃ s, txK l = s := ⟨_, rfl⟩
    obtain ⟨m, hm⟩ : ∃ m, xs.length = m := ⟨_, rfl⟩
    have e1 : (⟨(txtI l).toArray⟩ : ByteArray) = s := hs
    rw [hs] at HL HP
    rw [e1] at HT
    rw [hel, hm] at HP hlc hlv
    rw [hm] at HF
    rw [hnl] at hpos hcap HT HP ⊢
    have hmm : (m : Int) ≤ 100000 := by omega
    have hni : ((n : Int) == 0) = false := beq_eq_false_iff_ne.2 (by omega)
    clear h hl hn hx hI h0 hidx hk hnil hel hs hm e1 hnl hp
    subst hlv
    go_enter Tryz.func45, Tryz.ntmps45
    go_wp2_with fail
    go_fit HT.out
    rintro e w1 ⟨rfl, hb1⟩
    have hL := HL.out w1 hb1
    have HB := Lib.hid hb1
    obtain ⟨⟨b0, b1, b2⟩, f0, f1, f2⟩ := (HC.out w1 hb1).cells
    have hM1 := (HC.out w1 hb1).lt
    clear hb1
    obtain ⟨w2, hr2, d1, d2, d3, ao2, cap2, w3, hr3, g1, g2, g3, c', hs3, hM3⟩ := HP.out w1 HB.out
    have H3 := Lib.hid (And.intro hs3 hM3)
    clear hs3 hM3
    go_wp2_with (at_builtin; refine napp_list (by rfl) _ _ 38 (by rfl) (by rfl) (by rfl) hr3 ?_)
    go_ret
    exact ⟨by rw [HF.out.1]; rfl, c', _, _, (HS.out w1 HB.out).trans H3.out.1, by rw [HF.out.2]; exact H3.out.2⟩
  · rw [if_neg hf] at hidx
    have HF : Hid (numR xs l = k ∧ numX xs l = xs) := Lib.hid (by
      unfold numR numX
      rw [hk, if_neg (by rw [hnil]; decide), if_neg hf, if_neg (by rw [hnil]; decide), if_neg hf]
      exact ⟨rfl, rfl⟩)
    have hkn : ((k.toNat : Nat) : Int) = k := by omega
    have HL := Lib.hid (fun (W : World) (hb : Below w.heap.size w W) => by
      have := mapT_yes (h.under hb).map hidx
      rwa [hkn] at this)
    have HC := Lib.hid (fun (W : World) (hb : Below w.heap.size w W) => (h.under hb).box)
    have HS := Lib.hid (fun (W : World) (hb : Below w.heap.size w W) => (⟨StepC.below (S := fun a => a = 1) h.fresh hb, h.under hb⟩ : StepC (fun a => a = 1) c c w W ∧ MkC c W M nv xs lv mb us))
    obtain ⟨s, hs⟩ : ∃ s, txK l = s := ⟨_, rfl⟩
    have e1 : (⟨(txtI l).toArray⟩ : ByteArray) = s := hs
    rw [hs] at HL
    rw [e1] at HT
    rw [hnl] at hpos hcap HT ⊢
    have hni : ((n : Int) == 0) = false := beq_eq_false_iff_ne.2 (by omega)
    clear h hl hn hx hI h0 hidx hk hnil hs e1 hnl hp hkn hlc HM
    subst hlv
    go_enter Tryz.func45, Tryz.ntmps45
    go_wp2_with fail
    go_fit HT.out
    rintro e w1 ⟨rfl, hb1⟩
    have hL := HL.out w1 hb1
    have HB := Lib.hid hb1
    obtain ⟨⟨b0, b1, b2⟩, f0, f1, f2⟩ := (HC.out w1 hb1).cells
    clear hb1
    go_wp2_with fail
    go_ret
    exact ⟨by rw [HF.out.1]; rfl, c, _, us, (HS.out w1 HB.out).1, by rw [HF.out.2]; exact (HS.out w1 HB.out).2⟩
end
end Go.Proofs.YtjeomlickkpebaaGreatDoor
