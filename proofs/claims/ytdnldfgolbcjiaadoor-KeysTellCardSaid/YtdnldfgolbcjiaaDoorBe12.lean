/-
  bytes.Equal, HasSuffix, CutSuffix: what each call returns: for every slice, and six bytes at its end.
-/
import Derived.Test.YtdnldfgolbcjiaaDoorBe9
namespace Go.Proofs.YtdnldfgolbcjiaaDoor
open Go.RowKit

theorem ba_beq (s t : ByteArray) : (s.toList == t.toList) = decide (s = t) := by
  by_cases h : s = t
  · subst h; simp
  · have : s.toList ≠ t.toList := fun e => h (by
      rw [Lib.toList_data, Lib.toList_data] at e
      exact ByteArray.ext (Array.toList_inj.1 e))
    rw [decide_eq_false h]
    exact beq_eq_false_iff_ne.2 this
set_option maxHeartbeats 1000000 in
theorem bequal_any (a b : Value) (s t : ByteArray) (w : World) (ha : BytesW w a s) (hb : BytesW w b t) :
    Calls Tryd.prog 63 #[a, b] w fun e w' => e = .returned (.bool (decide (s = t))) ∧ w' = w := by
  have c1 := bytes_conv 28 Tryd.underlying28 ha
  have c2 := bytes_conv 28 Tryd.underlying28 hb
  clear ha hb
  go_enter Tryd.func63, Tryd.ntmps63
  go_wp2_with fail
  go_ret
  exact ⟨by rw [ba_beq]; rfl, rfl⟩

theorem tail_bytes {w : World} {g o n cap : Nat} {s : ByteArray} (h : BytesW w (.slice (some ⟨g, o, none⟩) n cap) s) (k c2 : Nat) (hc : s.size - k ≤ c2) : BytesW w (.slice (some ⟨g, o + k, none⟩) (n - k) c2) (tailB s k) := by
  have hn : n = s.size := by
    obtain ⟨ao, cap', he, _⟩ := h
    cases he
    rfl
  subst hn
  have := RowV.drop (i := k) (c2 := c2) 1 h hc
  rw [Nat.mul_one, bytesC_drop] at this
  unfold BytesW
  rw [tailB_size]
  exact this
theorem head_bytes {w : World} {ao : Option Addr} {n cap : Nat} {s : ByteArray} (h : BytesW w (.slice ao n cap) s) (k c2 : Nat) (hk : k ≤ s.size) (hc : k ≤ c2) : BytesW w (.slice ao k c2) (s.extract 0 k) := by
  have hn : n = s.size := by
    obtain ⟨ao', cap', he, _⟩ := h
    cases he
    rfl
  subst hn
  have := RowV.take (k := k) (c2 := c2) 1 h hc
  rw [Nat.mul_one, bytesC_take] at this
  unfold BytesW
  rw [head_size s k hk]
  exact this

set_option maxHeartbeats 1000000 in
theorem bsuffix_any (a b : Value) (s : ByteArray) (w : World) (ha : BytesW w a s) (hb : BytesW w b endP) (hs : s.size ≤ 1000000) :
    Calls Tryd.prog 52 #[a, b] w fun e w' => e = .returned (.bool (decide (endsP s))) ∧ w' = w := by
  obtain ⟨bo, bc, rfl, _⟩ := hb.form
  have h6 : endP.size = 6 := rfl
  rw [h6] at hb ⊢
  by_cases h : 6 ≤ s.size
  · obtain ⟨g, o, cap, rfl, hcap, _⟩ := ha.cells (by omega)
    have ht := tail_bytes ha (s.size - 6) (cap - (s.size - 6)) (by omega)
    have HR : Hid (decide (endsP s) = decide (tailB s (s.size - 6) = endP)) := by
      show decide _ = decide _
      unfold endsP
      simp [h]
    rw [HR.out]
    clear HR
    have he := bequal_any _ _ _ _ w ht hb
    obtain ⟨r, hr⟩ : ∃ r, decide (tailB s (s.size - 6) = endP) = r := ⟨_, rfl⟩
    rw [hr] at he ⊢
    obtain ⟨k, hk⟩ : ∃ k, s.size = k + 6 := ⟨s.size - 6, by omega⟩
    rw [hk] at he hcap hs
    rw [show k + 6 - 6 = k by omega, show k + 6 - k = 6 by omega] at he
    have hk2 : s.size - 6 = k := by omega
    rw [hk]
    have HE := Lib.hid he
    clear he ht ha hb hr hk hk2 h
    go_enter Tryd.func52, Tryd.ntmps52
    go_wp2_with fail
    go_fit HE.out
    rintro e w' ⟨rfl, rfl⟩
    go_wp2_with fail
    go_ret
    exact ⟨rfl, rfl⟩
  · have hR : Hid (decide (endsP s) = false) := decide_eq_false fun e => h e.1
    have h2 : s.size < 6 := by omega
    obtain ⟨ao, ac, rfl, _⟩ := ha.form
    clear ha hb h
    go_enter Tryd.func52, Tryd.ntmps52
    go_wp2_with fail
    go_ret
    exact ⟨by rw [hR.out]; rfl, rfl⟩

set_option maxHeartbeats 1000000 in
theorem bcut_any (a b : Value) (s : ByteArray) (w : World) (ha : BytesW w a s) (hb : BytesW w b endP) (hs : s.size ≤ 1000000) :
    Calls Tryd.prog 41 #[a, b] w fun e w' => (∃ u, e = .returned (.tuple #[u, .bool (decide (endsP s))]) ∧ (endsP s → BytesW w u (s.extract 0 (s.size - 6)))) ∧ w' = w := by
  have H := bsuffix_any a b s w ha hb hs
  obtain ⟨bo, bc, rfl, _⟩ := hb.form
  have h6 : endP.size = 6 := rfl
  rw [h6] at hb H ⊢
  by_cases h : endsP s
  · obtain ⟨g, o, cap, rfl, hcap, _⟩ := ha.cells (by have := h.1; omega)
    obtain ⟨k, hk⟩ : ∃ k, s.size = k + 6 := ⟨s.size - 6, by have := h.1; omega⟩
    have hu := head_bytes ha k cap (by omega) (by omega)
    rw [decide_eq_true h] at H ⊢
    have hk2 : s.size - 6 = k := by omega
    rw [hk2]
    rw [hk] at H hcap hs ⊢
    have HU := Lib.hid hu
    have HE := Lib.hid H
    clear H hu ha hb hk hk2 h
    go_enter Tryd.func41, Tryd.ntmps41
    go_wp2_with fail
    go_fit HE.out
    rintro e w' ⟨rfl, rfl⟩
    go_wp2_with fail
    go_ret2
    exact ⟨⟨_, rfl, fun _ => HU.out⟩, rfl⟩
  · have h2 := decide_eq_false h
    rw [h2] at H ⊢
    have HE := Lib.hid H
    have HN := Lib.hid h
    clear ha hb H h2 h
    go_enter Tryd.func41, Tryd.ntmps41
    go_wp2_with fail
    go_fit HE.out
    rintro e w' ⟨rfl, rfl⟩
    go_wp2_with fail
    go_ret2
    exact ⟨⟨_, rfl, fun h => absurd h HN.out⟩, rfl⟩
end Go.Proofs.YtdnldfgolbcjiaaDoor
