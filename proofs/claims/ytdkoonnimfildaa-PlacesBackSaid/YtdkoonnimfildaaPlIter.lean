/-
  strings.Lines: the function that it hands back goes through a text line by line, whatever is done with each line, as long as what is done leaves the function's own variable alone.
-/
import Derived.Test.YtdkoonnimfildaaPlNext
import Derived.Test.YtdkoonnimfildaaPlLib
import Derived.RangeFuncRecord
import Derived.RangeFuncBound
import Derived.Shelf.Abstract
import Derived.OwnWalkIn
import Derived.TacticsInMore
import Derived.LoopNIn
import Derived.LoopIn
namespace Go.Proofs.Ytdkoonnimfildaa
open Go.RowKit Go.Shelf

attribute [local go_sem] Oper.semAt_some

/-- What is left of the text, in the function's variable. -/
def LeftS (s : ByteArray) (B : Nat) (W : World) (p : Nat) : Prop := BoxV W B (.string (s.extract p s.size)) 9
def leftLen (B : Nat) (W : World) : Nat := match W.cell? ⟨B, 0, none⟩ with
  | some (.string r) => r.size
  | _ => 0
theorem LeftS.len {s : ByteArray} {B : Nat} {W : World} {p : Nat} (h : LeftS s B W p) : leftLen B W = s.size - p := by
  unfold leftLen
  rw [(BoxV.cell h).1]
  exact ex_size s p s.size (Nat.le_refl _)
theorem ex_ex (s : ByteArray) (p a : Nat) (h : p ≤ s.size) : (s.extract p s.size).extract a (s.extract p s.size).size = s.extract (p + a) s.size := by
  apply ba_ext
  have hl := len_bytes s
  rw [ex_data, ex_data, ex_data, ex_size s p s.size (Nat.le_refl _), List.take_of_length_le (l := s.data.toList.drop p) (by rw [List.length_drop]; omega), List.drop_drop,
    List.take_of_length_le (by rw [List.length_drop]; omega), List.take_of_length_le (by rw [List.length_drop]; omega)]
theorem ex_head (s : ByteArray) (p a : Nat) (h : p + a ≤ s.size) : (s.extract p s.size).extract 0 a = s.extract p (p + a) := by
  apply ba_ext
  have hl := len_bytes s
  rw [ex_data, ex_data, ex_data, List.take_of_length_le (l := s.data.toList.drop p) (by rw [List.length_drop]; omega), List.drop_zero, Nat.sub_zero, show p + a - p = a by omega]
theorem ex_none (s : ByteArray) : s.extract s.size s.size = ⟨#[]⟩ := by
  apply ba_ext
  rw [ex_data, Nat.sub_self, List.take_zero]

set_option maxRecDepth 100000 in
set_option maxHeartbeats 2000000 in
theorem linesIter_in (n : Nat) (hn1 : 1 ≤ n) (s : ByteArray) (l B : Nat) (J : Nat → World → Prop) (Jx : World → Prop) (hs : s.size ≤ 1000000)
    (hJ : ∀ p W W', J p W → NearX B W W' → J p W')
    (hY : ∀ p W, p < s.size → J p W → LeftS s B W (nextN s.data.toList p) → YieldAt Fence.wide (n - 1) Try.prog l #[.string (s.extract p (nextN s.data.toList p))] W fun e W' =>
      (e = .returned (.bool true) ∧ J (nextN s.data.toList p) W' ∧ LeftS s B W' (nextN s.data.toList p)) ∨ (e = .returned (.bool false) ∧ Jx W'))
    (W : World) (hB : LeftS s B W 0) (h0 : J 0 W) :
    CallsIn Fence.wide n Try.prog 39 #[.func (.yield l) #[] #[], .pointer (some ⟨B, 0, none⟩)] W fun e W' => (∃ v, e = .returned v) ∧ (J s.size W' ∨ Jx W') := by
  have hl := len_bytes s
  have HY := Lib.hid hY
  have HJ := Lib.hid hJ
  clear hY hJ
  refine callsIn_of_wp Try.func39 rfl trivial ?_ rfl
  simp only [Try.ntmps39, List.size_toArray, List.length_cons, List.length_nil, Nat.reduceAdd, Nat.reduceSub, Array.replicate_succ, Array.replicate_zero, List.push_toArray, List.append_toArray, List.nil_append, List.cons_append]
  gi_wp2
  gi_loopw [3] (fun _ wr => ∃ p : Nat, p ≤ s.size ∧ LeftS s B wr p ∧ J p wr) (fun _ wr => leftLen B wr)
  case atStart => exact ⟨0, Nat.zero_le _, hB, h0⟩
  case round =>
    obtain ⟨p, hp, hL, hj⟩ := hrel
    have hlen := hL.len
    obtain ⟨hc, hf⟩ := BoxV.cell hL
    by_cases hlt : p < s.size
    · obtain ⟨r, hr⟩ : ∃ r, s.extract p s.size = r := ⟨_, rfl⟩
      have hz := ex_size s p s.size (Nat.le_refl _)
      have hd : r.data.toList = s.data.toList.drop p := by
        rw [← hr, ex_data, List.take_of_length_le (by rw [List.length_drop]; omega)]
      have H := Lib.hid (indexByte_any r wr)
      rw [hr] at hc hz
      have hn := endN_nlI s.data.toList p (by omega)
      rw [← hd] at hn
      rcases hn with ⟨k, h1, h2, h3⟩ | ⟨h1, h2⟩
      · rw [h1] at H
        have hnx : nextN s.data.toList p = p + (k + 1) := by unfold nextN; omega
        have E1 : Hid (r.extract 0 (k + 1) = s.extract p (nextN s.data.toList p)) := by
          show _ = _
          rw [← hr, ex_head s p (k + 1) (by omega), hnx]
        have E2 : Hid (r.extract (k + 1) (s.size - p) = s.extract (nextN s.data.toList p) s.size) := by
          show _ = _
          rw [← hz, ← hr, ex_ex s p (k + 1) hp, hnx]
        have hk : k < r.size := by omega
        have HN := Lib.hid hnx
        have HR := Lib.hid hr
        clear h1 h2 h3 hnx hd hr
        gi_wp2_with (refine ⟨trivial, ?_⟩; gi_at_call 40; refine (callsIn_wide.2 H.out).mono ?_; rintro e w' ⟨rfl, rfl⟩)
        gi_region
        rw [E1.out, E2.out]
        obtain ⟨W2, hW2⟩ : ∃ W2, (w'.setCell ⟨B, 0, none⟩ (.string (s.extract (nextN s.data.toList p) s.size))).drew = W2 := ⟨_, rfl⟩
        have hL2 : LeftS s B W2 (nextN s.data.toList p) := by rw [← hW2]; exact BoxV.set _ hL
        have hj2 : J p W2 := by rw [← hW2]; exact HJ.out _ _ _ hj ((nearX_set B 0 none _ w').trans (nearX_drew B _))
        rw [hW2]
        obtain ⟨N, hN⟩ : ∃ N, nextN s.data.toList p = N := ⟨_, rfl⟩
        obtain ⟨fn, tmps, assign, body, hy, hR⟩ := HY.out p W2 hlt hj2 hL2
        rw [hN] at hL2 hy hR HN ⊢
        have hgt : p < N := by have := HN.out; omega
        have hle : N ≤ s.size := by rw [← hN, ← hl]; exact nextN_le _ _
        have HR2 := Lib.hid hR
        clear hR hN hW2 E1 E2 HN HR H hc hf hj hj2
        gi_wp2
        refine HR2.out.mono ?_
        rintro e W3 (⟨rfl, hj3, hL3⟩ | ⟨rfl, hx⟩)
        · have hlen3 := hL3.len
          gi_wp2
          go_roundw
          case rel => exact ⟨N, hle, hL3, hj3⟩
          case measure => rw [hlen3, hlen]; omega
        · gi_wp2
          refine bodyPost_ret (results_none rfl _ _ _) rfl ?_
          exact ⟨⟨_, rfl⟩, .inr hx⟩
      · rw [h1] at H
        have hnx : nextN s.data.toList p = s.size := by unfold nextN; omega
        have E1 : Hid (r = s.extract p (nextN s.data.toList p)) := by
          show _ = _
          rw [← hr, hnx]
        have E2 : Hid ((⟨#[]⟩ : ByteArray) = s.extract (nextN s.data.toList p) s.size) := by
          show _ = _
          rw [hnx, ex_none]
        have HN := Lib.hid hnx
        clear h1 h2 hnx hd hr
        gi_wp2_with (refine ⟨trivial, ?_⟩; gi_at_call 40; refine (callsIn_wide.2 H.out).mono ?_; rintro e w' ⟨rfl, rfl⟩)
        rw [E1.out, E2.out]
        obtain ⟨W2, hW2⟩ : ∃ W2, w'.setCell ⟨B, 0, none⟩ (.string (s.extract (nextN s.data.toList p) s.size)) = W2 := ⟨_, rfl⟩
        have hL2 : LeftS s B W2 (nextN s.data.toList p) := by rw [← hW2]; exact BoxV.set _ hL
        have hj2 : J p W2 := by rw [← hW2]; exact HJ.out _ _ _ hj (nearX_set B 0 none _ w')
        rw [hW2]
        obtain ⟨N, hN⟩ : ∃ N, nextN s.data.toList p = N := ⟨_, rfl⟩
        obtain ⟨fn, tmps, assign, body, hy, hR⟩ := HY.out p W2 hlt hj2 hL2
        rw [hN] at hL2 hy hR HN ⊢
        have hgt : p < N := by have := HN.out; omega
        have hle : N ≤ s.size := by rw [← hN, ← hl]; exact nextN_le _ _
        have HR2 := Lib.hid hR
        clear hR hN hW2 E1 E2 HN H hc hf hj hj2
        rw [hy]
        gi_wp2
        refine HR2.out.mono ?_
        rintro e W3 (⟨rfl, hj3, hL3⟩ | ⟨rfl, hx⟩)
        · have hlen3 := hL3.len
          gi_wp2
          go_roundw
          case rel => exact ⟨N, hle, hL3, hj3⟩
          case measure => rw [hlen3, hlen]; omega
        · gi_wp2
          refine bodyPost_ret (results_none rfl _ _ _) rfl ?_
          exact ⟨⟨_, rfl⟩, .inr hx⟩
    · obtain rfl : p = s.size := by omega
      rw [ex_none] at hc
      gi_wp2
      go_end0
      exact ⟨⟨_, rfl⟩, .inl hj⟩
end Go.Proofs.Ytdkoonnimfildaa
