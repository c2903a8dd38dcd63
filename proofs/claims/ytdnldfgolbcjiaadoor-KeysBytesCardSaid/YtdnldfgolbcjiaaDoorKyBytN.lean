/-
  Plain facts: without the byte that ends a paste's beginning, the keys are of as many bytes as came. Nothing of the program.
-/
import Derived.Test.YtdnldfgolbcjiaaDoorKyOkN
namespace Go.Proofs.YtdnldfgolbcjiaaDoor
open Go.RowKit

/-- Of how many bytes a key is. -/
def lenK (k : Ke) : Nat :=
  if k.1 = 0 then k.2.2.size else if k.1 = 1 then (putB (k.2.1 : Int)).size else if k.1 = 7 then 1 + (putB (k.2.1 : Int)).size else if 8 ≤ k.1 ∧ k.1 ≤ 13 then 3 else 1
def lensK (l : List Ke) : Nat := (l.map lenK).sum
theorem lens_app (a b : List Ke) : lensK (a ++ b) = lensK a + lensK b := by unfold lensK; rw [List.map_append, List.sum_append]
theorem lens_one (k : Ke) : lensK [k] = lenK k := by unfold lensK; simp
theorem lens_cons (k : Ke) (l : List Ke) : lensK (k :: l) = lenK k + lensK l := by unfold lensK; simp
theorem len_bad (s : ByteArray) : lenK (badK s) = s.size := rfl
theorem put_one (b : Nat) (h : b < 128) : (putB (b : Int)).size = 1 := by
  rw [put_size]; unfold putN; rw [if_pos h]; rfl
theorem len_rune (r : Nat) : lenK (1, r, noB) = (putB (r : Int)).size := by
  unfold lenK
  rw [if_neg (show ¬ (1 : Nat) = 0 by decide), if_pos rfl]
theorem len_alt (r : Nat) : lenK (7, r, noB) = 1 + (putB (r : Int)).size := by
  unfold lenK
  rw [if_neg (show ¬ (7 : Nat) = 0 by decide), if_neg (show ¬ (7 : Nat) = 1 by decide), if_pos rfl]
theorem len_first (b : Nat) : lensK (firstK b).2 + sizeK (firstK b).1 = 1 := by
  unfold firstK
  split
  · rfl
  · show lensK [oneK b] + 0 = 1
    rw [lens_one]
    unfold oneK
    split
    · unfold ctlK
      repeat' split
      all_goals rfl
    · split
      · rename_i h1 h2
        rw [len_rune, put_one b h2]
      · rfl
theorem len_anew (k : Ke) (b : Nat) : lensK (anewK k b).2 + sizeK (anewK k b).1 = lenK k + 1 := by
  have := len_first b
  show lensK (k :: (firstK b).2) + sizeK (firstK b).1 = _
  rw [lens_cons]; omega
theorem dec_bytes (s : ByteArray) (h : okAt s 0 = true) : (putB ((Utf8.decode s 0).1 : Int)).size = (Utf8.decode s 0).2 := by rw [put_size, dec_len s h]
theorem tail_last (w : ByteArray) (b : Nat) (h : 2 ≤ w.size) : tailB (w ++ oneS b) 2 = tailB w 2 ++ oneS b := tail_snoc w b 2 h
/-- A name without the byte that ends a paste's beginning is of one byte. -/
theorem named_one (t : ByteArray) (b : Nat) (hb : b < 256) (h126 : b ≠ 126) (h : namedK (t ++ oneS b) ≠ 0) : t.size = 0 ∧ 8 ≤ namedK (t ++ oneS b) ∧ namedK (t ++ oneS b) ≤ 13 := by
  have hl : ∀ (x y : UInt8), y.toNat = 126 → t ++ oneS b ≠ ⟨#[x, y]⟩ := fun x y hy e => by
    have h1 : (t ++ oneS b).size = 2 := by rw [e]; rfl
    rw [snoc_size] at h1
    have h2 : bt (t ++ oneS b) 1 = b := bt_r t b 1 (by omega) hb
    rw [e] at h2
    have h3 : bt ⟨#[x, y]⟩ 1 = y.toNat := rfl
    omega
  have one : ∀ c, t ++ oneS b = oneS c → t.size = 0 := fun c e => by
    have h1 : (t ++ oneS b).size = 1 := by rw [e]; rfl
    rw [snoc_size] at h1
    omega
  revert h
  unfold namedK
  intro h
  split
  · rename_i e; exact ⟨one _ e, by decide, by decide⟩
  · split
    · rename_i e; exact ⟨one _ e, by decide, by decide⟩
    · split
      · rename_i e; exact ⟨one _ e, by decide, by decide⟩
      · split
        · rename_i e; exact ⟨one _ e, by decide, by decide⟩
        · split
          · rename_i e
            rcases e with e | e | e
            · exact ⟨one _ e, by decide, by decide⟩
            · exact absurd e (hl _ _ rfl)
            · exact absurd e (hl _ _ rfl)
          · split
            · rename_i e
              rcases e with e | e | e
              · exact ⟨one _ e, by decide, by decide⟩
              · exact absurd e (hl _ _ rfl)
              · exact absurd e (hl _ _ rfl)
            · split
              · rename_i e
                exact absurd e (hl _ _ rfl)
              · exfalso
                rename_i a1 a2 a3 a4 a5 a6 a7
                rw [if_neg a1, if_neg a2, if_neg a3, if_neg a4, if_neg a5, if_neg a6, if_neg a7] at h
                exact h rfl
theorem len_known (w : ByteArray) (b : Nat) (hb : b < 256) (h126 : b ≠ 126) (h2 : 2 ≤ w.size) : lenK (knownK (w ++ oneS b)) = w.size + 1 := by
  unfold knownK
  split
  · rw [len_bad, snoc_size]
  · rename_i h
    rw [tail_last w b h2] at h ⊢
    obtain ⟨n1, n2, n3⟩ := named_one _ b hb h126 h
    rw [tail_len] at n1
    show (if namedK (tailB w 2 ++ oneS b) = 0 then _ else _) = _
    rw [if_neg h, if_neg (by show ¬ namedK _ = 1; omega), if_neg (by show ¬ namedK _ = 7; omega), if_pos ⟨n2, n3⟩]
    omega
theorem len_held (w : ByteArray) (b : Nat) (hb : b < 256) (h126 : b ≠ 126) (h : OkH w) : lensK (heldK w b).2 + sizeK (heldK w b).1 = w.size + 1 ∧ ∃ u, (heldK w b).1 = .held u := by
  have hs := snoc_size w b
  have hf : ∃ u, (firstK b).1 = .held u := by unfold firstK; split; exact ⟨_, rfl⟩; exact ⟨_, rfl⟩
  have ha : ∀ k, ∃ u, (anewK k b).1 = .held u := fun k => hf
  unfold heldK
  by_cases h0 : w.size = 0
  · rw [if_pos h0]; exact ⟨by rw [len_first]; omega, hf⟩
  rw [if_neg h0]
  by_cases e27 : bt w 0 = 27
  · rw [if_neg (fun h => h e27)]
    by_cases h1 : w.size = 1
    · rw [if_pos h1]
      unfold escK
      split
      · exact ⟨by show 0 + (w ++ oneS b).size = _; omega, _, rfl⟩
      · split
        · rename_i hc
          refine ⟨?_, _, rfl⟩
          show lensK [(7, b, noB)] + 0 = _
          rw [lens_one]
          rw [len_alt, put_one b (by omega)]
          omega
        · exact ⟨by rw [len_anew]; show 1 + 1 = _; omega, ha _⟩
    rw [if_neg h1]
    by_cases e79 : bt w 1 = 79
    · rw [if_pos e79]
      unfold ss3K
      split
      · exact ⟨by rw [len_anew, len_bad], ha _⟩
      · exact ⟨by show lensK [knownK (w ++ oneS b)] + 0 = _; rw [lens_one, len_known w b hb h126 (by omega)], _, rfl⟩
    rw [if_neg e79]
    by_cases e91 : bt w 1 = 91
    · rw [if_pos e91]
      unfold csiK
      split
      · exact ⟨by rw [len_anew, len_bad], ha _⟩
      · split
        · exact ⟨by show 0 + (w ++ oneS b).size = _; omega, _, rfl⟩
        · split
          · rename_i e
            exfalso
            have h3 : bt (tailB (w ++ oneS b) 2) (w.size - 2) = b := by
              rw [tail_bt, show 2 + (w.size - 2) = w.size by omega]
              exact bt_r w b _ rfl hb
            have h4 : (tailB (w ++ oneS b) 2).size = 4 := by rw [e]; rfl
            rw [tail_len, hs] at h4
            rw [e, show w.size - 2 = 3 by omega] at h3
            have h5 : bt begP 3 = 126 := rfl
            omega
          · exact ⟨by show lensK [knownK (w ++ oneS b)] + 0 = _; rw [lens_one, len_known w b hb h126 (by omega)], _, rfl⟩
    rw [if_neg e91]
    have hB := ok_tail w h e27 (by omega) e79 e91
    have ht := tail_snoc w b 1 (by omega)
    unfold runeK
    split
    · rename_i hok
      refine ⟨?_, _, rfl⟩
      show lensK [(7, (Utf8.decode (tailB (w ++ oneS b) 1) 0).1, noB)] + 0 = _
      rw [lens_one]
      rw [len_alt, dec_bytes _ hok]
      rw [ht] at hok ⊢
      rw [beg_whole _ b hB hok, snoc_size, tail_len]
      omega
    · split
      · exact ⟨by show 0 + (w ++ oneS b).size = _; omega, _, rfl⟩
      · exact ⟨by rw [len_anew, len_bad], ha _⟩
  · rw [if_pos e27]
    have hB := ok_beg w h h0 e27
    unfold runeK
    split
    · rename_i hok
      refine ⟨?_, _, rfl⟩
      show lensK [(1, (Utf8.decode (w ++ oneS b) 0).1, noB)] + 0 = _
      rw [lens_one]
      rw [len_rune, dec_bytes _ hok, beg_whole w b hB hok, hs]
    · split
      · exact ⟨by show 0 + (w ++ oneS b).size = _; omega, _, rfl⟩
      · exact ⟨by rw [len_anew, len_bad], ha _⟩
theorem len_run : ∀ (l : List Nat) (w : ByteArray), OkH w → (∀ b ∈ l, b < 256 ∧ b ≠ 126) → lensK (runK (.held w) l).2 + sizeK (runK (.held w) l).1 = w.size + l.length ∧ ∃ u, (runK (.held w) l).1 = .held u
  | [], w, _, _ => ⟨by show 0 + w.size = _; simp, w, rfl⟩
  | b :: l, w, h, hl => by
    obtain ⟨h1, u, hu⟩ := len_held w b (hl b (by simp)).1 (hl b (by simp)).2 h
    have hok : OkK (feedK (.held w) b).1 := ok_heldK w b (hl b (by simp)).1
    have hfe : (feedK (.held w) b).1 = .held u := hu
    rw [hfe] at hok
    obtain ⟨h2, x, hx⟩ := len_run l u hok (fun c hc => hl c (by simp [hc]))
    rw [runK_cons, hfe]
    refine ⟨?_, x, hx⟩
    show lensK ((heldK w b).2 ++ (runK (.held u) l).2) + sizeK (runK (.held u) l).1 = _
    rw [lens_app, List.length_cons]
    rw [hu] at h1
    have h3 : sizeK (.held u) = u.size := rfl
    omega
/-- All bytes are of keys. -/
theorem len_told (t : ByteArray) (h : ∀ i, i < t.size → bt t i ≠ 126) : lensK (toldK t true) = t.size := by
  have hm : ∀ b ∈ bytesN t, b < 256 ∧ b ≠ 126 := fun b hb => by
    unfold bytesN at hb
    obtain ⟨u, hu, rfl⟩ := List.mem_map.1 hb
    obtain ⟨i, hi, rfl⟩ := List.mem_iff_getElem.1 hu
    have hi2 : i < t.size := by rw [Lib.size_eq]; exact hi
    have e : (t.data.toList[i]).toNat = bt t i := by rw [bt_data, List.getD, List.getElem?_eq_getElem hi]; rfl
    rw [e]
    exact ⟨bt_lt t i, h i hi2⟩
  obtain ⟨h1, u, hu⟩ := len_run (bytesN t) noB ok_noB hm
  have e : toldK t true = (runK (.held noB) (bytesN t)).2 ++ (tickK (runK (.held noB) (bytesN t)).1).2 := by unfold toldK; rw [if_pos rfl]
  rw [e, lens_app, hu]
  rw [hu, bytesN_len] at h1
  have h2 : lensK (tickK (.held u)).2 = u.size := by
    show lensK (if u.size = 0 then (Ky.held u, []) else (Ky.held noB, [if u = oneS 27 then ((5, 0, noB) : Ke) else badK u])).2 = _
    split
    · rename_i h0; rw [h0]; rfl
    · rw [lens_one]
      split
      · rename_i e; rw [e]; rfl
      · exact len_bad u
  have h3 : sizeK (.held u) = u.size := rfl
  have h4 : noB.size = 0 := rfl
  omega
theorem len_le (l : List Ke) (i : Nat) (k : Ke) (h : l[i]? = some k) : lensK (l.take (i + 1)) = lensK (l.take i) + lenK k := by
  rw [List.take_add_one, h, lens_app]
  congr 1
theorem lens_take (l : List Ke) (i : Nat) : lensK (l.take i) ≤ lensK l := by
  have := lens_app (l.take i) (l.drop i)
  rw [List.take_append_drop] at this
  omega
end Go.Proofs.YtdnldfgolbcjiaaDoor
