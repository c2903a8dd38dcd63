/-
  pieces: changed: the text with other bytes in the place of a part: what the call returns.
-/
import Derived.Test.YtpkfmhggaiifgaaPcAhead
import Derived.Test.YtpkfmhggaiifgaaPcBehind
import Derived.Test.YtpkfmhggaiifgaaPcClone
namespace Go.Proofs.Ytpkfmhggaiifgaa
open Go.RowKit

/-- A text with other bytes in the place of those from f up to t. -/
def putS (s : ByteArray) (f t : Nat) (x : ByteArray) : ByteArray := ⟨(s.data.toList.take f ++ x.data.toList ++ s.data.toList.drop t).toArray⟩
theorem putS_data (s : ByteArray) (f t : Nat) (x : ByteArray) : (putS s f t x).data.toList = s.data.toList.take f ++ x.data.toList ++ s.data.toList.drop t := rfl
theorem putS_size (s : ByteArray) (f t : Nat) (x : ByteArray) (h1 : f ≤ t) (h2 : t ≤ s.size) : (putS s f t x).size = s.size - (t - f) + x.size := by
  rw [← len_bytes, putS_data, List.length_append, List.length_append, List.length_take, List.length_drop, len_bytes, len_bytes]; omega
theorem putS_none (s : ByteArray) (f : Nat) : putS s f f ⟨#[]⟩ = s := by
  apply ba_ext
  rw [putS_data]
  show _ ++ [] ++ _ = _
  rw [List.append_nil, List.take_append_drop]
theorem text_new {ok : Nat → Prop} {w : World} {r : ByteArray} {v : Value} {xs : List ByteArray} (hs : StrsW w v xs) (hf : full xs) (hc : cat xs = r.data.toList) (hb0 : ok w.heap.size) (ho : OkV ok v) :
    TextO ok (w.alloc (.cells #[.bool true, .int .i64 (r.size : Int), v] 71)) (.pointer (some ⟨w.heap.size, 0, none⟩)) r xs := by
  have hb : Below w.heap.size w (w.alloc (.cells #[.bool true, .int .i64 (r.size : Int), v] 71)) := (Below.refl _ _).alloc (Nat.le_refl _) _
  refine ⟨w.heap.size, v, rfl, ?_, ?_, ?_, hs.below hb, hf, hc, hb0, ho⟩
  all_goals rw [cell_of_row _ _ _ #[.bool true, .int .i64 (r.size : Int), v] 71 (0, 0) (heap_alloc_new w _)]; rfl

set_option maxHeartbeats 2000000 in
theorem changed_same {ok : Nat → Prop} {v : Value} {s : ByteArray} {xs : List ByteArray} (f : Nat) (w : World) (hok : ∀ k, w.heap.size ≤ k → ok k) (h : TextO ok w v s xs) :
    Calls Try.prog 30 #[v, .int .i64 (f : Int), .int .i64 (f : Int), .string ⟨#[]⟩] w fun e w' => ∃ u, e = .returned u ∧ TextO ok w' u s xs ∧ Below w.heap.size w w' := by
  obtain ⟨b, sl, rfl, c0, c1, c2, hs, hf, hc, _, ho⟩ := h
  have HS : Hid (∀ W, Below w.heap.size w W → TextO ok (W.alloc (.cells #[.bool true, .int .i64 (s.size : Int), sl] 71)) (.pointer (some ⟨W.heap.size, 0, none⟩)) s xs) := fun W hW => text_new (hs.below hW) hf hc (hok _ hW.size) ho
  obtain ⟨ao, cap, rfl, _, _⟩ := hs
  clear hf hc ho hok
  go_enter Try.func30, Try.ntmps30
  go_wp2
  go_region_held3 (fun W => W.cell? ⟨b, 1, none⟩ = some (.int .i64 (s.size : Int)) ∧ W.cell? ⟨b, 2, none⟩ = some (.slice ao xs.length cap)) (go_keep) (fail)
  all_goals go_wp2
  all_goals go_ret
  all_goals exact ⟨_, rfl, (HS.out w (Below.refl _ _)).below ⟨rfl, rfl, rfl, Nat.le_refl _, fun _ _ => rfl⟩, ((Below.refl _ _).alloc (Nat.le_refl _) _).drew⟩

set_option maxHeartbeats 1000000 in
theorem changed_put {ok : Nat → Prop} {v : Value} {s : ByteArray} {xs : List ByteArray} (f : Nat) (x : ByteArray) (w : World) (hok : ∀ k, w.heap.size ≤ k → ok k) (h : TextO ok w v s xs) (hts : f ≤ s.size) (hs : s.size ≤ 50000) (hx : x.size ≤ 50000) (hx0 : x ≠ ⟨#[]⟩) :
    Calls Try.prog 30 #[v, .int .i64 (f : Int), .int .i64 (f : Int), .string x] w fun e w' => (∃ u, e = .returned u ∧ TextO ok w' u (putS s f f x) (aheadL xs f ++ [x] ++ behindL xs f)) ∧ Below w.heap.size w w' := by
  have hle := h.text.le
  obtain ⟨b, sl, rfl, c0, c1, c2, hS, hf, hc, _, ho⟩ := h
  have OK := Lib.hid hok
  have hxp : 0 < x.size := Nat.pos_of_ne_zero fun e => hx0 (ba_empty e)
  have hxs : x.size ≤ 281474976710656 := by omega
  have hcl := cut_len xs f f (Nat.le_refl _)
  have hal := ahead_full xs f hf
  have hbl := behind_full xs f hf
  have hsz := putS_size s f f x (Nat.le_refl _) hts
  have H1 := Lib.hid (ahead_any b sl xs f w c2 hS ho hf (by omega) (by omega))
  have H2 := Lib.hid (fun w => clone_any x w hxs)
  have H3 : Hid (∀ W, Below w.heap.size w W → Calls Try.prog 37 #[.pointer (some ⟨b, 0, none⟩), .int .i64 (f : Int)] W fun e w' => ∃ v, e = .returned v ∧ StrsW w' v (behindL xs f) ∧ Below W.heap.size W w') :=
    fun W hW => behind_any b sl xs f W (by rw [hW.cell (p := ⟨b, 2, none⟩) (cell_lt (p := ⟨b, 2, none⟩) c2)]; exact c2) (hS.below hW) hf (by omega) (by omega)
  have hcat : cat (aheadL xs f ++ [x] ++ behindL xs f) = (putS s f f x).data.toList := by
    rw [cat_app, cat_app, ahead_cat, behind_cat, hc, cat_one]; rfl
  have hfull : full (aheadL xs f ++ [x] ++ behindL xs f) := full_app (full_app hal (full_cons hxp full_nil)) hbl
  obtain ⟨P, hP⟩ : ∃ P, aheadL xs f = P := ⟨_, rfl⟩
  obtain ⟨Q, hQ⟩ : ∃ Q, behindL xs f = Q := ⟨_, rfl⟩
  rw [hP] at H1 hcat hfull hcl ⊢
  rw [hQ] at H3 hcat hfull hcl ⊢
  have hPl : P.length ≤ 100001 := by omega
  have hQl : Q.length ≤ 100001 := by omega
  obtain ⟨L, hL⟩ : ∃ L, P ++ [x] ++ Q = L := ⟨_, rfl⟩
  rw [hL] at hcat hfull ⊢
  have HL := Lib.hid hL
  have CAT := Lib.hid hcat
  have FUL := Lib.hid hfull
  obtain ⟨z, hz⟩ : ∃ z, s.size = z := ⟨_, rfl⟩
  rw [hz] at c1 hsz
  have C1 : Hid (∀ W, Below w.heap.size w W → W.cell? ⟨b, 1, none⟩ = some (.int .i64 (z : Int))) := fun W hW => by rw [hW.cell (p := ⟨b, 1, none⟩) (cell_lt (p := ⟨b, 1, none⟩) c1)]; exact c1
  have SZ : Hid ((z : Int) + (x.size : Int) = ((putS s f f x).size : Int)) := by show _ = _; omega
  have hz1 : z ≤ 50000 := by omega
  have ht1 : f ≤ z := by omega
  clear hL hS hf hc ho hok hal hbl hcat hfull hP hQ hle hcl c0 c1 c2 hxs hsz hts hs hz hx0
  have a2 : (f : Int) ≤ (z : Int) := by omega
  have a3 : (z : Int) ≤ 50000 := by omega
  have a4 : (x.size : Int) ≤ 50000 := by omega
  have hx1 := ba_ne hxp
  go_enter Try.func30, Try.ntmps30
  go_wp2_with fail
  refine H1.out.mono ?_
  rintro e w1 ⟨v1, rfl, hfit1, hb1⟩
  go_wp2_with fail
  refine (H2.out _).mono ?_
  rintro e w2 ⟨rfl, hb2⟩
  have hb2' := hb1.trans (hb2.mono hb1.size)
  have hfit2 := hfit1.below hb2
  have hbA : Below w2.heap.size w2 (w2.alloc (.cells #[.string x] 9)) := (Below.refl _ _).alloc (Nat.le_refl _) _
  obtain ⟨v3, w3, hr3, hfit3, hb3⟩ := run_app (B := w.heap.size) 69 (hfit2.below hbA) (by have := hb2'.size; simp; omega) (strs_one w2 x) (by simp only [List.length_cons, List.length_nil]; omega)
  have hb3' := (hb2'.trans (hbA.mono hb2'.size)).trans hb3
  clear hb1 hb2 hb2' hfit1 hfit2 hbA hb3
  go_wp2_with (at_builtin; refine wpList_app rfl _ _ _ rfl rfl rfl hr3 ?_)
  refine (H3.out _ hb3').mono ?_
  rintro e w4 ⟨v4, rfl, hs4, hb4⟩
  have hb4' := hb3'.trans (hb4.mono hb3'.size)
  obtain ⟨v5, w5, hr5, hfit5, hb5⟩ := run_app (B := w.heap.size) 69 (hfit3.below hb4) hb4'.size hs4 (by simp only [List.length_append, List.length_cons, List.length_nil]; omega)
  rw [HL.out] at hfit5
  have hb5' := hb4'.trans hb5
  have c5 := C1.out _ hb5'
  have hT := text_new hfit5.1 FUL.out CAT.out (OK.out _ hb5'.size) (hfit5.ok OK.out)
  rw [← SZ.out] at hT
  have HT := Lib.hid hT
  obtain ⟨ao5, cap5, rfl, _, _⟩ := hfit5.1
  clear hr3 hfit3 hb3' hb4 hs4 hb4' hb5 hfit5 hT
  go_wp2_with (at_builtin; refine wpList_app rfl _ _ _ rfl rfl rfl hr5 ?_)
  go_ret
  exact ⟨⟨_, rfl, HT.out⟩, hb5'.alloc hb5'.size _⟩

set_option maxHeartbeats 400000 in
theorem changed_del {ok : Nat → Prop} {v : Value} {s : ByteArray} {xs : List ByteArray} (f t : Nat) (w : World) (hok : ∀ k, w.heap.size ≤ k → ok k) (h : TextO ok w v s xs) (hft : f < t) (hts : t ≤ s.size) (hs : s.size ≤ 50000) :
    Calls Try.prog 30 #[v, .int .i64 (f : Int), .int .i64 (t : Int), .string ⟨#[]⟩] w fun e w' => (∃ u, e = .returned u ∧ TextO ok w' u (putS s f t ⟨#[]⟩) (aheadL xs f ++ behindL xs t)) ∧ Below w.heap.size w w' := by
  have hle := h.text.le
  obtain ⟨b, sl, rfl, c0, c1, c2, hS, hf, hc, _, ho⟩ := h
  have OK := Lib.hid hok
  have hcl := cut_len xs f t (Nat.le_of_lt hft)
  have hal := ahead_full xs f hf
  have hbl := behind_full xs t hf
  have hsz := putS_size s f t ⟨#[]⟩ (Nat.le_of_lt hft) hts
  rw [show ByteArray.size ⟨#[]⟩ = 0 from rfl, Nat.add_zero] at hsz
  have H1 := Lib.hid (ahead_any b sl xs f w c2 hS ho hf (by omega) (by omega))
  have H3 : Hid (∀ W, Below w.heap.size w W → Calls Try.prog 37 #[.pointer (some ⟨b, 0, none⟩), .int .i64 (t : Int)] W fun e w' => ∃ v, e = .returned v ∧ StrsW w' v (behindL xs t) ∧ Below W.heap.size W w') :=
    fun W hW => behind_any b sl xs t W (by rw [hW.cell (p := ⟨b, 2, none⟩) (cell_lt (p := ⟨b, 2, none⟩) c2)]; exact c2) (hS.below hW) hf (by omega) (by omega)
  have hcat : cat (aheadL xs f ++ behindL xs t) = (putS s f t ⟨#[]⟩).data.toList := by
    rw [cat_app, ahead_cat, behind_cat, hc, putS_data]
    show _ = _ ++ [] ++ _
    rw [List.append_nil]
  have hfull : full (aheadL xs f ++ behindL xs t) := full_app hal hbl
  obtain ⟨P, hP⟩ : ∃ P, aheadL xs f = P := ⟨_, rfl⟩
  obtain ⟨Q, hQ⟩ : ∃ Q, behindL xs t = Q := ⟨_, rfl⟩
  rw [hP] at H1 hcat hfull hcl ⊢
  rw [hQ] at H3 hcat hfull hcl ⊢
  have hPl : P.length ≤ 100001 := by omega
  have hQl : Q.length ≤ 100001 := by omega
  obtain ⟨L, hL⟩ : ∃ L, P ++ Q = L := ⟨_, rfl⟩
  rw [hL] at hcat hfull ⊢
  have HL := Lib.hid hL
  have CAT := Lib.hid hcat
  have FUL := Lib.hid hfull
  obtain ⟨z, hz⟩ : ∃ z, s.size = z := ⟨_, rfl⟩
  rw [hz] at c1 hsz
  have C1 : Hid (∀ W, Below w.heap.size w W → W.cell? ⟨b, 1, none⟩ = some (.int .i64 (z : Int))) := fun W hW => by rw [hW.cell (p := ⟨b, 1, none⟩) (cell_lt (p := ⟨b, 1, none⟩) c1)]; exact c1
  have SZ : Hid ((z : Int) - ((t : Int) - (f : Int)) = ((putS s f t ⟨#[]⟩).size : Int)) := by show _ = _; omega
  have hz1 : z ≤ 50000 := by omega
  have ht1 : t ≤ z := by omega
  clear hL hS hf hc ho hok hal hbl hcat hfull hP hQ hle hcl c0 c1 c2 hsz hts hs hz
  have a1 : (f : Int) < (t : Int) := by omega
  have a2 : (t : Int) ≤ (z : Int) := by omega
  have a3 : (z : Int) ≤ 50000 := by omega
  go_enter Try.func30, Try.ntmps30
  go_wp2_with fail
  refine H1.out.mono ?_
  rintro e w1 ⟨v1, rfl, hfit1, hb1⟩
  go_wp2_with fail
  refine (H3.out _ hb1).mono ?_
  rintro e w4 ⟨v4, rfl, hs4, hb4⟩
  have hb4' := hb1.trans (hb4.mono hb1.size)
  obtain ⟨v5, w5, hr5, hfit5, hb5⟩ := run_app (B := w.heap.size) 69 (hfit1.below hb4) hb4'.size hs4 (by omega)
  rw [HL.out] at hfit5
  have hb5' := hb4'.trans hb5
  have c5 := C1.out _ hb5'
  have hT := text_new hfit5.1 FUL.out CAT.out (OK.out _ hb5'.size) (hfit5.ok OK.out)
  rw [← SZ.out] at hT
  have HT := Lib.hid hT
  obtain ⟨ao5, cap5, rfl, _, _⟩ := hfit5.1
  clear hfit1 hb1 hb4 hs4 hb4' hb5 hfit5 hT
  go_wp2_with (at_builtin; refine wpList_app rfl _ _ _ rfl rfl rfl hr5 ?_)
  go_ret
  exact ⟨⟨_, rfl, HT.out⟩, hb5'.alloc hb5'.size _⟩
end Go.Proofs.Ytpkfmhggaiifgaa
