/-
  Texts of this proof, one behind the other; each begins with its own remark.
-/
import Derived.Test.YtdibpoecdjnpaaaDoorBa14
import Derived.Test.YtdibpoecdjnpaaaDoorBa2
/-
  grids.front and ofRunes: what each returns: for every row.
-/
namespace Go.Proofs.YtdibpoecdjnpaaaDoor
open Go.RowKit

theorem CelsW.any {ok : Nat → Prop} {w : World} {v : Value} {l : List Cel} (h : CelsW ok w v l) : CelsW AnyB w v l := by
  obtain ⟨ao, cap, hv, hn, _, hc⟩ := h
  exact ⟨ao, cap, hv, hn, fun _ _ => trivial, hc⟩
theorem CelsW.ptr {ok : Nat → Prop} {w : World} {ao : Option Addr} {n cap i : Nat} {l : List Cel} {c : Cel} (h : CelsW ok w (.slice ao n cap) l) (hc : l[i]? = some c) : ∃ g o, ao = some ⟨g, o, none⟩ ∧ ∀ i c, l[i]? = some c → cell6 w g (o + i * 6) c := by
  obtain ⟨g, o, cap', he, _, _, H⟩ := h.at_ hc
  injection he with e1 e2 e3
  exact ⟨g, o, e1, H⟩
theorem front_any {ok : Nat → Prop} {g o n cap : Nat} {c : Cel} {t : List Cel} (w : World) (hS : CelsW ok w (.slice (some ⟨g, o, none⟩) n cap) (c :: t)) (hn : n = (c :: t).length) (hL : LaidW w) :
    Calls Tryd.prog 55 #[.slice (some ⟨g, o, none⟩) n cap] w fun e w' => e = .returned (.int .i64 (frontN (c :: t) : Int)) ∧ Below w.heap.size w w' := by
  have h0 : 0 < n := by rw [hn]; simp
  by_cases hb : c = blkC
  · exact front_blank w hS h0 hL hb
  by_cases hw : c.2.1 = (ofN c.1 : Int)
  · cases hy : styB c.2.2 with
    | false => exact front_style w hS h0 hL hb hw hy
    | true =>
      by_cases h2 : c.2.1 = 2
      · cases t with
        | nil => exact front_end w hS hn hL hb hw hy h2
        | cons d t => exact front_wide w hS (by rw [hn]; simp) hL hb hw hy h2
      · exact front_thin w hS h0 hL hb hw hy h2
  · exact front_width w hS h0 hL hb hw

def lenV : Value → Nat
  | .slice _ k _ => k
  | _ => 0
theorem RowV.nil_any (w : World) (ao : Option Addr) (cap : Nat) : RowV AnyB w (.slice ao 0 cap) 0 [] := ⟨ao, cap, rfl, Nat.zero_le _, fun _ _ => trivial, fun j u h => by simp at h⟩

set_option maxHeartbeats 4000000 in
theorem ofRunes_any {ok : Nat → Prop} {ao : Option Addr} {n cap : Nat} (l : List Cel) (w : World) (hS : CelsW ok w (.slice ao n cap) l) (hn : n = l.length) (hl : n ≤ 1000000) (hL : LaidW w) :
    Calls Tryd.prog 46 #[.slice ao n cap] w fun e w' => e = .returned (.bool (rowB l)) ∧ Below w.heap.size w w' := by
  have H0 : Hid (l.length = n) := hn.symm
  have H1 : Hid (CelsW AnyB w (.slice ao n cap) l) := hS.any
  have hcap : n ≤ cap := by
    obtain ⟨_, _, he, hc, _⟩ := hS
    cases he; rw [hn]; exact hc
  obtain ⟨B, hB⟩ : ∃ B, rowB l = B := ⟨_, rfl⟩
  have H2 : Hid (rowB l = B) := hB
  rw [hB]
  clear hS hn hB
  go_enter Tryd.func46, Tryd.ntmps46
  go_wp2
  go_loopw [0, 3] (fun s0 _ wr => ∃ (m : List Cel) (ao : Option Addr) (k cap : Nat), s0 = .slice ao k cap ∧ Hid (m.length = k) ∧ Hid (CelsW AnyB w (.slice ao k cap) m) ∧ Hid (rowB m = B) ∧ k ≤ 1000000 ∧ k ≤ cap ∧ Below w.heap.size w wr) (fun s0 _ _ => lenV s0)
  case atStart => exact ⟨l, ao, n, cap, rfl, H0, H1, H2, hl, hcap, Below.refl _ _⟩
  case round =>
    obtain ⟨m, ao, k, cap, rfl, HM, HS, HR, hk, hkc, hbw⟩ := hrel
    clear H0 H1 H2
    by_cases h0 : 0 < k
    · obtain ⟨c, t, rfl⟩ : ∃ c t, m = c :: t := by
        cases m with
        | nil => have := HM.out; simp at this; omega
        | cons c t => exact ⟨c, t, rfl⟩
      obtain ⟨g, o, hao⟩ : ∃ g o, ao = some ⟨g, o, none⟩ := by
        obtain ⟨g, o, _, he, _⟩ := HS.out.at_ (i := 0) (c := c) rfl
        cases he; exact ⟨g, o, rfl⟩
      subst hao
      have HF := Lib.hid (front_any wr (HS.out.below hbw) HM.out.symm (hL.below hbw))
      have hz := front_zero c t
      have hs := front_some c t
      obtain ⟨F, hF⟩ : ∃ F, frontN (c :: t) = F := ⟨_, rfl⟩
      rw [hF] at HF hz hs
      have hs := hs F rfl
      rw [HM.out, HR.out] at hs
      rw [HR.out] at hz
      clear hF
      have i0 : (0 : Int) < (k : Int) := by omega
      by_cases hf : F = 0
      · subst hf
        have HB : Hid (B = false) := hz rfl
        clear hz hs
        go_wp2_with fail
        go_fit (HF.out)
        rintro e w2 ⟨rfl, hb2⟩
        go_wp2
        go_ret
        exact ⟨by rw [HB.out]; rfl, hbw.trans (hb2.mono hbw.size)⟩
      · obtain ⟨f1, f2, f3⟩ := hs hf
        have HD : Hid (((c :: t).drop F).length = k - F) := by show _ = _; rw [List.length_drop, HM.out]
        have HB : Hid (rowB ((c :: t).drop F) = B) := f3.symm
        have HC : Hid (∀ c2, k - F ≤ c2 → CelsW AnyB w (.slice (some ⟨g, o + F * 6, none⟩) (k - F) c2) ((c :: t).drop F)) := fun c2 h2 => by
          have h := HS.out
          unfold CelsW at h ⊢
          rw [HM.out] at h
          rw [show ((c :: t).drop F).length = k - F from HD.out]
          have := RowV.drop (i := F) (c2 := c2) 6 h h2
          rwa [celC_drop] at this
        have j1 : (F : Int) ≤ (k : Int) := by omega
        have j2 : ¬ (F : Int) = 0 := by omega
        have j3 : (F : Int) ≤ (cap : Int) := by omega
        have j4 : (0 : Int) ≤ (F : Int) := by omega
        clear hz hs f3
        by_cases hcF : cap = F
        · subst hcF
          have hkF : k = cap := by omega
          subst hkF
          have HN : Hid ((c :: t).drop k = []) := by show _ = _; exact List.drop_of_length_le (by rw [HM.out]; exact Nat.le_refl _)
          go_wp2_with fail
          go_fit (HF.out)
          rintro e w2 ⟨rfl, hb2⟩
          have hb3 := hbw.trans (hb2.mono hbw.size)
          clear hb2
          go_wp2
          go_roundw
          case rel => 
            refine ⟨[], some ⟨g, o, none⟩, 0, 0, by simp, rfl, RowV.nil_any _ _ _, ?_, Nat.zero_le _, Nat.zero_le _, hb3⟩
            show _ = _
            rw [← HB.out, HN.out]
          case measure => simp [lenV]; omega
        · have j5 : (F : Int) < (cap : Int) := by omega
          go_wp2_with fail
          go_fit (HF.out)
          rintro e w2 ⟨rfl, hb2⟩
          have hb3 := hbw.trans (hb2.mono hbw.size)
          clear hb2
          go_wp2
          go_roundw
          case rel => exact ⟨(c :: t).drop F, _, k - F, cap - F, rfl, HD, HC.out _ (by omega), HB, by omega, by omega, hb3⟩
          case measure => simp [lenV]; omega
    · have HB : Hid (B = true) := by
        show _ = _
        rw [← HR.out, List.eq_nil_of_length_eq_zero (show m.length = 0 by rw [HM.out]; omega)]
        rfl
      obtain rfl : k = 0 := by omega
      go_wp2
      go_ret
      exact ⟨by rw [HB.out]; rfl, hbw⟩
end Go.Proofs.YtdibpoecdjnpaaaDoor

/-
  limnerref01.Put: what it returns: for every number.
-/
namespace Go.Proofs.YtdibpoecdjnpaaaDoor
open Go.RowKit

theorem conv_new (xs : List Int) (w : World) :
    (convert 79 9 (.slice (some ⟨w.heap.size, 0, none⟩) xs.length xs.length)).run Tryd.prog (w.alloc (.cells (xs.map (Value.int .u8)).toArray 5)) = .ok (.string (strOfNums xs)) (w.alloc (.cells (xs.map (Value.int .u8)).toArray 5)) :=
  run_convert_bytes_arg (P := Tryd.prog) _ 79 5 Tryd.underlying79 Tryd.underlying5 w.heap.size 0 xs.length xs.length xs rfl
    (fun i hi => by rw [cell_of_row _ _ _ (xs.map (Value.int .u8)).toArray 5 (0, 0) (heap_alloc_new w _)]; simp [List.getD, List.getElem?_map, List.getElem?_eq_getElem hi]) 9 Tryd.underlying9

set_option maxHeartbeats 1000000 in
theorem refPut_1 (r : Int) (w : World) (h0 : 0 ≤ r) (h1 : r < 128) :
    Calls Tryd.prog 45 #[.int .i32 r] w fun e w' => e = .returned (.string (putB r)) ∧ Below w.heap.size w w' := by
  have H := Lib.hid (put1 r h0 h1)
  have c1 := fun a => conv_new [a] w
  simp only [List.map_cons, List.map_nil, List.length_cons, List.length_nil] at c1
  go_enter Tryd.func45, Tryd.ntmps45
  go_wp2
  go_ret
  exact ⟨by rw [← H.out]; rfl, (Below.refl _ _).alloc (Nat.le_refl _) _⟩

set_option maxHeartbeats 1000000 in
theorem refPut_2 (r : Int) (w : World) (h0 : 128 ≤ r) (h1 : r < 2048) :
    Calls Tryd.prog 45 #[.int .i32 r] w fun e w' => e = .returned (.string (putB r)) ∧ Below w.heap.size w w' := by
  have H := Lib.hid (put2 r h0 h1)
  have cv := fun a b => conv_new [a, b] w
  simp only [List.map_cons, List.map_nil, List.length_cons, List.length_nil] at cv
  go_enter Tryd.func45, Tryd.ntmps45
  go_wp2
  go_ret
  exact ⟨by rw [← H.out]; rfl, (Below.refl _ _).alloc (Nat.le_refl _) _⟩

set_option maxHeartbeats 1000000 in
theorem refPut_3a (r : Int) (w : World) (h0 : 2048 ≤ r) (h1 : r < 55296) :
    Calls Tryd.prog 45 #[.int .i32 r] w fun e w' => e = .returned (.string (putB r)) ∧ Below w.heap.size w w' := by
  have H := Lib.hid (put3 r h0 (by omega) (.inl h1))
  have cv := fun a b c => conv_new [a, b, c] w
  simp only [List.map_cons, List.map_nil, List.length_cons, List.length_nil] at cv
  go_enter Tryd.func45, Tryd.ntmps45
  go_wp2
  go_ret
  exact ⟨by rw [← H.out]; rfl, (Below.refl _ _).alloc (Nat.le_refl _) _⟩

set_option maxHeartbeats 1000000 in
theorem refPut_3b (r : Int) (w : World) (h0 : 57343 < r) (h1 : r < 65536) :
    Calls Tryd.prog 45 #[.int .i32 r] w fun e w' => e = .returned (.string (putB r)) ∧ Below w.heap.size w w' := by
  have H := Lib.hid (put3 r (by omega) h1 (.inr (by omega)))
  have cv := fun a b c => conv_new [a, b, c] w
  simp only [List.map_cons, List.map_nil, List.length_cons, List.length_nil] at cv
  go_enter Tryd.func45, Tryd.ntmps45
  go_wp2
  go_ret
  exact ⟨by rw [← H.out]; rfl, (Below.refl _ _).alloc (Nat.le_refl _) _⟩

set_option maxHeartbeats 1000000 in
theorem refPut_4 (r : Int) (w : World) (h0 : 65536 ≤ r) (h1 : r ≤ 1114111) :
    Calls Tryd.prog 45 #[.int .i32 r] w fun e w' => e = .returned (.string (putB r)) ∧ Below w.heap.size w w' := by
  have H := Lib.hid (put4 r h0 h1)
  have cv := fun a b c d => conv_new [a, b, c, d] w
  simp only [List.map_cons, List.map_nil, List.length_cons, List.length_nil] at cv
  go_enter Tryd.func45, Tryd.ntmps45
  go_wp2
  go_ret
  exact ⟨by rw [← H.out]; rfl, (Below.refl _ _).alloc (Nat.le_refl _) _⟩

set_option maxHeartbeats 1000000 in
theorem refPut_no (r : Int) (w : World) (h : r < 0 ∨ 1114111 < r ∨ (55296 ≤ r ∧ r ≤ 57343)) :
    Calls Tryd.prog 45 #[.int .i32 r] w fun e w' => e = .returned (.string ⟨#[]⟩) ∧ Below w.heap.size w w' := by
  rcases h with h | h | ⟨h, h2⟩
  · go_enter Tryd.func45, Tryd.ntmps45
    go_wp2
    go_ret
    exact ⟨rfl, Below.refl _ _⟩
  · have h0 : 0 ≤ r := by omega
    go_enter Tryd.func45, Tryd.ntmps45
    go_wp2
    go_ret
    exact ⟨rfl, Below.refl _ _⟩
  · have h0 : 0 ≤ r := by omega
    have h3 : r ≤ 1114111 := by omega
    go_enter Tryd.func45, Tryd.ntmps45
    go_wp2
    go_ret
    exact ⟨rfl, Below.refl _ _⟩

theorem refPut_any (r : Int) (w : World) :
    Calls Tryd.prog 45 #[.int .i32 r] w fun e w' => e = .returned (.string (putB r)) ∧ Below w.heap.size w w' := by
  by_cases hv : 0 ≤ r ∧ r < 55296 ∨ 57343 < r ∧ r ≤ 1114111
  · by_cases h1 : r < 128
    · exact refPut_1 r w (by omega) h1
    by_cases h2 : r < 2048
    · exact refPut_2 r w (by omega) h2
    by_cases h3 : r < 55296
    · exact refPut_3a r w (by omega) h3
    by_cases h4 : r < 65536
    · exact refPut_3b r w (by omega) h4
    exact refPut_4 r w (by omega) (by omega)
  · rw [put_no r hv]
    exact refPut_no r w (by omega)

end Go.Proofs.YtdibpoecdjnpaaaDoor
