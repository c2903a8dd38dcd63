/-
  limnerref01.Starts, Back and Valid: what each call returns: for every text of at most a million bytes.
-/
import Derived.Test.YtfnpngffdjjpbaaInts
import Derived.Test.YtfnpngffdjjpbaaRefNext2
import Derived.Deep.RegionHeld3
namespace Go.Proofs.Ytfnpngffdjjpbaa
open Go.RowKit

theorem ownsRow_below {w w' : World} {B e size n : Nat} {v : Value} {xs : List Value} (h : w.ownsRow B e size v n xs) (hb : Below w.heap.size w w') : w'.ownsRow B e size v n xs := by
  refine ⟨h.1, ?_⟩
  rcases h.2 with h0 | ⟨g, cap, cur, hv, hg0, hg, rest⟩
  · exact .inl h0
  · exact .inr ⟨g, cap, cur, hv, hg0, (hb.block g (lt_of_block hg)).trans hg, rest⟩

set_option maxHeartbeats 1000000 in
theorem refStarts_any (s : ByteArray) (w : World) (hs : s.size ≤ 1000000) :
    Calls Try.prog 14 #[.string s] w fun e w' => ∃ v, e = .returned v ∧ w'.ownsRow w.heap.size 3 1 v (stA s).length (ints (stA s)) ∧ Below w.heap.size w w' := by
  have hlen := stA_length s
  have hmx : s.size ≤ maxLen := by unfold maxLen; omega
  obtain ⟨i0, hi, hz0, hz1, hz2⟩ := info_parts Try.infoInt
  go_enter Try.func14, Try.ntmps14
  go_wp2
  go_loopw [3, 4] (fun v i wr => ∃ (pos f : Nat) (acc : List Nat), i = .int .i64 (pos : Int) ∧ Below w.heap.size w wr ∧ wr.ownsRow w.heap.size 3 1 v acc.length (ints acc) ∧ Hid (acc ++ stL s f pos = stA s) ∧ s.size ≤ pos + f ∧ pos ≤ s.size ∧ acc.length ≤ pos) (fun _ i _ => s.size - (intOf i).toNat)
  case atStart => exact ⟨0, s.size, [], rfl, Below.refl _ _, World.ownsRow_nil _ _ _ _, rfl, by omega, Nat.zero_le _, Nat.le_refl _⟩
  case round =>
    obtain ⟨pos, f, acc, rfl, hbw, hown, HS, hf, hps, hn⟩ := hrel
    by_cases hp : pos < s.size
    · obtain ⟨f, rfl⟩ : ∃ f', f = f' + 1 := ⟨f - 1, by omega⟩
      obtain ⟨hw1, hw2⟩ := decW s pos hp
      have hst := stL_step s f pos hp
      have HS2 : Hid (acc ++ [pos] ++ stL s f (pos + (Utf8.decode s pos).2) = stA s) := by
        show _ = _; rw [← HS.out, hst, List.append_assoc]; rfl
      have hN := fun w => refNext_in s pos w hp hmx
      obtain ⟨K, hK⟩ : ∃ K, (Utf8.decode s pos).2 = K := ⟨_, rfl⟩
      rw [hK] at hN HS2 hw1 hw2
      have HN := Lib.hid hN
      have hsz := hbw.size
      clear hst HS hN hK
      go_wp2_with (at_builtin; refine wpList_append_own _ rfl _ _ 26 rfl w.heap.size 3 i0 (.int .i64 0) 1 8 Try.underlying26 hi hz0 hz1 hz2 rfl (by decide) _ _ _ rfl (hown.alloc _) ⟨wr.heap.size, 0, none⟩ 1 1 [.int .i64 (pos : Int)] rfl rfl (cell_one_new _ _ _) (fun x hx => by simp at hx; subst hx; rfl) (by unfold maxLen; omega) (by omega) (by simp; omega) ?_; intro v' w3 hown' hgrow3 hnil3)
      have hbw3 : Below w.heap.size w w3 := Below.grown (hbw.alloc hsz _) hgrow3 (by simp; omega) (fun j hj => (hown.lt _ hj).1)
      have hown3 : w3.ownsRow w.heap.size 3 1 v' (acc ++ [pos]).length (ints (acc ++ [pos])) := by
        unfold ints; rw [List.length_append, List.map_append]; exact hown'
      clear hown' hgrow3 hnil3
      refine (HN.out _).mono ?_
      rintro e w4 ⟨rfl, hb4⟩
      have hbw4 := hbw3.trans (hb4.mono hbw3.size)
      have hown4 := ownsRow_below hown3 hb4
      clear hbw3 hown3 hb4
      go_wp2_with fail
      go_roundw
      case rel => exact ⟨pos + K, f, acc ++ [pos], by go_num, hbw4, hown4, HS2, by omega, by omega, by simp; omega⟩
      case measure => simp [intOf]; omega
    · have HE : Hid (acc = stA s) := by
        have := HS.out
        rw [stL_end s _ _ hp, List.append_nil] at this
        exact this
      clear HS
      go_wp2
      go_ret
      exact ⟨_, rfl, by rw [← HE.out]; exact hown, hbw⟩

theorem stL_lt (s : ByteArray) : ∀ f p, ∀ x ∈ stL s f p, x < s.size
  | 0, p, x, h => by simp [stL] at h
  | f + 1, p, x, h => by
    by_cases hp : p < s.size
    · rw [stL_step s f p hp] at h
      rcases List.mem_cons.1 h with rfl | h
      · exact hp
      · exact stL_lt s f _ x h
    · rw [stL_end s _ p hp] at h; simp at h
theorem stA_getD_lt (s : ByteArray) (j : Nat) (h : j < (stA s).length) : (stA s).getD j 0 < s.size := by
  rw [show (stA s).getD j 0 = (stA s)[j] by simp [List.getD, List.getElem?_eq_getElem h]]
  exact stL_lt s _ _ _ (List.getElem_mem h)
theorem allOk_drop (s : ByteArray) (l : List Nat) (j : Nat) (h : j < l.length) : allOk s (l.drop j) = (okAt s (l.getD j 0) && allOk s (l.drop (j + 1))) := by
  rw [List.drop_eq_getElem_cons h, allOk_cons]
  simp [List.getD, List.getElem?_eq_getElem h]

theorem slice_of {w : World} {B : Nat} {v : Value} {xs : List Nat} (ha : w.ownsRow B 3 1 v xs.length (ints xs)) :
    ∃ A ca, v = .slice A xs.length ca ∧ (xs.length = 0 ∨ ∃ g, A = some ⟨g, 0, none⟩ ∧ g < w.heap.size ∧ xs.length ≤ ca ∧ ca ≤ maxLen ∧ ∀ k, k < xs.length → w.cell? ⟨g, k, none⟩ = some (.int .i64 ((xs.getD k 0 : Nat) : Int))) := by
  rcases ha.2 with ⟨rfl, hn⟩ | ⟨g, ca, cura, rfl, _, hg, hca, hcma, _, _⟩
  · exact ⟨_, _, by rw [hn], .inl hn⟩
  · exact ⟨_, _, rfl, .inr ⟨g, rfl, lt_of_block hg, hca, hcma, fun k hk => by rw [ha.cellAt k (by omega)]; exact ints_getD xs k hk⟩⟩

set_option maxHeartbeats 1000000 in
theorem refValid_any (s : ByteArray) (w : World) (hs : s.size ≤ 1000000) :
    Calls Try.prog 19 #[.string s] w fun e w' => e = .returned (.bool (allOk s (stA s))) ∧ Below w.heap.size w w' := by
  have hmx : s.size ≤ maxLen := by unfold maxLen; omega
  have hS := Lib.hid (fun w => refStarts_any s w hs)
  have hlen := stA_length s
  have hlt := Lib.hid (stA_getD_lt s)
  have HD := Lib.hid (allOk_drop s (stA s))
  have HA : Hid (allOk s ((stA s).drop 0) = allOk s (stA s)) := rfl
  obtain ⟨l, hl⟩ : ∃ l, stA s = l := ⟨_, rfl⟩
  rw [hl] at hS hlen hlt HD HA
  rw [hl]
  clear hl
  obtain ⟨B, hB⟩ : ∃ B, allOk s l = B := ⟨_, rfl⟩
  rw [hB] at HA
  rw [hB]
  clear hB
  go_enter Try.func19, Try.ntmps19
  go_wp2_with fail
  refine (hS.out _).mono ?_
  rintro e w1 ⟨v, rfl, hown, hb1⟩
  obtain ⟨A, ca, rfl, hv⟩ := slice_of hown
  clear hS hown
  obtain ⟨n, hn⟩ : ∃ n, l.length = n := ⟨_, rfl⟩
  rw [hn] at hv hlen hlt
  have HN := Lib.hid hn
  have HV := Lib.hid hv
  have hsz := hb1.size
  rw [hn]
  clear hn hv
  go_wp2_with fail
  go_loopw [4] (fun i wr => ∃ j : Nat, i = .int .i64 (j : Int) ∧ j ≤ n ∧ Below w1.heap.size w1 wr ∧ Hid (allOk s (l.drop j) = B)) (fun i _ => n - (intOf i).toNat)
  case atStart => exact ⟨0, rfl, by omega, Below.refl _ _, HA⟩
  case round =>
    obtain ⟨j, rfl, hj, hbw, HS⟩ := hrel
    by_cases hp : j < n
    · rcases HV.out with h | ⟨g, rfl, hg, hca, hcm, hcell⟩
      · omega
      have hc : wr.cell? ⟨g, j, none⟩ = some (.int .i64 ((l.getD j 0 : Nat) : Int)) := by rw [hbw.cell (p := ⟨g, j, none⟩) hg]; exact hcell j hp
      have hx := hlt.out j hp
      have hd := HD.out j (by rw [HN.out]; exact hp)
      rw [HS.out] at hd
      obtain ⟨x, hxe⟩ : ∃ x, l.getD j 0 = x := ⟨_, rfl⟩
      rw [hxe] at hc hx hd
      have HNX := Lib.hid (fun w => refNext_in s x w hx hmx)
      clear hxe hcell HS HV
      cases hok : okAt s x
      · rw [hok] at HNX hd
        have HE : Hid (B = false) := hd
        clear hd hok
        go_wp2_with (go_at_call 11; refine (HNX.out _).mono ?_; rintro e w' ⟨rfl, hb⟩)
        go_ret
        exact ⟨by rw [HE.out]; rfl, hb1.trans ((hbw.trans (hb.mono hbw.size)).mono hsz)⟩
      · rw [hok] at HNX hd
        have HE : Hid (allOk s (l.drop (j + 1)) = B) := hd.symm
        clear hd hok
        go_wp2_with (go_at_call 11; refine (HNX.out _).mono ?_; rintro e w' ⟨rfl, hb⟩)
        go_roundw
        case rel => exact ⟨j + 1, by go_num, by omega, hbw.trans (hb.mono hbw.size), HE⟩
        case measure => simp [intOf]; omega
    · have HE : Hid (B = true) := by
        have := HS.out
        rw [List.drop_of_length_le (by rw [HN.out]; omega)] at this
        exact this.symm
      clear HS HV
      go_wp2
      go_ret
      exact ⟨by rw [HE.out]; rfl, hb1.trans (hbw.mono hsz)⟩

theorem stL_last (s : ByteArray) : ∀ f p a, (stL s f p).getLastD a = lastL s f p a
  | 0, p, a => rfl
  | f + 1, p, a => by
    by_cases hp : p < s.size
    · rw [stL_step s f p hp, lastL_step s f p a hp, ← stL_last s f _ p]
      simp only [List.getLastD_cons]
    · rw [stL_end s _ p hp, lastL_end s _ p a hp]; rfl
theorem stA_pos (s : ByteArray) (h : 0 < s.size) : 0 < (stA s).length := by
  unfold stA
  obtain ⟨m, hm⟩ : ∃ m, s.size = m + 1 := ⟨s.size - 1, by omega⟩
  rw [hm, stL_step s m 0 h]
  simp
theorem stA_last (s : ByteArray) (h : 0 < s.size) : (stA s).getD ((stA s).length - 1) 0 = lastA s := by
  have h1 := stL_last s s.size 0 0
  have h2 := stA_pos s h
  show _ = lastL s s.size 0 0
  rw [← h1]
  show _ = (stA s).getLastD 0
  rw [List.getLastD_eq_getLast?, List.getLast?_eq_getElem?]
  rfl

set_option maxHeartbeats 1000000 in
theorem refBack_in (s : ByteArray) (k : Nat) (w : World) (h0 : 0 < k) (h1 : k ≤ s.size) (hs : s.size ≤ 1000000) (U : ByteArray) (hU : s.extract 0 k = U) :
    Calls Try.prog 13 #[.string s, .int .i64 (k : Int)] w fun e w' => e = .returned (.tuple #[.int .i32 ((Utf8.decode U (lastA U)).1 : Int), .int .i64 ((Utf8.decode U (lastA U)).2 : Int), .bool (okAt U (lastA U))]) ∧ Below w.heap.size w w' := by
  have hUs : U.size = k := by rw [← hU]; exact head_size s k h1
  have hmx : U.size ≤ maxLen := by unfold maxLen; omega
  have hS := Lib.hid (fun w => refStarts_any U w (by omega))
  have hlen := stA_length U
  have hpos := stA_pos U (by omega)
  have hlast := stA_last U (by omega)
  have hlt := lastA_lt U (by omega)
  obtain ⟨L, hL⟩ : ∃ L, lastA U = L := ⟨_, rfl⟩
  obtain ⟨l, hl⟩ : ∃ l, stA U = l := ⟨_, rfl⟩
  rw [hL] at hlast hlt
  rw [hl] at hlast hlen hpos hS
  rw [hL]
  have HN := Lib.hid (fun w => refNext_in U L w hlt hmx)
  rw [hUs] at hlen
  clear hL hl hUs hmx
  go_enter Try.func13, Try.ntmps13
  go_wp2_with fail
  refine (hS.out _).mono ?_
  rintro e w1 ⟨v, rfl, hown, hb1⟩
  clear hS
  obtain ⟨A, ca, rfl, hv⟩ := slice_of hown
  rcases hv with h | ⟨g, rfl, hg, hca, hcm, hcell⟩
  · omega
  have hc := hcell (l.length - 1) (by omega)
  rw [hlast] at hc
  clear hown hcell hlast
  obtain ⟨m, hm⟩ : ∃ m, l.length = m + 1 := ⟨l.length - 1, by omega⟩
  rw [hm] at hc hca hlen hpos
  rw [hm]
  rw [show m + 1 - 1 = m from rfl] at hc
  clear hm
  go_wp2_with fail
  have hix0 : (0 : Int) ≤ (m : Int) := by omega
  have hix1 : (m : Int) < ((m : Int) + 1) := by omega
  have hix2 : (m : Int) < ((m + 1 : Nat) : Int) := by omega
  have hwr : IntKind.i64.wrap (m : Int) = (m : Int) := IntWalk.i64_in _ (by omega)
  have hk0 : (0 : Int) ≤ (k : Int) := by omega
  have hk1 : (k : Int) ≤ (s.size : Int) := by omega
  go_region_held3 (fun w' => w'.cell? ⟨g, m, none⟩ = some (.int .i64 (L : Int))) (first | go_keep | (rw [hb.cell (p := ⟨g, m, none⟩) (by simpa using hg)]; simpa using hc)) ((go_at_call 11; refine (HN.out _).mono ?_; rintro e w' ⟨rfl, hb⟩))
  go_wp2
  go_ret3
  exact ⟨rfl, hb1.trans ((((Below.refl _ w1).drew).trans hb).mono hb1.size)⟩

set_option maxHeartbeats 1000000 in
theorem refBack_out (s : ByteArray) (at' : Int) (w : World) (h : at' ≤ 0 ∨ (s.size : Int) < at') :
    Calls Try.prog 13 #[.string s, .int .i64 at'] w fun e w' => e = .returned (.tuple #[.int .i32 0, .int .i64 0, .bool false]) ∧ w' = w := by
  by_cases h0 : at' ≤ 0
  · go_enter Try.func13, Try.ntmps13
    go_wp2
    go_ret3
    exact ⟨rfl, rfl⟩
  · have h1 : (s.size : Int) < at' := by omega
    go_enter Try.func13, Try.ntmps13
    go_wp2
    go_ret3
    exact ⟨rfl, rfl⟩
end Go.Proofs.Ytfnpngffdjjpbaa
