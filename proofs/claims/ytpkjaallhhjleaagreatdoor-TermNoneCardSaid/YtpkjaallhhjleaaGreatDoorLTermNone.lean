/-
  TermNone: a terminal that is none shows nothing, and takes no size; of a size that may not be there is none: the law's walk: it returns true.
-/
import Derived.Test.YtpkjaallhhjleaaGreatDoorBa29
import Derived.Test.YtpkjaallhhjleaaGreatDoorBa30
namespace Go.Proofs.YtpkjaallhhjleaaGreatDoor
open Go.RowKit

set_option maxRecDepth 20000 in
set_option maxHeartbeats 4000000 in
theorem twrite_nil (s : ByteArray) (w : World) : Calls Tryz.prog 11 #[.pointer none, .string s] w fun e w' => e = .returned (.tuple #[]) ∧ w' = w := by
  have H := Lib.hid (tnone_nil w)
  go_enter Tryz.func11, Tryz.ntmps11
  go_wp2_with fail
  go_fit H.out
  rintro e w1 ⟨rfl, rfl⟩
  go_wp2_with fail
  (try simp only [Exit.inBlock, Exit.then])
  refine bodyPost_ret (results_none rfl _ _ _) rfl ?_
  exact ⟨rfl, rfl⟩
set_option maxRecDepth 20000 in
set_option maxHeartbeats 4000000 in
theorem twrite_zero (B : Nat) (s : ByteArray) (w : World) (h : w.cell? ⟨B, 2, none⟩ = some (.slice none 0 0)) : Calls Tryz.prog 11 #[.pointer (some ⟨B, 0, none⟩), .string s] w fun e w' => e = .returned (.tuple #[]) ∧ w' = w := by
  have H := Lib.hid (tnone_zero B w h)
  clear h
  go_enter Tryz.func11, Tryz.ntmps11
  go_wp2_with fail
  go_fit H.out
  rintro e w1 ⟨rfl, rfl⟩
  go_wp2_with fail
  (try simp only [Exit.inBlock, Exit.then])
  refine bodyPost_ret (results_none rfl _ _ _) rfl ?_
  exact ⟨rfl, rfl⟩
set_option maxRecDepth 20000 in
set_option maxHeartbeats 4000000 in
theorem tresize_nil (r c : Int) (w : World) : Calls Tryz.prog 17 #[.pointer none, .int .i64 r, .int .i64 c] w fun e w' => e = .returned (.int .i64 1) ∧ w' = w := by
  have H := Lib.hid (tnone_nil w)
  go_enter Tryz.func17, Tryz.ntmps17
  go_wp2_with fail
  go_fit H.out
  rintro e w1 ⟨rfl, rfl⟩
  go_wp2_with fail
  go_ret
  exact ⟨rfl, rfl⟩
set_option maxRecDepth 20000 in
set_option maxHeartbeats 4000000 in
theorem tresize_zero (B : Nat) (r c : Int) (w : World) (h : w.cell? ⟨B, 2, none⟩ = some (.slice none 0 0)) : Calls Tryz.prog 17 #[.pointer (some ⟨B, 0, none⟩), .int .i64 r, .int .i64 c] w fun e w' => e = .returned (.int .i64 1) ∧ w' = w := by
  have H := Lib.hid (tnone_zero B w h)
  clear h
  go_enter Tryz.func17, Tryz.ntmps17
  go_wp2_with fail
  go_fit H.out
  rintro e w1 ⟨rfl, rfl⟩
  go_wp2_with fail
  go_ret
  exact ⟨rfl, rfl⟩

set_option maxRecDepth 20000 in
set_option maxHeartbeats 4000000 in
theorem termNone_far (s : ByteArray) (rows cols : Int) (w : World) (hL : LaidT w) (h : 300 < s.size) :
    Calls Tryz.prog 4 #[.string s, .int .i64 rows, .int .i64 cols] w fun e w' => e = .returned (.bool true) ∧ Below w.heap.size w w' := by
  have H := Lib.hid (wrapped_any w hL)
  have hi : (300 : Int) < (s.size : Int) := by omega
  clear hL h
  go_enter Tryz.func4, Tryz.ntmps4
  go_wp2_with fail
  go_fit H.out
  rintro e w1 ⟨rfl, hb⟩
  go_wp2_with fail
  go_ret
  exact ⟨rfl, hb⟩
/-- A terminal that is none: nil, or one that New did not make. -/
def NoneT (w : World) (v : Value) : Prop := v = .pointer none ∨ ∃ B, v = .pointer (some ⟨B, 0, none⟩) ∧ w.cell? ⟨B, 2, none⟩ = some (.slice none 0 0)
theorem NoneT.below {w w' : World} {v : Value} (h : NoneT w v) (hb : Below w.heap.size w w') : NoneT w' v := by
  rcases h with h | ⟨B, h, hc⟩
  · exact .inl h
  · exact .inr ⟨B, h, by rw [hb.cell (p := ⟨B, 2, none⟩) (rlt hc)]; exact hc⟩
set_option maxRecDepth 20000 in
set_option maxHeartbeats 8000000 in
theorem termNone_near (s : ByteArray) (rows cols : Int) (w : World) (hL : LaidT w) (hs : s.size ≤ 300) :
    Calls Tryz.prog 4 #[.string s, .int .i64 rows, .int .i64 cols] w fun e w' => e = .returned (.bool true) ∧ Below w.heap.size w w' := by
  have hsi : (s.size : Int) ≤ 300 := by omega
  have HE := Lib.hid (fun W (hW : Below w.heap.size w W) => wrapped_any W (hL.below hW))
  have HNw := Lib.hid (fun W c (h : c < 8) => tnew_bad rows c W (by
    cases hq : sizedB rows c with
    | false => rfl
    | true => have := (sizedB_iff _ _).1 hq; omega))
  have HWr := Lib.hid (fun W v (h : NoneT W v) => (show Calls Tryz.prog 11 #[v, .string s] W fun e w' => e = .returned (.tuple #[]) ∧ w' = W by
    rcases h with rfl | ⟨B, rfl, hc⟩
    · exact twrite_nil s W
    · exact twrite_zero B s W hc))
  have HRs := Lib.hid (fun W v (h : NoneT W v) => (show Calls Tryz.prog 17 #[v, .int .i64 rows, .int .i64 cols] W fun e w' => e = .returned (.int .i64 1) ∧ w' = W by
    rcases h with rfl | ⟨B, rfl, hc⟩
    · exact tresize_nil rows cols W
    · exact tresize_zero B rows cols W hc))
  have HBl := Lib.hid (fun W v (h : NoneT W v) => (show Calls Tryz.prog 15 #[v] W fun e w' => e = .returned (.int .i64 0) ∧ w' = W by
    rcases h with rfl | ⟨B, rfl, hc⟩
    · exact tbells_nil W
    · exact tbells_zero B W hc))
  have HFr := Lib.hid (fun W v (h : NoneT W v) => (show Calls Tryz.prog 14 #[v] W fun e w' => e = .returned (.agg #[.int .i64 0, .int .i64 0, .slice none 0 0, .int .i64 0, .int .i64 0]) ∧ Below W.heap.size W w' by
    rcases h with rfl | ⟨B, rfl, hc⟩
    · exact tframe_nil W
    · exact tframe_zero B W hc))
  have HSm : Hid (∀ W, Calls Tryz.prog 16 #[.agg #[.int .i64 0, .int .i64 0, .slice none 0 0, .int .i64 0, .int .i64 0], .agg #[.int .i64 0, .int .i64 0, .slice none 0 0, .int .i64 0, .int .i64 0]] W fun e w' => e = .returned (.bool true) ∧ Below W.heap.size W w') := fun W => by
    have := gsame_any W (FrameW.zero AnyB W) (FrameW.zero AnyB W) (by show (0 : Nat) ≤ _; omega)
    rwa [sameB_self] at this
  clear hL hs
  go_enter Tryz.func4, Tryz.ntmps4
  go_wp2_with fail
  go_loopw [7, 8] (fun s7 s8 wr => ∃ k : Nat, s8 = .int .i64 (k : Int) ∧ k ≤ 2 ∧ NoneT wr s7 ∧ Below w.heap.size w wr) (fun _ s8 _ => 2 - (intOf s8).toNat)
  case atStart => exact ⟨0, rfl, by omega, .inl rfl, Below.refl _ _⟩
  case round =>
    obtain ⟨k, rfl, hk, hN, hbr⟩ := hrel
    by_cases hlt : k < 2
    · have hki : (k : Int) < 2 := by omega
      go_wp2_with fail
      go_fit (HWr.out _ _ hN)
      rintro e w1 ⟨rfl, rfl⟩
      go_wp2_with fail
      go_fit (HFr.out _ _ hN)
      rintro e w2 ⟨rfl, hb2⟩
      have hN2 := hN.below hb2
      have hbr2 := hbr.trans (hb2.mono hbr.size)
      go_wp2_with fail
      go_fit (HSm.out _)
      rintro e w3 ⟨rfl, hb3⟩
      have hN3 := hN2.below hb3
      have hbr3 := hbr2.trans (hb3.mono hbr2.size)
      go_wp2_with fail
      go_fit (HBl.out _ _ hN3)
      rintro e w4 ⟨rfl, rfl⟩
      go_wp2_with fail
      go_fit (HRs.out _ _ hN3)
      rintro e w5 ⟨rfl, rfl⟩
      clear hN hN2 hN3 hbr hbr2 hb2 hb3
      go_wp2_with fail
      go_roundw
      case rel =>
        refine ⟨k + 1, by rw [Int.natCast_add]; rfl, by omega, .inr ⟨_, rfl, ?_⟩, blw_alloc hbr3⟩
        rw [cell_of_row _ _ _ _ _ _ (heap_alloc_new _ _)]
        rfl
      case measure => simp only [intOf]; omega
    · have hki : ¬ (k : Int) < 2 := by omega
      clear HWr HRs HBl HFr HSm hN
      go_wp2_with fail
      all_goals
        go_fit (HNw.out _ _ (by omega))
        rintro e w2 ⟨rfl, hb2⟩
        have hbr2 := hbr.trans (hb2.mono hbr.size)
        go_wp2_with fail
        go_fit (HE.out _ hbr2)
        rintro e w3 ⟨rfl, hb3⟩
        go_wp2_with fail
        go_ret
        exact ⟨rfl, hbr2.trans (hb3.mono hbr2.size)⟩
theorem termNone_any (s : ByteArray) (rows cols : Int) (w : World) (hL : LaidT w) :
    Calls Tryz.prog 4 #[.string s, .int .i64 rows, .int .i64 cols] w fun e w' => e = .returned (.bool true) ∧ Below w.heap.size w w' := by
  by_cases h : 300 < s.size
  · exact termNone_far s rows cols w hL h
  · exact termNone_near s rows cols w hL (by omega)
end Go.Proofs.YtpkjaallhhjleaaGreatDoor
