/-
  TermClear: behind a clearing, and the usual style, what is written shows the same: the law's walk: it returns true.
-/
import Derived.Test.YtpkjaallhhjleaaGreatDoorBa29
import Derived.Test.YtpkjaallhhjleaaGreatDoorBa31
import Derived.Test.YtpkjaallhhjleaaGreatDoorBa30
namespace Go.Proofs.YtpkjaallhhjleaaGreatDoor
open Go.RowKit

def clrB : ByteArray := ⟨#[24, 27, 91, 72, 27, 91, 50, 74, 27, 91, 109]⟩
theorem clr_data (a s : ByteArray) : (a ++ clrB ++ s).data.toList = a.data.toList ++ clrL ++ s.data.toList := by
  rw [app_data, app_data]
  rfl
set_option maxRecDepth 20000 in
set_option maxHeartbeats 4000000 in
theorem termClear_far (a s : ByteArray) (z0 z1 : Int) (w : World) (hL : LaidT w) (h : 600 < a.size ∨ 600 < s.size) :
    Calls Tryz.prog 6 #[.string a, .string s, .agg #[.int .u8 z0, .int .u8 z1]] w fun e w' => e = .returned (.bool true) ∧ Below w.heap.size w w' := by
  have H := Lib.hid (fun W (hW : Below w.heap.size w W) => wrapped_any W (hL.below hW))
  have HB : Hid (Below w.heap.size w (w.alloc (.cells #[.int .u8 z0, .int .u8 z1] 22))) := (Below.refl _ _).alloc (Nat.le_refl _) _
  clear hL
  by_cases h1 : 600 < a.size
  · have hi : (600 : Int) < (a.size : Int) := by omega
    clear h h1
    go_enter Tryz.func6, Tryz.ntmps6
    go_wp2_with fail
    go_fit (H.out _ HB.out)
    rintro e w1 ⟨rfl, hb⟩
    go_wp2_with fail
    go_ret
    exact ⟨rfl, HB.out.trans (hb.mono HB.out.size)⟩
  · have hi : ¬ (600 : Int) < (a.size : Int) := by omega
    have hj : (600 : Int) < (s.size : Int) := by omega
    clear h h1
    go_enter Tryz.func6, Tryz.ntmps6
    go_wp2_with fail
    go_fit (H.out _ HB.out)
    rintro e w1 ⟨rfl, hb⟩
    go_wp2_with fail
    go_ret
    exact ⟨rfl, HB.out.trans (hb.mono HB.out.size)⟩
set_option maxRecDepth 20000 in
set_option maxHeartbeats 8000000 in
theorem termClear_near (a s : ByteArray) (z0 z1 : Int) (w : World) (hL : LaidT w) (hz0 : 0 ≤ z0 ∧ z0 ≤ 255) (hz1 : 0 ≤ z1 ∧ z1 ≤ 255) (ha : a.size ≤ 600) (hs : s.size ≤ 600) :
    Calls Tryz.prog 6 #[.string a, .string s, .agg #[.int .u8 z0, .int .u8 z1]] w fun e w' => e = .returned (.bool true) ∧ Below w.heap.size w w' := by
  have hai : (a.size : Int) ≤ 600 := by omega
  have hsi : (s.size : Int) ≤ 600 := by omega
  obtain ⟨u0, hu0⟩ : ∃ t, z0.tmod 5 = t := ⟨_, rfl⟩
  obtain ⟨u1, hu1⟩ : ∃ t, z1.tmod 9 = t := ⟨_, rfl⟩
  have q0 : 0 ≤ u0 ∧ u0 < 5 := by rw [← hu0]; exact ⟨Int.tmod_nonneg _ hz0.1, Int.tmod_lt_of_pos _ (by omega)⟩
  have q1 : 0 ≤ u1 ∧ u1 < 9 := by rw [← hu1]; exact ⟨Int.tmod_nonneg _ hz1.1, Int.tmod_lt_of_pos _ (by omega)⟩
  obtain ⟨m, hm⟩ : ∃ m : Nat, 2 + u0 = (m : Int) := ⟨(2 + u0).toNat, by omega⟩
  obtain ⟨n, hn⟩ : ∃ n : Nat, 8 + u1 = (n : Int) := ⟨(8 + u1).toNat, by omega⟩
  have k4 : IntKind.i64.wrap z0 = z0 := IntWalk.i64_in _ (by omega)
  have k5 : IntKind.i64.wrap z1 = z1 := IntWalk.i64_in _ (by omega)
  have k6 : IntKind.i64.wrap u0 = u0 := IntWalk.i64_in _ (by omega)
  have k7 : IntKind.i64.wrap u1 = u1 := IntWalk.i64_in _ (by omega)
  have k8 : IntKind.i64.wrap (m : Int) = (m : Int) := IntWalk.i64_in _ (by omega)
  have k9 : IntKind.i64.wrap (n : Int) = (n : Int) := IntWalk.i64_in _ (by omega)
  have hm2 : 2 ≤ m ∧ m ≤ 6 := by omega
  have hn2 : 8 ≤ n ∧ n ≤ 16 := by omega
  have HE := Lib.hid (fun W (hW : Below w.heap.size w W) => wrapped_any W (hL.below hW))
  have HNw : Hid (∀ W, Below w.heap.size w W → Calls Tryz.prog 9 #[.int .i64 (m : Int), .int .i64 (n : Int)] W fun e w' => ∃ B G, e = .returned (.tuple #[.pointer (some ⟨B, 0, none⟩), .int .i64 0]) ∧ TmS w w' B G (m * n) (m * n) (newT m n) ∧ Below W.heap.size W w' ∧ W.heap.size ≤ B ∧ W.heap.size ≤ G) := fun W hW => tnew_any m n W (by omega) (by omega) (hL.below hW).fr hW
  have hTk := newT_ok m n (by omega) (by omega)
  obtain ⟨cl, hcl⟩ : ∃ c, a ++ clrB = c := ⟨_, rfl⟩
  obtain ⟨cs, hcs⟩ : ∃ c, cl ++ s = c := ⟨_, rfl⟩
  have hz : cl.size = a.size + 11 := by rw [← hcl, app_size]; rfl
  have hzz : cs.size = cl.size + s.size := by rw [← hcs, app_size]
  have hadd1 : ∀ W, (Op.stringOp .add a ⟨#[24, 27, 91, 72, 27, 91, 50, 74, 27, 91, 109]⟩).run Tryz.prog W = .ok (.string cl) W := fun W => by rw [← hcl]; exact run_string_add_sum W a clrB (by rw [show clrB.size = 11 from rfl]; omega)
  have hadd2 : ∀ W, (Op.stringOp .add cl s).run Tryz.prog W = .ok (.string cs) W := fun W => by rw [← hcs]; exact run_string_add_sum W cl s (by omega)
  have HWt : Hid (∀ W B G, TmS w W B G (m * n) (m * n) (newT m n) → Calls Tryz.prog 11 #[.pointer (some ⟨B, 0, none⟩), .string cs] W (TmD w W B G (m * n) (m * n) (writeT (newT m n) cs.data.toList))) := fun W B G hS => twrite_any cs W hS hTk hL (by omega)
  have HWu : Hid (∀ W B G, TmS w W B G (m * n) (m * n) (newT m n) → Calls Tryz.prog 11 #[.pointer (some ⟨B, 0, none⟩), .string s] W (TmD w W B G (m * n) (m * n) (writeT (newT m n) s.data.toList))) := fun W B G hS => twrite_any s W hS hTk hL (by omega)
  have hft : OkF (writeT (newT m n) cs.data.toList).f m n := (write_ok hTk _).fr
  have hfu : OkF (writeT (newT m n) s.data.toList).f m n := (write_ok hTk _).fr
  have HFt : Hid (∀ W B G, TmS w W B G (m * n) (m * n) (writeT (newT m n) cs.data.toList) → Calls Tryz.prog 14 #[.pointer (some ⟨B, 0, none⟩)] W fun e w' => ∃ v', e = .returned v' ∧ FrameW AnyB w' v' (writeT (newT m n) cs.data.toList).f ∧ Below W.heap.size W w') := fun W B G hS => tframe_any W hS hft
  have HFu : Hid (∀ W B G, TmS w W B G (m * n) (m * n) (writeT (newT m n) s.data.toList) → Calls Tryz.prog 14 #[.pointer (some ⟨B, 0, none⟩)] W fun e w' => ∃ v', e = .returned v' ∧ FrameW AnyB w' v' (writeT (newT m n) s.data.toList).f ∧ Below W.heap.size W w') := fun W B G hS => tframe_any W hS hfu
  have hsame : (writeT (newT m n) cs.data.toList).f = (writeT (newT m n) s.data.toList).f := by
    rw [← hcs, ← hcl, clr_data]
    exact clear_same m n (by omega) (by omega) _ _
  have hlen : (writeT (newT m n) s.data.toList).f.cells.length ≤ 1000000 := Nat.le_trans hfu.room (by omega)
  obtain ⟨T0, hT0⟩ : ∃ T, newT (m : Int) (n : Int) = T := ⟨_, rfl⟩
  rw [hT0] at HNw HWt HWu HFt HFu hsame hlen
  obtain ⟨Ft, hFt⟩ : ∃ T, writeT T0 cs.data.toList = T := ⟨_, rfl⟩
  obtain ⟨Fu, hFu⟩ : ∃ T, writeT T0 s.data.toList = T := ⟨_, rfl⟩
  rw [hFt] at HWt HFt hsame
  rw [hFu] at HWu HFu hsame hlen
  rw [hsame] at HFt
  have HSm : Hid (∀ W x y, FrameW AnyB W x Fu.f → FrameW AnyB W y Fu.f → Calls Tryz.prog 16 #[x, y] W fun e w' => e = .returned (.bool true) ∧ Below W.heap.size W w') := fun W x y h1 h2 => by
    have := gsame_any W h1 h2 hlen
    rwa [sameB_self] at this
  obtain ⟨P, hP⟩ : ∃ P, m * n = P := ⟨_, rfl⟩
  rw [hP] at HNw HWt HWu HFt HFu
  have HB : Hid (∀ W1, w.alloc (.cells #[.int .u8 z0, .int .u8 z1] 22) = W1 → Below w.heap.size w W1 ∧ W1.cell? ⟨w.heap.size, 0, none⟩ = some (.int .u8 z0) ∧ W1.cell? ⟨w.heap.size, 1, none⟩ = some (.int .u8 z1)) := fun W1 h1 => by
    rw [← h1]
    refine ⟨(Below.refl _ _).alloc (Nat.le_refl _) _, ?_, ?_⟩
    · rw [cell_of_row _ _ _ _ _ _ (heap_alloc_new w _)]; rfl
    · rw [cell_of_row _ _ _ _ _ _ (heap_alloc_new w _)]; rfl
  obtain ⟨hz00, hz01⟩ := hz0
  obtain ⟨hz10, hz11⟩ := hz1
  clear hL ha hs hTk hcl hcs hz hzz hft hfu hsame hlen hT0 hFt hFu hP q0 q1 hm2 hn2
  go_enter Tryz.func6, Tryz.ntmps6
  go_wp2_with fail
  obtain ⟨W1, hW1⟩ : ∃ W1, w.alloc (.cells #[.int .u8 z0, .int .u8 z1] 22) = W1 := ⟨_, rfl⟩
  obtain ⟨hb1, x0, x1⟩ := HB.out W1 hW1
  try rw [hW1]
  go_wp2_with fail
  go_quiet (fail)
  obtain ⟨W2, hW2⟩ : ∃ W2, W1.drewN nq = W2 := ⟨_, rfl⟩
  have hb2 : Below w.heap.size w W2 := by rw [← hW2]; exact below_drewN hb1 nq
  try rw [hW2]
  clear hW1 hW2 x0 x1 k4 k5 k6 k7 hu0 hu1 hm hn hb1 HB
  go_wp2_with fail
  go_fit (HNw.out _ hb2)
  rintro e w3 ⟨B, G, rfl, hS3, hb3, hB3, hG3⟩
  have hb03 := hb2.trans (hb3.mono hb2.size)
  have HS3 := Lib.hid hS3
  clear hS3 hb3
  go_wp2_with fail
  go_fit (HNw.out _ hb03)
  rintro e w4 ⟨B2, G2, rfl, hS4, hb4, hB4, hG4⟩
  have l1 := HS3.out.box.lt
  have l2 := HS3.out.gt
  have HT4 := Lib.hid (HS3.out.next hb4)
  have HU4 := Lib.hid hS4
  have hne : NotBG B G B2 ∧ NotBG B G G2 := by show (_ ∧ _) ∧ (_ ∧ _); omega
  have hne2 : NotBG B2 G2 B ∧ NotBG B2 G2 G := by show (_ ∧ _) ∧ (_ ∧ _); omega
  have h0a : ∀ k, k < w.heap.size → NotBG B G k := fun k hk => by have a := HS3.out.hB; have b := HS3.out.hG; show _ ∧ _; omega
  have h0b : ∀ k, k < w.heap.size → NotBG B2 G2 k := fun k hk => by have a := hS4.hB; have b := hS4.hG; show _ ∧ _; omega
  have HNE := Lib.hid (And.intro hne (And.intro hne2 (And.intro h0a h0b)))
  clear hS4 hb4 hb03 HS3 hne hne2 h0a h0b hB3 hG3 hB4 hG4 hb2 l1 l2
  go_wp2_with fail
  go_fit (HWt.out _ _ _ HT4.out)
  rintro e w5 ⟨rfl, hT5, hK5⟩
  have HT5 := Lib.hid hT5
  have HU5 := Lib.hid (HU4.out.keep hK5 HNE.out.2.2.1 HNE.out.1.1 HNE.out.1.2)
  clear hT5 hK5 HT4 HU4
  go_wp2_with fail
  go_fit (HWu.out _ _ _ HU5.out)
  rintro e w6 ⟨rfl, hU6, hK6⟩
  have HU6 := Lib.hid hU6
  have HT6 := Lib.hid (HT5.out.keep hK6 HNE.out.2.2.2 HNE.out.2.1.1 HNE.out.2.1.2)
  clear hU6 hK6 HT5 HU5
  go_wp2_with fail
  go_fit (HFt.out _ _ _ HT6.out)
  rintro e w7 ⟨v7, rfl, hf7, hb7⟩
  have HU7 := Lib.hid (HU6.out.next hb7)
  have HF7 := Lib.hid hf7
  clear hf7 hb7 HT6 HU6
  go_wp2_with fail
  go_fit (HFu.out _ _ _ HU7.out)
  rintro e w8 ⟨v8, rfl, hf8, hb8⟩
  have HF8 := Lib.hid hf8
  have HF78 := Lib.hid (HF7.out.below hb8)
  have hb08 := HU7.out.below.trans (hb8.mono HU7.out.below.size)
  clear hf8 hb8 HU7 HF7
  go_wp2_with fail
  go_fit (HSm.out _ _ _ HF78.out HF8.out)
  rintro e w9 ⟨rfl, hb9⟩
  have hb09 := hb08.trans (hb9.mono hb08.size)
  clear hb9 hb08 HF78 HF8
  go_wp2_with fail
  go_fit (HE.out _ hb09)
  rintro e w10 ⟨rfl, hb10⟩
  go_wp2_with fail
  go_ret
  exact ⟨rfl, hb09.trans (hb10.mono hb09.size)⟩
theorem termClear_any (a s : ByteArray) (z0 z1 : Int) (w : World) (hL : LaidT w) (hz0 : 0 ≤ z0 ∧ z0 ≤ 255) (hz1 : 0 ≤ z1 ∧ z1 ≤ 255) :
    Calls Tryz.prog 6 #[.string a, .string s, .agg #[.int .u8 z0, .int .u8 z1]] w fun e w' => e = .returned (.bool true) ∧ Below w.heap.size w w' := by
  by_cases h : 600 < a.size ∨ 600 < s.size
  · exact termClear_far a s z0 z1 w hL h
  · exact termClear_near a s z0 z1 w hL hz0 hz1 (by omega) (by omega)
end Go.Proofs.YtpkjaallhhjleaaGreatDoor
