/-
  limnerref08: New: what it returns, and lays.
-/
import Derived.Test.YtpkjaallhhjleaaGreatDoorBe18
import Derived.Test.YtpkjaallhhjleaaGreatDoorBe32
namespace Go.Proofs.YtpkjaallhhjleaaGreatDoor
open Go.RowKit

theorem blw_new {w W : World} {o : Obj} (h : Below w.heap.size w W) : Below w.heap.size w (W.alloc o) := h.alloc h.size _

set_option maxRecDepth 20000 in
set_option maxHeartbeats 4000000 in
theorem rtnew_any {w0 : World} (m n : Nat) (w : World) (hm : 2 ≤ m ∧ m ≤ 100) (hn : 8 ≤ n ∧ n ≤ 200) (hw : Below w0.heap.size w0 w) :
    Calls Tryz.prog 10 #[.int .i64 (m : Int), .int .i64 (n : Int)] w fun e w' => ∃ B G c, e = .returned (.tuple #[.pointer (some ⟨B, 0, none⟩), .int .i64 0]) ∧ RtS w0 w' B G (m * n) c ⟨#[]⟩ (newT m n) ∧ Below w.heap.size w w' ∧ w.heap.size ≤ B ∧ w.heap.size ≤ G := by
  have H := Lib.hid (rnew_any m n w hm hn)
  have HN : Hid (newT (m : Int) (n : Int) = ⟨⟨(m : Int), (n : Int), List.replicate (m * n) blkC, 0, 0⟩, sty0, 0, false, .zero⟩) := by
    show _ = _
    unfold newT newF
    rw [if_pos ((sizedB_iff _ _).2 (by omega)), ← Int.natCast_mul, Int.toNat_natCast]
  have HW := Lib.hid hw
  obtain ⟨P, hP⟩ : ∃ P, m * n = P := ⟨_, rfl⟩
  rw [hP] at H HN ⊢
  clear hw hP
  go_enter Tryz.func10, Tryz.ntmps10
  go_wp2_with fail
  go_fit H.out
  rintro e w1 ⟨g, c, rfl, hc, ⟨zs, hg, hz⟩, hb1⟩
  go_wp2_with fail
  refine bodyPost_ret (v := .tuple #[.pointer (some ⟨w1.heap.size + 1, 0, none⟩), .int .i64 0]) (by simp [results, Tryz.results10, go_sem]) rfl ⟨w1.heap.size + 1, g, c, rfl, ?_, ?_, ?_, hg⟩
  · rw [HN.out]
    have hw := HW.out
    have h1 := hb1.size
    have h2 := hw.size
    have hgl := hz.lt
    have hbA := blw_new (o := .cells #[.int .i64 (m : Int), .int .i64 (n : Int), .slice (some ⟨g, 0, none⟩) P c, .int .i64 0, .int .i64 0] 35) hb1
    have hbB := hbA.alloc (o := .cells #[.int .i64 (m : Int), .int .i64 (n : Int), .slice (some ⟨g, 0, none⟩) P c, .int .i64 0, .int .i64 0, .string ⟨#[]⟩, .int .i64 0, .bool false, .bool false, .bool false, .bool false, .int .i64 0] 40) hbA.size
    refine ⟨hw.trans (hbB.mono h2), by omega, by omega, by omega, ?_, ⟨zs, ?_⟩, by simp, hc⟩
    · have := heap_alloc_new (w1.alloc (.cells #[.int .i64 (m : Int), .int .i64 (n : Int), .slice (some ⟨g, 0, none⟩) P c, .int .i64 0, .int .i64 0] 35)) (.cells #[.int .i64 (m : Int), .int .i64 (n : Int), .slice (some ⟨g, 0, none⟩) P c, .int .i64 0, .int .i64 0, .string ⟨#[]⟩, .int .i64 0, .bool false, .bool false, .bool false, .bool false, .int .i64 0] 40)
      rw [World.size_alloc] at this
      exact this
    · unfold blkL
      rw [Below.heap_alloc _ _ _ (by rw [World.size_alloc]; omega), Below.heap_alloc _ _ _ hgl]
      exact hz
  · exact (blw_new hb1).alloc (blw_new hb1).size _
  · have := hb1.size
    omega
end Go.Proofs.YtpkjaallhhjleaaGreatDoor
