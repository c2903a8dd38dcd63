/-
  limnerref08: show: a rune put and stored; how a row's end is told.
-/
import Derived.Test.YtpkjaallhhjleaaGreatDoorBe38
import Derived.Test.YtpkjaallhhjleaaGreatDoorBe45
namespace Go.Proofs.YtpkjaallhhjleaaGreatDoor
open Go.RowKit

section
variable {w0 : World} {B G N cap : Nat} {T : ByteArray} {t : Tm}
/-- A rune put where the cursor is: what the call says, and what the store makes of it. -/
theorem rt_put {W : World} {m n : Nat} (r : Int) (h : RtS w0 W B G N cap T t) (hok : OkF t.f m n) :
    Calls Tryz.prog 68 #[.agg #[.int .i64 t.f.rows, .int .i64 t.f.cols, .slice (some ⟨G, 0, none⟩) N cap, .int .i64 t.f.row, .int .i64 t.f.col], .int .i64 t.f.row, .int .i64 t.f.col, .int .i32 r, .agg #[.int .i64 t.sty.1, .bool t.sty.2.1, .bool t.sty.2.2.1, .bool t.sty.2.2.2]] W fun e w' => ∃ a1 a2 a4 a5 g c1, e = .returned (.agg #[.int .i64 a1, .int .i64 a2, .slice (some ⟨g, 0, none⟩) N c1, .int .i64 a4, .int .i64 a5]) ∧ Below W.heap.size W w' ∧ W.heap.size ≤ g ∧
      RtS w0 (set5 w' B a1 a2 (.slice (some ⟨g, 0, none⟩) N c1) a4 a5) B g N c1 T { t with f := putF t.f t.f.row t.f.col r t.sty } ∧ KeepW (NotBG B G) W (set5 w' B a1 a2 (.slice (some ⟨g, 0, none⟩) N c1) a4 a5) := by
  have hF := put_okF hok t.f.row t.f.col r t.sty
  have hl : (putF t.f t.f.row t.f.col r t.sty).cells.length = N := by rw [hF.len, ← hok.len, h.len]
  refine (rputR_any t.f.row t.f.col r t.sty W h.frame hok).mono ?_
  rintro e w' ⟨v', he, ⟨g, N1, c1, hv, hg, hc, hz, hn⟩, hb⟩
  subst hv
  have hNN : N1 = N := hn.symm.trans hl
  subst hNN
  obtain ⟨k1, k2⟩ := h.putted hb hg hc hz hn hl
  exact ⟨_, _, _, _, g, c1, he, hb, hg, k1, k2⟩
/-- The last two stores. -/
theorem rt_last {W : World} {m n : Nat} {d : Int} {wt : Bool} (h : RtS w0 W B G N cap T t) (hok : OkF t.f m n) (h0 : 0 ≤ d) (h1 : t.f.col + d ≤ t.f.cols) (x : Int) (hx : x = min (t.f.col + d) (t.f.cols - 1)) (hw : wt = decide (t.f.cols ≤ t.f.col + d)) (hwt : t.waits = wt) :
    RtS w0 (W.setCell ⟨B, 4, none⟩ (.int .i64 x)) B G N cap T { t with f := goF t.f t.f.row (t.f.col + d), waits := decide (t.f.col + d = t.f.cols) } ∧ KeepW (NotBG B G) W (W.setCell ⟨B, 4, none⟩ (.int .i64 x)) := by
  obtain ⟨e1, e2⟩ := show_end hok d h0 h1
  rw [← e1, e2, ← hw, ← hwt, ← hx]
  exact h.col_ x
end
end Go.Proofs.YtpkjaallhhjleaaGreatDoor
