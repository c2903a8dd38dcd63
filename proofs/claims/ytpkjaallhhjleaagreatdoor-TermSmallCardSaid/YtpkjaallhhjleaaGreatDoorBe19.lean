/-
  term: eraseRow, eraseRows: what each leaves.
-/
import Derived.StillTailTactics
import Derived.BigQuiet
import Derived.IntWalk
import Derived.Test.YtpkjaallhhjleaaGreatDoorBe18
import Derived.Test.YtpkjaallhhjleaaGreatDoorBe14
namespace Go.Proofs.YtpkjaallhhjleaaGreatDoor
open Go.RowKit

section
variable {w0 : World} {B G N cap : Nat} {t : Tm}
/-- The call of erase, where the cells may be. -/
theorem erase_call {m n : Nat} (a b : Nat) (W : World) (hL : TBlankW w0) (h : TmS w0 W B G N cap t) (hok : OkF t.f m n) (hab : a ≤ b) (hb : b ≤ m * n) :
    Calls Tryz.prog 116 #[.pointer (some ⟨B, 0, none⟩), .int .i64 (a : Int), .int .i64 (b : Int)] W (TmD w0 W B G N cap { t with f := { t.f with cells := eraseL t.f.cells a b } }) := by
  have hl : m * n = N := by rw [← h.len, hok.len]
  have hr := hok.room
  rw [h.len] at hr
  refine erase_any a b W h hL hab (by omega) hr fun _ hw => ?_
  rcases Nat.eq_zero_or_pos a with e | e
  · subst e
    have := w0_front (k := 0) (okF_all hok)
    rw [Nat.zero_mul] at this
    rw [this] at hw; cases hw
  · exact e

set_option maxRecDepth 20000 in
set_option maxHeartbeats 8000000 in
theorem trowE_0 {m n : Nat} (w : World) (h : TmS w0 w B G N cap t) (hok : OkF t.f m n) (hL : TBlankW w0) :
    Calls Tryz.prog 96 #[.pointer (some ⟨B, 0, none⟩), .int .i64 0] w (TmD w0 w B G N cap { t with f := rowE t.f 0 }) := by
  have hm := hok.hm
  have hn := hok.hn
  have hrow := hok.row
  have hcol := hok.col
  have hrows := hok.rows
  have hcols := hok.cols
  have hroom : m * n ≤ 20000 := by have := hok.room; rwa [hok.len] at this
  obtain ⟨i, hi⟩ : ∃ i : Nat, t.f.row = (i : Int) := ⟨t.f.row.toNat, by omega⟩
  obtain ⟨j, hj⟩ : ∃ j : Nat, t.f.col = (j : Int) := ⟨t.f.col.toNat, by omega⟩
  have hr2 := row_room (n := n) (show i < m by omega)
  obtain ⟨P, hP⟩ : ∃ P, i * n = P := ⟨_, rfl⟩
  rw [hP] at hr2
  have hmul : (i : Int) * (n : Int) = (P : Int) := by rw [← hP, Int.natCast_mul]
  have hEnd : rowE t.f 0 = { t.f with cells := eraseL t.f.cells (P + j) (P + n) } := by
    have e1 : t.f.row.toNat = i := by omega
    have e2 : t.f.col.toNat = j := by omega
    unfold rowE
    dsimp only
    rw [e1, e2, hok.nat.2, hP]
    rfl
  rw [hEnd]
  have HE : Hid (∀ W, TmS w0 W B G N cap t → Calls Tryz.prog 116 #[.pointer (some ⟨B, 0, none⟩), .int .i64 ((P : Int) + (j : Int)), .int .i64 ((P : Int) + (n : Int))] W (TmD w0 W B G N cap { t with f := { t.f with cells := eraseL t.f.cells (P + j) (P + n) } })) := fun W hW => by
    have := erase_call (P + j) (P + n) W hL hW hok (by omega) (by omega)
    rwa [show ((P + j : Nat) : Int) = (P : Int) + (j : Int) by omega, show ((P + n : Nat) : Int) = (P : Int) + (n : Int) by omega] at this
  have HS := Lib.hid h
  obtain ⟨⟨x0, x1, x2, x3, x4⟩, _, _, _⟩ := h.box.cells
  rw [hcols] at x1
  rw [hi] at x3
  rw [hj] at x4
  have pb : (P : Int) ≤ 20000 := by omega
  have nb : (n : Int) ≤ 200 := by omega
  have jb : (j : Int) ≤ 200 := by omega
  have wp : IntKind.i64.wrap (P : Int) = (P : Int) := by rw [IntWalk.i64_in _ (by omega)]
  have wj : IntKind.i64.wrap ((P : Int) + (j : Int)) = (P : Int) + (j : Int) := by rw [IntWalk.i64_in _ (by omega)]
  have wn : IntKind.i64.wrap ((P : Int) + (n : Int)) = (P : Int) + (n : Int) := by rw [IntWalk.i64_in _ (by omega)]
  have hcols' := Lib.hid hcols
  have hj' := Lib.hid hj
  clear h hok hL hm hrow hcol hrows hcols hroom hi hj hr2 hP hEnd hn
  go_enter Tryz.func96, Tryz.ntmps96
  go_wp2_with fail
  go_quiet (fail)
  obtain ⟨W1, hW1⟩ : ∃ W1, w.drewN nq = W1 := ⟨_, rfl⟩
  have hb1 : Below w.heap.size w W1 := by rw [← hW1]; exact below_drewN (Below.refl _ _) nq
  try rw [hW1]
  have HS1 := Lib.hid (HS.out.next hb1)
  clear hW1 x0 x1 x2 x3 x4
  obtain ⟨⟨x0, x1, x2, x3, x4⟩, _, _, _⟩ := HS1.out.box.cells
  rw [hcols'.out] at x1
  rw [hj'.out] at x4
  go_wp2_with fail
  go_quiet (fail)
  obtain ⟨W2, hW2⟩ : ∃ W2, W1.drewN nq = W2 := ⟨_, rfl⟩
  have hb2 : Below W1.heap.size W1 W2 := by rw [← hW2]; exact below_drewN (Below.refl _ _) nq
  try rw [hW2]
  have HS2 := Lib.hid (HS1.out.next hb2)
  have HK2 : Hid (KeepW (NotBG B G) w W2) := (keep_below _ hb1).trans (keep_below _ hb2)
  clear hW2 x0 x1 x2 x3 x4 HS HS1 hb1 hb2
  go_wp2_with fail
  go_fit (HE.out _ HS2.out)
  rintro e w3 ⟨rfl, h3, k3⟩
  have HS3 := Lib.hid h3
  have HK3 : Hid (KeepW (NotBG B G) w w3) := HK2.out.trans k3
  clear h3 k3
  go_wp2_with fail
  go_end0
  exact ⟨rfl, HS3.out, HK3.out⟩

set_option maxRecDepth 20000 in
set_option maxHeartbeats 8000000 in
theorem trowE_1 {m n : Nat} (w : World) (h : TmS w0 w B G N cap t) (hok : OkF t.f m n) (hL : TBlankW w0) :
    Calls Tryz.prog 96 #[.pointer (some ⟨B, 0, none⟩), .int .i64 1] w (TmD w0 w B G N cap { t with f := rowE t.f 1 }) := by
  have hm := hok.hm
  have hn := hok.hn
  have hrow := hok.row
  have hcol := hok.col
  have hrows := hok.rows
  have hcols := hok.cols
  have hroom : m * n ≤ 20000 := by have := hok.room; rwa [hok.len] at this
  obtain ⟨i, hi⟩ : ∃ i : Nat, t.f.row = (i : Int) := ⟨t.f.row.toNat, by omega⟩
  obtain ⟨j, hj⟩ : ∃ j : Nat, t.f.col = (j : Int) := ⟨t.f.col.toNat, by omega⟩
  have hr2 := row_room (n := n) (show i < m by omega)
  obtain ⟨P, hP⟩ : ∃ P, i * n = P := ⟨_, rfl⟩
  rw [hP] at hr2
  have hmul : (i : Int) * (n : Int) = (P : Int) := by rw [← hP, Int.natCast_mul]
  have hEnd : rowE t.f 1 = { t.f with cells := eraseL t.f.cells (P) (P + j + 1) } := by
    have e1 : t.f.row.toNat = i := by omega
    have e2 : t.f.col.toNat = j := by omega
    unfold rowE
    dsimp only
    rw [e1, e2, hok.nat.2, hP]
    rfl
  rw [hEnd]
  have HE : Hid (∀ W, TmS w0 W B G N cap t → Calls Tryz.prog 116 #[.pointer (some ⟨B, 0, none⟩), .int .i64 ((P : Int)), .int .i64 ((P : Int) + (j : Int) + 1)] W (TmD w0 W B G N cap { t with f := { t.f with cells := eraseL t.f.cells (P) (P + j + 1) } })) := fun W hW => by
    have := erase_call (P) (P + j + 1) W hL hW hok (by omega) (by omega)
    rwa [show ((P : Nat) : Int) = (P : Int) by omega, show ((P + j + 1 : Nat) : Int) = (P : Int) + (j : Int) + 1 by omega] at this
  have HS := Lib.hid h
  obtain ⟨⟨x0, x1, x2, x3, x4⟩, _, _, _⟩ := h.box.cells
  rw [hcols] at x1
  rw [hi] at x3
  rw [hj] at x4
  have pb : (P : Int) ≤ 20000 := by omega
  have nb : (n : Int) ≤ 200 := by omega
  have jb : (j : Int) ≤ 200 := by omega
  have wp : IntKind.i64.wrap (P : Int) = (P : Int) := by rw [IntWalk.i64_in _ (by omega)]
  have wj : IntKind.i64.wrap ((P : Int) + (j : Int)) = (P : Int) + (j : Int) := by rw [IntWalk.i64_in _ (by omega)]
  have wn : IntKind.i64.wrap ((P : Int) + (n : Int)) = (P : Int) + (n : Int) := by rw [IntWalk.i64_in _ (by omega)]
  have hcols' := Lib.hid hcols
  have hj' := Lib.hid hj
  clear h hok hL hm hrow hcol hrows hcols hroom hi hj hr2 hP hEnd hn
  go_enter Tryz.func96, Tryz.ntmps96
  go_wp2_with fail
  go_quiet (fail)
  obtain ⟨W1, hW1⟩ : ∃ W1, w.drewN nq = W1 := ⟨_, rfl⟩
  have hb1 : Below w.heap.size w W1 := by rw [← hW1]; exact below_drewN (Below.refl _ _) nq
  try rw [hW1]
  have HS1 := Lib.hid (HS.out.next hb1)
  clear hW1 x0 x1 x2 x3 x4
  obtain ⟨⟨x0, x1, x2, x3, x4⟩, _, _, _⟩ := HS1.out.box.cells
  rw [hcols'.out] at x1
  rw [hj'.out] at x4
  go_wp2_with fail
  go_quiet (fail)
  obtain ⟨W2, hW2⟩ : ∃ W2, W1.drewN nq = W2 := ⟨_, rfl⟩
  have hb2 : Below W1.heap.size W1 W2 := by rw [← hW2]; exact below_drewN (Below.refl _ _) nq
  try rw [hW2]
  have HS2 := Lib.hid (HS1.out.next hb2)
  have HK2 : Hid (KeepW (NotBG B G) w W2) := (keep_below _ hb1).trans (keep_below _ hb2)
  clear hW2 x0 x1 x2 x3 x4 HS HS1 hb1 hb2
  go_wp2_with fail
  go_fit (HE.out _ HS2.out)
  rintro e w3 ⟨rfl, h3, k3⟩
  have HS3 := Lib.hid h3
  have HK3 : Hid (KeepW (NotBG B G) w w3) := HK2.out.trans k3
  clear h3 k3
  go_wp2_with fail
  go_end0
  exact ⟨rfl, HS3.out, HK3.out⟩

set_option maxRecDepth 20000 in
set_option maxHeartbeats 8000000 in
theorem trowE_2 {m n : Nat} (w : World) (h : TmS w0 w B G N cap t) (hok : OkF t.f m n) (hL : TBlankW w0) :
    Calls Tryz.prog 96 #[.pointer (some ⟨B, 0, none⟩), .int .i64 2] w (TmD w0 w B G N cap { t with f := rowE t.f 2 }) := by
  have hm := hok.hm
  have hn := hok.hn
  have hrow := hok.row
  have hcol := hok.col
  have hrows := hok.rows
  have hcols := hok.cols
  have hroom : m * n ≤ 20000 := by have := hok.room; rwa [hok.len] at this
  obtain ⟨i, hi⟩ : ∃ i : Nat, t.f.row = (i : Int) := ⟨t.f.row.toNat, by omega⟩
  obtain ⟨j, hj⟩ : ∃ j : Nat, t.f.col = (j : Int) := ⟨t.f.col.toNat, by omega⟩
  have hr2 := row_room (n := n) (show i < m by omega)
  obtain ⟨P, hP⟩ : ∃ P, i * n = P := ⟨_, rfl⟩
  rw [hP] at hr2
  have hmul : (i : Int) * (n : Int) = (P : Int) := by rw [← hP, Int.natCast_mul]
  have hEnd : rowE t.f 2 = { t.f with cells := eraseL t.f.cells (P) (P + n) } := by
    have e1 : t.f.row.toNat = i := by omega
    have e2 : t.f.col.toNat = j := by omega
    unfold rowE
    dsimp only
    rw [e1, e2, hok.nat.2, hP]
    rfl
  rw [hEnd]
  have HE : Hid (∀ W, TmS w0 W B G N cap t → Calls Tryz.prog 116 #[.pointer (some ⟨B, 0, none⟩), .int .i64 ((P : Int)), .int .i64 ((P : Int) + (n : Int))] W (TmD w0 W B G N cap { t with f := { t.f with cells := eraseL t.f.cells (P) (P + n) } })) := fun W hW => by
    have := erase_call (P) (P + n) W hL hW hok (by omega) (by omega)
    rwa [show ((P : Nat) : Int) = (P : Int) by omega, show ((P + n : Nat) : Int) = (P : Int) + (n : Int) by omega] at this
  have HS := Lib.hid h
  obtain ⟨⟨x0, x1, x2, x3, x4⟩, _, _, _⟩ := h.box.cells
  rw [hcols] at x1
  rw [hi] at x3
  rw [hj] at x4
  have pb : (P : Int) ≤ 20000 := by omega
  have nb : (n : Int) ≤ 200 := by omega
  have jb : (j : Int) ≤ 200 := by omega
  have wp : IntKind.i64.wrap (P : Int) = (P : Int) := by rw [IntWalk.i64_in _ (by omega)]
  have wj : IntKind.i64.wrap ((P : Int) + (j : Int)) = (P : Int) + (j : Int) := by rw [IntWalk.i64_in _ (by omega)]
  have wn : IntKind.i64.wrap ((P : Int) + (n : Int)) = (P : Int) + (n : Int) := by rw [IntWalk.i64_in _ (by omega)]
  have hcols' := Lib.hid hcols
  have hj' := Lib.hid hj
  clear h hok hL hm hrow hcol hrows hcols hroom hi hj hr2 hP hEnd hn
  go_enter Tryz.func96, Tryz.ntmps96
  go_wp2_with fail
  go_quiet (fail)
  obtain ⟨W1, hW1⟩ : ∃ W1, w.drewN nq = W1 := ⟨_, rfl⟩
  have hb1 : Below w.heap.size w W1 := by rw [← hW1]; exact below_drewN (Below.refl _ _) nq
  try rw [hW1]
  have HS1 := Lib.hid (HS.out.next hb1)
  clear hW1 x0 x1 x2 x3 x4
  obtain ⟨⟨x0, x1, x2, x3, x4⟩, _, _, _⟩ := HS1.out.box.cells
  rw [hcols'.out] at x1
  rw [hj'.out] at x4
  go_wp2_with fail
  go_quiet (fail)
  obtain ⟨W2, hW2⟩ : ∃ W2, W1.drewN nq = W2 := ⟨_, rfl⟩
  have hb2 : Below W1.heap.size W1 W2 := by rw [← hW2]; exact below_drewN (Below.refl _ _) nq
  try rw [hW2]
  have HS2 := Lib.hid (HS1.out.next hb2)
  have HK2 : Hid (KeepW (NotBG B G) w W2) := (keep_below _ hb1).trans (keep_below _ hb2)
  clear hW2 x0 x1 x2 x3 x4 HS HS1 hb1 hb2
  go_wp2_with fail
  go_fit (HE.out _ HS2.out)
  rintro e w3 ⟨rfl, h3, k3⟩
  have HS3 := Lib.hid h3
  have HK3 : Hid (KeepW (NotBG B G) w w3) := HK2.out.trans k3
  clear h3 k3
  go_wp2_with fail
  go_end0
  exact ⟨rfl, HS3.out, HK3.out⟩

set_option maxRecDepth 20000 in
set_option maxHeartbeats 8000000 in
theorem trowE_o {m n : Nat} (k : Nat) (h0 : k ≠ 0) (h1 : k ≠ 1) (h2 : k ≠ 2) (w : World) (h : TmS w0 w B G N cap t) (hok : OkF t.f m n) (_hL : TBlankW w0) :
    Calls Tryz.prog 96 #[.pointer (some ⟨B, 0, none⟩), .int .i64 (k : Int)] w (TmD w0 w B G N cap { t with f := rowE t.f k }) := by
  have hm := hok.hm
  have hn := hok.hn
  have hrow := hok.row
  have hcol := hok.col
  have hrows := hok.rows
  have hcols := hok.cols
  have hroom : m * n ≤ 20000 := by have := hok.room; rwa [hok.len] at this
  obtain ⟨i, hi⟩ : ∃ i : Nat, t.f.row = (i : Int) := ⟨t.f.row.toNat, by omega⟩
  obtain ⟨j, hj⟩ : ∃ j : Nat, t.f.col = (j : Int) := ⟨t.f.col.toNat, by omega⟩
  have hr2 := row_room (n := n) (show i < m by omega)
  obtain ⟨P, hP⟩ : ∃ P, i * n = P := ⟨_, rfl⟩
  rw [hP] at hr2
  have hmul : (i : Int) * (n : Int) = (P : Int) := by rw [← hP, Int.natCast_mul]
  have hEnd : rowE t.f k = t.f := by
    unfold rowE
    dsimp only
    rw [if_neg h0, if_neg h1, if_neg h2]
  rw [hEnd]
  have k0 : ((k : Int) == 0) = false := by rw [beq_eq_false_iff_ne]; omega
  have k1 : ((k : Int) == 1) = false := by rw [beq_eq_false_iff_ne]; omega
  have k2 : ((k : Int) == 2) = false := by rw [beq_eq_false_iff_ne]; omega
  have HS := Lib.hid h
  obtain ⟨⟨x0, x1, x2, x3, x4⟩, _, _, _⟩ := h.box.cells
  rw [hcols] at x1
  rw [hi] at x3
  rw [hj] at x4
  have pb : (P : Int) ≤ 20000 := by omega
  have nb : (n : Int) ≤ 200 := by omega
  have jb : (j : Int) ≤ 200 := by omega
  have wp : IntKind.i64.wrap (P : Int) = (P : Int) := by rw [IntWalk.i64_in _ (by omega)]
  have wj : IntKind.i64.wrap ((P : Int) + (j : Int)) = (P : Int) + (j : Int) := by rw [IntWalk.i64_in _ (by omega)]
  have wn : IntKind.i64.wrap ((P : Int) + (n : Int)) = (P : Int) + (n : Int) := by rw [IntWalk.i64_in _ (by omega)]
  have hcols' := Lib.hid hcols
  have hj' := Lib.hid hj
  clear h hok hm hrow hcol hrows hcols hroom hi hj hr2 hP hEnd hn
  go_enter Tryz.func96, Tryz.ntmps96
  go_wp2_with fail
  go_quiet (fail)
  obtain ⟨W1, hW1⟩ : ∃ W1, w.drewN nq = W1 := ⟨_, rfl⟩
  have hb1 : Below w.heap.size w W1 := by rw [← hW1]; exact below_drewN (Below.refl _ _) nq
  try rw [hW1]
  have HS1 := Lib.hid (HS.out.next hb1)
  clear hW1 x0 x1 x2 x3 x4
  obtain ⟨⟨x0, x1, x2, x3, x4⟩, _, _, _⟩ := HS1.out.box.cells
  rw [hcols'.out] at x1
  rw [hj'.out] at x4
  go_wp2_with fail
  go_quiet (fail)
  obtain ⟨W2, hW2⟩ : ∃ W2, W1.drewN nq = W2 := ⟨_, rfl⟩
  have hb2 : Below W1.heap.size W1 W2 := by rw [← hW2]; exact below_drewN (Below.refl _ _) nq
  try rw [hW2]
  have HS2 := Lib.hid (HS1.out.next hb2)
  have HK2 : Hid (KeepW (NotBG B G) w W2) := (keep_below _ hb1).trans (keep_below _ hb2)
  clear hW2 x0 x1 x2 x3 x4 HS HS1 hb1 hb2
  go_wp2_with fail
  go_end0
  exact ⟨rfl, HS2.out, HK2.out⟩

set_option maxRecDepth 20000 in
set_option maxHeartbeats 8000000 in
theorem trowsE_0 {m n : Nat} (w : World) (h : TmS w0 w B G N cap t) (hok : OkF t.f m n) (hL : TBlankW w0) :
    Calls Tryz.prog 95 #[.pointer (some ⟨B, 0, none⟩), .int .i64 0] w (TmD w0 w B G N cap { t with f := rowsE t.f 0 }) := by
  have hm := hok.hm
  have hn := hok.hn
  have hrow := hok.row
  have hrows := hok.rows
  have hcols := hok.cols
  have hlen := h.len
  have hroom : m * n ≤ 20000 := by have := hok.room; rwa [hok.len] at this
  have hNn : N = m * n := by rw [← hlen, hok.len]
  obtain ⟨i, hi⟩ : ∃ i : Nat, t.f.row = (i : Int) := ⟨t.f.row.toNat, by omega⟩
  have hr2 := row_room (n := n) (show i < m by omega)
  obtain ⟨P, hP⟩ : ∃ P, i * n = P := ⟨_, rfl⟩
  rw [hP] at hr2
  have hmul : (i : Int) * (n : Int) = (P : Int) := by rw [← hP, Int.natCast_mul]
  have hP2 : (i + 1) * n = P + n := by rw [Nat.add_mul, Nat.one_mul, hP]
  have hmul2 : ((i : Int) + 1) * (n : Int) = ((P + n : Nat) : Int) := by rw [← hP2, Int.natCast_mul]; rfl
  obtain ⟨Q, hQ⟩ : ∃ Q, P + n = Q := ⟨_, rfl⟩
  rw [hQ] at hmul2
  have e1 : t.f.row.toNat = i := by omega
  obtain ⟨t1, ht1⟩ : ∃ t1 : Tm, { t with f := { t.f with cells := eraseL t.f.cells Q N } } = t1 := ⟨_, rfl⟩
  have HE1 : Hid (∀ W, TmS w0 W B G N cap t → Calls Tryz.prog 116 #[.pointer (some ⟨B, 0, none⟩), .int .i64 (Q : Int), .int .i64 (N : Int)] W (TmD w0 W B G N cap t1)) := fun W hW => by
    have := erase_call Q N W hL hW hok (by omega) (by omega)
    rwa [ht1] at this
  have hEnd : ({ t with f := rowsE t.f 0 } : Tm) = t1 := by
    rw [← ht1]
    unfold rowsE
    dsimp only
    rw [e1, hok.nat.2, hP2, hQ, hlen]
    rfl
  rw [hEnd]
  clear ht1 hEnd
  have HS := Lib.hid h
  obtain ⟨⟨x0, x1, x2, x3, x4⟩, _, _, _⟩ := h.box.cells
  have HB : Hid (∀ W1, w.alloc (.cells #[.int .i64 (m : Int), .int .i64 (n : Int), .slice (some ⟨G, 0, none⟩) N cap, .int .i64 (i : Int), .int .i64 t.f.col] 35) = W1 → Below w.heap.size w W1 ∧ frB W1 w.heap.size (m : Int) (n : Int) (.slice (some ⟨G, 0, none⟩) N cap) (i : Int) t.f.col) := fun W1 h1 => by
    rw [← h1]
    exact ⟨(Below.refl _ w).alloc (Nat.le_refl _) _, frB.new w⟩
  have HneB : Hid (w.heap.size ≠ B ∧ w.heap.size ≠ G) := by have a := h.box.lt; have b := h.gt; show _ ∧ _; omega
  rw [hrows] at x0
  rw [hcols] at x1
  rw [hi] at x3
  have pb : (P : Int) ≤ 20000 := by omega
  have qb : (Q : Int) ≤ 20200 := by omega
  have ib : (i : Int) ≤ 100 := by omega
  have nb : (n : Int) ≤ 200 := by omega
  have wp : IntKind.i64.wrap (P : Int) = (P : Int) := by rw [IntWalk.i64_in _ (by omega)]
  have wq : IntKind.i64.wrap (Q : Int) = (Q : Int) := by rw [IntWalk.i64_in _ (by omega)]
  clear h hok hL hm hrow hrows hcols hroom hi hr2 hP hP2 hQ hn hlen hNn e1
  go_enter Tryz.func95, Tryz.ntmps95
  go_wp2_with fail
  obtain ⟨W1, hW1⟩ : ∃ W1, w.alloc (.cells #[.int .i64 (m : Int), .int .i64 (n : Int), .slice (some ⟨G, 0, none⟩) N cap, .int .i64 (i : Int), .int .i64 t.f.col] 35) = W1 := ⟨_, rfl⟩
  obtain ⟨hb1, hf1⟩ := HB.out W1 hW1
  try rw [hW1]
  have HS1 := Lib.hid (HS.out.next hb1)
  have HK1 : Hid (KeepW (NotBG B G) w W1) := keep_below _ hb1
  obtain ⟨⟨y0, y1, y2, y3, y4⟩, _⟩ := hf1.cells
  have HF1 := Lib.hid hf1
  clear hW1 x0 x1 x2 x3 x4 hb1 hf1 HB HS
  go_wp2_with fail
  go_fit (HE1.out _ HS1.out)
  rintro e w2 ⟨rfl, h2, k2⟩
  have HS2 := Lib.hid h2
  have HF2 := Lib.hid (HF1.out.keep k2 HneB.out)
  have HK2 : Hid (KeepW (NotBG B G) w w2) := HK1.out.trans k2
  clear h2 k2 y0 y1 y2 y3 y4 HS1 HK1 HF1
  obtain ⟨⟨y0, y1, y2, y3, y4⟩, _⟩ := HF2.out.cells
  go_wp2_with fail
  go_end0
  exact ⟨rfl, HS2.out, HK2.out⟩

set_option maxRecDepth 20000 in
set_option maxHeartbeats 8000000 in
theorem trowsE_1 {m n : Nat} (w : World) (h : TmS w0 w B G N cap t) (hok : OkF t.f m n) (hL : TBlankW w0) :
    Calls Tryz.prog 95 #[.pointer (some ⟨B, 0, none⟩), .int .i64 1] w (TmD w0 w B G N cap { t with f := rowsE t.f 1 }) := by
  have hm := hok.hm
  have hn := hok.hn
  have hrow := hok.row
  have hrows := hok.rows
  have hcols := hok.cols
  have hlen := h.len
  have hroom : m * n ≤ 20000 := by have := hok.room; rwa [hok.len] at this
  have hNn : N = m * n := by rw [← hlen, hok.len]
  obtain ⟨i, hi⟩ : ∃ i : Nat, t.f.row = (i : Int) := ⟨t.f.row.toNat, by omega⟩
  have hr2 := row_room (n := n) (show i < m by omega)
  obtain ⟨P, hP⟩ : ∃ P, i * n = P := ⟨_, rfl⟩
  rw [hP] at hr2
  have hmul : (i : Int) * (n : Int) = (P : Int) := by rw [← hP, Int.natCast_mul]
  have hP2 : (i + 1) * n = P + n := by rw [Nat.add_mul, Nat.one_mul, hP]
  have hmul2 : ((i : Int) + 1) * (n : Int) = ((P + n : Nat) : Int) := by rw [← hP2, Int.natCast_mul]; rfl
  obtain ⟨Q, hQ⟩ : ∃ Q, P + n = Q := ⟨_, rfl⟩
  rw [hQ] at hmul2
  have e1 : t.f.row.toNat = i := by omega
  have HE2 : Hid (∀ W, TmS w0 W B G N cap t → Calls Tryz.prog 116 #[.pointer (some ⟨B, 0, none⟩), .int .i64 0, .int .i64 (P : Int)] W (TmD w0 W B G N cap { t with f := rowsE t.f 1 })) := fun W hW => by
    have := erase_call 0 P W hL hW hok (by omega) (by omega)
    have e : ({ t with f := { t.f with cells := eraseL t.f.cells 0 P } } : Tm) = { t with f := rowsE t.f 1 } := by
      unfold rowsE
      dsimp only
      rw [e1, hok.nat.2, hP]
      rfl
    rw [e] at this
    exact this
  obtain ⟨R, hR⟩ : ∃ R : Tm, { t with f := rowsE t.f 1 } = R := ⟨_, rfl⟩
  rw [hR] at HE2 ⊢
  clear hR
  have HS := Lib.hid h
  obtain ⟨⟨x0, x1, x2, x3, x4⟩, _, _, _⟩ := h.box.cells
  have HB : Hid (∀ W1, w.alloc (.cells #[.int .i64 (m : Int), .int .i64 (n : Int), .slice (some ⟨G, 0, none⟩) N cap, .int .i64 (i : Int), .int .i64 t.f.col] 35) = W1 → Below w.heap.size w W1 ∧ frB W1 w.heap.size (m : Int) (n : Int) (.slice (some ⟨G, 0, none⟩) N cap) (i : Int) t.f.col) := fun W1 h1 => by
    rw [← h1]
    exact ⟨(Below.refl _ w).alloc (Nat.le_refl _) _, frB.new w⟩
  have HneB : Hid (w.heap.size ≠ B ∧ w.heap.size ≠ G) := by have a := h.box.lt; have b := h.gt; show _ ∧ _; omega
  rw [hrows] at x0
  rw [hcols] at x1
  rw [hi] at x3
  have pb : (P : Int) ≤ 20000 := by omega
  have qb : (Q : Int) ≤ 20200 := by omega
  have ib : (i : Int) ≤ 100 := by omega
  have nb : (n : Int) ≤ 200 := by omega
  have wp : IntKind.i64.wrap (P : Int) = (P : Int) := by rw [IntWalk.i64_in _ (by omega)]
  have wq : IntKind.i64.wrap (Q : Int) = (Q : Int) := by rw [IntWalk.i64_in _ (by omega)]
  clear h hok hL hm hrow hrows hcols hroom hi hr2 hP hP2 hQ hn hlen hNn e1
  go_enter Tryz.func95, Tryz.ntmps95
  go_wp2_with fail
  obtain ⟨W1, hW1⟩ : ∃ W1, w.alloc (.cells #[.int .i64 (m : Int), .int .i64 (n : Int), .slice (some ⟨G, 0, none⟩) N cap, .int .i64 (i : Int), .int .i64 t.f.col] 35) = W1 := ⟨_, rfl⟩
  obtain ⟨hb1, hf1⟩ := HB.out W1 hW1
  try rw [hW1]
  have HS1 := Lib.hid (HS.out.next hb1)
  have HK1 : Hid (KeepW (NotBG B G) w W1) := keep_below _ hb1
  obtain ⟨⟨y0, y1, y2, y3, y4⟩, _⟩ := hf1.cells
  have HF1 := Lib.hid hf1
  clear hW1 x0 x1 x2 x3 x4 hb1 hf1 HB HS
  go_wp2_with fail
  go_fit (HE2.out _ HS1.out)
  rintro e w3 ⟨rfl, h3, k3⟩
  have HS3 := Lib.hid h3
  have HK3 : Hid (KeepW (NotBG B G) w w3) := HK1.out.trans k3
  clear h3 k3
  go_wp2_with fail
  go_end0
  exact ⟨rfl, HS3.out, HK3.out⟩

set_option maxRecDepth 20000 in
set_option maxHeartbeats 8000000 in
theorem trowsE_2 {m n : Nat} (w : World) (h : TmS w0 w B G N cap t) (hok : OkF t.f m n) (hL : TBlankW w0) :
    Calls Tryz.prog 95 #[.pointer (some ⟨B, 0, none⟩), .int .i64 2] w (TmD w0 w B G N cap { t with f := rowsE t.f 2 }) := by
  have hm := hok.hm
  have hn := hok.hn
  have hrow := hok.row
  have hrows := hok.rows
  have hcols := hok.cols
  have hlen := h.len
  have hroom : m * n ≤ 20000 := by have := hok.room; rwa [hok.len] at this
  have hNn : N = m * n := by rw [← hlen, hok.len]
  obtain ⟨i, hi⟩ : ∃ i : Nat, t.f.row = (i : Int) := ⟨t.f.row.toNat, by omega⟩
  have hr2 := row_room (n := n) (show i < m by omega)
  obtain ⟨P, hP⟩ : ∃ P, i * n = P := ⟨_, rfl⟩
  rw [hP] at hr2
  have hmul : (i : Int) * (n : Int) = (P : Int) := by rw [← hP, Int.natCast_mul]
  have hP2 : (i + 1) * n = P + n := by rw [Nat.add_mul, Nat.one_mul, hP]
  have hmul2 : ((i : Int) + 1) * (n : Int) = ((P + n : Nat) : Int) := by rw [← hP2, Int.natCast_mul]; rfl
  obtain ⟨Q, hQ⟩ : ∃ Q, P + n = Q := ⟨_, rfl⟩
  rw [hQ] at hmul2
  have e1 : t.f.row.toNat = i := by omega
  obtain ⟨t1, ht1⟩ : ∃ t1 : Tm, { t with f := { t.f with cells := eraseL t.f.cells Q N } } = t1 := ⟨_, rfl⟩
  have HE1 : Hid (∀ W, TmS w0 W B G N cap t → Calls Tryz.prog 116 #[.pointer (some ⟨B, 0, none⟩), .int .i64 (Q : Int), .int .i64 (N : Int)] W (TmD w0 W B G N cap t1)) := fun W hW => by
    have := erase_call Q N W hL hW hok (by omega) (by omega)
    rwa [ht1] at this
  have hok1 : OkF t1.f m n := by
    have := erase_ok (a := Q) (b := N) (okF_all hok) (by omega) (by omega) (fun _ => w0_out (by omega))
    rw [← ht1]
    exact hok.cells_ (by rw [this.1, hok.len]) this.2
  have HE2 : Hid (∀ W, TmS w0 W B G N cap t1 → Calls Tryz.prog 116 #[.pointer (some ⟨B, 0, none⟩), .int .i64 0, .int .i64 (P : Int)] W (TmD w0 W B G N cap { t with f := rowsE t.f 2 })) := fun W hW => by
    have := erase_call 0 P W hL hW hok1 (by omega) (by omega)
    have e : ({ t1 with f := { t1.f with cells := eraseL t1.f.cells 0 P } } : Tm) = { t with f := rowsE t.f 2 } := by
      rw [← ht1]
      unfold rowsE
      dsimp only
      rw [e1, hok.nat.2, hP, hP2, hQ, hlen]
      rfl
    rw [e] at this
    exact this
  obtain ⟨R, hR⟩ : ∃ R : Tm, { t with f := rowsE t.f 2 } = R := ⟨_, rfl⟩
  rw [hR] at HE2 ⊢
  clear hR hok1
  have HS := Lib.hid h
  obtain ⟨⟨x0, x1, x2, x3, x4⟩, _, _, _⟩ := h.box.cells
  have HB : Hid (∀ W1, w.alloc (.cells #[.int .i64 (m : Int), .int .i64 (n : Int), .slice (some ⟨G, 0, none⟩) N cap, .int .i64 (i : Int), .int .i64 t.f.col] 35) = W1 → Below w.heap.size w W1 ∧ frB W1 w.heap.size (m : Int) (n : Int) (.slice (some ⟨G, 0, none⟩) N cap) (i : Int) t.f.col) := fun W1 h1 => by
    rw [← h1]
    exact ⟨(Below.refl _ w).alloc (Nat.le_refl _) _, frB.new w⟩
  have HneB : Hid (w.heap.size ≠ B ∧ w.heap.size ≠ G) := by have a := h.box.lt; have b := h.gt; show _ ∧ _; omega
  rw [hrows] at x0
  rw [hcols] at x1
  rw [hi] at x3
  have pb : (P : Int) ≤ 20000 := by omega
  have qb : (Q : Int) ≤ 20200 := by omega
  have ib : (i : Int) ≤ 100 := by omega
  have nb : (n : Int) ≤ 200 := by omega
  have wp : IntKind.i64.wrap (P : Int) = (P : Int) := by rw [IntWalk.i64_in _ (by omega)]
  have wq : IntKind.i64.wrap (Q : Int) = (Q : Int) := by rw [IntWalk.i64_in _ (by omega)]
  clear h hok hL hm hrow hrows hcols hroom hi hr2 hP hP2 hQ hn hlen hNn e1
  go_enter Tryz.func95, Tryz.ntmps95
  go_wp2_with fail
  obtain ⟨W1, hW1⟩ : ∃ W1, w.alloc (.cells #[.int .i64 (m : Int), .int .i64 (n : Int), .slice (some ⟨G, 0, none⟩) N cap, .int .i64 (i : Int), .int .i64 t.f.col] 35) = W1 := ⟨_, rfl⟩
  obtain ⟨hb1, hf1⟩ := HB.out W1 hW1
  try rw [hW1]
  have HS1 := Lib.hid (HS.out.next hb1)
  have HK1 : Hid (KeepW (NotBG B G) w W1) := keep_below _ hb1
  obtain ⟨⟨y0, y1, y2, y3, y4⟩, _⟩ := hf1.cells
  have HF1 := Lib.hid hf1
  clear hW1 x0 x1 x2 x3 x4 hb1 hf1 HB HS
  go_wp2_with fail
  go_fit (HE1.out _ HS1.out)
  rintro e w2 ⟨rfl, h2, k2⟩
  have HS2 := Lib.hid h2
  have HF2 := Lib.hid (HF1.out.keep k2 HneB.out)
  have HK2 : Hid (KeepW (NotBG B G) w w2) := HK1.out.trans k2
  clear h2 k2 y0 y1 y2 y3 y4 HS1 HK1 HF1
  obtain ⟨⟨y0, y1, y2, y3, y4⟩, _⟩ := HF2.out.cells
  go_wp2_with fail
  go_fit (HE2.out _ HS2.out)
  rintro e w3 ⟨rfl, h3, k3⟩
  have HS3 := Lib.hid h3
  have HK3 : Hid (KeepW (NotBG B G) w w3) := HK2.out.trans k3
  clear h3 k3
  go_wp2_with fail
  go_end0
  exact ⟨rfl, HS3.out, HK3.out⟩

set_option maxRecDepth 20000 in
set_option maxHeartbeats 8000000 in
theorem trowsE_o {m n : Nat} (k : Nat) (h0 : k ≠ 0) (h1 : k ≠ 1) (h2 : k ≠ 2) (w : World) (h : TmS w0 w B G N cap t) (hok : OkF t.f m n) (_hL : TBlankW w0) :
    Calls Tryz.prog 95 #[.pointer (some ⟨B, 0, none⟩), .int .i64 (k : Int)] w (TmD w0 w B G N cap { t with f := rowsE t.f k }) := by
  have hm := hok.hm
  have hn := hok.hn
  have hrow := hok.row
  have hrows := hok.rows
  have hcols := hok.cols
  have hlen := h.len
  have hroom : m * n ≤ 20000 := by have := hok.room; rwa [hok.len] at this
  have hNn : N = m * n := by rw [← hlen, hok.len]
  obtain ⟨i, hi⟩ : ∃ i : Nat, t.f.row = (i : Int) := ⟨t.f.row.toNat, by omega⟩
  have hr2 := row_room (n := n) (show i < m by omega)
  obtain ⟨P, hP⟩ : ∃ P, i * n = P := ⟨_, rfl⟩
  rw [hP] at hr2
  have hmul : (i : Int) * (n : Int) = (P : Int) := by rw [← hP, Int.natCast_mul]
  have hP2 : (i + 1) * n = P + n := by rw [Nat.add_mul, Nat.one_mul, hP]
  have hmul2 : ((i : Int) + 1) * (n : Int) = ((P + n : Nat) : Int) := by rw [← hP2, Int.natCast_mul]; rfl
  obtain ⟨Q, hQ⟩ : ∃ Q, P + n = Q := ⟨_, rfl⟩
  rw [hQ] at hmul2
  have e1 : t.f.row.toNat = i := by omega
  have hEnd : rowsE t.f k = t.f := by
    unfold rowsE
    dsimp only
    rw [if_neg (by omega), if_neg (by omega)]
  rw [hEnd]
  clear hEnd
  have k0 : ((k : Int) == 0) = false := by rw [beq_eq_false_iff_ne]; omega
  have k1 : ((k : Int) == 1) = false := by rw [beq_eq_false_iff_ne]; omega
  have k2 : ((k : Int) == 2) = false := by rw [beq_eq_false_iff_ne]; omega
  have HS := Lib.hid h
  obtain ⟨⟨x0, x1, x2, x3, x4⟩, _, _, _⟩ := h.box.cells
  have HB : Hid (∀ W1, w.alloc (.cells #[.int .i64 (m : Int), .int .i64 (n : Int), .slice (some ⟨G, 0, none⟩) N cap, .int .i64 (i : Int), .int .i64 t.f.col] 35) = W1 → Below w.heap.size w W1 ∧ frB W1 w.heap.size (m : Int) (n : Int) (.slice (some ⟨G, 0, none⟩) N cap) (i : Int) t.f.col) := fun W1 h1 => by
    rw [← h1]
    exact ⟨(Below.refl _ w).alloc (Nat.le_refl _) _, frB.new w⟩
  have HneB : Hid (w.heap.size ≠ B ∧ w.heap.size ≠ G) := by have a := h.box.lt; have b := h.gt; show _ ∧ _; omega
  rw [hrows] at x0
  rw [hcols] at x1
  rw [hi] at x3
  have pb : (P : Int) ≤ 20000 := by omega
  have qb : (Q : Int) ≤ 20200 := by omega
  have ib : (i : Int) ≤ 100 := by omega
  have nb : (n : Int) ≤ 200 := by omega
  have wp : IntKind.i64.wrap (P : Int) = (P : Int) := by rw [IntWalk.i64_in _ (by omega)]
  have wq : IntKind.i64.wrap (Q : Int) = (Q : Int) := by rw [IntWalk.i64_in _ (by omega)]
  clear h hok hm hrow hrows hcols hroom hi hr2 hP hP2 hQ hn hlen hNn e1
  go_enter Tryz.func95, Tryz.ntmps95
  go_wp2_with fail
  obtain ⟨W1, hW1⟩ : ∃ W1, w.alloc (.cells #[.int .i64 (m : Int), .int .i64 (n : Int), .slice (some ⟨G, 0, none⟩) N cap, .int .i64 (i : Int), .int .i64 t.f.col] 35) = W1 := ⟨_, rfl⟩
  obtain ⟨hb1, hf1⟩ := HB.out W1 hW1
  try rw [hW1]
  have HS1 := Lib.hid (HS.out.next hb1)
  have HK1 : Hid (KeepW (NotBG B G) w W1) := keep_below _ hb1
  obtain ⟨⟨y0, y1, y2, y3, y4⟩, _⟩ := hf1.cells
  have HF1 := Lib.hid hf1
  clear hW1 x0 x1 x2 x3 x4 hb1 hf1 HB HS
  go_wp2_with fail
  go_end0
  exact ⟨rfl, HS1.out, HK1.out⟩
theorem trowE_any {m n : Nat} (k : Nat) (w : World) (h : TmS w0 w B G N cap t) (hok : OkF t.f m n) (hL : TBlankW w0) :
    Calls Tryz.prog 96 #[.pointer (some ⟨B, 0, none⟩), .int .i64 (k : Int)] w (TmD w0 w B G N cap { t with f := rowE t.f k }) := by
  by_cases h0 : k = 0
  · subst h0; exact trowE_0 w h hok hL
  by_cases h1 : k = 1
  · subst h1; exact trowE_1 w h hok hL
  by_cases h2 : k = 2
  · subst h2; exact trowE_2 w h hok hL
  exact trowE_o k h0 h1 h2 w h hok hL
theorem trowsE_any {m n : Nat} (k : Nat) (w : World) (h : TmS w0 w B G N cap t) (hok : OkF t.f m n) (hL : TBlankW w0) :
    Calls Tryz.prog 95 #[.pointer (some ⟨B, 0, none⟩), .int .i64 (k : Int)] w (TmD w0 w B G N cap { t with f := rowsE t.f k }) := by
  by_cases h0 : k = 0
  · subst h0; exact trowsE_0 w h hok hL
  by_cases h1 : k = 1
  · subst h1; exact trowsE_1 w h hok hL
  by_cases h2 : k = 2
  · subst h2; exact trowsE_2 w h hok hL
  exact trowsE_o k h0 h1 h2 w h hok hL
end
end Go.Proofs.YtpkjaallhhjleaaGreatDoor
