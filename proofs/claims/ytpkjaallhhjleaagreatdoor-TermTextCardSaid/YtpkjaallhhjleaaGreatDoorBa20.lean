/-
  term: sequence: what it leaves.
-/
import Derived.Test.YtpkjaallhhjleaaGreatDoorBa18
import Derived.Test.YtpkjaallhhjleaaGreatDoorBa19
namespace Go.Proofs.YtpkjaallhhjleaaGreatDoor
open Go.RowKit

section
variable {w0 : World} {B G N cap : Nat} {t : Tm}

set_option maxRecDepth 20000 in
set_option maxHeartbeats 8000000 in
theorem tseq_651 {m n : Nat} {v : Value} {l : List Nat} (w : World) (h : TmS w0 w B G N cap t) (hok : OkF t.f m n) (_hL : TBlankW w0) (hN : NumsW (NotBG B G) w v l) (hl : l.length ≤ 1000) (h9 : ∀ x ∈ l, x ≤ 9999) (hs : l.getD 0 0 ≤ 1) :
    Calls Tryz.prog 60 #[.pointer (some ⟨B, 0, none⟩), .int .u8 65, v] w (TmD w0 w B G N cap (seqT t l 65)) := by
  have hm := hok.hm
  have hn := hok.hn
  have hrow := hok.row
  have hcol := hok.col
  have hrows := hok.rows
  have hcols := hok.cols
  have HS := Lib.hid h
  have HNN := Lib.hid hN
  have hk : ∀ i, l.getD i 0 ≤ 9999 := fun i => by
    rw [List.getD_eq_getElem?_getD]
    cases hi : l[i]? with
    | none => exact Nat.zero_le _
    | some x => exact h9 x (List.mem_of_getElem? hi)
  have hk0 := hk 0
  have hk1 := hk 1
  have HP : Hid (∀ W, KeepW (NotBG B G) w W → Calls Tryz.prog 94 #[v, .int .i64 0] W fun e w' => e = .returned (.int .i64 ((l.getD 0 0 : Nat) : Int)) ∧ w' = W) := fun W hW => param_any 0 W (hN.keep hW) (by omega) (by omega)
  have HP1 : Hid (∀ W, KeepW (NotBG B G) w W → Calls Tryz.prog 94 #[v, .int .i64 1] W fun e w' => e = .returned (.int .i64 ((l.getD 1 0 : Nat) : Int)) ∧ w' = W) := fun W hW => param_any 1 W (hN.keep hW) (by omega) (by omega)
  have hE : seqT t l 65 = { t with f := goF t.f (t.f.row - max 1 ((l.getD 0 0 : Nat) : Int)) t.f.col, waits := false } := by
    unfold seqT
    dsimp only
    rfl
  rw [hE]
  obtain ⟨k, hkk⟩ : ∃ k : Nat, l.getD 0 0 = k := ⟨_, rfl⟩
  obtain ⟨k2, hkk2⟩ : ∃ k : Nat, l.getD 1 0 = k := ⟨_, rfl⟩
  rw [hkk] at HP hk0 hs ⊢
  rw [hkk2] at HP1 hk1
  have hmx : max 1 (k : Int) = 1 := by omega
  rw [hmx]
  have hs1 : ¬ (1 : Int) < (k : Int) := by omega
  have hs3 : (k : Int) ≤ 1 := by omega
  obtain ⟨t1, ht1⟩ : ∃ t1 : Tm, { t with f := goF t.f (t.f.row - 1) (t.f.col) } = t1 := ⟨_, rfl⟩
  have hE2 : ({ t with f := goF t.f (t.f.row - 1) (t.f.col), waits := false } : Tm) = { t1 with waits := false } := by rw [← ht1]
  rw [hE2]
  have HC : Hid (∀ W, TmS w0 W B G N cap t → Calls Tryz.prog 93 #[.pointer (some ⟨B, 0, none⟩), .int .i64 (t.f.row + -1), .int .i64 (t.f.col)] W (TmD w0 W B G N cap t1)) := fun W hW => by
    have := goto_any (t.f.row - 1) (t.f.col) W hW (by rw [hrows]; omega) (by rw [hcols]; omega)
    rw [ht1] at this
    rwa [Int.sub_eq_add_neg] at this
  have wr_ : IntKind.i64.wrap (t.f.row + -1) = t.f.row + -1 := by rw [IntWalk.i64_in _ (by omega)]
  have wr2 : IntKind.i64.wrap (-(k : Int)) = -(k : Int) := by rw [IntWalk.i64_in _ (by omega)]
  obtain ⟨⟨_, _, _, x3, x4⟩, _, _, _⟩ := h.box.cells
  clear h hok hE hE2 hkk hkk2 hs ht1 hmx hk hN HP1 hk1
  go_enter Tryz.func60, Tryz.ntmps60
  go_wp2_with fail
  go_fit (HP.out _ (KeepW.refl _ _))
  rintro e w1 ⟨rfl, rfl⟩
  go_wp2_with fail
  all_goals first | (exfalso; omega) | skip
  go_still_tail 13, (by kernel_rfl)
  have HS2 : Hid (TmS w0 w1.drew B G N cap t) := HS.out.next (Below.refl _ _).drew
  change wpList _ _ _ _ _ w1.drew
  go_wp2_with fail
  go_fit (HC.out _ HS2.out)
  rintro e w3 ⟨rfl, h3, k3⟩
  have HS3 := Lib.hid h3
  have HK3 : Hid (KeepW (NotBG B G) w1 w3) := (keep_drew _ _).trans k3
  clear h3 k3 HS HS2 HC x3 x4
  obtain ⟨_, _, ⟨_, x10, _, _⟩, hf⟩ := HS3.out.box.cells
  have hlt := HS3.out.box.lt
  have f10 := hf 10
  obtain ⟨a1, a2⟩ := HS3.out.waits_ false
  have HZ := Lib.hid (And.intro a1 (HK3.out.trans a2))
  clear hf a1 a2 HS3 HK3
  go_wp2_with fail
  go_end0
  exact ⟨rfl, HZ.out.1, HZ.out.2⟩

set_option maxRecDepth 20000 in
set_option maxHeartbeats 8000000 in
theorem tseq_65n {m n : Nat} {v : Value} {l : List Nat} (w : World) (h : TmS w0 w B G N cap t) (hok : OkF t.f m n) (_hL : TBlankW w0) (hN : NumsW (NotBG B G) w v l) (hl : l.length ≤ 1000) (h9 : ∀ x ∈ l, x ≤ 9999) (hs : 1 < l.getD 0 0) :
    Calls Tryz.prog 60 #[.pointer (some ⟨B, 0, none⟩), .int .u8 65, v] w (TmD w0 w B G N cap (seqT t l 65)) := by
  have hm := hok.hm
  have hn := hok.hn
  have hrow := hok.row
  have hcol := hok.col
  have hrows := hok.rows
  have hcols := hok.cols
  have HS := Lib.hid h
  have HNN := Lib.hid hN
  have hk : ∀ i, l.getD i 0 ≤ 9999 := fun i => by
    rw [List.getD_eq_getElem?_getD]
    cases hi : l[i]? with
    | none => exact Nat.zero_le _
    | some x => exact h9 x (List.mem_of_getElem? hi)
  have hk0 := hk 0
  have hk1 := hk 1
  have HP : Hid (∀ W, KeepW (NotBG B G) w W → Calls Tryz.prog 94 #[v, .int .i64 0] W fun e w' => e = .returned (.int .i64 ((l.getD 0 0 : Nat) : Int)) ∧ w' = W) := fun W hW => param_any 0 W (hN.keep hW) (by omega) (by omega)
  have HP1 : Hid (∀ W, KeepW (NotBG B G) w W → Calls Tryz.prog 94 #[v, .int .i64 1] W fun e w' => e = .returned (.int .i64 ((l.getD 1 0 : Nat) : Int)) ∧ w' = W) := fun W hW => param_any 1 W (hN.keep hW) (by omega) (by omega)
  have hE : seqT t l 65 = { t with f := goF t.f (t.f.row - max 1 ((l.getD 0 0 : Nat) : Int)) t.f.col, waits := false } := by
    unfold seqT
    dsimp only
    rfl
  rw [hE]
  obtain ⟨k, hkk⟩ : ∃ k : Nat, l.getD 0 0 = k := ⟨_, rfl⟩
  obtain ⟨k2, hkk2⟩ : ∃ k : Nat, l.getD 1 0 = k := ⟨_, rfl⟩
  rw [hkk] at HP hk0 hs ⊢
  rw [hkk2] at HP1 hk1
  have hmx : max 1 (k : Int) = (k : Int) := by omega
  rw [hmx]
  have hs1 : (1 : Int) < (k : Int) := by omega
  have hs3 : ¬ (k : Int) ≤ 1 := by omega
  obtain ⟨t1, ht1⟩ : ∃ t1 : Tm, { t with f := goF t.f (t.f.row - (k : Int)) (t.f.col) } = t1 := ⟨_, rfl⟩
  have hE2 : ({ t with f := goF t.f (t.f.row - (k : Int)) (t.f.col), waits := false } : Tm) = { t1 with waits := false } := by rw [← ht1]
  rw [hE2]
  have HC : Hid (∀ W, TmS w0 W B G N cap t → Calls Tryz.prog 93 #[.pointer (some ⟨B, 0, none⟩), .int .i64 (t.f.row + -(k : Int)), .int .i64 (t.f.col)] W (TmD w0 W B G N cap t1)) := fun W hW => by
    have := goto_any (t.f.row - (k : Int)) (t.f.col) W hW (by rw [hrows]; omega) (by rw [hcols]; omega)
    rw [ht1] at this
    rwa [Int.sub_eq_add_neg] at this
  have wr_ : IntKind.i64.wrap (t.f.row + -(k : Int)) = t.f.row + -(k : Int) := by rw [IntWalk.i64_in _ (by omega)]
  have wr2 : IntKind.i64.wrap (-(k : Int)) = -(k : Int) := by rw [IntWalk.i64_in _ (by omega)]
  obtain ⟨⟨_, _, _, x3, x4⟩, _, _, _⟩ := h.box.cells
  clear h hok hE hE2 hkk hkk2 hs ht1 hmx hk hN HP1 hk1
  go_enter Tryz.func60, Tryz.ntmps60
  go_wp2_with fail
  go_fit (HP.out _ (KeepW.refl _ _))
  rintro e w1 ⟨rfl, rfl⟩
  go_wp2_with fail
  all_goals first | (exfalso; omega) | skip
  go_still_tail 13, (by kernel_rfl)
  have HS2 : Hid (TmS w0 w1.drew B G N cap t) := HS.out.next (Below.refl _ _).drew
  change wpList _ _ _ _ _ w1.drew
  go_wp2_with fail
  go_fit (HC.out _ HS2.out)
  rintro e w3 ⟨rfl, h3, k3⟩
  have HS3 := Lib.hid h3
  have HK3 : Hid (KeepW (NotBG B G) w1 w3) := (keep_drew _ _).trans k3
  clear h3 k3 HS HS2 HC x3 x4
  obtain ⟨_, _, ⟨_, x10, _, _⟩, hf⟩ := HS3.out.box.cells
  have hlt := HS3.out.box.lt
  have f10 := hf 10
  obtain ⟨a1, a2⟩ := HS3.out.waits_ false
  have HZ := Lib.hid (And.intro a1 (HK3.out.trans a2))
  clear hf a1 a2 HS3 HK3
  go_wp2_with fail
  go_end0
  exact ⟨rfl, HZ.out.1, HZ.out.2⟩

set_option maxRecDepth 20000 in
set_option maxHeartbeats 8000000 in
theorem tseq_661 {m n : Nat} {v : Value} {l : List Nat} (w : World) (h : TmS w0 w B G N cap t) (hok : OkF t.f m n) (_hL : TBlankW w0) (hN : NumsW (NotBG B G) w v l) (hl : l.length ≤ 1000) (h9 : ∀ x ∈ l, x ≤ 9999) (hs : l.getD 0 0 ≤ 1) :
    Calls Tryz.prog 60 #[.pointer (some ⟨B, 0, none⟩), .int .u8 66, v] w (TmD w0 w B G N cap (seqT t l 66)) := by
  have hm := hok.hm
  have hn := hok.hn
  have hrow := hok.row
  have hcol := hok.col
  have hrows := hok.rows
  have hcols := hok.cols
  have HS := Lib.hid h
  have HNN := Lib.hid hN
  have hk : ∀ i, l.getD i 0 ≤ 9999 := fun i => by
    rw [List.getD_eq_getElem?_getD]
    cases hi : l[i]? with
    | none => exact Nat.zero_le _
    | some x => exact h9 x (List.mem_of_getElem? hi)
  have hk0 := hk 0
  have hk1 := hk 1
  have HP : Hid (∀ W, KeepW (NotBG B G) w W → Calls Tryz.prog 94 #[v, .int .i64 0] W fun e w' => e = .returned (.int .i64 ((l.getD 0 0 : Nat) : Int)) ∧ w' = W) := fun W hW => param_any 0 W (hN.keep hW) (by omega) (by omega)
  have HP1 : Hid (∀ W, KeepW (NotBG B G) w W → Calls Tryz.prog 94 #[v, .int .i64 1] W fun e w' => e = .returned (.int .i64 ((l.getD 1 0 : Nat) : Int)) ∧ w' = W) := fun W hW => param_any 1 W (hN.keep hW) (by omega) (by omega)
  have hE : seqT t l 66 = { t with f := goF t.f (t.f.row + max 1 ((l.getD 0 0 : Nat) : Int)) t.f.col, waits := false } := by
    unfold seqT
    dsimp only
    rfl
  rw [hE]
  obtain ⟨k, hkk⟩ : ∃ k : Nat, l.getD 0 0 = k := ⟨_, rfl⟩
  obtain ⟨k2, hkk2⟩ : ∃ k : Nat, l.getD 1 0 = k := ⟨_, rfl⟩
  rw [hkk] at HP hk0 hs ⊢
  rw [hkk2] at HP1 hk1
  have hmx : max 1 (k : Int) = 1 := by omega
  rw [hmx]
  have hs1 : ¬ (1 : Int) < (k : Int) := by omega
  have hs3 : (k : Int) ≤ 1 := by omega
  obtain ⟨t1, ht1⟩ : ∃ t1 : Tm, { t with f := goF t.f (t.f.row + 1) (t.f.col) } = t1 := ⟨_, rfl⟩
  have hE2 : ({ t with f := goF t.f (t.f.row + 1) (t.f.col), waits := false } : Tm) = { t1 with waits := false } := by rw [← ht1]
  rw [hE2]
  have HC : Hid (∀ W, TmS w0 W B G N cap t → Calls Tryz.prog 93 #[.pointer (some ⟨B, 0, none⟩), .int .i64 (t.f.row + 1), .int .i64 (t.f.col)] W (TmD w0 W B G N cap t1)) := fun W hW => by
    have := goto_any (t.f.row + 1) (t.f.col) W hW (by rw [hrows]; omega) (by rw [hcols]; omega)
    rw [ht1] at this
    exact this
  have wr_ : IntKind.i64.wrap (t.f.row + 1) = t.f.row + 1 := by rw [IntWalk.i64_in _ (by omega)]
  have wr2 : IntKind.i64.wrap (-(k : Int)) = -(k : Int) := by rw [IntWalk.i64_in _ (by omega)]
  obtain ⟨⟨_, _, _, x3, x4⟩, _, _, _⟩ := h.box.cells
  clear h hok hE hE2 hkk hkk2 hs ht1 hmx hk hN HP1 hk1
  go_enter Tryz.func60, Tryz.ntmps60
  go_wp2_with fail
  go_fit (HP.out _ (KeepW.refl _ _))
  rintro e w1 ⟨rfl, rfl⟩
  go_wp2_with fail
  all_goals first | (exfalso; omega) | skip
  go_still_tail 13, (by kernel_rfl)
  have HS2 : Hid (TmS w0 w1.drew B G N cap t) := HS.out.next (Below.refl _ _).drew
  change wpList _ _ _ _ _ w1.drew
  go_wp2_with fail
  go_fit (HC.out _ HS2.out)
  rintro e w3 ⟨rfl, h3, k3⟩
  have HS3 := Lib.hid h3
  have HK3 : Hid (KeepW (NotBG B G) w1 w3) := (keep_drew _ _).trans k3
  clear h3 k3 HS HS2 HC x3 x4
  obtain ⟨_, _, ⟨_, x10, _, _⟩, hf⟩ := HS3.out.box.cells
  have hlt := HS3.out.box.lt
  have f10 := hf 10
  obtain ⟨a1, a2⟩ := HS3.out.waits_ false
  have HZ := Lib.hid (And.intro a1 (HK3.out.trans a2))
  clear hf a1 a2 HS3 HK3
  go_wp2_with fail
  go_end0
  exact ⟨rfl, HZ.out.1, HZ.out.2⟩

set_option maxRecDepth 20000 in
set_option maxHeartbeats 8000000 in
theorem tseq_66n {m n : Nat} {v : Value} {l : List Nat} (w : World) (h : TmS w0 w B G N cap t) (hok : OkF t.f m n) (_hL : TBlankW w0) (hN : NumsW (NotBG B G) w v l) (hl : l.length ≤ 1000) (h9 : ∀ x ∈ l, x ≤ 9999) (hs : 1 < l.getD 0 0) :
    Calls Tryz.prog 60 #[.pointer (some ⟨B, 0, none⟩), .int .u8 66, v] w (TmD w0 w B G N cap (seqT t l 66)) := by
  have hm := hok.hm
  have hn := hok.hn
  have hrow := hok.row
  have hcol := hok.col
  have hrows := hok.rows
  have hcols := hok.cols
  have HS := Lib.hid h
  have HNN := Lib.hid hN
  have hk : ∀ i, l.getD i 0 ≤ 9999 := fun i => by
    rw [List.getD_eq_getElem?_getD]
    cases hi : l[i]? with
    | none => exact Nat.zero_le _
    | some x => exact h9 x (List.mem_of_getElem? hi)
  have hk0 := hk 0
  have hk1 := hk 1
  have HP : Hid (∀ W, KeepW (NotBG B G) w W → Calls Tryz.prog 94 #[v, .int .i64 0] W fun e w' => e = .returned (.int .i64 ((l.getD 0 0 : Nat) : Int)) ∧ w' = W) := fun W hW => param_any 0 W (hN.keep hW) (by omega) (by omega)
  have HP1 : Hid (∀ W, KeepW (NotBG B G) w W → Calls Tryz.prog 94 #[v, .int .i64 1] W fun e w' => e = .returned (.int .i64 ((l.getD 1 0 : Nat) : Int)) ∧ w' = W) := fun W hW => param_any 1 W (hN.keep hW) (by omega) (by omega)
  have hE : seqT t l 66 = { t with f := goF t.f (t.f.row + max 1 ((l.getD 0 0 : Nat) : Int)) t.f.col, waits := false } := by
    unfold seqT
    dsimp only
    rfl
  rw [hE]
  obtain ⟨k, hkk⟩ : ∃ k : Nat, l.getD 0 0 = k := ⟨_, rfl⟩
  obtain ⟨k2, hkk2⟩ : ∃ k : Nat, l.getD 1 0 = k := ⟨_, rfl⟩
  rw [hkk] at HP hk0 hs ⊢
  rw [hkk2] at HP1 hk1
  have hmx : max 1 (k : Int) = (k : Int) := by omega
  rw [hmx]
  have hs1 : (1 : Int) < (k : Int) := by omega
  have hs3 : ¬ (k : Int) ≤ 1 := by omega
  obtain ⟨t1, ht1⟩ : ∃ t1 : Tm, { t with f := goF t.f (t.f.row + (k : Int)) (t.f.col) } = t1 := ⟨_, rfl⟩
  have hE2 : ({ t with f := goF t.f (t.f.row + (k : Int)) (t.f.col), waits := false } : Tm) = { t1 with waits := false } := by rw [← ht1]
  rw [hE2]
  have HC : Hid (∀ W, TmS w0 W B G N cap t → Calls Tryz.prog 93 #[.pointer (some ⟨B, 0, none⟩), .int .i64 (t.f.row + (k : Int)), .int .i64 (t.f.col)] W (TmD w0 W B G N cap t1)) := fun W hW => by
    have := goto_any (t.f.row + (k : Int)) (t.f.col) W hW (by rw [hrows]; omega) (by rw [hcols]; omega)
    rw [ht1] at this
    exact this
  have wr_ : IntKind.i64.wrap (t.f.row + (k : Int)) = t.f.row + (k : Int) := by rw [IntWalk.i64_in _ (by omega)]
  have wr2 : IntKind.i64.wrap (-(k : Int)) = -(k : Int) := by rw [IntWalk.i64_in _ (by omega)]
  obtain ⟨⟨_, _, _, x3, x4⟩, _, _, _⟩ := h.box.cells
  clear h hok hE hE2 hkk hkk2 hs ht1 hmx hk hN HP1 hk1
  go_enter Tryz.func60, Tryz.ntmps60
  go_wp2_with fail
  go_fit (HP.out _ (KeepW.refl _ _))
  rintro e w1 ⟨rfl, rfl⟩
  go_wp2_with fail
  all_goals first | (exfalso; omega) | skip
  go_still_tail 13, (by kernel_rfl)
  have HS2 : Hid (TmS w0 w1.drew B G N cap t) := HS.out.next (Below.refl _ _).drew
  change wpList _ _ _ _ _ w1.drew
  go_wp2_with fail
  go_fit (HC.out _ HS2.out)
  rintro e w3 ⟨rfl, h3, k3⟩
  have HS3 := Lib.hid h3
  have HK3 : Hid (KeepW (NotBG B G) w1 w3) := (keep_drew _ _).trans k3
  clear h3 k3 HS HS2 HC x3 x4
  obtain ⟨_, _, ⟨_, x10, _, _⟩, hf⟩ := HS3.out.box.cells
  have hlt := HS3.out.box.lt
  have f10 := hf 10
  obtain ⟨a1, a2⟩ := HS3.out.waits_ false
  have HZ := Lib.hid (And.intro a1 (HK3.out.trans a2))
  clear hf a1 a2 HS3 HK3
  go_wp2_with fail
  go_end0
  exact ⟨rfl, HZ.out.1, HZ.out.2⟩

set_option maxRecDepth 20000 in
set_option maxHeartbeats 8000000 in
theorem tseq_671 {m n : Nat} {v : Value} {l : List Nat} (w : World) (h : TmS w0 w B G N cap t) (hok : OkF t.f m n) (_hL : TBlankW w0) (hN : NumsW (NotBG B G) w v l) (hl : l.length ≤ 1000) (h9 : ∀ x ∈ l, x ≤ 9999) (hs : l.getD 0 0 ≤ 1) :
    Calls Tryz.prog 60 #[.pointer (some ⟨B, 0, none⟩), .int .u8 67, v] w (TmD w0 w B G N cap (seqT t l 67)) := by
  have hm := hok.hm
  have hn := hok.hn
  have hrow := hok.row
  have hcol := hok.col
  have hrows := hok.rows
  have hcols := hok.cols
  have HS := Lib.hid h
  have HNN := Lib.hid hN
  have hk : ∀ i, l.getD i 0 ≤ 9999 := fun i => by
    rw [List.getD_eq_getElem?_getD]
    cases hi : l[i]? with
    | none => exact Nat.zero_le _
    | some x => exact h9 x (List.mem_of_getElem? hi)
  have hk0 := hk 0
  have hk1 := hk 1
  have HP : Hid (∀ W, KeepW (NotBG B G) w W → Calls Tryz.prog 94 #[v, .int .i64 0] W fun e w' => e = .returned (.int .i64 ((l.getD 0 0 : Nat) : Int)) ∧ w' = W) := fun W hW => param_any 0 W (hN.keep hW) (by omega) (by omega)
  have HP1 : Hid (∀ W, KeepW (NotBG B G) w W → Calls Tryz.prog 94 #[v, .int .i64 1] W fun e w' => e = .returned (.int .i64 ((l.getD 1 0 : Nat) : Int)) ∧ w' = W) := fun W hW => param_any 1 W (hN.keep hW) (by omega) (by omega)
  have hE : seqT t l 67 = { t with f := goF t.f t.f.row (t.f.col + max 1 ((l.getD 0 0 : Nat) : Int)), waits := false } := by
    unfold seqT
    dsimp only
    rfl
  rw [hE]
  obtain ⟨k, hkk⟩ : ∃ k : Nat, l.getD 0 0 = k := ⟨_, rfl⟩
  obtain ⟨k2, hkk2⟩ : ∃ k : Nat, l.getD 1 0 = k := ⟨_, rfl⟩
  rw [hkk] at HP hk0 hs ⊢
  rw [hkk2] at HP1 hk1
  have hmx : max 1 (k : Int) = 1 := by omega
  rw [hmx]
  have hs1 : ¬ (1 : Int) < (k : Int) := by omega
  have hs3 : (k : Int) ≤ 1 := by omega
  obtain ⟨t1, ht1⟩ : ∃ t1 : Tm, { t with f := goF t.f (t.f.row) (t.f.col + 1) } = t1 := ⟨_, rfl⟩
  have hE2 : ({ t with f := goF t.f (t.f.row) (t.f.col + 1), waits := false } : Tm) = { t1 with waits := false } := by rw [← ht1]
  rw [hE2]
  have HC : Hid (∀ W, TmS w0 W B G N cap t → Calls Tryz.prog 93 #[.pointer (some ⟨B, 0, none⟩), .int .i64 (t.f.row), .int .i64 (t.f.col + 1)] W (TmD w0 W B G N cap t1)) := fun W hW => by
    have := goto_any (t.f.row) (t.f.col + 1) W hW (by rw [hrows]; omega) (by rw [hcols]; omega)
    rw [ht1] at this
    exact this
  have wr_ : IntKind.i64.wrap (t.f.col + 1) = t.f.col + 1 := by rw [IntWalk.i64_in _ (by omega)]
  have wr2 : IntKind.i64.wrap (-(k : Int)) = -(k : Int) := by rw [IntWalk.i64_in _ (by omega)]
  obtain ⟨⟨_, _, _, x3, x4⟩, _, _, _⟩ := h.box.cells
  clear h hok hE hE2 hkk hkk2 hs ht1 hmx hk hN HP1 hk1
  go_enter Tryz.func60, Tryz.ntmps60
  go_wp2_with fail
  go_fit (HP.out _ (KeepW.refl _ _))
  rintro e w1 ⟨rfl, rfl⟩
  go_wp2_with fail
  all_goals first | (exfalso; omega) | skip
  go_still_tail 13, (by kernel_rfl)
  have HS2 : Hid (TmS w0 w1.drew B G N cap t) := HS.out.next (Below.refl _ _).drew
  change wpList _ _ _ _ _ w1.drew
  go_wp2_with fail
  go_fit (HC.out _ HS2.out)
  rintro e w3 ⟨rfl, h3, k3⟩
  have HS3 := Lib.hid h3
  have HK3 : Hid (KeepW (NotBG B G) w1 w3) := (keep_drew _ _).trans k3
  clear h3 k3 HS HS2 HC x3 x4
  obtain ⟨_, _, ⟨_, x10, _, _⟩, hf⟩ := HS3.out.box.cells
  have hlt := HS3.out.box.lt
  have f10 := hf 10
  obtain ⟨a1, a2⟩ := HS3.out.waits_ false
  have HZ := Lib.hid (And.intro a1 (HK3.out.trans a2))
  clear hf a1 a2 HS3 HK3
  go_wp2_with fail
  go_end0
  exact ⟨rfl, HZ.out.1, HZ.out.2⟩

set_option maxRecDepth 20000 in
set_option maxHeartbeats 8000000 in
theorem tseq_67n {m n : Nat} {v : Value} {l : List Nat} (w : World) (h : TmS w0 w B G N cap t) (hok : OkF t.f m n) (_hL : TBlankW w0) (hN : NumsW (NotBG B G) w v l) (hl : l.length ≤ 1000) (h9 : ∀ x ∈ l, x ≤ 9999) (hs : 1 < l.getD 0 0) :
    Calls Tryz.prog 60 #[.pointer (some ⟨B, 0, none⟩), .int .u8 67, v] w (TmD w0 w B G N cap (seqT t l 67)) := by
  have hm := hok.hm
  have hn := hok.hn
  have hrow := hok.row
  have hcol := hok.col
  have hrows := hok.rows
  have hcols := hok.cols
  have HS := Lib.hid h
  have HNN := Lib.hid hN
  have hk : ∀ i, l.getD i 0 ≤ 9999 := fun i => by
    rw [List.getD_eq_getElem?_getD]
    cases hi : l[i]? with
    | none => exact Nat.zero_le _
    | some x => exact h9 x (List.mem_of_getElem? hi)
  have hk0 := hk 0
  have hk1 := hk 1
  have HP : Hid (∀ W, KeepW (NotBG B G) w W → Calls Tryz.prog 94 #[v, .int .i64 0] W fun e w' => e = .returned (.int .i64 ((l.getD 0 0 : Nat) : Int)) ∧ w' = W) := fun W hW => param_any 0 W (hN.keep hW) (by omega) (by omega)
  have HP1 : Hid (∀ W, KeepW (NotBG B G) w W → Calls Tryz.prog 94 #[v, .int .i64 1] W fun e w' => e = .returned (.int .i64 ((l.getD 1 0 : Nat) : Int)) ∧ w' = W) := fun W hW => param_any 1 W (hN.keep hW) (by omega) (by omega)
  have hE : seqT t l 67 = { t with f := goF t.f t.f.row (t.f.col + max 1 ((l.getD 0 0 : Nat) : Int)), waits := false } := by
    unfold seqT
    dsimp only
    rfl
  rw [hE]
  obtain ⟨k, hkk⟩ : ∃ k : Nat, l.getD 0 0 = k := ⟨_, rfl⟩
  obtain ⟨k2, hkk2⟩ : ∃ k : Nat, l.getD 1 0 = k := ⟨_, rfl⟩
  rw [hkk] at HP hk0 hs ⊢
  rw [hkk2] at HP1 hk1
  have hmx : max 1 (k : Int) = (k : Int) := by omega
  rw [hmx]
  have hs1 : (1 : Int) < (k : Int) := by omega
  have hs3 : ¬ (k : Int) ≤ 1 := by omega
  obtain ⟨t1, ht1⟩ : ∃ t1 : Tm, { t with f := goF t.f (t.f.row) (t.f.col + (k : Int)) } = t1 := ⟨_, rfl⟩
  have hE2 : ({ t with f := goF t.f (t.f.row) (t.f.col + (k : Int)), waits := false } : Tm) = { t1 with waits := false } := by rw [← ht1]
  rw [hE2]
  have HC : Hid (∀ W, TmS w0 W B G N cap t → Calls Tryz.prog 93 #[.pointer (some ⟨B, 0, none⟩), .int .i64 (t.f.row), .int .i64 (t.f.col + (k : Int))] W (TmD w0 W B G N cap t1)) := fun W hW => by
    have := goto_any (t.f.row) (t.f.col + (k : Int)) W hW (by rw [hrows]; omega) (by rw [hcols]; omega)
    rw [ht1] at this
    exact this
  have wr_ : IntKind.i64.wrap (t.f.col + (k : Int)) = t.f.col + (k : Int) := by rw [IntWalk.i64_in _ (by omega)]
  have wr2 : IntKind.i64.wrap (-(k : Int)) = -(k : Int) := by rw [IntWalk.i64_in _ (by omega)]
  obtain ⟨⟨_, _, _, x3, x4⟩, _, _, _⟩ := h.box.cells
  clear h hok hE hE2 hkk hkk2 hs ht1 hmx hk hN HP1 hk1
  go_enter Tryz.func60, Tryz.ntmps60
  go_wp2_with fail
  go_fit (HP.out _ (KeepW.refl _ _))
  rintro e w1 ⟨rfl, rfl⟩
  go_wp2_with fail
  all_goals first | (exfalso; omega) | skip
  go_still_tail 13, (by kernel_rfl)
  have HS2 : Hid (TmS w0 w1.drew B G N cap t) := HS.out.next (Below.refl _ _).drew
  change wpList _ _ _ _ _ w1.drew
  go_wp2_with fail
  go_fit (HC.out _ HS2.out)
  rintro e w3 ⟨rfl, h3, k3⟩
  have HS3 := Lib.hid h3
  have HK3 : Hid (KeepW (NotBG B G) w1 w3) := (keep_drew _ _).trans k3
  clear h3 k3 HS HS2 HC x3 x4
  obtain ⟨_, _, ⟨_, x10, _, _⟩, hf⟩ := HS3.out.box.cells
  have hlt := HS3.out.box.lt
  have f10 := hf 10
  obtain ⟨a1, a2⟩ := HS3.out.waits_ false
  have HZ := Lib.hid (And.intro a1 (HK3.out.trans a2))
  clear hf a1 a2 HS3 HK3
  go_wp2_with fail
  go_end0
  exact ⟨rfl, HZ.out.1, HZ.out.2⟩

set_option maxRecDepth 20000 in
set_option maxHeartbeats 8000000 in
theorem tseq_681 {m n : Nat} {v : Value} {l : List Nat} (w : World) (h : TmS w0 w B G N cap t) (hok : OkF t.f m n) (_hL : TBlankW w0) (hN : NumsW (NotBG B G) w v l) (hl : l.length ≤ 1000) (h9 : ∀ x ∈ l, x ≤ 9999) (hs : l.getD 0 0 ≤ 1) :
    Calls Tryz.prog 60 #[.pointer (some ⟨B, 0, none⟩), .int .u8 68, v] w (TmD w0 w B G N cap (seqT t l 68)) := by
  have hm := hok.hm
  have hn := hok.hn
  have hrow := hok.row
  have hcol := hok.col
  have hrows := hok.rows
  have hcols := hok.cols
  have HS := Lib.hid h
  have HNN := Lib.hid hN
  have hk : ∀ i, l.getD i 0 ≤ 9999 := fun i => by
    rw [List.getD_eq_getElem?_getD]
    cases hi : l[i]? with
    | none => exact Nat.zero_le _
    | some x => exact h9 x (List.mem_of_getElem? hi)
  have hk0 := hk 0
  have hk1 := hk 1
  have HP : Hid (∀ W, KeepW (NotBG B G) w W → Calls Tryz.prog 94 #[v, .int .i64 0] W fun e w' => e = .returned (.int .i64 ((l.getD 0 0 : Nat) : Int)) ∧ w' = W) := fun W hW => param_any 0 W (hN.keep hW) (by omega) (by omega)
  have HP1 : Hid (∀ W, KeepW (NotBG B G) w W → Calls Tryz.prog 94 #[v, .int .i64 1] W fun e w' => e = .returned (.int .i64 ((l.getD 1 0 : Nat) : Int)) ∧ w' = W) := fun W hW => param_any 1 W (hN.keep hW) (by omega) (by omega)
  have hE : seqT t l 68 = { t with f := goF t.f t.f.row (t.f.col - max 1 ((l.getD 0 0 : Nat) : Int)), waits := false } := by
    unfold seqT
    dsimp only
    rfl
  rw [hE]
  obtain ⟨k, hkk⟩ : ∃ k : Nat, l.getD 0 0 = k := ⟨_, rfl⟩
  obtain ⟨k2, hkk2⟩ : ∃ k : Nat, l.getD 1 0 = k := ⟨_, rfl⟩
  rw [hkk] at HP hk0 hs ⊢
  rw [hkk2] at HP1 hk1
  have hmx : max 1 (k : Int) = 1 := by omega
  rw [hmx]
  have hs1 : ¬ (1 : Int) < (k : Int) := by omega
  have hs3 : (k : Int) ≤ 1 := by omega
  obtain ⟨t1, ht1⟩ : ∃ t1 : Tm, { t with f := goF t.f (t.f.row) (t.f.col - 1) } = t1 := ⟨_, rfl⟩
  have hE2 : ({ t with f := goF t.f (t.f.row) (t.f.col - 1), waits := false } : Tm) = { t1 with waits := false } := by rw [← ht1]
  rw [hE2]
  have HC : Hid (∀ W, TmS w0 W B G N cap t → Calls Tryz.prog 93 #[.pointer (some ⟨B, 0, none⟩), .int .i64 (t.f.row), .int .i64 (t.f.col + -1)] W (TmD w0 W B G N cap t1)) := fun W hW => by
    have := goto_any (t.f.row) (t.f.col - 1) W hW (by rw [hrows]; omega) (by rw [hcols]; omega)
    rw [ht1] at this
    rwa [Int.sub_eq_add_neg] at this
  have wr_ : IntKind.i64.wrap (t.f.col + -1) = t.f.col + -1 := by rw [IntWalk.i64_in _ (by omega)]
  have wr2 : IntKind.i64.wrap (-(k : Int)) = -(k : Int) := by rw [IntWalk.i64_in _ (by omega)]
  obtain ⟨⟨_, _, _, x3, x4⟩, _, _, _⟩ := h.box.cells
  clear h hok hE hE2 hkk hkk2 hs ht1 hmx hk hN HP1 hk1
  go_enter Tryz.func60, Tryz.ntmps60
  go_wp2_with fail
  go_fit (HP.out _ (KeepW.refl _ _))
  rintro e w1 ⟨rfl, rfl⟩
  go_wp2_with fail
  all_goals first | (exfalso; omega) | skip
  go_still_tail 13, (by kernel_rfl)
  have HS2 : Hid (TmS w0 w1.drew B G N cap t) := HS.out.next (Below.refl _ _).drew
  change wpList _ _ _ _ _ w1.drew
  go_wp2_with fail
  go_fit (HC.out _ HS2.out)
  rintro e w3 ⟨rfl, h3, k3⟩
  have HS3 := Lib.hid h3
  have HK3 : Hid (KeepW (NotBG B G) w1 w3) := (keep_drew _ _).trans k3
  clear h3 k3 HS HS2 HC x3 x4
  obtain ⟨_, _, ⟨_, x10, _, _⟩, hf⟩ := HS3.out.box.cells
  have hlt := HS3.out.box.lt
  have f10 := hf 10
  obtain ⟨a1, a2⟩ := HS3.out.waits_ false
  have HZ := Lib.hid (And.intro a1 (HK3.out.trans a2))
  clear hf a1 a2 HS3 HK3
  go_wp2_with fail
  go_end0
  exact ⟨rfl, HZ.out.1, HZ.out.2⟩

set_option maxRecDepth 20000 in
set_option maxHeartbeats 8000000 in
theorem tseq_68n {m n : Nat} {v : Value} {l : List Nat} (w : World) (h : TmS w0 w B G N cap t) (hok : OkF t.f m n) (_hL : TBlankW w0) (hN : NumsW (NotBG B G) w v l) (hl : l.length ≤ 1000) (h9 : ∀ x ∈ l, x ≤ 9999) (hs : 1 < l.getD 0 0) :
    Calls Tryz.prog 60 #[.pointer (some ⟨B, 0, none⟩), .int .u8 68, v] w (TmD w0 w B G N cap (seqT t l 68)) := by
  have hm := hok.hm
  have hn := hok.hn
  have hrow := hok.row
  have hcol := hok.col
  have hrows := hok.rows
  have hcols := hok.cols
  have HS := Lib.hid h
  have HNN := Lib.hid hN
  have hk : ∀ i, l.getD i 0 ≤ 9999 := fun i => by
    rw [List.getD_eq_getElem?_getD]
    cases hi : l[i]? with
    | none => exact Nat.zero_le _
    | some x => exact h9 x (List.mem_of_getElem? hi)
  have hk0 := hk 0
  have hk1 := hk 1
  have HP : Hid (∀ W, KeepW (NotBG B G) w W → Calls Tryz.prog 94 #[v, .int .i64 0] W fun e w' => e = .returned (.int .i64 ((l.getD 0 0 : Nat) : Int)) ∧ w' = W) := fun W hW => param_any 0 W (hN.keep hW) (by omega) (by omega)
  have HP1 : Hid (∀ W, KeepW (NotBG B G) w W → Calls Tryz.prog 94 #[v, .int .i64 1] W fun e w' => e = .returned (.int .i64 ((l.getD 1 0 : Nat) : Int)) ∧ w' = W) := fun W hW => param_any 1 W (hN.keep hW) (by omega) (by omega)
  have hE : seqT t l 68 = { t with f := goF t.f t.f.row (t.f.col - max 1 ((l.getD 0 0 : Nat) : Int)), waits := false } := by
    unfold seqT
    dsimp only
    rfl
  rw [hE]
  obtain ⟨k, hkk⟩ : ∃ k : Nat, l.getD 0 0 = k := ⟨_, rfl⟩
  obtain ⟨k2, hkk2⟩ : ∃ k : Nat, l.getD 1 0 = k := ⟨_, rfl⟩
  rw [hkk] at HP hk0 hs ⊢
  rw [hkk2] at HP1 hk1
  have hmx : max 1 (k : Int) = (k : Int) := by omega
  rw [hmx]
  have hs1 : (1 : Int) < (k : Int) := by omega
  have hs3 : ¬ (k : Int) ≤ 1 := by omega
  obtain ⟨t1, ht1⟩ : ∃ t1 : Tm, { t with f := goF t.f (t.f.row) (t.f.col - (k : Int)) } = t1 := ⟨_, rfl⟩
  have hE2 : ({ t with f := goF t.f (t.f.row) (t.f.col - (k : Int)), waits := false } : Tm) = { t1 with waits := false } := by rw [← ht1]
  rw [hE2]
  have HC : Hid (∀ W, TmS w0 W B G N cap t → Calls Tryz.prog 93 #[.pointer (some ⟨B, 0, none⟩), .int .i64 (t.f.row), .int .i64 (t.f.col + -(k : Int))] W (TmD w0 W B G N cap t1)) := fun W hW => by
    have := goto_any (t.f.row) (t.f.col - (k : Int)) W hW (by rw [hrows]; omega) (by rw [hcols]; omega)
    rw [ht1] at this
    rwa [Int.sub_eq_add_neg] at this
  have wr_ : IntKind.i64.wrap (t.f.col + -(k : Int)) = t.f.col + -(k : Int) := by rw [IntWalk.i64_in _ (by omega)]
  have wr2 : IntKind.i64.wrap (-(k : Int)) = -(k : Int) := by rw [IntWalk.i64_in _ (by omega)]
  obtain ⟨⟨_, _, _, x3, x4⟩, _, _, _⟩ := h.box.cells
  clear h hok hE hE2 hkk hkk2 hs ht1 hmx hk hN HP1 hk1
  go_enter Tryz.func60, Tryz.ntmps60
  go_wp2_with fail
  go_fit (HP.out _ (KeepW.refl _ _))
  rintro e w1 ⟨rfl, rfl⟩
  go_wp2_with fail
  all_goals first | (exfalso; omega) | skip
  go_still_tail 13, (by kernel_rfl)
  have HS2 : Hid (TmS w0 w1.drew B G N cap t) := HS.out.next (Below.refl _ _).drew
  change wpList _ _ _ _ _ w1.drew
  go_wp2_with fail
  go_fit (HC.out _ HS2.out)
  rintro e w3 ⟨rfl, h3, k3⟩
  have HS3 := Lib.hid h3
  have HK3 : Hid (KeepW (NotBG B G) w1 w3) := (keep_drew _ _).trans k3
  clear h3 k3 HS HS2 HC x3 x4
  obtain ⟨_, _, ⟨_, x10, _, _⟩, hf⟩ := HS3.out.box.cells
  have hlt := HS3.out.box.lt
  have f10 := hf 10
  obtain ⟨a1, a2⟩ := HS3.out.waits_ false
  have HZ := Lib.hid (And.intro a1 (HK3.out.trans a2))
  clear hf a1 a2 HS3 HK3
  go_wp2_with fail
  go_end0
  exact ⟨rfl, HZ.out.1, HZ.out.2⟩

set_option maxRecDepth 20000 in
set_option maxHeartbeats 8000000 in
theorem tseq_72 {m n : Nat} {v : Value} {l : List Nat} (w : World) (h : TmS w0 w B G N cap t) (hok : OkF t.f m n) (_hL : TBlankW w0) (hN : NumsW (NotBG B G) w v l) (hl : l.length ≤ 1000) (h9 : ∀ x ∈ l, x ≤ 9999) :
    Calls Tryz.prog 60 #[.pointer (some ⟨B, 0, none⟩), .int .u8 72, v] w (TmD w0 w B G N cap (seqT t l 72)) := by
  have hm := hok.hm
  have hn := hok.hn
  have hrow := hok.row
  have hcol := hok.col
  have hrows := hok.rows
  have hcols := hok.cols
  have HS := Lib.hid h
  have HNN := Lib.hid hN
  have hk : ∀ i, l.getD i 0 ≤ 9999 := fun i => by
    rw [List.getD_eq_getElem?_getD]
    cases hi : l[i]? with
    | none => exact Nat.zero_le _
    | some x => exact h9 x (List.mem_of_getElem? hi)
  have hk0 := hk 0
  have hk1 := hk 1
  have HP : Hid (∀ W, KeepW (NotBG B G) w W → Calls Tryz.prog 94 #[v, .int .i64 0] W fun e w' => e = .returned (.int .i64 ((l.getD 0 0 : Nat) : Int)) ∧ w' = W) := fun W hW => param_any 0 W (hN.keep hW) (by omega) (by omega)
  have HP1 : Hid (∀ W, KeepW (NotBG B G) w W → Calls Tryz.prog 94 #[v, .int .i64 1] W fun e w' => e = .returned (.int .i64 ((l.getD 1 0 : Nat) : Int)) ∧ w' = W) := fun W hW => param_any 1 W (hN.keep hW) (by omega) (by omega)
  have hE : seqT t l 72 = { t with f := goF t.f (((l.getD 0 0 : Nat) : Int) - 1) (((l.getD 1 0 : Nat) : Int) - 1), waits := false } := by
    unfold seqT
    dsimp only
    rfl
  rw [hE]
  obtain ⟨k, hkk⟩ : ∃ k : Nat, l.getD 0 0 = k := ⟨_, rfl⟩
  obtain ⟨k2, hkk2⟩ : ∃ k : Nat, l.getD 1 0 = k := ⟨_, rfl⟩
  rw [hkk] at HP hk0 ⊢
  rw [hkk2] at HP1 hk1 ⊢
  obtain ⟨t1, ht1⟩ : ∃ t1 : Tm, { t with f := goF t.f ((k : Int) - 1) ((k2 : Int) - 1) } = t1 := ⟨_, rfl⟩
  have hE2 : ({ t with f := goF t.f ((k : Int) - 1) ((k2 : Int) - 1), waits := false } : Tm) = { t1 with waits := false } := by rw [← ht1]
  rw [hE2]
  have HC : Hid (∀ W, TmS w0 W B G N cap t → Calls Tryz.prog 93 #[.pointer (some ⟨B, 0, none⟩), .int .i64 ((k : Int) - 1), .int .i64 ((k2 : Int) - 1)] W (TmD w0 W B G N cap t1)) := fun W hW => by
    have := goto_any ((k : Int) - 1) ((k2 : Int) - 1) W hW (by rw [hrows]; omega) (by rw [hcols]; omega)
    rwa [ht1] at this
  clear h hok hE hE2 hkk hkk2 ht1 hk hN
  go_enter Tryz.func60, Tryz.ntmps60
  go_wp2_with fail
  go_fit (HP.out _ (KeepW.refl _ _))
  rintro e w1 ⟨rfl, rfl⟩
  go_wp2_with fail
  all_goals
    go_fit (HP1.out _ (KeepW.refl _ _))
    rintro e w2 ⟨rfl, rfl⟩
    go_wp2_with fail
    go_fit (HC.out _ HS.out)
    rintro e w3 ⟨rfl, h3, k3⟩
    have HS3 := Lib.hid h3
    have HK3 := Lib.hid k3
    clear h3 k3
    obtain ⟨_, _, ⟨_, x10, _, _⟩, hf⟩ := HS3.out.box.cells
    have hlt := HS3.out.box.lt
    have f10 := hf 10
    obtain ⟨a1, a2⟩ := HS3.out.waits_ false
    have HZ := Lib.hid (And.intro a1 (HK3.out.trans a2))
    clear hf a1 a2 HS3 HK3
    go_wp2_with fail
    go_end0
    exact ⟨rfl, HZ.out.1, HZ.out.2⟩

set_option maxRecDepth 20000 in
set_option maxHeartbeats 8000000 in
theorem tseq_74 {m n : Nat} {v : Value} {l : List Nat} (w : World) (h : TmS w0 w B G N cap t) (hok : OkF t.f m n) (hL : TBlankW w0) (hN : NumsW (NotBG B G) w v l) (hl : l.length ≤ 1000) (h9 : ∀ x ∈ l, x ≤ 9999) :
    Calls Tryz.prog 60 #[.pointer (some ⟨B, 0, none⟩), .int .u8 74, v] w (TmD w0 w B G N cap (seqT t l 74)) := by
  have hm := hok.hm
  have hn := hok.hn
  have hrow := hok.row
  have hcol := hok.col
  have hrows := hok.rows
  have hcols := hok.cols
  have HS := Lib.hid h
  have HNN := Lib.hid hN
  have hk : ∀ i, l.getD i 0 ≤ 9999 := fun i => by
    rw [List.getD_eq_getElem?_getD]
    cases hi : l[i]? with
    | none => exact Nat.zero_le _
    | some x => exact h9 x (List.mem_of_getElem? hi)
  have hk0 := hk 0
  have hk1 := hk 1
  have HP : Hid (∀ W, KeepW (NotBG B G) w W → Calls Tryz.prog 94 #[v, .int .i64 0] W fun e w' => e = .returned (.int .i64 ((l.getD 0 0 : Nat) : Int)) ∧ w' = W) := fun W hW => param_any 0 W (hN.keep hW) (by omega) (by omega)
  have HP1 : Hid (∀ W, KeepW (NotBG B G) w W → Calls Tryz.prog 94 #[v, .int .i64 1] W fun e w' => e = .returned (.int .i64 ((l.getD 1 0 : Nat) : Int)) ∧ w' = W) := fun W hW => param_any 1 W (hN.keep hW) (by omega) (by omega)
  have hE : seqT t l 74 = { t with f := rowE (rowsE t.f (l.getD 0 0)) (l.getD 0 0), waits := false } := by
    unfold seqT
    dsimp only
    rfl
  rw [hE]
  obtain ⟨k, hkk⟩ : ∃ k : Nat, l.getD 0 0 = k := ⟨_, rfl⟩
  obtain ⟨k2, hkk2⟩ : ∃ k : Nat, l.getD 1 0 = k := ⟨_, rfl⟩
  rw [hkk] at HP hk0 ⊢
  rw [hkk2] at HP1 hk1
  obtain ⟨t1, ht1⟩ : ∃ t1 : Tm, { t with f := rowE (rowsE t.f k) k } = t1 := ⟨_, rfl⟩
  have hE2 : ({ t with f := rowE (rowsE t.f k) k, waits := false } : Tm) = { t1 with waits := false } := by rw [← ht1]
  rw [hE2]
  obtain ⟨t2, ht2⟩ : ∃ t2 : Tm, { t with f := rowsE t.f k } = t2 := ⟨_, rfl⟩
  have hok2 : OkF t2.f m n := by rw [← ht2]; exact rowsE_ok hok k
  have HC2 : Hid (∀ W, TmS w0 W B G N cap t → Calls Tryz.prog 95 #[.pointer (some ⟨B, 0, none⟩), .int .i64 (k : Int)] W (TmD w0 W B G N cap t2)) := fun W hW => by
    have := trowsE_any k W hW hok hL
    rwa [ht2] at this
  have HC : Hid (∀ W, TmS w0 W B G N cap t2 → Calls Tryz.prog 96 #[.pointer (some ⟨B, 0, none⟩), .int .i64 (k : Int)] W (TmD w0 W B G N cap t1)) := fun W hW => by
    have := trowE_any k W hW hok2 hL
    have e : ({ t2 with f := rowE t2.f k } : Tm) = t1 := by rw [← ht2, ← ht1]
    rwa [e] at this
  clear ht2 hok2
  clear h hok hL hE hE2 hkk hkk2 ht1 hk hN HP1 hk1
  go_enter Tryz.func60, Tryz.ntmps60
  go_wp2_with fail
  go_fit (HP.out _ (KeepW.refl _ _))
  rintro e w1 ⟨rfl, rfl⟩
  go_wp2_with fail
  all_goals
    go_fit (HC2.out _ HS.out)
    rintro e w2 ⟨rfl, h2, k2'⟩
    have HS2 := Lib.hid h2
    have HK2 := Lib.hid k2'
    clear h2 k2'
    go_wp2_with fail
    go_fit (HC.out _ HS2.out)
    rintro e w3 ⟨rfl, h3, k3⟩
    have HS3 := Lib.hid h3
    have HK3 : Hid (KeepW (NotBG B G) w1 w3) := HK2.out.trans k3
    clear h3 k3 HS2 HK2
    obtain ⟨_, _, ⟨_, x10, _, _⟩, hf⟩ := HS3.out.box.cells
    have hlt := HS3.out.box.lt
    have f10 := hf 10
    obtain ⟨a1, a2⟩ := HS3.out.waits_ false
    have HZ := Lib.hid (And.intro a1 (HK3.out.trans a2))
    clear hf a1 a2 HS3 HK3
    go_wp2_with fail
    go_end0
    exact ⟨rfl, HZ.out.1, HZ.out.2⟩

set_option maxRecDepth 20000 in
set_option maxHeartbeats 8000000 in
theorem tseq_75 {m n : Nat} {v : Value} {l : List Nat} (w : World) (h : TmS w0 w B G N cap t) (hok : OkF t.f m n) (hL : TBlankW w0) (hN : NumsW (NotBG B G) w v l) (hl : l.length ≤ 1000) (h9 : ∀ x ∈ l, x ≤ 9999) :
    Calls Tryz.prog 60 #[.pointer (some ⟨B, 0, none⟩), .int .u8 75, v] w (TmD w0 w B G N cap (seqT t l 75)) := by
  have hm := hok.hm
  have hn := hok.hn
  have hrow := hok.row
  have hcol := hok.col
  have hrows := hok.rows
  have hcols := hok.cols
  have HS := Lib.hid h
  have HNN := Lib.hid hN
  have hk : ∀ i, l.getD i 0 ≤ 9999 := fun i => by
    rw [List.getD_eq_getElem?_getD]
    cases hi : l[i]? with
    | none => exact Nat.zero_le _
    | some x => exact h9 x (List.mem_of_getElem? hi)
  have hk0 := hk 0
  have hk1 := hk 1
  have HP : Hid (∀ W, KeepW (NotBG B G) w W → Calls Tryz.prog 94 #[v, .int .i64 0] W fun e w' => e = .returned (.int .i64 ((l.getD 0 0 : Nat) : Int)) ∧ w' = W) := fun W hW => param_any 0 W (hN.keep hW) (by omega) (by omega)
  have HP1 : Hid (∀ W, KeepW (NotBG B G) w W → Calls Tryz.prog 94 #[v, .int .i64 1] W fun e w' => e = .returned (.int .i64 ((l.getD 1 0 : Nat) : Int)) ∧ w' = W) := fun W hW => param_any 1 W (hN.keep hW) (by omega) (by omega)
  have hE : seqT t l 75 = { t with f := rowE t.f (l.getD 0 0), waits := false } := by
    unfold seqT
    dsimp only
    rfl
  rw [hE]
  obtain ⟨k, hkk⟩ : ∃ k : Nat, l.getD 0 0 = k := ⟨_, rfl⟩
  obtain ⟨k2, hkk2⟩ : ∃ k : Nat, l.getD 1 0 = k := ⟨_, rfl⟩
  rw [hkk] at HP hk0 ⊢
  rw [hkk2] at HP1 hk1
  obtain ⟨t1, ht1⟩ : ∃ t1 : Tm, { t with f := rowE t.f k } = t1 := ⟨_, rfl⟩
  have hE2 : ({ t with f := rowE t.f k, waits := false } : Tm) = { t1 with waits := false } := by rw [← ht1]
  rw [hE2]
  have HC : Hid (∀ W, TmS w0 W B G N cap t → Calls Tryz.prog 96 #[.pointer (some ⟨B, 0, none⟩), .int .i64 (k : Int)] W (TmD w0 W B G N cap t1)) := fun W hW => by
    have := trowE_any k W hW hok hL
    rwa [ht1] at this
  clear h hok hL hE hE2 hkk hkk2 ht1 hk hN HP1 hk1
  go_enter Tryz.func60, Tryz.ntmps60
  go_wp2_with fail
  go_fit (HP.out _ (KeepW.refl _ _))
  rintro e w1 ⟨rfl, rfl⟩
  go_wp2_with fail
  all_goals
    go_fit (HC.out _ HS.out)
    rintro e w3 ⟨rfl, h3, k3⟩
    have HS3 := Lib.hid h3
    have HK3 := Lib.hid k3
    clear h3 k3
    obtain ⟨_, _, ⟨_, x10, _, _⟩, hf⟩ := HS3.out.box.cells
    have hlt := HS3.out.box.lt
    have f10 := hf 10
    obtain ⟨a1, a2⟩ := HS3.out.waits_ false
    have HZ := Lib.hid (And.intro a1 (HK3.out.trans a2))
    clear hf a1 a2 HS3 HK3
    go_wp2_with fail
    go_end0
    exact ⟨rfl, HZ.out.1, HZ.out.2⟩

set_option maxRecDepth 20000 in
set_option maxHeartbeats 8000000 in
theorem tseq_109 {m n : Nat} {v : Value} {l : List Nat} (w : World) (h : TmS w0 w B G N cap t) (hok : OkF t.f m n) (_hL : TBlankW w0) (hN : NumsW (NotBG B G) w v l) (hl : l.length ≤ 1000) (h9 : ∀ x ∈ l, x ≤ 9999) :
    Calls Tryz.prog 60 #[.pointer (some ⟨B, 0, none⟩), .int .u8 109, v] w (TmD w0 w B G N cap (seqT t l 109)) := by
  have hm := hok.hm
  have hn := hok.hn
  have hrow := hok.row
  have hcol := hok.col
  have hrows := hok.rows
  have hcols := hok.cols
  have HS := Lib.hid h
  have HNN := Lib.hid hN
  have hk : ∀ i, l.getD i 0 ≤ 9999 := fun i => by
    rw [List.getD_eq_getElem?_getD]
    cases hi : l[i]? with
    | none => exact Nat.zero_le _
    | some x => exact h9 x (List.mem_of_getElem? hi)
  have hk0 := hk 0
  have hk1 := hk 1
  have HP : Hid (∀ W, KeepW (NotBG B G) w W → Calls Tryz.prog 94 #[v, .int .i64 0] W fun e w' => e = .returned (.int .i64 ((l.getD 0 0 : Nat) : Int)) ∧ w' = W) := fun W hW => param_any 0 W (hN.keep hW) (by omega) (by omega)
  have HP1 : Hid (∀ W, KeepW (NotBG B G) w W → Calls Tryz.prog 94 #[v, .int .i64 1] W fun e w' => e = .returned (.int .i64 ((l.getD 1 0 : Nat) : Int)) ∧ w' = W) := fun W hW => param_any 1 W (hN.keep hW) (by omega) (by omega)
  have hE : seqT t l 109 = { t with sty := stysN t.sty l } := by
    unfold seqT
    dsimp only
    rfl
  rw [hE]
  obtain ⟨k, hkk⟩ : ∃ k : Nat, l.getD 0 0 = k := ⟨_, rfl⟩
  obtain ⟨k2, hkk2⟩ : ∃ k : Nat, l.getD 1 0 = k := ⟨_, rfl⟩
  rw [hkk] at HP hk0
  rw [hkk2] at HP1 hk1
  have HC : Hid (∀ W, KeepW (NotBG B G) w W → TmS w0 W B G N cap t → Calls Tryz.prog 97 #[.pointer (some ⟨B, 0, none⟩), v] W (TmD w0 W B G N cap { t with sty := stysN t.sty l })) := fun W hk hW => trestyle_any W hW (HNN.out.keep hk) (by omega)
  obtain ⟨R, hR⟩ : ∃ R : Tm, { t with sty := stysN t.sty l } = R := ⟨_, rfl⟩
  rw [hR] at HC ⊢
  clear h hok hE hkk hkk2 hk hN hR HP1 hk1
  go_enter Tryz.func60, Tryz.ntmps60
  go_wp2_with fail
  go_fit (HP.out _ (KeepW.refl _ _))
  rintro e w1 ⟨rfl, rfl⟩
  go_wp2_with fail
  all_goals
    go_fit (HC.out _ (KeepW.refl _ _) HS.out)
    rintro e w3 ⟨rfl, h3, k3⟩
    have HS3 := Lib.hid h3
    have HK3 := Lib.hid k3
    clear h3 k3
    go_wp2_with fail
    go_end0
    exact ⟨rfl, HS3.out, HK3.out⟩

set_option maxRecDepth 20000 in
set_option maxHeartbeats 8000000 in
theorem tseq_o {m n : Nat} {v : Value} {l : List Nat} (b : Nat) (q1 : ((b : Int) == 65) = false) (q2 : ((b : Int) == 66) = false) (q3 : ((b : Int) == 68) = false) (q4 : ((b : Int) == 67) = false) (q5 : ((b : Int) == 72) = false) (q6 : ((b : Int) == 74) = false) (q7 : ((b : Int) == 75) = false) (q8 : ((b : Int) == 109) = false) (w : World) (h : TmS w0 w B G N cap t) (hok : OkF t.f m n) (_hL : TBlankW w0) (hN : NumsW (NotBG B G) w v l) (hl : l.length ≤ 1000) (h9 : ∀ x ∈ l, x ≤ 9999) :
    Calls Tryz.prog 60 #[.pointer (some ⟨B, 0, none⟩), .int .u8 (b : Int), v] w (TmD w0 w B G N cap (seqT t l b)) := by
  have hm := hok.hm
  have hn := hok.hn
  have hrow := hok.row
  have hcol := hok.col
  have hrows := hok.rows
  have hcols := hok.cols
  have HS := Lib.hid h
  have HNN := Lib.hid hN
  have hk : ∀ i, l.getD i 0 ≤ 9999 := fun i => by
    rw [List.getD_eq_getElem?_getD]
    cases hi : l[i]? with
    | none => exact Nat.zero_le _
    | some x => exact h9 x (List.mem_of_getElem? hi)
  have hk0 := hk 0
  have hk1 := hk 1
  have HP : Hid (∀ W, KeepW (NotBG B G) w W → Calls Tryz.prog 94 #[v, .int .i64 0] W fun e w' => e = .returned (.int .i64 ((l.getD 0 0 : Nat) : Int)) ∧ w' = W) := fun W hW => param_any 0 W (hN.keep hW) (by omega) (by omega)
  have HP1 : Hid (∀ W, KeepW (NotBG B G) w W → Calls Tryz.prog 94 #[v, .int .i64 1] W fun e w' => e = .returned (.int .i64 ((l.getD 1 0 : Nat) : Int)) ∧ w' = W) := fun W hW => param_any 1 W (hN.keep hW) (by omega) (by omega)
  have hE : seqT t l b = t := by
    unfold seqT
    dsimp only
    rw [beq_eq_false_iff_ne] at q1 q2 q3 q4 q5 q6 q7 q8
    rw [if_neg (by omega), if_neg (by omega), if_neg (by omega), if_neg (by omega), if_neg (by omega), if_neg (by omega), if_neg (by omega), if_neg (by omega)]
  rw [hE]
  obtain ⟨k, hkk⟩ : ∃ k : Nat, l.getD 0 0 = k := ⟨_, rfl⟩
  obtain ⟨k2, hkk2⟩ : ∃ k : Nat, l.getD 1 0 = k := ⟨_, rfl⟩
  rw [hkk] at HP hk0
  rw [hkk2] at HP1 hk1
  clear h hok hE hkk hkk2 hk hN HP1 hk1
  go_enter Tryz.func60, Tryz.ntmps60
  go_wp2_with fail
  go_fit (HP.out _ (KeepW.refl _ _))
  rintro e w1 ⟨rfl, rfl⟩
  go_wp2_with fail
  all_goals
    go_end0
    exact ⟨rfl, HS.out, KeepW.refl _ _⟩
theorem tseq_any {m n : Nat} {v : Value} {l : List Nat} (b : Nat) (w : World) (h : TmS w0 w B G N cap t) (hok : OkF t.f m n) (hL : TBlankW w0) (hN : NumsW (NotBG B G) w v l) (hl : l.length ≤ 1000) (h9 : ∀ x ∈ l, x ≤ 9999) :
    Calls Tryz.prog 60 #[.pointer (some ⟨B, 0, none⟩), .int .u8 (b : Int), v] w (TmD w0 w B G N cap (seqT t l b)) := by
  by_cases h65 : b = 65
  · subst h65
    by_cases hs : l.getD 0 0 ≤ 1
    · exact tseq_651 w h hok hL hN hl h9 hs
    · exact tseq_65n w h hok hL hN hl h9 (by omega)
  by_cases h66 : b = 66
  · subst h66
    by_cases hs : l.getD 0 0 ≤ 1
    · exact tseq_661 w h hok hL hN hl h9 hs
    · exact tseq_66n w h hok hL hN hl h9 (by omega)
  by_cases h67 : b = 67
  · subst h67
    by_cases hs : l.getD 0 0 ≤ 1
    · exact tseq_671 w h hok hL hN hl h9 hs
    · exact tseq_67n w h hok hL hN hl h9 (by omega)
  by_cases h68 : b = 68
  · subst h68
    by_cases hs : l.getD 0 0 ≤ 1
    · exact tseq_681 w h hok hL hN hl h9 hs
    · exact tseq_68n w h hok hL hN hl h9 (by omega)
  by_cases h72 : b = 72
  · subst h72; exact tseq_72 w h hok hL hN hl h9
  by_cases h74 : b = 74
  · subst h74; exact tseq_74 w h hok hL hN hl h9
  by_cases h75 : b = 75
  · subst h75; exact tseq_75 w h hok hL hN hl h9
  by_cases h109 : b = 109
  · subst h109; exact tseq_109 w h hok hL hN hl h9
  exact tseq_o b (by rw [beq_eq_false_iff_ne]; omega) (by rw [beq_eq_false_iff_ne]; omega) (by rw [beq_eq_false_iff_ne]; omega) (by rw [beq_eq_false_iff_ne]; omega) (by rw [beq_eq_false_iff_ne]; omega) (by rw [beq_eq_false_iff_ne]; omega) (by rw [beq_eq_false_iff_ne]; omega) (by rw [beq_eq_false_iff_ne]; omega) w h hok hL hN hl h9
end
end Go.Proofs.YtpkjaallhhjleaaGreatDoor
