/-
  Texts of this proof, one behind the other; each begins with its own remark.
-/
import Derived.StillTailTactics
import Derived.BigQuiet
import Derived.IntWalk
import Derived.Test.YtpkjaallhhjleaaGreatDoorBe18
import Derived.Test.YtpkjaallhhjleaaGreatDoorBe15
import Derived.Test.YtpkjaallhhjleaaGreatDoorBe19
/-
  term: feed: a line feed: what it leaves.
-/
namespace Go.Proofs.YtpkjaallhhjleaaGreatDoor
open Go.RowKit

/-- What a cut of a slice of cells is, from a place on. -/
theorem run_from (G p N cap n : Nat) (W : World) (hn : n ≤ N) (h : n < cap) : (Instr.slice 33 (.slice (some ⟨G, p, none⟩) N cap) (some (.int .i64 (n : Int))) none none).run Tryz.prog W = .ok (.slice (some ⟨G, p + n * 6, none⟩) (N - n) (cap - n)) W := by
  have h1 : (n : Int) ≤ (N : Int) := by omega
  have h2 : (0 : Int) ≤ (n : Int) := by omega
  have h3 : ¬ cap = n := by omega
  simp [go_sem, h1, h2, h3]
/-- Copied one row up, and the last row erased: all rows are one higher. -/
theorem scroll_erase {L : List Cel} {m n : Nat} (hL : ∀ i c, L[i]? = some c → okA n L i c) (hl : L.length = m * n) (hm : 1 ≤ m) (hn : 0 < n) :
    eraseL (L.take 0 ++ (L.drop n).take (m * n - n) ++ L.drop (0 + (m * n - n))) (m * n - n) (m * n) = scrollL L n := by
  obtain ⟨k, rfl⟩ : ∃ k, m = k + 1 := ⟨m - 1, by omega⟩
  have e : (k + 1) * n - n = k * n := by rw [Nat.add_mul, Nat.one_mul]; omega
  have e2 : (k + 1) * n = k * n + n := by rw [Nat.add_mul, Nat.one_mul]
  rw [e, Nat.zero_add, List.take_zero, List.nil_append, List.take_of_length_le (by rw [List.length_drop]; omega)]
  have hd : (L.drop n).length = k * n := by rw [List.length_drop]; omega
  have h1 : w0_ (L.drop n ++ L.drop (k * n)) (k * n) = false := by
    have := w0_front (k := k) hL
    unfold w0_ at this ⊢
    rw [List.getElem?_append_right (by omega), hd, Nat.sub_self, List.getElem?_drop, Nat.add_zero]
    exact this
  have h2 : w0_ (L.drop n ++ L.drop (k * n)) ((k + 1) * n) = false := w0_out (by rw [List.length_append, hd, List.length_drop]; omega)
  unfold eraseL fromN toN
  rw [h1, h2, if_neg (by simp), if_neg (by decide)]
  unfold fillB scrollL
  rw [Nat.max_eq_right (by omega), List.take_append_of_le_length (by omega), List.take_of_length_le (by omega), show (L.drop n ++ L.drop (k * n)).drop ((k + 1) * n) = [] from List.drop_of_length_le (by rw [List.length_append, hd, List.length_drop]; omega), List.append_nil, show (k + 1) * n - k * n = n by omega]
section
variable {w0 : World} {B G N cap : Nat} {t : Tm}
set_option maxRecDepth 20000 in
set_option maxHeartbeats 4000000 in
theorem tfeed_lt (w : World) (h : TmS w0 w B G N cap t) (h1 : 2 ≤ t.f.rows ∧ t.f.rows ≤ 100) (h2 : 0 ≤ t.f.row ∧ t.f.row < t.f.rows - 1) :
    Calls Tryz.prog 91 #[.pointer (some ⟨B, 0, none⟩)] w (TmD w0 w B G N cap { t with f := { t.f with row := t.f.row + 1 } }) := by
  obtain ⟨⟨x0, _, _, x3, _⟩, _, _, hf⟩ := h.box.cells
  have hlt := h.box.lt
  have HZ : Hid (∀ nq, (w.drewN nq).cell? ⟨B, 3, none⟩ = some (.int .i64 t.f.row) ∧ (w.drewN nq).frozen? ⟨B, 3, none⟩ = false ∧ TmS w0 ((w.drewN nq).setCell ⟨B, 3, none⟩ (.int .i64 (t.f.row + 1))) B G N cap { t with f := { t.f with row := t.f.row + 1 } } ∧ KeepW (NotBG B G) w ((w.drewN nq).setCell ⟨B, 3, none⟩ (.int .i64 (t.f.row + 1)))) := fun nq => by
    have hb : Below w.heap.size w (w.drewN nq) := below_drewN (Below.refl _ _) nq
    have hn := h.next hb
    obtain ⟨a1, a2⟩ := hn.row_ (t.f.row + 1)
    exact ⟨hn.box.cells.1.2.2.2.1, hn.box.cells.2.2.2 3, a1, (keep_below _ hb).trans a2⟩
  obtain ⟨R, hR⟩ : ∃ R, t.f.rows = R := ⟨_, rfl⟩
  obtain ⟨C, hC⟩ : ∃ C, t.f.row = C := ⟨_, rfl⟩
  rw [hR] at x0 h1 h2
  rw [hC] at x3 h2 HZ ⊢
  clear h hf hR hC
  obtain ⟨h1, h3⟩ := h1
  obtain ⟨h2, h4⟩ := h2
  go_enter Tryz.func91, Tryz.ntmps91
  go_wp2_with fail
  go_quiet (fail)
  obtain ⟨z3, zf, HS, HK⟩ := HZ.out nq
  clear HZ
  go_wp2_with fail
  go_end0
  exact ⟨rfl, HS, HK⟩

set_option maxRecDepth 20000 in
set_option maxHeartbeats 4000000 in
theorem tfeed_scroll {m n : Nat} (w : World) (h : TmS w0 w B G N cap t) (hok : OkF t.f m n) (hL : TBlankW w0) (h2 : ¬ t.f.row < t.f.rows - 1) :
    Calls Tryz.prog 91 #[.pointer (some ⟨B, 0, none⟩)] w (TmD w0 w B G N cap { t with f := { t.f with cells := scrollL t.f.cells n } }) := by
  obtain ⟨⟨x0, x1, x2, x3, _⟩, _, _, hf⟩ := h.box.cells
  have hlt := h.box.lt
  have hlen := h.len
  have hcap := h.cap
  have hm := hok.hm
  have hn := hok.hn
  obtain ⟨hle, hsub⟩ := hok.le
  have hpos : 0 < N - n := by
    rw [← hlen, hsub]; exact Nat.mul_pos (by omega) (by omega)
  have hsl : ∀ W, (Instr.slice 33 (.slice (some ⟨G, 0, none⟩) N cap) (some (.int .i64 (n : Int))) none none).run Tryz.prog W = .ok (.slice (some ⟨G, n * 6, none⟩) (N - n) (cap - n)) W := fun W => by
    have := run_from G 0 N cap n W (by omega) (by omega)
    rwa [Nat.zero_add] at this
  have hroom : N ≤ 20000 := by rw [← hlen]; exact hok.room
  rw [hok.rows] at x0 h2
  rw [hok.cols] at x1
  go_enter Tryz.func91, Tryz.ntmps91
  go_wp2_with fail
  go_quiet (fail)
  obtain ⟨W1, hW1⟩ : ∃ W1, w.drewN nq = W1 := ⟨_, rfl⟩
  have hS1 : TmS w0 W1 B G N cap t := by rw [← hW1]; exact h.next (below_drewN (Below.refl _ _) nq)
  obtain ⟨⟨y0, y1, y2, y3, _⟩, _, _, _⟩ := hS1.box.cells
  rw [hok.cols] at y1
  rw [hW1]
  have n1 : (n : Int) ≤ (N : Int) := by omega
  have n2 : (0 : Int) ≤ (n : Int) := by omega
  go_wp2_with fail
  go_still_tail 13, (by kernel_rfl)
  obtain ⟨W2, hW2⟩ : ∃ W2, W1.drew = W2 := ⟨_, rfl⟩
  have hb2 : Below W1.heap.size W1 W2 := by rw [← hW2]; exact (Below.refl _ _).drew
  have HS2 := Lib.hid (hS1.next hb2)
  have HK2 : Hid (KeepW (NotBG B G) w W2) := (keep_below _ (by rw [← hW1]; exact below_drewN (Below.refl _ _) nq)).trans (keep_below _ hb2)
  change wpList _ _ _ _ _ W1.drew
  rw [hW2]
  obtain ⟨zs, hzs⟩ := HS2.out.blk
  have HB2 := Lib.hid hzs
  have HC2 : Hid (CelsW AnyB W2 (.slice (some ⟨G, n * 6, none⟩) (N - n) (cap - n)) (t.f.cells.drop n)) := by
    have := HB2.out.part (ok := AnyB) (a := n) (n := N - n) (cap := cap - n) trivial (by omega) (by omega)
    rw [List.take_of_length_le (by rw [List.length_drop]; omega)] at this
    exact this
  have HL2 : Hid ((t.f.cells.drop n).length = N - n) := by show _ = _; rw [List.length_drop, hlen]
  have HM : Hid (min (N - n) N = N - n) := by show _ = _; omega
  have HN : Hid (0 + (N - n) ≤ t.f.cells.length) := by show _ ≤ _; omega
  have HF : Hid (∀ W3, blkL W3 G (t.f.cells.take 0 ++ (t.f.cells.drop n).take (N - n) ++ t.f.cells.drop (0 + (N - n))) zs → KeepW (fun j => j ≠ G) W2 W3 →
      W3.cell? ⟨B, 2, none⟩ = some (.slice (some ⟨G, 0, none⟩) N cap) ∧ W3.cell? ⟨B, 1, none⟩ = some (.int .i64 (n : Int)) ∧
      ∀ W4, Below W3.heap.size W3 W4 → Calls Tryz.prog 116 #[.pointer (some ⟨B, 0, none⟩), .int .i64 ((N : Int) - (n : Int)), .int .i64 (N : Int)] W4 (TmD w0 w B G N cap { t with f := { t.f with cells := scrollL t.f.cells n } })) := fun W3 hb3 hk3 => by
    have hS3 := HS2.out.celled hk3 hb3 (by rw [List.length_append, List.length_append, List.length_take, List.length_take, List.length_drop, List.length_drop]; omega)
    obtain ⟨⟨_, c1, c2, _, _⟩, _⟩ := hS3.box.cells
    rw [show ({ t with f := { t.f with cells := (t.f.cells.take 0 ++ (t.f.cells.drop n).take (N - n) ++ t.f.cells.drop (0 + (N - n))) } } : Tm).f.cols = (n : Int) from hok.cols] at c1
    refine ⟨c2, c1, fun W4 hb4 => ?_⟩
    have hc := erase_any (N - n) N W4 (hS3.next hb4) hL (by omega) (Nat.le_refl _) hroom (fun _ _ => hpos)
    rw [show ((N - n : Nat) : Int) = (N : Int) - (n : Int) by omega] at hc
    have hNn : N = m * n := by rw [← hlen, hok.len]
    have he := scroll_erase (okF_all hok) hok.len (by omega) (by omega)
    rw [← hNn] at he
    rw [he] at hc
    exact hc.mono fun e w' ⟨k1, k2, k3⟩ => ⟨k1, k2, (HK2.out.trans ((hk3.mono fun k _ hk => hk.2).trans (keep_below _ hb4))).trans k3⟩
  clear hS1 hW1 hW2 hb2 hzs h hok hL hlen hle hsub hf
  go_wp2_with (refine wpList_copy6 (o := ⟨some 36, _, _, _, _, _⟩) (p := 0) (k := N - n) rfl (.tmp 26) (.tmp 35) rfl (by rfl) (by rfl) HB2.out HC2.out HL2.out HM.out hpos HN.out ?_; intro W3 hb3 hk3; obtain ⟨c2, c1, HE⟩ := HF.out W3 hb3.out hk3.out; have HE := Lib.hid HE; clear HF hb3 hk3 HB2 HC2)
  go_still_tail 16, (by kernel_rfl)
  change wpList _ _ _ _ _ W3.drew
  go_wp2_with fail
  go_fit (HE.out W3.drew (Below.refl _ _).drew)
  rintro e w4 ⟨rfl, h4⟩
  go_wp2_with fail
  go_end0
  exact ⟨rfl, h4⟩
theorem tfeed_any {m n : Nat} (w : World) (h : TmS w0 w B G N cap t) (hok : OkF t.f m n) (hL : TBlankW w0) :
    Calls Tryz.prog 91 #[.pointer (some ⟨B, 0, none⟩)] w (TmD w0 w B G N cap { t with f := feedF t.f }) := by
  have h1 := hok.rows; have h2 := hok.hm; have h3 := hok.row
  unfold feedF
  split
  · exact tfeed_lt w h (by omega) (by omega)
  · rw [hok.nat.2]
    exact tfeed_scroll w h hok hL (by assumption)
end
end Go.Proofs.YtpkjaallhhjleaaGreatDoor

/-
  term: control, restyle: what each leaves.
-/
namespace Go.Proofs.YtpkjaallhhjleaaGreatDoor
open Go.RowKit

section
variable {w0 : World} {B G N cap : Nat} {t : Tm}

set_option maxRecDepth 20000 in
set_option maxHeartbeats 8000000 in
theorem tctl_7 {m n : Nat} (w : World) (h : TmS w0 w B G N cap t) (_hok : OkF t.f m n) (_hL : TBlankW w0) :
    Calls Tryz.prog 59 #[.pointer (some ⟨B, 0, none⟩), .int .i32 7] w (TmD w0 w B G N cap (controlT t 7)) := by
  show Calls _ _ _ _ (TmD w0 w B G N cap { t with bells := wrap64 (t.bells + 1) })
  obtain ⟨_, _, ⟨x9, _, _, _⟩, hf⟩ := h.box.cells
  have hlt := h.box.lt
  have f9 := hf 9
  have HZ := Lib.hid (h.bells_ (wrap64 (t.bells + 1)))
  clear h hf
  go_enter Tryz.func59, Tryz.ntmps59
  go_wp2_with fail
  go_end0
  exact ⟨rfl, HZ.out.1, HZ.out.2⟩

set_option maxRecDepth 20000 in
set_option maxHeartbeats 8000000 in
theorem tctl_8 {m n : Nat} (w : World) (h : TmS w0 w B G N cap t) (hok : OkF t.f m n) (_hL : TBlankW w0) :
    Calls Tryz.prog 59 #[.pointer (some ⟨B, 0, none⟩), .int .i32 8] w (TmD w0 w B G N cap (controlT t 8)) := by
  show Calls _ _ _ _ (TmD w0 w B G N cap { t with f := goF t.f t.f.row (t.f.col - 1), waits := false })
  have hm := hok.hm
  have hn := hok.hn
  have hb : Below w.heap.size w w.drew := (Below.refl _ _).drew
  have HF := Lib.hid (goto_any t.f.row (t.f.col - 1) w.drew (h.next hb) (by rw [hok.rows]; omega) (by rw [hok.cols]; omega))
  obtain ⟨t1, ht1⟩ : ∃ t1 : Tm, { t with f := goF t.f t.f.row (t.f.col - 1) } = t1 := ⟨_, rfl⟩
  have hE : ({ t with f := goF t.f t.f.row (t.f.col - 1), waits := false } : Tm) = { t1 with waits := false } := by rw [← ht1]
  rw [hE]
  rw [ht1] at HF
  have hc := hok.col
  obtain ⟨⟨_, _, _, x3, x4⟩, _, _, _⟩ := h.box.cells
  obtain ⟨hc1, hc2⟩ := hc
  have nb : n ≤ 200 := hn.2
  have wd : IntKind.i64.wrap (t.f.col - 1) = t.f.col - 1 := by rw [IntWalk.i64_in _ (by omega)]
  clear h hok hE ht1 hm hn
  go_enter Tryz.func59, Tryz.ntmps59
  go_wp2_with fail
  go_still_tail 12, (by kernel_rfl)
  change wpList _ _ _ _ _ w.drew
  go_wp2_with fail
  go_fit HF.out
  rintro e w2 ⟨rfl, h2, k2⟩
  obtain ⟨_, _, ⟨_, x10, _, _⟩, hf⟩ := h2.box.cells
  have hlt := h2.box.lt
  have f10 := hf 10
  obtain ⟨a1, a2⟩ := h2.waits_ false
  have HZ := Lib.hid (And.intro a1 (((keep_drew _ w).trans k2).trans a2))
  clear h2 hf a1 a2 k2 HF hb
  go_wp2_with fail
  go_end0
  exact ⟨rfl, HZ.out.1, HZ.out.2⟩

set_option maxRecDepth 20000 in
set_option maxHeartbeats 8000000 in
theorem tctl_10 {m n : Nat} (w : World) (h : TmS w0 w B G N cap t) (hok : OkF t.f m n) (hL : TBlankW w0) :
    Calls Tryz.prog 59 #[.pointer (some ⟨B, 0, none⟩), .int .i32 10] w (TmD w0 w B G N cap (controlT t 10)) := by
  show Calls _ _ _ _ (TmD w0 w B G N cap { t with f := feedF t.f, waits := false })
  have HF := Lib.hid (tfeed_any w h hok hL)
  obtain ⟨t1, ht1⟩ : ∃ t1 : Tm, { t with f := feedF t.f } = t1 := ⟨_, rfl⟩
  have hE : ({ t with f := feedF t.f, waits := false } : Tm) = { t1 with waits := false } := by rw [← ht1]
  rw [hE]
  rw [ht1] at HF
  clear h hok hL hE ht1
  go_enter Tryz.func59, Tryz.ntmps59
  go_wp2_with fail
  go_fit HF.out
  rintro e w2 ⟨rfl, h2, k2⟩
  obtain ⟨_, _, ⟨_, x10, _, _⟩, hf⟩ := h2.box.cells
  have hlt := h2.box.lt
  have f10 := hf 10
  obtain ⟨a1, a2⟩ := h2.waits_ false
  have HZ := Lib.hid (And.intro a1 (k2.trans a2))
  clear h2 hf a1 a2 k2 HF
  go_wp2_with fail
  go_end0
  exact ⟨rfl, HZ.out.1, HZ.out.2⟩

set_option maxRecDepth 20000 in
set_option maxHeartbeats 8000000 in
theorem tctl_13 {m n : Nat} (w : World) (h : TmS w0 w B G N cap t) (_hok : OkF t.f m n) (_hL : TBlankW w0) :
    Calls Tryz.prog 59 #[.pointer (some ⟨B, 0, none⟩), .int .i32 13] w (TmD w0 w B G N cap (controlT t 13)) := by
  show Calls _ _ _ _ (TmD w0 w B G N cap { t with f := { t.f with col := 0 }, waits := false })
  obtain ⟨⟨_, _, _, _, x4⟩, _, ⟨_, x10, _, _⟩, hf⟩ := h.box.cells
  have hlt := h.box.lt
  have f4 := hf 4
  have f10 := hf 10
  obtain ⟨a1, a2⟩ := h.col_ 0
  obtain ⟨b1, b2⟩ := a1.waits_ false
  have HZ := Lib.hid (And.intro b1 (a2.trans b2))
  clear h hf a1 a2 b1 b2
  go_enter Tryz.func59, Tryz.ntmps59
  go_wp2_with fail
  go_end0
  exact ⟨rfl, HZ.out.1, HZ.out.2⟩

set_option maxRecDepth 20000 in
set_option maxHeartbeats 8000000 in
theorem tctl_o {m n : Nat} (r : Int) (h7 : (r == 7) = false) (h8 : (r == 8) = false) (h10 : (r == 10) = false) (h13 : (r == 13) = false) (w : World) (h : TmS w0 w B G N cap t) (_hok : OkF t.f m n) (_hL : TBlankW w0) :
    Calls Tryz.prog 59 #[.pointer (some ⟨B, 0, none⟩), .int .i32 r] w (TmD w0 w B G N cap (controlT t r)) := by
  have hE : controlT t r = t := by
    rw [beq_eq_false_iff_ne] at h7 h8 h10 h13
    unfold controlT
    rw [if_neg h7, if_neg h8, if_neg h10, if_neg h13]
  rw [hE]
  have HS := Lib.hid h
  clear h hE
  go_enter Tryz.func59, Tryz.ntmps59
  go_wp2_with fail
  go_end0
  exact ⟨rfl, HS.out, KeepW.refl _ _⟩
theorem tctl_any {m n : Nat} (r : Int) (w : World) (h : TmS w0 w B G N cap t) (hok : OkF t.f m n) (hL : TBlankW w0) :
    Calls Tryz.prog 59 #[.pointer (some ⟨B, 0, none⟩), .int .i32 r] w (TmD w0 w B G N cap (controlT t r)) := by
  by_cases h7 : r = 7
  · subst h7; exact tctl_7 w h hok hL
  by_cases h8 : r = 8
  · subst h8; exact tctl_8 w h hok hL
  by_cases h10 : r = 10
  · subst h10; exact tctl_10 w h hok hL
  by_cases h13 : r = 13
  · subst h13; exact tctl_13 w h hok hL
  exact tctl_o r (beq_eq_false_iff_ne.2 h7) (beq_eq_false_iff_ne.2 h8) (beq_eq_false_iff_ne.2 h10) (beq_eq_false_iff_ne.2 h13) w h hok hL

theorem stys_take (s : Sty) (l : List Nat) (i x : Nat) (h : l[i]? = some x) : styN ((l.take i).foldl styN s) x = (l.take (i + 1)).foldl styN s := by
  have h1 := (List.getElem?_eq_some_iff.1 h).1
  rw [List.take_succ_eq_append_getElem h1, (List.getElem?_eq_some_iff.1 h).2, List.foldl_append]
  rfl
set_option maxRecDepth 20000 in
set_option maxHeartbeats 8000000 in
theorem trestyle_nil (w : World) (h : TmS w0 w B G N cap t) :
    Calls Tryz.prog 97 #[.pointer (some ⟨B, 0, none⟩), .slice none 0 0] w (TmD w0 w B G N cap { t with sty := sty0 }) := by
  obtain ⟨_, ⟨x5, x6, x7, x8⟩, _, hf⟩ := h.box.cells
  have hlt := h.box.lt
  have f5 := hf 5
  have f6 := hf 6
  have f7 := hf 7
  have f8 := hf 8
  have HZ := Lib.hid (h.sty_ sty0)
  unfold setSty sty0 at HZ
  unfold sty0
  clear h hf
  go_enter Tryz.func97, Tryz.ntmps97
  go_wp2_with fail
  go_loopw [15] (fun s15 wr => s15 = .int .i64 0 ∧ Hid (TmS w0 wr B G N cap { t with sty := (0, false, false, false) } ∧ KeepW (NotBG B G) w wr)) (fun _ _ => 0)
  case atStart => exact ⟨rfl, HZ⟩
  case round =>
    obtain ⟨rfl, HI⟩ := hrel
    go_wp2_with fail
    go_end0
    exact ⟨rfl, HI.out.1, HI.out.2⟩
set_option maxRecDepth 20000 in
set_option maxHeartbeats 8000000 in
theorem trestyle_some {v : Value} {l : List Nat} (w : World) (h : TmS w0 w B G N cap t) (hN : NumsW (NotBG B G) w v l) (hl : l ≠ []) (hl2 : l.length ≤ 1000000) :
    Calls Tryz.prog 97 #[.pointer (some ⟨B, 0, none⟩), v] w (TmD w0 w B G N cap { t with sty := l.foldl styN t.sty }) := by
  obtain ⟨ao, cp, rfl, hcp, _⟩ := hN.1
  obtain ⟨q, hq⟩ : ∃ q, l.length = q := ⟨_, rfl⟩
  rw [hq] at hN hcp hl2 ⊢
  have hq0 : ((q : Int) == 0) = false := by
    rw [beq_eq_false_iff_ne]
    intro e
    exact hl (List.eq_nil_of_length_eq_zero (by omega))
  have HQ := Lib.hid hq
  have H0 : Hid (TmS w0 w B G N cap { t with sty := (l.take 0).foldl styN t.sty } ∧ KeepW (NotBG B G) w w) := ⟨h, KeepW.refl _ _⟩
  have HN := Lib.hid hN
  have HT : Hid (∀ i wr, i < q → TmS w0 wr B G N cap { t with sty := (l.take i).foldl styN t.sty } → KeepW (NotBG B G) w wr → ∃ (g o x : Nat) (s : Sty), ao = some ⟨g, o, none⟩ ∧ wr.cell? ⟨g, o + i, none⟩ = some (.int .i64 (x : Int)) ∧ (wr.cell? ⟨B, 5, none⟩ = some (.int .i64 s.1) ∧ wr.cell? ⟨B, 6, none⟩ = some (.bool s.2.1) ∧ wr.cell? ⟨B, 7, none⟩ = some (.bool s.2.2.1) ∧ wr.cell? ⟨B, 8, none⟩ = some (.bool s.2.2.2)) ∧
      Calls Tryz.prog 118 #[.agg #[.int .i64 s.1, .bool s.2.1, .bool s.2.2.1, .bool s.2.2.2], .int .i64 (x : Int)] wr fun e w' => ∃ u : Sty, e = .returned (.agg #[.int .i64 u.1, .bool u.2.1, .bool u.2.2.1, .bool u.2.2.2]) ∧ (B < w'.heap.size ∧ (w'.cell? ⟨B, 5, none⟩ = some (.int .i64 s.1) ∧ w'.cell? ⟨B, 6, none⟩ = some (.bool s.2.1) ∧ w'.cell? ⟨B, 7, none⟩ = some (.bool s.2.2.1) ∧ w'.cell? ⟨B, 8, none⟩ = some (.bool s.2.2.2)) ∧ ∀ k, w'.frozen? ⟨B, k, none⟩ = false) ∧
        Hid (TmS w0 (setSty w' B u) B G N cap { t with sty := (l.take (i + 1)).foldl styN t.sty } ∧ KeepW (NotBG B G) w (setSty w' B u))) := fun i wr hi hS hK => by
    obtain ⟨x, hx⟩ : ∃ x, l[i]? = some x := ⟨_, List.getElem?_eq_getElem (by rw [HQ.out]; exact hi)⟩
    have hN2 := HN.out.keep hK
    obtain ⟨g, o, cp2, he, hc⟩ := nums_at hN2 hx
    injection he with e1 e2 e3
    have hx2 := stys_take t.sty l i x hx
    obtain ⟨s, hs⟩ : ∃ s, (l.take i).foldl styN t.sty = s := ⟨_, rfl⟩
    obtain ⟨u, hu⟩ : ∃ u, (l.take (i + 1)).foldl styN t.sty = u := ⟨_, rfl⟩
    rw [hs] at hS hx2
    rw [hu] at hx2 ⊢
    have hst := hS.box.cells.2.1
    have hC := tstyled_any s x wr
    rw [hx2] at hC
    refine ⟨g, o, x, s, e1, hc, hst, hC.mono fun e w' ⟨k1, k2⟩ => ⟨u, k1, ?_, ?_⟩⟩
    · have h2 := hS.next k2
      exact ⟨h2.box.lt, h2.box.cells.2.1, h2.box.cells.2.2.2⟩
    · have h2 := hS.next k2
      obtain ⟨a1, a2⟩ := h2.sty_ u
      exact ⟨a1, (hK.trans (keep_below _ k2)).trans a2⟩
  have HE : Hid (l.foldl styN t.sty = (l.take q).foldl styN t.sty) := by show _ = _; rw [← HQ.out, List.take_length]
  rw [HE.out]
  clear h hN hl hq HQ HN HE
  go_enter Tryz.func97, Tryz.ntmps97
  go_wp2_with fail
  go_loopw [15] (fun s15 wr => ∃ i : Nat, s15 = .int .i64 (i : Int) ∧ i ≤ q ∧ Hid (TmS w0 wr B G N cap { t with sty := (l.take i).foldl styN t.sty } ∧ KeepW (NotBG B G) w wr)) (fun s15 _ => q - (intOf s15).toNat)
  case atStart => exact ⟨0, rfl, Nat.zero_le _, H0⟩
  case round =>
    obtain ⟨i, rfl, hiq, HI⟩ := hrel
    clear H0
    rcases Nat.lt_or_ge i q with hlt | hge
    · obtain ⟨g, o, x, s, rfl, hx, ⟨y5, y6, y7, y8⟩, hC⟩ := HT.out i wr hlt HI.out.1 HI.out.2
      have HC := Lib.hid hC
      have j0 : (i : Int) < (q : Int) := by omega
      have j1 : (0 : Int) ≤ (i : Int) := by omega
      clear HT HI hC
      go_wp2_with fail
      go_fit HC.out
      rintro e w2 ⟨u, rfl, ⟨hlB, ⟨z5, z6, z7, z8⟩, hfz⟩, HX⟩
      have f5 := hfz 5
      have f6 := hfz 6
      have f7 := hfz 7
      have f8 := hfz 8
      unfold setSty at HX
      clear hfz HC y5 y6 y7 y8 hx
      go_wp2_with fail
      go_roundw
      case rel => exact ⟨i + 1, by rw [Int.natCast_add]; rfl, by omega, HX⟩
      case measure => simp only [intOf]; omega
    · obtain rfl : i = q := by omega
      have j0 : ¬ (i : Int) < (i : Int) := by omega
      go_wp2_with fail
      go_end0
      exact ⟨rfl, HI.out.1, HI.out.2⟩
theorem trestyle_any {v : Value} {l : List Nat} (w : World) (h : TmS w0 w B G N cap t) (hN : NumsW (NotBG B G) w v l) (hl2 : l.length ≤ 1000000) :
    Calls Tryz.prog 97 #[.pointer (some ⟨B, 0, none⟩), v] w (TmD w0 w B G N cap { t with sty := stysN t.sty l }) := by
  unfold stysN
  by_cases hl : l = []
  · rw [if_pos hl, hN.2 hl]
    exact trestyle_nil w h
  · rw [if_neg hl]
    exact trestyle_some w h hN hl hl2
end
end Go.Proofs.YtpkjaallhhjleaaGreatDoor

/-
  term: sequence: what it leaves.
-/
namespace Go.Proofs.YtpkjaallhhjleaaGreatDoor
open Go.RowKit

section
variable {w0 : World} {B G N cap : Nat} {t : Tm}

set_option maxRecDepth 20000 in
set_option maxHeartbeats 8000000 in
theorem tseq_651 {m n : Nat} {v : Value} {l : List Nat} (w : World) (h : TmS w0 w B G N cap t) (hok : OkF t.f m n) (_hL : TBlankW w0) (hN : NumsW (NotBG B G) w v l) (hl : l.length ≤ 1000) (h9 : ∀ x ∈ l, x ≤ 9999) (hs : l.getD 0 0 ≤ 1) :
    Calls Tryz.prog 60 #[.pointer (some ⟨B, 0, none⟩), .int .u8 65, v] w (TmD w0 w B G N cap (seqT t l 65)) := by
  have hm := hok.hm
  have hn := hok.hn
  have hrow := hok.row
  have hcol := hok.col
  have hrows := hok.rows
  have hcols := hok.cols
  have HS := Lib.hid h
  have HNN := Lib.hid hN
  have hk : ∀ i, l.getD i 0 ≤ 9999 := fun i => by
    rw [List.getD_eq_getElem?_getD]
    cases hi : l[i]? with
    | none => exact Nat.zero_le _
    | some x => exact h9 x (List.mem_of_getElem? hi)
  have hk0 := hk 0
  have hk1 := hk 1
  have HP : Hid (∀ W, KeepW (NotBG B G) w W → Calls Tryz.prog 94 #[v, .int .i64 0] W fun e w' => e = .returned (.int .i64 ((l.getD 0 0 : Nat) : Int)) ∧ w' = W) := fun W hW => param_any 0 W (hN.keep hW) (by omega) (by omega)
  have HP1 : Hid (∀ W, KeepW (NotBG B G) w W → Calls Tryz.prog 94 #[v, .int .i64 1] W fun e w' => e = .returned (.int .i64 ((l.getD 1 0 : Nat) : Int)) ∧ w' = W) := fun W hW => param_any 1 W (hN.keep hW) (by omega) (by omega)
  have hE : seqT t l 65 = { t with f := goF t.f (t.f.row - max 1 ((l.getD 0 0 : Nat) : Int)) t.f.col, waits := false } := by
    unfold seqT
    dsimp only
    rfl
  rw [hE]
  obtain ⟨k, hkk⟩ : ∃ k : Nat, l.getD 0 0 = k := ⟨_, rfl⟩
  obtain ⟨k2, hkk2⟩ : ∃ k : Nat, l.getD 1 0 = k := ⟨_, rfl⟩
  rw [hkk] at HP hk0 hs ⊢
  rw [hkk2] at HP1 hk1
  have hmx : max 1 (k : Int) = 1 := by omega
  rw [hmx]
  have hs1 : ¬ (1 : Int) < (k : Int) := by omega
  have hs3 : (k : Int) ≤ 1 := by omega
  obtain ⟨t1, ht1⟩ : ∃ t1 : Tm, { t with f := goF t.f (t.f.row - 1) (t.f.col) } = t1 := ⟨_, rfl⟩
  have hE2 : ({ t with f := goF t.f (t.f.row - 1) (t.f.col), waits := false } : Tm) = { t1 with waits := false } := by rw [← ht1]
  rw [hE2]
  have HC : Hid (∀ W, TmS w0 W B G N cap t → Calls Tryz.prog 93 #[.pointer (some ⟨B, 0, none⟩), .int .i64 (t.f.row + -1), .int .i64 (t.f.col)] W (TmD w0 W B G N cap t1)) := fun W hW => by
    have := goto_any (t.f.row - 1) (t.f.col) W hW (by rw [hrows]; omega) (by rw [hcols]; omega)
    rw [ht1] at this
    rwa [Int.sub_eq_add_neg] at this
  have wr_ : IntKind.i64.wrap (t.f.row + -1) = t.f.row + -1 := by rw [IntWalk.i64_in _ (by omega)]
  have wr2 : IntKind.i64.wrap (-(k : Int)) = -(k : Int) := by rw [IntWalk.i64_in _ (by omega)]
  obtain ⟨⟨_, _, _, x3, x4⟩, _, _, _⟩ := h.box.cells
  clear h hok hE hE2 hkk hkk2 hs ht1 hmx hk hN HP1 hk1
  go_enter Tryz.func60, Tryz.ntmps60
  go_wp2_with fail
  go_fit (HP.out _ (KeepW.refl _ _))
  rintro e w1 ⟨rfl, rfl⟩
  go_wp2_with fail
  all_goals first | (exfalso; omega) | skip
  go_still_tail 13, (by kernel_rfl)
  have HS2 : Hid (TmS w0 w1.drew B G N cap t) := HS.out.next (Below.refl _ _).drew
  change wpList _ _ _ _ _ w1.drew
  go_wp2_with fail
  go_fit (HC.out _ HS2.out)
  rintro e w3 ⟨rfl, h3, k3⟩
  have HS3 := Lib.hid h3
  have HK3 : Hid (KeepW (NotBG B G) w1 w3) := (keep_drew _ _).trans k3
  clear h3 k3 HS HS2 HC x3 x4
  obtain ⟨_, _, ⟨_, x10, _, _⟩, hf⟩ := HS3.out.box.cells
  have hlt := HS3.out.box.lt
  have f10 := hf 10
  obtain ⟨a1, a2⟩ := HS3.out.waits_ false
  have HZ := Lib.hid (And.intro a1 (HK3.out.trans a2))
  clear hf a1 a2 HS3 HK3
  go_wp2_with fail
  go_end0
  exact ⟨rfl, HZ.out.1, HZ.out.2⟩

set_option maxRecDepth 20000 in
set_option maxHeartbeats 8000000 in
theorem tseq_65n {m n : Nat} {v : Value} {l : List Nat} (w : World) (h : TmS w0 w B G N cap t) (hok : OkF t.f m n) (_hL : TBlankW w0) (hN : NumsW (NotBG B G) w v l) (hl : l.length ≤ 1000) (h9 : ∀ x ∈ l, x ≤ 9999) (hs : 1 < l.getD 0 0) :
    Calls Tryz.prog 60 #[.pointer (some ⟨B, 0, none⟩), .int .u8 65, v] w (TmD w0 w B G N cap (seqT t l 65)) := by
  have hm := hok.hm
  have hn := hok.hn
  have hrow := hok.row
  have hcol := hok.col
  have hrows := hok.rows
  have hcols := hok.cols
  have HS := Lib.hid h
  have HNN := Lib.hid hN
  have hk : ∀ i, l.getD i 0 ≤ 9999 := fun i => by
    rw [List.getD_eq_getElem?_getD]
    cases hi : l[i]? with
    | none => exact Nat.zero_le _
    | some x => exact h9 x (List.mem_of_getElem? hi)
  have hk0 := hk 0
  have hk1 := hk 1
  have HP : Hid (∀ W, KeepW (NotBG B G) w W → Calls Tryz.prog 94 #[v, .int .i64 0] W fun e w' => e = .returned (.int .i64 ((l.getD 0 0 : Nat) : Int)) ∧ w' = W) := fun W hW => param_any 0 W (hN.keep hW) (by omega) (by omega)
  have HP1 : Hid (∀ W, KeepW (NotBG B G) w W → Calls Tryz.prog 94 #[v, .int .i64 1] W fun e w' => e = .returned (.int .i64 ((l.getD 1 0 : Nat) : Int)) ∧ w' = W) := fun W hW => param_any 1 W (hN.keep hW) (by omega) (by omega)
  have hE : seqT t l 65 = { t with f := goF t.f (t.f.row - max 1 ((l.getD 0 0 : Nat) : Int)) t.f.col, waits := false } := by
    unfold seqT
    dsimp only
    rfl
  rw [hE]
  obtain ⟨k, hkk⟩ : ∃ k : Nat, l.getD 0 0 = k := ⟨_, rfl⟩
  obtain ⟨k2, hkk2⟩ : ∃ k : Nat, l.getD 1 0 = k := ⟨_, rfl⟩
  rw [hkk] at HP hk0 hs ⊢
  rw [hkk2] at HP1 hk1
  have hmx : max 1 (k : Int) = (k : Int) := by omega
  rw [hmx]
  have hs1 : (1 : Int) < (k : Int) := by omega
  have hs3 : ¬ (k : Int) ≤ 1 := by omega
  obtain ⟨t1, ht1⟩ : ∃ t1 : Tm, { t with f := goF t.f (t.f.row - (k : Int)) (t.f.col) } = t1 := ⟨_, rfl⟩
  have hE2 : ({ t with f := goF t.f (t.f.row - (k : Int)) (t.f.col), waits := false } : Tm) = { t1 with waits := false } := by rw [← ht1]
  rw [hE2]
  have HC : Hid (∀ W, TmS w0 W B G N cap t → Calls Tryz.prog 93 #[.pointer (some ⟨B, 0, none⟩), .int .i64 (t.f.row + -(k : Int)), .int .i64 (t.f.col)] W (TmD w0 W B G N cap t1)) := fun W hW => by
    have := goto_any (t.f.row - (k : Int)) (t.f.col) W hW (by rw [hrows]; omega) (by rw [hcols]; omega)
    rw [ht1] at this
    rwa [Int.sub_eq_add_neg] at this
  have wr_ : IntKind.i64.wrap (t.f.row + -(k : Int)) = t.f.row + -(k : Int) := by rw [IntWalk.i64_in _ (by omega)]
  have wr2 : IntKind.i64.wrap (-(k : Int)) = -(k : Int) := by rw [IntWalk.i64_in _ (by omega)]
  obtain ⟨⟨_, _, _, x3, x4⟩, _, _, _⟩ := h.box.cells
  clear h hok hE hE2 hkk hkk2 hs ht1 hmx hk hN HP1 hk1
  go_enter Tryz.func60, Tryz.ntmps60
  go_wp2_with fail
  go_fit (HP.out _ (KeepW.refl _ _))
  rintro e w1 ⟨rfl, rfl⟩
  go_wp2_with fail
  all_goals first | (exfalso; omega) | skip
  go_still_tail 13, (by kernel_rfl)
  have HS2 : Hid (TmS w0 w1.drew B G N cap t) := HS.out.next (Below.refl _ _).drew
  change wpList _ _ _ _ _ w1.drew
  go_wp2_with fail
  go_fit (HC.out _ HS2.out)
  rintro e w3 ⟨rfl, h3, k3⟩
  have HS3 := Lib.hid h3
  have HK3 : Hid (KeepW (NotBG B G) w1 w3) := (keep_drew _ _).trans k3
  clear h3 k3 HS HS2 HC x3 x4
  obtain ⟨_, _, ⟨_, x10, _, _⟩, hf⟩ := HS3.out.box.cells
  have hlt := HS3.out.box.lt
  have f10 := hf 10
  obtain ⟨a1, a2⟩ := HS3.out.waits_ false
  have HZ := Lib.hid (And.intro a1 (HK3.out.trans a2))
  clear hf a1 a2 HS3 HK3
  go_wp2_with fail
  go_end0
  exact ⟨rfl, HZ.out.1, HZ.out.2⟩

set_option maxRecDepth 20000 in
set_option maxHeartbeats 8000000 in
theorem tseq_661 {m n : Nat} {v : Value} {l : List Nat} (w : World) (h : TmS w0 w B G N cap t) (hok : OkF t.f m n) (_hL : TBlankW w0) (hN : NumsW (NotBG B G) w v l) (hl : l.length ≤ 1000) (h9 : ∀ x ∈ l, x ≤ 9999) (hs : l.getD 0 0 ≤ 1) :
    Calls Tryz.prog 60 #[.pointer (some ⟨B, 0, none⟩), .int .u8 66, v] w (TmD w0 w B G N cap (seqT t l 66)) := by
  have hm := hok.hm
  have hn := hok.hn
  have hrow := hok.row
  have hcol := hok.col
  have hrows := hok.rows
  have hcols := hok.cols
  have HS := Lib.hid h
  have HNN := Lib.hid hN
  have hk : ∀ i, l.getD i 0 ≤ 9999 := fun i => by
    rw [List.getD_eq_getElem?_getD]
    cases hi : l[i]? with
    | none => exact Nat.zero_le _
    | some x => exact h9 x (List.mem_of_getElem? hi)
  have hk0 := hk 0
  have hk1 := hk 1
  have HP : Hid (∀ W, KeepW (NotBG B G) w W → Calls Tryz.prog 94 #[v, .int .i64 0] W fun e w' => e = .returned (.int .i64 ((l.getD 0 0 : Nat) : Int)) ∧ w' = W) := fun W hW => param_any 0 W (hN.keep hW) (by omega) (by omega)
  have HP1 : Hid (∀ W, KeepW (NotBG B G) w W → Calls Tryz.prog 94 #[v, .int .i64 1] W fun e w' => e = .returned (.int .i64 ((l.getD 1 0 : Nat) : Int)) ∧ w' = W) := fun W hW => param_any 1 W (hN.keep hW) (by omega) (by omega)
  have hE : seqT t l 66 = { t with f := goF t.f (t.f.row + max 1 ((l.getD 0 0 : Nat) : Int)) t.f.col, waits := false } := by
    unfold seqT
    dsimp only
    rfl
  rw [hE]
  obtain ⟨k, hkk⟩ : ∃ k : Nat, l.getD 0 0 = k := ⟨_, rfl⟩
  obtain ⟨k2, hkk2⟩ : ∃ k : Nat, l.getD 1 0 = k := ⟨_, rfl⟩
  rw [hkk] at HP hk0 hs ⊢
  rw [hkk2] at HP1 hk1
  have hmx : max 1 (k : Int) = 1 := by omega
  rw [hmx]
  have hs1 : ¬ (1 : Int) < (k : Int) := by omega
  have hs3 : (k : Int) ≤ 1 := by omega
  obtain ⟨t1, ht1⟩ : ∃ t1 : Tm, { t with f := goF t.f (t.f.row + 1) (t.f.col) } = t1 := ⟨_, rfl⟩
  have hE2 : ({ t with f := goF t.f (t.f.row + 1) (t.f.col), waits := false } : Tm) = { t1 with waits := false } := by rw [← ht1]
  rw [hE2]
  have HC : Hid (∀ W, TmS w0 W B G N cap t → Calls Tryz.prog 93 #[.pointer (some ⟨B, 0, none⟩), .int .i64 (t.f.row + 1), .int .i64 (t.f.col)] W (TmD w0 W B G N cap t1)) := fun W hW => by
    have := goto_any (t.f.row + 1) (t.f.col) W hW (by rw [hrows]; omega) (by rw [hcols]; omega)
    rw [ht1] at this
    exact this
  have wr_ : IntKind.i64.wrap (t.f.row + 1) = t.f.row + 1 := by rw [IntWalk.i64_in _ (by omega)]
  have wr2 : IntKind.i64.wrap (-(k : Int)) = -(k : Int) := by rw [IntWalk.i64_in _ (by omega)]
  obtain ⟨⟨_, _, _, x3, x4⟩, _, _, _⟩ := h.box.cells
  clear h hok hE hE2 hkk hkk2 hs ht1 hmx hk hN HP1 hk1
  go_enter Tryz.func60, Tryz.ntmps60
  go_wp2_with fail
  go_fit (HP.out _ (KeepW.refl _ _))
  rintro e w1 ⟨rfl, rfl⟩
  go_wp2_with fail
  all_goals first | (exfalso; omega) | skip
  go_still_tail 13, (by kernel_rfl)
  have HS2 : Hid (TmS w0 w1.drew B G N cap t) := HS.out.next (Below.refl _ _).drew
  change wpList _ _ _ _ _ w1.drew
  go_wp2_with fail
  go_fit (HC.out _ HS2.out)
  rintro e w3 ⟨rfl, h3, k3⟩
  have HS3 := Lib.hid h3
  have HK3 : Hid (KeepW (NotBG B G) w1 w3) := (keep_drew _ _).trans k3
  clear h3 k3 HS HS2 HC x3 x4
  obtain ⟨_, _, ⟨_, x10, _, _⟩, hf⟩ := HS3.out.box.cells
  have hlt := HS3.out.box.lt
  have f10 := hf 10
  obtain ⟨a1, a2⟩ := HS3.out.waits_ false
  have HZ := Lib.hid (And.intro a1 (HK3.out.trans a2))
  clear hf a1 a2 HS3 HK3
  go_wp2_with fail
  go_end0
  exact ⟨rfl, HZ.out.1, HZ.out.2⟩

set_option maxRecDepth 20000 in
set_option maxHeartbeats 8000000 in
theorem tseq_66n {m n : Nat} {v : Value} {l : List Nat} (w : World) (h : TmS w0 w B G N cap t) (hok : OkF t.f m n) (_hL : TBlankW w0) (hN : NumsW (NotBG B G) w v l) (hl : l.length ≤ 1000) (h9 : ∀ x ∈ l, x ≤ 9999) (hs : 1 < l.getD 0 0) :
    Calls Tryz.prog 60 #[.pointer (some ⟨B, 0, none⟩), .int .u8 66, v] w (TmD w0 w B G N cap (seqT t l 66)) := by
  have hm := hok.hm
  have hn := hok.hn
  have hrow := hok.row
  have hcol := hok.col
  have hrows := hok.rows
  have hcols := hok.cols
  have HS := Lib.hid h
  have HNN := Lib.hid hN
  have hk : ∀ i, l.getD i 0 ≤ 9999 := fun i => by
    rw [List.getD_eq_getElem?_getD]
    cases hi : l[i]? with
    | none => exact Nat.zero_le _
    | some x => exact h9 x (List.mem_of_getElem? hi)
  have hk0 := hk 0
  have hk1 := hk 1
  have HP : Hid (∀ W, KeepW (NotBG B G) w W → Calls Tryz.prog 94 #[v, .int .i64 0] W fun e w' => e = .returned (.int .i64 ((l.getD 0 0 : Nat) : Int)) ∧ w' = W) := fun W hW => param_any 0 W (hN.keep hW) (by omega) (by omega)
  have HP1 : Hid (∀ W, KeepW (NotBG B G) w W → Calls Tryz.prog 94 #[v, .int .i64 1] W fun e w' => e = .returned (.int .i64 ((l.getD 1 0 : Nat) : Int)) ∧ w' = W) := fun W hW => param_any 1 W (hN.keep hW) (by omega) (by omega)
  have hE : seqT t l 66 = { t with f := goF t.f (t.f.row + max 1 ((l.getD 0 0 : Nat) : Int)) t.f.col, waits := false } := by
    unfold seqT
    dsimp only
    rfl
  rw [hE]
  obtain ⟨k, hkk⟩ : ∃ k : Nat, l.getD 0 0 = k := ⟨_, rfl⟩
  obtain ⟨k2, hkk2⟩ : ∃ k : Nat, l.getD 1 0 = k := ⟨_, rfl⟩
  rw [hkk] at HP hk0 hs ⊢
  rw [hkk2] at HP1 hk1
  have hmx : max 1 (k : Int) = (k : Int) := by omega
  rw [hmx]
  have hs1 : (1 : Int) < (k : Int) := by omega
  have hs3 : ¬ (k : Int) ≤ 1 := by omega
  obtain ⟨t1, ht1⟩ : ∃ t1 : Tm, { t with f := goF t.f (t.f.row + (k : Int)) (t.f.col) } = t1 := ⟨_, rfl⟩
  have hE2 : ({ t with f := goF t.f (t.f.row + (k : Int)) (t.f.col), waits := false } : Tm) = { t1 with waits := false } := by rw [← ht1]
  rw [hE2]
  have HC : Hid (∀ W, TmS w0 W B G N cap t → Calls Tryz.prog 93 #[.pointer (some ⟨B, 0, none⟩), .int .i64 (t.f.row + (k : Int)), .int .i64 (t.f.col)] W (TmD w0 W B G N cap t1)) := fun W hW => by
    have := goto_any (t.f.row + (k : Int)) (t.f.col) W hW (by rw [hrows]; omega) (by rw [hcols]; omega)
    rw [ht1] at this
    exact this
  have wr_ : IntKind.i64.wrap (t.f.row + (k : Int)) = t.f.row + (k : Int) := by rw [IntWalk.i64_in _ (by omega)]
  have wr2 : IntKind.i64.wrap (-(k : Int)) = -(k : Int) := by rw [IntWalk.i64_in _ (by omega)]
  obtain ⟨⟨_, _, _, x3, x4⟩, _, _, _⟩ := h.box.cells
  clear h hok hE hE2 hkk hkk2 hs ht1 hmx hk hN HP1 hk1
  go_enter Tryz.func60, Tryz.ntmps60
  go_wp2_with fail
  go_fit (HP.out _ (KeepW.refl _ _))
  rintro e w1 ⟨rfl, rfl⟩
  go_wp2_with fail
  all_goals first | (exfalso; omega) | skip
  go_still_tail 13, (by kernel_rfl)
  have HS2 : Hid (TmS w0 w1.drew B G N cap t) := HS.out.next (Below.refl _ _).drew
  change wpList _ _ _ _ _ w1.drew
  go_wp2_with fail
  go_fit (HC.out _ HS2.out)
  rintro e w3 ⟨rfl, h3, k3⟩
  have HS3 := Lib.hid h3
  have HK3 : Hid (KeepW (NotBG B G) w1 w3) := (keep_drew _ _).trans k3
  clear h3 k3 HS HS2 HC x3 x4
  obtain ⟨_, _, ⟨_, x10, _, _⟩, hf⟩ := HS3.out.box.cells
  have hlt := HS3.out.box.lt
  have f10 := hf 10
  obtain ⟨a1, a2⟩ := HS3.out.waits_ false
  have HZ := Lib.hid (And.intro a1 (HK3.out.trans a2))
  clear hf a1 a2 HS3 HK3
  go_wp2_with fail
  go_end0
  exact ⟨rfl, HZ.out.1, HZ.out.2⟩

set_option maxRecDepth 20000 in
set_option maxHeartbeats 8000000 in
theorem tseq_671 {m n : Nat} {v : Value} {l : List Nat} (w : World) (h : TmS w0 w B G N cap t) (hok : OkF t.f m n) (_hL : TBlankW w0) (hN : NumsW (NotBG B G) w v l) (hl : l.length ≤ 1000) (h9 : ∀ x ∈ l, x ≤ 9999) (hs : l.getD 0 0 ≤ 1) :
    Calls Tryz.prog 60 #[.pointer (some ⟨B, 0, none⟩), .int .u8 67, v] w (TmD w0 w B G N cap (seqT t l 67)) := by
  have hm := hok.hm
  have hn := hok.hn
  have hrow := hok.row
  have hcol := hok.col
  have hrows := hok.rows
  have hcols := hok.cols
  have HS := Lib.hid h
  have HNN := Lib.hid hN
  have hk : ∀ i, l.getD i 0 ≤ 9999 := fun i => by
    rw [List.getD_eq_getElem?_getD]
    cases hi : l[i]? with
    | none => exact Nat.zero_le _
    | some x => exact h9 x (List.mem_of_getElem? hi)
  have hk0 := hk 0
  have hk1 := hk 1
  have HP : Hid (∀ W, KeepW (NotBG B G) w W → Calls Tryz.prog 94 #[v, .int .i64 0] W fun e w' => e = .returned (.int .i64 ((l.getD 0 0 : Nat) : Int)) ∧ w' = W) := fun W hW => param_any 0 W (hN.keep hW) (by omega) (by omega)
  have HP1 : Hid (∀ W, KeepW (NotBG B G) w W → Calls Tryz.prog 94 #[v, .int .i64 1] W fun e w' => e = .returned (.int .i64 ((l.getD 1 0 : Nat) : Int)) ∧ w' = W) := fun W hW => param_any 1 W (hN.keep hW) (by omega) (by omega)
  have hE : seqT t l 67 = { t with f := goF t.f t.f.row (t.f.col + max 1 ((l.getD 0 0 : Nat) : Int)), waits := false } := by
    unfold seqT
    dsimp only
    rfl
  rw [hE]
  obtain ⟨k, hkk⟩ : ∃ k : Nat, l.getD 0 0 = k := ⟨_, rfl⟩
  obtain ⟨k2, hkk2⟩ : ∃ k : Nat, l.getD 1 0 = k := ⟨_, rfl⟩
  rw [hkk] at HP hk0 hs ⊢
  rw [hkk2] at HP1 hk1
  have hmx : max 1 (k : Int) = 1 := by omega
  rw [hmx]
  have hs1 : ¬ (1 : Int) < (k : Int) := by omega
  have hs3 : (k : Int) ≤ 1 := by omega
  obtain ⟨t1, ht1⟩ : ∃ t1 : Tm, { t with f := goF t.f (t.f.row) (t.f.col + 1) } = t1 := ⟨_, rfl⟩
  have hE2 : ({ t with f := goF t.f (t.f.row) (t.f.col + 1), waits := false } : Tm) = { t1 with waits := false } := by rw [← ht1]
  rw [hE2]
  have HC : Hid (∀ W, TmS w0 W B G N cap t → Calls Tryz.prog 93 #[.pointer (some ⟨B, 0, none⟩), .int .i64 (t.f.row), .int .i64 (t.f.col + 1)] W (TmD w0 W B G N cap t1)) := fun W hW => by
    have := goto_any (t.f.row) (t.f.col + 1) W hW (by rw [hrows]; omega) (by rw [hcols]; omega)
    rw [ht1] at this
    exact this
  have wr_ : IntKind.i64.wrap (t.f.col + 1) = t.f.col + 1 := by rw [IntWalk.i64_in _ (by omega)]
  have wr2 : IntKind.i64.wrap (-(k : Int)) = -(k : Int) := by rw [IntWalk.i64_in _ (by omega)]
  obtain ⟨⟨_, _, _, x3, x4⟩, _, _, _⟩ := h.box.cells
  clear h hok hE hE2 hkk hkk2 hs ht1 hmx hk hN HP1 hk1
  go_enter Tryz.func60, Tryz.ntmps60
  go_wp2_with fail
  go_fit (HP.out _ (KeepW.refl _ _))
  rintro e w1 ⟨rfl, rfl⟩
  go_wp2_with fail
  all_goals first | (exfalso; omega) | skip
  go_still_tail 13, (by kernel_rfl)
  have HS2 : Hid (TmS w0 w1.drew B G N cap t) := HS.out.next (Below.refl _ _).drew
  change wpList _ _ _ _ _ w1.drew
  go_wp2_with fail
  go_fit (HC.out _ HS2.out)
  rintro e w3 ⟨rfl, h3, k3⟩
  have HS3 := Lib.hid h3
  have HK3 : Hid (KeepW (NotBG B G) w1 w3) := (keep_drew _ _).trans k3
  clear h3 k3 HS HS2 HC x3 x4
  obtain ⟨_, _, ⟨_, x10, _, _⟩, hf⟩ := HS3.out.box.cells
  have hlt := HS3.out.box.lt
  have f10 := hf 10
  obtain ⟨a1, a2⟩ := HS3.out.waits_ false
  have HZ := Lib.hid (And.intro a1 (HK3.out.trans a2))
  clear hf a1 a2 HS3 HK3
  go_wp2_with fail
  go_end0
  exact ⟨rfl, HZ.out.1, HZ.out.2⟩

set_option maxRecDepth 20000 in
set_option maxHeartbeats 8000000 in
theorem tseq_67n {m n : Nat} {v : Value} {l : List Nat} (w : World) (h : TmS w0 w B G N cap t) (hok : OkF t.f m n) (_hL : TBlankW w0) (hN : NumsW (NotBG B G) w v l) (hl : l.length ≤ 1000) (h9 : ∀ x ∈ l, x ≤ 9999) (hs : 1 < l.getD 0 0) :
    Calls Tryz.prog 60 #[.pointer (some ⟨B, 0, none⟩), .int .u8 67, v] w (TmD w0 w B G N cap (seqT t l 67)) := by
  have hm := hok.hm
  have hn := hok.hn
  have hrow := hok.row
  have hcol := hok.col
  have hrows := hok.rows
  have hcols := hok.cols
  have HS := Lib.hid h
  have HNN := Lib.hid hN
  have hk : ∀ i, l.getD i 0 ≤ 9999 := fun i => by
    rw [List.getD_eq_getElem?_getD]
    cases hi : l[i]? with
    | none => exact Nat.zero_le _
    | some x => exact h9 x (List.mem_of_getElem? hi)
  have hk0 := hk 0
  have hk1 := hk 1
  have HP : Hid (∀ W, KeepW (NotBG B G) w W → Calls Tryz.prog 94 #[v, .int .i64 0] W fun e w' => e = .returned (.int .i64 ((l.getD 0 0 : Nat) : Int)) ∧ w' = W) := fun W hW => param_any 0 W (hN.keep hW) (by omega) (by omega)
  have HP1 : Hid (∀ W, KeepW (NotBG B G) w W → Calls Tryz.prog 94 #[v, .int .i64 1] W fun e w' => e = .returned (.int .i64 ((l.getD 1 0 : Nat) : Int)) ∧ w' = W) := fun W hW => param_any 1 W (hN.keep hW) (by omega) (by omega)
  have hE : seqT t l 67 = { t with f := goF t.f t.f.row (t.f.col + max 1 ((l.getD 0 0 : Nat) : Int)), waits := false } := by
    unfold seqT
    dsimp only
    rfl
  rw [hE]
  obtain ⟨k, hkk⟩ : ∃ k : Nat, l.getD 0 0 = k := ⟨_, rfl⟩
  obtain ⟨k2, hkk2⟩ : ∃ k : Nat, l.getD 1 0 = k := ⟨_, rfl⟩
  rw [hkk] at HP hk0 hs ⊢
  rw [hkk2] at HP1 hk1
  have hmx : max 1 (k : Int) = (k : Int) := by omega
  rw [hmx]
  have hs1 : (1 : Int) < (k : Int) := by omega
  have hs3 : ¬ (k : Int) ≤ 1 := by omega
  obtain ⟨t1, ht1⟩ : ∃ t1 : Tm, { t with f := goF t.f (t.f.row) (t.f.col + (k : Int)) } = t1 := ⟨_, rfl⟩
  have hE2 : ({ t with f := goF t.f (t.f.row) (t.f.col + (k : Int)), waits := false } : Tm) = { t1 with waits := false } := by rw [← ht1]
  rw [hE2]
  have HC : Hid (∀ W, TmS w0 W B G N cap t → Calls Tryz.prog 93 #[.pointer (some ⟨B, 0, none⟩), .int .i64 (t.f.row), .int .i64 (t.f.col + (k : Int))] W (TmD w0 W B G N cap t1)) := fun W hW => by
    have := goto_any (t.f.row) (t.f.col + (k : Int)) W hW (by rw [hrows]; omega) (by rw [hcols]; omega)
    rw [ht1] at this
    exact this
  have wr_ : IntKind.i64.wrap (t.f.col + (k : Int)) = t.f.col + (k : Int) := by rw [IntWalk.i64_in _ (by omega)]
  have wr2 : IntKind.i64.wrap (-(k : Int)) = -(k : Int) := by rw [IntWalk.i64_in _ (by omega)]
  obtain ⟨⟨_, _, _, x3, x4⟩, _, _, _⟩ := h.box.cells
  clear h hok hE hE2 hkk hkk2 hs ht1 hmx hk hN HP1 hk1
  go_enter Tryz.func60, Tryz.ntmps60
  go_wp2_with fail
  go_fit (HP.out _ (KeepW.refl _ _))
  rintro e w1 ⟨rfl, rfl⟩
  go_wp2_with fail
  all_goals first | (exfalso; omega) | skip
  go_still_tail 13, (by kernel_rfl)
  have HS2 : Hid (TmS w0 w1.drew B G N cap t) := HS.out.next (Below.refl _ _).drew
  change wpList _ _ _ _ _ w1.drew
  go_wp2_with fail
  go_fit (HC.out _ HS2.out)
  rintro e w3 ⟨rfl, h3, k3⟩
  have HS3 := Lib.hid h3
  have HK3 : Hid (KeepW (NotBG B G) w1 w3) := (keep_drew _ _).trans k3
  clear h3 k3 HS HS2 HC x3 x4
  obtain ⟨_, _, ⟨_, x10, _, _⟩, hf⟩ := HS3.out.box.cells
  have hlt := HS3.out.box.lt
  have f10 := hf 10
  obtain ⟨a1, a2⟩ := HS3.out.waits_ false
  have HZ := Lib.hid (And.intro a1 (HK3.out.trans a2))
  clear hf a1 a2 HS3 HK3
  go_wp2_with fail
  go_end0
  exact ⟨rfl, HZ.out.1, HZ.out.2⟩

set_option maxRecDepth 20000 in
set_option maxHeartbeats 8000000 in
theorem tseq_681 {m n : Nat} {v : Value} {l : List Nat} (w : World) (h : TmS w0 w B G N cap t) (hok : OkF t.f m n) (_hL : TBlankW w0) (hN : NumsW (NotBG B G) w v l) (hl : l.length ≤ 1000) (h9 : ∀ x ∈ l, x ≤ 9999) (hs : l.getD 0 0 ≤ 1) :
    Calls Tryz.prog 60 #[.pointer (some ⟨B, 0, none⟩), .int .u8 68, v] w (TmD w0 w B G N cap (seqT t l 68)) := by
  have hm := hok.hm
  have hn := hok.hn
  have hrow := hok.row
  have hcol := hok.col
  have hrows := hok.rows
  have hcols := hok.cols
  have HS := Lib.hid h
  have HNN := Lib.hid hN
  have hk : ∀ i, l.getD i 0 ≤ 9999 := fun i => by
    rw [List.getD_eq_getElem?_getD]
    cases hi : l[i]? with
    | none => exact Nat.zero_le _
    | some x => exact h9 x (List.mem_of_getElem? hi)
  have hk0 := hk 0
  have hk1 := hk 1
  have HP : Hid (∀ W, KeepW (NotBG B G) w W → Calls Tryz.prog 94 #[v, .int .i64 0] W fun e w' => e = .returned (.int .i64 ((l.getD 0 0 : Nat) : Int)) ∧ w' = W) := fun W hW => param_any 0 W (hN.keep hW) (by omega) (by omega)
  have HP1 : Hid (∀ W, KeepW (NotBG B G) w W → Calls Tryz.prog 94 #[v, .int .i64 1] W fun e w' => e = .returned (.int .i64 ((l.getD 1 0 : Nat) : Int)) ∧ w' = W) := fun W hW => param_any 1 W (hN.keep hW) (by omega) (by omega)
  have hE : seqT t l 68 = { t with f := goF t.f t.f.row (t.f.col - max 1 ((l.getD 0 0 : Nat) : Int)), waits := false } := by
    unfold seqT
    dsimp only
    rfl
  rw [hE]
  obtain ⟨k, hkk⟩ : ∃ k : Nat, l.getD 0 0 = k := ⟨_, rfl⟩
  obtain ⟨k2, hkk2⟩ : ∃ k : Nat, l.getD 1 0 = k := ⟨_, rfl⟩
  rw [hkk] at HP hk0 hs ⊢
  rw [hkk2] at HP1 hk1
  have hmx : max 1 (k : Int) = 1 := by omega
  rw [hmx]
  have hs1 : ¬ (1 : Int) < (k : Int) := by omega
  have hs3 : (k : Int) ≤ 1 := by omega
  obtain ⟨t1, ht1⟩ : ∃ t1 : Tm, { t with f := goF t.f (t.f.row) (t.f.col - 1) } = t1 := ⟨_, rfl⟩
  have hE2 : ({ t with f := goF t.f (t.f.row) (t.f.col - 1), waits := false } : Tm) = { t1 with waits := false } := by rw [← ht1]
  rw [hE2]
  have HC : Hid (∀ W, TmS w0 W B G N cap t → Calls Tryz.prog 93 #[.pointer (some ⟨B, 0, none⟩), .int .i64 (t.f.row), .int .i64 (t.f.col + -1)] W (TmD w0 W B G N cap t1)) := fun W hW => by
    have := goto_any (t.f.row) (t.f.col - 1) W hW (by rw [hrows]; omega) (by rw [hcols]; omega)
    rw [ht1] at this
    rwa [Int.sub_eq_add_neg] at this
  have wr_ : IntKind.i64.wrap (t.f.col + -1) = t.f.col + -1 := by rw [IntWalk.i64_in _ (by omega)]
  have wr2 : IntKind.i64.wrap (-(k : Int)) = -(k : Int) := by rw [IntWalk.i64_in _ (by omega)]
  obtain ⟨⟨_, _, _, x3, x4⟩, _, _, _⟩ := h.box.cells
  clear h hok hE hE2 hkk hkk2 hs ht1 hmx hk hN HP1 hk1
  go_enter Tryz.func60, Tryz.ntmps60
  go_wp2_with fail
  go_fit (HP.out _ (KeepW.refl _ _))
  rintro e w1 ⟨rfl, rfl⟩
  go_wp2_with fail
  all_goals first | (exfalso; omega) | skip
  go_still_tail 13, (by kernel_rfl)
  have HS2 : Hid (TmS w0 w1.drew B G N cap t) := HS.out.next (Below.refl _ _).drew
  change wpList _ _ _ _ _ w1.drew
  go_wp2_with fail
  go_fit (HC.out _ HS2.out)
  rintro e w3 ⟨rfl, h3, k3⟩
  have HS3 := Lib.hid h3
  have HK3 : Hid (KeepW (NotBG B G) w1 w3) := (keep_drew _ _).trans k3
  clear h3 k3 HS HS2 HC x3 x4
  obtain ⟨_, _, ⟨_, x10, _, _⟩, hf⟩ := HS3.out.box.cells
  have hlt := HS3.out.box.lt
  have f10 := hf 10
  obtain ⟨a1, a2⟩ := HS3.out.waits_ false
  have HZ := Lib.hid (And.intro a1 (HK3.out.trans a2))
  clear hf a1 a2 HS3 HK3
  go_wp2_with fail
  go_end0
  exact ⟨rfl, HZ.out.1, HZ.out.2⟩

set_option maxRecDepth 20000 in
set_option maxHeartbeats 8000000 in
theorem tseq_68n {m n : Nat} {v : Value} {l : List Nat} (w : World) (h : TmS w0 w B G N cap t) (hok : OkF t.f m n) (_hL : TBlankW w0) (hN : NumsW (NotBG B G) w v l) (hl : l.length ≤ 1000) (h9 : ∀ x ∈ l, x ≤ 9999) (hs : 1 < l.getD 0 0) :
    Calls Tryz.prog 60 #[.pointer (some ⟨B, 0, none⟩), .int .u8 68, v] w (TmD w0 w B G N cap (seqT t l 68)) := by
  have hm := hok.hm
  have hn := hok.hn
  have hrow := hok.row
  have hcol := hok.col
  have hrows := hok.rows
  have hcols := hok.cols
  have HS := Lib.hid h
  have HNN := Lib.hid hN
  have hk : ∀ i, l.getD i 0 ≤ 9999 := fun i => by
    rw [List.getD_eq_getElem?_getD]
    cases hi : l[i]? with
    | none => exact Nat.zero_le _
    | some x => exact h9 x (List.mem_of_getElem? hi)
  have hk0 := hk 0
  have hk1 := hk 1
  have HP : Hid (∀ W, KeepW (NotBG B G) w W → Calls Tryz.prog 94 #[v, .int .i64 0] W fun e w' => e = .returned (.int .i64 ((l.getD 0 0 : Nat) : Int)) ∧ w' = W) := fun W hW => param_any 0 W (hN.keep hW) (by omega) (by omega)
  have HP1 : Hid (∀ W, KeepW (NotBG B G) w W → Calls Tryz.prog 94 #[v, .int .i64 1] W fun e w' => e = .returned (.int .i64 ((l.getD 1 0 : Nat) : Int)) ∧ w' = W) := fun W hW => param_any 1 W (hN.keep hW) (by omega) (by omega)
  have hE : seqT t l 68 = { t with f := goF t.f t.f.row (t.f.col - max 1 ((l.getD 0 0 : Nat) : Int)), waits := false } := by
    unfold seqT
    dsimp only
    rfl
  rw [hE]
  obtain ⟨k, hkk⟩ : ∃ k : Nat, l.getD 0 0 = k := ⟨_, rfl⟩
  obtain ⟨k2, hkk2⟩ : ∃ k : Nat, l.getD 1 0 = k := ⟨_, rfl⟩
  rw [hkk] at HP hk0 hs ⊢
  rw [hkk2] at HP1 hk1
  have hmx : max 1 (k : Int) = (k : Int) := by omega
  rw [hmx]
  have hs1 : (1 : Int) < (k : Int) := by omega
  have hs3 : ¬ (k : Int) ≤ 1 := by omega
  obtain ⟨t1, ht1⟩ : ∃ t1 : Tm, { t with f := goF t.f (t.f.row) (t.f.col - (k : Int)) } = t1 := ⟨_, rfl⟩
  have hE2 : ({ t with f := goF t.f (t.f.row) (t.f.col - (k : Int)), waits := false } : Tm) = { t1 with waits := false } := by rw [← ht1]
  rw [hE2]
  have HC : Hid (∀ W, TmS w0 W B G N cap t → Calls Tryz.prog 93 #[.pointer (some ⟨B, 0, none⟩), .int .i64 (t.f.row), .int .i64 (t.f.col + -(k : Int))] W (TmD w0 W B G N cap t1)) := fun W hW => by
    have := goto_any (t.f.row) (t.f.col - (k : Int)) W hW (by rw [hrows]; omega) (by rw [hcols]; omega)
    rw [ht1] at this
    rwa [Int.sub_eq_add_neg] at this
  have wr_ : IntKind.i64.wrap (t.f.col + -(k : Int)) = t.f.col + -(k : Int) := by rw [IntWalk.i64_in _ (by omega)]
  have wr2 : IntKind.i64.wrap (-(k : Int)) = -(k : Int) := by rw [IntWalk.i64_in _ (by omega)]
  obtain ⟨⟨_, _, _, x3, x4⟩, _, _, _⟩ := h.box.cells
  clear h hok hE hE2 hkk hkk2 hs ht1 hmx hk hN HP1 hk1
  go_enter Tryz.func60, Tryz.ntmps60
  go_wp2_with fail
  go_fit (HP.out _ (KeepW.refl _ _))
  rintro e w1 ⟨rfl, rfl⟩
  go_wp2_with fail
  all_goals first | (exfalso; omega) | skip
  go_still_tail 13, (by kernel_rfl)
  have HS2 : Hid (TmS w0 w1.drew B G N cap t) := HS.out.next (Below.refl _ _).drew
  change wpList _ _ _ _ _ w1.drew
  go_wp2_with fail
  go_fit (HC.out _ HS2.out)
  rintro e w3 ⟨rfl, h3, k3⟩
  have HS3 := Lib.hid h3
  have HK3 : Hid (KeepW (NotBG B G) w1 w3) := (keep_drew _ _).trans k3
  clear h3 k3 HS HS2 HC x3 x4
  obtain ⟨_, _, ⟨_, x10, _, _⟩, hf⟩ := HS3.out.box.cells
  have hlt := HS3.out.box.lt
  have f10 := hf 10
  obtain ⟨a1, a2⟩ := HS3.out.waits_ false
  have HZ := Lib.hid (And.intro a1 (HK3.out.trans a2))
  clear hf a1 a2 HS3 HK3
  go_wp2_with fail
  go_end0
  exact ⟨rfl, HZ.out.1, HZ.out.2⟩

set_option maxRecDepth 20000 in
set_option maxHeartbeats 8000000 in
theorem tseq_72 {m n : Nat} {v : Value} {l : List Nat} (w : World) (h : TmS w0 w B G N cap t) (hok : OkF t.f m n) (_hL : TBlankW w0) (hN : NumsW (NotBG B G) w v l) (hl : l.length ≤ 1000) (h9 : ∀ x ∈ l, x ≤ 9999) :
    Calls Tryz.prog 60 #[.pointer (some ⟨B, 0, none⟩), .int .u8 72, v] w (TmD w0 w B G N cap (seqT t l 72)) := by
  have hm := hok.hm
  have hn := hok.hn
  have hrow := hok.row
  have hcol := hok.col
  have hrows := hok.rows
  have hcols := hok.cols
  have HS := Lib.hid h
  have HNN := Lib.hid hN
  have hk : ∀ i, l.getD i 0 ≤ 9999 := fun i => by
    rw [List.getD_eq_getElem?_getD]
    cases hi : l[i]? with
    | none => exact Nat.zero_le _
    | some x => exact h9 x (List.mem_of_getElem? hi)
  have hk0 := hk 0
  have hk1 := hk 1
  have HP : Hid (∀ W, KeepW (NotBG B G) w W → Calls Tryz.prog 94 #[v, .int .i64 0] W fun e w' => e = .returned (.int .i64 ((l.getD 0 0 : Nat) : Int)) ∧ w' = W) := fun W hW => param_any 0 W (hN.keep hW) (by omega) (by omega)
  have HP1 : Hid (∀ W, KeepW (NotBG B G) w W → Calls Tryz.prog 94 #[v, .int .i64 1] W fun e w' => e = .returned (.int .i64 ((l.getD 1 0 : Nat) : Int)) ∧ w' = W) := fun W hW => param_any 1 W (hN.keep hW) (by omega) (by omega)
  have hE : seqT t l 72 = { t with f := goF t.f (((l.getD 0 0 : Nat) : Int) - 1) (((l.getD 1 0 : Nat) : Int) - 1), waits := false } := by
    unfold seqT
    dsimp only
    rfl
  rw [hE]
  obtain ⟨k, hkk⟩ : ∃ k : Nat, l.getD 0 0 = k := ⟨_, rfl⟩
  obtain ⟨k2, hkk2⟩ : ∃ k : Nat, l.getD 1 0 = k := ⟨_, rfl⟩
  rw [hkk] at HP hk0 ⊢
  rw [hkk2] at HP1 hk1 ⊢
  obtain ⟨t1, ht1⟩ : ∃ t1 : Tm, { t with f := goF t.f ((k : Int) - 1) ((k2 : Int) - 1) } = t1 := ⟨_, rfl⟩
  have hE2 : ({ t with f := goF t.f ((k : Int) - 1) ((k2 : Int) - 1), waits := false } : Tm) = { t1 with waits := false } := by rw [← ht1]
  rw [hE2]
  have HC : Hid (∀ W, TmS w0 W B G N cap t → Calls Tryz.prog 93 #[.pointer (some ⟨B, 0, none⟩), .int .i64 ((k : Int) - 1), .int .i64 ((k2 : Int) - 1)] W (TmD w0 W B G N cap t1)) := fun W hW => by
    have := goto_any ((k : Int) - 1) ((k2 : Int) - 1) W hW (by rw [hrows]; omega) (by rw [hcols]; omega)
    rwa [ht1] at this
  clear h hok hE hE2 hkk hkk2 ht1 hk hN
  go_enter Tryz.func60, Tryz.ntmps60
  go_wp2_with fail
  go_fit (HP.out _ (KeepW.refl _ _))
  rintro e w1 ⟨rfl, rfl⟩
  go_wp2_with fail
  all_goals
    go_fit (HP1.out _ (KeepW.refl _ _))
    rintro e w2 ⟨rfl, rfl⟩
    go_wp2_with fail
    go_fit (HC.out _ HS.out)
    rintro e w3 ⟨rfl, h3, k3⟩
    have HS3 := Lib.hid h3
    have HK3 := Lib.hid k3
    clear h3 k3
    obtain ⟨_, _, ⟨_, x10, _, _⟩, hf⟩ := HS3.out.box.cells
    have hlt := HS3.out.box.lt
    have f10 := hf 10
    obtain ⟨a1, a2⟩ := HS3.out.waits_ false
    have HZ := Lib.hid (And.intro a1 (HK3.out.trans a2))
    clear hf a1 a2 HS3 HK3
    go_wp2_with fail
    go_end0
    exact ⟨rfl, HZ.out.1, HZ.out.2⟩

set_option maxRecDepth 20000 in
set_option maxHeartbeats 8000000 in
theorem tseq_74 {m n : Nat} {v : Value} {l : List Nat} (w : World) (h : TmS w0 w B G N cap t) (hok : OkF t.f m n) (hL : TBlankW w0) (hN : NumsW (NotBG B G) w v l) (hl : l.length ≤ 1000) (h9 : ∀ x ∈ l, x ≤ 9999) :
    Calls Tryz.prog 60 #[.pointer (some ⟨B, 0, none⟩), .int .u8 74, v] w (TmD w0 w B G N cap (seqT t l 74)) := by
  have hm := hok.hm
  have hn := hok.hn
  have hrow := hok.row
  have hcol := hok.col
  have hrows := hok.rows
  have hcols := hok.cols
  have HS := Lib.hid h
  have HNN := Lib.hid hN
  have hk : ∀ i, l.getD i 0 ≤ 9999 := fun i => by
    rw [List.getD_eq_getElem?_getD]
    cases hi : l[i]? with
    | none => exact Nat.zero_le _
    | some x => exact h9 x (List.mem_of_getElem? hi)
  have hk0 := hk 0
  have hk1 := hk 1
  have HP : Hid (∀ W, KeepW (NotBG B G) w W → Calls Tryz.prog 94 #[v, .int .i64 0] W fun e w' => e = .returned (.int .i64 ((l.getD 0 0 : Nat) : Int)) ∧ w' = W) := fun W hW => param_any 0 W (hN.keep hW) (by omega) (by omega)
  have HP1 : Hid (∀ W, KeepW (NotBG B G) w W → Calls Tryz.prog 94 #[v, .int .i64 1] W fun e w' => e = .returned (.int .i64 ((l.getD 1 0 : Nat) : Int)) ∧ w' = W) := fun W hW => param_any 1 W (hN.keep hW) (by omega) (by omega)
  have hE : seqT t l 74 = { t with f := rowE (rowsE t.f (l.getD 0 0)) (l.getD 0 0), waits := false } := by
    unfold seqT
    dsimp only
    rfl
  rw [hE]
  obtain ⟨k, hkk⟩ : ∃ k : Nat, l.getD 0 0 = k := ⟨_, rfl⟩
  obtain ⟨k2, hkk2⟩ : ∃ k : Nat, l.getD 1 0 = k := ⟨_, rfl⟩
  rw [hkk] at HP hk0 ⊢
  rw [hkk2] at HP1 hk1
  obtain ⟨t1, ht1⟩ : ∃ t1 : Tm, { t with f := rowE (rowsE t.f k) k } = t1 := ⟨_, rfl⟩
  have hE2 : ({ t with f := rowE (rowsE t.f k) k, waits := false } : Tm) = { t1 with waits := false } := by rw [← ht1]
  rw [hE2]
  obtain ⟨t2, ht2⟩ : ∃ t2 : Tm, { t with f := rowsE t.f k } = t2 := ⟨_, rfl⟩
  have hok2 : OkF t2.f m n := by rw [← ht2]; exact rowsE_ok hok k
  have HC2 : Hid (∀ W, TmS w0 W B G N cap t → Calls Tryz.prog 95 #[.pointer (some ⟨B, 0, none⟩), .int .i64 (k : Int)] W (TmD w0 W B G N cap t2)) := fun W hW => by
    have := trowsE_any k W hW hok hL
    rwa [ht2] at this
  have HC : Hid (∀ W, TmS w0 W B G N cap t2 → Calls Tryz.prog 96 #[.pointer (some ⟨B, 0, none⟩), .int .i64 (k : Int)] W (TmD w0 W B G N cap t1)) := fun W hW => by
    have := trowE_any k W hW hok2 hL
    have e : ({ t2 with f := rowE t2.f k } : Tm) = t1 := by rw [← ht2, ← ht1]
    rwa [e] at this
  clear ht2 hok2
  clear h hok hL hE hE2 hkk hkk2 ht1 hk hN HP1 hk1
  go_enter Tryz.func60, Tryz.ntmps60
  go_wp2_with fail
  go_fit (HP.out _ (KeepW.refl _ _))
  rintro e w1 ⟨rfl, rfl⟩
  go_wp2_with fail
  all_goals
    go_fit (HC2.out _ HS.out)
    rintro e w2 ⟨rfl, h2, k2'⟩
    have HS2 := Lib.hid h2
    have HK2 := Lib.hid k2'
    clear h2 k2'
    go_wp2_with fail
    go_fit (HC.out _ HS2.out)
    rintro e w3 ⟨rfl, h3, k3⟩
    have HS3 := Lib.hid h3
    have HK3 : Hid (KeepW (NotBG B G) w1 w3) := HK2.out.trans k3
    clear h3 k3 HS2 HK2
    obtain ⟨_, _, ⟨_, x10, _, _⟩, hf⟩ := HS3.out.box.cells
    have hlt := HS3.out.box.lt
    have f10 := hf 10
    obtain ⟨a1, a2⟩ := HS3.out.waits_ false
    have HZ := Lib.hid (And.intro a1 (HK3.out.trans a2))
    clear hf a1 a2 HS3 HK3
    go_wp2_with fail
    go_end0
    exact ⟨rfl, HZ.out.1, HZ.out.2⟩

set_option maxRecDepth 20000 in
set_option maxHeartbeats 8000000 in
theorem tseq_75 {m n : Nat} {v : Value} {l : List Nat} (w : World) (h : TmS w0 w B G N cap t) (hok : OkF t.f m n) (hL : TBlankW w0) (hN : NumsW (NotBG B G) w v l) (hl : l.length ≤ 1000) (h9 : ∀ x ∈ l, x ≤ 9999) :
    Calls Tryz.prog 60 #[.pointer (some ⟨B, 0, none⟩), .int .u8 75, v] w (TmD w0 w B G N cap (seqT t l 75)) := by
  have hm := hok.hm
  have hn := hok.hn
  have hrow := hok.row
  have hcol := hok.col
  have hrows := hok.rows
  have hcols := hok.cols
  have HS := Lib.hid h
  have HNN := Lib.hid hN
  have hk : ∀ i, l.getD i 0 ≤ 9999 := fun i => by
    rw [List.getD_eq_getElem?_getD]
    cases hi : l[i]? with
    | none => exact Nat.zero_le _
    | some x => exact h9 x (List.mem_of_getElem? hi)
  have hk0 := hk 0
  have hk1 := hk 1
  have HP : Hid (∀ W, KeepW (NotBG B G) w W → Calls Tryz.prog 94 #[v, .int .i64 0] W fun e w' => e = .returned (.int .i64 ((l.getD 0 0 : Nat) : Int)) ∧ w' = W) := fun W hW => param_any 0 W (hN.keep hW) (by omega) (by omega)
  have HP1 : Hid (∀ W, KeepW (NotBG B G) w W → Calls Tryz.prog 94 #[v, .int .i64 1] W fun e w' => e = .returned (.int .i64 ((l.getD 1 0 : Nat) : Int)) ∧ w' = W) := fun W hW => param_any 1 W (hN.keep hW) (by omega) (by omega)
  have hE : seqT t l 75 = { t with f := rowE t.f (l.getD 0 0), waits := false } := by
    unfold seqT
    dsimp only
    rfl
  rw [hE]
  obtain ⟨k, hkk⟩ : ∃ k : Nat, l.getD 0 0 = k := ⟨_, rfl⟩
  obtain ⟨k2, hkk2⟩ : ∃ k : Nat, l.getD 1 0 = k := ⟨_, rfl⟩
  rw [hkk] at HP hk0 ⊢
  rw [hkk2] at HP1 hk1
  obtain ⟨t1, ht1⟩ : ∃ t1 : Tm, { t with f := rowE t.f k } = t1 := ⟨_, rfl⟩
  have hE2 : ({ t with f := rowE t.f k, waits := false } : Tm) = { t1 with waits := false } := by rw [← ht1]
  rw [hE2]
  have HC : Hid (∀ W, TmS w0 W B G N cap t → Calls Tryz.prog 96 #[.pointer (some ⟨B, 0, none⟩), .int .i64 (k : Int)] W (TmD w0 W B G N cap t1)) := fun W hW => by
    have := trowE_any k W hW hok hL
    rwa [ht1] at this
  clear h hok hL hE hE2 hkk hkk2 ht1 hk hN HP1 hk1
  go_enter Tryz.func60, Tryz.ntmps60
  go_wp2_with fail
  go_fit (HP.out _ (KeepW.refl _ _))
  rintro e w1 ⟨rfl, rfl⟩
  go_wp2_with fail
  all_goals
    go_fit (HC.out _ HS.out)
    rintro e w3 ⟨rfl, h3, k3⟩
    have HS3 := Lib.hid h3
    have HK3 := Lib.hid k3
    clear h3 k3
    obtain ⟨_, _, ⟨_, x10, _, _⟩, hf⟩ := HS3.out.box.cells
    have hlt := HS3.out.box.lt
    have f10 := hf 10
    obtain ⟨a1, a2⟩ := HS3.out.waits_ false
    have HZ := Lib.hid (And.intro a1 (HK3.out.trans a2))
    clear hf a1 a2 HS3 HK3
    go_wp2_with fail
    go_end0
    exact ⟨rfl, HZ.out.1, HZ.out.2⟩

set_option maxRecDepth 20000 in
set_option maxHeartbeats 8000000 in
theorem tseq_109 {m n : Nat} {v : Value} {l : List Nat} (w : World) (h : TmS w0 w B G N cap t) (hok : OkF t.f m n) (_hL : TBlankW w0) (hN : NumsW (NotBG B G) w v l) (hl : l.length ≤ 1000) (h9 : ∀ x ∈ l, x ≤ 9999) :
    Calls Tryz.prog 60 #[.pointer (some ⟨B, 0, none⟩), .int .u8 109, v] w (TmD w0 w B G N cap (seqT t l 109)) := by
  have hm := hok.hm
  have hn := hok.hn
  have hrow := hok.row
  have hcol := hok.col
  have hrows := hok.rows
  have hcols := hok.cols
  have HS := Lib.hid h
  have HNN := Lib.hid hN
  have hk : ∀ i, l.getD i 0 ≤ 9999 := fun i => by
    rw [List.getD_eq_getElem?_getD]
    cases hi : l[i]? with
    | none => exact Nat.zero_le _
    | some x => exact h9 x (List.mem_of_getElem? hi)
  have hk0 := hk 0
  have hk1 := hk 1
  have HP : Hid (∀ W, KeepW (NotBG B G) w W → Calls Tryz.prog 94 #[v, .int .i64 0] W fun e w' => e = .returned (.int .i64 ((l.getD 0 0 : Nat) : Int)) ∧ w' = W) := fun W hW => param_any 0 W (hN.keep hW) (by omega) (by omega)
  have HP1 : Hid (∀ W, KeepW (NotBG B G) w W → Calls Tryz.prog 94 #[v, .int .i64 1] W fun e w' => e = .returned (.int .i64 ((l.getD 1 0 : Nat) : Int)) ∧ w' = W) := fun W hW => param_any 1 W (hN.keep hW) (by omega) (by omega)
  have hE : seqT t l 109 = { t with sty := stysN t.sty l } := by
    unfold seqT
    dsimp only
    rfl
  rw [hE]
  obtain ⟨k, hkk⟩ : ∃ k : Nat, l.getD 0 0 = k := ⟨_, rfl⟩
  obtain ⟨k2, hkk2⟩ : ∃ k : Nat, l.getD 1 0 = k := ⟨_, rfl⟩
  rw [hkk] at HP hk0
  rw [hkk2] at HP1 hk1
  have HC : Hid (∀ W, KeepW (NotBG B G) w W → TmS w0 W B G N cap t → Calls Tryz.prog 97 #[.pointer (some ⟨B, 0, none⟩), v] W (TmD w0 W B G N cap { t with sty := stysN t.sty l })) := fun W hk hW => trestyle_any W hW (HNN.out.keep hk) (by omega)
  obtain ⟨R, hR⟩ : ∃ R : Tm, { t with sty := stysN t.sty l } = R := ⟨_, rfl⟩
  rw [hR] at HC ⊢
  clear h hok hE hkk hkk2 hk hN hR HP1 hk1
  go_enter Tryz.func60, Tryz.ntmps60
  go_wp2_with fail
  go_fit (HP.out _ (KeepW.refl _ _))
  rintro e w1 ⟨rfl, rfl⟩
  go_wp2_with fail
  all_goals
    go_fit (HC.out _ (KeepW.refl _ _) HS.out)
    rintro e w3 ⟨rfl, h3, k3⟩
    have HS3 := Lib.hid h3
    have HK3 := Lib.hid k3
    clear h3 k3
    go_wp2_with fail
    go_end0
    exact ⟨rfl, HS3.out, HK3.out⟩

set_option maxRecDepth 20000 in
set_option maxHeartbeats 8000000 in
theorem tseq_o {m n : Nat} {v : Value} {l : List Nat} (b : Nat) (q1 : ((b : Int) == 65) = false) (q2 : ((b : Int) == 66) = false) (q3 : ((b : Int) == 68) = false) (q4 : ((b : Int) == 67) = false) (q5 : ((b : Int) == 72) = false) (q6 : ((b : Int) == 74) = false) (q7 : ((b : Int) == 75) = false) (q8 : ((b : Int) == 109) = false) (w : World) (h : TmS w0 w B G N cap t) (hok : OkF t.f m n) (_hL : TBlankW w0) (hN : NumsW (NotBG B G) w v l) (hl : l.length ≤ 1000) (h9 : ∀ x ∈ l, x ≤ 9999) :
    Calls Tryz.prog 60 #[.pointer (some ⟨B, 0, none⟩), .int .u8 (b : Int), v] w (TmD w0 w B G N cap (seqT t l b)) := by
  have hm := hok.hm
  have hn := hok.hn
  have hrow := hok.row
  have hcol := hok.col
  have hrows := hok.rows
  have hcols := hok.cols
  have HS := Lib.hid h
  have HNN := Lib.hid hN
  have hk : ∀ i, l.getD i 0 ≤ 9999 := fun i => by
    rw [List.getD_eq_getElem?_getD]
    cases hi : l[i]? with
    | none => exact Nat.zero_le _
    | some x => exact h9 x (List.mem_of_getElem? hi)
  have hk0 := hk 0
  have hk1 := hk 1
  have HP : Hid (∀ W, KeepW (NotBG B G) w W → Calls Tryz.prog 94 #[v, .int .i64 0] W fun e w' => e = .returned (.int .i64 ((l.getD 0 0 : Nat) : Int)) ∧ w' = W) := fun W hW => param_any 0 W (hN.keep hW) (by omega) (by omega)
  have HP1 : Hid (∀ W, KeepW (NotBG B G) w W → Calls Tryz.prog 94 #[v, .int .i64 1] W fun e w' => e = .returned (.int .i64 ((l.getD 1 0 : Nat) : Int)) ∧ w' = W) := fun W hW => param_any 1 W (hN.keep hW) (by omega) (by omega)
  have hE : seqT t l b = t := by
    unfold seqT
    dsimp only
    rw [beq_eq_false_iff_ne] at q1 q2 q3 q4 q5 q6 q7 q8
    rw [if_neg (by omega), if_neg (by omega), if_neg (by omega), if_neg (by omega), if_neg (by omega), if_neg (by omega), if_neg (by omega), if_neg (by omega)]
  rw [hE]
  obtain ⟨k, hkk⟩ : ∃ k : Nat, l.getD 0 0 = k := ⟨_, rfl⟩
  obtain ⟨k2, hkk2⟩ : ∃ k : Nat, l.getD 1 0 = k := ⟨_, rfl⟩
  rw [hkk] at HP hk0
  rw [hkk2] at HP1 hk1
  clear h hok hE hkk hkk2 hk hN HP1 hk1
  go_enter Tryz.func60, Tryz.ntmps60
  go_wp2_with fail
  go_fit (HP.out _ (KeepW.refl _ _))
  rintro e w1 ⟨rfl, rfl⟩
  go_wp2_with fail
  all_goals
    go_end0
    exact ⟨rfl, HS.out, KeepW.refl _ _⟩
theorem tseq_any {m n : Nat} {v : Value} {l : List Nat} (b : Nat) (w : World) (h : TmS w0 w B G N cap t) (hok : OkF t.f m n) (hL : TBlankW w0) (hN : NumsW (NotBG B G) w v l) (hl : l.length ≤ 1000) (h9 : ∀ x ∈ l, x ≤ 9999) :
    Calls Tryz.prog 60 #[.pointer (some ⟨B, 0, none⟩), .int .u8 (b : Int), v] w (TmD w0 w B G N cap (seqT t l b)) := by
  by_cases h65 : b = 65
  · subst h65
    by_cases hs : l.getD 0 0 ≤ 1
    · exact tseq_651 w h hok hL hN hl h9 hs
    · exact tseq_65n w h hok hL hN hl h9 (by omega)
  by_cases h66 : b = 66
  · subst h66
    by_cases hs : l.getD 0 0 ≤ 1
    · exact tseq_661 w h hok hL hN hl h9 hs
    · exact tseq_66n w h hok hL hN hl h9 (by omega)
  by_cases h67 : b = 67
  · subst h67
    by_cases hs : l.getD 0 0 ≤ 1
    · exact tseq_671 w h hok hL hN hl h9 hs
    · exact tseq_67n w h hok hL hN hl h9 (by omega)
  by_cases h68 : b = 68
  · subst h68
    by_cases hs : l.getD 0 0 ≤ 1
    · exact tseq_681 w h hok hL hN hl h9 hs
    · exact tseq_68n w h hok hL hN hl h9 (by omega)
  by_cases h72 : b = 72
  · subst h72; exact tseq_72 w h hok hL hN hl h9
  by_cases h74 : b = 74
  · subst h74; exact tseq_74 w h hok hL hN hl h9
  by_cases h75 : b = 75
  · subst h75; exact tseq_75 w h hok hL hN hl h9
  by_cases h109 : b = 109
  · subst h109; exact tseq_109 w h hok hL hN hl h9
  exact tseq_o b (by rw [beq_eq_false_iff_ne]; omega) (by rw [beq_eq_false_iff_ne]; omega) (by rw [beq_eq_false_iff_ne]; omega) (by rw [beq_eq_false_iff_ne]; omega) (by rw [beq_eq_false_iff_ne]; omega) (by rw [beq_eq_false_iff_ne]; omega) (by rw [beq_eq_false_iff_ne]; omega) (by rw [beq_eq_false_iff_ne]; omega) w h hok hL hN hl h9
end
end Go.Proofs.YtpkjaallhhjleaaGreatDoor
