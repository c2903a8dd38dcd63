/-
  Texts of this proof, one behind the other; each begins with its own remark.
-/
import Derived.Laws.CopyOwn
import Derived.StillTailTactics
import Derived.BigQuiet
import Derived.Test.YtpkjaallhhjleaaGreatDoorBa5
import Derived.Test.YtpkjaallhhjleaaGreatDoorBa8
import Derived.Test.YtpkjaallhhjleaaGreatDoorBa7
/-
  copy of cells into a block known whole, as a law of the walk: in a plain region; at a step of a region that draws its order. No call is walked here.
-/
namespace Go.Proofs.YtpkjaallhhjleaaGreatDoor
open Go.RowKit

theorem splice6 (M : List Cel) (zs : List Value) (l : List Cel) (p : Nat) (h : p + l.length ≤ M.length) : (celC M ++ zs).take (p * 6) ++ celC l ++ (celC M ++ zs).drop (p * 6 + (celC l).length) = celC (M.take p ++ l ++ M.drop (p + l.length)) ++ zs := by
  have hl := celC_len M
  rw [List.take_append_of_le_length (by omega), celC_take, celC_len, show p * 6 + l.length * 6 = (p + l.length) * 6 by omega, List.drop_append_of_le_length (by omega), celC_drop, celC_app, celC_app]
  simp [List.append_assoc]
theorem run_copy6 {ok : Nat → Prop} {w : World} {B p dLen dCap sLen sCap k : Nat} {so : Option Addr} {M l : List Cel} {zs : List Value} (ty : TypeId) (hM : blkL w B M zs) (hS : CelsW ok w (.slice so sLen sCap) l) (hl : l.length = sLen) (hk : Nat.min sLen dLen = k) (h0 : 0 < k) (hfit : p + k ≤ M.length) :
    ∃ w', (Builtin.copy_ #[33, 33] ty #[.slice (some ⟨B, p * 6, none⟩) dLen dCap, .slice so sLen sCap]).run Tryz.prog w = .ok (goInt k) w' ∧ blkL w' B (M.take p ++ l.take k ++ M.drop (p + k)) zs ∧ KeepW (fun j => j ≠ B) w w' := by
  obtain ⟨i, hi, _, hz1, _⟩ := info_parts Tryz.infoCell
  have hkl : (l.take k).length = k := by
    have : k ≤ sLen := by rw [← hk]; exact Nat.min_le_left _ _
    rw [List.length_take]; omega
  have hkc : (celC (l.take k)).length = k * i.size := by rw [celC_len, hkl, hz1]
  obtain ⟨c, hc⟩ : ∃ c, l[0]? = some c := ⟨_, List.getElem?_eq_getElem (by rw [List.length_take] at hkl; omega)⟩
  obtain ⟨g, o, _, he, _, _, hcell⟩ := RowV.at_ hS ((celC_at l 0 c hc 0 (by omega)).trans rfl)
  injection he with e1 e2 e3
  subst e1
  have hf : (Builtin.firstCells i.size k (.slice (some ⟨g, o, none⟩) sLen sCap)).run Tryz.prog w = .ok (celC (l.take k)).toArray w := by
    refine run_firstCells_some w i.size k ⟨g, o, none⟩ sLen sCap (celC (l.take k)) hkc fun j x hx => ?_
    rw [rlit]
    refine hcell j x ?_
    rw [← celC_take, List.getElem?_take] at hx
    split at hx
    · exact hx
    · cases hx
  have hst := run_storeCells_at Tryz.prog B (p * 6) 82 (celC (l.take k)) 0 _ w hM (by simp only [List.size_toArray, List.length_append, celC_len, hkl]; omega) (celC_cell _)
  rw [show (celC M ++ zs).toArray.toList = celC M ++ zs by simp, Nat.add_zero, splice6 M zs (l.take k) p (by rw [hkl]; exact hfit), hkl] at hst
  refine ⟨_, ?_, setRow_heap w B _ _ _ _ hM, rfl, rfl, rfl, by simp [World.setRow], fun j _ hj => setRow_other w B j _ hj⟩
  have hmin : min sLen dLen = k := hk
  simp [Builtin.copy_, run_underlying Tryz.underlying33, Builtin.lenOf, sizeOf, typeInfo, hi, hmin, hf, hst]

theorem wpList_copy6 {ok : Nat → Prop} {w : World} {ops : Array Oper} {rest : List Oper} {o : Oper} {a : Act} {Q : Exit → Act → World → Prop} {B p dLen dCap sLen sCap k : Nat} {so : Option Addr} {M l : List Cel} {zs : List Value} (hgd : o.guard = none) (d s : Operand)
    (ho : o.op = .call { callee := .builtin .copy, args := #[d, s], argTypes := #[33, 33] }) (hd : a.eval d = .slice (some ⟨B, p * 6, none⟩) dLen dCap) (hs : a.eval s = .slice so sLen sCap)
    (hM : blkL w B M zs) (hS : CelsW ok w (.slice so sLen sCap) l) (hl : l.length = sLen) (hk : Nat.min sLen dLen = k) (h0 : 0 < k) (hfit : p + k ≤ M.length)
    (h : ∀ w', Hid (blkL w' B (M.take p ++ l.take k ++ M.drop (p + k)) zs) → Hid (KeepW (fun j => j ≠ B) w w') → wpList Tryz.prog ops Q rest (a.put o.dst (goInt k)) w') :
    wpList Tryz.prog ops Q (o :: rest) a w := by
  obtain ⟨w', hr, h1, h2⟩ := run_copy6 o.type hM hS hl hk h0 hfit
  refine wpList_plain hgd fun K hK => ?_
  unfold Oper.wp
  unfold execOp
  simp only [ho, resolve, invoke, builtin, Sem.run_bind, Sem.run_pure, Result.andThen_ok, List.map_toArray, List.map_cons, List.map_nil, hd, hs]
  erw [hr]
  exact hK _ _ (h w' h1 h2)
theorem step_copy6 {ok : Nat → Prop} {w : World} {ops : Array Oper} {o : Oper} {a : Act} {K : Act → World → Prop} {Q : Exit → Act → World → Prop} {E : Prop} {B p dLen dCap sLen sCap k : Nat} {so : Option Addr} {M l : List Cel} {zs : List Value} (hgd : o.guard = none) (d s : Operand)
    (ho : o.op = .call { callee := .builtin .copy, args := #[d, s], argTypes := #[33, 33] }) (hd : a.eval d = .slice (some ⟨B, p * 6, none⟩) dLen dCap) (hs : a.eval s = .slice so sLen sCap)
    (hM : blkL w B M zs) (hS : CelsW ok w (.slice so sLen sCap) l) (hl : l.length = sLen) (hk : Nat.min sLen dLen = k) (h0 : 0 < k) (hfit : p + k ≤ M.length)
    (h : ∀ w', Hid (blkL w' B (M.take p ++ l.take k ++ M.drop (p + k)) zs) → Hid (KeepW (fun j => j ≠ B) w w') → K (a.put o.dst (goInt k)) w') :
    if Region.wanted o (yielded ops a.tmps) = true then Oper.wp Tryz.prog o a w K Q else E := by
  have hw : Region.wanted o (yielded ops a.tmps) = true := by simp [Region.wanted, hgd]
  rw [if_pos hw]
  obtain ⟨w', hr, h1, h2⟩ := run_copy6 o.type hM hS hl hk h0 hfit
  unfold Oper.wp
  unfold execOp
  simp only [ho, resolve, invoke, builtin, Sem.run_bind, Sem.run_pure, Result.andThen_ok, List.map_toArray, List.map_cons, List.map_nil, hd, hs]
  erw [hr]
  exact h w' h1 h2
end Go.Proofs.YtpkjaallhhjleaaGreatDoor

/-
  term: feed: a line feed: what it leaves.
-/
namespace Go.Proofs.YtpkjaallhhjleaaGreatDoor
open Go.RowKit

/-- What a cut of a slice of cells is, from a place on. -/
theorem run_from (G p N cap n : Nat) (W : World) (hn : n ≤ N) (h : n < cap) : (Instr.slice 33 (.slice (some ⟨G, p, none⟩) N cap) (some (.int .i64 (n : Int))) none none).run Tryz.prog W = .ok (.slice (some ⟨G, p + n * 6, none⟩) (N - n) (cap - n)) W := by
  have h1 : (n : Int) ≤ (N : Int) := by omega
  have h2 : (0 : Int) ≤ (n : Int) := by omega
  have h3 : ¬ cap = n := by omega
  simp [go_sem, h1, h2, h3]
/-- Copied one row up, and the last row erased: all rows are one higher. -/
theorem scroll_erase {L : List Cel} {m n : Nat} (hL : ∀ i c, L[i]? = some c → okA n L i c) (hl : L.length = m * n) (hm : 1 ≤ m) (hn : 0 < n) :
    eraseL (L.take 0 ++ (L.drop n).take (m * n - n) ++ L.drop (0 + (m * n - n))) (m * n - n) (m * n) = scrollL L n := by
  obtain ⟨k, rfl⟩ : ∃ k, m = k + 1 := ⟨m - 1, by omega⟩
  have e : (k + 1) * n - n = k * n := by rw [Nat.add_mul, Nat.one_mul]; omega
  have e2 : (k + 1) * n = k * n + n := by rw [Nat.add_mul, Nat.one_mul]
  rw [e, Nat.zero_add, List.take_zero, List.nil_append, List.take_of_length_le (by rw [List.length_drop]; omega)]
  have hd : (L.drop n).length = k * n := by rw [List.length_drop]; omega
  have h1 : w0_ (L.drop n ++ L.drop (k * n)) (k * n) = false := by
    have := w0_front (k := k) hL
    unfold w0_ at this ⊢
    rw [List.getElem?_append_right (by omega), hd, Nat.sub_self, List.getElem?_drop, Nat.add_zero]
    exact this
  have h2 : w0_ (L.drop n ++ L.drop (k * n)) ((k + 1) * n) = false := w0_out (by rw [List.length_append, hd, List.length_drop]; omega)
  unfold eraseL fromN toN
  rw [h1, h2, if_neg (by simp), if_neg (by decide)]
  unfold fillB scrollL
  rw [Nat.max_eq_right (by omega), List.take_append_of_le_length (by omega), List.take_of_length_le (by omega), show (L.drop n ++ L.drop (k * n)).drop ((k + 1) * n) = [] from List.drop_of_length_le (by rw [List.length_append, hd, List.length_drop]; omega), List.append_nil, show (k + 1) * n - k * n = n by omega]
section
variable {w0 : World} {B G N cap : Nat} {t : Tm}
set_option maxRecDepth 20000 in
set_option maxHeartbeats 4000000 in
theorem tfeed_lt (w : World) (h : TmS w0 w B G N cap t) (h1 : 2 ≤ t.f.rows ∧ t.f.rows ≤ 100) (h2 : 0 ≤ t.f.row ∧ t.f.row < t.f.rows - 1) :
    Calls Tryz.prog 91 #[.pointer (some ⟨B, 0, none⟩)] w (TmD w0 w B G N cap { t with f := { t.f with row := t.f.row + 1 } }) := by
  obtain ⟨⟨x0, _, _, x3, _⟩, _, _, hf⟩ := h.box.cells
  have hlt := h.box.lt
  have HZ : Hid (∀ nq, (w.drewN nq).cell? ⟨B, 3, none⟩ = some (.int .i64 t.f.row) ∧ (w.drewN nq).frozen? ⟨B, 3, none⟩ = false ∧ TmS w0 ((w.drewN nq).setCell ⟨B, 3, none⟩ (.int .i64 (t.f.row + 1))) B G N cap { t with f := { t.f with row := t.f.row + 1 } } ∧ KeepW (NotBG B G) w ((w.drewN nq).setCell ⟨B, 3, none⟩ (.int .i64 (t.f.row + 1)))) := fun nq => by
    have hb : Below w.heap.size w (w.drewN nq) := below_drewN (Below.refl _ _) nq
    have hn := h.next hb
    obtain ⟨a1, a2⟩ := hn.row_ (t.f.row + 1)
    exact ⟨hn.box.cells.1.2.2.2.1, hn.box.cells.2.2.2 3, a1, (keep_below _ hb).trans a2⟩
  obtain ⟨R, hR⟩ : ∃ R, t.f.rows = R := ⟨_, rfl⟩
  obtain ⟨C, hC⟩ : ∃ C, t.f.row = C := ⟨_, rfl⟩
  rw [hR] at x0 h1 h2
  rw [hC] at x3 h2 HZ ⊢
  clear h hf hR hC
  obtain ⟨h1, h3⟩ := h1
  obtain ⟨h2, h4⟩ := h2
  go_enter Tryz.func91, Tryz.ntmps91
  go_wp2_with fail
  go_quiet (fail)
  obtain ⟨z3, zf, HS, HK⟩ := HZ.out nq
  clear HZ
  go_wp2_with fail
  go_end0
  exact ⟨rfl, HS, HK⟩

set_option maxRecDepth 20000 in
set_option maxHeartbeats 4000000 in
theorem tfeed_scroll {m n : Nat} (w : World) (h : TmS w0 w B G N cap t) (hok : OkF t.f m n) (hL : TBlankW w0) (h2 : ¬ t.f.row < t.f.rows - 1) :
    Calls Tryz.prog 91 #[.pointer (some ⟨B, 0, none⟩)] w (TmD w0 w B G N cap { t with f := { t.f with cells := scrollL t.f.cells n } }) := by
  obtain ⟨⟨x0, x1, x2, x3, _⟩, _, _, hf⟩ := h.box.cells
  have hlt := h.box.lt
  have hlen := h.len
  have hcap := h.cap
  have hm := hok.hm
  have hn := hok.hn
  obtain ⟨hle, hsub⟩ := hok.le
  have hpos : 0 < N - n := by
    rw [← hlen, hsub]; exact Nat.mul_pos (by omega) (by omega)
  have hsl : ∀ W, (Instr.slice 33 (.slice (some ⟨G, 0, none⟩) N cap) (some (.int .i64 (n : Int))) none none).run Tryz.prog W = .ok (.slice (some ⟨G, n * 6, none⟩) (N - n) (cap - n)) W := fun W => by
    have := run_from G 0 N cap n W (by omega) (by omega)
    rwa [Nat.zero_add] at this
  have hroom : N ≤ 20000 := by rw [← hlen]; exact hok.room
  rw [hok.rows] at x0 h2
  rw [hok.cols] at x1
  go_enter Tryz.func91, Tryz.ntmps91
  go_wp2_with fail
  go_quiet (fail)
  obtain ⟨W1, hW1⟩ : ∃ W1, w.drewN nq = W1 := ⟨_, rfl⟩
  have hS1 : TmS w0 W1 B G N cap t := by rw [← hW1]; exact h.next (below_drewN (Below.refl _ _) nq)
  obtain ⟨⟨y0, y1, y2, y3, _⟩, _, _, _⟩ := hS1.box.cells
  rw [hok.cols] at y1
  rw [hW1]
  have n1 : (n : Int) ≤ (N : Int) := by omega
  have n2 : (0 : Int) ≤ (n : Int) := by omega
  go_wp2_with fail
  go_still_tail 13, (by kernel_rfl)
  obtain ⟨W2, hW2⟩ : ∃ W2, W1.drew = W2 := ⟨_, rfl⟩
  have hb2 : Below W1.heap.size W1 W2 := by rw [← hW2]; exact (Below.refl _ _).drew
  have HS2 := Lib.hid (hS1.next hb2)
  have HK2 : Hid (KeepW (NotBG B G) w W2) := (keep_below _ (by rw [← hW1]; exact below_drewN (Below.refl _ _) nq)).trans (keep_below _ hb2)
  change wpList _ _ _ _ _ W1.drew
  rw [hW2]
  obtain ⟨zs, hzs⟩ := HS2.out.blk
  have HB2 := Lib.hid hzs
  have HC2 : Hid (CelsW AnyB W2 (.slice (some ⟨G, n * 6, none⟩) (N - n) (cap - n)) (t.f.cells.drop n)) := by
    have := HB2.out.part (ok := AnyB) (a := n) (n := N - n) (cap := cap - n) trivial (by omega) (by omega)
    rw [List.take_of_length_le (by rw [List.length_drop]; omega)] at this
    exact this
  have HL2 : Hid ((t.f.cells.drop n).length = N - n) := by show _ = _; rw [List.length_drop, hlen]
  have HM : Hid (min (N - n) N = N - n) := by show _ = _; omega
  have HN : Hid (0 + (N - n) ≤ t.f.cells.length) := by show _ ≤ _; omega
  have HF : Hid (∀ W3, blkL W3 G (t.f.cells.take 0 ++ (t.f.cells.drop n).take (N - n) ++ t.f.cells.drop (0 + (N - n))) zs → KeepW (fun j => j ≠ G) W2 W3 →
      W3.cell? ⟨B, 2, none⟩ = some (.slice (some ⟨G, 0, none⟩) N cap) ∧ W3.cell? ⟨B, 1, none⟩ = some (.int .i64 (n : Int)) ∧
      ∀ W4, Below W3.heap.size W3 W4 → Calls Tryz.prog 116 #[.pointer (some ⟨B, 0, none⟩), .int .i64 ((N : Int) - (n : Int)), .int .i64 (N : Int)] W4 (TmD w0 w B G N cap { t with f := { t.f with cells := scrollL t.f.cells n } })) := fun W3 hb3 hk3 => by
    have hS3 := HS2.out.celled hk3 hb3 (by rw [List.length_append, List.length_append, List.length_take, List.length_take, List.length_drop, List.length_drop]; omega)
    obtain ⟨⟨_, c1, c2, _, _⟩, _⟩ := hS3.box.cells
    rw [show ({ t with f := { t.f with cells := (t.f.cells.take 0 ++ (t.f.cells.drop n).take (N - n) ++ t.f.cells.drop (0 + (N - n))) } } : Tm).f.cols = (n : Int) from hok.cols] at c1
    refine ⟨c2, c1, fun W4 hb4 => ?_⟩
    have hc := erase_any (N - n) N W4 (hS3.next hb4) hL (by omega) (Nat.le_refl _) hroom (fun _ _ => hpos)
    rw [show ((N - n : Nat) : Int) = (N : Int) - (n : Int) by omega] at hc
    have hNn : N = m * n := by rw [← hlen, hok.len]
    have he := scroll_erase (okF_all hok) hok.len (by omega) (by omega)
    rw [← hNn] at he
    rw [he] at hc
    exact hc.mono fun e w' ⟨k1, k2, k3⟩ => ⟨k1, k2, (HK2.out.trans ((hk3.mono fun k _ hk => hk.2).trans (keep_below _ hb4))).trans k3⟩
  clear hS1 hW1 hW2 hb2 hzs h hok hL hlen hle hsub hf
  go_wp2_with (refine wpList_copy6 (o := ⟨some 36, _, _, _, _, _⟩) (p := 0) (k := N - n) rfl (.tmp 26) (.tmp 35) rfl (by rfl) (by rfl) HB2.out HC2.out HL2.out HM.out hpos HN.out ?_; intro W3 hb3 hk3; obtain ⟨c2, c1, HE⟩ := HF.out W3 hb3.out hk3.out; have HE := Lib.hid HE; clear HF hb3 hk3 HB2 HC2)
  go_still_tail 16, (by kernel_rfl)
  change wpList _ _ _ _ _ W3.drew
  go_wp2_with fail
  go_fit (HE.out W3.drew (Below.refl _ _).drew)
  rintro e w4 ⟨rfl, h4⟩
  go_wp2_with fail
  go_end0
  exact ⟨rfl, h4⟩
theorem tfeed_any {m n : Nat} (w : World) (h : TmS w0 w B G N cap t) (hok : OkF t.f m n) (hL : TBlankW w0) :
    Calls Tryz.prog 91 #[.pointer (some ⟨B, 0, none⟩)] w (TmD w0 w B G N cap { t with f := feedF t.f }) := by
  have h1 := hok.rows; have h2 := hok.hm; have h3 := hok.row
  unfold feedF
  split
  · exact tfeed_lt w h (by omega) (by omega)
  · rw [hok.nat.2]
    exact tfeed_scroll w h hok hL (by assumption)
end
end Go.Proofs.YtpkjaallhhjleaaGreatDoor

/-
  Plain facts: a rune put into two rows alone of a frame, and those laid back: as if it were put into the frame. Nothing of the program is run here.
-/
namespace Go.Proofs.YtpkjaallhhjleaaGreatDoor
open Go.RowKit

/-- Two rows of a frame, as a frame. -/
def twoF (f : Frm) (n top : Nat) : Frm := ⟨2, f.cols, (f.cells.drop (top * n)).take (2 * n), f.row - (top : Int), f.col⟩
theorem two_row {L : List Cel} {n top j : Nat} (hj : j < 2) : rowK ((L.drop (top * n)).take (2 * n)) n j = rowK L n (top + j) := by
  apply List.ext_getElem?
  intro i
  rw [rowK_at, rowK_at]
  split
  · have : j * n + n ≤ 2 * n := row_room hj
    rw [List.getElem?_take, if_pos (by omega), List.getElem?_drop, Nat.add_mul]
    congr 1; omega
  · rfl
theorem two_ok {f : Frm} {m n top : Nat} (h : OkF f m n) (ht : top + 2 ≤ m) (h1 : (top : Int) ≤ f.row) (h2 : f.row < (top : Int) + 2) : OkF (twoF f n top) 2 n := by
  have hr := row_room (n := n) (show top + 1 < m by omega)
  refine ⟨rfl, h.cols, by omega, h.hn, ?_, ⟨by show 0 ≤ f.row - _; omega, by show f.row - _ < _; omega⟩, h.col, fun k hk => ?_⟩
  · show ((f.cells.drop (top * n)).take (2 * n)).length = 2 * n
    rw [List.length_take, List.length_drop, h.len]
    rw [Nat.add_mul, Nat.one_mul] at hr
    omega
  · show okRow (rowK ((f.cells.drop (top * n)).take (2 * n)) n k)
    rw [two_row hk]
    exact h.each _ (by omega)
theorem setK_two {L : List Cel} {n top k : Nat} (R : List Cel) (hk : k < 2) (hl : top * n + 2 * n ≤ L.length) :
    L.take (top * n) ++ setK ((L.drop (top * n)).take (2 * n)) n k R ++ L.drop (top * n + 2 * n) = setK L n (top + k) R := by
  have hkn : k * n + n ≤ 2 * n := row_room hk
  unfold setK
  obtain ⟨X, hX⟩ : ∃ X, L.drop (top * n) = X := ⟨_, rfl⟩
  have hXl : 2 * n ≤ X.length := by rw [← hX, List.length_drop]; omega
  have e1 : L.take ((top + k) * n) = L.take (top * n) ++ (X.take (2 * n)).take (k * n) := by
    rw [List.take_take, Nat.min_eq_left (by omega), ← hX, Nat.add_mul, List.take_add]
  have e2 : L.drop ((top + k) * n + n) = (X.take (2 * n)).drop (k * n + n) ++ X.drop (2 * n) := by
    rw [← List.drop_append_of_le_length (by rw [List.length_take]; omega), List.take_append_drop, ← hX, List.drop_drop]
    congr 1
    rw [Nat.add_mul]; omega
  rw [hX, e1, e2, show L.drop (top * n + 2 * n) = X.drop (2 * n) by rw [← hX, List.drop_drop]]
  simp only [List.append_assoc]
theorem put_pair {f : Frm} {m n top : Nat} (h : OkF f m n) (ht : top + 2 ≤ m) (h1 : (top : Int) ≤ f.row) (h2 : f.row < (top : Int) + 2) (r : Int) (s : Sty) :
    f.cells.take (top * n) ++ (putF (twoF f n top) (f.row - (top : Int)) f.col r s).cells ++ f.cells.drop (top * n + 2 * n) = (putF f f.row f.col r s).cells := by
  have h2' := two_ok h ht h1 h2
  have hr := row_room (n := n) (show top + 1 < m by omega)
  rw [Nat.add_mul, Nat.one_mul] at hr
  have hlen := h.len
  unfold putF
  rw [h.valid, h2'.valid, if_pos rfl, if_pos rfl]
  have hrow := h.row; have hrows := h.rows
  have hc : canB (twoF f n top) (f.row - (top : Int)) f.col r s = canB f f.row f.col r s := by
    rw [Bool.eq_iff_iff, canB_iff, canB_iff]
    show (0 < ofN r ∧ (0 ≤ f.row - (top : Int) ∧ f.row - (top : Int) < 2 ∧ 0 ≤ f.col ∧ f.col < f.cols) ∧ f.col + (ofN r : Int) ≤ f.cols ∧ styB s = true) ↔ _
    constructor
    · rintro ⟨a, ⟨b, c, d, e⟩, g, i⟩; exact ⟨a, ⟨by omega, by omega, d, e⟩, g, i⟩
    · rintro ⟨a, ⟨b, c, d, e⟩, g, i⟩; exact ⟨a, ⟨by omega, by omega, d, e⟩, g, i⟩
  rw [hc]
  split
  · unfold layF
    rw [h.nat.2, show (twoF f n top).cols.toNat = n from h.nat.2]
    show f.cells.take (top * n) ++ setK ((f.cells.drop (top * n)).take (2 * n)) n (f.row - (top : Int)).toNat (putL (rowK ((f.cells.drop (top * n)).take (2 * n)) n (f.row - (top : Int)).toNat) f.col.toNat r (ofN r) s) ++ _ = setK f.cells n f.row.toNat (putL (rowK f.cells n f.row.toNat) f.col.toNat r (ofN r) s)
    obtain ⟨k, hk⟩ : ∃ k : Nat, f.row - (top : Int) = (k : Int) := ⟨(f.row - (top : Int)).toNat, by omega⟩
    rw [hk, Int.toNat_natCast, show f.row.toNat = top + k by omega, two_row (by omega), setK_two _ (by omega) (by omega)]
  · show f.cells.take (top * n) ++ (f.cells.drop (top * n)).take (2 * n) ++ f.cells.drop (top * n + 2 * n) = f.cells
    rw [List.append_assoc, show f.cells.drop (top * n + 2 * n) = (f.cells.drop (top * n)).drop (2 * n) by rw [List.drop_drop], List.take_append_drop, List.take_append_drop]
end Go.Proofs.YtpkjaallhhjleaaGreatDoor

/-
  grids: sized, within, sameSize, styled, rightOf; limnerref06: may, Blank, Style: what each call returns.
-/
namespace Go.Proofs.YtpkjaallhhjleaaGreatDoor
open Go.RowKit

theorem sizedB_no {a b : Int} (h : ¬ (2 ≤ a ∧ a ≤ 100 ∧ 8 ≤ b ∧ b ≤ 200)) : sizedB a b = false := Bool.eq_false_iff.2 fun k => h ((sizedB_iff a b).1 k)
theorem withinB_no {a b c d : Int} (h : ¬ (0 ≤ c ∧ c < a ∧ 0 ≤ d ∧ d < b)) : withinB a b c d = false := Bool.eq_false_iff.2 fun k => h ((withinB_iff a b c d).1 k)
theorem styB_no {s : Sty} (h : ¬ (0 ≤ s.1 ∧ s.1 ≤ 8)) : styB s = false := Bool.eq_false_iff.2 fun k => h ((styB_iff s).1 k)

theorem sized_any (r c : Int) (w : World) :
    Calls Tryz.prog 40 #[.int .i64 r, .int .i64 c] w fun e w' => e = .returned (.bool (sizedB r c)) ∧ w = w' := by
  go_enter Tryz.func40, Tryz.ntmps40
  go_wp2
  all_goals (go_ret; refine ⟨?_, rfl⟩; first | (rw [(sizedB_iff r c).2 (by omega)]; rfl) | (rw [sizedB_no (by omega)]; rfl) | (show Ending.returned (.bool (decide _)) = .returned (.bool _); congr 2; rw [Bool.eq_iff_iff, sizedB_iff]; simp only [decide_eq_true_eq]; omega))
theorem may_any (r c : Int) (w : World) :
    Calls Tryz.prog 51 #[.int .i64 r, .int .i64 c] w fun e w' => e = .returned (.bool (sizedB r c)) ∧ w = w' := by
  go_enter Tryz.func51, Tryz.ntmps51
  go_wp2
  all_goals (go_ret; refine ⟨?_, rfl⟩; first | (rw [(sizedB_iff r c).2 (by omega)]; rfl) | (rw [sizedB_no (by omega)]; rfl) | (show Ending.returned (.bool (decide _)) = .returned (.bool _); congr 2; rw [Bool.eq_iff_iff, sizedB_iff]; simp only [decide_eq_true_eq]; omega))
theorem blank_any (w : World) :
    Calls Tryz.prog 52 #[] w fun e w' => e = .returned (.agg #[.int .i32 32, .int .i64 1, .int .i64 0, .bool false, .bool false, .bool false]) ∧ Below w.heap.size w w' := by
  go_enter Tryz.func52, Tryz.ntmps52
  go_wp2
  refine bodyPost_ret (v := .agg #[.int .i32 32, .int .i64 1, .int .i64 0, .bool false, .bool false, .bool false]) (by simp [results, Tryz.results52, go_sem]) rfl ⟨rfl, (Below.refl _ w).alloc (Nat.le_refl _) _⟩
theorem within_any {ao : Option Addr} {n cap : Nat} (R C a b r c : Int) (w : World) :
    Calls Tryz.prog 41 #[.agg #[.int .i64 R, .int .i64 C, .slice ao n cap, .int .i64 a, .int .i64 b], .int .i64 r, .int .i64 c] w fun e w' => e = .returned (.bool (withinB R C r c)) ∧ Below w.heap.size w w' := by
  go_enter Tryz.func41, Tryz.ntmps41
  go_wp2
  all_goals (go_ret; refine ⟨?_, (Below.refl _ w).alloc (Nat.le_refl _) _⟩; first | (rw [(withinB_iff R C r c).2 (by omega)]; rfl) | (rw [withinB_no (by omega)]; rfl) | (show Ending.returned (.bool (decide _)) = .returned (.bool _); congr 2; rw [Bool.eq_iff_iff, withinB_iff]; simp only [decide_eq_true_eq]; omega))
theorem styled_any (s : Sty) (w : World) :
    Calls Tryz.prog 105 #[.agg #[.int .i64 s.1, .bool s.2.1, .bool s.2.2.1, .bool s.2.2.2]] w fun e w' => e = .returned (.bool (styB s)) ∧ Below w.heap.size w w' := by
  go_enter Tryz.func105, Tryz.ntmps105
  go_wp2
  all_goals (go_ret; refine ⟨?_, (Below.refl _ w).alloc (Nat.le_refl _) _⟩; first | (rw [(styB_iff s).2 (by omega)]; rfl) | (rw [styB_no (by omega)]; rfl) | (show Ending.returned (.bool (decide _)) = .returned (.bool _); congr 2; rw [Bool.eq_iff_iff, styB_iff]; simp only [decide_eq_true_eq]; omega))
theorem style_any (s : Sty) (w : World) :
    Calls Tryz.prog 103 #[.agg #[.int .i64 s.1, .bool s.2.1, .bool s.2.2.1, .bool s.2.2.2]] w fun e w' => e = .returned (.bool (styB s)) ∧ Below w.heap.size w w' := by
  go_enter Tryz.func103, Tryz.ntmps103
  go_wp2
  all_goals (go_ret; refine ⟨?_, (Below.refl _ w).alloc (Nat.le_refl _) _⟩; first | (rw [(styB_iff s).2 (by omega)]; rfl) | (rw [styB_no (by omega)]; rfl) | (show Ending.returned (.bool (decide _)) = .returned (.bool _); congr 2; rw [Bool.eq_iff_iff, styB_iff]; simp only [decide_eq_true_eq]; omega))
theorem sameSize_any {ao ao2 : Option Addr} {n cap n2 cap2 : Nat} (R C a b R2 C2 a2 b2 : Int) (w : World) :
    Calls Tryz.prog 37 #[.agg #[.int .i64 R, .int .i64 C, .slice ao n cap, .int .i64 a, .int .i64 b], .agg #[.int .i64 R2, .int .i64 C2, .slice ao2 n2 cap2, .int .i64 a2, .int .i64 b2]] w fun e w' => e = .returned (.bool (decide (R = R2) && decide (C = C2))) ∧ Below w.heap.size w w' := by
  by_cases h1 : R = R2
  · subst h1
    by_cases h2 : C = C2
    · subst h2
      go_enter Tryz.func37, Tryz.ntmps37
      go_wp2
      go_ret
      exact ⟨by simp, ((Below.refl _ w).alloc (Nat.le_refl _) _).alloc (by simp) _⟩
    · have h2' : (C == C2) = false := by simpa using h2
      rw [decide_eq_true (rfl : R = R), decide_eq_false h2]
      have H2 := Lib.hid h2
      clear h2
      go_enter Tryz.func37, Tryz.ntmps37
      go_wp2
      go_ret
      exact ⟨by simp, ((Below.refl _ w).alloc (Nat.le_refl _) _).alloc (by simp) _⟩
  · have h1' : (R == R2) = false := by simpa using h1
    rw [decide_eq_false h1, Bool.false_and]
    clear h1
    go_enter Tryz.func37, Tryz.ntmps37
    go_wp2
    all_goals go_ret
    all_goals exact ⟨by simp, ((Below.refl _ w).alloc (Nat.le_refl _) _).alloc (by simp) _⟩
end Go.Proofs.YtpkjaallhhjleaaGreatDoor
