/-
  Plain facts: a text of runes that are shown stands in the rows, as many in each as there is room for. Nothing of the program is run here.
-/
import Derived.Test.YtpkjaallhhjleaaGreatDoorBa7
import Derived.Test.YtpkjaallhhjleaaGreatDoorLTmRune
namespace Go.Proofs.YtpkjaallhhjleaaGreatDoor
open Go.RowKit

/-- Where the parser stands tells nothing of what is done. -/
theorem do_p (t : Tm) (q : Ps) (a : Ac) : doT { t with p := q } a = { doT t a with p := q } := by
  unfold doT
  by_cases h1 : a.1 = 1
  · rw [if_pos h1, if_pos h1]; rfl
  rw [if_neg h1, if_neg h1]
  by_cases h2 : a.1 = 2
  · rw [if_pos h2, if_pos h2]
    unfold controlT
    by_cases r7 : (a.2.1 : Int) = 7
    · rw [if_pos r7, if_pos r7]
    rw [if_neg r7, if_neg r7]
    by_cases r8 : (a.2.1 : Int) = 8
    · rw [if_pos r8, if_pos r8]
    rw [if_neg r8, if_neg r8]
    by_cases r10 : (a.2.1 : Int) = 10
    · rw [if_pos r10, if_pos r10]
    rw [if_neg r10, if_neg r10]
    by_cases r13 : (a.2.1 : Int) = 13
    · rw [if_pos r13, if_pos r13]
    rw [if_neg r13, if_neg r13]
  rw [if_neg h2, if_neg h2]
  by_cases h3 : a.1 = 3
  · rw [if_pos h3, if_pos h3]
    unfold seqT
    dsimp only
    repeat' split
    all_goals rfl
  · rw [if_neg h3, if_neg h3]
theorem dos_p : ∀ (l : List Ac) (t : Tm) (q : Ps), l.foldl doT { t with p := q } = { l.foldl doT t with p := q }
  | [], _, _ => rfl
  | a :: l, t, q => by rw [List.foldl_cons, List.foldl_cons, do_p, dos_p l]
theorem dos_keep : ∀ (l : List Ac) (t : Tm), (l.foldl doT t).p = t.p := fun l t => by
  have := dos_p l t t.p
  rw [show ({ t with p := t.p } : Tm) = t from rfl] at this
  rw [this]
/-- What a text does is what it asks for. -/
theorem write_run : ∀ (L : List UInt8) (t : Tm), writeT t L = { (runN t.p (L.map UInt8.toNat)).2.foldl doT t with p := (runN t.p (L.map UInt8.toNat)).1 }
  | [], t => rfl
  | u :: L, t => by
    rw [write_cons, write_run L, List.map_cons, runN_cons]
    have e : byteT t u.toNat = { (feedN t.p u.toNat).2.foldl doT t with p := (feedN t.p u.toNat).1 } := by
      unfold byteT
      rw [dos_p]
    rw [e]
    dsimp only
    rw [dos_p, List.foldl_append]
theorem write_rune {t : Tm} {R : Nat} (hp : t.p = .zero) (h : R < 55296 ∨ 57344 ≤ R ∧ R ≤ 1114111) (h32 : 32 ≤ R) (h127 : R ≠ 127) : writeT t (putB (R : Int)).data.toList = showT t (shI (R : Int)) := by
  rw [write_run, hp]
  have e := run_rune R h h32 h127
  unfold bytesN at e
  rw [e]
  show ({ showT t (shI (R : Int)) with p := .zero } : Tm) = _
  have : (showT t (shI (R : Int))).p = .zero := hp
  rw [← this]
theorem shown_facts {r : Int} (h : 0 < ofN r) : hidB r = false ∧ shI r = r ∧ ∃ R : Nat, r = (R : Int) ∧ (R < 55296 ∨ 57344 ≤ R ∧ R ≤ 1114111) ∧ 32 ≤ R ∧ R ≠ 127 := by
  have h1 : hidB r = false := by
    cases hb : hidB r with
    | false => rfl
    | true => unfold ofN at h; rw [hb] at h; simp at h
  refine ⟨h1, by unfold shI; rw [h1]; rfl, ?_⟩
  unfold hidB at h1
  rw [Bool.or_eq_false_iff] at h1
  obtain ⟨h2, h3⟩ := h1
  unfold hidF at h2
  simp only [amongB, Bool.or_eq_false_iff, Bool.and_eq_false_iff, decide_eq_false_iff_not] at h2
  have h4 : Lib.validRune r = true := by simpa using h3
  obtain ⟨g1, g2, _⟩ := h2
  unfold Lib.validRune at h4
  simp at h4
  refine ⟨r.toNat, by omega, by omega, by omega, by omega⟩

/-- Where the rows stand while the text is written: rows V behind, x the last one. -/
structure TxI (T : Tm) (n : Nat) (V : List ByteArray) (x : ByteArray) (used : Nat) : Prop where
  ok : OkT T 40 n
  ps : T.p = .zero
  st : T.sty = sty0
  few : V.length + 1 ≤ 40
  row : T.f.row = (V.length : Int)
  wait : T.waits = decide (used = n)
  col : T.f.col = if used = n then (n : Int) - 1 else (used : Int)
  usd : used ≤ n
  cur : ∃ A, A.length = used ∧ rowK T.f.cells n V.length = A ++ List.replicate (n - used) blkC ∧ shownL A = x.data.toList
  old : ∀ i y, V[i]? = some y → ∃ A R, rowK T.f.cells n i = A ++ R ∧ shownL A = y.data.toList
  rest : ∀ i, V.length < i → i < 40 → rowK T.f.cells n i = List.replicate n blkC
theorem txI_new (n : Nat) (hn : 8 ≤ n ∧ n ≤ 200) : TxI (newT ((40 : Nat) : Int) (n : Int)) n [] ⟨#[]⟩ 0 := by
  have hok := newT_ok 40 n (by omega) hn
  have hc : ∀ k, k < 40 → rowK (newT ((40 : Nat) : Int) (n : Int)).f.cells n k = List.replicate n blkC := fun k hk => by
    show rowK (newF ((40 : Nat) : Int) (n : Int)).cells n k = _
    unfold newF
    rw [if_pos ((sizedB_iff _ _).2 (by omega)), ← Int.natCast_mul, Int.toNat_natCast]
    exact rep_row 40 n k hk
  have hr : (newT ((40 : Nat) : Int) (n : Int)).f.row = 0 ∧ (newT ((40 : Nat) : Int) (n : Int)).f.col = 0 := by
    show (newF ((40 : Nat) : Int) (n : Int)).row = 0 ∧ (newF ((40 : Nat) : Int) (n : Int)).col = 0
    unfold newF
    rw [if_pos ((sizedB_iff _ _).2 (by omega))]
    exact ⟨rfl, rfl⟩
  exact ⟨hok, rfl, rfl, by simp, hr.1, by rw [decide_eq_false (by omega)]; rfl, by rw [if_neg (by omega)]; exact hr.2, by omega, ⟨[], rfl, by rw [hc _ (by simp)]; rfl, rfl⟩, fun i y h => by simp at h, fun i _ hi => hc i hi⟩

/-- A rune put where blanks are. -/
theorem put_blanks {f : Frm} {n k j w : Nat} {r : Int} {A : List Cel} (h : OkF f 40 n) (hk : k < 40) (hw : ofN r = w) (hw0 : 0 < w) (hjw : j + w ≤ n) (hA : A.length = j) (hrow : rowK f.cells n k = A ++ List.replicate (n - j) blkC) :
    (∃ C : List Cel, C.length = w ∧ shownL C = (putB r).data.toList ∧ rowK (putF f (k : Int) (j : Int) r sty0).cells n k = (A ++ C) ++ List.replicate (n - (j + w)) blkC) ∧ ∀ i, i ≠ k → rowK (putF f (k : Int) (j : Int) r sty0).cells n i = rowK f.cells n i := by
  have hw2 := ofN_le r
  have hlen := rowK_len h.len hk
  have hc : canB f (k : Int) (j : Int) r sty0 = true := by
    rw [canB_iff]
    have h1 := h.rows; have h2 := h.cols
    exact ⟨by omega, by omega, by omega, by decide⟩
  have hcells : (putF f (k : Int) (j : Int) r sty0).cells = setK f.cells n k (putL (rowK f.cells n k) j r w sty0) := by
    unfold putF
    rw [h.valid, hc, if_pos rfl, if_pos rfl]
    unfold layF
    rw [h.nat.2, Int.toNat_natCast, Int.toNat_natCast, hw]
  have hpl : (putL (rowK f.cells n k) j r w sty0).length = n := by rw [put_len, hlen]
  refine ⟨?_, fun i hi => by rw [hcells, setK_row _ h.len hk hpl, if_neg hi]⟩
  have hw3 : w = 1 ∨ w = 2 := by omega
  have P := put_at (h.each k hk) j r w sty0 hw3 (by rw [hlen]; exact hjw)
  have hz : ∀ i, j ≤ i → (rowK f.cells n k)[i]?.any (fun c => decide (c.2.1 = 0)) = false := fun i hi => by
    rw [hrow, List.getElem?_append_right (by omega), List.getElem?_replicate]
    split <;> rfl
  rw [hcells, setK_row _ h.len hk hpl, if_pos rfl]
  have hS1 : shownL [((r, (w : Int), sty0) : Cel)] = (putB r).data.toList := by
    unfold shownL
    simp
    omega
  have hat : ∀ (C : List Cel), C.length = w → C[0]? = some (r, (w : Int), sty0) → (w = 2 → C[1]? = some (halfC sty0)) → putL (rowK f.cells n k) j r w sty0 = (A ++ C) ++ List.replicate (n - (j + w)) blkC := fun C hC h0 h1 => by
    apply List.ext_getElem?
    intro i
    rw [P i]
    by_cases e1 : i = j
    · subst e1
      rw [if_pos rfl, List.append_assoc, List.getElem?_append_right (by omega), hA, Nat.sub_self, List.getElem?_append_left (by omega), h0]
    rw [if_neg e1]
    by_cases e2 : i = j + 1 ∧ w = 2
    · rw [if_pos e2, List.append_assoc, List.getElem?_append_right (by omega), hA, show i - j = 1 by omega, List.getElem?_append_left (by omega), h1 e2.2]
    rw [if_neg e2, if_neg (fun q => by rw [hz j (Nat.le_refl _)] at q; exact Bool.false_ne_true q.2), if_neg (fun q => by rw [hz i (by omega)] at q; exact Bool.false_ne_true q.2), hrow]
    by_cases e3 : i < j
    · rw [List.getElem?_append_left (by omega), List.append_assoc, List.getElem?_append_left (by omega)]
    · rw [List.getElem?_append_right (by omega), List.getElem?_append_right (by rw [List.length_append]; omega), List.length_append, List.getElem?_replicate, List.getElem?_replicate]
      have : i - (A.length + C.length) = i - A.length - w := by omega
      by_cases e4 : i < n
      · rw [if_pos (by omega), if_pos (by omega)]
      · rw [if_neg (by omega), if_neg (by omega)]
  rcases hw3 with rfl | rfl
  · exact ⟨[(r, ((1 : Nat) : Int), sty0)], rfl, hS1, hat _ rfl rfl fun e => by omega⟩
  · refine ⟨[(r, ((2 : Nat) : Int), sty0), halfC sty0], rfl, ?_, hat _ rfl rfl fun _ => rfl⟩
    rw [← hS1]
    rfl
theorem shown_app (a b : List Cel) : shownL (a ++ b) = shownL a ++ shownL b := by unfold shownL; rw [List.flatMap_append]
/-- One rune more, in the same row. -/
theorem txI_same {T : Tm} {n used : Nat} {V : List ByteArray} {x : ByteArray} {r : Int} (h : TxI T n V x used) (hr : 0 < ofN r) (hfit : used + ofN r ≤ n) : TxI (writeT T (putB r).data.toList) n V (x ++ putB r) (used + ofN r) := by
  obtain ⟨hh, hs, R, rfl, k1, k2, k3⟩ := shown_facts hr
  rw [write_rune h.ps k1 k2 k3, hs]
  obtain ⟨w, hw⟩ : ∃ w, ofN (R : Int) = w := ⟨_, rfl⟩
  rw [hw] at hr hfit ⊢
  have hw2 := ofN_le (R : Int)
  have hun : used ≠ n := by omega
  have hcol := h.col
  rw [if_neg hun] at hcol
  have hwt := h.wait
  rw [decide_eq_false hun] at hwt
  have hcols := h.ok.fr.cols
  have hrows := h.ok.fr.rows
  obtain ⟨A, hA, hcur, hsh⟩ := h.cur
  have hk : V.length < 40 := by have := h.few; omega
  obtain ⟨⟨C, hC, hCs, hrow⟩, hoth⟩ := put_blanks h.ok.fr hk hw hr hfit hA hcur
  obtain ⟨c1, c2⟩ := put_curs h.ok.fr (V.length : Int) (used : Int) (R : Int) sty0
  have hpo := put_okF h.ok.fr (V.length : Int) (used : Int) (R : Int) sty0
  have hE : showT T (R : Int) = { T with f := goF (putF T.f (V.length : Int) (used : Int) (R : Int) sty0) (V.length : Int) ((used : Int) + (w : Int)), waits := decide (used + w = n) } := by
    unfold showT
    dsimp only
    rw [hw, if_neg (by rw [hwt, hcol, hcols]; simp; omega), h.row, hcol, h.st, c1, c2, h.row, hcol, hpo.cols]
    congr 1
    exact decide_eq_decide.2 (by omega)
  rw [hE]
  refine ⟨⟨go_ok hpo _ _, h.ok.st, h.ok.ps⟩, h.ps, h.st, h.few, ?_, rfl, ?_, hfit, ⟨A ++ C, by rw [List.length_append]; omega, hrow, by rw [shown_app, hsh, hCs, app_data]⟩, fun i y hi => ?_, fun i h1 h2 => by rw [show rowK (goF (putF T.f (V.length : Int) (used : Int) (R : Int) sty0) (V.length : Int) ((used : Int) + (w : Int))).cells n i = _ from hoth i (by omega)]; exact h.rest i h1 h2⟩
  · show min (max 0 (V.length : Int)) ((putF T.f (V.length : Int) (used : Int) (R : Int) sty0).rows - 1) = _
    rw [hpo.rows]
    omega
  · show min (max 0 ((used : Int) + (w : Int))) ((putF T.f (V.length : Int) (used : Int) (R : Int) sty0).cols - 1) = _
    rw [hpo.cols]
    split <;> omega
  · have hil := (List.getElem?_eq_some_iff.1 hi).1
    rw [show rowK (goF (putF T.f (V.length : Int) (used : Int) (R : Int) sty0) (V.length : Int) ((used : Int) + (w : Int))).cells n i = _ from hoth i (by omega)]
    exact h.old i y hi
/-- One rune more, in the next row. -/
theorem txI_next {T : Tm} {n used : Nat} {V : List ByteArray} {x : ByteArray} {r : Int} (h : TxI T n V x used) (hr : 0 < ofN r) (hfit : n < used + ofN r) (hV : V.length + 1 < 40) : TxI (writeT T (putB r).data.toList) n (V ++ [x]) (putB r) (ofN r) := by
  obtain ⟨hh, hs, R, rfl, k1, k2, k3⟩ := shown_facts hr
  rw [write_rune h.ps k1 k2 k3, hs]
  obtain ⟨w, hw⟩ : ∃ w, ofN (R : Int) = w := ⟨_, rfl⟩
  rw [hw] at hr hfit ⊢
  have hw2 := ofN_le (R : Int)
  have hn := h.ok.fr.hn
  have hcols := h.ok.fr.cols
  have hrows := h.ok.fr.rows
  have hu := h.usd
  have hvl : (V ++ [x]).length = V.length + 1 := by simp
  have hcond : T.waits = true ∨ T.f.cols < T.f.col + (w : Int) := by
    by_cases hun : used = n
    · left; rw [h.wait]; exact decide_eq_true hun
    · right; rw [h.col, if_neg hun, hcols]; omega
  have hfd : feedF { T.f with col := 0 } = { T.f with row := (V.length : Int) + 1, col := 0 } := by
    unfold feedF
    rw [if_pos (by show T.f.row < T.f.rows - 1; rw [h.row, hrows]; omega)]
    show ({ T.f with row := T.f.row + 1, col := 0 } : Frm) = _
    rw [h.row]
  have hok2 : OkF { T.f with row := (V.length : Int) + 1, col := 0 } 40 n := h.ok.fr.curs (by omega) (by omega)
  have hblk := h.rest (V.length + 1) (by omega) hV
  obtain ⟨⟨C, hC, hCs, hrow⟩, hoth⟩ := put_blanks (f := { T.f with row := (V.length : Int) + 1, col := 0 }) (A := []) (j := 0) hok2 hV hw hr (by omega) rfl hblk
  obtain ⟨c1, c2⟩ := put_curs hok2 ((V.length + 1 : Nat) : Int) ((0 : Nat) : Int) (R : Int) sty0
  have hpo := put_okF hok2 ((V.length + 1 : Nat) : Int) ((0 : Nat) : Int) (R : Int) sty0
  obtain ⟨F, hF⟩ : ∃ F, putF { T.f with row := (V.length : Int) + 1, col := 0 } ((V.length + 1 : Nat) : Int) ((0 : Nat) : Int) (R : Int) sty0 = F := ⟨_, rfl⟩
  rw [hF] at hrow hoth c1 c2 hpo
  have hE : showT T (R : Int) = { T with f := goF F ((V.length : Int) + 1) (w : Int), waits := decide (w = n) } := by
    unfold showT
    dsimp only
    rw [hw, if_pos hcond, hfd, h.st]
    dsimp only
    rw [show ((V.length : Int) + 1) = ((V.length + 1 : Nat) : Int) by omega, show (0 : Int) = ((0 : Nat) : Int) from rfl]
    rw [show putF { T.f with row := ((V.length + 1 : Nat) : Int), col := ((0 : Nat) : Int) } ((V.length + 1 : Nat) : Int) ((0 : Nat) : Int) (R : Int) sty0 = F from hF, c1, c2, hpo.cols]
    dsimp only
    rw [show ((V.length : Int) + 1) = ((V.length + 1 : Nat) : Int) by omega, Int.zero_add]
    congr 1
    exact decide_eq_decide.2 (by omega)
  rw [hE]
  refine ⟨⟨go_ok hpo _ _, h.ok.st, h.ok.ps⟩, h.ps, h.st, by rw [hvl]; omega, ?_, rfl, ?_, by omega, ⟨C, hC, ?_, hCs⟩, fun i y hi => ?_, fun i h1 h2 => ?_⟩
  · show min (max 0 ((V.length : Int) + 1)) (F.rows - 1) = _
    rw [hpo.rows, hvl]
    omega
  · show min (max 0 (w : Int)) (F.cols - 1) = _
    rw [hpo.cols]
    split <;> omega
  · rw [hvl]
    rw [List.nil_append, Nat.zero_add] at hrow
    exact hrow
  · have hil := (List.getElem?_eq_some_iff.1 hi).1
    rw [hvl] at hil
    rw [show rowK (goF F ((V.length : Int) + 1) (w : Int)).cells n i = _ from hoth i (by omega)]
    by_cases hlt : i < V.length
    · rw [List.getElem?_append_left hlt] at hi
      exact h.old i y hi
    · obtain rfl : i = V.length := by omega
      rw [List.getElem?_append_right (Nat.le_refl _), Nat.sub_self] at hi
      simp at hi
      subst hi
      obtain ⟨A, _, hcur, hsh⟩ := h.cur
      exact ⟨A, _, hcur, hsh⟩
  · rw [hvl] at h1
    rw [show rowK (goF F ((V.length : Int) + 1) (w : Int)).cells n i = _ from hoth i (by omega)]
    exact h.rest i (by omega) h2
/-- What each row shows begins with what was wanted of it. -/
theorem txI_rows {T : Tm} {n used : Nat} {V : List ByteArray} {x : ByteArray} (h : TxI T n V x used) (i : Nat) (y : ByteArray) (hy : (V ++ [x])[i]? = some y) : ∃ g, (rowsF T.f)[i]? = some g ∧ y.size ≤ g.size ∧ g.extract 0 y.size = y := by
  have hvl : (V ++ [x]).length = V.length + 1 := by simp
  have hil := (List.getElem?_eq_some_iff.1 hy).1
  have hf := h.few
  obtain ⟨A, R, hR, hsh⟩ : ∃ A R, rowK T.f.cells n i = A ++ R ∧ shownL A = y.data.toList := by
    by_cases hlt : i < V.length
    · rw [List.getElem?_append_left hlt] at hy
      exact h.old i y hy
    · obtain rfl : i = V.length := by omega
      rw [List.getElem?_append_right (Nat.le_refl _), Nat.sub_self] at hy
      simp at hy
      subst hy
      obtain ⟨A, _, hcur, hsh⟩ := h.cur
      exact ⟨A, _, hcur, hsh⟩
  have hg : (rowsF T.f)[i]? = some (shownS (rowK T.f.cells n i)) := by
    unfold rowsF
    rw [if_pos h.ok.fr.valid, h.ok.fr.nat.1, h.ok.fr.nat.2, List.getElem?_map, List.getElem?_range (by omega)]
    rfl
  refine ⟨_, hg, ?_, ?_⟩
  · rw [Lib.size_eq, Lib.size_eq]
    show y.data.toList.length ≤ (shownL (rowK T.f.cells n i)).length
    rw [hR, shown_app, hsh, List.length_append]
    omega
  · apply ByteArray.ext
    apply Array.toList_inj.1
    rw [Lib.extract_data, List.drop_zero, Nat.sub_zero]
    show (shownL (rowK T.f.cells n i)).take y.size = _
    rw [hR, shown_app, hsh, Lib.size_eq, List.take_left]
end Go.Proofs.YtpkjaallhhjleaaGreatDoor
