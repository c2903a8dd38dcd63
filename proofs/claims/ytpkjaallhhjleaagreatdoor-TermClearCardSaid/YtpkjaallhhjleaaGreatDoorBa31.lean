/-
  Plain facts: behind a clearing and the usual style a terminal is as a new one, but for how often it rang; and so it goes on. Nothing of the program is run here.
-/
import Derived.Test.YtpkjaallhhjleaaGreatDoorBa7
namespace Go.Proofs.YtpkjaallhhjleaaGreatDoor
open Go.RowKit

/-- Behind a beginning of a rune 24 is none of it. -/
theorem ok24 (s : ByteArray) (h : Beg s) : okAt (s ++ oneS 24) 0 = false := by
  have hsz : (s ++ oneS 24).size = s.size + 1 := by rw [app_size]; rfl
  have hl := bt_appR s (oneS 24) 0
  rw [bt_one 24 (by decide), Nat.add_zero] at hl
  have e : Utf8.decode (s ++ oneS 24) 0 = (65533, 1) := by
    rw [dec_bt, Nat.sub_zero, hsz]
    rcases h with ⟨h0, h1, h2⟩ | ⟨h0, h1, h2, h3, h4⟩ | ⟨h0, h1, h2, h3, h4, h5, h6⟩
    · rw [h0] at hl ⊢
      have e0 := bt_appL s (oneS 24) 0 (by omega)
      rw [e0, hl]
      unfold Lib.decodeN
      repeat' split
      all_goals first | rfl | (exfalso; omega)
    · rw [h0] at hl ⊢
      have e0 := bt_appL s (oneS 24) 0 (by omega)
      rw [e0, hl]
      unfold Lib.decodeN
      repeat' split
      all_goals first | rfl | (exfalso; omega)
    · rw [h0] at hl ⊢
      have e0 := bt_appL s (oneS 24) 0 (by omega)
      rw [e0, hl]
      unfold Lib.decodeN
      repeat' split
      all_goals first | rfl | (exfalso; omega)
  unfold okAt
  rw [e]
  rfl
theorem beg24 (s : ByteArray) (h : Beg s) : begB (s ++ oneS 24) = false := by
  rw [Bool.eq_false_iff]
  intro hb
  have hb : Beg (s ++ oneS 24) := of_decide_eq_true hb
  have hbt := bt_appR s (oneS 24) 0
  rw [bt_one 24 (by decide), Nat.add_zero] at hbt
  have hs : (s ++ oneS 24).size = s.size + 1 := app_size _ _
  have hs1 : 1 ≤ s.size := by rcases h with h | h | h <;> omega
  have hlo : ∀ b, 128 ≤ loB b := fun b => by
    unfold loB
    repeat' split
    all_goals omega
  rcases hb with ⟨h1, _⟩ | ⟨h1, _, _, h2, _⟩ | ⟨h1, _, _, _, _, h2, _⟩
  · omega
  · have e : s.size = 1 := by omega
    rw [e] at hbt
    have := hlo (bt (s ++ oneS 24) 0)
    omega
  · have e : s.size = 2 := by omega
    rw [e] at hbt
    omega
theorem feed24' (p : Ps) (h : OkP p) : (feedN p 24).1 = .zero ∧ ∀ a ∈ (feedN p 24).2, a.1 = 5 ∨ (a.1 = 2 ∧ a.2.1 = 24) := by
  have h1 : ∀ a ∈ [badA], a.1 = 5 ∨ (a.1 = 2 ∧ a.2.1 = 24) := fun a ha => by rw [List.mem_singleton.1 ha]; exact .inl rfl
  have h2 : ∀ a ∈ [((2, 24, [], 0) : Ac)], a.1 = 5 ∨ (a.1 = 2 ∧ a.2.1 = 24) := fun a ha => by rw [List.mem_singleton.1 ha]; exact .inr ⟨rfl, rfl⟩
  cases p with
  | zero => exact ⟨rfl, h2⟩
  | start s =>
    show (startN s 24).1 = .zero ∧ ∀ a ∈ (startN s 24).2, _
    unfold startN
    rw [ok24 s h, beg24 s h, if_neg (by decide), if_neg (by decide)]
    refine ⟨rfl, fun a ha => ?_⟩
    rcases List.mem_cons.1 ha with ha | ha
    · exact h1 a (List.mem_singleton.2 ha)
    · exact h2 a ha
  | esc => exact ⟨rfl, h1⟩
  | seq pre x => exact ⟨rfl, h1⟩
  | bad => exact ⟨rfl, h1⟩
theorem inert_do (t : Tm) (a : Ac) (h : a.1 = 5 ∨ (a.1 = 2 ∧ a.2.1 = 24)) : doT t a = t := by
  unfold doT
  rcases h with h | ⟨h, h2⟩
  · rw [h, if_neg (by decide), if_neg (by decide), if_neg (by decide)]
  · rw [h, h2, if_neg (by decide), if_pos rfl]
    rfl
theorem inert_dos : ∀ (l : List Ac) (t : Tm), (∀ a ∈ l, a.1 = 5 ∨ (a.1 = 2 ∧ a.2.1 = 24)) → l.foldl doT t = t
  | [], _, _ => rfl
  | a :: l, t, h => by
    rw [List.foldl_cons, inert_do t a (h a (List.mem_cons_self ..))]
    exact inert_dos l t fun b hb => h b (List.mem_cons_of_mem _ hb)
theorem byte24 (t : Tm) (h : OkP t.p) : byteT t 24 = { t with p := .zero } := by
  obtain ⟨h1, h2⟩ := feed24' t.p h
  unfold byteT
  rw [inert_dos _ _ h2, h1]
/-- All erased: from the first place on, all are blanks. -/
theorem erase_all {f : Frm} {m n : Nat} (h : OkF f m n) (hr : f.row = 0) : (rowE (rowsE f 2) 2).cells = List.replicate (m * n) blkC := by
  have hn := h.hn
  have hm := h.hm
  have hL := okF_all h
  have hlen := h.len
  have hle : n ≤ m * n := h.len ▸ h.le.1
  have e1 : (0 + 1) * n = n := by omega
  have h1 := erase_ok (a := n) (b := f.cells.length) hL h.le.1 (Nat.le_refl _) (fun _ => w0_out (Nat.le_refl _))
  have hM := okF_all (rowsE_ok h 2)
  have hMl := (rowsE_ok h 2).len
  have f1 : fromN f.cells n f.cells.length = n := by
    unfold fromN
    have := w0_front (k := 1) hL
    rw [Nat.one_mul] at this
    rw [this, if_neg (by simp)]
  have f2 : toN f.cells f.cells.length = f.cells.length := by
    unfold toN
    rw [w0_out (Nat.le_refl _), if_neg (by decide)]
  have hM1 : (rowsE f 2).cells = fillB f.cells n f.cells.length := by
    unfold rowsE
    dsimp only
    rw [hr, h.nat.2, if_pos (.inr rfl), if_pos (.inr rfl), show (0 : Int).toNat = 0 from rfl, Nat.zero_mul, e1]
    have a1 : eraseL f.cells n f.cells.length = fillB f.cells n f.cells.length := by unfold eraseL; rw [f1, f2]
    rw [a1] at h1 ⊢
    have g := w0_front (k := 0) h1.2
    rw [Nat.zero_mul] at g
    have a2 : eraseL (fillB f.cells n f.cells.length) 0 0 = fillB f.cells n f.cells.length := by
      unfold eraseL fromN toN
      rw [g, if_neg (by simp), if_neg (by decide), fill_none]
    exact a2
  have hX : (rowE (rowsE f 2) 2).cells = eraseL (rowsE f 2).cells 0 n := by
    unfold rowE
    dsimp only
    rw [show (rowsE f 2).row = 0 from hr, show (rowsE f 2).cols.toNat = n from h.nat.2, if_neg (by decide), if_neg (by decide), if_pos rfl, show (0 : Int).toNat = 0 from rfl, Nat.zero_mul, Nat.zero_add]
  rw [hX]
  obtain ⟨g1, g2, g3, g4, g5⟩ := erase_ends (a := 0) (b := n) hM (by omega) (by omega)
  have hat : ∀ i, (rowsE f 2).cells[i]? = if n ≤ i ∧ i < f.cells.length then some blkC else f.cells[i]? := fun i => by rw [hM1, fill_at h.le.1 (Nat.le_refl _)]
  apply List.ext_getElem?
  intro i
  unfold eraseL
  rw [fill_at (by omega) g3, hat, List.getElem?_replicate]
  have g0 : fromN (rowsE f 2).cells 0 n = 0 := by omega
  rw [g0]
  by_cases hi : i < m * n
  · rw [if_pos hi]
    by_cases h2 : i < toN (rowsE f 2).cells n
    · rw [if_pos ⟨Nat.zero_le _, h2⟩]
    · rw [if_neg (fun k => h2 k.2), if_pos (by omega)]
  · rw [if_neg hi, if_neg (by omega), if_neg (by omega), List.getElem?_eq_none (by omega)]
theorem byte_of (t : Tm) (b : Nat) (p : Ps) (l : List Ac) (h : feedN t.p b = (p, l)) : byteT t b = l.foldl doT { t with p := p } := by
  unfold byteT
  rw [h]
theorem f_esc : feedN .zero 27 = (.esc, []) := rfl
theorem f_seq : feedN .esc 91 = (.seq [] none, []) := rfl
theorem f_h : feedN (.seq [] none) 72 = (.zero, [(3, 0, [], 72)]) := rfl
theorem f_two : feedN (.seq [] none) 50 = (.seq [] (some 2), []) := rfl
theorem f_j : feedN (.seq [] (some 2)) 74 = (.zero, [(3, 0, [2], 74)]) := rfl
theorem f_m : feedN (.seq [] none) 109 = (.zero, [(3, 0, [], 109)]) := rfl
theorem write_h (t : Tm) (h : t.p = .zero) (r : List UInt8) : writeT t (27 :: 91 :: 72 :: r) = writeT (seqT t [] 72) r := by
  have e0 : ({ t with p := .zero } : Tm) = t := by rw [← h]
  rw [write_cons, write_cons, write_cons, show (27 : UInt8).toNat = 27 from rfl, show (91 : UInt8).toNat = 91 from rfl, show (72 : UInt8).toNat = 72 from rfl, byte_of t 27 .esc [] (by rw [h]; exact f_esc), byte_of _ 91 (.seq [] none) [] f_seq, byte_of _ 72 .zero [(3, 0, [], 72)] f_h]
  show writeT (seqT { t with p := .zero } [] 72) r = _
  rw [e0]
theorem write_j (t : Tm) (h : t.p = .zero) (r : List UInt8) : writeT t (27 :: 91 :: 50 :: 74 :: r) = writeT (seqT t [2] 74) r := by
  have e0 : ({ t with p := .zero } : Tm) = t := by rw [← h]
  rw [write_cons, write_cons, write_cons, write_cons, show (27 : UInt8).toNat = 27 from rfl, show (91 : UInt8).toNat = 91 from rfl, show (50 : UInt8).toNat = 50 from rfl, show (74 : UInt8).toNat = 74 from rfl, byte_of t 27 .esc [] (by rw [h]; exact f_esc), byte_of _ 91 (.seq [] none) [] f_seq, byte_of _ 50 (.seq [] (some 2)) [] f_two, byte_of _ 74 .zero [(3, 0, [2], 74)] f_j]
  show writeT (seqT { t with p := .zero } [2] 74) r = _
  rw [e0]
theorem write_m (t : Tm) (h : t.p = .zero) (r : List UInt8) : writeT t (27 :: 91 :: 109 :: r) = writeT (seqT t [] 109) r := by
  have e0 : ({ t with p := .zero } : Tm) = t := by rw [← h]
  rw [write_cons, write_cons, write_cons, show (27 : UInt8).toNat = 27 from rfl, show (91 : UInt8).toNat = 91 from rfl, show (109 : UInt8).toNat = 109 from rfl, byte_of t 27 .esc [] (by rw [h]; exact f_esc), byte_of _ 91 (.seq [] none) [] f_seq, byte_of _ 109 .zero [(3, 0, [], 109)] f_m]
  show writeT (seqT { t with p := .zero } [] 109) r = _
  rw [e0]
def clrL : List UInt8 := [24, 27, 91, 72, 27, 91, 50, 74, 27, 91, 109]
theorem clear_is {t : Tm} {m n : Nat} (h : OkT t m n) : writeT t clrL = { newT (m : Int) (n : Int) with bells := t.bells } := by
  have hm := h.fr.hm
  have hn := h.fr.hn
  have hr := h.fr.rows
  have hc := h.fr.cols
  have a1 : writeT t clrL = writeT { t with p := .zero } [27, 91, 72, 27, 91, 50, 74, 27, 91, 109] := by
    unfold clrL
    rw [write_cons, show (24 : UInt8).toNat = 24 from rfl, byte24 t h.ps]
  have a2 : writeT { t with p := .zero } [27, 91, 72, 27, 91, 50, 74, 27, 91, 109] = writeT (seqT { t with p := .zero } [] 72) [27, 91, 50, 74, 27, 91, 109] := write_h _ rfl _
  have a3 : seqT { t with p := .zero } [] 72 = { t with f := { t.f with row := 0, col := 0 }, waits := false, p := .zero } := by
    show ({ t with f := goF t.f (((0 : Nat) : Int) - 1) (((0 : Nat) : Int) - 1), waits := false, p := .zero } : Tm) = _
    unfold goF
    rw [show min (max 0 (((0 : Nat) : Int) - 1)) (t.f.rows - 1) = 0 by omega, show min (max 0 (((0 : Nat) : Int) - 1)) (t.f.cols - 1) = 0 by omega]
  have hok : OkF { t.f with row := 0, col := 0 } m n := h.fr.curs (by omega) (by omega)
  have hE := erase_all hok rfl
  obtain ⟨u, hu⟩ : ∃ u : Tm, { t with f := { t.f with row := 0, col := 0 }, waits := false, p := .zero } = u := ⟨_, rfl⟩
  have hup : u.p = .zero := by rw [← hu]
  have a4 : writeT u [27, 91, 50, 74, 27, 91, 109] = writeT (seqT u [2] 74) [27, 91, 109] := write_j u hup _
  have a5 : seqT u [2] 74 = { u with f := rowE (rowsE u.f 2) 2, waits := false } := rfl
  obtain ⟨v, hv⟩ : ∃ v : Tm, { u with f := rowE (rowsE u.f 2) 2, waits := false } = v := ⟨_, rfl⟩
  have hvp : v.p = .zero := by rw [← hv]; exact hup
  have a6 : writeT v [27, 91, 109] = { v with sty := sty0 } := by
    rw [write_m v hvp]
    rfl
  rw [a1, a2, a3, hu, a4, a5, hv, a6, ← hv, ← hu]
  unfold newT newF
  rw [if_pos ((sizedB_iff _ _).2 (by omega)), ← Int.natCast_mul, Int.toNat_natCast, ← hE]
  have e : rowE (rowsE { t.f with row := 0, col := 0 } 2) 2 = ⟨(m : Int), (n : Int), (rowE (rowsE { t.f with row := 0, col := 0 } 2) 2).cells, 0, 0⟩ := by
    rw [← hr, ← hc]
    rfl
  rw [← e]

/-- How often it rang tells nothing else. -/
theorem ring_do (u : Tm) (b : Int) (a : Ac) : ∃ b', doT { u with bells := b } a = { doT u a with bells := b' } := by
  unfold doT
  by_cases h1 : a.1 = 1
  · rw [if_pos h1, if_pos h1]; exact ⟨b, rfl⟩
  rw [if_neg h1, if_neg h1]
  by_cases h2 : a.1 = 2
  · rw [if_pos h2, if_pos h2]
    unfold controlT
    by_cases r7 : (a.2.1 : Int) = 7
    · rw [if_pos r7, if_pos r7]; exact ⟨wrap64 (b + 1), rfl⟩
    rw [if_neg r7, if_neg r7]
    by_cases r8 : (a.2.1 : Int) = 8
    · rw [if_pos r8, if_pos r8]; exact ⟨b, rfl⟩
    rw [if_neg r8, if_neg r8]
    by_cases r10 : (a.2.1 : Int) = 10
    · rw [if_pos r10, if_pos r10]; exact ⟨b, rfl⟩
    rw [if_neg r10, if_neg r10]
    by_cases r13 : (a.2.1 : Int) = 13
    · rw [if_pos r13, if_pos r13]; exact ⟨b, rfl⟩
    rw [if_neg r13, if_neg r13]
    exact ⟨b, rfl⟩
  rw [if_neg h2, if_neg h2]
  by_cases h3 : a.1 = 3
  · rw [if_pos h3, if_pos h3]
    unfold seqT
    dsimp only
    repeat' split
    all_goals exact ⟨b, rfl⟩
  · rw [if_neg h3, if_neg h3]; exact ⟨b, rfl⟩
theorem ring_dos : ∀ (l : List Ac) (u : Tm) (b : Int), ∃ b', l.foldl doT { u with bells := b } = { l.foldl doT u with bells := b' }
  | [], u, b => ⟨b, rfl⟩
  | a :: l, u, b => by
    obtain ⟨b', h⟩ := ring_do u b a
    rw [List.foldl_cons, List.foldl_cons, h]
    exact ring_dos l (doT u a) b'
theorem ring_write : ∀ (L : List UInt8) (u : Tm) (b : Int), ∃ b', writeT { u with bells := b } L = { writeT u L with bells := b' }
  | [], u, b => ⟨b, rfl⟩
  | x :: L, u, b => by
    have h : ∃ b', byteT { u with bells := b } x.toNat = { byteT u x.toNat with bells := b' } := ring_dos _ { u with p := (feedN u.p x.toNat).1 } b
    obtain ⟨b', h⟩ := h
    rw [write_cons, write_cons, h]
    exact ring_write L (byteT u x.toNat) b'
/-- Behind a clearing what is written shows the same. -/
theorem clear_same (m n : Nat) (hm : 2 ≤ m ∧ m ≤ 100) (hn : 8 ≤ n ∧ n ≤ 200) (A S : List UInt8) : (writeT (newT (m : Int) (n : Int)) (A ++ clrL ++ S)).f = (writeT (newT (m : Int) (n : Int)) S).f := by
  rw [write_app, write_app, clear_is (write_ok (newT_ok m n hm hn) A)]
  obtain ⟨b', h⟩ := ring_write S (newT (m : Int) (n : Int)) (writeT (newT (m : Int) (n : Int)) A).bells
  rw [h]
end Go.Proofs.YtpkjaallhhjleaaGreatDoor
