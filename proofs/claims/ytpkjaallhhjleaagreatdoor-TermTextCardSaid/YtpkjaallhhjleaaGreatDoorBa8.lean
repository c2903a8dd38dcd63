/-
  term: erase: what it leaves of the cells.
-/
import Derived.Deep.DeepFit
import Derived.Test.YtpkjaallhhjleaaGreatDoorBa7
namespace Go.Proofs.YtpkjaallhhjleaaGreatDoor
open Go.RowKit

/-- The blank that the terminal keeps. -/
def TBlankW (w : World) : Prop := 5 < w.heap.size ∧ cell6 w 5 0 blkC
theorem TBlankW.below {w w' : World} (h : TBlankW w) (hb : Below w.heap.size w w') : TBlankW w' := ⟨Nat.lt_of_lt_of_le h.1 hb.size, h.2.below hb h.1⟩
theorem fill_step' {L : List Cel} {a i : Nat} (hi : i < L.length) (ha : a ≤ i) : (fillB L a i).set i blkC = fillB L a (i + 1) := by
  apply List.ext_getElem?
  intro j
  rw [List.getElem?_set, fillLen ha (by omega), fill_at ha (by omega), fill_at (by omega) (by omega)]
  by_cases e : i = j
  · subst e
    rw [if_pos rfl, if_pos hi, if_pos (by omega)]
  · rw [if_neg e]
    by_cases h : a ≤ j ∧ j < i
    · rw [if_pos h, if_pos (by omega)]
    · rw [if_neg h, if_neg (by omega)]

section
variable {w0 : World} {B G N cap : Nat} {t : Tm}

set_option maxRecDepth 20000 in
set_option maxHeartbeats 4000000 in
theorem erase_ww (a b : Nat) (c : Cel) (d : Cel) (w : World) (h : TmS w0 w B G N cap t) (hL : TBlankW w0) (hab : a < b) (hc : t.f.cells[a]? = some c) (hc0 : c.2.1 = 0) (ha0 : 0 < a) (hbN : b < N) (hd : t.f.cells[b]? = some d) (hd0 : d.2.1 = 0) (hN : N ≤ 20000) :
    Calls Tryz.prog 116 #[.pointer (some ⟨B, 0, none⟩), .int .i64 (a : Int), .int .i64 (b : Int)] w (TmD w0 w B G N cap { t with f := { t.f with cells := fillB t.f.cells (a - 1) (b + 1) } }) := by
  obtain ⟨⟨_, _, x2, _, _⟩, _, _, _⟩ := h.box.cells
  obtain ⟨b0, b1, b2, b3, b4, b5⟩ := hL.2.below h.below hL.1
  simp only [blkC, Nat.zero_add] at b0 b1 b2 b3 b4 b5
  obtain ⟨_, p1, _⟩ : cell6 w G (a * 6) c := by obtain ⟨zs, hz⟩ := h.blk; exact hz.cells hc
  obtain ⟨_, q1, _⟩ : cell6 w G (b * 6) d := by obtain ⟨zs, hz⟩ := h.blk; exact hz.cells hd
  have e1 : (c.2.1 == 0) = true := by rw [beq_iff_eq]; exact hc0
  have e2 : (d.2.1 == 0) = true := by rw [beq_iff_eq]; exact hd0
  have hbN2 : b ≤ N := by omega
  have k1 : (a : Int) < (b : Int) := by omega
  have k2 : (b : Int) < (N : Int) := by omega
  have HL : Hid (t.f.cells.length = N) := h.len
  have HA : Hid (∃ A, A = a - 1 ∧ ((A : Nat) : Int) = (a : Int) - 1) := ⟨_, rfl, by omega⟩
  obtain ⟨A, hA, hA2⟩ := HA.out
  rw [← hA]
  have HB : Hid (∃ D, D = b + 1 ∧ ((D : Nat) : Int) = (b : Int) + 1) := ⟨_, rfl, by omega⟩
  obtain ⟨D, hD, hD2⟩ := HB.out
  rw [← hD]
  have hAD : A ≤ D := by omega
  have hDN : D ≤ N := by omega
  have HA2 := Lib.hid hA2
  clear hA hA2 HA
  have HD2 := Lib.hid hD2
  clear hD hD2 HB
  have HT : Hid (∀ i wr, i < D → A ≤ i → TmS w0 wr B G N cap { t with f := { t.f with cells := fillB t.f.cells A i } } → KeepW (NotBG B G) w wr →
      (∃ e, cell6 wr G (i * 6) e) ∧ cell6 wr 5 0 blkC ∧ (∀ p, wr.frozen? ⟨G, p, none⟩ = false) ∧ TmS w0 (set6 wr G (i * 6) blkC) B G N cap { t with f := { t.f with cells := fillB t.f.cells A (i + 1) } } ∧ KeepW (NotBG B G) w (set6 wr G (i * 6) blkC)) := fun i wr hi hAi hS hK => by
    obtain ⟨zs, hz⟩ := hS.blk
    have hz : blkL wr G (fillB t.f.cells A i) zs := hz
    have hl := h.len
    have hfl : (fillB t.f.cells A i).length = N := by rw [fillLen hAi (by omega)]; exact hl
    have hst := hz.set i blkC (by omega)
    rw [fill_step' (by omega) hAi] at hst
    have hk6 := set6_keep (ok := fun k => k ≠ G) wr G (i * 6) blkC (fun k => k rfl)
    exact ⟨⟨_, hz.cells (List.getElem?_eq_getElem (by omega))⟩, hL.2.below hS.below hL.1, hz.frozen, hS.celled hk6 hst (by rw [fillLen (by omega) (by omega)]; exact hl), hK.trans (hk6.mono fun k _ hk => hk.2)⟩
  have H0 : Hid (TmS w0 w B G N cap { t with f := { t.f with cells := fillB t.f.cells A A } } ∧ KeepW (NotBG B G) w w) := by
    rw [fill_none]
    exact ⟨h, KeepW.refl _ _⟩
  clear h hL HL hc hd
  go_enter Tryz.func116, Tryz.ntmps116
  go_wp2_with fail
  go_loopw [7] (fun s7 wr => ∃ i : Nat, s7 = .int .i64 (i : Int) ∧ A ≤ i ∧ i ≤ D ∧ Hid (TmS w0 wr B G N cap { t with f := { t.f with cells := fillB t.f.cells A i } } ∧ KeepW (NotBG B G) w wr)) (fun s7 _ => D - (intOf s7).toNat)
  case atStart => exact ⟨A, by rw [HA2.out], Nat.le_refl _, hAD, H0⟩
  case round =>
    obtain ⟨i, rfl, hAi, hiD, HI⟩ := hrel
    rcases Nat.lt_or_ge i D with hlt | hge
    · obtain ⟨⟨e, HE⟩, HBk, hfz, HS, HK⟩ := HT.out i wr hlt hAi HI.out.1 HI.out.2
      obtain ⟨g0, g1, g2, g3, g4, g5⟩ := HE
      obtain ⟨y0, y1, y2, y3, y4, y5⟩ := HBk
      simp only [blkC, Nat.zero_add] at y0 y1 y2 y3 y4 y5
      have z0 := hfz (i * 6)
      have z1 := hfz (i * 6 + 1)
      have z2 := hfz (i * 6 + 2)
      have z3 := hfz (i * 6 + 3)
      have z4 := hfz (i * 6 + 4)
      have z5 := hfz (i * 6 + 5)
      have HX := Lib.hid (And.intro HS HK)
      have hlG := HI.out.1.gt
      have j0 : (i : Int) < (b : Int) + 1 := by have := HD2.out; omega
      have j1 : (i : Int) < (N : Int) := by omega
      have j2 : (0 : Int) ≤ (i : Int) := by omega
      clear HI HT hfz HS HK
      go_wp2_with fail
      refine ⟨⟨i + 1, by rw [Int.natCast_add]; rfl, by omega, by omega, HX⟩, ?_⟩
      simp only [intOf]
      omega
    · have j0 : ¬ (i : Int) < (b : Int) + 1 := by have := HD2.out; omega
      obtain rfl : i = D := by omega
      go_wp2_with fail
      go_end0
      exact ⟨rfl, HI.out.1, HI.out.2⟩

set_option maxRecDepth 20000 in
set_option maxHeartbeats 4000000 in
theorem erase_wn (a b : Nat) (c : Cel) (d : Cel) (w : World) (h : TmS w0 w B G N cap t) (hL : TBlankW w0) (hab : a < b) (hc : t.f.cells[a]? = some c) (hc0 : c.2.1 = 0) (ha0 : 0 < a) (hbN : b < N) (hd : t.f.cells[b]? = some d) (hd0 : d.2.1 ≠ 0) (hN : N ≤ 20000) :
    Calls Tryz.prog 116 #[.pointer (some ⟨B, 0, none⟩), .int .i64 (a : Int), .int .i64 (b : Int)] w (TmD w0 w B G N cap { t with f := { t.f with cells := fillB t.f.cells (a - 1) (b) } }) := by
  obtain ⟨⟨_, _, x2, _, _⟩, _, _, _⟩ := h.box.cells
  obtain ⟨b0, b1, b2, b3, b4, b5⟩ := hL.2.below h.below hL.1
  simp only [blkC, Nat.zero_add] at b0 b1 b2 b3 b4 b5
  obtain ⟨_, p1, _⟩ : cell6 w G (a * 6) c := by obtain ⟨zs, hz⟩ := h.blk; exact hz.cells hc
  obtain ⟨_, q1, _⟩ : cell6 w G (b * 6) d := by obtain ⟨zs, hz⟩ := h.blk; exact hz.cells hd
  have e1 : (c.2.1 == 0) = true := by rw [beq_iff_eq]; exact hc0
  have e2 : (d.2.1 == 0) = false := by rw [beq_eq_false_iff_ne]; exact hd0
  have hbN2 : b ≤ N := by omega
  have k1 : (a : Int) < (b : Int) := by omega
  have k2 : (b : Int) < (N : Int) := by omega
  have HL : Hid (t.f.cells.length = N) := h.len
  have HA : Hid (∃ A, A = a - 1 ∧ ((A : Nat) : Int) = (a : Int) - 1) := ⟨_, rfl, by omega⟩
  obtain ⟨A, hA, hA2⟩ := HA.out
  rw [← hA]
  have hAD : A ≤ b := by omega
  have hDN : b ≤ N := by omega
  have HA2 := Lib.hid hA2
  clear hA hA2 HA
  have HT : Hid (∀ i wr, i < b → A ≤ i → TmS w0 wr B G N cap { t with f := { t.f with cells := fillB t.f.cells A i } } → KeepW (NotBG B G) w wr →
      (∃ e, cell6 wr G (i * 6) e) ∧ cell6 wr 5 0 blkC ∧ (∀ p, wr.frozen? ⟨G, p, none⟩ = false) ∧ TmS w0 (set6 wr G (i * 6) blkC) B G N cap { t with f := { t.f with cells := fillB t.f.cells A (i + 1) } } ∧ KeepW (NotBG B G) w (set6 wr G (i * 6) blkC)) := fun i wr hi hAi hS hK => by
    obtain ⟨zs, hz⟩ := hS.blk
    have hz : blkL wr G (fillB t.f.cells A i) zs := hz
    have hl := h.len
    have hfl : (fillB t.f.cells A i).length = N := by rw [fillLen hAi (by omega)]; exact hl
    have hst := hz.set i blkC (by omega)
    rw [fill_step' (by omega) hAi] at hst
    have hk6 := set6_keep (ok := fun k => k ≠ G) wr G (i * 6) blkC (fun k => k rfl)
    exact ⟨⟨_, hz.cells (List.getElem?_eq_getElem (by omega))⟩, hL.2.below hS.below hL.1, hz.frozen, hS.celled hk6 hst (by rw [fillLen (by omega) (by omega)]; exact hl), hK.trans (hk6.mono fun k _ hk => hk.2)⟩
  have H0 : Hid (TmS w0 w B G N cap { t with f := { t.f with cells := fillB t.f.cells A A } } ∧ KeepW (NotBG B G) w w) := by
    rw [fill_none]
    exact ⟨h, KeepW.refl _ _⟩
  clear h hL HL hc hd
  go_enter Tryz.func116, Tryz.ntmps116
  go_wp2_with fail
  go_loopw [7] (fun s7 wr => ∃ i : Nat, s7 = .int .i64 (i : Int) ∧ A ≤ i ∧ i ≤ b ∧ Hid (TmS w0 wr B G N cap { t with f := { t.f with cells := fillB t.f.cells A i } } ∧ KeepW (NotBG B G) w wr)) (fun s7 _ => b - (intOf s7).toNat)
  case atStart => exact ⟨A, by rw [HA2.out], Nat.le_refl _, hAD, H0⟩
  case round =>
    obtain ⟨i, rfl, hAi, hiD, HI⟩ := hrel
    rcases Nat.lt_or_ge i b with hlt | hge
    · obtain ⟨⟨e, HE⟩, HBk, hfz, HS, HK⟩ := HT.out i wr hlt hAi HI.out.1 HI.out.2
      obtain ⟨g0, g1, g2, g3, g4, g5⟩ := HE
      obtain ⟨y0, y1, y2, y3, y4, y5⟩ := HBk
      simp only [blkC, Nat.zero_add] at y0 y1 y2 y3 y4 y5
      have z0 := hfz (i * 6)
      have z1 := hfz (i * 6 + 1)
      have z2 := hfz (i * 6 + 2)
      have z3 := hfz (i * 6 + 3)
      have z4 := hfz (i * 6 + 4)
      have z5 := hfz (i * 6 + 5)
      have HX := Lib.hid (And.intro HS HK)
      have hlG := HI.out.1.gt
      have j0 : (i : Int) < (b : Int) := by omega
      have j1 : (i : Int) < (N : Int) := by omega
      have j2 : (0 : Int) ≤ (i : Int) := by omega
      clear HI HT hfz HS HK
      go_wp2_with fail
      refine ⟨⟨i + 1, by rw [Int.natCast_add]; rfl, by omega, by omega, HX⟩, ?_⟩
      simp only [intOf]
      omega
    · have j0 : ¬ (i : Int) < (b : Int) := by omega
      obtain rfl : i = b := by omega
      go_wp2_with fail
      go_end0
      exact ⟨rfl, HI.out.1, HI.out.2⟩

set_option maxRecDepth 20000 in
set_option maxHeartbeats 4000000 in
theorem erase_wx (a b : Nat) (c : Cel) (w : World) (h : TmS w0 w B G N cap t) (hL : TBlankW w0) (hab : a < b) (hc : t.f.cells[a]? = some c) (hc0 : c.2.1 = 0) (ha0 : 0 < a) (hbN : b ≤ N) (hNb : N ≤ b) (hN : N ≤ 20000) :
    Calls Tryz.prog 116 #[.pointer (some ⟨B, 0, none⟩), .int .i64 (a : Int), .int .i64 (b : Int)] w (TmD w0 w B G N cap { t with f := { t.f with cells := fillB t.f.cells (a - 1) (b) } }) := by
  obtain ⟨⟨_, _, x2, _, _⟩, _, _, _⟩ := h.box.cells
  obtain ⟨b0, b1, b2, b3, b4, b5⟩ := hL.2.below h.below hL.1
  simp only [blkC, Nat.zero_add] at b0 b1 b2 b3 b4 b5
  obtain ⟨_, p1, _⟩ : cell6 w G (a * 6) c := by obtain ⟨zs, hz⟩ := h.blk; exact hz.cells hc
  have e1 : (c.2.1 == 0) = true := by rw [beq_iff_eq]; exact hc0
  have hbN2 : b ≤ N := by omega
  have k1 : (a : Int) < (b : Int) := by omega
  have k2 : ¬ (b : Int) < (N : Int) := by omega
  have HL : Hid (t.f.cells.length = N) := h.len
  have HA : Hid (∃ A, A = a - 1 ∧ ((A : Nat) : Int) = (a : Int) - 1) := ⟨_, rfl, by omega⟩
  obtain ⟨A, hA, hA2⟩ := HA.out
  rw [← hA]
  have hAD : A ≤ b := by omega
  have hDN : b ≤ N := by omega
  have HA2 := Lib.hid hA2
  clear hA hA2 HA
  have HT : Hid (∀ i wr, i < b → A ≤ i → TmS w0 wr B G N cap { t with f := { t.f with cells := fillB t.f.cells A i } } → KeepW (NotBG B G) w wr →
      (∃ e, cell6 wr G (i * 6) e) ∧ cell6 wr 5 0 blkC ∧ (∀ p, wr.frozen? ⟨G, p, none⟩ = false) ∧ TmS w0 (set6 wr G (i * 6) blkC) B G N cap { t with f := { t.f with cells := fillB t.f.cells A (i + 1) } } ∧ KeepW (NotBG B G) w (set6 wr G (i * 6) blkC)) := fun i wr hi hAi hS hK => by
    obtain ⟨zs, hz⟩ := hS.blk
    have hz : blkL wr G (fillB t.f.cells A i) zs := hz
    have hl := h.len
    have hfl : (fillB t.f.cells A i).length = N := by rw [fillLen hAi (by omega)]; exact hl
    have hst := hz.set i blkC (by omega)
    rw [fill_step' (by omega) hAi] at hst
    have hk6 := set6_keep (ok := fun k => k ≠ G) wr G (i * 6) blkC (fun k => k rfl)
    exact ⟨⟨_, hz.cells (List.getElem?_eq_getElem (by omega))⟩, hL.2.below hS.below hL.1, hz.frozen, hS.celled hk6 hst (by rw [fillLen (by omega) (by omega)]; exact hl), hK.trans (hk6.mono fun k _ hk => hk.2)⟩
  have H0 : Hid (TmS w0 w B G N cap { t with f := { t.f with cells := fillB t.f.cells A A } } ∧ KeepW (NotBG B G) w w) := by
    rw [fill_none]
    exact ⟨h, KeepW.refl _ _⟩
  clear h hL HL hc
  go_enter Tryz.func116, Tryz.ntmps116
  go_wp2_with fail
  go_loopw [7] (fun s7 wr => ∃ i : Nat, s7 = .int .i64 (i : Int) ∧ A ≤ i ∧ i ≤ b ∧ Hid (TmS w0 wr B G N cap { t with f := { t.f with cells := fillB t.f.cells A i } } ∧ KeepW (NotBG B G) w wr)) (fun s7 _ => b - (intOf s7).toNat)
  case atStart => exact ⟨A, by rw [HA2.out], Nat.le_refl _, hAD, H0⟩
  case round =>
    obtain ⟨i, rfl, hAi, hiD, HI⟩ := hrel
    rcases Nat.lt_or_ge i b with hlt | hge
    · obtain ⟨⟨e, HE⟩, HBk, hfz, HS, HK⟩ := HT.out i wr hlt hAi HI.out.1 HI.out.2
      obtain ⟨g0, g1, g2, g3, g4, g5⟩ := HE
      obtain ⟨y0, y1, y2, y3, y4, y5⟩ := HBk
      simp only [blkC, Nat.zero_add] at y0 y1 y2 y3 y4 y5
      have z0 := hfz (i * 6)
      have z1 := hfz (i * 6 + 1)
      have z2 := hfz (i * 6 + 2)
      have z3 := hfz (i * 6 + 3)
      have z4 := hfz (i * 6 + 4)
      have z5 := hfz (i * 6 + 5)
      have HX := Lib.hid (And.intro HS HK)
      have hlG := HI.out.1.gt
      have j0 : (i : Int) < (b : Int) := by omega
      have j1 : (i : Int) < (N : Int) := by omega
      have j2 : (0 : Int) ≤ (i : Int) := by omega
      clear HI HT hfz HS HK
      go_wp2_with fail
      refine ⟨⟨i + 1, by rw [Int.natCast_add]; rfl, by omega, by omega, HX⟩, ?_⟩
      simp only [intOf]
      omega
    · have j0 : ¬ (i : Int) < (b : Int) := by omega
      obtain rfl : i = b := by omega
      go_wp2_with fail
      go_end0
      exact ⟨rfl, HI.out.1, HI.out.2⟩

set_option maxRecDepth 20000 in
set_option maxHeartbeats 4000000 in
theorem erase_nw (a b : Nat) (c : Cel) (d : Cel) (w : World) (h : TmS w0 w B G N cap t) (hL : TBlankW w0) (hab : a < b) (hc : t.f.cells[a]? = some c) (hc0 : c.2.1 ≠ 0) (hbN : b < N) (hd : t.f.cells[b]? = some d) (hd0 : d.2.1 = 0) (hN : N ≤ 20000) :
    Calls Tryz.prog 116 #[.pointer (some ⟨B, 0, none⟩), .int .i64 (a : Int), .int .i64 (b : Int)] w (TmD w0 w B G N cap { t with f := { t.f with cells := fillB t.f.cells (a) (b + 1) } }) := by
  obtain ⟨⟨_, _, x2, _, _⟩, _, _, _⟩ := h.box.cells
  obtain ⟨b0, b1, b2, b3, b4, b5⟩ := hL.2.below h.below hL.1
  simp only [blkC, Nat.zero_add] at b0 b1 b2 b3 b4 b5
  obtain ⟨_, p1, _⟩ : cell6 w G (a * 6) c := by obtain ⟨zs, hz⟩ := h.blk; exact hz.cells hc
  obtain ⟨_, q1, _⟩ : cell6 w G (b * 6) d := by obtain ⟨zs, hz⟩ := h.blk; exact hz.cells hd
  have e1 : (c.2.1 == 0) = false := by rw [beq_eq_false_iff_ne]; exact hc0
  have e2 : (d.2.1 == 0) = true := by rw [beq_iff_eq]; exact hd0
  have hbN2 : b ≤ N := by omega
  have k1 : (a : Int) < (b : Int) := by omega
  have k2 : (b : Int) < (N : Int) := by omega
  have HL : Hid (t.f.cells.length = N) := h.len
  have HB : Hid (∃ D, D = b + 1 ∧ ((D : Nat) : Int) = (b : Int) + 1) := ⟨_, rfl, by omega⟩
  obtain ⟨D, hD, hD2⟩ := HB.out
  rw [← hD]
  have hAD : a ≤ D := by omega
  have hDN : D ≤ N := by omega
  have HD2 := Lib.hid hD2
  clear hD hD2 HB
  have HT : Hid (∀ i wr, i < D → a ≤ i → TmS w0 wr B G N cap { t with f := { t.f with cells := fillB t.f.cells a i } } → KeepW (NotBG B G) w wr →
      (∃ e, cell6 wr G (i * 6) e) ∧ cell6 wr 5 0 blkC ∧ (∀ p, wr.frozen? ⟨G, p, none⟩ = false) ∧ TmS w0 (set6 wr G (i * 6) blkC) B G N cap { t with f := { t.f with cells := fillB t.f.cells a (i + 1) } } ∧ KeepW (NotBG B G) w (set6 wr G (i * 6) blkC)) := fun i wr hi hAi hS hK => by
    obtain ⟨zs, hz⟩ := hS.blk
    have hz : blkL wr G (fillB t.f.cells a i) zs := hz
    have hl := h.len
    have hfl : (fillB t.f.cells a i).length = N := by rw [fillLen hAi (by omega)]; exact hl
    have hst := hz.set i blkC (by omega)
    rw [fill_step' (by omega) hAi] at hst
    have hk6 := set6_keep (ok := fun k => k ≠ G) wr G (i * 6) blkC (fun k => k rfl)
    exact ⟨⟨_, hz.cells (List.getElem?_eq_getElem (by omega))⟩, hL.2.below hS.below hL.1, hz.frozen, hS.celled hk6 hst (by rw [fillLen (by omega) (by omega)]; exact hl), hK.trans (hk6.mono fun k _ hk => hk.2)⟩
  have H0 : Hid (TmS w0 w B G N cap { t with f := { t.f with cells := fillB t.f.cells a a } } ∧ KeepW (NotBG B G) w w) := by
    rw [fill_none]
    exact ⟨h, KeepW.refl _ _⟩
  clear h hL HL hc hd
  go_enter Tryz.func116, Tryz.ntmps116
  go_wp2_with fail
  go_loopw [7] (fun s7 wr => ∃ i : Nat, s7 = .int .i64 (i : Int) ∧ a ≤ i ∧ i ≤ D ∧ Hid (TmS w0 wr B G N cap { t with f := { t.f with cells := fillB t.f.cells a i } } ∧ KeepW (NotBG B G) w wr)) (fun s7 _ => D - (intOf s7).toNat)
  case atStart => exact ⟨a, by rfl, Nat.le_refl _, hAD, H0⟩
  case round =>
    obtain ⟨i, rfl, hAi, hiD, HI⟩ := hrel
    rcases Nat.lt_or_ge i D with hlt | hge
    · obtain ⟨⟨e, HE⟩, HBk, hfz, HS, HK⟩ := HT.out i wr hlt hAi HI.out.1 HI.out.2
      obtain ⟨g0, g1, g2, g3, g4, g5⟩ := HE
      obtain ⟨y0, y1, y2, y3, y4, y5⟩ := HBk
      simp only [blkC, Nat.zero_add] at y0 y1 y2 y3 y4 y5
      have z0 := hfz (i * 6)
      have z1 := hfz (i * 6 + 1)
      have z2 := hfz (i * 6 + 2)
      have z3 := hfz (i * 6 + 3)
      have z4 := hfz (i * 6 + 4)
      have z5 := hfz (i * 6 + 5)
      have HX := Lib.hid (And.intro HS HK)
      have hlG := HI.out.1.gt
      have j0 : (i : Int) < (b : Int) + 1 := by have := HD2.out; omega
      have j1 : (i : Int) < (N : Int) := by omega
      have j2 : (0 : Int) ≤ (i : Int) := by omega
      clear HI HT hfz HS HK
      go_wp2_with fail
      refine ⟨⟨i + 1, by rw [Int.natCast_add]; rfl, by omega, by omega, HX⟩, ?_⟩
      simp only [intOf]
      omega
    · have j0 : ¬ (i : Int) < (b : Int) + 1 := by have := HD2.out; omega
      obtain rfl : i = D := by omega
      go_wp2_with fail
      go_end0
      exact ⟨rfl, HI.out.1, HI.out.2⟩

set_option maxRecDepth 20000 in
set_option maxHeartbeats 4000000 in
theorem erase_nn (a b : Nat) (c : Cel) (d : Cel) (w : World) (h : TmS w0 w B G N cap t) (hL : TBlankW w0) (hab : a < b) (hc : t.f.cells[a]? = some c) (hc0 : c.2.1 ≠ 0) (hbN : b < N) (hd : t.f.cells[b]? = some d) (hd0 : d.2.1 ≠ 0) (hN : N ≤ 20000) :
    Calls Tryz.prog 116 #[.pointer (some ⟨B, 0, none⟩), .int .i64 (a : Int), .int .i64 (b : Int)] w (TmD w0 w B G N cap { t with f := { t.f with cells := fillB t.f.cells (a) (b) } }) := by
  obtain ⟨⟨_, _, x2, _, _⟩, _, _, _⟩ := h.box.cells
  obtain ⟨b0, b1, b2, b3, b4, b5⟩ := hL.2.below h.below hL.1
  simp only [blkC, Nat.zero_add] at b0 b1 b2 b3 b4 b5
  obtain ⟨_, p1, _⟩ : cell6 w G (a * 6) c := by obtain ⟨zs, hz⟩ := h.blk; exact hz.cells hc
  obtain ⟨_, q1, _⟩ : cell6 w G (b * 6) d := by obtain ⟨zs, hz⟩ := h.blk; exact hz.cells hd
  have e1 : (c.2.1 == 0) = false := by rw [beq_eq_false_iff_ne]; exact hc0
  have e2 : (d.2.1 == 0) = false := by rw [beq_eq_false_iff_ne]; exact hd0
  have hbN2 : b ≤ N := by omega
  have k1 : (a : Int) < (b : Int) := by omega
  have k2 : (b : Int) < (N : Int) := by omega
  have HL : Hid (t.f.cells.length = N) := h.len
  have hAD : a ≤ b := by omega
  have hDN : b ≤ N := by omega
  have HT : Hid (∀ i wr, i < b → a ≤ i → TmS w0 wr B G N cap { t with f := { t.f with cells := fillB t.f.cells a i } } → KeepW (NotBG B G) w wr →
      (∃ e, cell6 wr G (i * 6) e) ∧ cell6 wr 5 0 blkC ∧ (∀ p, wr.frozen? ⟨G, p, none⟩ = false) ∧ TmS w0 (set6 wr G (i * 6) blkC) B G N cap { t with f := { t.f with cells := fillB t.f.cells a (i + 1) } } ∧ KeepW (NotBG B G) w (set6 wr G (i * 6) blkC)) := fun i wr hi hAi hS hK => by
    obtain ⟨zs, hz⟩ := hS.blk
    have hz : blkL wr G (fillB t.f.cells a i) zs := hz
    have hl := h.len
    have hfl : (fillB t.f.cells a i).length = N := by rw [fillLen hAi (by omega)]; exact hl
    have hst := hz.set i blkC (by omega)
    rw [fill_step' (by omega) hAi] at hst
    have hk6 := set6_keep (ok := fun k => k ≠ G) wr G (i * 6) blkC (fun k => k rfl)
    exact ⟨⟨_, hz.cells (List.getElem?_eq_getElem (by omega))⟩, hL.2.below hS.below hL.1, hz.frozen, hS.celled hk6 hst (by rw [fillLen (by omega) (by omega)]; exact hl), hK.trans (hk6.mono fun k _ hk => hk.2)⟩
  have H0 : Hid (TmS w0 w B G N cap { t with f := { t.f with cells := fillB t.f.cells a a } } ∧ KeepW (NotBG B G) w w) := by
    rw [fill_none]
    exact ⟨h, KeepW.refl _ _⟩
  clear h hL HL hc hd
  go_enter Tryz.func116, Tryz.ntmps116
  go_wp2_with fail
  go_loopw [7] (fun s7 wr => ∃ i : Nat, s7 = .int .i64 (i : Int) ∧ a ≤ i ∧ i ≤ b ∧ Hid (TmS w0 wr B G N cap { t with f := { t.f with cells := fillB t.f.cells a i } } ∧ KeepW (NotBG B G) w wr)) (fun s7 _ => b - (intOf s7).toNat)
  case atStart => exact ⟨a, by rfl, Nat.le_refl _, hAD, H0⟩
  case round =>
    obtain ⟨i, rfl, hAi, hiD, HI⟩ := hrel
    rcases Nat.lt_or_ge i b with hlt | hge
    · obtain ⟨⟨e, HE⟩, HBk, hfz, HS, HK⟩ := HT.out i wr hlt hAi HI.out.1 HI.out.2
      obtain ⟨g0, g1, g2, g3, g4, g5⟩ := HE
      obtain ⟨y0, y1, y2, y3, y4, y5⟩ := HBk
      simp only [blkC, Nat.zero_add] at y0 y1 y2 y3 y4 y5
      have z0 := hfz (i * 6)
      have z1 := hfz (i * 6 + 1)
      have z2 := hfz (i * 6 + 2)
      have z3 := hfz (i * 6 + 3)
      have z4 := hfz (i * 6 + 4)
      have z5 := hfz (i * 6 + 5)
      have HX := Lib.hid (And.intro HS HK)
      have hlG := HI.out.1.gt
      have j0 : (i : Int) < (b : Int) := by omega
      have j1 : (i : Int) < (N : Int) := by omega
      have j2 : (0 : Int) ≤ (i : Int) := by omega
      clear HI HT hfz HS HK
      go_wp2_with fail
      refine ⟨⟨i + 1, by rw [Int.natCast_add]; rfl, by omega, by omega, HX⟩, ?_⟩
      simp only [intOf]
      omega
    · have j0 : ¬ (i : Int) < (b : Int) := by omega
      obtain rfl : i = b := by omega
      go_wp2_with fail
      go_end0
      exact ⟨rfl, HI.out.1, HI.out.2⟩

set_option maxRecDepth 20000 in
set_option maxHeartbeats 4000000 in
theorem erase_nx (a b : Nat) (c : Cel) (w : World) (h : TmS w0 w B G N cap t) (hL : TBlankW w0) (hab : a < b) (hc : t.f.cells[a]? = some c) (hc0 : c.2.1 ≠ 0) (hbN : b ≤ N) (hNb : N ≤ b) (hN : N ≤ 20000) :
    Calls Tryz.prog 116 #[.pointer (some ⟨B, 0, none⟩), .int .i64 (a : Int), .int .i64 (b : Int)] w (TmD w0 w B G N cap { t with f := { t.f with cells := fillB t.f.cells (a) (b) } }) := by
  obtain ⟨⟨_, _, x2, _, _⟩, _, _, _⟩ := h.box.cells
  obtain ⟨b0, b1, b2, b3, b4, b5⟩ := hL.2.below h.below hL.1
  simp only [blkC, Nat.zero_add] at b0 b1 b2 b3 b4 b5
  obtain ⟨_, p1, _⟩ : cell6 w G (a * 6) c := by obtain ⟨zs, hz⟩ := h.blk; exact hz.cells hc
  have e1 : (c.2.1 == 0) = false := by rw [beq_eq_false_iff_ne]; exact hc0
  have hbN2 : b ≤ N := by omega
  have k1 : (a : Int) < (b : Int) := by omega
  have k2 : ¬ (b : Int) < (N : Int) := by omega
  have HL : Hid (t.f.cells.length = N) := h.len
  have hAD : a ≤ b := by omega
  have hDN : b ≤ N := by omega
  have HT : Hid (∀ i wr, i < b → a ≤ i → TmS w0 wr B G N cap { t with f := { t.f with cells := fillB t.f.cells a i } } → KeepW (NotBG B G) w wr →
      (∃ e, cell6 wr G (i * 6) e) ∧ cell6 wr 5 0 blkC ∧ (∀ p, wr.frozen? ⟨G, p, none⟩ = false) ∧ TmS w0 (set6 wr G (i * 6) blkC) B G N cap { t with f := { t.f with cells := fillB t.f.cells a (i + 1) } } ∧ KeepW (NotBG B G) w (set6 wr G (i * 6) blkC)) := fun i wr hi hAi hS hK => by
    obtain ⟨zs, hz⟩ := hS.blk
    have hz : blkL wr G (fillB t.f.cells a i) zs := hz
    have hl := h.len
    have hfl : (fillB t.f.cells a i).length = N := by rw [fillLen hAi (by omega)]; exact hl
    have hst := hz.set i blkC (by omega)
    rw [fill_step' (by omega) hAi] at hst
    have hk6 := set6_keep (ok := fun k => k ≠ G) wr G (i * 6) blkC (fun k => k rfl)
    exact ⟨⟨_, hz.cells (List.getElem?_eq_getElem (by omega))⟩, hL.2.below hS.below hL.1, hz.frozen, hS.celled hk6 hst (by rw [fillLen (by omega) (by omega)]; exact hl), hK.trans (hk6.mono fun k _ hk => hk.2)⟩
  have H0 : Hid (TmS w0 w B G N cap { t with f := { t.f with cells := fillB t.f.cells a a } } ∧ KeepW (NotBG B G) w w) := by
    rw [fill_none]
    exact ⟨h, KeepW.refl _ _⟩
  clear h hL HL hc
  go_enter Tryz.func116, Tryz.ntmps116
  go_wp2_with fail
  go_loopw [7] (fun s7 wr => ∃ i : Nat, s7 = .int .i64 (i : Int) ∧ a ≤ i ∧ i ≤ b ∧ Hid (TmS w0 wr B G N cap { t with f := { t.f with cells := fillB t.f.cells a i } } ∧ KeepW (NotBG B G) w wr)) (fun s7 _ => b - (intOf s7).toNat)
  case atStart => exact ⟨a, by rfl, Nat.le_refl _, hAD, H0⟩
  case round =>
    obtain ⟨i, rfl, hAi, hiD, HI⟩ := hrel
    rcases Nat.lt_or_ge i b with hlt | hge
    · obtain ⟨⟨e, HE⟩, HBk, hfz, HS, HK⟩ := HT.out i wr hlt hAi HI.out.1 HI.out.2
      obtain ⟨g0, g1, g2, g3, g4, g5⟩ := HE
      obtain ⟨y0, y1, y2, y3, y4, y5⟩ := HBk
      simp only [blkC, Nat.zero_add] at y0 y1 y2 y3 y4 y5
      have z0 := hfz (i * 6)
      have z1 := hfz (i * 6 + 1)
      have z2 := hfz (i * 6 + 2)
      have z3 := hfz (i * 6 + 3)
      have z4 := hfz (i * 6 + 4)
      have z5 := hfz (i * 6 + 5)
      have HX := Lib.hid (And.intro HS HK)
      have hlG := HI.out.1.gt
      have j0 : (i : Int) < (b : Int) := by omega
      have j1 : (i : Int) < (N : Int) := by omega
      have j2 : (0 : Int) ≤ (i : Int) := by omega
      clear HI HT hfz HS HK
      go_wp2_with fail
      refine ⟨⟨i + 1, by rw [Int.natCast_add]; rfl, by omega, by omega, HX⟩, ?_⟩
      simp only [intOf]
      omega
    · have j0 : ¬ (i : Int) < (b : Int) := by omega
      obtain rfl : i = b := by omega
      go_wp2_with fail
      go_end0
      exact ⟨rfl, HI.out.1, HI.out.2⟩

set_option maxRecDepth 20000 in
set_option maxHeartbeats 4000000 in
theorem erase_xw (a b : Nat) (d : Cel) (w : World) (h : TmS w0 w B G N cap t) (hL : TBlankW w0) (hab : a ≤ b) (hba : b ≤ a) (hbN : b < N) (hd : t.f.cells[b]? = some d) (hd0 : d.2.1 = 0) (hN : N ≤ 20000) :
    Calls Tryz.prog 116 #[.pointer (some ⟨B, 0, none⟩), .int .i64 (a : Int), .int .i64 (b : Int)] w (TmD w0 w B G N cap { t with f := { t.f with cells := fillB t.f.cells (a) (b + 1) } }) := by
  obtain ⟨⟨_, _, x2, _, _⟩, _, _, _⟩ := h.box.cells
  obtain ⟨b0, b1, b2, b3, b4, b5⟩ := hL.2.below h.below hL.1
  simp only [blkC, Nat.zero_add] at b0 b1 b2 b3 b4 b5
  obtain ⟨_, q1, _⟩ : cell6 w G (b * 6) d := by obtain ⟨zs, hz⟩ := h.blk; exact hz.cells hd
  have e2 : (d.2.1 == 0) = true := by rw [beq_iff_eq]; exact hd0
  have hbN2 : b ≤ N := by omega
  have k1 : ¬ (a : Int) < (b : Int) := by omega
  have k2 : (b : Int) < (N : Int) := by omega
  have HL : Hid (t.f.cells.length = N) := h.len
  have HB : Hid (∃ D, D = b + 1 ∧ ((D : Nat) : Int) = (b : Int) + 1) := ⟨_, rfl, by omega⟩
  obtain ⟨D, hD, hD2⟩ := HB.out
  rw [← hD]
  have hAD : a ≤ D := by omega
  have hDN : D ≤ N := by omega
  have HD2 := Lib.hid hD2
  clear hD hD2 HB
  have HT : Hid (∀ i wr, i < D → a ≤ i → TmS w0 wr B G N cap { t with f := { t.f with cells := fillB t.f.cells a i } } → KeepW (NotBG B G) w wr →
      (∃ e, cell6 wr G (i * 6) e) ∧ cell6 wr 5 0 blkC ∧ (∀ p, wr.frozen? ⟨G, p, none⟩ = false) ∧ TmS w0 (set6 wr G (i * 6) blkC) B G N cap { t with f := { t.f with cells := fillB t.f.cells a (i + 1) } } ∧ KeepW (NotBG B G) w (set6 wr G (i * 6) blkC)) := fun i wr hi hAi hS hK => by
    obtain ⟨zs, hz⟩ := hS.blk
    have hz : blkL wr G (fillB t.f.cells a i) zs := hz
    have hl := h.len
    have hfl : (fillB t.f.cells a i).length = N := by rw [fillLen hAi (by omega)]; exact hl
    have hst := hz.set i blkC (by omega)
    rw [fill_step' (by omega) hAi] at hst
    have hk6 := set6_keep (ok := fun k => k ≠ G) wr G (i * 6) blkC (fun k => k rfl)
    exact ⟨⟨_, hz.cells (List.getElem?_eq_getElem (by omega))⟩, hL.2.below hS.below hL.1, hz.frozen, hS.celled hk6 hst (by rw [fillLen (by omega) (by omega)]; exact hl), hK.trans (hk6.mono fun k _ hk => hk.2)⟩
  have H0 : Hid (TmS w0 w B G N cap { t with f := { t.f with cells := fillB t.f.cells a a } } ∧ KeepW (NotBG B G) w w) := by
    rw [fill_none]
    exact ⟨h, KeepW.refl _ _⟩
  clear h hL HL hd
  go_enter Tryz.func116, Tryz.ntmps116
  go_wp2_with fail
  go_loopw [7] (fun s7 wr => ∃ i : Nat, s7 = .int .i64 (i : Int) ∧ a ≤ i ∧ i ≤ D ∧ Hid (TmS w0 wr B G N cap { t with f := { t.f with cells := fillB t.f.cells a i } } ∧ KeepW (NotBG B G) w wr)) (fun s7 _ => D - (intOf s7).toNat)
  case atStart => exact ⟨a, by rfl, Nat.le_refl _, hAD, H0⟩
  case round =>
    obtain ⟨i, rfl, hAi, hiD, HI⟩ := hrel
    rcases Nat.lt_or_ge i D with hlt | hge
    · obtain ⟨⟨e, HE⟩, HBk, hfz, HS, HK⟩ := HT.out i wr hlt hAi HI.out.1 HI.out.2
      obtain ⟨g0, g1, g2, g3, g4, g5⟩ := HE
      obtain ⟨y0, y1, y2, y3, y4, y5⟩ := HBk
      simp only [blkC, Nat.zero_add] at y0 y1 y2 y3 y4 y5
      have z0 := hfz (i * 6)
      have z1 := hfz (i * 6 + 1)
      have z2 := hfz (i * 6 + 2)
      have z3 := hfz (i * 6 + 3)
      have z4 := hfz (i * 6 + 4)
      have z5 := hfz (i * 6 + 5)
      have HX := Lib.hid (And.intro HS HK)
      have hlG := HI.out.1.gt
      have j0 : (i : Int) < (b : Int) + 1 := by have := HD2.out; omega
      have j1 : (i : Int) < (N : Int) := by omega
      have j2 : (0 : Int) ≤ (i : Int) := by omega
      clear HI HT hfz HS HK
      go_wp2_with fail
      refine ⟨⟨i + 1, by rw [Int.natCast_add]; rfl, by omega, by omega, HX⟩, ?_⟩
      simp only [intOf]
      omega
    · have j0 : ¬ (i : Int) < (b : Int) + 1 := by have := HD2.out; omega
      obtain rfl : i = D := by omega
      go_wp2_with fail
      go_end0
      exact ⟨rfl, HI.out.1, HI.out.2⟩

set_option maxRecDepth 20000 in
set_option maxHeartbeats 4000000 in
theorem erase_xn (a b : Nat) (d : Cel) (w : World) (h : TmS w0 w B G N cap t) (hL : TBlankW w0) (hab : a ≤ b) (hba : b ≤ a) (hbN : b < N) (hd : t.f.cells[b]? = some d) (hd0 : d.2.1 ≠ 0) (_hN : N ≤ 20000) :
    Calls Tryz.prog 116 #[.pointer (some ⟨B, 0, none⟩), .int .i64 (a : Int), .int .i64 (b : Int)] w (TmD w0 w B G N cap { t with f := { t.f with cells := fillB t.f.cells (a) (b) } }) := by
  obtain ⟨⟨_, _, x2, _, _⟩, _, _, _⟩ := h.box.cells
  obtain ⟨b0, b1, b2, b3, b4, b5⟩ := hL.2.below h.below hL.1
  simp only [blkC, Nat.zero_add] at b0 b1 b2 b3 b4 b5
  obtain ⟨_, q1, _⟩ : cell6 w G (b * 6) d := by obtain ⟨zs, hz⟩ := h.blk; exact hz.cells hd
  have e2 : (d.2.1 == 0) = false := by rw [beq_eq_false_iff_ne]; exact hd0
  have hbN2 : b ≤ N := by omega
  have k1 : ¬ (a : Int) < (b : Int) := by omega
  have k2 : (b : Int) < (N : Int) := by omega
  have HL : Hid (t.f.cells.length = N) := h.len
  have hAD : a ≤ b := by omega
  have hDN : b ≤ N := by omega
  have HT : Hid (∀ i wr, i < b → a ≤ i → TmS w0 wr B G N cap { t with f := { t.f with cells := fillB t.f.cells a i } } → KeepW (NotBG B G) w wr →
      (∃ e, cell6 wr G (i * 6) e) ∧ cell6 wr 5 0 blkC ∧ (∀ p, wr.frozen? ⟨G, p, none⟩ = false) ∧ TmS w0 (set6 wr G (i * 6) blkC) B G N cap { t with f := { t.f with cells := fillB t.f.cells a (i + 1) } } ∧ KeepW (NotBG B G) w (set6 wr G (i * 6) blkC)) := fun i wr hi hAi hS hK => by
    obtain ⟨zs, hz⟩ := hS.blk
    have hz : blkL wr G (fillB t.f.cells a i) zs := hz
    have hl := h.len
    have hfl : (fillB t.f.cells a i).length = N := by rw [fillLen hAi (by omega)]; exact hl
    have hst := hz.set i blkC (by omega)
    rw [fill_step' (by omega) hAi] at hst
    have hk6 := set6_keep (ok := fun k => k ≠ G) wr G (i * 6) blkC (fun k => k rfl)
    exact ⟨⟨_, hz.cells (List.getElem?_eq_getElem (by omega))⟩, hL.2.below hS.below hL.1, hz.frozen, hS.celled hk6 hst (by rw [fillLen (by omega) (by omega)]; exact hl), hK.trans (hk6.mono fun k _ hk => hk.2)⟩
  have H0 : Hid (TmS w0 w B G N cap { t with f := { t.f with cells := fillB t.f.cells a a } } ∧ KeepW (NotBG B G) w w) := by
    rw [fill_none]
    exact ⟨h, KeepW.refl _ _⟩
  clear h hL HL hd
  go_enter Tryz.func116, Tryz.ntmps116
  go_wp2_with fail
  go_loopw [7] (fun s7 wr => ∃ i : Nat, s7 = .int .i64 (i : Int) ∧ a ≤ i ∧ i ≤ b ∧ Hid (TmS w0 wr B G N cap { t with f := { t.f with cells := fillB t.f.cells a i } } ∧ KeepW (NotBG B G) w wr)) (fun s7 _ => b - (intOf s7).toNat)
  case atStart => exact ⟨a, by rfl, Nat.le_refl _, hAD, H0⟩
  case round =>
    obtain ⟨i, rfl, hAi, hiD, HI⟩ := hrel
    rcases Nat.lt_or_ge i b with hlt | hge
    · exfalso; omega
    · have j0 : ¬ (i : Int) < (b : Int) := by omega
      obtain rfl : i = b := by omega
      go_wp2_with fail
      go_end0
      exact ⟨rfl, HI.out.1, HI.out.2⟩

set_option maxRecDepth 20000 in
set_option maxHeartbeats 4000000 in
theorem erase_xx (a b : Nat) (w : World) (h : TmS w0 w B G N cap t) (hL : TBlankW w0) (hab : a ≤ b) (hba : b ≤ a) (hbN : b ≤ N) (hNb : N ≤ b) (_hN : N ≤ 20000) :
    Calls Tryz.prog 116 #[.pointer (some ⟨B, 0, none⟩), .int .i64 (a : Int), .int .i64 (b : Int)] w (TmD w0 w B G N cap { t with f := { t.f with cells := fillB t.f.cells (a) (b) } }) := by
  obtain ⟨⟨_, _, x2, _, _⟩, _, _, _⟩ := h.box.cells
  obtain ⟨b0, b1, b2, b3, b4, b5⟩ := hL.2.below h.below hL.1
  simp only [blkC, Nat.zero_add] at b0 b1 b2 b3 b4 b5
  have hbN2 : b ≤ N := by omega
  have k1 : ¬ (a : Int) < (b : Int) := by omega
  have k2 : ¬ (b : Int) < (N : Int) := by omega
  have HL : Hid (t.f.cells.length = N) := h.len
  have hAD : a ≤ b := by omega
  have hDN : b ≤ N := by omega
  have HT : Hid (∀ i wr, i < b → a ≤ i → TmS w0 wr B G N cap { t with f := { t.f with cells := fillB t.f.cells a i } } → KeepW (NotBG B G) w wr →
      (∃ e, cell6 wr G (i * 6) e) ∧ cell6 wr 5 0 blkC ∧ (∀ p, wr.frozen? ⟨G, p, none⟩ = false) ∧ TmS w0 (set6 wr G (i * 6) blkC) B G N cap { t with f := { t.f with cells := fillB t.f.cells a (i + 1) } } ∧ KeepW (NotBG B G) w (set6 wr G (i * 6) blkC)) := fun i wr hi hAi hS hK => by
    obtain ⟨zs, hz⟩ := hS.blk
    have hz : blkL wr G (fillB t.f.cells a i) zs := hz
    have hl := h.len
    have hfl : (fillB t.f.cells a i).length = N := by rw [fillLen hAi (by omega)]; exact hl
    have hst := hz.set i blkC (by omega)
    rw [fill_step' (by omega) hAi] at hst
    have hk6 := set6_keep (ok := fun k => k ≠ G) wr G (i * 6) blkC (fun k => k rfl)
    exact ⟨⟨_, hz.cells (List.getElem?_eq_getElem (by omega))⟩, hL.2.below hS.below hL.1, hz.frozen, hS.celled hk6 hst (by rw [fillLen (by omega) (by omega)]; exact hl), hK.trans (hk6.mono fun k _ hk => hk.2)⟩
  have H0 : Hid (TmS w0 w B G N cap { t with f := { t.f with cells := fillB t.f.cells a a } } ∧ KeepW (NotBG B G) w w) := by
    rw [fill_none]
    exact ⟨h, KeepW.refl _ _⟩
  clear h hL HL
  go_enter Tryz.func116, Tryz.ntmps116
  go_wp2_with fail
  go_loopw [7] (fun s7 wr => ∃ i : Nat, s7 = .int .i64 (i : Int) ∧ a ≤ i ∧ i ≤ b ∧ Hid (TmS w0 wr B G N cap { t with f := { t.f with cells := fillB t.f.cells a i } } ∧ KeepW (NotBG B G) w wr)) (fun s7 _ => b - (intOf s7).toNat)
  case atStart => exact ⟨a, by rfl, Nat.le_refl _, hAD, H0⟩
  case round =>
    obtain ⟨i, rfl, hAi, hiD, HI⟩ := hrel
    rcases Nat.lt_or_ge i b with hlt | hge
    · exfalso; omega
    · have j0 : ¬ (i : Int) < (b : Int) := by omega
      obtain rfl : i = b := by omega
      go_wp2_with fail
      go_end0
      exact ⟨rfl, HI.out.1, HI.out.2⟩

theorem erase_any (a b : Nat) (w : World) (h : TmS w0 w B G N cap t) (hL : TBlankW w0) (hab : a ≤ b) (hbN : b ≤ N) (hN : N ≤ 20000) (ha0 : a < b → w0_ t.f.cells a = true → 0 < a) :
    Calls Tryz.prog 116 #[.pointer (some ⟨B, 0, none⟩), .int .i64 (a : Int), .int .i64 (b : Int)] w (TmD w0 w B G N cap { t with f := { t.f with cells := eraseL t.f.cells a b } }) := by
  have hl := h.len
  have hout : ∀ i, i < N → ∃ c, t.f.cells[i]? = some c := fun i hi => ⟨_, List.getElem?_eq_getElem (by omega)⟩
  have hw : ∀ i c, t.f.cells[i]? = some c → w0_ t.f.cells i = decide (c.2.1 = 0) := fun i c hc => by
    unfold w0_
    rw [hc]; rfl
  unfold eraseL fromN toN
  by_cases h1 : a < b
  · obtain ⟨c, hc⟩ := hout a (by omega)
    by_cases hc0 : c.2.1 = 0
    · have e1 : w0_ t.f.cells a = true := by rw [hw a c hc]; exact decide_eq_true hc0
      rw [if_pos ⟨h1, e1⟩]
      by_cases h2 : b < N
      · obtain ⟨d, hd⟩ := hout b h2
        by_cases hd0 : d.2.1 = 0
        · rw [if_pos (by rw [hw b d hd]; exact decide_eq_true hd0)]
          exact erase_ww a b c d w h hL h1 hc hc0 (ha0 h1 e1) h2 hd hd0 hN
        · rw [if_neg (by rw [hw b d hd]; simpa using hd0)]
          exact erase_wn a b c d w h hL h1 hc hc0 (ha0 h1 e1) h2 hd hd0 hN
      · rw [if_neg (by rw [w0_out (by omega)]; decide)]
        exact erase_wx a b c w h hL h1 hc hc0 (ha0 h1 e1) hbN (by omega) hN
    · rw [if_neg (fun k => by have := k.2; rw [hw a c hc] at this; exact hc0 (of_decide_eq_true this))]
      by_cases h2 : b < N
      · obtain ⟨d, hd⟩ := hout b h2
        by_cases hd0 : d.2.1 = 0
        · rw [if_pos (by rw [hw b d hd]; exact decide_eq_true hd0)]
          exact erase_nw a b c d w h hL h1 hc hc0 h2 hd hd0 hN
        · rw [if_neg (by rw [hw b d hd]; simpa using hd0)]
          exact erase_nn a b c d w h hL h1 hc hc0 h2 hd hd0 hN
      · rw [if_neg (by rw [w0_out (by omega)]; decide)]
        exact erase_nx a b c w h hL h1 hc hc0 hbN (by omega) hN
  · rw [if_neg (fun k => h1 k.1)]
    by_cases h2 : b < N
    · obtain ⟨d, hd⟩ := hout b h2
      by_cases hd0 : d.2.1 = 0
      · rw [if_pos (by rw [hw b d hd]; exact decide_eq_true hd0)]
        exact erase_xw a b d w h hL hab (by omega) h2 hd hd0 hN
      · rw [if_neg (by rw [hw b d hd]; simpa using hd0)]
        exact erase_xn a b d w h hL hab (by omega) h2 hd hd0 hN
    · rw [if_neg (by rw [w0_out (by omega)]; decide)]
      exact erase_xx a b w h hL hab (by omega) hbN (by omega) hN
end
end Go.Proofs.YtpkjaallhhjleaaGreatDoor
