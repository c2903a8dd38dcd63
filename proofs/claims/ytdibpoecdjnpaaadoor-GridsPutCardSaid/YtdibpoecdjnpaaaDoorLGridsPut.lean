/-
  limnerlaw06.GridsPut: it returns true: for every input that a row tells.
-/
import Derived.Deep.Cut
import Derived.Deep.RegionHeld3
import Derived.Test.YtdibpoecdjnpaaaDoorBa41
import Derived.Test.YtdibpoecdjnpaaaDoorBa42
import Derived.Test.YtdibpoecdjnpaaaDoorBa45
namespace Go.Proofs.YtdibpoecdjnpaaaDoor
open Go.RowKit

/-- What lies in memory behind each round: the frame's box, its cells elsewhere. -/
structure PlS (w W : World) (p : Pnt) (ao : Option Addr) (N cap H : Nat) (f : Frm) (fo : Option Addr) (fn fc : Nat) : Prop where
  below : Below w.heap.size w W
  pb : pnB W w.heap.size p (.slice ao N cap)
  box : frB W H f.rows f.cols (.slice fo fn fc) f.row f.col
  far : w.heap.size + 1 ≤ H
  all : FrameW AnyB W (.agg #[.int .i64 f.rows, .int .i64 f.cols, .slice fo fn fc, .int .i64 f.row, .int .i64 f.col]) f
section
variable {w W : World} {p : Pnt} {ao fo : Option Addr} {N cap H fn fc : Nat} {f : Frm}
theorem pl_store {f' : Frm} {fo' : Option Addr} {fn' fc' : Nat} (hb : Below w.heap.size w W) (pb : pnB W w.heap.size p (.slice ao N cap)) (bx : frB W H f.rows f.cols (.slice fo fn fc) f.row f.col) (far : w.heap.size + 1 ≤ H) (hF : FrameW AnyB W (.agg #[.int .i64 f'.rows, .int .i64 f'.cols, .slice fo' fn' fc', .int .i64 f'.row, .int .i64 f'.col]) f') (h0 : 0 < f'.cells.length) :
    PlS w (set5 W H f'.rows f'.cols (.slice fo' fn' fc') f'.row f'.col) p ao N cap H f' fo' fn' fc' := by
  have hk := set5_keep (ok := fun k => k ≠ H) W H f'.rows f'.cols (.slice fo' fn' fc') f'.row f'.col (fun k => k rfl)
  obtain ⟨ao2, n2, c2, he, k1, k2, k3⟩ := hF
  have hc := cels_apart (ok := fun k => k ≠ H) k3 h0 fun g hg => by
    by_cases q1 : g = H
    · subst q1; exact .inr fun o x => bx.apart (fun _ e => by cases e) o x
    · exact .inl q1
  obtain ⟨ao', cap', he', q1, _, q3⟩ := RowV.keep hc hk
  exact ⟨KeepW.below hb hk hb.size (fun k hk => by show _ ≠ _; omega), pb.keep hk (by show _ ≠ _; omega), bx.all, far, ⟨ao2, n2, c2, he, k1, k2, ⟨ao', cap', he', q1, fun _ _ => trivial, q3⟩⟩⟩
theorem PlS.next {W' : World} (h : PlS w W p ao N cap H f fo fn fc) (hb : Below W.heap.size W W') : PlS w W' p ao N cap H f fo fn fc :=
  ⟨h.below.trans (hb.mono h.below.size), h.pb.below hb h.pb.lt, h.box.below hb h.box.lt, h.far, h.all.below hb⟩
end
/-- What a round has laid. -/
structure RdS (w0 W : World) (F F' : Frm) (Hw Ha Hb : Nat) (wo ao bo : Option Addr) (wn wc an ac bn bc : Nat) : Prop where
  base : Below w0.heap.size w0 W
  bw : frB W Hw F.rows F.cols (.slice wo wn wc) F.row F.col
  ba : frB W Ha F'.rows F'.cols (.slice ao an ac) F'.row F'.col
  bb : frB W Hb F'.rows F'.cols (.slice bo bn bc) F'.row F'.col
  fw : FrameW AnyB W (.agg #[.int .i64 F.rows, .int .i64 F.cols, .slice wo wn wc, .int .i64 F.row, .int .i64 F.col]) F
  fa : FrameW AnyB W (.agg #[.int .i64 F'.rows, .int .i64 F'.cols, .slice ao an ac, .int .i64 F'.row, .int .i64 F'.col]) F'
  fb : FrameW AnyB W (.agg #[.int .i64 F'.rows, .int .i64 F'.cols, .slice bo bn bc, .int .i64 F'.row, .int .i64 F'.col]) F'
theorem RdS.next {w0 W W' : World} {F F' : Frm} {Hw Ha Hb : Nat} {wo ao bo : Option Addr} {wn wc an ac bn bc : Nat} (h : RdS w0 W F F' Hw Ha Hb wo ao bo wn wc an ac bn bc) (hb : Below W.heap.size W W') : RdS w0 W' F F' Hw Ha Hb wo ao bo wn wc an ac bn bc :=
  ⟨h.base.trans (hb.mono h.base.size), h.bw.below hb h.bw.lt, h.ba.below hb h.ba.lt, h.bb.below hb h.bb.lt, h.fw.below hb, h.fa.below hb, h.fb.below hb⟩
theorem newF_room (a b : Int) : (newF a b).cells.length ≤ 1000000 := by
  unfold newF
  cases hv : sizedB a b with
  | false => simp [zeroF]
  | true =>
    rw [if_pos rfl]
    show (List.replicate _ _).length ≤ _
    rw [List.length_replicate]
    obtain ⟨h1, h2, h3, h4⟩ := (sizedB_iff _ _).1 hv
    have := Nat.mul_le_mul (show a.toNat ≤ 100 by omega) (show b.toNat ≤ 200 by omega)
    have e : (a * b).toNat = a.toNat * b.toNat := by
      obtain ⟨x, rfl⟩ := Int.eq_ofNat_of_zero_le (show 0 ≤ a by omega)
      obtain ⟨y, rfl⟩ := Int.eq_ofNat_of_zero_le (show 0 ≤ b by omega)
      rfl
    omega
theorem rowsF_room2 (f : Frm) : (rowsF f).length ≤ 1000000 := by
  cases hv : validB f with
  | false => unfold rowsF; rw [if_neg (by rw [hv]; decide)]; simp
  | true =>
    have h := valid_ok hv
    unfold rowsF
    rw [if_pos hv, List.length_map, List.length_range]
    have := h.rows
    have := h.hm
    omega

set_option maxRecDepth 100000 in
set_option maxHeartbeats 16000000 in
theorem putlaw_any {ao : Option Addr} {N cap : Nat} (p : Pnt) (w : World) (hI : InkW w ao N cap p.ink) (hL : LaidW w) :
    Calls Tryd.prog 3 #[(.agg #[.int .i64 p.rows, .int .i64 p.cols, .slice ao N cap, .int .i64 p.row, .int .i64 p.col])] w fun e w' => e = .returned (.bool true) ∧ Below w.heap.size w w' := by
  have HS := Lib.hid (fun W (hW : Below w.heap.size w W) => lshown_any W (hL.below hW))
  have HG := Lib.hid (fun W => great_any (ao := ao) (n := N) (cap := cap) p.rows p.cols p.row p.col W)
  have b0 : Below w.heap.size w (w.alloc (.cells #[.int .i64 p.rows, .int .i64 p.cols, .slice ao N cap, .int .i64 p.row, .int .i64 p.col] 24)) := (Below.refl _ w).alloc (Nat.le_refl _) _
  have HB0 := Lib.hid b0
  have HP0 := Lib.hid (pnB.new w p (.slice ao N cap))
  by_cases hg : 60 < N
  · rw [decide_eq_true hg] at HG
    clear hI hL hg b0 HP0
    go_enter Tryd.func3, Tryd.ntmps3
    go_wp2_with fail
    go_fit (HG.out _)
    rintro e w2 ⟨rfl, hb2⟩
    have HB2 := Lib.hid (HB0.out.trans (hb2.mono HB0.out.size))
    clear hb2 HB0 HG
    go_wp2_with fail
    go_fit (HS.out _ HB2.out)
    rintro e w3 ⟨rfl, hb3⟩
    have HB3 := Lib.hid (HB2.out.trans (hb3.mono HB2.out.size))
    clear hb3 HB2 HS
    go_wp2
    go_ret
    exact ⟨rfl, HB3.out⟩
  rw [decide_eq_false hg] at HG
  have hok := paint_ok p
  obtain ⟨m, hm⟩ : ∃ m, (dimR p.rows).toNat = m := ⟨_, rfl⟩
  obtain ⟨nn, hnn⟩ : ∃ nn, (dimC p.cols).toNat = nn := ⟨_, rfl⟩
  rw [hm, hnn] at hok
  obtain ⟨f0, hf0⟩ : ∃ f0, newF p.rows p.cols = f0 := ⟨_, rfl⟩
  obtain ⟨E, hE⟩ : ∃ E, newE p.rows p.cols = E := ⟨_, rfl⟩
  obtain ⟨F0, hF0⟩ : ∃ F0, paintF p = F0 := ⟨_, rfl⟩
  have l0 : f0.cells.length ≤ 1000000 := by rw [← hf0]; exact newF_room _ _
  rw [hF0] at hok
  have HN1 : Hid (∀ W, Below w.heap.size w W → Calls Tryd.prog 11 #[.int .i64 p.rows, .int .i64 p.cols] W fun e w' => ∃ fo fn fc, e = .returned (.tuple #[(.agg #[.int .i64 f0.rows, .int .i64 f0.cols, .slice fo fn fc, .int .i64 f0.row, .int .i64 f0.col]), .int .i64 E]) ∧ FrameW AnyB w' (.agg #[.int .i64 f0.rows, .int .i64 f0.cols, .slice fo fn fc, .int .i64 f0.row, .int .i64 f0.col]) f0 ∧ Below W.heap.size W w') := fun W hW => by
    have := frame_out2 (gnew_all p.rows p.cols W (hL.below hW))
    rwa [hf0, hE] at this
  have HN2 : Hid (∀ W, Calls Tryd.prog 12 #[.int .i64 p.rows, .int .i64 p.cols] W fun e w' => ∃ fo fn fc, e = .returned (.tuple #[(.agg #[.int .i64 f0.rows, .int .i64 f0.cols, .slice fo fn fc, .int .i64 f0.row, .int .i64 f0.col]), .int .i64 E]) ∧ FrameW AnyB w' (.agg #[.int .i64 f0.rows, .int .i64 f0.cols, .slice fo fn fc, .int .i64 f0.row, .int .i64 f0.col]) f0 ∧ Below W.heap.size W w') := fun W => by
    have := frame_out2 (rnew_all p.rows p.cols W)
    rwa [hf0, hE] at this
  have HS1 : Hid (∀ W u z, FrameW AnyB W u f0 → FrameW AnyB W z f0 → Calls Tryd.prog 13 #[u, z] W fun e w' => e = .returned (.bool true) ∧ Below W.heap.size W w') := fun W u z h h2 => by
    have := gsame_any W h h2 l0
    rwa [sameB_self] at this
  have HS2 : Hid (∀ W u z, FrameW AnyB W u f0 → FrameW AnyB W z f0 → Calls Tryd.prog 14 #[u, z] W fun e w' => e = .returned (.bool true) ∧ Below W.heap.size W w') := fun W u z h h2 => by
    have := rsame_any W h h2 l0
    rwa [sameB_self] at this
  have HPt : Hid (∀ W, Below w.heap.size w W → Calls Tryd.prog 15 #[(.agg #[.int .i64 p.rows, .int .i64 p.cols, .slice ao N cap, .int .i64 p.row, .int .i64 p.col])] W fun e w' => ∃ fo fn fc, e = .returned (.agg #[.int .i64 F0.rows, .int .i64 F0.cols, .slice fo fn fc, .int .i64 F0.row, .int .i64 F0.col]) ∧ FrameW AnyB w' (.agg #[.int .i64 F0.rows, .int .i64 F0.cols, .slice fo fn fc, .int .i64 F0.row, .int .i64 F0.col]) F0 ∧ Below W.heap.size W w') := fun W hW => by
    have := paint_any p W (hI.below hW) (by omega)
    rwa [hF0] at this
  have HIk := Lib.hid hI
  have HLk := Lib.hid hI.1
  have HL := Lib.hid (fun W (hW : Below w.heap.size w W) => hL.below hW)
  have HOK := Lib.hid hok
  have H00 : Hid (0 < F0.cells.length) := by
    show 0 < _
    rw [hok.len]; exact Nat.mul_pos (by have := hok.hm; omega) (by have := hok.hn; omega)
  have HSt := Lib.hid (fun (W : World) (H : Nat) (f : Frm) (fo go : Option Addr) (fn fc gn gc : Nat) hb pb bx far hF h0 => pl_store (w := w) (W := W) (p := p) (ao := ao) (N := N) (cap := cap) (H := H) (f := f) (fo := fo) (fn := fn) (fc := fc) (f' := F0) (fo' := go) (fn' := gn) (fc' := gc) hb pb bx far hF h0)
  have HgN := Lib.hid hg
  clear hI hL hok hm hnn hf0 hE hF0 l0 hg
  go_enter Tryd.func3, Tryd.ntmps3
  go_wp2_with fail
  go_fit (HG.out _)
  rintro e w2 ⟨rfl, hb2⟩
  have HB2 := Lib.hid (HB0.out.trans (hb2.mono HB0.out.size))
  have hp2 := HP0.out.below hb2 (by simp)
  obtain ⟨x0, x1, x2, x3, x4⟩ := hp2.cells
  have hl2 := hp2.lt
  clear HB0 HG b0 HP0
  have HP2 := Lib.hid hp2
  clear hp2 hb2
  go_wp2_with fail
  go_fit (HN1.out _ HB2.out)
  rintro e w3 ⟨ho, hn, hc, rfl, h3, hb3⟩
  have hT := (Below.refl _ w3).alloc (Nat.le_refl _) (.cells #[.int .i64 f0.rows, .int .i64 f0.cols, .slice ho hn hc, .int .i64 f0.row, .int .i64 f0.col] 28)
  have HT3 := Lib.hid (hb3.trans (hT.mono hb3.size))
  have HB3 := Lib.hid (HB2.out.trans (HT3.out.mono HB2.out.size))
  have HP3 := Lib.hid (HP2.out.below HT3.out HP2.out.lt)
  have Hb3 := Lib.hid (frB.new (r := f0.rows) (c := f0.cols) (v := .slice ho hn hc) (a := f0.row) (b := f0.col) w3)
  have Hf3 := Lib.hid (h3.below hT)
  have HR3 : Hid (w.heap.size + 1 ≤ w3.heap.size) := by have := hb3.size; show _ ≤ _; omega
  clear x0 x1 x2 x3 x4 hl2
  obtain ⟨x0, x1, x2, x3, x4⟩ := HP3.out.cells
  have hl2 := HR3.out
  clear hb3 h3 hT HT3 HB2 HP2 HN1
  go_wp2_with fail
  go_fit (HN2.out _)
  rintro e w4 ⟨go, gn, gc, rfl, h4, hb4⟩
  have hT := (Below.refl _ w4).alloc (Nat.le_refl _) (.cells #[.int .i64 f0.rows, .int .i64 f0.cols, .slice go gn gc, .int .i64 f0.row, .int .i64 f0.col] 28)
  have HT4 := Lib.hid (hb4.trans (hT.mono hb4.size))
  have HB4 := Lib.hid (HB3.out.trans (HT4.out.mono HB3.out.size))
  have HP4 := Lib.hid (HP3.out.below HT4.out HP3.out.lt)
  have Hb4 := Lib.hid (Hb3.out.below HT4.out Hb3.out.lt)
  have Hc4 := Lib.hid (frB.new (r := f0.rows) (c := f0.cols) (v := .slice go gn gc) (a := f0.row) (b := f0.col) w4)
  have Hf4 := Lib.hid (Hf3.out.below HT4.out)
  have Hg4 := Lib.hid (h4.below hT)
  clear hb4 h4 hT HT4 HB3 HP3 Hb3 Hf3 HN2
  obtain ⟨W, hW⟩ : ∃ W, w4.alloc (.cells #[.int .i64 f0.rows, .int .i64 f0.cols, .slice go gn gc, .int .i64 f0.row, .int .i64 f0.col] 28) = W := ⟨_, rfl⟩
  obtain ⟨H, hH⟩ : ∃ H, w3.heap.size = H := ⟨_, rfl⟩
  obtain ⟨H2, hH2⟩ : ∃ H2, w4.heap.size = H2 := ⟨_, rfl⟩
  rw [hW] at HB4 HP4 Hb4 Hc4 Hf4 Hg4
  rw [hH] at Hb4 HR3
  rw [hH2] at Hc4
  clear x0 x1 x2 x3 x4 hl2
  go_upto_region 5 with fail
  (try rw [hW]); (try rw [hH]); (try rw [hH2])
  clear hW hH hH2
  obtain ⟨⟨x0, x1, x2, x3, x4⟩, _⟩ := Hb4.out.cells
  obtain ⟨⟨y0, y1, y2, y3, y4⟩, _⟩ := Hc4.out.cells
  have hlx := Hb4.out.lt
  have hly := Hc4.out.lt
  go_wp2_with fail
  go_fit (HS1.out _ _ _ Hf4.out Hg4.out)
  rintro e w5 ⟨rfl, hb5⟩
  clear x0 x1 x2 x3 x4 y0 y1 y2 y3 y4 hlx hly
  have HB5 := Lib.hid (HB4.out.trans (hb5.mono HB4.out.size))
  have HP5 := Lib.hid (HP4.out.below hb5 HP4.out.lt)
  have Hb5 := Lib.hid (Hb4.out.below hb5 Hb4.out.lt)
  have Hc5 := Lib.hid (Hc4.out.below hb5 Hc4.out.lt)
  have Hf5 := Lib.hid (Hf4.out.below hb5)
  have Hg5 := Lib.hid (Hg4.out.below hb5)
  clear hb5 HB4 HP4 Hb4 Hc4 Hf4 Hg4
  obtain ⟨⟨x0, x1, x2, x3, x4⟩, _⟩ := Hb5.out.cells
  obtain ⟨⟨y0, y1, y2, y3, y4⟩, _⟩ := Hc5.out.cells
  have hlx := Hb5.out.lt
  have hly := Hc5.out.lt
  go_wp2_with fail
  go_fit (HS2.out _ _ _ Hf5.out Hg5.out)
  rintro e w6 ⟨rfl, hb6⟩
  clear x0 x1 x2 x3 x4 y0 y1 y2 y3 y4 hlx hly
  have HB6 := Lib.hid (HB5.out.trans (hb6.mono HB5.out.size))
  have HP6 := Lib.hid (HP5.out.below hb6 HP5.out.lt)
  have Hb6 := Lib.hid (Hb5.out.below hb6 Hb5.out.lt)
  have Hc6 := Lib.hid (Hc5.out.below hb6 Hc5.out.lt)
  have Hf6 := Lib.hid (Hf5.out.below hb6)
  have Hg6 := Lib.hid (Hg5.out.below hb6)
  clear hb6 HB5 HP5 Hb5 Hc5 Hf5 Hg5
  obtain ⟨p0, p1, p2, p3, p4⟩ := HP6.out.cells
  have hlp := HP6.out.lt
  clear HS1 HS2 Hc6 Hf6 Hg6
  go_wp2_with fail
  go_fit (HPt.out _ HB6.out)
  rintro e w7 ⟨fo, fn, fc, rfl, h7, hb7⟩
  clear p0 p1 p2 p3 p4 hlp HPt
  have hbx := Hb6.out.below hb7 Hb6.out.lt
  have HS7 := Lib.hid (HSt.out w7 H f0 ho fo hn hc fn fc (HB6.out.trans (hb7.mono HB6.out.size)) (HP6.out.below hb7 HP6.out.lt) hbx HR3.out h7 H00.out)
  obtain ⟨⟨x0, x1, x2, x3, x4⟩, z0, z1, z2, z3, z4⟩ := hbx.cells
  have hlx := hbx.lt
  have hl7 := HR3.out
  clear hbx HSt hb7 h7 HB6 HP6 Hb6
  unfold set5 at HS7
  go_wp2
  go_loopw [7] (fun s7 wr => ∃ (i : Nat) (f : Frm) (fo : Option Addr) (fn fc : Nat), s7 = .int .i64 (i : Int) ∧ i ≤ N ∧ Hid (OkF f m nn) ∧ Hid (PlS w wr p ao N cap H f fo fn fc)) (fun s7 _ => N - (intOf s7).toNat)
  case atStart => exact ⟨0, F0, fo, fn, fc, rfl, Nat.zero_le _, HOK, HS7⟩
  case round =>
    obtain ⟨i, f, fo2, fn2, fc2, rfl, hi, HOF, HI⟩ := hrel
    clear HS7 x0 x1 x2 x3 x4 z0 z1 z2 z3 z4 hlx HOK H00
    obtain ⟨c0, c1, c2, c3, c4⟩ := HI.out.pb.cells
    by_cases hlt : i < N
    · obtain ⟨x, hx⟩ : ∃ x, p.ink[i]? = some x := ⟨_, List.getElem?_eq_getElem (by rw [← HLk.out]; exact hlt)⟩
      obtain ⟨g, o, rfl, hc7⟩ := (HIk.out.below HI.out.below).at_ hx
      obtain ⟨q0, q1, q2, q3, q4, q5, q6⟩ := hc7
      obtain ⟨F', hF'⟩ : ∃ F', putF f x.row x.col x.r x.s = F' := ⟨_, rfl⟩
      obtain ⟨y, hy⟩ : ∃ y, i + 1 = y := ⟨_, rfl⟩
      have hok' : OkF F' m nn := by rw [← hF']; exact put_okF HOF.out _ _ _ _
      have HOK' := Lib.hid hok'
      have lf : f.cells.length ≤ 1000000 := Nat.le_trans HOF.out.room (by decide)
      have lF : F'.cells.length ≤ 1000000 := Nat.le_trans hok'.room (by decide)
      have h0' : 0 < F'.cells.length := by rw [hok'.len]; exact Nat.mul_pos (by have := hok'.hm; omega) (by have := hok'.hn; omega)
      obtain ⟨D, hD⟩ : ∃ D, diffF f F' = D := ⟨_, rfl⟩
      obtain ⟨L, hLr⟩ : ∃ L, rowsF F' = L := ⟨_, rfl⟩
      have lL : L.length ≤ 1000000 := by rw [← hLr]; exact rowsF_room2 _
      have HCp : Hid (∀ V, Below wr.heap.size wr V → Calls Tryd.prog 16 #[(.agg #[.int .i64 f.rows, .int .i64 f.cols, .slice fo2 fn2 fc2, .int .i64 f.row, .int .i64 f.col])] V fun e w' => ∃ wo wn wc, e = .returned (.agg #[.int .i64 f.rows, .int .i64 f.cols, .slice wo wn wc, .int .i64 f.row, .int .i64 f.col]) ∧ FrameW AnyB w' (.agg #[.int .i64 f.rows, .int .i64 f.cols, .slice wo wn wc, .int .i64 f.row, .int .i64 f.col]) f ∧ Below V.heap.size V w') := fun V hV => frame_out (copy_all V (HI.out.next hV).all HOF.out)
      have HPa : Hid (∀ V, Below wr.heap.size wr V → Calls Tryd.prog 17 #[(.agg #[.int .i64 f.rows, .int .i64 f.cols, .slice fo2 fn2 fc2, .int .i64 f.row, .int .i64 f.col]), .int .i64 x.row, .int .i64 x.col, .int .i32 x.r, .agg #[.int .i64 x.s.1, .bool x.s.2.1, .bool x.s.2.2.1, .bool x.s.2.2.2]] V fun e w' => ∃ ao1 an ac, e = .returned (.agg #[.int .i64 F'.rows, .int .i64 F'.cols, .slice ao1 an ac, .int .i64 F'.row, .int .i64 F'.col]) ∧ FrameW AnyB w' (.agg #[.int .i64 F'.rows, .int .i64 F'.cols, .slice ao1 an ac, .int .i64 F'.row, .int .i64 F'.col]) F' ∧ Below V.heap.size V w') := fun V hV => by
        have := frame_out (gput_any x.row x.col x.r x.s V (HI.out.next hV).all (HL.out V (HI.out.next hV).below))
        rwa [hF'] at this
      have HPb : Hid (∀ V wo wn wc, FrameW AnyB V (.agg #[.int .i64 f.rows, .int .i64 f.cols, .slice wo wn wc, .int .i64 f.row, .int .i64 f.col]) f → Calls Tryd.prog 18 #[(.agg #[.int .i64 f.rows, .int .i64 f.cols, .slice wo wn wc, .int .i64 f.row, .int .i64 f.col]), .int .i64 x.row, .int .i64 x.col, .int .i32 x.r, .agg #[.int .i64 x.s.1, .bool x.s.2.1, .bool x.s.2.2.1, .bool x.s.2.2.2]] V fun e w' => ∃ bo bn bc, e = .returned (.agg #[.int .i64 F'.rows, .int .i64 F'.cols, .slice bo bn bc, .int .i64 F'.row, .int .i64 F'.col]) ∧ FrameW AnyB w' (.agg #[.int .i64 F'.rows, .int .i64 F'.cols, .slice bo bn bc, .int .i64 F'.row, .int .i64 F'.col]) F' ∧ Below V.heap.size V w') := fun V wo wn wc h => by
        have := frame_out (rput_any x.row x.col x.r x.s V h)
        rwa [hF'] at this
      have K1 : Hid (∀ V u z, Below wr.heap.size wr V → FrameW AnyB V u F' → FrameW AnyB V z F' → Calls Tryd.prog 14 #[u, z] V fun e w' => e = .returned (.bool true) ∧ Below V.heap.size V w') := fun V u z hV h h2 => by
        have := rsame_any V h h2 lF
        rwa [sameB_self] at this
      have K2 : Hid (∀ V u z, Below wr.heap.size wr V → FrameW AnyB V u f → FrameW AnyB V z f → Calls Tryd.prog 14 #[u, z] V fun e w' => e = .returned (.bool true) ∧ Below V.heap.size V w') := fun V u z hV h h2 => by
        have := rsame_any V h h2 lf
        rwa [sameB_self] at this
      have K3 : Hid (∀ V u, Below wr.heap.size wr V → FrameW AnyB V u F' → Calls Tryd.prog 20 #[u] V fun e w' => ∃ s, e = .returned s ∧ StrsV AnyB w' s L ∧ Below V.heap.size V w') := fun V u hV h => by
        have := grows_any V h (HL.out V (HI.out.next hV).below)
        rwa [hLr] at this
      have K4 : Hid (∀ V u, Below wr.heap.size wr V → FrameW AnyB V u F' → Calls Tryd.prog 21 #[u] V fun e w' => ∃ s, e = .returned s ∧ StrsV AnyB w' s L ∧ Below V.heap.size V w') := fun V u hV h => by
        have := rrows_any V h
        rwa [hLr] at this
      have K5 : Hid (∀ V u z, StrsV AnyB V u L → StrsV AnyB V z L → Calls Tryd.prog 19 #[u, z] V fun e w' => e = .returned (.bool true) ∧ Below V.heap.size V w') := fun V u z h h2 => by
        have := strings_any V h h2 lL
        rwa [decide_eq_true rfl] at this
      have K6 : Hid (∀ V u z, Below wr.heap.size wr V → FrameW AnyB V u f → FrameW AnyB V z F' → Calls Tryd.prog 22 #[u, z] V fun e w' => e = .returned (.int .i64 D) ∧ Below V.heap.size V w') := fun V u z hV h h2 => by
        have := gdiff_any V h h2 (HL.out V (HI.out.next hV).below)
        rwa [hD] at this
      have K7 : Hid (∀ V u z, Below wr.heap.size wr V → FrameW AnyB V u f → FrameW AnyB V z F' → Calls Tryd.prog 23 #[u, z] V fun e w' => e = .returned (.int .i64 D) ∧ Below V.heap.size V w') := fun V u z hV h h2 => by
        have := rdiff_any V h h2
        rwa [hD] at this
      have HBX : Hid (Below wr.heap.size wr (wr.alloc (.cells #[.int .i64 x.row, .int .i64 x.col, .int .i32 x.r, .int .i64 x.s.1, .bool x.s.2.1, .bool x.s.2.2.1, .bool x.s.2.2.2] 37))) := (Below.refl _ wr).alloc (Nat.le_refl _) _
      have HIC : Hid (∀ V, Below (wr.alloc (.cells #[.int .i64 x.row, .int .i64 x.col, .int .i32 x.r, .int .i64 x.s.1, .bool x.s.2.1, .bool x.s.2.2.1, .bool x.s.2.2.2] 37)).heap.size (wr.alloc (.cells #[.int .i64 x.row, .int .i64 x.col, .int .i32 x.r, .int .i64 x.s.1, .bool x.s.2.1, .bool x.s.2.2.1, .bool x.s.2.2.2] 37)) V → V.cell? ⟨wr.heap.size, 0, none⟩ = some (.int .i64 x.row) ∧ V.cell? ⟨wr.heap.size, 1, none⟩ = some (.int .i64 x.col) ∧ V.cell? ⟨wr.heap.size, 2, none⟩ = some (.int .i32 x.r) ∧ V.cell? ⟨wr.heap.size, 3, none⟩ = some (.int .i64 x.s.1) ∧ V.cell? ⟨wr.heap.size, 4, none⟩ = some (.bool x.s.2.1) ∧ V.cell? ⟨wr.heap.size, 5, none⟩ = some (.bool x.s.2.2.1) ∧ V.cell? ⟨wr.heap.size, 6, none⟩ = some (.bool x.s.2.2.2)) := fun V hV => by
        have e := (hV.block wr.heap.size (by simp)).trans (heap_alloc_new wr (.cells #[.int .i64 x.row, .int .i64 x.col, .int .i32 x.r, .int .i64 x.s.1, .bool x.s.2.1, .bool x.s.2.2.1, .bool x.s.2.2.2] 37))
        refine ⟨?_, ?_, ?_, ?_, ?_, ?_, ?_⟩ <;> (rw [cell_of_row _ _ _ _ _ (0, 0) e]; rfl)
      have HST : Hid (∀ V bo bn bc, Below wr.heap.size wr V → FrameW AnyB V (.agg #[.int .i64 F'.rows, .int .i64 F'.cols, .slice bo bn bc, .int .i64 F'.row, .int .i64 F'.col]) F' → PlS w (set5 V H F'.rows F'.cols (.slice bo bn bc) F'.row F'.col) p (some ⟨g, o, none⟩) N cap H F' bo bn bc) := fun V bo bn bc hV h => pl_store (HI.out.next hV).below (HI.out.next hV).pb (HI.out.next hV).box HI.out.far h h0'
      have j1 : (i : Int) < (N : Int) := by omega
      have j2 : (0 : Int) ≤ (i : Int) := by omega
      have j3 : (i : Int) + 1 = (y : Int) := by omega
      have hyN : y ≤ N := by omega
      have j4 : (N : Int) ≤ 1000 := by have := HgN.out; omega
      have HY := Lib.hid hy
      obtain ⟨⟨r0, r1, r2, r3, r4⟩, _⟩ := HI.out.box.cells
      have hHlt := HI.out.box.lt
      clear hx hF' hy hok' lf lF h0' hD hLr lL
      go_wp2_with fail
      go_fit (HCp.out _ HBX.out)
      rintro e w5 ⟨wo, wn, wc, rfl, h5, hb5⟩
      have hT := hb5.alloc hb5.size (.cells #[.int .i64 f.rows, .int .i64 f.cols, .slice wo wn wc, .int .i64 f.row, .int .i64 f.col] 28)
      have HT5 := Lib.hid hT
      have HB5 := Lib.hid (HBX.out.trans (hT.mono HBX.out.size))
      have Hw5 := Lib.hid (frB.new (r := f.rows) (c := f.cols) (v := .slice wo wn wc) (a := f.row) (b := f.col) w5)
      have Hf5 := Lib.hid (h5.below ((Below.refl _ w5).alloc (Nat.le_refl _) (.cells #[.int .i64 f.rows, .int .i64 f.cols, .slice wo wn wc, .int .i64 f.row, .int .i64 f.col] 28)))
      have hi5 : wr.heap.size < w5.heap.size := by have := hb5.size; rw [World.size_alloc] at this; omega
      clear hT hb5 h5 HCp HBX c0 c1 c2 c3 c4 q0 q1 q2 q3 q4 q5 q6 r0 r1 r2 r3 r4 hHlt
      obtain ⟨⟨r0, r1, r2, r3, r4⟩, _⟩ := (HI.out.next HB5.out).box.cells
      have hHlt := (HI.out.next HB5.out).box.lt
      obtain ⟨i0, i1, i2, i3, i4, i5, i6⟩ := HIC.out _ HT5.out
      go_wp2_with fail
      go_fit (HPa.out _ HB5.out)
      rintro e w6 ⟨ao1, an, ac, rfl, h6, hb6⟩
      have hT := hb6.alloc hb6.size (.cells #[.int .i64 F'.rows, .int .i64 F'.cols, .slice ao1 an ac, .int .i64 F'.row, .int .i64 F'.col] 28)
      have HT6 := Lib.hid (HT5.out.trans (hT.mono HT5.out.size))
      have HB6 := Lib.hid (HB5.out.trans (hT.mono HB5.out.size))
      have Hw6 := Lib.hid (Hw5.out.below hT Hw5.out.lt)
      have Hf6 := Lib.hid (Hf5.out.below hT)
      have Ha6 := Lib.hid (frB.new (r := F'.rows) (c := F'.cols) (v := .slice ao1 an ac) (a := F'.row) (b := F'.col) w6)
      have Hg6 := Lib.hid (h6.below ((Below.refl _ w6).alloc (Nat.le_refl _) (.cells #[.int .i64 F'.rows, .int .i64 F'.cols, .slice ao1 an ac, .int .i64 F'.row, .int .i64 F'.col] 28)))
      have hi6 : wr.heap.size < w6.heap.size := by have := hb6.size; rw [World.size_alloc] at this; omega
      have hw6 : w5.heap.size < w6.heap.size := by have := hb6.size; rw [World.size_alloc] at this; omega
      clear hT hb6 h6 HPa HT5 HB5 Hw5 Hf5 r0 r1 r2 r3 r4 hHlt i0 i1 i2 i3 i4 i5 i6 hi5
      obtain ⟨i0, i1, i2, i3, i4, i5, i6⟩ := HIC.out _ HT6.out
      obtain ⟨⟨y0, y1, y2, y3, y4⟩, _⟩ := Hw6.out.cells
      go_wp2_with fail
      go_fit (HPb.out _ wo wn wc Hf6.out)
      rintro e w7 ⟨bo, bn, bc, rfl, h7, hb7⟩
      have hT := hb7.alloc hb7.size (.cells #[.int .i64 F'.rows, .int .i64 F'.cols, .slice bo bn bc, .int .i64 F'.row, .int .i64 F'.col] 28)
      have HB7 := Lib.hid (HB6.out.trans (hT.mono HB6.out.size))
      have HR7 : Hid (RdS wr (w7.alloc (.cells #[.int .i64 F'.rows, .int .i64 F'.cols, .slice bo bn bc, .int .i64 F'.row, .int .i64 F'.col] 28)) f F' w5.heap.size w6.heap.size w7.heap.size wo ao1 bo wn wc an ac bn bc) :=
        ⟨HB7.out, Hw6.out.below hT Hw6.out.lt, Ha6.out.below hT Ha6.out.lt, frB.new w7, Hf6.out.below hT, Hg6.out.below hT, h7.below ((Below.refl _ w7).alloc (Nat.le_refl _) (.cells #[.int .i64 F'.rows, .int .i64 F'.cols, .slice bo bn bc, .int .i64 F'.row, .int .i64 F'.col] 28))⟩
      clear hT hb7 h7 HPb HT6 HB6 Hw6 Hf6 Ha6 Hg6 HB7 i0 i1 i2 i3 i4 i5 i6 y0 y1 y2 y3 y4 HIC
      obtain ⟨W, hW⟩ : ∃ W, w7.alloc (.cells #[.int .i64 F'.rows, .int .i64 F'.cols, .slice bo bn bc, .int .i64 F'.row, .int .i64 F'.col] 28) = W := ⟨_, rfl⟩
      obtain ⟨Hw, hHw⟩ : ∃ H, w5.heap.size = H := ⟨_, rfl⟩
      obtain ⟨Ha, hHa⟩ : ∃ H, w6.heap.size = H := ⟨_, rfl⟩
      obtain ⟨Hb, hHb⟩ : ∃ H, w7.heap.size = H := ⟨_, rfl⟩
      rw [hW, hHw, hHa, hHb] at HR7
      clear hi6 hw6
      have HC : Hid (∀ V, Below W.heap.size W V → (V.cell? ⟨H, 0, none⟩ = some (.int .i64 f.rows) ∧ V.cell? ⟨H, 1, none⟩ = some (.int .i64 f.cols) ∧ V.cell? ⟨H, 2, none⟩ = some (.slice fo2 fn2 fc2) ∧ V.cell? ⟨H, 3, none⟩ = some (.int .i64 f.row) ∧ V.cell? ⟨H, 4, none⟩ = some (.int .i64 f.col)) ∧ (V.cell? ⟨Hw, 0, none⟩ = some (.int .i64 f.rows) ∧ V.cell? ⟨Hw, 1, none⟩ = some (.int .i64 f.cols) ∧ V.cell? ⟨Hw, 2, none⟩ = some (.slice wo wn wc) ∧ V.cell? ⟨Hw, 3, none⟩ = some (.int .i64 f.row) ∧ V.cell? ⟨Hw, 4, none⟩ = some (.int .i64 f.col)) ∧ (V.cell? ⟨Ha, 0, none⟩ = some (.int .i64 F'.rows) ∧ V.cell? ⟨Ha, 1, none⟩ = some (.int .i64 F'.cols) ∧ V.cell? ⟨Ha, 2, none⟩ = some (.slice ao1 an ac) ∧ V.cell? ⟨Ha, 3, none⟩ = some (.int .i64 F'.row) ∧ V.cell? ⟨Ha, 4, none⟩ = some (.int .i64 F'.col)) ∧ (V.cell? ⟨Hb, 0, none⟩ = some (.int .i64 F'.rows) ∧ V.cell? ⟨Hb, 1, none⟩ = some (.int .i64 F'.cols) ∧ V.cell? ⟨Hb, 2, none⟩ = some (.slice bo bn bc) ∧ V.cell? ⟨Hb, 3, none⟩ = some (.int .i64 F'.row) ∧ V.cell? ⟨Hb, 4, none⟩ = some (.int .i64 F'.col))) := fun V hV => ⟨(HI.out.next (HR7.out.next hV).base).box.cells.1, (HR7.out.next hV).bw.cells.1, (HR7.out.next hV).ba.cells.1, (HR7.out.next hV).bb.cells.1⟩
      have k0 : Below W.heap.size W W.drew := (Below.refl _ W).drew
      have L1 : Hid (∀ V, Below W.heap.size W V → Calls Tryd.prog 14 #[(.agg #[.int .i64 F'.rows, .int .i64 F'.cols, .slice ao1 an ac, .int .i64 F'.row, .int .i64 F'.col]), (.agg #[.int .i64 F'.rows, .int .i64 F'.cols, .slice bo bn bc, .int .i64 F'.row, .int .i64 F'.col])] V fun e w' => e = .returned (.bool true) ∧ Below W.heap.size W w') := fun V hV => (K1.out V _ _ (HR7.out.next hV).base (HR7.out.next hV).fa (HR7.out.next hV).fb).mono fun e w' ⟨k1, k3⟩ => ⟨k1, hV.trans (k3.mono hV.size)⟩
      have L2 : Hid (∀ V, Below W.heap.size W V → Calls Tryd.prog 14 #[(.agg #[.int .i64 f.rows, .int .i64 f.cols, .slice fo2 fn2 fc2, .int .i64 f.row, .int .i64 f.col]), (.agg #[.int .i64 f.rows, .int .i64 f.cols, .slice wo wn wc, .int .i64 f.row, .int .i64 f.col])] V fun e w' => e = .returned (.bool true) ∧ Below W.heap.size W w') := fun V hV => (K2.out V _ _ (HR7.out.next hV).base (HI.out.next (HR7.out.next hV).base).all (HR7.out.next hV).fw).mono fun e w' ⟨k1, k3⟩ => ⟨k1, hV.trans (k3.mono hV.size)⟩
      have L3 : Hid (∀ V, Below W.heap.size W V → Calls Tryd.prog 20 #[(.agg #[.int .i64 F'.rows, .int .i64 F'.cols, .slice ao1 an ac, .int .i64 F'.row, .int .i64 F'.col])] V fun e w' => ∃ s, e = .returned s ∧ StrsV AnyB w' s L ∧ Below W.heap.size W w') := fun V hV => (K3.out V _ (HR7.out.next hV).base (HR7.out.next hV).fa).mono fun e w' ⟨s, k1, k2, k3⟩ => ⟨s, k1, k2, hV.trans (k3.mono hV.size)⟩
      have L4 : Hid (∀ V z, Below W.heap.size W V → StrsV AnyB V z L → Calls Tryd.prog 21 #[(.agg #[.int .i64 F'.rows, .int .i64 F'.cols, .slice bo bn bc, .int .i64 F'.row, .int .i64 F'.col])] V fun e w' => ∃ s, e = .returned s ∧ StrsV AnyB w' z L ∧ StrsV AnyB w' s L ∧ Below W.heap.size W w') := fun V z hV hz => (K4.out V _ (HR7.out.next hV).base (HR7.out.next hV).fb).mono fun e w' ⟨s, k1, k2, k3⟩ => ⟨s, k1, hz.below k3, k2, hV.trans (k3.mono hV.size)⟩
      have L5 : Hid (∀ V u z, Below W.heap.size W V → StrsV AnyB V u L → StrsV AnyB V z L → Calls Tryd.prog 19 #[u, z] V fun e w' => e = .returned (.bool true) ∧ Below W.heap.size W w') := fun V u z hV h h2 => (K5.out V u z h h2).mono fun e w' ⟨k1, k3⟩ => ⟨k1, hV.trans (k3.mono hV.size)⟩
      have L6 : Hid (∀ V, Below W.heap.size W V → Calls Tryd.prog 22 #[(.agg #[.int .i64 f.rows, .int .i64 f.cols, .slice fo2 fn2 fc2, .int .i64 f.row, .int .i64 f.col]), (.agg #[.int .i64 F'.rows, .int .i64 F'.cols, .slice ao1 an ac, .int .i64 F'.row, .int .i64 F'.col])] V fun e w' => e = .returned (.int .i64 D) ∧ Below W.heap.size W w') := fun V hV => (K6.out V _ _ (HR7.out.next hV).base (HI.out.next (HR7.out.next hV).base).all (HR7.out.next hV).fa).mono fun e w' ⟨k1, k3⟩ => ⟨k1, hV.trans (k3.mono hV.size)⟩
      have L7 : Hid (∀ V, Below W.heap.size W V → Calls Tryd.prog 23 #[(.agg #[.int .i64 f.rows, .int .i64 f.cols, .slice fo2 fn2 fc2, .int .i64 f.row, .int .i64 f.col]), (.agg #[.int .i64 F'.rows, .int .i64 F'.cols, .slice bo bn bc, .int .i64 F'.row, .int .i64 F'.col])] V fun e w' => e = .returned (.int .i64 D) ∧ Below W.heap.size W w') := fun V hV => (K7.out V _ _ (HR7.out.next hV).base (HI.out.next (HR7.out.next hV).base).all (HR7.out.next hV).fb).mono fun e w' ⟨k1, k3⟩ => ⟨k1, hV.trans (k3.mono hV.size)⟩
      have HEN : Hid (∀ V, Below W.heap.size W V → (frB V H f.rows f.cols (.slice fo2 fn2 fc2) f.row f.col ∧ frB V Hb F'.rows F'.cols (.slice bo bn bc) F'.row F'.col) ∧ PlS w (set5 V H F'.rows F'.cols (.slice bo bn bc) F'.row F'.col) p (some ⟨g, o, none⟩) N cap H F' bo bn bc) := fun V hV => ⟨⟨(HI.out.next (HR7.out.next hV).base).box, (HR7.out.next hV).bb⟩, HST.out V bo bn bc (HR7.out.next hV).base (HR7.out.next hV).fb⟩
      clear K1 K2 K3 K4 K5 K6 K7 HST HR7 HI HOF
      go_wp2
      (try rw [hW]); (try rw [hHw]); (try rw [hHa]); (try rw [hHb])
      clear hW hHw hHa hHb
      go_region_held3 (fun V => (V.cell? ⟨H, 0, none⟩ = some (.int .i64 f.rows) ∧ V.cell? ⟨H, 1, none⟩ = some (.int .i64 f.cols) ∧ V.cell? ⟨H, 2, none⟩ = some (.slice fo2 fn2 fc2) ∧ V.cell? ⟨H, 3, none⟩ = some (.int .i64 f.row) ∧ V.cell? ⟨H, 4, none⟩ = some (.int .i64 f.col)) ∧ (V.cell? ⟨Hw, 0, none⟩ = some (.int .i64 f.rows) ∧ V.cell? ⟨Hw, 1, none⟩ = some (.int .i64 f.cols) ∧ V.cell? ⟨Hw, 2, none⟩ = some (.slice wo wn wc) ∧ V.cell? ⟨Hw, 3, none⟩ = some (.int .i64 f.row) ∧ V.cell? ⟨Hw, 4, none⟩ = some (.int .i64 f.col)) ∧ (V.cell? ⟨Ha, 0, none⟩ = some (.int .i64 F'.rows) ∧ V.cell? ⟨Ha, 1, none⟩ = some (.int .i64 F'.cols) ∧ V.cell? ⟨Ha, 2, none⟩ = some (.slice ao1 an ac) ∧ V.cell? ⟨Ha, 3, none⟩ = some (.int .i64 F'.row) ∧ V.cell? ⟨Ha, 4, none⟩ = some (.int .i64 F'.col)) ∧ (V.cell? ⟨Hb, 0, none⟩ = some (.int .i64 F'.rows) ∧ V.cell? ⟨Hb, 1, none⟩ = some (.int .i64 F'.cols) ∧ V.cell? ⟨Hb, 2, none⟩ = some (.slice bo bn bc) ∧ V.cell? ⟨Hb, 3, none⟩ = some (.int .i64 F'.row) ∧ V.cell? ⟨Hb, 4, none⟩ = some (.int .i64 F'.col)))
        (first | with_reducible exact HC.out _ kk | with_reducible exact HC.out _ k0)
        (first
          | (go_at_call 14; go_fit (L1.out _ ?_); (first | with_reducible exact kk | with_reducible exact k0); rintro e vv ⟨rfl, kk⟩)
          | (go_at_call 14; go_fit (L2.out _ ?_); (first | with_reducible exact kk | with_reducible exact k0); rintro e vv ⟨rfl, kk⟩)
          | (go_at_call 20; go_fit (L3.out _ ?_); (first | with_reducible exact kk | with_reducible exact k0); rintro e vv ⟨s3, rfl, h3, kk⟩)
          | (go_at_call 21; go_fit (L4.out _ _ ?_ h3); (first | with_reducible exact kk | with_reducible exact k0); rintro e vv ⟨s4, rfl, h3, h4, kk⟩)
          | (go_at_call 19; go_fit (L5.out _ _ _ ?_ h3 h4); (first | with_reducible exact kk | with_reducible exact k0); rintro e vv ⟨rfl, kk⟩)
          | (go_at_call 22; go_fit (L6.out _ ?_); (first | with_reducible exact kk | with_reducible exact k0); rintro e vv ⟨rfl, kk⟩)
          | (go_at_call 23; go_fit (L7.out _ ?_); (first | with_reducible exact kk | with_reducible exact k0); rintro e vv ⟨rfl, kk⟩))
      obtain ⟨⟨hbf, hbb⟩, hen⟩ := HEN.out _ kk
      have HN5 := Lib.hid hen
      clear hen HC L1 L2 L3 L4 L5 L6 L7 k0 HEN
      obtain ⟨⟨r0, r1, r2, r3, r4⟩, z0, z1, z2, z3, z4⟩ := hbf.cells
      obtain ⟨⟨y0, y1, y2, y3, y4⟩, _⟩ := hbb.cells
      have hl1 := hbf.lt
      have hl2 := hbb.lt
      clear hbf hbb
      unfold set5 at HN5
      go_wp2
      go_roundw
      case rel => exact ⟨y, F', bo, bn, bc, rfl, hyN, HOK', HN5⟩
      case measure => simp [intOf]; have := HY.out; omega
    · skip
      obtain rfl : N = i := by omega
      have HBE := Lib.hid HI.out.below
      clear HI HOF
      go_wp2_with fail
      go_fit (HS.out _ HBE.out)
      rintro e w9 ⟨rfl, hb9⟩
      have HB9 := Lib.hid (HBE.out.trans (hb9.mono HBE.out.size))
      clear hb9 HBE HS c0 c1 c2 c3 c4
      go_wp2
      go_ret
      exact ⟨rfl, HB9.out⟩
end Go.Proofs.YtdibpoecdjnpaaaDoor
