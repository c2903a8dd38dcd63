/-
  Texts of this proof, one behind the other; each begins with its own remark.
-/
import Derived.StillTailTactics
import Derived.Deep.RegionLaw
import Derived.Deep.Cut
import Derived.Test.YtpkjaallhhjleaaGreatDoorBe36
import Derived.Test.YtpkjaallhhjleaaGreatDoorBe37
import Derived.Test.YtpkjaallhhjleaaGreatDoorBe18
/-
  limnerref06.Put: what it returns, and lays in a block of its own: for every frame that may be.
-/
namespace Go.Proofs.YtpkjaallhhjleaaGreatDoor
open Go.RowKit

theorem rputR_any {ok : Nat → Prop} {v : Value} {f : Frm} {m n : Nat} (row col r : Int) (s : Sty) (w : World) (h : FrameW ok w v f) (hf : OkF f m n) :
    Calls Tryz.prog 68 #[v, .int .i64 row, .int .i64 col, .int .i32 r, .agg #[.int .i64 s.1, .bool s.2.1, .bool s.2.2.1, .bool s.2.2.2]] w fun e w' => ∃ v', e = .returned v' ∧ OwnR w.heap.size w' v' (putF f row col r s) ∧ Below w.heap.size w w' := by
  obtain ⟨ao, N, cap, rfl, hn, hcap, hS⟩ := h
  unfold putF
  have hv := hf.valid
  have hpos : 0 < f.cells.length := by
    have h1 := hf.len; have h2 := hf.hm; have h3 := hf.hn
    rw [h1]; exact Nat.mul_pos (by omega) (by omega)
  obtain ⟨g, o, rfl, _⟩ := hS.ptr (i := 0) (List.getElem?_eq_getElem hpos)
  rw [if_pos hv]
  cases hc : canB f row col r s with
  | true =>
    rw [if_pos rfl]
    obtain ⟨c1, ⟨c2, c3, c4, c5⟩, c6, c7⟩ := (canB_iff _ _ _ _ _).1 hc
    obtain ⟨k, rfl⟩ : ∃ k : Nat, row = (k : Int) := ⟨row.toNat, by omega⟩
    obtain ⟨j, rfl⟩ : ∃ j : Nat, col = (j : Int) := ⟨col.toNat, by omega⟩
    by_cases h2 : ofN r = 2
    · exact rputR_two k j r s w hf hn hcap hS hc h2
    · exact rputR_one k j r s w hf hn hcap hS hc h2
  | false =>
    rw [if_neg (by decide)]
    by_cases h0 : ofN r = 0
    · exact rputR_no0 row col r s w hf hn hcap hS h0
    cases h3 : styB s with
    | false => exact rputR_no1 row col r s w hf hn hcap hS h0 h3
    | true =>
      refine rputR_no2 row col r s w hf hn hcap hS h0 h3 (Classical.byContradiction fun h => ?_)
      rw [(canB_iff _ _ _ _ _).2 ⟨by omega, by omega, by omega, h3⟩] at hc
      cases hc
end Go.Proofs.YtpkjaallhhjleaaGreatDoor

/-
  limnerref08: erase: what it lays.
-/
namespace Go.Proofs.YtpkjaallhhjleaaGreatDoor
open Go.RowKit

section
variable {w0 : World} {B G N cap : Nat} {T : ByteArray} {t : Tm}
/-- The frame is another one, its cells in a new block. -/
theorem RtS.putted {W w5 : World} {F1 : Frm} {g N1 c1 : Nat} (h : RtS w0 W B G N cap T t) (hb : Below W.heap.size W w5) (hg : W.heap.size ≤ g) (hc : N1 ≤ c1) (hz : ∃ zs, blkL w5 g F1.cells zs) (hl : F1.cells.length = N1) (hN : F1.cells.length = N) :
    RtS w0 (set5 w5 B F1.rows F1.cols (.slice (some ⟨g, 0, none⟩) N1 c1) F1.row F1.col) B g N c1 T { t with f := F1 } ∧ KeepW (NotBG B G) W (set5 w5 B F1.rows F1.cols (.slice (some ⟨g, 0, none⟩) N1 c1) F1.row F1.col) := by
  have hBl := h.box.lt
  have hs0 := h.below.size
  have hB0 := h.hB
  have hk := set5_keep (ok := fun k => k ≠ B) w5 B F1.rows F1.cols (.slice (some ⟨g, 0, none⟩) N1 c1) F1.row F1.col (fun k => k rfl)
  obtain ⟨zs, hz⟩ := hz
  have hNN : N1 = N := hl.symm.trans hN
  have h5 := (h.next hb).box
  refine ⟨⟨KeepW.below (h.next hb).below hk (h.next hb).below.size (fun k hk => by omega), hB0, by omega, by omega, ?_, ⟨zs, hz.keep hk (by show g ≠ B; omega)⟩, hN, by omega⟩, (keep_below _ hb).trans (hk.mono fun k _ q => q.1)⟩
  unfold rmB at h5 ⊢
  rw [← hNN]
  unfold set5
  rw [heap_set (heap_set (heap_set (heap_set (heap_set h5))))]
  rfl
/-- A blank put at a place: what the call says, and what the store makes of it. -/
theorem rt_blank {W : World} {m n p : Nat} (h : RtS w0 W B G N cap T t) (hok : OkF t.f m n) (hp : p < N) :
    Calls Tryz.prog 68 #[.agg #[.int .i64 t.f.rows, .int .i64 t.f.cols, .slice (some ⟨G, 0, none⟩) N cap, .int .i64 t.f.row, .int .i64 t.f.col], .int .i64 ((p / n : Nat) : Int), .int .i64 ((p % n : Nat) : Int), .int .i32 32, .agg #[.int .i64 0, .bool false, .bool false, .bool false]] W fun e w' => ∃ a1 a2 a4 a5 g c1, e = .returned (.agg #[.int .i64 a1, .int .i64 a2, .slice (some ⟨g, 0, none⟩) N c1, .int .i64 a4, .int .i64 a5]) ∧ Below W.heap.size W w' ∧ W.heap.size ≤ g ∧
      RtS w0 (set5 w' B a1 a2 (.slice (some ⟨g, 0, none⟩) N c1) a4 a5) B g N c1 T { t with f := putF t.f ((p / n : Nat) : Int) ((p % n : Nat) : Int) 32 sty0 } ∧ KeepW (NotBG B G) W (set5 w' B a1 a2 (.slice (some ⟨g, 0, none⟩) N c1) a4 a5) := by
  have hF := (put_flat hok (p := p) (by rw [h.len]; exact hp)).1
  have hl : (putF t.f ((p / n : Nat) : Int) ((p % n : Nat) : Int) 32 sty0).cells.length = N := by rw [hF.len, ← hok.len, h.len]
  refine (rputR_any ((p / n : Nat) : Int) ((p % n : Nat) : Int) 32 sty0 W h.frame hok).mono ?_
  rintro e w' ⟨v', he, ⟨g, N1, c1, hv, hg, hc, hz, hn⟩, hb⟩
  subst hv
  have hNN : N1 = N := hn.symm.trans hl
  subst hNN
  obtain ⟨k1, k2⟩ := h.putted hb hg hc hz hn hl
  exact ⟨_, _, _, _, g, c1, he, hb, hg, k1, k2⟩
set_option maxRecDepth 20000 in
set_option maxHeartbeats 8000000 in
theorem rterase_any {m n : Nat} (a b : Nat) (w : World) (h : RtS w0 w B G N cap T t) (hok : OkF t.f m n) (hab : a < b) (hb : b ≤ N) :
    Calls Tryz.prog 71 #[.pointer (some ⟨B, 0, none⟩), .int .i64 (a : Int), .int .i64 (b : Int)] w (RtD w0 w B G N T { t with f := { t.f with cells := eraseL t.f.cells a b } }) := by
  have hcl := hok.cols
  have hn := hok.hn
  have hlen := h.len
  have hN2 : N ≤ 20000 := by rw [← hlen]; exact hok.room
  have hER := erase_ref hok hab (by rw [hlen]; exact hb)
  obtain ⟨b1, hb1⟩ : ∃ b1, b - 1 = b1 := ⟨_, rfl⟩
  rw [hb1] at hER
  have HP1 : Hid (∀ W, Below w.heap.size w W → ∃ P : Ending → World → Prop, Calls Tryz.prog 68 #[.agg #[.int .i64 t.f.rows, .int .i64 t.f.cols, .slice (some ⟨G, 0, none⟩) N cap, .int .i64 t.f.row, .int .i64 t.f.col], .int .i64 ((a / n : Nat) : Int), .int .i64 ((a % n : Nat) : Int), .int .i32 32, .agg #[.int .i64 0, .bool false, .bool false, .bool false]] W P) := fun W hW => ⟨_, rt_blank (h.next hW) hok (by omega)⟩
  have HPa := Lib.hid (fun W (hW : Below w.heap.size w W) => rt_blank (p := a) (h.next hW) hok (by omega))
  have hOk1 := (put_flat hok (p := a) (by rw [hlen]; omega)).1
  have hr1 := (put_flat hok (p := a) (by rw [hlen]; omega)).2.1
  obtain ⟨F1, hF1⟩ : ∃ F, putF t.f ((a / n : Nat) : Int) ((a % n : Nat) : Int) 32 sty0 = F := ⟨_, rfl⟩
  rw [hF1] at HPa hOk1 hER hr1
  have HPb := Lib.hid (fun W g c1 (hS : RtS w0 W B g N c1 T { t with f := F1 }) => rt_blank (p := b1) hS hOk1 (by omega))
  have hcl1 := hOk1.cols
  obtain ⟨F2, hF2⟩ : ∃ F, putF F1 ((b1 / n : Nat) : Int) ((b1 % n : Nat) : Int) 32 sty0 = F := ⟨_, rfl⟩
  have hOk2 := (put_flat hOk1 (p := b1) (by rw [hOk1.len, ← hok.len, hlen]; omega)).1
  have hr2 := (put_flat hOk1 (p := b1) (by rw [hOk1.len, ← hok.len, hlen]; omega)).2.1
  dsimp only at HPb
  rw [hF2] at HPb hER hOk2 hr2
  have HFR : Hid (∀ L, ({ F2 with cells := L } : Frm) = { t.f with cells := L }) := fun L => by
    have k1 := hOk2.rows.trans hok.rows.symm
    have k2 := hOk2.cols.trans hok.cols.symm
    have k3 := hr2.1.trans hr1.1
    have k4 := hr2.2.trans hr1.2
    cases F2
    dsimp only at k1 k2 k3 k4 ⊢
    rw [k1, k2, k3, k4]
  have HL2 : Hid (F2.cells.length = N) := by show _ = _; rw [hOk2.len, ← hok.len, hlen]
  obtain ⟨A1, hA1⟩ : ∃ x, a / n = x := ⟨_, rfl⟩
  obtain ⟨A2, hA2⟩ : ∃ x, a % n = x := ⟨_, rfl⟩
  obtain ⟨B1, hB1⟩ : ∃ x, b1 / n = x := ⟨_, rfl⟩
  obtain ⟨B2, hB2⟩ : ∃ x, b1 % n = x := ⟨_, rfl⟩
  rw [hA1, hA2] at HPa
  rw [hB1, hB2] at HPb
  have la1 : A1 ≤ a := by rw [← hA1]; exact Nat.div_le_self _ _
  have la2 : A2 ≤ a := by rw [← hA2]; exact Nat.mod_le _ _
  have lb1 : B1 ≤ b1 := by rw [← hB1]; exact Nat.div_le_self _ _
  have lb2 : B2 ≤ b1 := by rw [← hB2]; exact Nat.mod_le _ _
  have q1 : IntKind.i64.wrap ((a : Int).tdiv t.f.cols) = (A1 : Int) := by rw [hcl, ← Int.ofNat_tdiv, hA1]; exact IntWalk.i64_in _ (by omega)
  have q2 : IntKind.i64.wrap ((a : Int).tmod t.f.cols) = (A2 : Int) := by rw [hcl, ← Int.ofNat_tmod, hA2]; exact IntWalk.i64_in _ (by omega)
  have q3 : IntKind.i64.wrap ((b1 : Int).tdiv F1.cols) = (B1 : Int) := by rw [hcl1, ← Int.ofNat_tdiv, hB1]; exact IntWalk.i64_in _ (by omega)
  have q4 : IntKind.i64.wrap ((b1 : Int).tmod F1.cols) = (B2 : Int) := by rw [hcl1, ← Int.ofNat_tmod, hB2]; exact IntWalk.i64_in _ (by omega)
  have q5 : IntKind.i64.wrap ((b : Int) - 1) = (b1 : Int) := by rw [show (b : Int) - 1 = (b1 : Int) by omega]; exact IntWalk.i64_in _ (by omega)
  have i1 : (a : Int) < (b : Int) := by omega
  have c1 : 8 ≤ t.f.cols := by omega
  have c2 : 8 ≤ F1.cols := by omega
  have r1 : IntKind.i64.wrap (A1 : Int) = (A1 : Int) := IntWalk.i64_in _ (by omega)
  have r2 : IntKind.i64.wrap (A2 : Int) = (A2 : Int) := IntWalk.i64_in _ (by omega)
  have r3 : IntKind.i64.wrap (B1 : Int) = (B1 : Int) := IntWalk.i64_in _ (by omega)
  have r4 : IntKind.i64.wrap (B2 : Int) = (B2 : Int) := IntWalk.i64_in _ (by omega)
  have c3 : ¬ t.f.cols = 0 := by omega
  have c4 : ¬ F1.cols = 0 := by omega
  have c5' : (t.f.cols == 0) = false := by rw [beq_eq_false_iff_ne]; omega
  have c6' : (F1.cols == 0) = false := by rw [beq_eq_false_iff_ne]; omega
  have e1 : (a : Int).tdiv t.f.cols = (A1 : Int) := by rw [hcl, ← Int.ofNat_tdiv, hA1]
  have e2 : (a : Int).tmod t.f.cols = (A2 : Int) := by rw [hcl, ← Int.ofNat_tmod, hA2]
  have e3 : (b1 : Int).tdiv F1.cols = (B1 : Int) := by rw [hcl1, ← Int.ofNat_tdiv, hB1]
  have e4 : (b1 : Int).tmod F1.cols = (B2 : Int) := by rw [hcl1, ← Int.ofNat_tmod, hB2]
  have HS := Lib.hid h
  have HER := Lib.hid hER
  have HO2 := Lib.hid hOk2
  have HNs : Hid (∀ W, Below w.heap.size w W → (W.cell? ⟨B, 0, none⟩ = some (.int .i64 t.f.rows) ∧ W.cell? ⟨B, 1, none⟩ = some (.int .i64 t.f.cols) ∧ W.cell? ⟨B, 2, none⟩ = some (.slice (some ⟨G, 0, none⟩) N cap) ∧ W.cell? ⟨B, 3, none⟩ = some (.int .i64 t.f.row) ∧ W.cell? ⟨B, 4, none⟩ = some (.int .i64 t.f.col)) ∧ (∀ i, W.frozen? ⟨B, i, none⟩ = false) ∧ B < W.heap.size) := fun W hW => by
    have hS := h.next hW
    exact ⟨hS.box.cells.1, hS.box.cells.2.2.2, hS.box.lt⟩
  obtain ⟨⟨x0, x1, x2, x3, x4⟩, _, hlt⟩ := HNs.out w (Below.refl _ _)
  clear HP1 h hok hlen hER hb1 hOk1 hF1 hF2 hOk2 hr1 hr2 hA1 hA2 hB1 hB2 la1 la2 lb1 lb2 hcl hcl1 hn
  go_enter Tryz.func71, Tryz.ntmps71
  go_wp2_with fail
  go_cut [1] from 7 (fun s1 W3 => s1 = .int .i64 (a : Int) ∧ ∃ g c5, w.heap.size ≤ g ∧ Hid (RtS w0 W3 B g N c5 T { t with f := F1 } ∧ KeepW (NotBG B G) w W3))
  case first =>
    go_region_law (first | (go_simp; go_at_call 68; go_must (go_fit (HPa.out w.drew (Below.refl _ _).drew)); rintro e w5 ⟨a1, a2, a4, a5, g, c5, rfl, hb5, hg5, hS1, hk1⟩; obtain ⟨⟨y0, y1, y2, y3, y4⟩, fy, hl5⟩ := HNs.out w5 ((Below.refl _ _).drew.trans (hb5.mono (Nat.le_refl _))); have f0 := fy 0; have f1 := fy 1; have f2 := fy 2; have f3 := fy 3; have f4 := fy 4))
    all_goals (go_wp2_with fail; go_meet; exact ⟨rfl, g, c5, hg5, hS1, (keep_drew _ w).trans hk1⟩)
  case rest =>
    obtain ⟨rfl, g, c5, hg5, HR⟩ := hcut
    have HS3 := Lib.hid HR.out.1
    have HK3 := Lib.hid HR.out.2
    have HG3 := Lib.hid hg5
    have HNt : Hid (∀ W, Below wc.heap.size wc W → (W.cell? ⟨B, 0, none⟩ = some (.int .i64 F1.rows) ∧ W.cell? ⟨B, 1, none⟩ = some (.int .i64 F1.cols) ∧ W.cell? ⟨B, 2, none⟩ = some (.slice (some ⟨g, 0, none⟩) N c5) ∧ W.cell? ⟨B, 3, none⟩ = some (.int .i64 F1.row) ∧ W.cell? ⟨B, 4, none⟩ = some (.int .i64 F1.col)) ∧ (∀ i, W.frozen? ⟨B, i, none⟩ = false) ∧ B < W.heap.size) := fun W hW => by
      have hS := HS3.out.next hW
      exact ⟨hS.box.cells.1, hS.box.cells.2.2.2, hS.box.lt⟩
    obtain ⟨⟨z0, z1, z2, z3, z4⟩, _, hl3⟩ := HNt.out wc (Below.refl _ _)
    have HPc := Lib.hid (HPb.out wc.drew g c5 (HS3.out.next (Below.refl _ _).drew))
    clear HR hg5 x0 x1 x2 x3 x4 hlt q1 q2 e1 e2 r1 r2 c3 c5' HPa HPb HNs
    go_wp2_with fail
    go_cut [1] from 7 (fun s1 W3 => s1 = .int .i64 (a : Int) ∧ ∃ g c5, w.heap.size ≤ g ∧ Hid (RtS w0 W3 B g N c5 T { t with f := F2 } ∧ KeepW (NotBG B G) w W3))
    case first =>
      go_region_law (first | (go_simp; go_at_call 68; go_must (go_fit HPc.out); rintro e w5 ⟨a1, a2, a4, a5, g2, c6, rfl, hb5, hg5, hS1, hk1⟩; obtain ⟨⟨y0, y1, y2, y3, y4⟩, fy, hl5⟩ := HNt.out w5 ((Below.refl _ _).drew.trans (hb5.mono (Nat.le_refl _))); have f0 := fy 0; have f1 := fy 1; have f2 := fy 2; have f3 := fy 3; have f4 := fy 4))
      all_goals (go_wp2_with fail; go_meet; exact ⟨rfl, g2, c6, Nat.le_trans HK3.out.size hg5, hS1, rt_trans HK3.out (.inr HG3.out) ((keep_drew _ wc).trans hk1)⟩)
    case rest =>
      obtain ⟨rfl, g2, c6, hg6, HR2⟩ := hcut
      have HG6 := Lib.hid hg6
      have HBk := Lib.hid (fun w => blank_any w)
      clear hg6 z0 z1 z2 z3 z4 hl3 q3 q4 q5 e3 e4 r3 r4 c4 c6' HPc HNt HS3 HK3 HG3
      go_wp2_with fail
      go_loopw [6] (fun s6 wr => ∃ i : Nat, s6 = .int .i64 (i : Int) ∧ a ≤ i ∧ i ≤ b ∧ Hid (RtS w0 wr B g2 N c6 T { t with f := { F2 with cells := fillB F2.cells a i } } ∧ KeepW (NotBG B G) w wr)) (fun s6 _ => b - (intOf s6).toNat)
      case atStart => exact ⟨a, rfl, Nat.le_refl _, by omega, by show RtS _ _ _ _ _ _ _ _ ∧ _; rw [fill_none]; exact HR2.out⟩
      case round =>
        obtain ⟨i, rfl, hai, hib, HI⟩ := hrel
        by_cases hlt : i < b
        · have hla : (fillB F2.cells a i).length = N := by rw [fillLen hai (by rw [HL2.out]; omega)]; exact HL2.out
          obtain ⟨d, hd⟩ : ∃ d, (fillB F2.cells a i)[i]? = some d := ⟨_, List.getElem?_eq_getElem (by rw [hla]; omega)⟩
          have hst : (fillB F2.cells a i).set i blkC = fillB F2.cells a (i + 1) := fill_step' (by rw [HL2.out]; omega) hai
          have HNl : Hid (∀ W, Below wr.heap.size wr W → (W.cell? ⟨B, 2, none⟩ = some (.slice (some ⟨g2, 0, none⟩) N c6) ∧ B < W.heap.size) ∧ cell6 W g2 (i * 6) d ∧ (∀ k, W.frozen? ⟨g2, k, none⟩ = false) ∧ g2 < W.heap.size ∧ (RtS w0 (set6 W g2 (i * 6) blkC) B g2 N c6 T { t with f := { F2 with cells := fillB F2.cells a (i + 1) } } ∧ KeepW (NotBG B G) w (set6 W g2 (i * 6) blkC))) := fun W hW => by
            have hS := HI.out.1.next hW
            obtain ⟨zs, hz⟩ := hS.blk
            have hk := set6_keep (ok := fun k => k ≠ g2) W g2 (i * 6) blkC (fun k => k rfl)
            have hs := hz.set i blkC (by show i < (fillB F2.cells a i).length; rw [hla]; omega)
            have hc := hS.celled hk hs (by rw [List.length_set]; exact hla)
            dsimp only at hc
            rw [hst] at hc
            refine ⟨⟨hS.box.cells.1.2.2.1, hS.box.lt⟩, hz.cells hd, hz.frozen, hz.lt, hc, ?_⟩
            have k1 := HI.out.2.trans (keep_below (NotBG B G) hW)
            have hgw := HG6.out
            exact ⟨hk.os.trans k1.os, hk.tape.trans k1.tape, hk.output.trans k1.output, Nat.le_trans k1.size hk.size, fun k hk' hn => (hk.same k (Nat.lt_of_lt_of_le hk' k1.size) (by show k ≠ g2; omega)).trans (k1.same k hk' hn)⟩
          obtain ⟨⟨x2, hlB⟩, _⟩ := HNl.out wr (Below.refl _ _)
          have j1 : (i : Int) < (b : Int) := by omega
          have j2 : (0 : Int) ≤ (i : Int) := by omega
          have j4 : (i : Int) < (N : Int) := by omega
          obtain ⟨y, hy⟩ : ∃ y, i + 1 = y := ⟨_, rfl⟩
          have j3 : (i : Int) + 1 = (y : Int) := by omega
          have hyb : y ≤ b := by omega
          have hay : a ≤ y := by omega
          have HYI : Hid (i < y) := by show _ < _; omega
          rw [hy] at HNl
          clear hla hd hst hy HI HR2
          go_wp2_with fail
          go_region_law (first | (go_simp; go_at_call 52; go_must (go_fit (HBk.out _)); rintro e w8 ⟨rfl, hb8⟩; obtain ⟨⟨y2, hl8⟩, ⟨e0, e1, e2, e3, e4, e5⟩, hfz, hgl, hR8⟩ := HNl.out w8 ((Below.refl _ _).drew.trans (hb8.mono (Nat.le_refl _))); have f0 := hfz (i * 6); have f1 := hfz (i * 6 + 1); have f2 := hfz (i * 6 + 2); have f3 := hfz (i * 6 + 3); have f4 := hfz (i * 6 + 4); have f5 := hfz (i * 6 + 5); unfold set6 at hR8; have HR8 := Lib.hid hR8; clear hR8 hfz))
          all_goals (go_wp2_with fail; go_roundw; (case rel => exact ⟨y, rfl, hay, hyb, HR8.out⟩); (case measure => simp [intOf]; have := HYI.out; omega))
        · have j9 : ¬ (i : Int) < (b : Int) := by omega
          have HE : Hid (RtD w0 w B G N T { t with f := { t.f with cells := eraseL t.f.cells a b } } (.returned (.tuple #[])) wr) := by
            have h1 := HI.out.1
            rw [show i = b by omega, HER.out, HFR.out] at h1
            exact ⟨rfl, g2, c6, .inr HG6.out, h1, HI.out.2⟩
          clear HI HR2
          go_wp2_with fail
          go_end0
          exact HE.out
end
end Go.Proofs.YtpkjaallhhjleaaGreatDoor

/-
  limnerref08: sequence: what it needs of plain facts.
-/
namespace Go.Proofs.YtpkjaallhhjleaaGreatDoor
open Go.RowKit

section
variable {w0 : World} {B G N cap : Nat} {T : ByteArray} {t : Tm}
theorem getd_le {l : List Nat} (h9 : ∀ x ∈ l, x ≤ 9999) (i : Nat) : l.getD i 0 ≤ 9999 := by
  rw [List.getD_eq_getElem?_getD]
  cases hi : l[i]? with
  | none => exact Nat.zero_le _
  | some x => exact h9 x (List.mem_of_getElem? hi)
theorem go_row {f : Frm} {m n : Nat} (h : OkF f m n) (x : Int) : goF f x f.col = { f with row := min (max 0 x) (f.rows - 1) } := by
  have h1 := h.col
  have h2 := h.cols
  unfold goF
  rw [show min (max 0 f.col) (f.cols - 1) = f.col by omega]
theorem go_col {f : Frm} {m n : Nat} (h : OkF f m n) (x : Int) : goF f f.row x = { f with col := min (max 0 x) (f.cols - 1) } := by
  have h1 := h.row
  have h2 := h.rows
  unfold goF
  rw [show min (max 0 f.row) (f.rows - 1) = f.row by omega]
end
end Go.Proofs.YtpkjaallhhjleaaGreatDoor
