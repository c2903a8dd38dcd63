/-
  limnerref06.Resize: what it returns, and lays: a frame that may be, a size that may be.
-/
import Derived.Deep.Cut
import Derived.BigRegion
import Derived.RegionTactic
import Derived.Test.YtdibpoecdjnpaaaDoorBa38
import Derived.Test.YtdibpoecdjnpaaaDoorBa28
namespace Go.Proofs.YtdibpoecdjnpaaaDoor
open Go.RowKit

section
variable {ok : Nat → Prop} {g0 o0 N cap p q m n : Nat} {f : Frm}
set_option maxRecDepth 100000 in
set_option maxHeartbeats 8000000 in
theorem rres_yes (w : World) (hf : OkF f m n) (hN : N = f.cells.length) (hcap : N ≤ cap) (hS : CelsW ok w (.slice (some ⟨g0, o0, none⟩) N cap) f.cells) (hp : 2 ≤ p ∧ p ≤ 100) (hq : 8 ≤ q ∧ q ≤ 200) :
    Calls Tryd.prog 25 #[.agg #[.int .i64 f.rows, .int .i64 f.cols, .slice (some ⟨g0, o0, none⟩) N cap, .int .i64 f.row, .int .i64 f.col], .int .i64 (p : Int), .int .i64 (q : Int)] w fun e w' => ∃ v', e = .returned (.tuple #[v', .int .i64 0]) ∧ FrameW AnyB w' v' ⟨p, q, resC f p q, min f.row ((p : Int) - 1), min f.col ((q : Int) - 1)⟩ ∧ Below w.heap.size w w' := by
  have HV : Hid (∀ W, Below w.heap.size w W → Calls Tryd.prog 27 #[.agg #[.int .i64 f.rows, .int .i64 f.cols, .slice (some ⟨g0, o0, none⟩) N cap, .int .i64 f.row, .int .i64 f.col]] W fun e w' => e = .returned (.bool true) ∧ Below W.heap.size W w') := fun W hW => by
    have := rvalid_any W (FrameW.below ⟨_, N, cap, rfl, hN, hcap, hS⟩ hW)
    rwa [hf.valid] at this
  have hlen := hf.len
  have hrl := hf.rows
  have hcl := hf.cols
  have hm2 := hf.hm
  have hn2 := hf.hn
  have hrow := hf.row
  have hcol := hf.col
  have hPle : p * q ≤ 20000 := Nat.mul_le_mul hp.2 hq.2
  have hNle : N ≤ 20000 := by rw [hN, hlen]; exact Nat.mul_le_mul hm2.2 hn2.2
  obtain ⟨P, hP⟩ : ∃ P, p * q = P := ⟨_, rfl⟩
  rw [hP] at hPle
  have HNw : Hid (∀ W, Calls Tryd.prog 12 #[.int .i64 (p : Int), .int .i64 (q : Int)] W fun e w' => ∃ g c, e = .returned (.tuple #[.agg #[.int .i64 (p : Int), .int .i64 (q : Int), .slice (some ⟨g, 0, none⟩) P c, .int .i64 0, .int .i64 0], .int .i64 0]) ∧ P ≤ c ∧ NewL W w' g (mixR f p q 0) ∧ Below W.heap.size W w') := fun W => by
    have := rnew_any p q W hp hq
    rw [← mixR_zero f p q (by omega), hP] at this
    exact this
  have HS0 := Lib.hid (fun w3 g c zs hX hg hb hl hc => RrS.start (w := w) (f := f) (ao := some ⟨g0, o0, none⟩) (N := N) (cap := cap) (p := p) (q := q) (P := P) (g := g) (c := c) (M := mixR f p q 0) (zs := zs) (w3 := w3) hX hg hb hl hc)
  have HMl : Hid (∀ i, (mixR f p q i).length = P) := fun i => by rw [mixR_len, hP]
  have HMend : Hid (∀ i, i < p → i < m → ∀ a, i * q = a → ∀ g c H zs W, RrS w W f (some ⟨g0, o0, none⟩) N cap p q P g c H (overM f p q i n (min q n)) zs →
      Calls Tryd.prog 42 #[.slice (some ⟨g, a * 6, none⟩) q (c - a)] W fun e w' => e = .returned (.tuple #[]) ∧ RrS w w' f (some ⟨g0, o0, none⟩) N cap p q P g c H (mixR f p q (i + 1)) zs) := fun i hi him a ha g c H zs W h => by
    subst ha
    have hr := row_room (n := q) hi
    have hml := h.len
    refine (mend_any (a := i * q) (n := q) (cap := c - i * q) W h.blk (by rw [hml, ← hP]; exact hr) (by omega)).mono fun e w' ⟨k1, k2, k3⟩ => ⟨k1, ?_⟩
    rw [overM_end f m n p q i (min q n) hf hi him (by omega) rfl] at k2
    exact h.turn k3 k2 (by rw [mixR_len, hP])
  have HSrc : Hid (∀ i j, i < m → j < n → ∀ dj, i * n + j = dj → ∃ x, (rowK f.cells n i)[j]? = some x ∧ ∀ W, Below w.heap.size w W → cell6 W g0 (o0 + dj * 6) x) := fun i j hi hj dj hdj => by
    obtain ⟨x, hx⟩ : ∃ x, (rowK f.cells n i)[j]? = some x := ⟨_, List.getElem?_eq_getElem (by rw [rowK_len hlen hi]; exact hj)⟩
    refine ⟨x, hx, fun W hW => ?_⟩
    rw [rowK_at, if_pos hj, hdj] at hx
    have := hS.get (i := dj) (c := x) 
    rw [hN] at hS
    exact (CelsW.below hS hW).get hx
  have HLn : Hid (∀ i, i < m → (rowK f.cells n i).length = n) := fun i hi => rowK_len hlen hi
  have HP := Lib.hid hP
  have HFc := Lib.hid hcl
  have HRL := Lib.hid hrl
  have HNN : Hid (N = m * n) := by show _ = _; rw [hN, hlen]
  have hfr : f.rows ≤ 100 := by omega
  have hfr2 : 2 ≤ f.rows := by omega
  have hfc : f.cols ≤ 200 := by omega
  have hfc2 : 8 ≤ f.cols := by omega
  have hp1 : (p : Int) ≤ 100 := by omega
  have hp2 : 2 ≤ (p : Int) := by omega
  have hq1 : (q : Int) ≤ 200 := by omega
  have hq2 : 8 ≤ (q : Int) := by omega
  have hr1 : (0 : Int) ≤ f.row := by omega
  have hr2 : f.row < 100 := by omega
  have hc1 : (0 : Int) ≤ f.col := by omega
  have hc2 : f.col < 200 := by omega
  have hP2 : (P : Int) ≤ 20000 := by omega
  have hN2 : (N : Int) ≤ 20000 := by omega
  clear hS hf hN hcap hP hlen hrl hcl hm2 hn2 hrow hcol hp hq hPle hNle
  go_enter Tryd.func25, Tryd.ntmps25
  go_wp2_with fail
  go_fit (HNw.out _)
  rintro e w3 ⟨g, c, rfl, hc, ⟨zs, hg, hbk⟩, hb3⟩
  have hX := (show Below (w.heap.size + 2) ((w.alloc (.cells #[.int .i64 f.rows, .int .i64 f.cols, .slice (some ⟨g0, o0, none⟩) N cap, .int .i64 f.row, .int .i64 f.col] 28)).alloc (.cells #[.int .i64 0, .int .i64 0, .slice none 0 0, .int .i64 0, .int .i64 0] 28)) w3 by simpa using hb3)
  obtain ⟨H, hH⟩ : ∃ H, w3.heap.size = H := ⟨_, rfl⟩
  have hs0 := HS0.out w3 g c zs hX (by rw [World.size_alloc, World.size_alloc] at hg; omega) hbk (HMl.out 0) hc
  rw [hH] at hs0
  have HI0 := Lib.hid hs0
  have hc5 : (P : Int) ≤ (c : Int) := by omega
  have hlH : w.heap.size < w3.heap.size := by have := hX.size; simp at this; omega
  clear HS0 HNw hX hg hbk hb3 hc hs0
  obtain ⟨⟨d0, d1, d2, d3, d4⟩, _⟩ := HI0.out.fr.cells
  go_wp2_with fail
  go_fit (HV.out _ HI0.out.below)
  rintro e w4 ⟨rfl, hb4⟩
  have HI1 := Lib.hid (HI0.out.next hb4)
  clear HV HI0 hb4 d0 d1 d2 d3 d4
  go_wp2
  go_loopw [10] (fun s10 wr => ∃ i : Nat, s10 = .int .i64 (i : Int) ∧ i ≤ p ∧ (i : Int) ≤ f.rows ∧ Hid (RrS w wr f (some ⟨g0, o0, none⟩) N cap p q P g c H (mixR f p q i) zs)) (fun s10 _ => p - (intOf s10).toNat)
  case atStart => exact ⟨0, rfl, Nat.zero_le _, by omega, HI1⟩
  case round =>
    obtain ⟨i, rfl, hi, hir, HI⟩ := hrel
    clear HI1
    by_cases hip : i < p
    · by_cases hifr : (i : Int) < f.rows
      · have him : i < m := by have := HRL.out; omega
        have j1 : (i : Int) < (p : Int) := by omega
        obtain ⟨a, ha⟩ : ∃ a, i * q = a := ⟨_, rfl⟩
        obtain ⟨d, hd⟩ : ∃ d, i * n = d := ⟨_, rfl⟩
        have hroom := row_room (n := q) hip
        rw [HP.out, ha] at hroom
        have hroomf := row_room (n := n) him
        rw [← HNN.out, hd] at hroomf
        obtain ⟨b, hb⟩ : ∃ b, a + q = b := ⟨_, rfl⟩
        have hma : (i : Int) * (q : Int) = (a : Int) := by rw [← ha, Int.natCast_mul]
        have hmd : (i : Int) * f.cols = (d : Int) := by rw [HFc.out, ← hd, Int.natCast_mul]
        obtain ⟨x, hx⟩ : ∃ x, i + 1 = x := ⟨_, rfl⟩
        have hx1 : (i : Int) + 1 = (x : Int) := by omega
        have hmb : (x : Int) * (q : Int) = (b : Int) := by rw [← hx1, Int.add_mul, hma]; omega
        have HA := Lib.hid ha
        have HD := Lib.hid hd
        have HX := Lib.hid hx
        have hxp : x ≤ p := by omega
        have hxr : (x : Int) ≤ f.rows := by omega
        have e1 : (0 : Int) ≤ (a : Int) := by omega
        have e2 : (a : Int) ≤ (b : Int) := by omega
        have e3 : (b : Int) ≤ (P : Int) := by omega
        have e4 : (0 : Int) ≤ (d : Int) := by omega
        have e5 : (d : Int) ≤ 20000 := by omega
        have e6 : b - a = q := by omega
        have e7 : (0 : Int) ≤ (i : Int) := by omega
        have e8 : (i : Int) < 100 := by omega
        have e9 : (b : Int) ≤ (c : Int) := by omega
        have HRa : Hid (a + q ≤ P ∧ d + n ≤ N) := ⟨hroom, hroomf⟩
        have HJ0 : Hid (RrS w wr f (some ⟨g0, o0, none⟩) N cap p q P g c H (overM f p q i n 0) zs) := by rw [overM_zero f p q i n hip]; exact HI
        obtain ⟨⟨x0, x1, x2, x3, x4⟩, _⟩ := HI.out.fr.cells
        clear HI ha hd hroom hroomf hb hx
        go_wp2
        clear x0 x1 x2 x3 x4
        go_loopw [11] (fun s11 wz => ∃ j : Nat, s11 = .int .i64 (j : Int) ∧ j ≤ q ∧ j ≤ n ∧ Hid (RrS w wz f (some ⟨g0, o0, none⟩) N cap p q P g c H (overM f p q i n j) zs)) (fun s11 _ => q - (intOf s11).toNat)
        case atStart => exact ⟨0, rfl, Nat.zero_le _, Nat.zero_le _, HJ0⟩
        case round =>
          obtain ⟨j, rfl, hjq, hjn, HJ⟩ := hrel
          clear HJ0
          by_cases h3 : j < q
          · have k1 : (j : Int) < (q : Int) := by omega
            by_cases h4 : (j : Int) < f.cols
            · have h5 : j < n := by have := HFc.out; omega
              obtain ⟨dj, hdj⟩ : ∃ dj, d + j = dj := ⟨_, rfl⟩
              obtain ⟨aj, haj⟩ : ∃ aj, a + j = aj := ⟨_, rfl⟩
              obtain ⟨u, hu, hcu⟩ := HSrc.out i j him h5 dj (by rw [HD.out]; exact hdj)
              obtain ⟨s0, s1, s2, s3, s4, s5⟩ := hcu wr HJ.out.below
              have hg0 := (hcu wr HJ.out.below).lt
              have hro := HRa.out
              have hst := overM_step f p q i n j u hip h3 hu
              rw [HA.out, haj] at hst
              have hol := overM_len f p q i n (j + 1) hip (by omega) (by rw [HLn.out i him]; omega)
              rw [HP.out] at hol
              obtain ⟨o, ho⟩ : ∃ o, (overM f p q i n j)[aj]? = some o := ⟨_, List.getElem?_eq_getElem (by rw [HJ.out.len]; omega)⟩
              obtain ⟨t0, t1, t2, t3, t4, t5⟩ := HJ.out.blk.cells ho
              have hfz := HJ.out.blk.frozen
              have f0 := hfz (aj * 6)
              have f1 := hfz (aj * 6 + 1)
              have f2 := hfz (aj * 6 + 2)
              have f3 := hfz (aj * 6 + 3)
              have f4 := hfz (aj * 6 + 4)
              have f5 := hfz (aj * 6 + 5)
              have hglt := HJ.out.blk.lt
              obtain ⟨y, hy⟩ : ∃ y, j + 1 = y := ⟨_, rfl⟩
              rw [hy] at hst hol
              have k2 : (j : Int) + 1 = (y : Int) := by omega
              have k3 : (d : Int) + (j : Int) = (dj : Int) := by omega
              have k4 : (a : Int) + (j : Int) = (aj : Int) := by omega
              have k5 : (dj : Int) < (N : Int) := by omega
              have k6 : (aj : Int) < (P : Int) := by omega
              have k7 : (0 : Int) ≤ (dj : Int) := by omega
              have k8 : (0 : Int) ≤ (aj : Int) := by omega
              have k9 : (0 : Int) ≤ (j : Int) := by omega
              have hyq : y ≤ q := by omega
              have hyn : y ≤ n := by omega
              have HY := Lib.hid hy
              have h6 : RrS w (set6 wr g (aj * 6) u).drew f (some ⟨g0, o0, none⟩) N cap p q P g c H (overM f p q i n y) zs := by
                have hb := HJ.out.blk.set aj u (by rw [HJ.out.len]; omega)
                rw [hst] at hb
                exact HJ.out.turn ((set6_keep _ _ _ _ fun k => k rfl).trans (keep_drew _ _)) hb hol
              unfold set6 at h6
              have H6 := Lib.hid h6
              obtain ⟨⟨x0, x1, x2, x3, x4⟩, _⟩ := HJ.out.fr.cells
              obtain ⟨⟨r0, r1, r2, r3, r4⟩, _⟩ := HJ.out.box.cells
              clear hdj haj hu hcu hro hst hol ho hfz hy h6 HJ HMend HSrc HLn x0 x3 x4 r0 r1 r3 r4
              go_wp2
              go_region
              go_wp2
              go_roundw
              case rel => exact ⟨y, rfl, hyq, hyn, H6.out⟩
              case measure => simp [intOf]; have := HY.out; omega
            · have hje : j = min q n := by have := HFc.out; omega
              have HJ2 : Hid (RrS w wr f (some ⟨g0, o0, none⟩) N cap p q P g c H (overM f p q i n (min q n)) zs) := by rw [← hje]; exact HJ
              obtain ⟨⟨r0, r1, r2, r3, r4⟩, _⟩ := HJ2.out.box.cells
              obtain ⟨⟨x0, x1, x2, x3, x4⟩, _⟩ := HJ2.out.fr.cells
              have HMd := Lib.hid (HMend.out i hip him a HA.out g c H zs wr HJ2.out)
              rw [HX.out] at HMd
              have HJE := Lib.hid hje
              clear HJ HJ2 hje
              go_wp2_with fail
              go_fit (HMd.out)
              rintro e w9 ⟨rfl, h9⟩
              have H9 := Lib.hid h9
              clear HMd h9 r0 r1 r2 r3 r4 x0 x1 x2 x3 x4
              go_wp2
              go_roundw
              case rel => exact ⟨x, rfl, hxp, hxr, H9.out⟩
              case measure => simp [intOf]; have := HX.out; omega
          · have hje : j = min q n := by omega
            have HJ2 : Hid (RrS w wr f (some ⟨g0, o0, none⟩) N cap p q P g c H (overM f p q i n (min q n)) zs) := by rw [← hje]; exact HJ
            obtain ⟨⟨r0, r1, r2, r3, r4⟩, _⟩ := HJ2.out.box.cells
            obtain ⟨⟨x0, x1, x2, x3, x4⟩, _⟩ := HJ2.out.fr.cells
            have HMd := Lib.hid (HMend.out i hip him a HA.out g c H zs wr HJ2.out)
            rw [HX.out] at HMd
            have HJE := Lib.hid hje
            clear HJ HJ2 hje
            go_wp2_with fail
            go_fit (HMd.out)
            rintro e w9 ⟨rfl, h9⟩
            have H9 := Lib.hid h9
            clear HMd h9 r0 r1 r2 r3 r4 x0 x1 x2 x3 x4
            go_wp2
            go_roundw
            case rel => exact ⟨x, rfl, hxp, hxr, H9.out⟩
            case measure => simp [intOf]; have := HX.out; omega
      · have hend : mixR f p q i = resC f p q := mixR_end f p q i (by omega) (by omega)
        have j1 : (i : Int) < (p : Int) := by omega
        have HI9 : Hid (RrS w wr f (some ⟨g0, o0, none⟩) N cap p q P g c H (resC f p q) zs) := by rw [← hend]; exact HI
        clear HI hend HMend HSrc
        obtain ⟨⟨x0, x1, x2, x3, x4⟩, _⟩ := HI9.out.fr.cells
        obtain ⟨⟨r0, r1, r2, r3, r4⟩, z0, z1, z2, z3, z4⟩ := HI9.out.box.cells
        have hlt2 := HI9.out.box.lt
        have HEND := Lib.hid (fun a b V hV => RrS.done (a := a) (b := b) (V := V) HI9.out hV)
        clear HI9
        by_cases ha : f.row ≤ (p : Int) - 1
        · by_cases hb : f.col ≤ (q : Int) - 1
          · have EA : Hid (min f.row ((p : Int) - 1) = f.row) := by show _ = _; omega
            have EB : Hid (min f.col ((q : Int) - 1) = f.col) := by show _ = _; omega
            have HE := Lib.hid (fun V hV => HEND.out (f.row) (f.col) V hV)
            clear HEND
            go_wp2
            go_region
            obtain ⟨V, hV⟩ : ∃ V, ((wr.setCell ⟨H, 3, none⟩ (.int .i64 (f.row))).setCell ⟨H, 4, none⟩ (.int .i64 (f.col))).drew = V := ⟨_, rfl⟩
            obtain ⟨k1, k0, k2, k3, k4⟩ := HE.out V hV
            have K2 := Lib.hid k2
            have K3 := Lib.hid k3
            have K4 := Lib.hid k4
            first | rw [hV] | (simp only [EA.out, EB.out]; rw [hV])
            clear r0 r1 r2 r3 r4 z0 z1 z2 z3 z4 x0 x1 x2 x3 x4 hlt2
            obtain ⟨⟨r0, r1, r2, r3, r4⟩, _⟩ := k1.cells
            obtain ⟨⟨s0, s1, s2, s3, s4⟩, z0, z1, z2, z3, z4⟩ := k0.cells
            have hlt3 := k0.lt
            clear hV HE k0 k1 k2 k3 k4
            go_wp2
            obtain ⟨⟨y0, y1, y2, y3, y4⟩, _⟩ := K2.out.cells
            unfold set5 at y0 y1 y2 y3 y4
            exact bodyPost_ret (v := .tuple #[.agg #[.int .i64 (p : Int), .int .i64 (q : Int), .slice (some ⟨g, 0, none⟩) P c, .int .i64 (f.row), .int .i64 (f.col)], .int .i64 0]) (by simp [results, Tryd.results25, go_sem, y0, y1, y2, y3, y4]) rfl ⟨_, rfl, by rw [EA.out, EB.out]; exact K3.out, K4.out⟩
          · have EA : Hid (min f.row ((p : Int) - 1) = f.row) := by show _ = _; omega
            have EB : Hid (min f.col ((q : Int) - 1) = (q : Int) - 1) := by show _ = _; omega
            have HE := Lib.hid (fun V hV => HEND.out (f.row) ((q : Int) - 1) V hV)
            clear HEND
            go_wp2
            go_region
            obtain ⟨V, hV⟩ : ∃ V, ((wr.setCell ⟨H, 3, none⟩ (.int .i64 (f.row))).setCell ⟨H, 4, none⟩ (.int .i64 ((q : Int) - 1))).drew = V := ⟨_, rfl⟩
            obtain ⟨k1, k0, k2, k3, k4⟩ := HE.out V hV
            have K2 := Lib.hid k2
            have K3 := Lib.hid k3
            have K4 := Lib.hid k4
            first | rw [hV] | (simp only [EA.out, EB.out]; rw [hV])
            clear r0 r1 r2 r3 r4 z0 z1 z2 z3 z4 x0 x1 x2 x3 x4 hlt2
            obtain ⟨⟨r0, r1, r2, r3, r4⟩, _⟩ := k1.cells
            obtain ⟨⟨s0, s1, s2, s3, s4⟩, z0, z1, z2, z3, z4⟩ := k0.cells
            have hlt3 := k0.lt
            clear hV HE k0 k1 k2 k3 k4
            go_wp2
            obtain ⟨⟨y0, y1, y2, y3, y4⟩, _⟩ := K2.out.cells
            unfold set5 at y0 y1 y2 y3 y4
            exact bodyPost_ret (v := .tuple #[.agg #[.int .i64 (p : Int), .int .i64 (q : Int), .slice (some ⟨g, 0, none⟩) P c, .int .i64 (f.row), .int .i64 ((q : Int) - 1)], .int .i64 0]) (by simp [results, Tryd.results25, go_sem, y0, y1, y2, y3, y4]) rfl ⟨_, rfl, by rw [EA.out, EB.out]; exact K3.out, K4.out⟩
        · by_cases hb : f.col ≤ (q : Int) - 1
          · have EA : Hid (min f.row ((p : Int) - 1) = (p : Int) - 1) := by show _ = _; omega
            have EB : Hid (min f.col ((q : Int) - 1) = f.col) := by show _ = _; omega
            have HE := Lib.hid (fun V hV => HEND.out ((p : Int) - 1) (f.col) V hV)
            clear HEND
            go_wp2
            go_region
            obtain ⟨V, hV⟩ : ∃ V, ((wr.setCell ⟨H, 3, none⟩ (.int .i64 ((p : Int) - 1))).setCell ⟨H, 4, none⟩ (.int .i64 (f.col))).drew = V := ⟨_, rfl⟩
            obtain ⟨k1, k0, k2, k3, k4⟩ := HE.out V hV
            have K2 := Lib.hid k2
            have K3 := Lib.hid k3
            have K4 := Lib.hid k4
            first | rw [hV] | (simp only [EA.out, EB.out]; rw [hV])
            clear r0 r1 r2 r3 r4 z0 z1 z2 z3 z4 x0 x1 x2 x3 x4 hlt2
            obtain ⟨⟨r0, r1, r2, r3, r4⟩, _⟩ := k1.cells
            obtain ⟨⟨s0, s1, s2, s3, s4⟩, z0, z1, z2, z3, z4⟩ := k0.cells
            have hlt3 := k0.lt
            clear hV HE k0 k1 k2 k3 k4
            go_wp2
            obtain ⟨⟨y0, y1, y2, y3, y4⟩, _⟩ := K2.out.cells
            unfold set5 at y0 y1 y2 y3 y4
            exact bodyPost_ret (v := .tuple #[.agg #[.int .i64 (p : Int), .int .i64 (q : Int), .slice (some ⟨g, 0, none⟩) P c, .int .i64 ((p : Int) - 1), .int .i64 (f.col)], .int .i64 0]) (by simp [results, Tryd.results25, go_sem, y0, y1, y2, y3, y4]) rfl ⟨_, rfl, by rw [EA.out, EB.out]; exact K3.out, K4.out⟩
          · have EA : Hid (min f.row ((p : Int) - 1) = (p : Int) - 1) := by show _ = _; omega
            have EB : Hid (min f.col ((q : Int) - 1) = (q : Int) - 1) := by show _ = _; omega
            have HE := Lib.hid (fun V hV => HEND.out ((p : Int) - 1) ((q : Int) - 1) V hV)
            clear HEND
            go_wp2
            go_region
            obtain ⟨V, hV⟩ : ∃ V, ((wr.setCell ⟨H, 3, none⟩ (.int .i64 ((p : Int) - 1))).setCell ⟨H, 4, none⟩ (.int .i64 ((q : Int) - 1))).drew = V := ⟨_, rfl⟩
            obtain ⟨k1, k0, k2, k3, k4⟩ := HE.out V hV
            have K2 := Lib.hid k2
            have K3 := Lib.hid k3
            have K4 := Lib.hid k4
            first | rw [hV] | (simp only [EA.out, EB.out]; rw [hV])
            clear r0 r1 r2 r3 r4 z0 z1 z2 z3 z4 x0 x1 x2 x3 x4 hlt2
            obtain ⟨⟨r0, r1, r2, r3, r4⟩, _⟩ := k1.cells
            obtain ⟨⟨s0, s1, s2, s3, s4⟩, z0, z1, z2, z3, z4⟩ := k0.cells
            have hlt3 := k0.lt
            clear hV HE k0 k1 k2 k3 k4
            go_wp2
            obtain ⟨⟨y0, y1, y2, y3, y4⟩, _⟩ := K2.out.cells
            unfold set5 at y0 y1 y2 y3 y4
            exact bodyPost_ret (v := .tuple #[.agg #[.int .i64 (p : Int), .int .i64 (q : Int), .slice (some ⟨g, 0, none⟩) P c, .int .i64 ((p : Int) - 1), .int .i64 ((q : Int) - 1)], .int .i64 0]) (by simp [results, Tryd.results25, go_sem, y0, y1, y2, y3, y4]) rfl ⟨_, rfl, by rw [EA.out, EB.out]; exact K3.out, K4.out⟩
    · have hend : mixR f p q i = resC f p q := mixR_end f p q i (by omega) (by omega)
      have HI9 : Hid (RrS w wr f (some ⟨g0, o0, none⟩) N cap p q P g c H (resC f p q) zs) := by rw [← hend]; exact HI
      clear HI hend HMend HSrc
      obtain ⟨⟨x0, x1, x2, x3, x4⟩, _⟩ := HI9.out.fr.cells
      obtain ⟨⟨r0, r1, r2, r3, r4⟩, z0, z1, z2, z3, z4⟩ := HI9.out.box.cells
      have hlt2 := HI9.out.box.lt
      have HEND := Lib.hid (fun a b V hV => RrS.done (a := a) (b := b) (V := V) HI9.out hV)
      clear HI9
      by_cases ha : f.row ≤ (p : Int) - 1
      · by_cases hb : f.col ≤ (q : Int) - 1
        · have EA : Hid (min f.row ((p : Int) - 1) = f.row) := by show _ = _; omega
          have EB : Hid (min f.col ((q : Int) - 1) = f.col) := by show _ = _; omega
          have HE := Lib.hid (fun V hV => HEND.out (f.row) (f.col) V hV)
          clear HEND
          go_wp2
          go_region
          obtain ⟨V, hV⟩ : ∃ V, ((wr.setCell ⟨H, 3, none⟩ (.int .i64 (f.row))).setCell ⟨H, 4, none⟩ (.int .i64 (f.col))).drew = V := ⟨_, rfl⟩
          obtain ⟨k1, k0, k2, k3, k4⟩ := HE.out V hV
          have K2 := Lib.hid k2
          have K3 := Lib.hid k3
          have K4 := Lib.hid k4
          first | rw [hV] | (simp only [EA.out, EB.out]; rw [hV])
          clear r0 r1 r2 r3 r4 z0 z1 z2 z3 z4 x0 x1 x2 x3 x4 hlt2
          obtain ⟨⟨r0, r1, r2, r3, r4⟩, _⟩ := k1.cells
          obtain ⟨⟨s0, s1, s2, s3, s4⟩, z0, z1, z2, z3, z4⟩ := k0.cells
          have hlt3 := k0.lt
          clear hV HE k0 k1 k2 k3 k4
          go_wp2
          obtain ⟨⟨y0, y1, y2, y3, y4⟩, _⟩ := K2.out.cells
          unfold set5 at y0 y1 y2 y3 y4
          exact bodyPost_ret (v := .tuple #[.agg #[.int .i64 (p : Int), .int .i64 (q : Int), .slice (some ⟨g, 0, none⟩) P c, .int .i64 (f.row), .int .i64 (f.col)], .int .i64 0]) (by simp [results, Tryd.results25, go_sem, y0, y1, y2, y3, y4]) rfl ⟨_, rfl, by rw [EA.out, EB.out]; exact K3.out, K4.out⟩
        · have EA : Hid (min f.row ((p : Int) - 1) = f.row) := by show _ = _; omega
          have EB : Hid (min f.col ((q : Int) - 1) = (q : Int) - 1) := by show _ = _; omega
          have HE := Lib.hid (fun V hV => HEND.out (f.row) ((q : Int) - 1) V hV)
          clear HEND
          go_wp2
          go_region
          obtain ⟨V, hV⟩ : ∃ V, ((wr.setCell ⟨H, 3, none⟩ (.int .i64 (f.row))).setCell ⟨H, 4, none⟩ (.int .i64 ((q : Int) - 1))).drew = V := ⟨_, rfl⟩
          obtain ⟨k1, k0, k2, k3, k4⟩ := HE.out V hV
          have K2 := Lib.hid k2
          have K3 := Lib.hid k3
          have K4 := Lib.hid k4
          first | rw [hV] | (simp only [EA.out, EB.out]; rw [hV])
          clear r0 r1 r2 r3 r4 z0 z1 z2 z3 z4 x0 x1 x2 x3 x4 hlt2
          obtain ⟨⟨r0, r1, r2, r3, r4⟩, _⟩ := k1.cells
          obtain ⟨⟨s0, s1, s2, s3, s4⟩, z0, z1, z2, z3, z4⟩ := k0.cells
          have hlt3 := k0.lt
          clear hV HE k0 k1 k2 k3 k4
          go_wp2
          obtain ⟨⟨y0, y1, y2, y3, y4⟩, _⟩ := K2.out.cells
          unfold set5 at y0 y1 y2 y3 y4
          exact bodyPost_ret (v := .tuple #[.agg #[.int .i64 (p : Int), .int .i64 (q : Int), .slice (some ⟨g, 0, none⟩) P c, .int .i64 (f.row), .int .i64 ((q : Int) - 1)], .int .i64 0]) (by simp [results, Tryd.results25, go_sem, y0, y1, y2, y3, y4]) rfl ⟨_, rfl, by rw [EA.out, EB.out]; exact K3.out, K4.out⟩
      · by_cases hb : f.col ≤ (q : Int) - 1
        · have EA : Hid (min f.row ((p : Int) - 1) = (p : Int) - 1) := by show _ = _; omega
          have EB : Hid (min f.col ((q : Int) - 1) = f.col) := by show _ = _; omega
          have HE := Lib.hid (fun V hV => HEND.out ((p : Int) - 1) (f.col) V hV)
          clear HEND
          go_wp2
          go_region
          obtain ⟨V, hV⟩ : ∃ V, ((wr.setCell ⟨H, 3, none⟩ (.int .i64 ((p : Int) - 1))).setCell ⟨H, 4, none⟩ (.int .i64 (f.col))).drew = V := ⟨_, rfl⟩
          obtain ⟨k1, k0, k2, k3, k4⟩ := HE.out V hV
          have K2 := Lib.hid k2
          have K3 := Lib.hid k3
          have K4 := Lib.hid k4
          first | rw [hV] | (simp only [EA.out, EB.out]; rw [hV])
          clear r0 r1 r2 r3 r4 z0 z1 z2 z3 z4 x0 x1 x2 x3 x4 hlt2
          obtain ⟨⟨r0, r1, r2, r3, r4⟩, _⟩ := k1.cells
          obtain ⟨⟨s0, s1, s2, s3, s4⟩, z0, z1, z2, z3, z4⟩ := k0.cells
          have hlt3 := k0.lt
          clear hV HE k0 k1 k2 k3 k4
          go_wp2
          obtain ⟨⟨y0, y1, y2, y3, y4⟩, _⟩ := K2.out.cells
          unfold set5 at y0 y1 y2 y3 y4
          exact bodyPost_ret (v := .tuple #[.agg #[.int .i64 (p : Int), .int .i64 (q : Int), .slice (some ⟨g, 0, none⟩) P c, .int .i64 ((p : Int) - 1), .int .i64 (f.col)], .int .i64 0]) (by simp [results, Tryd.results25, go_sem, y0, y1, y2, y3, y4]) rfl ⟨_, rfl, by rw [EA.out, EB.out]; exact K3.out, K4.out⟩
        · have EA : Hid (min f.row ((p : Int) - 1) = (p : Int) - 1) := by show _ = _; omega
          have EB : Hid (min f.col ((q : Int) - 1) = (q : Int) - 1) := by show _ = _; omega
          have HE := Lib.hid (fun V hV => HEND.out ((p : Int) - 1) ((q : Int) - 1) V hV)
          clear HEND
          go_wp2
          go_region
          obtain ⟨V, hV⟩ : ∃ V, ((wr.setCell ⟨H, 3, none⟩ (.int .i64 ((p : Int) - 1))).setCell ⟨H, 4, none⟩ (.int .i64 ((q : Int) - 1))).drew = V := ⟨_, rfl⟩
          obtain ⟨k1, k0, k2, k3, k4⟩ := HE.out V hV
          have K2 := Lib.hid k2
          have K3 := Lib.hid k3
          have K4 := Lib.hid k4
          first | rw [hV] | (simp only [EA.out, EB.out]; rw [hV])
          clear r0 r1 r2 r3 r4 z0 z1 z2 z3 z4 x0 x1 x2 x3 x4 hlt2
          obtain ⟨⟨r0, r1, r2, r3, r4⟩, _⟩ := k1.cells
          obtain ⟨⟨s0, s1, s2, s3, s4⟩, z0, z1, z2, z3, z4⟩ := k0.cells
          have hlt3 := k0.lt
          clear hV HE k0 k1 k2 k3 k4
          go_wp2
          obtain ⟨⟨y0, y1, y2, y3, y4⟩, _⟩ := K2.out.cells
          unfold set5 at y0 y1 y2 y3 y4
          exact bodyPost_ret (v := .tuple #[.agg #[.int .i64 (p : Int), .int .i64 (q : Int), .slice (some ⟨g, 0, none⟩) P c, .int .i64 ((p : Int) - 1), .int .i64 ((q : Int) - 1)], .int .i64 0]) (by simp [results, Tryd.results25, go_sem, y0, y1, y2, y3, y4]) rfl ⟨_, rfl, by rw [EA.out, EB.out]; exact K3.out, K4.out⟩
end
end Go.Proofs.YtdibpoecdjnpaaaDoor
