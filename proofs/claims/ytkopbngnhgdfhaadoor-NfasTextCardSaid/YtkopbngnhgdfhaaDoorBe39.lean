/-
  limnerref11.lay: what it comes to, of a node whose kids stand beside each other, where it does as it should with each.
-/
import Derived.Deep.CutRange
import Derived.Deep.CutBlock
import Derived.Deep.RegionHeld3
import Derived.Test.YtkopbngnhgdfhaaDoorBe19
namespace Go.Proofs.YtkopbngnhgdfhaaDoor
open Go.RowKit

section
variable {X : Nat → Prop} {w : World} {R m : Nat} {sv bv lv x : Value} {S : List St4} {E : Nat → Nat → Bool} {n : Nd}
set_option maxRecDepth 4000 in
set_option maxHeartbeats 8000000 in
theorem rlay_alt (hk : n.kind = 3) (hB : ∀ k, k ∈ n.kids → LayW k) (hr : RulW X w R sv bv lv S m E) (hX : ∀ k, w.heap.size ≤ k → ¬ X k) (hx : NodeW (fun k => ¬ OwnR R sv bv k) w n x) (hlen : 0 < S.length ∧ S.length + (setsN n).length ≤ m) (hm : m ≤ 100000) :
    Calls Tryd.prog 59 #[.pointer (some ⟨R, 0, none⟩), x, .int .i64 (m : Int)] w fun e w' => LayP X R sv bv lv S m E n w w' e := by
  obtain ⟨hs, u, rfl, hu⟩ := hx
  obtain ⟨uo, uc, rfl, hul, hub⟩ := hu.form
  have HS0 := Lib.hid (LayF.start hr hu (by omega))
  have hmk := fun W => nmake m (by omega) W
  have HG : Hid (glN n S.length = altG n.kids S.length failG ∧ S ++ setsN n = S ++ setsL n.kids) := Lib.hid ⟨by rw [glN_eq, if_neg (by rw [hk]; decide), if_neg (by rw [hk]; decide), if_pos hk], by rw [setsN_kids n (by rw [hk]; decide)]⟩
  have hk1 : (n.kind == 1) = false := by rw [hk]; rfl
  have hk2 : (n.kind == 2) = false := by rw [hk]; rfl
  have hk3 : (n.kind == 3) = true := by rw [hk]; rfl
  have HLN : Hid (0 < S.length ∧ S.length + (setsL n.kids).length ≤ m) := Lib.hid (by
    have h1 := congrArg List.length HG.out.2
    rw [List.length_append, List.length_append] at h1
    omega)
  have HB := Lib.hid hB
  obtain ⟨nl, hnl⟩ : ∃ nl, n.kids.length = nl := ⟨_, rfl⟩
  have HN := Lib.hid hnl
  rw [hnl] at hul hub HS0 ⊢
  have hnb : (nl : Int) ≤ 9223372036854775807 := by omega
  clear hk hB hlen hnl
  unfold nodeV
  have HX := Lib.hid hX
  clear hr hu hX
  go_enter Tryd.func59, Tryd.ntmps59
  go_upto_region 2 with (fail)
  obtain ⟨W1, hW1⟩ : ∃ W1, ((w.alloc (.cells #[.int .i64 n.kind, .int .u64 (n.set.1 : Int), .int .u64 (n.set.2.1 : Int), .int .u64 (n.set.2.2.1 : Int), .int .u64 (n.set.2.2.2 : Int), .slice uo nl uc] 90)).alloc (.cells #[.bool false, .slice none 0 0, .slice none 0 0] 128)).alloc (.cells (boolC (noneB m)).toArray 4) = W1 := ⟨_, rfl⟩
  (try rw [hW1])
  rw [hW1] at HS0
  clear hW1 hmk
  obtain ⟨b, hb⟩ : ∃ b, w.heap.size = b := ⟨_, rfl⟩
  (try rw [hb])
  rw [hb] at HS0 HX
  have HBB := Lib.hid hb
  clear hb
  obtain ⟨⟨c0, c1, c2, c3, c4, c5⟩, _⟩ := HS0.out.1.x.cells
  have hbl := HS0.out.1.x.lt
  obtain ⟨⟨p0, p1, p2⟩, p3, p4, p5⟩ := HS0.out.1.p.cells
  have hpl := HS0.out.1.p.lt
  go_upto_region 24 with (fail)
  have hsz := HS0.out.2
  have hba := alloc_under W1 (.cells #[.bool false, .slice (some ⟨b + 1 + 1, 0, none⟩) m m, .slice (some ⟨b + 1 + 1, 0, none⟩) m m] 128)
  have hbx := box3.new 128 W1 (.bool false) (.slice (some ⟨b + 1 + 1, 0, none⟩) m m) (.slice (some ⟨b + 1 + 1, 0, none⟩) m m)
  have hnoc := HS0.out.1.r.ownlt W1.heap.size (Nat.le_refl _)
  rw [← hsz] at hbx hnoc
  have H1 : Hid (∃ (sw fV lV : Value), PaI X w (W1.alloc (.cells #[.bool false, .slice (some ⟨b + 1 + 1, 0, none⟩) m m, .slice (some ⟨b + 1 + 1, 0, none⟩) m m] 128)) R sv sw bv lv (S ++ setsL (n.kids.take 0)) m (orF2 E (altG (n.kids.take 0) S.length failG).fol) b n (.slice uo nl uc) (altG (n.kids.take 0) S.length failG).null fV lV (altG (n.kids.take 0) S.length failG).first (altG (n.kids.take 0) S.length failG).last) := by
    refine Lib.hid ⟨sv, .slice (some ⟨b + 1 + 1, 0, none⟩) m m, .slice (some ⟨b + 1 + 1, 0, none⟩) m m, ?_⟩
    rw [List.take_zero, setsL, List.append_nil, altG]
    exact PaI.congr ⟨HS0.out.1.more hsz.symm hba, hbx, HS0.out.1.nrow.under hba, HS0.out.1.nrow.under hba, hnoc⟩ fun i j => by simp [orF2, failG, noF2]
  obtain ⟨W2, hW2⟩ : ∃ W2, W1.alloc (.cells #[.bool false, .slice (some ⟨b + 1 + 1, 0, none⟩) m m, .slice (some ⟨b + 1 + 1, 0, none⟩) m m] 128) = W2 := ⟨_, rfl⟩
  rw [hW2] at H1
  (try rw [hW2])
  rw [← hsz]
  clear hba hbx hnoc hW2 hsz c0 c1 c2 c3 c4 c5 hbl p0 p1 p2 p3 p4 p5 hpl HS0
  go_wp2_with fail
  go_loopw [13] (fun s10 wr => ∃ i : Nat, s10 = .int .i64 (i : Int) ∧ i ≤ nl ∧ Hid (∃ (sw fV lV : Value), PaI X w wr R sv sw bv lv (S ++ setsL (n.kids.take i)) m (orF2 E (altG (n.kids.take i) S.length failG).fol) b n (.slice uo nl uc) (altG (n.kids.take i) S.length failG).null fV lV (altG (n.kids.take i) S.length failG).first (altG (n.kids.take i) S.length failG).last)) (fun s10 _ => nl - (intOf s10).toNat)
  case atStart => exact ⟨0, rfl, Nat.zero_le _, H1⟩
  case round =>
    obtain ⟨i, rfl, hi, HX0⟩ := hrel
    clear H1
    obtain ⟨sw, fV, lV, hQ⟩ := HX0.out
    have HQ := Lib.hid hQ
    clear HX0 hQ
    have i0 : (0 : Int) ≤ (i : Int) := by omega
    obtain ⟨⟨c0, c1, c2, c3, c4, c5⟩, _⟩ := HQ.out.l.x.cells
    have hbl := HQ.out.l.x.lt
    by_cases hlt : i < nl
    · have hli : (i : Int) < (nl : Int) := by omega
      have hla : i < n.kids.length := by have := HN.out; omega
      obtain ⟨k1, hk⟩ : ∃ k1, n.kids[i] = k1 := ⟨_, rfl⟩
      have hil : n.kids[i]? = some k1 := by rw [List.getElem?_eq_getElem hla, hk]
      obtain ⟨g, o, cap, ku, kl, kc, hue, _, rfl, hnk, hcell⟩ := HQ.out.l.kid hil
      injection hue with e1 e2 e3
      subst e1 e3
      clear e2
      have d0 := hcell 0 _ (by decide) rfl
      have d1 := hcell 1 _ (by decide) rfl
      have d2 := hcell 2 _ (by decide) rfl
      have d3 := hcell 3 _ (by decide) rfl
      have d4 := hcell 4 _ (by decide) rfl
      have d5 := hcell 5 _ (by decide) rfl
      simp only [Nat.add_zero, ← Nat.add_assoc] at d0 d1 d2 d3 d4 d5
      have hsn := setsL_snoc hil
      have hle := setsL_take_le n.kids (i + 1)
      have HA := Lib.hid (HB.out k1 (List.mem_of_getElem? hil) _ _ _ _ _ _ _ _ _ _ HQ.out.l.r (HQ.out.new3 (by rw [HBB.out]; exact HX.out)) hnk (by
        have h1 := HLN.out
        rw [hsn, List.length_append] at hle
        rw [List.length_append]
        omega) hm)
      have HGS : Hid (altG (n.kids.take (i + 1)) S.length failG = eitherG (altG (n.kids.take i) S.length failG) (glN k1 (S ++ setsL (n.kids.take i)).length) ∧ S ++ setsL (n.kids.take (i + 1)) = (S ++ setsL (n.kids.take i)) ++ setsN k1) := Lib.hid ⟨by rw [List.take_add_one, hil, List.length_append]; exact altG_snoc _ _ _ _, by rw [hsn, List.append_assoc]⟩
      obtain ⟨S1, hS1⟩ : ∃ S1, S ++ setsL (n.kids.take i) = S1 := ⟨_, rfl⟩
      obtain ⟨G1, hG1⟩ : ∃ G1, altG (n.kids.take i) S.length failG = G1 := ⟨_, rfl⟩
      rw [hS1] at HA HGS HQ
      rw [hG1] at HA HGS HQ
      obtain ⟨G2, hG2⟩ : ∃ G2, glN k1 S1.length = G2 := ⟨_, rfl⟩
      rw [hG2] at HGS
      unfold nodeV at HA
      have HGE := Lib.hid hG2
      clear hcell hnk hil hla hk hsn hle hS1 hG1 hG2
      go_wp2_with fail
      go_fit HA.out
      rintro e w2 ⟨sx, kf, kla, he, hR, hGo, hf, hl⟩
      rw [HGE.out] at he hR hf hl
      subst he
      have h2 := HQ.out.go hR hGo
      have H2 := Lib.hid (And.intro h2 (And.intro (rows_of HQ.out hf) (rows_of HQ.out hl)))
      obtain ⟨fo, fc, rfl⟩ := bol_form hf
      obtain ⟨lo, lc, rfl⟩ := bol_form hl
      clear hR hGo hf hl h2 HA HQ c0 c1 c2 c3 c4 c5 hbl d0 d1 d2 d3 d4 d5
      go_upto_region 28 with (fail)
      have hba := alloc_under w2 (.cells #[.bool G2.null, .slice fo m fc, .slice lo m lc] 128)
      have H3 := Lib.hid (And.intro (H2.out.1.under hba) (KiI.new (kz := G2.null) H2.out.1 H2.out.2.1 H2.out.2.2))
      obtain ⟨W3, hW3⟩ : ∃ W3, w2.alloc (.cells #[.bool G2.null, .slice fo m fc, .slice lo m lc] 128) = W3 := ⟨_, rfl⟩
      rw [hW3] at H3
      (try rw [hW3])
      obtain ⟨c, hc⟩ : ∃ c, w2.heap.size = c := ⟨_, rfl⟩
      rw [hc] at H3
      (try rw [hc])
      clear hba hW3 hc H2
      obtain ⟨vo, vc, hfV⟩ := bol_form H3.out.1.f
      obtain ⟨zo, zc, hlV⟩ := bol_form H3.out.1.la
      subst hfV hlV
      have H4 := H3
      clear H3
      obtain ⟨⟨⟨x0, x1, x2⟩, f0, f1, f2⟩, hxl⟩ := H4.out.1.cells
      obtain ⟨⟨q0, q1, q2⟩, hql⟩ := H4.out.2.cells
      obtain ⟨pn, hpn⟩ : ∃ pn, G1.null = pn := ⟨_, rfl⟩
      obtain ⟨kn, hkn⟩ : ∃ kn, G2.null = kn := ⟨_, rfl⟩
      rw [hpn] at H4 x0
      rw [hkn] at H4 q0
      have HPN := Lib.hid (And.intro hpn hkn)
      clear hpn hkn
      have hHC : ∀ V : World, Below W3.heap.size W3 V → (V.cell? ⟨b + 3, 0, none⟩ = some (.bool pn) ∧ V.cell? ⟨b + 3, 1, none⟩ = some (.slice vo m vc) ∧ V.cell? ⟨b + 3, 2, none⟩ = some (.slice zo m zc) ∧ V.cell? ⟨c, 0, none⟩ = some (.bool kn) ∧ V.cell? ⟨c, 1, none⟩ = some (.slice fo m fc) ∧ V.cell? ⟨c, 2, none⟩ = some (.slice lo m lc)) := fun V hV => ⟨(H4.out.1.under hV).cells.1.1.1, (H4.out.1.under hV).cells.1.1.2.1, (H4.out.1.under hV).cells.1.1.2.2, (H4.out.2.under hV).cells.1.1, (H4.out.2.under hV).cells.1.2.1, (H4.out.2.under hV).cells.1.2.2⟩
      have HC := Lib.hid hHC
      have hHZ : ∀ V : World, Below W3.heap.size W3 V → (V.frozen? ⟨b + 3, 0, none⟩ = false ∧ V.frozen? ⟨b + 3, 1, none⟩ = false ∧ V.frozen? ⟨b + 3, 2, none⟩ = false) ∧ b + 3 < V.heap.size := fun V hV => ⟨(H4.out.1.under hV).cells.1.2, (H4.out.1.under hV).cells.2⟩
      have HZ := Lib.hid hHZ
      have hHK : ∀ V : World, Below W3.heap.size W3 V → (V.cell? ⟨c, 0, none⟩ = some (.bool kn) ∧ V.cell? ⟨c, 1, none⟩ = some (.slice fo m fc) ∧ V.cell? ⟨c, 2, none⟩ = some (.slice lo m lc)) := fun V hV => (H4.out.2.under hV).cells.1
      have HK := Lib.hid hHK
      have hHKS : ∀ V : World, Below W3.heap.size W3 V → ∀ y0 y1 y2 : Value, ((((V.setCell ⟨b + 3, 0, none⟩ y0).setCell ⟨b + 3, 1, none⟩ y1).setCell ⟨b + 3, 2, none⟩ y2).cell? ⟨c, 0, none⟩ = some (.bool kn) ∧ (((V.setCell ⟨b + 3, 0, none⟩ y0).setCell ⟨b + 3, 1, none⟩ y1).setCell ⟨b + 3, 2, none⟩ y2).cell? ⟨c, 1, none⟩ = some (.slice fo m fc) ∧ (((V.setCell ⟨b + 3, 0, none⟩ y0).setCell ⟨b + 3, 1, none⟩ y1).setCell ⟨b + 3, 2, none⟩ y2).cell? ⟨c, 2, none⟩ = some (.slice lo m lc)) := fun V hV y0 y1 y2 => ((((H4.out.2.under hV).store (i := 0) (y := y0)).store (i := 1) (y := y1)).store (i := 2) (y := y2)).cells.1
      have HKS := Lib.hid hHKS
      clear hHK hHKS
      have hO1 : ∀ V : World, Below W3.heap.size W3 V → Calls Tryd.prog 60 #[.slice vo m vc, .slice fo m fc] V fun e w' => ∃ G, e = .returned (.slice (some ⟨G, 0, none⟩) m m) ∧ BolO (AccO R sx bv b) w' (.slice (some ⟨G, 0, none⟩) m m) m (orF G1.first G2.first) ∧ Below W3.heap.size W3 w' := fun V hV => (por_any (H4.out.1.under hV) (H4.out.1.under hV).f (H4.out.2.under hV).f hm).mono fun e w' ⟨G, h1, h2, h3⟩ => ⟨G, h1, h2, hV.trans (h3.mono hV.size)⟩
      have HO1 := Lib.hid hO1
      have hO2 : ∀ V : World, Below W3.heap.size W3 V → ∀ ga : Nat, BolO (AccO R sx bv b) V (.slice (some ⟨ga, 0, none⟩) m m) m (orF G1.first G2.first) → Calls Tryd.prog 60 #[.slice zo m zc, .slice lo m lc] V fun e w' => ∃ G, e = .returned (.slice (some ⟨G, 0, none⟩) m m) ∧ (PaI X w (((w'.setCell ⟨b + 3, 0, none⟩ (.bool (pn || kn))).setCell ⟨b + 3, 1, none⟩ (.slice (some ⟨ga, 0, none⟩) m m)).setCell ⟨b + 3, 2, none⟩ (.slice (some ⟨G, 0, none⟩) m m)) R sv sx bv lv (S1 ++ setsN k1) m (orF2 (orF2 E G1.fol) G2.fol) b n (.slice (some ⟨g, o, none⟩) nl uc) (pn || kn) (.slice (some ⟨ga, 0, none⟩) m m) (.slice (some ⟨G, 0, none⟩) m m) (orF G1.first G2.first) (orF G1.last G2.last)) ∧ Below W3.heap.size W3 w' := fun V hV ga hga => (por_any (H4.out.1.under hV) (H4.out.1.under hV).la (H4.out.2.under hV).la hm).mono fun e w' ⟨G, h1, h2, h3⟩ => ⟨G, h1, (((((H4.out.1.under hV).under h3).set0 (pn || kn)).set1 ((hga.under h3).store)).set2 (h2.store.store)), hV.trans (h3.mono hV.size)⟩
      have HO2 := Lib.hid hO2
      clear hHC hHZ hO1 hO2
      have kk := Below.refl W3.heap.size W3
      have HT : Hid (eitherG G1 G2 = ⟨pn || kn, orF G1.first G2.first, orF G1.last G2.last, orF2 G1.fol G2.fol⟩) := Lib.hid (by unfold eitherG; rw [HPN.out.1, HPN.out.2])
      clear H4 x0 x1 x2 f0 f1 f2 hxl q0 q1 q2 hql
      clear HGE
      rcases pn with _ | _
      · simp only [Bool.false_or] at HO2 HT
        obtain ⟨x0, x1, x2, q0, q1, q2⟩ := HC.out _ kk
        obtain ⟨⟨f0, f1, f2⟩, hxl⟩ := HZ.out _ kk
        refine wp_region_held_drew (S := (fun V => (V.cell? ⟨c, 0, none⟩ = some (.bool kn) ∧ V.cell? ⟨c, 1, none⟩ = some (.slice fo m fc) ∧ V.cell? ⟨c, 2, none⟩ = some (.slice lo m lc)))) (by kernel_rfl) (HK.out _ kk.drew) (fun hHeld => ?_)
        refine wpAnyH_take (i := 0) (oi := { dst := some 120, op := Op.fieldAddr 128 (Operand.tmp 12) 0, type := 0, pos := _, after := #[], guard := none }) (v := ?v0) rfl (by kernel_rfl) (by kernel_rfl) (by kernel_rfl) (fun _ _ _ h => h) (Or.inl ⟨by rfl, ?h0⟩) (by assumption) ?r0
        case h0 => (intro w hSw; (try dsimp only at hSw); go_simp; (try with_reducible rfl))
        case r0 =>
          (try simp only [Act.put, List.setIfInBounds_toArray, List.set_cons_zero, List.set_cons_succ])
          refine wpAnyH_take (i := 6) (oi := { dst := some 126, op := Op.fieldAddr 128 (Operand.tmp 12) 1, type := 0, pos := _, after := #[], guard := none }) (v := ?v1) rfl (by kernel_rfl) (by kernel_rfl) (by kernel_rfl) (fun _ _ _ h => h) (Or.inl ⟨by rfl, ?h1⟩) (by assumption) ?r1
          case h1 => (intro w hSw; (try dsimp only at hSw); go_simp; (try with_reducible rfl))
          case r1 =>
            (try simp only [Act.put, List.setIfInBounds_toArray, List.set_cons_zero, List.set_cons_succ])
            refine wpAnyH_take (i := 8) (oi := { dst := some 128, op := Op.fieldAddr 128 (Operand.tmp 14) 1, type := 0, pos := _, after := #[], guard := none }) (v := ?v2) rfl (by kernel_rfl) (by kernel_rfl) (by kernel_rfl) (fun _ _ _ h => h) (Or.inl ⟨by rfl, ?h2⟩) (by assumption) ?r2
            case h2 => (intro w hSw; (try dsimp only at hSw); go_simp; (try with_reducible rfl))
            case r2 =>
              (try simp only [Act.put, List.setIfInBounds_toArray, List.set_cons_zero, List.set_cons_succ])
              refine wpAnyH_take (i := 9) (oi := { dst := some 129, op := Op.load 95 (Operand.tmp 128), type := 95, pos := _, after := #[{ on := 8, ground := Ground.data }], guard := none }) (v := ?v3) rfl (by kernel_rfl) (by kernel_rfl) (by kernel_rfl) (fun _ _ _ h => h) (Or.inl ⟨by rfl, ?h3⟩) (by assumption) ?r3
              case h3 => (intro w hSw; (try dsimp only at hSw); go_simp; (try with_reducible rfl))
              case r3 =>
                (try simp only [Act.put, List.setIfInBounds_toArray, List.set_cons_zero, List.set_cons_succ])
                refine wpAnyH_take (i := 11) (oi := { dst := some 131, op := Op.fieldAddr 128 (Operand.tmp 12) 2, type := 0, pos := _, after := #[], guard := none }) (v := ?v4) rfl (by kernel_rfl) (by kernel_rfl) (by kernel_rfl) (fun _ _ _ h => h) (Or.inl ⟨by rfl, ?h4⟩) (by assumption) ?r4
                case h4 => (intro w hSw; (try dsimp only at hSw); go_simp; (try with_reducible rfl))
                case r4 =>
                  (try simp only [Act.put, List.setIfInBounds_toArray, List.set_cons_zero, List.set_cons_succ])
                  refine wpAnyH_take (i := 13) (oi := { dst := some 133, op := Op.fieldAddr 128 (Operand.tmp 14) 2, type := 0, pos := _, after := #[], guard := none }) (v := ?v5) rfl (by kernel_rfl) (by kernel_rfl) (by kernel_rfl) (fun _ _ _ h => h) (Or.inl ⟨by rfl, ?h5⟩) (by assumption) ?r5
                  case h5 => (intro w hSw; (try dsimp only at hSw); go_simp; (try with_reducible rfl))
                  case r5 =>
                    (try simp only [Act.put, List.setIfInBounds_toArray, List.set_cons_zero, List.set_cons_succ])
                    refine wpAnyH_take (i := 14) (oi := { dst := some 134, op := Op.load 95 (Operand.tmp 133), type := 95, pos := _, after := #[{ on := 13, ground := Ground.data }], guard := none }) (v := ?v6) rfl (by kernel_rfl) (by kernel_rfl) (by kernel_rfl) (fun _ _ _ h => h) (Or.inl ⟨by rfl, ?h6⟩) (by assumption) ?r6
                    case h6 => (intro w hSw; (try dsimp only at hSw); go_simp; (try with_reducible rfl))
                    case r6 =>
                      (try simp only [Act.put, List.setIfInBounds_toArray, List.set_cons_zero, List.set_cons_succ])
                      refine wpAnyH_ready (rs := [1, 7, 12]) (by kernel_rfl) (by simp) ?_
                      refine AllReadyH.cons (o := { dst := some 121, op := Op.load 4 (Operand.tmp 120), type := 4, pos := _, after := #[{ on := 0, ground := Ground.data }], guard := none }) rfl (fun K hK => ?_) (AllReadyH.cons (o := { dst := some 127, op := Op.load 95 (Operand.tmp 126), type := 95, pos := _, after := #[{ on := 6, ground := Ground.data }], guard := none }) rfl (fun K hK => ?_) (AllReadyH.cons (o := { dst := some 132, op := Op.load 95 (Operand.tmp 131), type := 95, pos := _, after := #[{ on := 11, ground := Ground.data }], guard := none }) rfl (fun K hK => ?_) AllReadyH.nil))
                      · skip
                        go_simp
                        refine hK.out _ _ (hHeld) (fun hHeld => ?_)
                        clear hK K
                        (try simp only [Act.put, List.setIfInBounds_toArray, List.set_cons_zero, List.set_cons_succ])
                        refine wpAnyH_take (i := 2) (oi := { dst := some 122, op := Op.move (Operand.tmp 121), type := 4, pos := _, after := #[{ on := 1, ground := Ground.data }], guard := none }) (v := ?v7) rfl (by kernel_rfl) (by kernel_rfl) (by kernel_rfl) (fun _ _ _ h => h) (Or.inl ⟨by rfl, ?h7⟩) (by assumption) ?r7
                        case h7 => (intro w hSw; (try dsimp only at hSw); go_simp; (try with_reducible rfl))
                        case r7 =>
                          (try simp only [Act.put, List.setIfInBounds_toArray, List.set_cons_zero, List.set_cons_succ])
                          refine wpAnyH_take (i := 3) (oi := { dst := some 123, op := Op.fieldAddr 128 (Operand.tmp 14) 0, type := 0, pos := _, after := #[{ on := 2, ground := Ground.guard }], guard := some (2, false) }) (v := ?v8) rfl (by kernel_rfl) (by kernel_rfl) (by kernel_rfl) (fun _ _ _ h => h) (Or.inl ⟨by rfl, ?h8⟩) (by assumption) ?r8
                          case h8 => (intro w hSw; (try dsimp only at hSw); go_simp; (try with_reducible rfl))
                          case r8 =>
                            (try simp only [Act.put, List.setIfInBounds_toArray, List.set_cons_zero, List.set_cons_succ])
                            refine wpAnyH_take (i := 4) (oi := { dst := some 124, op := Op.load 4 (Operand.tmp 123), type := 4, pos := _, after := #[{ on := 3, ground := Ground.data }, { on := 2, ground := Ground.guard }], guard := some (2, false) }) (v := ?v9) rfl (by kernel_rfl) (by kernel_rfl) (by kernel_rfl) (fun _ _ _ h => h) (Or.inl ⟨by rfl, ?h9⟩) (by assumption) ?r9
                            case h9 => (intro w hSw; (try dsimp only at hSw); go_simp; (try with_reducible rfl))
                            case r9 =>
                              (try simp only [Act.put, List.setIfInBounds_toArray, List.set_cons_zero, List.set_cons_succ])
                              refine wpAnyH_take (i := 5) (oi := { dst := some 125, op := Op.pick (Operand.tmp 122) (Operand.const (Value.bool true)) (Operand.tmp 124), type := 4, pos := _, after := #[{ on := 2, ground := Ground.data }, { on := 4, ground := Ground.data }], guard := none }) (v := ?v10) rfl (by kernel_rfl) (by kernel_rfl) (by kernel_rfl) (fun _ _ _ h => h) (Or.inl ⟨by rfl, ?h10⟩) (by assumption) ?r10
                              case h10 => (intro w hSw; (try dsimp only at hSw); go_simp; (try with_reducible rfl))
                              case r10 =>
                                (try simp only [Act.put, List.setIfInBounds_toArray, List.set_cons_zero, List.set_cons_succ])
                                refine wpAnyH_ready (rs := [7, 12]) (by kernel_rfl) (by simp) ?_
                                refine AllReadyH.cons (o := { dst := some 127, op := Op.load 95 (Operand.tmp 126), type := 95, pos := _, after := #[{ on := 6, ground := Ground.data }], guard := none }) rfl (fun K hK => ?_) (AllReadyH.cons (o := { dst := some 132, op := Op.load 95 (Operand.tmp 131), type := 95, pos := _, after := #[{ on := 11, ground := Ground.data }], guard := none }) rfl (fun K hK => ?_) AllReadyH.nil)
                                · skip
                                  go_simp
                                  refine hK.out _ _ (hHeld) (fun hHeld => ?_)
                                  clear hK K
                                  (try simp only [Act.put, List.setIfInBounds_toArray, List.set_cons_zero, List.set_cons_succ])
                                  refine wpAnyH_ready (rs := [10, 12]) (by kernel_rfl) (by simp) ?_
                                  refine AllReadyH.cons (o := { dst := some 130, op := Op.call { callee := Callee.value (Operand.func 60), args := #[Operand.tmp 127, Operand.tmp 129], argTypes := #[95, 95] }, type := 95, pos := _, after := #[{ on := 7, ground := Ground.data }, { on := 9, ground := Ground.data }, { on := 2, ground := Ground.chain }], guard := none }) rfl (fun K hK => ?_) (AllReadyH.cons (o := { dst := some 132, op := Op.load 95 (Operand.tmp 131), type := 95, pos := _, after := #[{ on := 11, ground := Ground.data }], guard := none }) rfl (fun K hK => ?_) AllReadyH.nil)
                                  · skip
                                    go_simp
                                    go_at_call 60
                                    go_fit (HO1.out _ kk.drew)
                                    rintro e w5 ⟨Ga, rfl, hOa, kk⟩
                                    have HOa := Lib.hid hOa
                                    clear hOa x0 x1 x2 q0 q1 q2
                                    obtain ⟨x0, x1, x2, q0, q1, q2⟩ := HC.out _ kk
                                    (try go_wp2_with fail)
                                    refine hK.out _ _ (HK.out _ kk) (fun hHeld => ?_)
                                    clear hK K
                                    (try simp only [Act.put, List.setIfInBounds_toArray, List.set_cons_zero, List.set_cons_succ])
                                    refine wpAnyH_ready (rs := [12]) (by kernel_rfl) (by simp) ?_
                                    refine AllReadyH.cons (o := { dst := some 132, op := Op.load 95 (Operand.tmp 131), type := 95, pos := _, after := #[{ on := 11, ground := Ground.data }], guard := none }) rfl (fun K hK => ?_) AllReadyH.nil
                                    go_simp
                                    refine hK.out _ _ (hHeld) (fun hHeld => ?_)
                                    clear hK K
                                    (try simp only [Act.put, List.setIfInBounds_toArray, List.set_cons_zero, List.set_cons_succ])
                                    refine wpAnyH_ready (rs := [15]) (by kernel_rfl) (by simp) ?_
                                    refine AllReadyH.cons (o := { dst := some 135, op := Op.call { callee := Callee.value (Operand.func 60), args := #[Operand.tmp 132, Operand.tmp 134], argTypes := #[95, 95] }, type := 95, pos := _, after := #[{ on := 12, ground := Ground.data }, { on := 14, ground := Ground.data }, { on := 10, ground := Ground.chain }], guard := none }) rfl (fun K hK => ?_) AllReadyH.nil
                                    go_simp
                                    go_at_call 60
                                    go_fit (HO2.out _ kk Ga HOa.out)
                                    rintro e w6 ⟨Gb, rfl, hOb, kk⟩
                                    have H5 := Lib.hid hOb
                                    clear hOb x0 x1 x2 q0 q1 q2 f0 f1 f2 hxl
                                    obtain ⟨⟨f0, f1, f2⟩, hxl⟩ := HZ.out _ kk
                                    obtain ⟨x0, x1, x2, q0, q1, q2⟩ := HC.out _ kk
                                    (try go_wp2_with fail)
                                    refine hK.out _ _ (HK.out _ kk) (fun hHeld => ?_)
                                    clear hK K
                                    (try simp only [Act.put, List.setIfInBounds_toArray, List.set_cons_zero, List.set_cons_succ])
                                    refine wpAnyH_take (i := 16) (oi := { dst := some 136, op := Op.build 128 #[(0, Operand.tmp 125), (1, Operand.tmp 130), (2, Operand.tmp 135)], type := 128, pos := _, after := #[{ on := 5, ground := Ground.data }, { on := 10, ground := Ground.data }, { on := 15, ground := Ground.data }], guard := none }) (v := ?v11) rfl (by kernel_rfl) (by kernel_rfl) (by kernel_rfl) (fun _ _ _ h => h) (Or.inl ⟨by rfl, ?h11⟩) (by assumption) ?r11
                                    case h11 => (intro w hSw; (try dsimp only at hSw); go_simp; (try with_reducible rfl))
                                    case r11 =>
                                      (try simp only [Act.put, List.setIfInBounds_toArray, List.set_cons_zero, List.set_cons_succ])
                                      refine wpAnyH_ready (rs := [17]) (by kernel_rfl) (by simp) ?_
                                      refine AllReadyH.cons (o := { dst := none, op := Op.store 128 (Operand.tmp 12) (Operand.tmp 136), type := 0, pos := _, after := #[{ on := 16, ground := Ground.data }, { on := 15, ground := Ground.chain }, { on := 0, ground := Ground.phase }, { on := 1, ground := Ground.phase }, { on := 2, ground := Ground.phase }, { on := 3, ground := Ground.phase }, { on := 4, ground := Ground.phase }, { on := 5, ground := Ground.phase }, { on := 6, ground := Ground.phase }, { on := 7, ground := Ground.phase }, { on := 8, ground := Ground.phase }, { on := 9, ground := Ground.phase }, { on := 10, ground := Ground.phase }, { on := 11, ground := Ground.phase }, { on := 12, ground := Ground.phase }, { on := 13, ground := Ground.phase }, { on := 14, ground := Ground.phase }, { on := 15, ground := Ground.phase }, { on := 16, ground := Ground.phase }], guard := none }) rfl (fun K hK => ?_) AllReadyH.nil
                                      go_simp
                                      refine hK.out _ _ (HKS.out _ kk _ _ _) (fun hHeld => ?_)
                                      clear hK K
                                      (try simp only [Act.put, List.setIfInBounds_toArray, List.set_cons_zero, List.set_cons_succ])
                                      refine wpAnyH_done (by kernel_rfl) ?_ _
                                      clear HC HZ HK HKS HO1 HO2 x0 x1 x2 q0 q1 q2 f0 f1 f2 hxl
                                      go_wp2_with fail
                                      refine ⟨⟨i + 1, by go_num, hlt, ?_⟩, by simp [intOf] <;> omega⟩
                                      rw [HGS.out.1, HGS.out.2, HT.out]
                                      exact Lib.hid ⟨sx, _, _, H5.out.congr fun i j => by simp [orF2, Bool.or_assoc]⟩
                                  · skip
                                    go_simp
                                    refine hK.out _ _ (hHeld) (fun hHeld => ?_)
                                    clear hK K
                                    (try simp only [Act.put, List.setIfInBounds_toArray, List.set_cons_zero, List.set_cons_succ])
                                    refine wpAnyH_ready (rs := [10]) (by kernel_rfl) (by simp) ?_
                                    refine AllReadyH.cons (o := { dst := some 130, op := Op.call { callee := Callee.value (Operand.func 60), args := #[Operand.tmp 127, Operand.tmp 129], argTypes := #[95, 95] }, type := 95, pos := _, after := #[{ on := 7, ground := Ground.data }, { on := 9, ground := Ground.data }, { on := 2, ground := Ground.chain }], guard := none }) rfl (fun K hK => ?_) AllReadyH.nil
                                    go_simp
                                    go_at_call 60
                                    go_fit (HO1.out _ kk.drew)
                                    rintro e w5 ⟨Ga, rfl, hOa, kk⟩
                                    have HOa := Lib.hid hOa
                                    clear hOa x0 x1 x2 q0 q1 q2
                                    obtain ⟨x0, x1, x2, q0, q1, q2⟩ := HC.out _ kk
                                    (try go_wp2_with fail)
                                    refine hK.out _ _ (HK.out _ kk) (fun hHeld => ?_)
                                    clear hK K
                                    (try simp only [Act.put, List.setIfInBounds_toArray, List.set_cons_zero, List.set_cons_succ])
                                    refine wpAnyH_ready (rs := [15]) (by kernel_rfl) (by simp) ?_
                                    refine AllReadyH.cons (o := { dst := some 135, op := Op.call { callee := Callee.value (Operand.func 60), args := #[Operand.tmp 132, Operand.tmp 134], argTypes := #[95, 95] }, type := 95, pos := _, after := #[{ on := 12, ground := Ground.data }, { on := 14, ground := Ground.data }, { on := 10, ground := Ground.chain }], guard := none }) rfl (fun K hK => ?_) AllReadyH.nil
                                    go_simp
                                    go_at_call 60
                                    go_fit (HO2.out _ kk Ga HOa.out)
                                    rintro e w6 ⟨Gb, rfl, hOb, kk⟩
                                    have H5 := Lib.hid hOb
                                    clear hOb x0 x1 x2 q0 q1 q2 f0 f1 f2 hxl
                                    obtain ⟨⟨f0, f1, f2⟩, hxl⟩ := HZ.out _ kk
                                    obtain ⟨x0, x1, x2, q0, q1, q2⟩ := HC.out _ kk
                                    (try go_wp2_with fail)
                                    refine hK.out _ _ (HK.out _ kk) (fun hHeld => ?_)
                                    clear hK K
                                    (try simp only [Act.put, List.setIfInBounds_toArray, List.set_cons_zero, List.set_cons_succ])
                                    refine wpAnyH_take (i := 16) (oi := { dst := some 136, op := Op.build 128 #[(0, Operand.tmp 125), (1, Operand.tmp 130), (2, Operand.tmp 135)], type := 128, pos := _, after := #[{ on := 5, ground := Ground.data }, { on := 10, ground := Ground.data }, { on := 15, ground := Ground.data }], guard := none }) (v := ?v12) rfl (by kernel_rfl) (by kernel_rfl) (by kernel_rfl) (fun _ _ _ h => h) (Or.inl ⟨by rfl, ?h12⟩) (by assumption) ?r12
                                    case h12 => (intro w hSw; (try dsimp only at hSw); go_simp; (try with_reducible rfl))
                                    case r12 =>
                                      (try simp only [Act.put, List.setIfInBounds_toArray, List.set_cons_zero, List.set_cons_succ])
                                      refine wpAnyH_ready (rs := [17]) (by kernel_rfl) (by simp) ?_
                                      refine AllReadyH.cons (o := { dst := none, op := Op.store 128 (Operand.tmp 12) (Operand.tmp 136), type := 0, pos := _, after := #[{ on := 16, ground := Ground.data }, { on := 15, ground := Ground.chain }, { on := 0, ground := Ground.phase }, { on := 1, ground := Ground.phase }, { on := 2, ground := Ground.phase }, { on := 3, ground := Ground.phase }, { on := 4, ground := Ground.phase }, { on := 5, ground := Ground.phase }, { on := 6, ground := Ground.phase }, { on := 7, ground := Ground.phase }, { on := 8, ground := Ground.phase }, { on := 9, ground := Ground.phase }, { on := 10, ground := Ground.phase }, { on := 11, ground := Ground.phase }, { on := 12, ground := Ground.phase }, { on := 13, ground := Ground.phase }, { on := 14, ground := Ground.phase }, { on := 15, ground := Ground.phase }, { on := 16, ground := Ground.phase }], guard := none }) rfl (fun K hK => ?_) AllReadyH.nil
                                      go_simp
                                      refine hK.out _ _ (HKS.out _ kk _ _ _) (fun hHeld => ?_)
                                      clear hK K
                                      (try simp only [Act.put, List.setIfInBounds_toArray, List.set_cons_zero, List.set_cons_succ])
                                      refine wpAnyH_done (by kernel_rfl) ?_ _
                                      clear HC HZ HK HKS HO1 HO2 x0 x1 x2 q0 q1 q2 f0 f1 f2 hxl
                                      go_wp2_with fail
                                      refine ⟨⟨i + 1, by go_num, hlt, ?_⟩, by simp [intOf] <;> omega⟩
                                      rw [HGS.out.1, HGS.out.2, HT.out]
                                      exact Lib.hid ⟨sx, _, _, H5.out.congr fun i j => by simp [orF2, Bool.or_assoc]⟩
                                · skip
                                  go_simp
                                  refine hK.out _ _ (hHeld) (fun hHeld => ?_)
                                  clear hK K
                                  (try simp only [Act.put, List.setIfInBounds_toArray, List.set_cons_zero, List.set_cons_succ])
                                  refine wpAnyH_ready (rs := [7]) (by kernel_rfl) (by simp) ?_
                                  refine AllReadyH.cons (o := { dst := some 127, op := Op.load 95 (Operand.tmp 126), type := 95, pos := _, after := #[{ on := 6, ground := Ground.data }], guard := none }) rfl (fun K hK => ?_) AllReadyH.nil
                                  go_simp
                                  refine hK.out _ _ (hHeld) (fun hHeld => ?_)
                                  clear hK K
                                  (try simp only [Act.put, List.setIfInBounds_toArray, List.set_cons_zero, List.set_cons_succ])
                                  refine wpAnyH_ready (rs := [10]) (by kernel_rfl) (by simp) ?_
                                  refine AllReadyH.cons (o := { dst := some 130, op := Op.call { callee := Callee.value (Operand.func 60), args := #[Operand.tmp 127, Operand.tmp 129], argTypes := #[95, 95] }, type := 95, pos := _, after := #[{ on := 7, ground := Ground.data }, { on := 9, ground := Ground.data }, { on := 2, ground := Ground.chain }], guard := none }) rfl (fun K hK => ?_) AllReadyH.nil
                                  go_simp
                                  go_at_call 60
                                  go_fit (HO1.out _ kk.drew)
                                  rintro e w5 ⟨Ga, rfl, hOa, kk⟩
                                  have HOa := Lib.hid hOa
                                  clear hOa x0 x1 x2 q0 q1 q2
                                  obtain ⟨x0, x1, x2, q0, q1, q2⟩ := HC.out _ kk
                                  (try go_wp2_with fail)
                                  refine hK.out _ _ (HK.out _ kk) (fun hHeld => ?_)
                                  clear hK K
                                  (try simp only [Act.put, List.setIfInBounds_toArray, List.set_cons_zero, List.set_cons_succ])
                                  refine wpAnyH_ready (rs := [15]) (by kernel_rfl) (by simp) ?_
                                  refine AllReadyH.cons (o := { dst := some 135, op := Op.call { callee := Callee.value (Operand.func 60), args := #[Operand.tmp 132, Operand.tmp 134], argTypes := #[95, 95] }, type := 95, pos := _, after := #[{ on := 12, ground := Ground.data }, { on := 14, ground := Ground.data }, { on := 10, ground := Ground.chain }], guard := none }) rfl (fun K hK => ?_) AllReadyH.nil
                                  go_simp
                                  go_at_call 60
                                  go_fit (HO2.out _ kk Ga HOa.out)
                                  rintro e w6 ⟨Gb, rfl, hOb, kk⟩
                                  have H5 := Lib.hid hOb
                                  clear hOb x0 x1 x2 q0 q1 q2 f0 f1 f2 hxl
                                  obtain ⟨⟨f0, f1, f2⟩, hxl⟩ := HZ.out _ kk
                                  obtain ⟨x0, x1, x2, q0, q1, q2⟩ := HC.out _ kk
                                  (try go_wp2_with fail)
                                  refine hK.out _ _ (HK.out _ kk) (fun hHeld => ?_)
                                  clear hK K
                                  (try simp only [Act.put, List.setIfInBounds_toArray, List.set_cons_zero, List.set_cons_succ])
                                  refine wpAnyH_take (i := 16) (oi := { dst := some 136, op := Op.build 128 #[(0, Operand.tmp 125), (1, Operand.tmp 130), (2, Operand.tmp 135)], type := 128, pos := _, after := #[{ on := 5, ground := Ground.data }, { on := 10, ground := Ground.data }, { on := 15, ground := Ground.data }], guard := none }) (v := ?v13) rfl (by kernel_rfl) (by kernel_rfl) (by kernel_rfl) (fun _ _ _ h => h) (Or.inl ⟨by rfl, ?h13⟩) (by assumption) ?r13
                                  case h13 => (intro w hSw; (try dsimp only at hSw); go_simp; (try with_reducible rfl))
                                  case r13 =>
                                    (try simp only [Act.put, List.setIfInBounds_toArray, List.set_cons_zero, List.set_cons_succ])
                                    refine wpAnyH_ready (rs := [17]) (by kernel_rfl) (by simp) ?_
                                    refine AllReadyH.cons (o := { dst := none, op := Op.store 128 (Operand.tmp 12) (Operand.tmp 136), type := 0, pos := _, after := #[{ on := 16, ground := Ground.data }, { on := 15, ground := Ground.chain }, { on := 0, ground := Ground.phase }, { on := 1, ground := Ground.phase }, { on := 2, ground := Ground.phase }, { on := 3, ground := Ground.phase }, { on := 4, ground := Ground.phase }, { on := 5, ground := Ground.phase }, { on := 6, ground := Ground.phase }, { on := 7, ground := Ground.phase }, { on := 8, ground := Ground.phase }, { on := 9, ground := Ground.phase }, { on := 10, ground := Ground.phase }, { on := 11, ground := Ground.phase }, { on := 12, ground := Ground.phase }, { on := 13, ground := Ground.phase }, { on := 14, ground := Ground.phase }, { on := 15, ground := Ground.phase }, { on := 16, ground := Ground.phase }], guard := none }) rfl (fun K hK => ?_) AllReadyH.nil
                                    go_simp
                                    refine hK.out _ _ (HKS.out _ kk _ _ _) (fun hHeld => ?_)
                                    clear hK K
                                    (try simp only [Act.put, List.setIfInBounds_toArray, List.set_cons_zero, List.set_cons_succ])
                                    refine wpAnyH_done (by kernel_rfl) ?_ _
                                    clear HC HZ HK HKS HO1 HO2 x0 x1 x2 q0 q1 q2 f0 f1 f2 hxl
                                    go_wp2_with fail
                                    refine ⟨⟨i + 1, by go_num, hlt, ?_⟩, by simp [intOf] <;> omega⟩
                                    rw [HGS.out.1, HGS.out.2, HT.out]
                                    exact Lib.hid ⟨sx, _, _, H5.out.congr fun i j => by simp [orF2, Bool.or_assoc]⟩
                      · skip
                        go_simp
                        refine hK.out _ _ (hHeld) (fun hHeld => ?_)
                        clear hK K
                        (try simp only [Act.put, List.setIfInBounds_toArray, List.set_cons_zero, List.set_cons_succ])
                        refine wpAnyH_ready (rs := [1, 12]) (by kernel_rfl) (by simp) ?_
                        refine AllReadyH.cons (o := { dst := some 121, op := Op.load 4 (Operand.tmp 120), type := 4, pos := _, after := #[{ on := 0, ground := Ground.data }], guard := none }) rfl (fun K hK => ?_) (AllReadyH.cons (o := { dst := some 132, op := Op.load 95 (Operand.tmp 131), type := 95, pos := _, after := #[{ on := 11, ground := Ground.data }], guard := none }) rfl (fun K hK => ?_) AllReadyH.nil)
                        · skip
                          go_simp
                          refine hK.out _ _ (hHeld) (fun hHeld => ?_)
                          clear hK K
                          (try simp only [Act.put, List.setIfInBounds_toArray, List.set_cons_zero, List.set_cons_succ])
                          refine wpAnyH_take (i := 2) (oi := { dst := some 122, op := Op.move (Operand.tmp 121), type := 4, pos := _, after := #[{ on := 1, ground := Ground.data }], guard := none }) (v := ?v14) rfl (by kernel_rfl) (by kernel_rfl) (by kernel_rfl) (fun _ _ _ h => h) (Or.inl ⟨by rfl, ?h14⟩) (by assumption) ?r14
                          case h14 => (intro w hSw; (try dsimp only at hSw); go_simp; (try with_reducible rfl))
                          case r14 =>
                            (try simp only [Act.put, List.setIfInBounds_toArray, List.set_cons_zero, List.set_cons_succ])
                            refine wpAnyH_take (i := 3) (oi := { dst := some 123, op := Op.fieldAddr 128 (Operand.tmp 14) 0, type := 0, pos := _, after := #[{ on := 2, ground := Ground.guard }], guard := some (2, false) }) (v := ?v15) rfl (by kernel_rfl) (by kernel_rfl) (by kernel_rfl) (fun _ _ _ h => h) (Or.inl ⟨by rfl, ?h15⟩) (by assumption) ?r15
                            case h15 => (intro w hSw; (try dsimp only at hSw); go_simp; (try with_reducible rfl))
                            case r15 =>
                              (try simp only [Act.put, List.setIfInBounds_toArray, List.set_cons_zero, List.set_cons_succ])
                              refine wpAnyH_take (i := 4) (oi := { dst := some 124, op := Op.load 4 (Operand.tmp 123), type := 4, pos := _, after := #[{ on := 3, ground := Ground.data }, { on := 2, ground := Ground.guard }], guard := some (2, false) }) (v := ?v16) rfl (by kernel_rfl) (by kernel_rfl) (by kernel_rfl) (fun _ _ _ h => h) (Or.inl ⟨by rfl, ?h16⟩) (by assumption) ?r16
                              case h16 => (intro w hSw; (try dsimp only at hSw); go_simp; (try with_reducible rfl))
                              case r16 =>
                                (try simp only [Act.put, List.setIfInBounds_toArray, List.set_cons_zero, List.set_cons_succ])
                                refine wpAnyH_take (i := 5) (oi := { dst := some 125, op := Op.pick (Operand.tmp 122) (Operand.const (Value.bool true)) (Operand.tmp 124), type := 4, pos := _, after := #[{ on := 2, ground := Ground.data }, { on := 4, ground := Ground.data }], guard := none }) (v := ?v17) rfl (by kernel_rfl) (by kernel_rfl) (by kernel_rfl) (fun _ _ _ h => h) (Or.inl ⟨by rfl, ?h17⟩) (by assumption) ?r17
                                case h17 => (intro w hSw; (try dsimp only at hSw); go_simp; (try with_reducible rfl))
                                case r17 =>
                                  (try simp only [Act.put, List.setIfInBounds_toArray, List.set_cons_zero, List.set_cons_succ])
                                  refine wpAnyH_ready (rs := [10, 12]) (by kernel_rfl) (by simp) ?_
                                  refine AllReadyH.cons (o := { dst := some 130, op := Op.call { callee := Callee.value (Operand.func 60), args := #[Operand.tmp 127, Operand.tmp 129], argTypes := #[95, 95] }, type := 95, pos := _, after := #[{ on := 7, ground := Ground.data }, { on := 9, ground := Ground.data }, { on := 2, ground := Ground.chain }], guard := none }) rfl (fun K hK => ?_) (AllReadyH.cons (o := { dst := some 132, op := Op.load 95 (Operand.tmp 131), type := 95, pos := _, after := #[{ on := 11, ground := Ground.data }], guard := none }) rfl (fun K hK => ?_) AllReadyH.nil)
                                  · skip
                                    go_simp
                                    go_at_call 60
                                    go_fit (HO1.out _ kk.drew)
                                    rintro e w5 ⟨Ga, rfl, hOa, kk⟩
                                    have HOa := Lib.hid hOa
                                    clear hOa x0 x1 x2 q0 q1 q2
                                    obtain ⟨x0, x1, x2, q0, q1, q2⟩ := HC.out _ kk
                                    (try go_wp2_with fail)
                                    refine hK.out _ _ (HK.out _ kk) (fun hHeld => ?_)
                                    clear hK K
                                    (try simp only [Act.put, List.setIfInBounds_toArray, List.set_cons_zero, List.set_cons_succ])
                                    refine wpAnyH_ready (rs := [12]) (by kernel_rfl) (by simp) ?_
                                    refine AllReadyH.cons (o := { dst := some 132, op := Op.load 95 (Operand.tmp 131), type := 95, pos := _, after := #[{ on := 11, ground := Ground.data }], guard := none }) rfl (fun K hK => ?_) AllReadyH.nil
                                    go_simp
                                    refine hK.out _ _ (hHeld) (fun hHeld => ?_)
                                    clear hK K
                                    (try simp only [Act.put, List.setIfInBounds_toArray, List.set_cons_zero, List.set_cons_succ])
                                    refine wpAnyH_ready (rs := [15]) (by kernel_rfl) (by simp) ?_
                                    refine AllReadyH.cons (o := { dst := some 135, op := Op.call { callee := Callee.value (Operand.func 60), args := #[Operand.tmp 132, Operand.tmp 134], argTypes := #[95, 95] }, type := 95, pos := _, after := #[{ on := 12, ground := Ground.data }, { on := 14, ground := Ground.data }, { on := 10, ground := Ground.chain }], guard := none }) rfl (fun K hK => ?_) AllReadyH.nil
                                    go_simp
                                    go_at_call 60
                                    go_fit (HO2.out _ kk Ga HOa.out)
                                    rintro e w6 ⟨Gb, rfl, hOb, kk⟩
                                    have H5 := Lib.hid hOb
                                    clear hOb x0 x1 x2 q0 q1 q2 f0 f1 f2 hxl
                                    obtain ⟨⟨f0, f1, f2⟩, hxl⟩ := HZ.out _ kk
                                    obtain ⟨x0, x1, x2, q0, q1, q2⟩ := HC.out _ kk
                                    (try go_wp2_with fail)
                                    refine hK.out _ _ (HK.out _ kk) (fun hHeld => ?_)
                                    clear hK K
                                    (try simp only [Act.put, List.setIfInBounds_toArray, List.set_cons_zero, List.set_cons_succ])
                                    refine wpAnyH_take (i := 16) (oi := { dst := some 136, op := Op.build 128 #[(0, Operand.tmp 125), (1, Operand.tmp 130), (2, Operand.tmp 135)], type := 128, pos := _, after := #[{ on := 5, ground := Ground.data }, { on := 10, ground := Ground.data }, { on := 15, ground := Ground.data }], guard := none }) (v := ?v18) rfl (by kernel_rfl) (by kernel_rfl) (by kernel_rfl) (fun _ _ _ h => h) (Or.inl ⟨by rfl, ?h18⟩) (by assumption) ?r18
                                    case h18 => (intro w hSw; (try dsimp only at hSw); go_simp; (try with_reducible rfl))
                                    case r18 =>
                                      (try simp only [Act.put, List.setIfInBounds_toArray, List.set_cons_zero, List.set_cons_succ])
                                      refine wpAnyH_ready (rs := [17]) (by kernel_rfl) (by simp) ?_
                                      refine AllReadyH.cons (o := { dst := none, op := Op.store 128 (Operand.tmp 12) (Operand.tmp 136), type := 0, pos := _, after := #[{ on := 16, ground := Ground.data }, { on := 15, ground := Ground.chain }, { on := 0, ground := Ground.phase }, { on := 1, ground := Ground.phase }, { on := 2, ground := Ground.phase }, { on := 3, ground := Ground.phase }, { on := 4, ground := Ground.phase }, { on := 5, ground := Ground.phase }, { on := 6, ground := Ground.phase }, { on := 7, ground := Ground.phase }, { on := 8, ground := Ground.phase }, { on := 9, ground := Ground.phase }, { on := 10, ground := Ground.phase }, { on := 11, ground := Ground.phase }, { on := 12, ground := Ground.phase }, { on := 13, ground := Ground.phase }, { on := 14, ground := Ground.phase }, { on := 15, ground := Ground.phase }, { on := 16, ground := Ground.phase }], guard := none }) rfl (fun K hK => ?_) AllReadyH.nil
                                      go_simp
                                      refine hK.out _ _ (HKS.out _ kk _ _ _) (fun hHeld => ?_)
                                      clear hK K
                                      (try simp only [Act.put, List.setIfInBounds_toArray, List.set_cons_zero, List.set_cons_succ])
                                      refine wpAnyH_done (by kernel_rfl) ?_ _
                                      clear HC HZ HK HKS HO1 HO2 x0 x1 x2 q0 q1 q2 f0 f1 f2 hxl
                                      go_wp2_with fail
                                      refine ⟨⟨i + 1, by go_num, hlt, ?_⟩, by simp [intOf] <;> omega⟩
                                      rw [HGS.out.1, HGS.out.2, HT.out]
                                      exact Lib.hid ⟨sx, _, _, H5.out.congr fun i j => by simp [orF2, Bool.or_assoc]⟩
                                  · skip
                                    go_simp
                                    refine hK.out _ _ (hHeld) (fun hHeld => ?_)
                                    clear hK K
                                    (try simp only [Act.put, List.setIfInBounds_toArray, List.set_cons_zero, List.set_cons_succ])
                                    refine wpAnyH_ready (rs := [10]) (by kernel_rfl) (by simp) ?_
                                    refine AllReadyH.cons (o := { dst := some 130, op := Op.call { callee := Callee.value (Operand.func 60), args := #[Operand.tmp 127, Operand.tmp 129], argTypes := #[95, 95] }, type := 95, pos := _, after := #[{ on := 7, ground := Ground.data }, { on := 9, ground := Ground.data }, { on := 2, ground := Ground.chain }], guard := none }) rfl (fun K hK => ?_) AllReadyH.nil
                                    go_simp
                                    go_at_call 60
                                    go_fit (HO1.out _ kk.drew)
                                    rintro e w5 ⟨Ga, rfl, hOa, kk⟩
                                    have HOa := Lib.hid hOa
                                    clear hOa x0 x1 x2 q0 q1 q2
                                    obtain ⟨x0, x1, x2, q0, q1, q2⟩ := HC.out _ kk
                                    (try go_wp2_with fail)
                                    refine hK.out _ _ (HK.out _ kk) (fun hHeld => ?_)
                                    clear hK K
                                    (try simp only [Act.put, List.setIfInBounds_toArray, List.set_cons_zero, List.set_cons_succ])
                                    refine wpAnyH_ready (rs := [15]) (by kernel_rfl) (by simp) ?_
                                    refine AllReadyH.cons (o := { dst := some 135, op := Op.call { callee := Callee.value (Operand.func 60), args := #[Operand.tmp 132, Operand.tmp 134], argTypes := #[95, 95] }, type := 95, pos := _, after := #[{ on := 12, ground := Ground.data }, { on := 14, ground := Ground.data }, { on := 10, ground := Ground.chain }], guard := none }) rfl (fun K hK => ?_) AllReadyH.nil
                                    go_simp
                                    go_at_call 60
                                    go_fit (HO2.out _ kk Ga HOa.out)
                                    rintro e w6 ⟨Gb, rfl, hOb, kk⟩
                                    have H5 := Lib.hid hOb
                                    clear hOb x0 x1 x2 q0 q1 q2 f0 f1 f2 hxl
                                    obtain ⟨⟨f0, f1, f2⟩, hxl⟩ := HZ.out _ kk
                                    obtain ⟨x0, x1, x2, q0, q1, q2⟩ := HC.out _ kk
                                    (try go_wp2_with fail)
                                    refine hK.out _ _ (HK.out _ kk) (fun hHeld => ?_)
                                    clear hK K
                                    (try simp only [Act.put, List.setIfInBounds_toArray, List.set_cons_zero, List.set_cons_succ])
                                    refine wpAnyH_take (i := 16) (oi := { dst := some 136, op := Op.build 128 #[(0, Operand.tmp 125), (1, Operand.tmp 130), (2, Operand.tmp 135)], type := 128, pos := _, after := #[{ on := 5, ground := Ground.data }, { on := 10, ground := Ground.data }, { on := 15, ground := Ground.data }], guard := none }) (v := ?v19) rfl (by kernel_rfl) (by kernel_rfl) (by kernel_rfl) (fun _ _ _ h => h) (Or.inl ⟨by rfl, ?h19⟩) (by assumption) ?r19
                                    case h19 => (intro w hSw; (try dsimp only at hSw); go_simp; (try with_reducible rfl))
                                    case r19 =>
                                      (try simp only [Act.put, List.setIfInBounds_toArray, List.set_cons_zero, List.set_cons_succ])
                                      refine wpAnyH_ready (rs := [17]) (by kernel_rfl) (by simp) ?_
                                      refine AllReadyH.cons (o := { dst := none, op := Op.store 128 (Operand.tmp 12) (Operand.tmp 136), type := 0, pos := _, after := #[{ on := 16, ground := Ground.data }, { on := 15, ground := Ground.chain }, { on := 0, ground := Ground.phase }, { on := 1, ground := Ground.phase }, { on := 2, ground := Ground.phase }, { on := 3, ground := Ground.phase }, { on := 4, ground := Ground.phase }, { on := 5, ground := Ground.phase }, { on := 6, ground := Ground.phase }, { on := 7, ground := Ground.phase }, { on := 8, ground := Ground.phase }, { on := 9, ground := Ground.phase }, { on := 10, ground := Ground.phase }, { on := 11, ground := Ground.phase }, { on := 12, ground := Ground.phase }, { on := 13, ground := Ground.phase }, { on := 14, ground := Ground.phase }, { on := 15, ground := Ground.phase }, { on := 16, ground := Ground.phase }], guard := none }) rfl (fun K hK => ?_) AllReadyH.nil
                                      go_simp
                                      refine hK.out _ _ (HKS.out _ kk _ _ _) (fun hHeld => ?_)
                                      clear hK K
                                      (try simp only [Act.put, List.setIfInBounds_toArray, List.set_cons_zero, List.set_cons_succ])
                                      refine wpAnyH_done (by kernel_rfl) ?_ _
                                      clear HC HZ HK HKS HO1 HO2 x0 x1 x2 q0 q1 q2 f0 f1 f2 hxl
                                      go_wp2_with fail
                                      refine ⟨⟨i + 1, by go_num, hlt, ?_⟩, by simp [intOf] <;> omega⟩
                                      rw [HGS.out.1, HGS.out.2, HT.out]
                                      exact Lib.hid ⟨sx, _, _, H5.out.congr fun i j => by simp [orF2, Bool.or_assoc]⟩
                        · skip
                          go_simp
                          refine hK.out _ _ (hHeld) (fun hHeld => ?_)
                          clear hK K
                          (try simp only [Act.put, List.setIfInBounds_toArray, List.set_cons_zero, List.set_cons_succ])
                          refine wpAnyH_ready (rs := [1]) (by kernel_rfl) (by simp) ?_
                          refine AllReadyH.cons (o := { dst := some 121, op := Op.load 4 (Operand.tmp 120), type := 4, pos := _, after := #[{ on := 0, ground := Ground.data }], guard := none }) rfl (fun K hK => ?_) AllReadyH.nil
                          go_simp
                          refine hK.out _ _ (hHeld) (fun hHeld => ?_)
                          clear hK K
                          (try simp only [Act.put, List.setIfInBounds_toArray, List.set_cons_zero, List.set_cons_succ])
                          refine wpAnyH_take (i := 2) (oi := { dst := some 122, op := Op.move (Operand.tmp 121), type := 4, pos := _, after := #[{ on := 1, ground := Ground.data }], guard := none }) (v := ?v20) rfl (by kernel_rfl) (by kernel_rfl) (by kernel_rfl) (fun _ _ _ h => h) (Or.inl ⟨by rfl, ?h20⟩) (by assumption) ?r20
                          case h20 => (intro w hSw; (try dsimp only at hSw); go_simp; (try with_reducible rfl))
                          case r20 =>
                            (try simp only [Act.put, List.setIfInBounds_toArray, List.set_cons_zero, List.set_cons_succ])
                            refine wpAnyH_take (i := 3) (oi := { dst := some 123, op := Op.fieldAddr 128 (Operand.tmp 14) 0, type := 0, pos := _, after := #[{ on := 2, ground := Ground.guard }], guard := some (2, false) }) (v := ?v21) rfl (by kernel_rfl) (by kernel_rfl) (by kernel_rfl) (fun _ _ _ h => h) (Or.inl ⟨by rfl, ?h21⟩) (by assumption) ?r21
                            case h21 => (intro w hSw; (try dsimp only at hSw); go_simp; (try with_reducible rfl))
                            case r21 =>
                              (try simp only [Act.put, List.setIfInBounds_toArray, List.set_cons_zero, List.set_cons_succ])
                              refine wpAnyH_take (i := 4) (oi := { dst := some 124, op := Op.load 4 (Operand.tmp 123), type := 4, pos := _, after := #[{ on := 3, ground := Ground.data }, { on := 2, ground := Ground.guard }], guard := some (2, false) }) (v := ?v22) rfl (by kernel_rfl) (by kernel_rfl) (by kernel_rfl) (fun _ _ _ h => h) (Or.inl ⟨by rfl, ?h22⟩) (by assumption) ?r22
                              case h22 => (intro w hSw; (try dsimp only at hSw); go_simp; (try with_reducible rfl))
                              case r22 =>
                                (try simp only [Act.put, List.setIfInBounds_toArray, List.set_cons_zero, List.set_cons_succ])
                                refine wpAnyH_take (i := 5) (oi := { dst := some 125, op := Op.pick (Operand.tmp 122) (Operand.const (Value.bool true)) (Operand.tmp 124), type := 4, pos := _, after := #[{ on := 2, ground := Ground.data }, { on := 4, ground := Ground.data }], guard := none }) (v := ?v23) rfl (by kernel_rfl) (by kernel_rfl) (by kernel_rfl) (fun _ _ _ h => h) (Or.inl ⟨by rfl, ?h23⟩) (by assumption) ?r23
                                case h23 => (intro w hSw; (try dsimp only at hSw); go_simp; (try with_reducible rfl))
                                case r23 =>
                                  (try simp only [Act.put, List.setIfInBounds_toArray, List.set_cons_zero, List.set_cons_succ])
                                  refine wpAnyH_ready (rs := [10]) (by kernel_rfl) (by simp) ?_
                                  refine AllReadyH.cons (o := { dst := some 130, op := Op.call { callee := Callee.value (Operand.func 60), args := #[Operand.tmp 127, Operand.tmp 129], argTypes := #[95, 95] }, type := 95, pos := _, after := #[{ on := 7, ground := Ground.data }, { on := 9, ground := Ground.data }, { on := 2, ground := Ground.chain }], guard := none }) rfl (fun K hK => ?_) AllReadyH.nil
                                  go_simp
                                  go_at_call 60
                                  go_fit (HO1.out _ kk.drew)
                                  rintro e w5 ⟨Ga, rfl, hOa, kk⟩
                                  have HOa := Lib.hid hOa
                                  clear hOa x0 x1 x2 q0 q1 q2
                                  obtain ⟨x0, x1, x2, q0, q1, q2⟩ := HC.out _ kk
                                  (try go_wp2_with fail)
                                  refine hK.out _ _ (HK.out _ kk) (fun hHeld => ?_)
                                  clear hK K
                                  (try simp only [Act.put, List.setIfInBounds_toArray, List.set_cons_zero, List.set_cons_succ])
                                  refine wpAnyH_ready (rs := [15]) (by kernel_rfl) (by simp) ?_
                                  refine AllReadyH.cons (o := { dst := some 135, op := Op.call { callee := Callee.value (Operand.func 60), args := #[Operand.tmp 132, Operand.tmp 134], argTypes := #[95, 95] }, type := 95, pos := _, after := #[{ on := 12, ground := Ground.data }, { on := 14, ground := Ground.data }, { on := 10, ground := Ground.chain }], guard := none }) rfl (fun K hK => ?_) AllReadyH.nil
                                  go_simp
                                  go_at_call 60
                                  go_fit (HO2.out _ kk Ga HOa.out)
                                  rintro e w6 ⟨Gb, rfl, hOb, kk⟩
                                  have H5 := Lib.hid hOb
                                  clear hOb x0 x1 x2 q0 q1 q2 f0 f1 f2 hxl
                                  obtain ⟨⟨f0, f1, f2⟩, hxl⟩ := HZ.out _ kk
                                  obtain ⟨x0, x1, x2, q0, q1, q2⟩ := HC.out _ kk
                                  (try go_wp2_with fail)
                                  refine hK.out _ _ (HK.out _ kk) (fun hHeld => ?_)
                                  clear hK K
                                  (try simp only [Act.put, List.setIfInBounds_toArray, List.set_cons_zero, List.set_cons_succ])
                                  refine wpAnyH_take (i := 16) (oi := { dst := some 136, op := Op.build 128 #[(0, Operand.tmp 125), (1, Operand.tmp 130), (2, Operand.tmp 135)], type := 128, pos := _, after := #[{ on := 5, ground := Ground.data }, { on := 10, ground := Ground.data }, { on := 15, ground := Ground.data }], guard := none }) (v := ?v24) rfl (by kernel_rfl) (by kernel_rfl) (by kernel_rfl) (fun _ _ _ h => h) (Or.inl ⟨by rfl, ?h24⟩) (by assumption) ?r24
                                  case h24 => (intro w hSw; (try dsimp only at hSw); go_simp; (try with_reducible rfl))
                                  case r24 =>
                                    (try simp only [Act.put, List.setIfInBounds_toArray, List.set_cons_zero, List.set_cons_succ])
                                    refine wpAnyH_ready (rs := [17]) (by kernel_rfl) (by simp) ?_
                                    refine AllReadyH.cons (o := { dst := none, op := Op.store 128 (Operand.tmp 12) (Operand.tmp 136), type := 0, pos := _, after := #[{ on := 16, ground := Ground.data }, { on := 15, ground := Ground.chain }, { on := 0, ground := Ground.phase }, { on := 1, ground := Ground.phase }, { on := 2, ground := Ground.phase }, { on := 3, ground := Ground.phase }, { on := 4, ground := Ground.phase }, { on := 5, ground := Ground.phase }, { on := 6, ground := Ground.phase }, { on := 7, ground := Ground.phase }, { on := 8, ground := Ground.phase }, { on := 9, ground := Ground.phase }, { on := 10, ground := Ground.phase }, { on := 11, ground := Ground.phase }, { on := 12, ground := Ground.phase }, { on := 13, ground := Ground.phase }, { on := 14, ground := Ground.phase }, { on := 15, ground := Ground.phase }, { on := 16, ground := Ground.phase }], guard := none }) rfl (fun K hK => ?_) AllReadyH.nil
                                    go_simp
                                    refine hK.out _ _ (HKS.out _ kk _ _ _) (fun hHeld => ?_)
                                    clear hK K
                                    (try simp only [Act.put, List.setIfInBounds_toArray, List.set_cons_zero, List.set_cons_succ])
                                    refine wpAnyH_done (by kernel_rfl) ?_ _
                                    clear HC HZ HK HKS HO1 HO2 x0 x1 x2 q0 q1 q2 f0 f1 f2 hxl
                                    go_wp2_with fail
                                    refine ⟨⟨i + 1, by go_num, hlt, ?_⟩, by simp [intOf] <;> omega⟩
                                    rw [HGS.out.1, HGS.out.2, HT.out]
                                    exact Lib.hid ⟨sx, _, _, H5.out.congr fun i j => by simp [orF2, Bool.or_assoc]⟩
                      · skip
                        go_simp
                        refine hK.out _ _ (hHeld) (fun hHeld => ?_)
                        clear hK K
                        (try simp only [Act.put, List.setIfInBounds_toArray, List.set_cons_zero, List.set_cons_succ])
                        refine wpAnyH_ready (rs := [1, 7]) (by kernel_rfl) (by simp) ?_
                        refine AllReadyH.cons (o := { dst := some 121, op := Op.load 4 (Operand.tmp 120), type := 4, pos := _, after := #[{ on := 0, ground := Ground.data }], guard := none }) rfl (fun K hK => ?_) (AllReadyH.cons (o := { dst := some 127, op := Op.load 95 (Operand.tmp 126), type := 95, pos := _, after := #[{ on := 6, ground := Ground.data }], guard := none }) rfl (fun K hK => ?_) AllReadyH.nil)
                        · skip
                          go_simp
                          refine hK.out _ _ (hHeld) (fun hHeld => ?_)
                          clear hK K
                          (try simp only [Act.put, List.setIfInBounds_toArray, List.set_cons_zero, List.set_cons_succ])
                          refine wpAnyH_take (i := 2) (oi := { dst := some 122, op := Op.move (Operand.tmp 121), type := 4, pos := _, after := #[{ on := 1, ground := Ground.data }], guard := none }) (v := ?v25) rfl (by kernel_rfl) (by kernel_rfl) (by kernel_rfl) (fun _ _ _ h => h) (Or.inl ⟨by rfl, ?h25⟩) (by assumption) ?r25
                          case h25 => (intro w hSw; (try dsimp only at hSw); go_simp; (try with_reducible rfl))
                          case r25 =>
                            (try simp only [Act.put, List.setIfInBounds_toArray, List.set_cons_zero, List.set_cons_succ])
                            refine wpAnyH_take (i := 3) (oi := { dst := some 123, op := Op.fieldAddr 128 (Operand.tmp 14) 0, type := 0, pos := _, after := #[{ on := 2, ground := Ground.guard }], guard := some (2, false) }) (v := ?v26) rfl (by kernel_rfl) (by kernel_rfl) (by kernel_rfl) (fun _ _ _ h => h) (Or.inl ⟨by rfl, ?h26⟩) (by assumption) ?r26
                            case h26 => (intro w hSw; (try dsimp only at hSw); go_simp; (try with_reducible rfl))
                            case r26 =>
                              (try simp only [Act.put, List.setIfInBounds_toArray, List.set_cons_zero, List.set_cons_succ])
                              refine wpAnyH_take (i := 4) (oi := { dst := some 124, op := Op.load 4 (Operand.tmp 123), type := 4, pos := _, after := #[{ on := 3, ground := Ground.data }, { on := 2, ground := Ground.guard }], guard := some (2, false) }) (v := ?v27) rfl (by kernel_rfl) (by kernel_rfl) (by kernel_rfl) (fun _ _ _ h => h) (Or.inl ⟨by rfl, ?h27⟩) (by assumption) ?r27
                              case h27 => (intro w hSw; (try dsimp only at hSw); go_simp; (try with_reducible rfl))
                              case r27 =>
                                (try simp only [Act.put, List.setIfInBounds_toArray, List.set_cons_zero, List.set_cons_succ])
                                refine wpAnyH_take (i := 5) (oi := { dst := some 125, op := Op.pick (Operand.tmp 122) (Operand.const (Value.bool true)) (Operand.tmp 124), type := 4, pos := _, after := #[{ on := 2, ground := Ground.data }, { on := 4, ground := Ground.data }], guard := none }) (v := ?v28) rfl (by kernel_rfl) (by kernel_rfl) (by kernel_rfl) (fun _ _ _ h => h) (Or.inl ⟨by rfl, ?h28⟩) (by assumption) ?r28
                                case h28 => (intro w hSw; (try dsimp only at hSw); go_simp; (try with_reducible rfl))
                                case r28 =>
                                  (try simp only [Act.put, List.setIfInBounds_toArray, List.set_cons_zero, List.set_cons_succ])
                                  refine wpAnyH_ready (rs := [7]) (by kernel_rfl) (by simp) ?_
                                  refine AllReadyH.cons (o := { dst := some 127, op := Op.load 95 (Operand.tmp 126), type := 95, pos := _, after := #[{ on := 6, ground := Ground.data }], guard := none }) rfl (fun K hK => ?_) AllReadyH.nil
                                  go_simp
                                  refine hK.out _ _ (hHeld) (fun hHeld => ?_)
                                  clear hK K
                                  (try simp only [Act.put, List.setIfInBounds_toArray, List.set_cons_zero, List.set_cons_succ])
                                  refine wpAnyH_ready (rs := [10]) (by kernel_rfl) (by simp) ?_
                                  refine AllReadyH.cons (o := { dst := some 130, op := Op.call { callee := Callee.value (Operand.func 60), args := #[Operand.tmp 127, Operand.tmp 129], argTypes := #[95, 95] }, type := 95, pos := _, after := #[{ on := 7, ground := Ground.data }, { on := 9, ground := Ground.data }, { on := 2, ground := Ground.chain }], guard := none }) rfl (fun K hK => ?_) AllReadyH.nil
                                  go_simp
                                  go_at_call 60
                                  go_fit (HO1.out _ kk.drew)
                                  rintro e w5 ⟨Ga, rfl, hOa, kk⟩
                                  have HOa := Lib.hid hOa
                                  clear hOa x0 x1 x2 q0 q1 q2
                                  obtain ⟨x0, x1, x2, q0, q1, q2⟩ := HC.out _ kk
                                  (try go_wp2_with fail)
                                  refine hK.out _ _ (HK.out _ kk) (fun hHeld => ?_)
                                  clear hK K
                                  (try simp only [Act.put, List.setIfInBounds_toArray, List.set_cons_zero, List.set_cons_succ])
                                  refine wpAnyH_ready (rs := [15]) (by kernel_rfl) (by simp) ?_
                                  refine AllReadyH.cons (o := { dst := some 135, op := Op.call { callee := Callee.value (Operand.func 60), args := #[Operand.tmp 132, Operand.tmp 134], argTypes := #[95, 95] }, type := 95, pos := _, after := #[{ on := 12, ground := Ground.data }, { on := 14, ground := Ground.data }, { on := 10, ground := Ground.chain }], guard := none }) rfl (fun K hK => ?_) AllReadyH.nil
                                  go_simp
                                  go_at_call 60
                                  go_fit (HO2.out _ kk Ga HOa.out)
                                  rintro e w6 ⟨Gb, rfl, hOb, kk⟩
                                  have H5 := Lib.hid hOb
                                  clear hOb x0 x1 x2 q0 q1 q2 f0 f1 f2 hxl
                                  obtain ⟨⟨f0, f1, f2⟩, hxl⟩ := HZ.out _ kk
                                  obtain ⟨x0, x1, x2, q0, q1, q2⟩ := HC.out _ kk
                                  (try go_wp2_with fail)
                                  refine hK.out _ _ (HK.out _ kk) (fun hHeld => ?_)
                                  clear hK K
                                  (try simp only [Act.put, List.setIfInBounds_toArray, List.set_cons_zero, List.set_cons_succ])
                                  refine wpAnyH_take (i := 16) (oi := { dst := some 136, op := Op.build 128 #[(0, Operand.tmp 125), (1, Operand.tmp 130), (2, Operand.tmp 135)], type := 128, pos := _, after := #[{ on := 5, ground := Ground.data }, { on := 10, ground := Ground.data }, { on := 15, ground := Ground.data }], guard := none }) (v := ?v29) rfl (by kernel_rfl) (by kernel_rfl) (by kernel_rfl) (fun _ _ _ h => h) (Or.inl ⟨by rfl, ?h29⟩) (by assumption) ?r29
                                  case h29 => (intro w hSw; (try dsimp only at hSw); go_simp; (try with_reducible rfl))
                                  case r29 =>
                                    (try simp only [Act.put, List.setIfInBounds_toArray, List.set_cons_zero, List.set_cons_succ])
                                    refine wpAnyH_ready (rs := [17]) (by kernel_rfl) (by simp) ?_
                                    refine AllReadyH.cons (o := { dst := none, op := Op.store 128 (Operand.tmp 12) (Operand.tmp 136), type := 0, pos := _, after := #[{ on := 16, ground := Ground.data }, { on := 15, ground := Ground.chain }, { on := 0, ground := Ground.phase }, { on := 1, ground := Ground.phase }, { on := 2, ground := Ground.phase }, { on := 3, ground := Ground.phase }, { on := 4, ground := Ground.phase }, { on := 5, ground := Ground.phase }, { on := 6, ground := Ground.phase }, { on := 7, ground := Ground.phase }, { on := 8, ground := Ground.phase }, { on := 9, ground := Ground.phase }, { on := 10, ground := Ground.phase }, { on := 11, ground := Ground.phase }, { on := 12, ground := Ground.phase }, { on := 13, ground := Ground.phase }, { on := 14, ground := Ground.phase }, { on := 15, ground := Ground.phase }, { on := 16, ground := Ground.phase }], guard := none }) rfl (fun K hK => ?_) AllReadyH.nil
                                    go_simp
                                    refine hK.out _ _ (HKS.out _ kk _ _ _) (fun hHeld => ?_)
                                    clear hK K
                                    (try simp only [Act.put, List.setIfInBounds_toArray, List.set_cons_zero, List.set_cons_succ])
                                    refine wpAnyH_done (by kernel_rfl) ?_ _
                                    clear HC HZ HK HKS HO1 HO2 x0 x1 x2 q0 q1 q2 f0 f1 f2 hxl
                                    go_wp2_with fail
                                    refine ⟨⟨i + 1, by go_num, hlt, ?_⟩, by simp [intOf] <;> omega⟩
                                    rw [HGS.out.1, HGS.out.2, HT.out]
                                    exact Lib.hid ⟨sx, _, _, H5.out.congr fun i j => by simp [orF2, Bool.or_assoc]⟩
                        · skip
                          go_simp
                          refine hK.out _ _ (hHeld) (fun hHeld => ?_)
                          clear hK K
                          (try simp only [Act.put, List.setIfInBounds_toArray, List.set_cons_zero, List.set_cons_succ])
                          refine wpAnyH_ready (rs := [1]) (by kernel_rfl) (by simp) ?_
                          refine AllReadyH.cons (o := { dst := some 121, op := Op.load 4 (Operand.tmp 120), type := 4, pos := _, after := #[{ on := 0, ground := Ground.data }], guard := none }) rfl (fun K hK => ?_) AllReadyH.nil
                          go_simp
                          refine hK.out _ _ (hHeld) (fun hHeld => ?_)
                          clear hK K
                          (try simp only [Act.put, List.setIfInBounds_toArray, List.set_cons_zero, List.set_cons_succ])
                          refine wpAnyH_take (i := 2) (oi := { dst := some 122, op := Op.move (Operand.tmp 121), type := 4, pos := _, after := #[{ on := 1, ground := Ground.data }], guard := none }) (v := ?v30) rfl (by kernel_rfl) (by kernel_rfl) (by kernel_rfl) (fun _ _ _ h => h) (Or.inl ⟨by rfl, ?h30⟩) (by assumption) ?r30
                          case h30 => (intro w hSw; (try dsimp only at hSw); go_simp; (try with_reducible rfl))
                          case r30 =>
                            (try simp only [Act.put, List.setIfInBounds_toArray, List.set_cons_zero, List.set_cons_succ])
                            refine wpAnyH_take (i := 3) (oi := { dst := some 123, op := Op.fieldAddr 128 (Operand.tmp 14) 0, type := 0, pos := _, after := #[{ on := 2, ground := Ground.guard }], guard := some (2, false) }) (v := ?v31) rfl (by kernel_rfl) (by kernel_rfl) (by kernel_rfl) (fun _ _ _ h => h) (Or.inl ⟨by rfl, ?h31⟩) (by assumption) ?r31
                            case h31 => (intro w hSw; (try dsimp only at hSw); go_simp; (try with_reducible rfl))
                            case r31 =>
                              (try simp only [Act.put, List.setIfInBounds_toArray, List.set_cons_zero, List.set_cons_succ])
                              refine wpAnyH_take (i := 4) (oi := { dst := some 124, op := Op.load 4 (Operand.tmp 123), type := 4, pos := _, after := #[{ on := 3, ground := Ground.data }, { on := 2, ground := Ground.guard }], guard := some (2, false) }) (v := ?v32) rfl (by kernel_rfl) (by kernel_rfl) (by kernel_rfl) (fun _ _ _ h => h) (Or.inl ⟨by rfl, ?h32⟩) (by assumption) ?r32
                              case h32 => (intro w hSw; (try dsimp only at hSw); go_simp; (try with_reducible rfl))
                              case r32 =>
                                (try simp only [Act.put, List.setIfInBounds_toArray, List.set_cons_zero, List.set_cons_succ])
                                refine wpAnyH_take (i := 5) (oi := { dst := some 125, op := Op.pick (Operand.tmp 122) (Operand.const (Value.bool true)) (Operand.tmp 124), type := 4, pos := _, after := #[{ on := 2, ground := Ground.data }, { on := 4, ground := Ground.data }], guard := none }) (v := ?v33) rfl (by kernel_rfl) (by kernel_rfl) (by kernel_rfl) (fun _ _ _ h => h) (Or.inl ⟨by rfl, ?h33⟩) (by assumption) ?r33
                                case h33 => (intro w hSw; (try dsimp only at hSw); go_simp; (try with_reducible rfl))
                                case r33 =>
                                  (try simp only [Act.put, List.setIfInBounds_toArray, List.set_cons_zero, List.set_cons_succ])
                                  refine wpAnyH_ready (rs := [10]) (by kernel_rfl) (by simp) ?_
                                  refine AllReadyH.cons (o := { dst := some 130, op := Op.call { callee := Callee.value (Operand.func 60), args := #[Operand.tmp 127, Operand.tmp 129], argTypes := #[95, 95] }, type := 95, pos := _, after := #[{ on := 7, ground := Ground.data }, { on := 9, ground := Ground.data }, { on := 2, ground := Ground.chain }], guard := none }) rfl (fun K hK => ?_) AllReadyH.nil
                                  go_simp
                                  go_at_call 60
                                  go_fit (HO1.out _ kk.drew)
                                  rintro e w5 ⟨Ga, rfl, hOa, kk⟩
                                  have HOa := Lib.hid hOa
                                  clear hOa x0 x1 x2 q0 q1 q2
                                  obtain ⟨x0, x1, x2, q0, q1, q2⟩ := HC.out _ kk
                                  (try go_wp2_with fail)
                                  refine hK.out _ _ (HK.out _ kk) (fun hHeld => ?_)
                                  clear hK K
                                  (try simp only [Act.put, List.setIfInBounds_toArray, List.set_cons_zero, List.set_cons_succ])
                                  refine wpAnyH_ready (rs := [15]) (by kernel_rfl) (by simp) ?_
                                  refine AllReadyH.cons (o := { dst := some 135, op := Op.call { callee := Callee.value (Operand.func 60), args := #[Operand.tmp 132, Operand.tmp 134], argTypes := #[95, 95] }, type := 95, pos := _, after := #[{ on := 12, ground := Ground.data }, { on := 14, ground := Ground.data }, { on := 10, ground := Ground.chain }], guard := none }) rfl (fun K hK => ?_) AllReadyH.nil
                                  go_simp
                                  go_at_call 60
                                  go_fit (HO2.out _ kk Ga HOa.out)
                                  rintro e w6 ⟨Gb, rfl, hOb, kk⟩
                                  have H5 := Lib.hid hOb
                                  clear hOb x0 x1 x2 q0 q1 q2 f0 f1 f2 hxl
                                  obtain ⟨⟨f0, f1, f2⟩, hxl⟩ := HZ.out _ kk
                                  obtain ⟨x0, x1, x2, q0, q1, q2⟩ := HC.out _ kk
                                  (try go_wp2_with fail)
                                  refine hK.out _ _ (HK.out _ kk) (fun hHeld => ?_)
                                  clear hK K
                                  (try simp only [Act.put, List.setIfInBounds_toArray, List.set_cons_zero, List.set_cons_succ])
                                  refine wpAnyH_take (i := 16) (oi := { dst := some 136, op := Op.build 128 #[(0, Operand.tmp 125), (1, Operand.tmp 130), (2, Operand.tmp 135)], type := 128, pos := _, after := #[{ on := 5, ground := Ground.data }, { on := 10, ground := Ground.data }, { on := 15, ground := Ground.data }], guard := none }) (v := ?v34) rfl (by kernel_rfl) (by kernel_rfl) (by kernel_rfl) (fun _ _ _ h => h) (Or.inl ⟨by rfl, ?h34⟩) (by assumption) ?r34
                                  case h34 => (intro w hSw; (try dsimp only at hSw); go_simp; (try with_reducible rfl))
                                  case r34 =>
                                    (try simp only [Act.put, List.setIfInBounds_toArray, List.set_cons_zero, List.set_cons_succ])
                                    refine wpAnyH_ready (rs := [17]) (by kernel_rfl) (by simp) ?_
                                    refine AllReadyH.cons (o := { dst := none, op := Op.store 128 (Operand.tmp 12) (Operand.tmp 136), type := 0, pos := _, after := #[{ on := 16, ground := Ground.data }, { on := 15, ground := Ground.chain }, { on := 0, ground := Ground.phase }, { on := 1, ground := Ground.phase }, { on := 2, ground := Ground.phase }, { on := 3, ground := Ground.phase }, { on := 4, ground := Ground.phase }, { on := 5, ground := Ground.phase }, { on := 6, ground := Ground.phase }, { on := 7, ground := Ground.phase }, { on := 8, ground := Ground.phase }, { on := 9, ground := Ground.phase }, { on := 10, ground := Ground.phase }, { on := 11, ground := Ground.phase }, { on := 12, ground := Ground.phase }, { on := 13, ground := Ground.phase }, { on := 14, ground := Ground.phase }, { on := 15, ground := Ground.phase }, { on := 16, ground := Ground.phase }], guard := none }) rfl (fun K hK => ?_) AllReadyH.nil
                                    go_simp
                                    refine hK.out _ _ (HKS.out _ kk _ _ _) (fun hHeld => ?_)
                                    clear hK K
                                    (try simp only [Act.put, List.setIfInBounds_toArray, List.set_cons_zero, List.set_cons_succ])
                                    refine wpAnyH_done (by kernel_rfl) ?_ _
                                    clear HC HZ HK HKS HO1 HO2 x0 x1 x2 q0 q1 q2 f0 f1 f2 hxl
                                    go_wp2_with fail
                                    refine ⟨⟨i + 1, by go_num, hlt, ?_⟩, by simp [intOf] <;> omega⟩
                                    rw [HGS.out.1, HGS.out.2, HT.out]
                                    exact Lib.hid ⟨sx, _, _, H5.out.congr fun i j => by simp [orF2, Bool.or_assoc]⟩
      · simp only [Bool.true_or] at HO2 HT
        obtain ⟨x0, x1, x2, q0, q1, q2⟩ := HC.out _ kk
        obtain ⟨⟨f0, f1, f2⟩, hxl⟩ := HZ.out _ kk
        refine wp_region_held_drew (S := (fun V => (V.cell? ⟨c, 0, none⟩ = some (.bool kn) ∧ V.cell? ⟨c, 1, none⟩ = some (.slice fo m fc) ∧ V.cell? ⟨c, 2, none⟩ = some (.slice lo m lc)))) (by kernel_rfl) (HK.out _ kk.drew) (fun hHeld => ?_)
        refine wpAnyH_take (i := 0) (oi := { dst := some 120, op := Op.fieldAddr 128 (Operand.tmp 12) 0, type := 0, pos := _, after := #[], guard := none }) (v := ?v35) rfl (by kernel_rfl) (by kernel_rfl) (by kernel_rfl) (fun _ _ _ h => h) (Or.inl ⟨by rfl, ?h35⟩) (by assumption) ?r35
        case h35 => (intro w hSw; (try dsimp only at hSw); go_simp; (try with_reducible rfl))
        case r35 =>
          (try simp only [Act.put, List.setIfInBounds_toArray, List.set_cons_zero, List.set_cons_succ])
          refine wpAnyH_take (i := 6) (oi := { dst := some 126, op := Op.fieldAddr 128 (Operand.tmp 12) 1, type := 0, pos := _, after := #[], guard := none }) (v := ?v36) rfl (by kernel_rfl) (by kernel_rfl) (by kernel_rfl) (fun _ _ _ h => h) (Or.inl ⟨by rfl, ?h36⟩) (by assumption) ?r36
          case h36 => (intro w hSw; (try dsimp only at hSw); go_simp; (try with_reducible rfl))
          case r36 =>
            (try simp only [Act.put, List.setIfInBounds_toArray, List.set_cons_zero, List.set_cons_succ])
            refine wpAnyH_take (i := 8) (oi := { dst := some 128, op := Op.fieldAddr 128 (Operand.tmp 14) 1, type := 0, pos := _, after := #[], guard := none }) (v := ?v37) rfl (by kernel_rfl) (by kernel_rfl) (by kernel_rfl) (fun _ _ _ h => h) (Or.inl ⟨by rfl, ?h37⟩) (by assumption) ?r37
            case h37 => (intro w hSw; (try dsimp only at hSw); go_simp; (try with_reducible rfl))
            case r37 =>
              (try simp only [Act.put, List.setIfInBounds_toArray, List.set_cons_zero, List.set_cons_succ])
              refine wpAnyH_take (i := 9) (oi := { dst := some 129, op := Op.load 95 (Operand.tmp 128), type := 95, pos := _, after := #[{ on := 8, ground := Ground.data }], guard := none }) (v := ?v38) rfl (by kernel_rfl) (by kernel_rfl) (by kernel_rfl) (fun _ _ _ h => h) (Or.inl ⟨by rfl, ?h38⟩) (by assumption) ?r38
              case h38 => (intro w hSw; (try dsimp only at hSw); go_simp; (try with_reducible rfl))
              case r38 =>
                (try simp only [Act.put, List.setIfInBounds_toArray, List.set_cons_zero, List.set_cons_succ])
                refine wpAnyH_take (i := 11) (oi := { dst := some 131, op := Op.fieldAddr 128 (Operand.tmp 12) 2, type := 0, pos := _, after := #[], guard := none }) (v := ?v39) rfl (by kernel_rfl) (by kernel_rfl) (by kernel_rfl) (fun _ _ _ h => h) (Or.inl ⟨by rfl, ?h39⟩) (by assumption) ?r39
                case h39 => (intro w hSw; (try dsimp only at hSw); go_simp; (try with_reducible rfl))
                case r39 =>
                  (try simp only [Act.put, List.setIfInBounds_toArray, List.set_cons_zero, List.set_cons_succ])
                  refine wpAnyH_take (i := 13) (oi := { dst := some 133, op := Op.fieldAddr 128 (Operand.tmp 14) 2, type := 0, pos := _, after := #[], guard := none }) (v := ?v40) rfl (by kernel_rfl) (by kernel_rfl) (by kernel_rfl) (fun _ _ _ h => h) (Or.inl ⟨by rfl, ?h40⟩) (by assumption) ?r40
                  case h40 => (intro w hSw; (try dsimp only at hSw); go_simp; (try with_reducible rfl))
                  case r40 =>
                    (try simp only [Act.put, List.setIfInBounds_toArray, List.set_cons_zero, List.set_cons_succ])
                    refine wpAnyH_take (i := 14) (oi := { dst := some 134, op := Op.load 95 (Operand.tmp 133), type := 95, pos := _, after := #[{ on := 13, ground := Ground.data }], guard := none }) (v := ?v41) rfl (by kernel_rfl) (by kernel_rfl) (by kernel_rfl) (fun _ _ _ h => h) (Or.inl ⟨by rfl, ?h41⟩) (by assumption) ?r41
                    case h41 => (intro w hSw; (try dsimp only at hSw); go_simp; (try with_reducible rfl))
                    case r41 =>
                      (try simp only [Act.put, List.setIfInBounds_toArray, List.set_cons_zero, List.set_cons_succ])
                      refine wpAnyH_ready (rs := [1, 7, 12]) (by kernel_rfl) (by simp) ?_
                      refine AllReadyH.cons (o := { dst := some 121, op := Op.load 4 (Operand.tmp 120), type := 4, pos := _, after := #[{ on := 0, ground := Ground.data }], guard := none }) rfl (fun K hK => ?_) (AllReadyH.cons (o := { dst := some 127, op := Op.load 95 (Operand.tmp 126), type := 95, pos := _, after := #[{ on := 6, ground := Ground.data }], guard := none }) rfl (fun K hK => ?_) (AllReadyH.cons (o := { dst := some 132, op := Op.load 95 (Operand.tmp 131), type := 95, pos := _, after := #[{ on := 11, ground := Ground.data }], guard := none }) rfl (fun K hK => ?_) AllReadyH.nil))
                      · skip
                        go_simp
                        refine hK.out _ _ (hHeld) (fun hHeld => ?_)
                        clear hK K
                        (try simp only [Act.put, List.setIfInBounds_toArray, List.set_cons_zero, List.set_cons_succ])
                        refine wpAnyH_take (i := 2) (oi := { dst := some 122, op := Op.move (Operand.tmp 121), type := 4, pos := _, after := #[{ on := 1, ground := Ground.data }], guard := none }) (v := ?v42) rfl (by kernel_rfl) (by kernel_rfl) (by kernel_rfl) (fun _ _ _ h => h) (Or.inl ⟨by rfl, ?h42⟩) (by assumption) ?r42
                        case h42 => (intro w hSw; (try dsimp only at hSw); go_simp; (try with_reducible rfl))
                        case r42 =>
                          (try simp only [Act.put, List.setIfInBounds_toArray, List.set_cons_zero, List.set_cons_succ])
                          refine wpAnyH_take (i := 3) (oi := { dst := some 123, op := Op.fieldAddr 128 (Operand.tmp 14) 0, type := 0, pos := _, after := #[{ on := 2, ground := Ground.guard }], guard := some (2, false) }) (v := undef) rfl (by kernel_rfl) (by kernel_rfl) (by kernel_rfl) (fun _ _ _ h => h) (Or.inr ⟨by rfl, rfl⟩) (by assumption) ?_
                          (try simp only [Act.put, List.setIfInBounds_toArray, List.set_cons_zero, List.set_cons_succ])
                          refine wpAnyH_take (i := 4) (oi := { dst := some 124, op := Op.load 4 (Operand.tmp 123), type := 4, pos := _, after := #[{ on := 3, ground := Ground.data }, { on := 2, ground := Ground.guard }], guard := some (2, false) }) (v := undef) rfl (by kernel_rfl) (by kernel_rfl) (by kernel_rfl) (fun _ _ _ h => h) (Or.inr ⟨by rfl, rfl⟩) (by assumption) ?_
                          (try simp only [Act.put, List.setIfInBounds_toArray, List.set_cons_zero, List.set_cons_succ])
                          refine wpAnyH_take (i := 5) (oi := { dst := some 125, op := Op.pick (Operand.tmp 122) (Operand.const (Value.bool true)) (Operand.tmp 124), type := 4, pos := _, after := #[{ on := 2, ground := Ground.data }, { on := 4, ground := Ground.data }], guard := none }) (v := ?v43) rfl (by kernel_rfl) (by kernel_rfl) (by kernel_rfl) (fun _ _ _ h => h) (Or.inl ⟨by rfl, ?h43⟩) (by assumption) ?r43
                          case h43 => (intro w hSw; (try dsimp only at hSw); go_simp; (try with_reducible rfl))
                          case r43 =>
                            (try simp only [Act.put, List.setIfInBounds_toArray, List.set_cons_zero, List.set_cons_succ])
                            refine wpAnyH_ready (rs := [7, 12]) (by kernel_rfl) (by simp) ?_
                            refine AllReadyH.cons (o := { dst := some 127, op := Op.load 95 (Operand.tmp 126), type := 95, pos := _, after := #[{ on := 6, ground := Ground.data }], guard := none }) rfl (fun K hK => ?_) (AllReadyH.cons (o := { dst := some 132, op := Op.load 95 (Operand.tmp 131), type := 95, pos := _, after := #[{ on := 11, ground := Ground.data }], guard := none }) rfl (fun K hK => ?_) AllReadyH.nil)
                            · skip
                              go_simp
                              refine hK.out _ _ (hHeld) (fun hHeld => ?_)
                              clear hK K
                              (try simp only [Act.put, List.setIfInBounds_toArray, List.set_cons_zero, List.set_cons_succ])
                              refine wpAnyH_ready (rs := [10, 12]) (by kernel_rfl) (by simp) ?_
                              refine AllReadyH.cons (o := { dst := some 130, op := Op.call { callee := Callee.value (Operand.func 60), args := #[Operand.tmp 127, Operand.tmp 129], argTypes := #[95, 95] }, type := 95, pos := _, after := #[{ on := 7, ground := Ground.data }, { on := 9, ground := Ground.data }, { on := 2, ground := Ground.chain }], guard := none }) rfl (fun K hK => ?_) (AllReadyH.cons (o := { dst := some 132, op := Op.load 95 (Operand.tmp 131), type := 95, pos := _, after := #[{ on := 11, ground := Ground.data }], guard := none }) rfl (fun K hK => ?_) AllReadyH.nil)
                              · skip
                                go_simp
                                go_at_call 60
                                go_fit (HO1.out _ kk.drew)
                                rintro e w5 ⟨Ga, rfl, hOa, kk⟩
                                have HOa := Lib.hid hOa
                                clear hOa x0 x1 x2 q0 q1 q2
                                obtain ⟨x0, x1, x2, q0, q1, q2⟩ := HC.out _ kk
                                (try go_wp2_with fail)
                                refine hK.out _ _ (HK.out _ kk) (fun hHeld => ?_)
                                clear hK K
                                (try simp only [Act.put, List.setIfInBounds_toArray, List.set_cons_zero, List.set_cons_succ])
                                refine wpAnyH_ready (rs := [12]) (by kernel_rfl) (by simp) ?_
                                refine AllReadyH.cons (o := { dst := some 132, op := Op.load 95 (Operand.tmp 131), type := 95, pos := _, after := #[{ on := 11, ground := Ground.data }], guard := none }) rfl (fun K hK => ?_) AllReadyH.nil
                                go_simp
                                refine hK.out _ _ (hHeld) (fun hHeld => ?_)
                                clear hK K
                                (try simp only [Act.put, List.setIfInBounds_toArray, List.set_cons_zero, List.set_cons_succ])
                                refine wpAnyH_ready (rs := [15]) (by kernel_rfl) (by simp) ?_
                                refine AllReadyH.cons (o := { dst := some 135, op := Op.call { callee := Callee.value (Operand.func 60), args := #[Operand.tmp 132, Operand.tmp 134], argTypes := #[95, 95] }, type := 95, pos := _, after := #[{ on := 12, ground := Ground.data }, { on := 14, ground := Ground.data }, { on := 10, ground := Ground.chain }], guard := none }) rfl (fun K hK => ?_) AllReadyH.nil
                                go_simp
                                go_at_call 60
                                go_fit (HO2.out _ kk Ga HOa.out)
                                rintro e w6 ⟨Gb, rfl, hOb, kk⟩
                                have H5 := Lib.hid hOb
                                clear hOb x0 x1 x2 q0 q1 q2 f0 f1 f2 hxl
                                obtain ⟨⟨f0, f1, f2⟩, hxl⟩ := HZ.out _ kk
                                obtain ⟨x0, x1, x2, q0, q1, q2⟩ := HC.out _ kk
                                (try go_wp2_with fail)
                                refine hK.out _ _ (HK.out _ kk) (fun hHeld => ?_)
                                clear hK K
                                (try simp only [Act.put, List.setIfInBounds_toArray, List.set_cons_zero, List.set_cons_succ])
                                refine wpAnyH_take (i := 16) (oi := { dst := some 136, op := Op.build 128 #[(0, Operand.tmp 125), (1, Operand.tmp 130), (2, Operand.tmp 135)], type := 128, pos := _, after := #[{ on := 5, ground := Ground.data }, { on := 10, ground := Ground.data }, { on := 15, ground := Ground.data }], guard := none }) (v := ?v44) rfl (by kernel_rfl) (by kernel_rfl) (by kernel_rfl) (fun _ _ _ h => h) (Or.inl ⟨by rfl, ?h44⟩) (by assumption) ?r44
                                case h44 => (intro w hSw; (try dsimp only at hSw); go_simp; (try with_reducible rfl))
                                case r44 =>
                                  (try simp only [Act.put, List.setIfInBounds_toArray, List.set_cons_zero, List.set_cons_succ])
                                  refine wpAnyH_ready (rs := [17]) (by kernel_rfl) (by simp) ?_
                                  refine AllReadyH.cons (o := { dst := none, op := Op.store 128 (Operand.tmp 12) (Operand.tmp 136), type := 0, pos := _, after := #[{ on := 16, ground := Ground.data }, { on := 15, ground := Ground.chain }, { on := 0, ground := Ground.phase }, { on := 1, ground := Ground.phase }, { on := 2, ground := Ground.phase }, { on := 3, ground := Ground.phase }, { on := 4, ground := Ground.phase }, { on := 5, ground := Ground.phase }, { on := 6, ground := Ground.phase }, { on := 7, ground := Ground.phase }, { on := 8, ground := Ground.phase }, { on := 9, ground := Ground.phase }, { on := 10, ground := Ground.phase }, { on := 11, ground := Ground.phase }, { on := 12, ground := Ground.phase }, { on := 13, ground := Ground.phase }, { on := 14, ground := Ground.phase }, { on := 15, ground := Ground.phase }, { on := 16, ground := Ground.phase }], guard := none }) rfl (fun K hK => ?_) AllReadyH.nil
                                  go_simp
                                  refine hK.out _ _ (HKS.out _ kk _ _ _) (fun hHeld => ?_)
                                  clear hK K
                                  (try simp only [Act.put, List.setIfInBounds_toArray, List.set_cons_zero, List.set_cons_succ])
                                  refine wpAnyH_done (by kernel_rfl) ?_ _
                                  clear HC HZ HK HKS HO1 HO2 x0 x1 x2 q0 q1 q2 f0 f1 f2 hxl
                                  go_wp2_with fail
                                  refine ⟨⟨i + 1, by go_num, hlt, ?_⟩, by simp [intOf] <;> omega⟩
                                  rw [HGS.out.1, HGS.out.2, HT.out]
                                  exact Lib.hid ⟨sx, _, _, H5.out.congr fun i j => by simp [orF2, Bool.or_assoc]⟩
                              · skip
                                go_simp
                                refine hK.out _ _ (hHeld) (fun hHeld => ?_)
                                clear hK K
                                (try simp only [Act.put, List.setIfInBounds_toArray, List.set_cons_zero, List.set_cons_succ])
                                refine wpAnyH_ready (rs := [10]) (by kernel_rfl) (by simp) ?_
                                refine AllReadyH.cons (o := { dst := some 130, op := Op.call { callee := Callee.value (Operand.func 60), args := #[Operand.tmp 127, Operand.tmp 129], argTypes := #[95, 95] }, type := 95, pos := _, after := #[{ on := 7, ground := Ground.data }, { on := 9, ground := Ground.data }, { on := 2, ground := Ground.chain }], guard := none }) rfl (fun K hK => ?_) AllReadyH.nil
                                go_simp
                                go_at_call 60
                                go_fit (HO1.out _ kk.drew)
                                rintro e w5 ⟨Ga, rfl, hOa, kk⟩
                                have HOa := Lib.hid hOa
                                clear hOa x0 x1 x2 q0 q1 q2
                                obtain ⟨x0, x1, x2, q0, q1, q2⟩ := HC.out _ kk
                                (try go_wp2_with fail)
                                refine hK.out _ _ (HK.out _ kk) (fun hHeld => ?_)
                                clear hK K
                                (try simp only [Act.put, List.setIfInBounds_toArray, List.set_cons_zero, List.set_cons_succ])
                                refine wpAnyH_ready (rs := [15]) (by kernel_rfl) (by simp) ?_
                                refine AllReadyH.cons (o := { dst := some 135, op := Op.call { callee := Callee.value (Operand.func 60), args := #[Operand.tmp 132, Operand.tmp 134], argTypes := #[95, 95] }, type := 95, pos := _, after := #[{ on := 12, ground := Ground.data }, { on := 14, ground := Ground.data }, { on := 10, ground := Ground.chain }], guard := none }) rfl (fun K hK => ?_) AllReadyH.nil
                                go_simp
                                go_at_call 60
                                go_fit (HO2.out _ kk Ga HOa.out)
                                rintro e w6 ⟨Gb, rfl, hOb, kk⟩
                                have H5 := Lib.hid hOb
                                clear hOb x0 x1 x2 q0 q1 q2 f0 f1 f2 hxl
                                obtain ⟨⟨f0, f1, f2⟩, hxl⟩ := HZ.out _ kk
                                obtain ⟨x0, x1, x2, q0, q1, q2⟩ := HC.out _ kk
                                (try go_wp2_with fail)
                                refine hK.out _ _ (HK.out _ kk) (fun hHeld => ?_)
                                clear hK K
                                (try simp only [Act.put, List.setIfInBounds_toArray, List.set_cons_zero, List.set_cons_succ])
                                refine wpAnyH_take (i := 16) (oi := { dst := some 136, op := Op.build 128 #[(0, Operand.tmp 125), (1, Operand.tmp 130), (2, Operand.tmp 135)], type := 128, pos := _, after := #[{ on := 5, ground := Ground.data }, { on := 10, ground := Ground.data }, { on := 15, ground := Ground.data }], guard := none }) (v := ?v45) rfl (by kernel_rfl) (by kernel_rfl) (by kernel_rfl) (fun _ _ _ h => h) (Or.inl ⟨by rfl, ?h45⟩) (by assumption) ?r45
                                case h45 => (intro w hSw; (try dsimp only at hSw); go_simp; (try with_reducible rfl))
                                case r45 =>
                                  (try simp only [Act.put, List.setIfInBounds_toArray, List.set_cons_zero, List.set_cons_succ])
                                  refine wpAnyH_ready (rs := [17]) (by kernel_rfl) (by simp) ?_
                                  refine AllReadyH.cons (o := { dst := none, op := Op.store 128 (Operand.tmp 12) (Operand.tmp 136), type := 0, pos := _, after := #[{ on := 16, ground := Ground.data }, { on := 15, ground := Ground.chain }, { on := 0, ground := Ground.phase }, { on := 1, ground := Ground.phase }, { on := 2, ground := Ground.phase }, { on := 3, ground := Ground.phase }, { on := 4, ground := Ground.phase }, { on := 5, ground := Ground.phase }, { on := 6, ground := Ground.phase }, { on := 7, ground := Ground.phase }, { on := 8, ground := Ground.phase }, { on := 9, ground := Ground.phase }, { on := 10, ground := Ground.phase }, { on := 11, ground := Ground.phase }, { on := 12, ground := Ground.phase }, { on := 13, ground := Ground.phase }, { on := 14, ground := Ground.phase }, { on := 15, ground := Ground.phase }, { on := 16, ground := Ground.phase }], guard := none }) rfl (fun K hK => ?_) AllReadyH.nil
                                  go_simp
                                  refine hK.out _ _ (HKS.out _ kk _ _ _) (fun hHeld => ?_)
                                  clear hK K
                                  (try simp only [Act.put, List.setIfInBounds_toArray, List.set_cons_zero, List.set_cons_succ])
                                  refine wpAnyH_done (by kernel_rfl) ?_ _
                                  clear HC HZ HK HKS HO1 HO2 x0 x1 x2 q0 q1 q2 f0 f1 f2 hxl
                                  go_wp2_with fail
                                  refine ⟨⟨i + 1, by go_num, hlt, ?_⟩, by simp [intOf] <;> omega⟩
                                  rw [HGS.out.1, HGS.out.2, HT.out]
                                  exact Lib.hid ⟨sx, _, _, H5.out.congr fun i j => by simp [orF2, Bool.or_assoc]⟩
                            · skip
                              go_simp
                              refine hK.out _ _ (hHeld) (fun hHeld => ?_)
                              clear hK K
                              (try simp only [Act.put, List.setIfInBounds_toArray, List.set_cons_zero, List.set_cons_succ])
                              refine wpAnyH_ready (rs := [7]) (by kernel_rfl) (by simp) ?_
                              refine AllReadyH.cons (o := { dst := some 127, op := Op.load 95 (Operand.tmp 126), type := 95, pos := _, after := #[{ on := 6, ground := Ground.data }], guard := none }) rfl (fun K hK => ?_) AllReadyH.nil
                              go_simp
                              refine hK.out _ _ (hHeld) (fun hHeld => ?_)
                              clear hK K
                              (try simp only [Act.put, List.setIfInBounds_toArray, List.set_cons_zero, List.set_cons_succ])
                              refine wpAnyH_ready (rs := [10]) (by kernel_rfl) (by simp) ?_
                              refine AllReadyH.cons (o := { dst := some 130, op := Op.call { callee := Callee.value (Operand.func 60), args := #[Operand.tmp 127, Operand.tmp 129], argTypes := #[95, 95] }, type := 95, pos := _, after := #[{ on := 7, ground := Ground.data }, { on := 9, ground := Ground.data }, { on := 2, ground := Ground.chain }], guard := none }) rfl (fun K hK => ?_) AllReadyH.nil
                              go_simp
                              go_at_call 60
                              go_fit (HO1.out _ kk.drew)
                              rintro e w5 ⟨Ga, rfl, hOa, kk⟩
                              have HOa := Lib.hid hOa
                              clear hOa x0 x1 x2 q0 q1 q2
                              obtain ⟨x0, x1, x2, q0, q1, q2⟩ := HC.out _ kk
                              (try go_wp2_with fail)
                              refine hK.out _ _ (HK.out _ kk) (fun hHeld => ?_)
                              clear hK K
                              (try simp only [Act.put, List.setIfInBounds_toArray, List.set_cons_zero, List.set_cons_succ])
                              refine wpAnyH_ready (rs := [15]) (by kernel_rfl) (by simp) ?_
                              refine AllReadyH.cons (o := { dst := some 135, op := Op.call { callee := Callee.value (Operand.func 60), args := #[Operand.tmp 132, Operand.tmp 134], argTypes := #[95, 95] }, type := 95, pos := _, after := #[{ on := 12, ground := Ground.data }, { on := 14, ground := Ground.data }, { on := 10, ground := Ground.chain }], guard := none }) rfl (fun K hK => ?_) AllReadyH.nil
                              go_simp
                              go_at_call 60
                              go_fit (HO2.out _ kk Ga HOa.out)
                              rintro e w6 ⟨Gb, rfl, hOb, kk⟩
                              have H5 := Lib.hid hOb
                              clear hOb x0 x1 x2 q0 q1 q2 f0 f1 f2 hxl
                              obtain ⟨⟨f0, f1, f2⟩, hxl⟩ := HZ.out _ kk
                              obtain ⟨x0, x1, x2, q0, q1, q2⟩ := HC.out _ kk
                              (try go_wp2_with fail)
                              refine hK.out _ _ (HK.out _ kk) (fun hHeld => ?_)
                              clear hK K
                              (try simp only [Act.put, List.setIfInBounds_toArray, List.set_cons_zero, List.set_cons_succ])
                              refine wpAnyH_take (i := 16) (oi := { dst := some 136, op := Op.build 128 #[(0, Operand.tmp 125), (1, Operand.tmp 130), (2, Operand.tmp 135)], type := 128, pos := _, after := #[{ on := 5, ground := Ground.data }, { on := 10, ground := Ground.data }, { on := 15, ground := Ground.data }], guard := none }) (v := ?v46) rfl (by kernel_rfl) (by kernel_rfl) (by kernel_rfl) (fun _ _ _ h => h) (Or.inl ⟨by rfl, ?h46⟩) (by assumption) ?r46
                              case h46 => (intro w hSw; (try dsimp only at hSw); go_simp; (try with_reducible rfl))
                              case r46 =>
                                (try simp only [Act.put, List.setIfInBounds_toArray, List.set_cons_zero, List.set_cons_succ])
                                refine wpAnyH_ready (rs := [17]) (by kernel_rfl) (by simp) ?_
                                refine AllReadyH.cons (o := { dst := none, op := Op.store 128 (Operand.tmp 12) (Operand.tmp 136), type := 0, pos := _, after := #[{ on := 16, ground := Ground.data }, { on := 15, ground := Ground.chain }, { on := 0, ground := Ground.phase }, { on := 1, ground := Ground.phase }, { on := 2, ground := Ground.phase }, { on := 3, ground := Ground.phase }, { on := 4, ground := Ground.phase }, { on := 5, ground := Ground.phase }, { on := 6, ground := Ground.phase }, { on := 7, ground := Ground.phase }, { on := 8, ground := Ground.phase }, { on := 9, ground := Ground.phase }, { on := 10, ground := Ground.phase }, { on := 11, ground := Ground.phase }, { on := 12, ground := Ground.phase }, { on := 13, ground := Ground.phase }, { on := 14, ground := Ground.phase }, { on := 15, ground := Ground.phase }, { on := 16, ground := Ground.phase }], guard := none }) rfl (fun K hK => ?_) AllReadyH.nil
                                go_simp
                                refine hK.out _ _ (HKS.out _ kk _ _ _) (fun hHeld => ?_)
                                clear hK K
                                (try simp only [Act.put, List.setIfInBounds_toArray, List.set_cons_zero, List.set_cons_succ])
                                refine wpAnyH_done (by kernel_rfl) ?_ _
                                clear HC HZ HK HKS HO1 HO2 x0 x1 x2 q0 q1 q2 f0 f1 f2 hxl
                                go_wp2_with fail
                                refine ⟨⟨i + 1, by go_num, hlt, ?_⟩, by simp [intOf] <;> omega⟩
                                rw [HGS.out.1, HGS.out.2, HT.out]
                                exact Lib.hid ⟨sx, _, _, H5.out.congr fun i j => by simp [orF2, Bool.or_assoc]⟩
                      · skip
                        go_simp
                        refine hK.out _ _ (hHeld) (fun hHeld => ?_)
                        clear hK K
                        (try simp only [Act.put, List.setIfInBounds_toArray, List.set_cons_zero, List.set_cons_succ])
                        refine wpAnyH_ready (rs := [1, 12]) (by kernel_rfl) (by simp) ?_
                        refine AllReadyH.cons (o := { dst := some 121, op := Op.load 4 (Operand.tmp 120), type := 4, pos := _, after := #[{ on := 0, ground := Ground.data }], guard := none }) rfl (fun K hK => ?_) (AllReadyH.cons (o := { dst := some 132, op := Op.load 95 (Operand.tmp 131), type := 95, pos := _, after := #[{ on := 11, ground := Ground.data }], guard := none }) rfl (fun K hK => ?_) AllReadyH.nil)
                        · skip
                          go_simp
                          refine hK.out _ _ (hHeld) (fun hHeld => ?_)
                          clear hK K
                          (try simp only [Act.put, List.setIfInBounds_toArray, List.set_cons_zero, List.set_cons_succ])
                          refine wpAnyH_take (i := 2) (oi := { dst := some 122, op := Op.move (Operand.tmp 121), type := 4, pos := _, after := #[{ on := 1, ground := Ground.data }], guard := none }) (v := ?v47) rfl (by kernel_rfl) (by kernel_rfl) (by kernel_rfl) (fun _ _ _ h => h) (Or.inl ⟨by rfl, ?h47⟩) (by assumption) ?r47
                          case h47 => (intro w hSw; (try dsimp only at hSw); go_simp; (try with_reducible rfl))
                          case r47 =>
                            (try simp only [Act.put, List.setIfInBounds_toArray, List.set_cons_zero, List.set_cons_succ])
                            refine wpAnyH_take (i := 3) (oi := { dst := some 123, op := Op.fieldAddr 128 (Operand.tmp 14) 0, type := 0, pos := _, after := #[{ on := 2, ground := Ground.guard }], guard := some (2, false) }) (v := undef) rfl (by kernel_rfl) (by kernel_rfl) (by kernel_rfl) (fun _ _ _ h => h) (Or.inr ⟨by rfl, rfl⟩) (by assumption) ?_
                            (try simp only [Act.put, List.setIfInBounds_toArray, List.set_cons_zero, List.set_cons_succ])
                            refine wpAnyH_take (i := 4) (oi := { dst := some 124, op := Op.load 4 (Operand.tmp 123), type := 4, pos := _, after := #[{ on := 3, ground := Ground.data }, { on := 2, ground := Ground.guard }], guard := some (2, false) }) (v := undef) rfl (by kernel_rfl) (by kernel_rfl) (by kernel_rfl) (fun _ _ _ h => h) (Or.inr ⟨by rfl, rfl⟩) (by assumption) ?_
                            (try simp only [Act.put, List.setIfInBounds_toArray, List.set_cons_zero, List.set_cons_succ])
                            refine wpAnyH_take (i := 5) (oi := { dst := some 125, op := Op.pick (Operand.tmp 122) (Operand.const (Value.bool true)) (Operand.tmp 124), type := 4, pos := _, after := #[{ on := 2, ground := Ground.data }, { on := 4, ground := Ground.data }], guard := none }) (v := ?v48) rfl (by kernel_rfl) (by kernel_rfl) (by kernel_rfl) (fun _ _ _ h => h) (Or.inl ⟨by rfl, ?h48⟩) (by assumption) ?r48
                            case h48 => (intro w hSw; (try dsimp only at hSw); go_simp; (try with_reducible rfl))
                            case r48 =>
                              (try simp only [Act.put, List.setIfInBounds_toArray, List.set_cons_zero, List.set_cons_succ])
                              refine wpAnyH_ready (rs := [10, 12]) (by kernel_rfl) (by simp) ?_
                              refine AllReadyH.cons (o := { dst := some 130, op := Op.call { callee := Callee.value (Operand.func 60), args := #[Operand.tmp 127, Operand.tmp 129], argTypes := #[95, 95] }, type := 95, pos := _, after := #[{ on := 7, ground := Ground.data }, { on := 9, ground := Ground.data }, { on := 2, ground := Ground.chain }], guard := none }) rfl (fun K hK => ?_) (AllReadyH.cons (o := { dst := some 132, op := Op.load 95 (Operand.tmp 131), type := 95, pos := _, after := #[{ on := 11, ground := Ground.data }], guard := none }) rfl (fun K hK => ?_) AllReadyH.nil)
                              · skip
                                go_simp
                                go_at_call 60
                                go_fit (HO1.out _ kk.drew)
                                rintro e w5 ⟨Ga, rfl, hOa, kk⟩
                                have HOa := Lib.hid hOa
                                clear hOa x0 x1 x2 q0 q1 q2
                                obtain ⟨x0, x1, x2, q0, q1, q2⟩ := HC.out _ kk
                                (try go_wp2_with fail)
                                refine hK.out _ _ (HK.out _ kk) (fun hHeld => ?_)
                                clear hK K
                                (try simp only [Act.put, List.setIfInBounds_toArray, List.set_cons_zero, List.set_cons_succ])
                                refine wpAnyH_ready (rs := [12]) (by kernel_rfl) (by simp) ?_
                                refine AllReadyH.cons (o := { dst := some 132, op := Op.load 95 (Operand.tmp 131), type := 95, pos := _, after := #[{ on := 11, ground := Ground.data }], guard := none }) rfl (fun K hK => ?_) AllReadyH.nil
                                go_simp
                                refine hK.out _ _ (hHeld) (fun hHeld => ?_)
                                clear hK K
                                (try simp only [Act.put, List.setIfInBounds_toArray, List.set_cons_zero, List.set_cons_succ])
                                refine wpAnyH_ready (rs := [15]) (by kernel_rfl) (by simp) ?_
                                refine AllReadyH.cons (o := { dst := some 135, op := Op.call { callee := Callee.value (Operand.func 60), args := #[Operand.tmp 132, Operand.tmp 134], argTypes := #[95, 95] }, type := 95, pos := _, after := #[{ on := 12, ground := Ground.data }, { on := 14, ground := Ground.data }, { on := 10, ground := Ground.chain }], guard := none }) rfl (fun K hK => ?_) AllReadyH.nil
                                go_simp
                                go_at_call 60
                                go_fit (HO2.out _ kk Ga HOa.out)
                                rintro e w6 ⟨Gb, rfl, hOb, kk⟩
                                have H5 := Lib.hid hOb
                                clear hOb x0 x1 x2 q0 q1 q2 f0 f1 f2 hxl
                                obtain ⟨⟨f0, f1, f2⟩, hxl⟩ := HZ.out _ kk
                                obtain ⟨x0, x1, x2, q0, q1, q2⟩ := HC.out _ kk
                                (try go_wp2_with fail)
                                refine hK.out _ _ (HK.out _ kk) (fun hHeld => ?_)
                                clear hK K
                                (try simp only [Act.put, List.setIfInBounds_toArray, List.set_cons_zero, List.set_cons_succ])
                                refine wpAnyH_take (i := 16) (oi := { dst := some 136, op := Op.build 128 #[(0, Operand.tmp 125), (1, Operand.tmp 130), (2, Operand.tmp 135)], type := 128, pos := _, after := #[{ on := 5, ground := Ground.data }, { on := 10, ground := Ground.data }, { on := 15, ground := Ground.data }], guard := none }) (v := ?v49) rfl (by kernel_rfl) (by kernel_rfl) (by kernel_rfl) (fun _ _ _ h => h) (Or.inl ⟨by rfl, ?h49⟩) (by assumption) ?r49
                                case h49 => (intro w hSw; (try dsimp only at hSw); go_simp; (try with_reducible rfl))
                                case r49 =>
                                  (try simp only [Act.put, List.setIfInBounds_toArray, List.set_cons_zero, List.set_cons_succ])
                                  refine wpAnyH_ready (rs := [17]) (by kernel_rfl) (by simp) ?_
                                  refine AllReadyH.cons (o := { dst := none, op := Op.store 128 (Operand.tmp 12) (Operand.tmp 136), type := 0, pos := _, after := #[{ on := 16, ground := Ground.data }, { on := 15, ground := Ground.chain }, { on := 0, ground := Ground.phase }, { on := 1, ground := Ground.phase }, { on := 2, ground := Ground.phase }, { on := 3, ground := Ground.phase }, { on := 4, ground := Ground.phase }, { on := 5, ground := Ground.phase }, { on := 6, ground := Ground.phase }, { on := 7, ground := Ground.phase }, { on := 8, ground := Ground.phase }, { on := 9, ground := Ground.phase }, { on := 10, ground := Ground.phase }, { on := 11, ground := Ground.phase }, { on := 12, ground := Ground.phase }, { on := 13, ground := Ground.phase }, { on := 14, ground := Ground.phase }, { on := 15, ground := Ground.phase }, { on := 16, ground := Ground.phase }], guard := none }) rfl (fun K hK => ?_) AllReadyH.nil
                                  go_simp
                                  refine hK.out _ _ (HKS.out _ kk _ _ _) (fun hHeld => ?_)
                                  clear hK K
                                  (try simp only [Act.put, List.setIfInBounds_toArray, List.set_cons_zero, List.set_cons_succ])
                                  refine wpAnyH_done (by kernel_rfl) ?_ _
                                  clear HC HZ HK HKS HO1 HO2 x0 x1 x2 q0 q1 q2 f0 f1 f2 hxl
                                  go_wp2_with fail
                                  refine ⟨⟨i + 1, by go_num, hlt, ?_⟩, by simp [intOf] <;> omega⟩
                                  rw [HGS.out.1, HGS.out.2, HT.out]
                                  exact Lib.hid ⟨sx, _, _, H5.out.congr fun i j => by simp [orF2, Bool.or_assoc]⟩
                              · skip
                                go_simp
                                refine hK.out _ _ (hHeld) (fun hHeld => ?_)
                                clear hK K
                                (try simp only [Act.put, List.setIfInBounds_toArray, List.set_cons_zero, List.set_cons_succ])
                                refine wpAnyH_ready (rs := [10]) (by kernel_rfl) (by simp) ?_
                                refine AllReadyH.cons (o := { dst := some 130, op := Op.call { callee := Callee.value (Operand.func 60), args := #[Operand.tmp 127, Operand.tmp 129], argTypes := #[95, 95] }, type := 95, pos := _, after := #[{ on := 7, ground := Ground.data }, { on := 9, ground := Ground.data }, { on := 2, ground := Ground.chain }], guard := none }) rfl (fun K hK => ?_) AllReadyH.nil
                                go_simp
                                go_at_call 60
                                go_fit (HO1.out _ kk.drew)
                                rintro e w5 ⟨Ga, rfl, hOa, kk⟩
                                have HOa := Lib.hid hOa
                                clear hOa x0 x1 x2 q0 q1 q2
                                obtain ⟨x0, x1, x2, q0, q1, q2⟩ := HC.out _ kk
                                (try go_wp2_with fail)
                                refine hK.out _ _ (HK.out _ kk) (fun hHeld => ?_)
                                clear hK K
                                (try simp only [Act.put, List.setIfInBounds_toArray, List.set_cons_zero, List.set_cons_succ])
                                refine wpAnyH_ready (rs := [15]) (by kernel_rfl) (by simp) ?_
                                refine AllReadyH.cons (o := { dst := some 135, op := Op.call { callee := Callee.value (Operand.func 60), args := #[Operand.tmp 132, Operand.tmp 134], argTypes := #[95, 95] }, type := 95, pos := _, after := #[{ on := 12, ground := Ground.data }, { on := 14, ground := Ground.data }, { on := 10, ground := Ground.chain }], guard := none }) rfl (fun K hK => ?_) AllReadyH.nil
                                go_simp
                                go_at_call 60
                                go_fit (HO2.out _ kk Ga HOa.out)
                                rintro e w6 ⟨Gb, rfl, hOb, kk⟩
                                have H5 := Lib.hid hOb
                                clear hOb x0 x1 x2 q0 q1 q2 f0 f1 f2 hxl
                                obtain ⟨⟨f0, f1, f2⟩, hxl⟩ := HZ.out _ kk
                                obtain ⟨x0, x1, x2, q0, q1, q2⟩ := HC.out _ kk
                                (try go_wp2_with fail)
                                refine hK.out _ _ (HK.out _ kk) (fun hHeld => ?_)
                                clear hK K
                                (try simp only [Act.put, List.setIfInBounds_toArray, List.set_cons_zero, List.set_cons_succ])
                                refine wpAnyH_take (i := 16) (oi := { dst := some 136, op := Op.build 128 #[(0, Operand.tmp 125), (1, Operand.tmp 130), (2, Operand.tmp 135)], type := 128, pos := _, after := #[{ on := 5, ground := Ground.data }, { on := 10, ground := Ground.data }, { on := 15, ground := Ground.data }], guard := none }) (v := ?v50) rfl (by kernel_rfl) (by kernel_rfl) (by kernel_rfl) (fun _ _ _ h => h) (Or.inl ⟨by rfl, ?h50⟩) (by assumption) ?r50
                                case h50 => (intro w hSw; (try dsimp only at hSw); go_simp; (try with_reducible rfl))
                                case r50 =>
                                  (try simp only [Act.put, List.setIfInBounds_toArray, List.set_cons_zero, List.set_cons_succ])
                                  refine wpAnyH_ready (rs := [17]) (by kernel_rfl) (by simp) ?_
                                  refine AllReadyH.cons (o := { dst := none, op := Op.store 128 (Operand.tmp 12) (Operand.tmp 136), type := 0, pos := _, after := #[{ on := 16, ground := Ground.data }, { on := 15, ground := Ground.chain }, { on := 0, ground := Ground.phase }, { on := 1, ground := Ground.phase }, { on := 2, ground := Ground.phase }, { on := 3, ground := Ground.phase }, { on := 4, ground := Ground.phase }, { on := 5, ground := Ground.phase }, { on := 6, ground := Ground.phase }, { on := 7, ground := Ground.phase }, { on := 8, ground := Ground.phase }, { on := 9, ground := Ground.phase }, { on := 10, ground := Ground.phase }, { on := 11, ground := Ground.phase }, { on := 12, ground := Ground.phase }, { on := 13, ground := Ground.phase }, { on := 14, ground := Ground.phase }, { on := 15, ground := Ground.phase }, { on := 16, ground := Ground.phase }], guard := none }) rfl (fun K hK => ?_) AllReadyH.nil
                                  go_simp
                                  refine hK.out _ _ (HKS.out _ kk _ _ _) (fun hHeld => ?_)
                                  clear hK K
                                  (try simp only [Act.put, List.setIfInBounds_toArray, List.set_cons_zero, List.set_cons_succ])
                                  refine wpAnyH_done (by kernel_rfl) ?_ _
                                  clear HC HZ HK HKS HO1 HO2 x0 x1 x2 q0 q1 q2 f0 f1 f2 hxl
                                  go_wp2_with fail
                                  refine ⟨⟨i + 1, by go_num, hlt, ?_⟩, by simp [intOf] <;> omega⟩
                                  rw [HGS.out.1, HGS.out.2, HT.out]
                                  exact Lib.hid ⟨sx, _, _, H5.out.congr fun i j => by simp [orF2, Bool.or_assoc]⟩
                        · skip
                          go_simp
                          refine hK.out _ _ (hHeld) (fun hHeld => ?_)
                          clear hK K
                          (try simp only [Act.put, List.setIfInBounds_toArray, List.set_cons_zero, List.set_cons_succ])
                          refine wpAnyH_ready (rs := [1]) (by kernel_rfl) (by simp) ?_
                          refine AllReadyH.cons (o := { dst := some 121, op := Op.load 4 (Operand.tmp 120), type := 4, pos := _, after := #[{ on := 0, ground := Ground.data }], guard := none }) rfl (fun K hK => ?_) AllReadyH.nil
                          go_simp
                          refine hK.out _ _ (hHeld) (fun hHeld => ?_)
                          clear hK K
                          (try simp only [Act.put, List.setIfInBounds_toArray, List.set_cons_zero, List.set_cons_succ])
                          refine wpAnyH_take (i := 2) (oi := { dst := some 122, op := Op.move (Operand.tmp 121), type := 4, pos := _, after := #[{ on := 1, ground := Ground.data }], guard := none }) (v := ?v51) rfl (by kernel_rfl) (by kernel_rfl) (by kernel_rfl) (fun _ _ _ h => h) (Or.inl ⟨by rfl, ?h51⟩) (by assumption) ?r51
                          case h51 => (intro w hSw; (try dsimp only at hSw); go_simp; (try with_reducible rfl))
                          case r51 =>
                            (try simp only [Act.put, List.setIfInBounds_toArray, List.set_cons_zero, List.set_cons_succ])
                            refine wpAnyH_take (i := 3) (oi := { dst := some 123, op := Op.fieldAddr 128 (Operand.tmp 14) 0, type := 0, pos := _, after := #[{ on := 2, ground := Ground.guard }], guard := some (2, false) }) (v := undef) rfl (by kernel_rfl) (by kernel_rfl) (by kernel_rfl) (fun _ _ _ h => h) (Or.inr ⟨by rfl, rfl⟩) (by assumption) ?_
                            (try simp only [Act.put, List.setIfInBounds_toArray, List.set_cons_zero, List.set_cons_succ])
                            refine wpAnyH_take (i := 4) (oi := { dst := some 124, op := Op.load 4 (Operand.tmp 123), type := 4, pos := _, after := #[{ on := 3, ground := Ground.data }, { on := 2, ground := Ground.guard }], guard := some (2, false) }) (v := undef) rfl (by kernel_rfl) (by kernel_rfl) (by kernel_rfl) (fun _ _ _ h => h) (Or.inr ⟨by rfl, rfl⟩) (by assumption) ?_
                            (try simp only [Act.put, List.setIfInBounds_toArray, List.set_cons_zero, List.set_cons_succ])
                            refine wpAnyH_take (i := 5) (oi := { dst := some 125, op := Op.pick (Operand.tmp 122) (Operand.const (Value.bool true)) (Operand.tmp 124), type := 4, pos := _, after := #[{ on := 2, ground := Ground.data }, { on := 4, ground := Ground.data }], guard := none }) (v := ?v52) rfl (by kernel_rfl) (by kernel_rfl) (by kernel_rfl) (fun _ _ _ h => h) (Or.inl ⟨by rfl, ?h52⟩) (by assumption) ?r52
                            case h52 => (intro w hSw; (try dsimp only at hSw); go_simp; (try with_reducible rfl))
                            case r52 =>
                              (try simp only [Act.put, List.setIfInBounds_toArray, List.set_cons_zero, List.set_cons_succ])
                              refine wpAnyH_ready (rs := [10]) (by kernel_rfl) (by simp) ?_
                              refine AllReadyH.cons (o := { dst := some 130, op := Op.call { callee := Callee.value (Operand.func 60), args := #[Operand.tmp 127, Operand.tmp 129], argTypes := #[95, 95] }, type := 95, pos := _, after := #[{ on := 7, ground := Ground.data }, { on := 9, ground := Ground.data }, { on := 2, ground := Ground.chain }], guard := none }) rfl (fun K hK => ?_) AllReadyH.nil
                              go_simp
                              go_at_call 60
                              go_fit (HO1.out _ kk.drew)
                              rintro e w5 ⟨Ga, rfl, hOa, kk⟩
                              have HOa := Lib.hid hOa
                              clear hOa x0 x1 x2 q0 q1 q2
                              obtain ⟨x0, x1, x2, q0, q1, q2⟩ := HC.out _ kk
                              (try go_wp2_with fail)
                              refine hK.out _ _ (HK.out _ kk) (fun hHeld => ?_)
                              clear hK K
                              (try simp only [Act.put, List.setIfInBounds_toArray, List.set_cons_zero, List.set_cons_succ])
                              refine wpAnyH_ready (rs := [15]) (by kernel_rfl) (by simp) ?_
                              refine AllReadyH.cons (o := { dst := some 135, op := Op.call { callee := Callee.value (Operand.func 60), args := #[Operand.tmp 132, Operand.tmp 134], argTypes := #[95, 95] }, type := 95, pos := _, after := #[{ on := 12, ground := Ground.data }, { on := 14, ground := Ground.data }, { on := 10, ground := Ground.chain }], guard := none }) rfl (fun K hK => ?_) AllReadyH.nil
                              go_simp
                              go_at_call 60
                              go_fit (HO2.out _ kk Ga HOa.out)
                              rintro e w6 ⟨Gb, rfl, hOb, kk⟩
                              have H5 := Lib.hid hOb
                              clear hOb x0 x1 x2 q0 q1 q2 f0 f1 f2 hxl
                              obtain ⟨⟨f0, f1, f2⟩, hxl⟩ := HZ.out _ kk
                              obtain ⟨x0, x1, x2, q0, q1, q2⟩ := HC.out _ kk
                              (try go_wp2_with fail)
                              refine hK.out _ _ (HK.out _ kk) (fun hHeld => ?_)
                              clear hK K
                              (try simp only [Act.put, List.setIfInBounds_toArray, List.set_cons_zero, List.set_cons_succ])
                              refine wpAnyH_take (i := 16) (oi := { dst := some 136, op := Op.build 128 #[(0, Operand.tmp 125), (1, Operand.tmp 130), (2, Operand.tmp 135)], type := 128, pos := _, after := #[{ on := 5, ground := Ground.data }, { on := 10, ground := Ground.data }, { on := 15, ground := Ground.data }], guard := none }) (v := ?v53) rfl (by kernel_rfl) (by kernel_rfl) (by kernel_rfl) (fun _ _ _ h => h) (Or.inl ⟨by rfl, ?h53⟩) (by assumption) ?r53
                              case h53 => (intro w hSw; (try dsimp only at hSw); go_simp; (try with_reducible rfl))
                              case r53 =>
                                (try simp only [Act.put, List.setIfInBounds_toArray, List.set_cons_zero, List.set_cons_succ])
                                refine wpAnyH_ready (rs := [17]) (by kernel_rfl) (by simp) ?_
                                refine AllReadyH.cons (o := { dst := none, op := Op.store 128 (Operand.tmp 12) (Operand.tmp 136), type := 0, pos := _, after := #[{ on := 16, ground := Ground.data }, { on := 15, ground := Ground.chain }, { on := 0, ground := Ground.phase }, { on := 1, ground := Ground.phase }, { on := 2, ground := Ground.phase }, { on := 3, ground := Ground.phase }, { on := 4, ground := Ground.phase }, { on := 5, ground := Ground.phase }, { on := 6, ground := Ground.phase }, { on := 7, ground := Ground.phase }, { on := 8, ground := Ground.phase }, { on := 9, ground := Ground.phase }, { on := 10, ground := Ground.phase }, { on := 11, ground := Ground.phase }, { on := 12, ground := Ground.phase }, { on := 13, ground := Ground.phase }, { on := 14, ground := Ground.phase }, { on := 15, ground := Ground.phase }, { on := 16, ground := Ground.phase }], guard := none }) rfl (fun K hK => ?_) AllReadyH.nil
                                go_simp
                                refine hK.out _ _ (HKS.out _ kk _ _ _) (fun hHeld => ?_)
                                clear hK K
                                (try simp only [Act.put, List.setIfInBounds_toArray, List.set_cons_zero, List.set_cons_succ])
                                refine wpAnyH_done (by kernel_rfl) ?_ _
                                clear HC HZ HK HKS HO1 HO2 x0 x1 x2 q0 q1 q2 f0 f1 f2 hxl
                                go_wp2_with fail
                                refine ⟨⟨i + 1, by go_num, hlt, ?_⟩, by simp [intOf] <;> omega⟩
                                rw [HGS.out.1, HGS.out.2, HT.out]
                                exact Lib.hid ⟨sx, _, _, H5.out.congr fun i j => by simp [orF2, Bool.or_assoc]⟩
                      · skip
                        go_simp
                        refine hK.out _ _ (hHeld) (fun hHeld => ?_)
                        clear hK K
                        (try simp only [Act.put, List.setIfInBounds_toArray, List.set_cons_zero, List.set_cons_succ])
                        refine wpAnyH_ready (rs := [1, 7]) (by kernel_rfl) (by simp) ?_
                        refine AllReadyH.cons (o := { dst := some 121, op := Op.load 4 (Operand.tmp 120), type := 4, pos := _, after := #[{ on := 0, ground := Ground.data }], guard := none }) rfl (fun K hK => ?_) (AllReadyH.cons (o := { dst := some 127, op := Op.load 95 (Operand.tmp 126), type := 95, pos := _, after := #[{ on := 6, ground := Ground.data }], guard := none }) rfl (fun K hK => ?_) AllReadyH.nil)
                        · skip
                          go_simp
                          refine hK.out _ _ (hHeld) (fun hHeld => ?_)
                          clear hK K
                          (try simp only [Act.put, List.setIfInBounds_toArray, List.set_cons_zero, List.set_cons_succ])
                          refine wpAnyH_take (i := 2) (oi := { dst := some 122, op := Op.move (Operand.tmp 121), type := 4, pos := _, after := #[{ on := 1, ground := Ground.data }], guard := none }) (v := ?v54) rfl (by kernel_rfl) (by kernel_rfl) (by kernel_rfl) (fun _ _ _ h => h) (Or.inl ⟨by rfl, ?h54⟩) (by assumption) ?r54
                          case h54 => (intro w hSw; (try dsimp only at hSw); go_simp; (try with_reducible rfl))
                          case r54 =>
                            (try simp only [Act.put, List.setIfInBounds_toArray, List.set_cons_zero, List.set_cons_succ])
                            refine wpAnyH_take (i := 3) (oi := { dst := some 123, op := Op.fieldAddr 128 (Operand.tmp 14) 0, type := 0, pos := _, after := #[{ on := 2, ground := Ground.guard }], guard := some (2, false) }) (v := undef) rfl (by kernel_rfl) (by kernel_rfl) (by kernel_rfl) (fun _ _ _ h => h) (Or.inr ⟨by rfl, rfl⟩) (by assumption) ?_
                            (try simp only [Act.put, List.setIfInBounds_toArray, List.set_cons_zero, List.set_cons_succ])
                            refine wpAnyH_take (i := 4) (oi := { dst := some 124, op := Op.load 4 (Operand.tmp 123), type := 4, pos := _, after := #[{ on := 3, ground := Ground.data }, { on := 2, ground := Ground.guard }], guard := some (2, false) }) (v := undef) rfl (by kernel_rfl) (by kernel_rfl) (by kernel_rfl) (fun _ _ _ h => h) (Or.inr ⟨by rfl, rfl⟩) (by assumption) ?_
                            (try simp only [Act.put, List.setIfInBounds_toArray, List.set_cons_zero, List.set_cons_succ])
                            refine wpAnyH_take (i := 5) (oi := { dst := some 125, op := Op.pick (Operand.tmp 122) (Operand.const (Value.bool true)) (Operand.tmp 124), type := 4, pos := _, after := #[{ on := 2, ground := Ground.data }, { on := 4, ground := Ground.data }], guard := none }) (v := ?v55) rfl (by kernel_rfl) (by kernel_rfl) (by kernel_rfl) (fun _ _ _ h => h) (Or.inl ⟨by rfl, ?h55⟩) (by assumption) ?r55
                            case h55 => (intro w hSw; (try dsimp only at hSw); go_simp; (try with_reducible rfl))
                            case r55 =>
                              (try simp only [Act.put, List.setIfInBounds_toArray, List.set_cons_zero, List.set_cons_succ])
                              refine wpAnyH_ready (rs := [7]) (by kernel_rfl) (by simp) ?_
                              refine AllReadyH.cons (o := { dst := some 127, op := Op.load 95 (Operand.tmp 126), type := 95, pos := _, after := #[{ on := 6, ground := Ground.data }], guard := none }) rfl (fun K hK => ?_) AllReadyH.nil
                              go_simp
                              refine hK.out _ _ (hHeld) (fun hHeld => ?_)
                              clear hK K
                              (try simp only [Act.put, List.setIfInBounds_toArray, List.set_cons_zero, List.set_cons_succ])
                              refine wpAnyH_ready (rs := [10]) (by kernel_rfl) (by simp) ?_
                              refine AllReadyH.cons (o := { dst := some 130, op := Op.call { callee := Callee.value (Operand.func 60), args := #[Operand.tmp 127, Operand.tmp 129], argTypes := #[95, 95] }, type := 95, pos := _, after := #[{ on := 7, ground := Ground.data }, { on := 9, ground := Ground.data }, { on := 2, ground := Ground.chain }], guard := none }) rfl (fun K hK => ?_) AllReadyH.nil
                              go_simp
                              go_at_call 60
                              go_fit (HO1.out _ kk.drew)
                              rintro e w5 ⟨Ga, rfl, hOa, kk⟩
                              have HOa := Lib.hid hOa
                              clear hOa x0 x1 x2 q0 q1 q2
                              obtain ⟨x0, x1, x2, q0, q1, q2⟩ := HC.out _ kk
                              (try go_wp2_with fail)
                              refine hK.out _ _ (HK.out _ kk) (fun hHeld => ?_)
                              clear hK K
                              (try simp only [Act.put, List.setIfInBounds_toArray, List.set_cons_zero, List.set_cons_succ])
                              refine wpAnyH_ready (rs := [15]) (by kernel_rfl) (by simp) ?_
                              refine AllReadyH.cons (o := { dst := some 135, op := Op.call { callee := Callee.value (Operand.func 60), args := #[Operand.tmp 132, Operand.tmp 134], argTypes := #[95, 95] }, type := 95, pos := _, after := #[{ on := 12, ground := Ground.data }, { on := 14, ground := Ground.data }, { on := 10, ground := Ground.chain }], guard := none }) rfl (fun K hK => ?_) AllReadyH.nil
                              go_simp
                              go_at_call 60
                              go_fit (HO2.out _ kk Ga HOa.out)
                              rintro e w6 ⟨Gb, rfl, hOb, kk⟩
                              have H5 := Lib.hid hOb
                              clear hOb x0 x1 x2 q0 q1 q2 f0 f1 f2 hxl
                              obtain ⟨⟨f0, f1, f2⟩, hxl⟩ := HZ.out _ kk
                              obtain ⟨x0, x1, x2, q0, q1, q2⟩ := HC.out _ kk
                              (try go_wp2_with fail)
                              refine hK.out _ _ (HK.out _ kk) (fun hHeld => ?_)
                              clear hK K
                              (try simp only [Act.put, List.setIfInBounds_toArray, List.set_cons_zero, List.set_cons_succ])
                              refine wpAnyH_take (i := 16) (oi := { dst := some 136, op := Op.build 128 #[(0, Operand.tmp 125), (1, Operand.tmp 130), (2, Operand.tmp 135)], type := 128, pos := _, after := #[{ on := 5, ground := Ground.data }, { on := 10, ground := Ground.data }, { on := 15, ground := Ground.data }], guard := none }) (v := ?v56) rfl (by kernel_rfl) (by kernel_rfl) (by kernel_rfl) (fun _ _ _ h => h) (Or.inl ⟨by rfl, ?h56⟩) (by assumption) ?r56
                              case h56 => (intro w hSw; (try dsimp only at hSw); go_simp; (try with_reducible rfl))
                              case r56 =>
                                (try simp only [Act.put, List.setIfInBounds_toArray, List.set_cons_zero, List.set_cons_succ])
                                refine wpAnyH_ready (rs := [17]) (by kernel_rfl) (by simp) ?_
                                refine AllReadyH.cons (o := { dst := none, op := Op.store 128 (Operand.tmp 12) (Operand.tmp 136), type := 0, pos := _, after := #[{ on := 16, ground := Ground.data }, { on := 15, ground := Ground.chain }, { on := 0, ground := Ground.phase }, { on := 1, ground := Ground.phase }, { on := 2, ground := Ground.phase }, { on := 3, ground := Ground.phase }, { on := 4, ground := Ground.phase }, { on := 5, ground := Ground.phase }, { on := 6, ground := Ground.phase }, { on := 7, ground := Ground.phase }, { on := 8, ground := Ground.phase }, { on := 9, ground := Ground.phase }, { on := 10, ground := Ground.phase }, { on := 11, ground := Ground.phase }, { on := 12, ground := Ground.phase }, { on := 13, ground := Ground.phase }, { on := 14, ground := Ground.phase }, { on := 15, ground := Ground.phase }, { on := 16, ground := Ground.phase }], guard := none }) rfl (fun K hK => ?_) AllReadyH.nil
                                go_simp
                                refine hK.out _ _ (HKS.out _ kk _ _ _) (fun hHeld => ?_)
                                clear hK K
                                (try simp only [Act.put, List.setIfInBounds_toArray, List.set_cons_zero, List.set_cons_succ])
                                refine wpAnyH_done (by kernel_rfl) ?_ _
                                clear HC HZ HK HKS HO1 HO2 x0 x1 x2 q0 q1 q2 f0 f1 f2 hxl
                                go_wp2_with fail
                                refine ⟨⟨i + 1, by go_num, hlt, ?_⟩, by simp [intOf] <;> omega⟩
                                rw [HGS.out.1, HGS.out.2, HT.out]
                                exact Lib.hid ⟨sx, _, _, H5.out.congr fun i j => by simp [orF2, Bool.or_assoc]⟩
                        · skip
                          go_simp
                          refine hK.out _ _ (hHeld) (fun hHeld => ?_)
                          clear hK K
                          (try simp only [Act.put, List.setIfInBounds_toArray, List.set_cons_zero, List.set_cons_succ])
                          refine wpAnyH_ready (rs := [1]) (by kernel_rfl) (by simp) ?_
                          refine AllReadyH.cons (o := { dst := some 121, op := Op.load 4 (Operand.tmp 120), type := 4, pos := _, after := #[{ on := 0, ground := Ground.data }], guard := none }) rfl (fun K hK => ?_) AllReadyH.nil
                          go_simp
                          refine hK.out _ _ (hHeld) (fun hHeld => ?_)
                          clear hK K
                          (try simp only [Act.put, List.setIfInBounds_toArray, List.set_cons_zero, List.set_cons_succ])
                          refine wpAnyH_take (i := 2) (oi := { dst := some 122, op := Op.move (Operand.tmp 121), type := 4, pos := _, after := #[{ on := 1, ground := Ground.data }], guard := none }) (v := ?v57) rfl (by kernel_rfl) (by kernel_rfl) (by kernel_rfl) (fun _ _ _ h => h) (Or.inl ⟨by rfl, ?h57⟩) (by assumption) ?r57
                          case h57 => (intro w hSw; (try dsimp only at hSw); go_simp; (try with_reducible rfl))
                          case r57 =>
                            (try simp only [Act.put, List.setIfInBounds_toArray, List.set_cons_zero, List.set_cons_succ])
                            refine wpAnyH_take (i := 3) (oi := { dst := some 123, op := Op.fieldAddr 128 (Operand.tmp 14) 0, type := 0, pos := _, after := #[{ on := 2, ground := Ground.guard }], guard := some (2, false) }) (v := undef) rfl (by kernel_rfl) (by kernel_rfl) (by kernel_rfl) (fun _ _ _ h => h) (Or.inr ⟨by rfl, rfl⟩) (by assumption) ?_
                            (try simp only [Act.put, List.setIfInBounds_toArray, List.set_cons_zero, List.set_cons_succ])
                            refine wpAnyH_take (i := 4) (oi := { dst := some 124, op := Op.load 4 (Operand.tmp 123), type := 4, pos := _, after := #[{ on := 3, ground := Ground.data }, { on := 2, ground := Ground.guard }], guard := some (2, false) }) (v := undef) rfl (by kernel_rfl) (by kernel_rfl) (by kernel_rfl) (fun _ _ _ h => h) (Or.inr ⟨by rfl, rfl⟩) (by assumption) ?_
                            (try simp only [Act.put, List.setIfInBounds_toArray, List.set_cons_zero, List.set_cons_succ])
                            refine wpAnyH_take (i := 5) (oi := { dst := some 125, op := Op.pick (Operand.tmp 122) (Operand.const (Value.bool true)) (Operand.tmp 124), type := 4, pos := _, after := #[{ on := 2, ground := Ground.data }, { on := 4, ground := Ground.data }], guard := none }) (v := ?v58) rfl (by kernel_rfl) (by kernel_rfl) (by kernel_rfl) (fun _ _ _ h => h) (Or.inl ⟨by rfl, ?h58⟩) (by assumption) ?r58
                            case h58 => (intro w hSw; (try dsimp only at hSw); go_simp; (try with_reducible rfl))
                            case r58 =>
                              (try simp only [Act.put, List.setIfInBounds_toArray, List.set_cons_zero, List.set_cons_succ])
                              refine wpAnyH_ready (rs := [10]) (by kernel_rfl) (by simp) ?_
                              refine AllReadyH.cons (o := { dst := some 130, op := Op.call { callee := Callee.value (Operand.func 60), args := #[Operand.tmp 127, Operand.tmp 129], argTypes := #[95, 95] }, type := 95, pos := _, after := #[{ on := 7, ground := Ground.data }, { on := 9, ground := Ground.data }, { on := 2, ground := Ground.chain }], guard := none }) rfl (fun K hK => ?_) AllReadyH.nil
                              go_simp
                              go_at_call 60
                              go_fit (HO1.out _ kk.drew)
                              rintro e w5 ⟨Ga, rfl, hOa, kk⟩
                              have HOa := Lib.hid hOa
                              clear hOa x0 x1 x2 q0 q1 q2
                              obtain ⟨x0, x1, x2, q0, q1, q2⟩ := HC.out _ kk
                              (try go_wp2_with fail)
                              refine hK.out _ _ (HK.out _ kk) (fun hHeld => ?_)
                              clear hK K
                              (try simp only [Act.put, List.setIfInBounds_toArray, List.set_cons_zero, List.set_cons_succ])
                              refine wpAnyH_ready (rs := [15]) (by kernel_rfl) (by simp) ?_
                              refine AllReadyH.cons (o := { dst := some 135, op := Op.call { callee := Callee.value (Operand.func 60), args := #[Operand.tmp 132, Operand.tmp 134], argTypes := #[95, 95] }, type := 95, pos := _, after := #[{ on := 12, ground := Ground.data }, { on := 14, ground := Ground.data }, { on := 10, ground := Ground.chain }], guard := none }) rfl (fun K hK => ?_) AllReadyH.nil
                              go_simp
                              go_at_call 60
                              go_fit (HO2.out _ kk Ga HOa.out)
                              rintro e w6 ⟨Gb, rfl, hOb, kk⟩
                              have H5 := Lib.hid hOb
                              clear hOb x0 x1 x2 q0 q1 q2 f0 f1 f2 hxl
                              obtain ⟨⟨f0, f1, f2⟩, hxl⟩ := HZ.out _ kk
                              obtain ⟨x0, x1, x2, q0, q1, q2⟩ := HC.out _ kk
                              (try go_wp2_with fail)
                              refine hK.out _ _ (HK.out _ kk) (fun hHeld => ?_)
                              clear hK K
                              (try simp only [Act.put, List.setIfInBounds_toArray, List.set_cons_zero, List.set_cons_succ])
                              refine wpAnyH_take (i := 16) (oi := { dst := some 136, op := Op.build 128 #[(0, Operand.tmp 125), (1, Operand.tmp 130), (2, Operand.tmp 135)], type := 128, pos := _, after := #[{ on := 5, ground := Ground.data }, { on := 10, ground := Ground.data }, { on := 15, ground := Ground.data }], guard := none }) (v := ?v59) rfl (by kernel_rfl) (by kernel_rfl) (by kernel_rfl) (fun _ _ _ h => h) (Or.inl ⟨by rfl, ?h59⟩) (by assumption) ?r59
                              case h59 => (intro w hSw; (try dsimp only at hSw); go_simp; (try with_reducible rfl))
                              case r59 =>
                                (try simp only [Act.put, List.setIfInBounds_toArray, List.set_cons_zero, List.set_cons_succ])
                                refine wpAnyH_ready (rs := [17]) (by kernel_rfl) (by simp) ?_
                                refine AllReadyH.cons (o := { dst := none, op := Op.store 128 (Operand.tmp 12) (Operand.tmp 136), type := 0, pos := _, after := #[{ on := 16, ground := Ground.data }, { on := 15, ground := Ground.chain }, { on := 0, ground := Ground.phase }, { on := 1, ground := Ground.phase }, { on := 2, ground := Ground.phase }, { on := 3, ground := Ground.phase }, { on := 4, ground := Ground.phase }, { on := 5, ground := Ground.phase }, { on := 6, ground := Ground.phase }, { on := 7, ground := Ground.phase }, { on := 8, ground := Ground.phase }, { on := 9, ground := Ground.phase }, { on := 10, ground := Ground.phase }, { on := 11, ground := Ground.phase }, { on := 12, ground := Ground.phase }, { on := 13, ground := Ground.phase }, { on := 14, ground := Ground.phase }, { on := 15, ground := Ground.phase }, { on := 16, ground := Ground.phase }], guard := none }) rfl (fun K hK => ?_) AllReadyH.nil
                                go_simp
                                refine hK.out _ _ (HKS.out _ kk _ _ _) (fun hHeld => ?_)
                                clear hK K
                                (try simp only [Act.put, List.setIfInBounds_toArray, List.set_cons_zero, List.set_cons_succ])
                                refine wpAnyH_done (by kernel_rfl) ?_ _
                                clear HC HZ HK HKS HO1 HO2 x0 x1 x2 q0 q1 q2 f0 f1 f2 hxl
                                go_wp2_with fail
                                refine ⟨⟨i + 1, by go_num, hlt, ?_⟩, by simp [intOf] <;> omega⟩
                                rw [HGS.out.1, HGS.out.2, HT.out]
                                exact Lib.hid ⟨sx, _, _, H5.out.congr fun i j => by simp [orF2, Bool.or_assoc]⟩
    · have hli : ¬ (i : Int) < (nl : Int) := by omega
      have hall : n.kids.take i = n.kids := List.take_of_length_le (by have := HN.out; omega)
      rw [hall] at HQ
      obtain ⟨G1, hG1⟩ : ∃ G1, altG n.kids S.length failG = G1 := ⟨_, rfl⟩
      rw [hG1] at HQ HG
      obtain ⟨⟨⟨x0, x1, x2⟩, f0, f1, f2⟩, hxl⟩ := HQ.out.cells
      obtain ⟨⟨p0, p1, p2⟩, p3, p4, p5⟩ := HQ.out.l.p.cells
      have hpl := HQ.out.l.p.lt
      obtain ⟨vo, vc, hfV⟩ := bol_form HQ.out.f
      obtain ⟨zo, zc, hlV⟩ := bol_form HQ.out.la
      subst hfV hlV
      have HF := Lib.hid (HQ.out.l.lessC.fin (z := G1.null) HQ.out.f.acc1 HQ.out.la.acc1)
      obtain ⟨⟨y0, y1, y2⟩, _⟩ := HF.out.1.cells
      unfold setP at y0 y1 y2 HF
      clear hall hG1
      go_wp2_with fail
      exact bodyPost_ret (v := .agg #[.bool G1.null, .slice vo m vc, .slice zo m zc]) (by simp [results, Tryd.results59, go_sem, y0, y1, y2]) rfl (layP_mk HG.out.1 HG.out.2 HF.out.2.1 HF.out.2.2.1 HF.out.2.2.2.1 HF.out.2.2.2.2)
end
end Go.Proofs.YtkopbngnhgdfhaaDoor
