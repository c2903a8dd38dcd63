/-
  Texts of this proof, one behind the other; each begins with its own remark.
-/
import Derived.Deep.CutRange
import Derived.Deep.CutBlock
import Derived.Deep.RegionLaw
import Derived.Test.YtkopbngnhgdfhaaDoorBe43
import Derived.Test.YtkopbngnhgdfhaaDoorBe21
import Derived.Test.YtkopbngnhgdfhaaDoorBe7
import Derived.Test.YtkopbngnhgdfhaaDoorBe38
import Derived.Test.YtkopbngnhgdfhaaDoorBe37
/-
  limnerref11.Match: what it returns.
-/
namespace Go.Proofs.YtkopbngnhgdfhaaDoor
open Go.RowKit

/-- What Match tells, of a text from a place on. -/
def matchGA (rs : List RuN) (s : ByteArray) (a : Int) : Int × Int := if a < 0 ∨ (s.size : Int) < a then (0, -1) else matchG rs 0 (restR s a.toNat) 0 (-1)
section
variable {w : World} {v : Value} {rs : List RuN}
theorem rmatch_out (s : ByteArray) (a : Int) (ha : a < 0 ∨ (s.size : Int) < a) (w : World) : Calls Tryd.prog 18 #[v, .string s, .int .i64 a] w fun e w' => e = .returned (.tuple #[.int .i64 0, .int .i64 (-1), .int .i64 0]) ∧ w' = w := by
  by_cases h0 : a < 0
  · clear ha
    go_enter Tryd.func18, Tryd.ntmps18
    go_wp2_with fail
    go_ret3
    exact ⟨rfl, rfl⟩
  · have h1 := ha.resolve_left h0
    clear ha
    go_enter Tryd.func18, Tryd.ntmps18
    go_wp2_with fail
    go_ret3
    exact ⟨rfl, rfl⟩
theorem matchG_next {rs : List RuN} {j : Nat} {r : RuN} (h : rs[j]? = some r) (W : List Nat) (lg ru : Int) : matchG (rs.drop j) j W lg ru = matchG (rs.drop (j + 1)) (j + 1) W (goG r j W startG 0 lg ru).1 (goG r j W startG 0 lg ru).2 := by
  have hk := (List.getElem?_eq_some_iff.1 h).1
  rw [List.drop_eq_getElem_cons hk, (List.getElem?_eq_some_iff.1 h).2, matchG]
set_option maxRecDepth 4000 in
set_option maxHeartbeats 16000000 in
theorem rmatch_in (h : RusW w v rs) (hok : ∀ r, r ∈ rs → ∀ st, st ∈ r.sets → OkR st) (hl : rs.length ≤ 64) (s : ByteArray) (hs : s.size ≤ 1000) (a : Nat) (ha : a ≤ s.size) :
    Calls Tryd.prog 18 #[v, .string s, .int .i64 (a : Int)] w fun e w' => (∃ far : Int, e = .returned (.tuple #[.int .i64 (matchG rs 0 (restR s a) 0 (-1)).1, .int .i64 (matchG rs 0 (restR s a) 0 (-1)).2, .int .i64 far])) ∧ Below w.heap.size w w' := by
  obtain ⟨vo, vc, rfl, hvc⟩ := h.form
  have HV := Lib.hid h
  have HOK := Lib.hid hok
  obtain ⟨m, hm⟩ : ∃ m, rs.length = m := ⟨_, rfl⟩
  have HM := Lib.hid hm
  rw [hm] at hvc hl HV ⊢
  have a0 : (0 : Int) ≤ (a : Int) := by omega
  have a0' : decide ((a : Int) < 0) = false := decide_eq_false (by omega)
  have a1 : (a : Int) ≤ (s.size : Int) := by omega
  have a1' : ¬ (a : Int) > (s.size : Int) := by omega
  have hsz : (s.size : Int) ≤ 1000 := by omega
  clear h hm hok
  have H0 : Hid (Below w.heap.size w w ∧ matchG (rs.drop 0) 0 (restR s a) 0 (-1) = matchG rs 0 (restR s a) 0 (-1)) := Lib.hid ⟨Below.refl _ _, rfl⟩
  go_enter Tryd.func18, Tryd.ntmps18
  go_wp2_with fail
  go_loopw [9, 10, 11, 12] (fun s9 s10 s11 s12 wr => ∃ (j : Nat) (lg ru fr : Int), s12 = .int .i64 (j : Int) ∧ j ≤ m ∧ s9 = .int .i64 lg ∧ s10 = .int .i64 ru ∧ s11 = .int .i64 fr ∧ Hid (Below w.heap.size w wr ∧ matchG (rs.drop j) j (restR s a) lg ru = matchG rs 0 (restR s a) 0 (-1))) (fun _ _ _ s12 _ => m - (intOf s12).toNat)
  case atStart => exact ⟨0, 0, -1, 0, rfl, Nat.zero_le _, rfl, rfl, rfl, H0⟩
  case round =>
    obtain ⟨j, lg, ru, fr, rfl, hj, rfl, rfl, rfl, HQ⟩ := hrel
    clear H0
    have j0 : (0 : Int) ≤ (j : Int) := by omega
    have jb : (j : Int) ≤ 64 := by omega
    by_cases hlt : j < m
    · have hli : (j : Int) < (m : Int) := by omega
      have hla : j < rs.length := by have := HM.out; omega
      obtain ⟨r, hr⟩ : ∃ r, rs[j] = r := ⟨_, rfl⟩
      have hil : rs[j]? = some r := by rw [List.getElem?_eq_getElem hla, hr]
      have hget := fun (W : World) (hb : Below w.heap.size w W) => (HV.out.below hb).get hil
      obtain ⟨g, o, c, p, hve, hc, hru⟩ := hget wr HQ.out.1
      injection hve with e1 e2 e3
      subst e1
      clear e2 e3
      have HGT : Hid (∀ W : World, Below w.heap.size w W → W.cell? ⟨g, o + j, none⟩ = some (.pointer p) ∧ RuR W (.pointer p) r) := Lib.hid fun W hb => by
        have hp0 := (keep_below (fun _ => True) (Below.refl wr.heap.size wr))
        obtain ⟨g', o', c', p', hve', hc', hru'⟩ := hget W hb
        injection hve' with e1 e2 e3
        injection e1 with e1
        injection e1 with e1 e4
        subst e1 e4
        have e5 : p' = p := by
          obtain ⟨g2, o2, c2, p2, hv2, hc2, _⟩ := HV.out.get hil
          injection hv2 with e1 e2 e3
          injection e1 with e1
          injection e1 with e1 e4
          subst e1 e4
          have h1 := (keep_below (fun _ => True) hb).cell hc2 trivial
          have h2 := (keep_below (fun _ => True) HQ.out.1).cell hc2 trivial
          rw [h1] at hc'
          rw [h2] at hc
          cases hc'
          cases hc
          rfl
        rw [e5] at hc' hru'
        exact ⟨hc', hru'⟩
      have HSE := Lib.hid (HOK.out r (List.mem_of_getElem? hil))
      have HNX : Hid (matchG (rs.drop (j + 1)) (j + 1) (restR s a) (goG r j (restR s a) startG 0 lg ru).1 (goG r j (restR s a) startG 0 lg ru).2 = matchG rs 0 (restR s a) 0 (-1)) := Lib.hid (by rw [← matchG_next hil]; exact HQ.out.2)
      have HA := Lib.hid (rstart_any hru)
      obtain ⟨rm, hrm⟩ : ∃ rm, r.m = rm := ⟨_, rfl⟩
      have HRM := Lib.hid hrm
      have hrf : rm ≤ 1000 := by rw [← hrm]; exact hru.few
      rw [hrm] at HA
      clear hget hil hla hr hru hrm
      go_wp2_with fail
      go_fit HA.out
      rintro e w2 ⟨G, rfl, hB, hb2⟩
      obtain ⟨R0, hR0⟩ : ∃ R0, goG r j (restR s a) startG 0 lg ru = R0 := ⟨_, rfl⟩
      rw [hR0] at HNX
      have H2 : Hid (∃ (u : Value) (f : Nat → Bool), u = Value.slice (some ⟨G, 0, none⟩) rm rm ∧ BolR w2 u rm f ∧ Below w.heap.size w w2 ∧ goG r j (restR s a) f ((a : Int) - (a : Int)) lg ru = R0) := Lib.hid ⟨_, _, rfl, hB, HQ.out.1.trans (hb2.mono HQ.out.1.size), by rw [Int.sub_self]; exact hR0⟩
      clear hB hb2 HA hR0 HQ hc
      go_wp2_with fail
      go_loopw [9, 10, 11, 13, 14] (fun s9 s10 s11 s13 s14 wr => ∃ (k : Nat) (lg ru fr : Int), s14 = .int .i64 (k : Int) ∧ a ≤ k ∧ k ≤ s.size ∧ s9 = .int .i64 lg ∧ s10 = .int .i64 ru ∧ s11 = .int .i64 fr ∧ Hid (∃ (u : Value) (f : Nat → Bool), u = s13 ∧ BolR wr u rm f ∧ Below w.heap.size w wr ∧ goG r j (restR s k) f ((k : Int) - (a : Int)) lg ru = R0)) (fun _ _ _ _ s14 _ => s.size + 1 - (intOf s14).toNat)
      case atStart => exact ⟨a, lg, ru, fr, rfl, Nat.le_refl _, ha, rfl, rfl, rfl, H2⟩
      case round =>
        obtain ⟨k, lg, ru, fr, rfl, hk0, hk, rfl, rfl, rfl, HX⟩ := hrel
        clear H2
        obtain ⟨u, f, hu, hX⟩ := HX.out
        subst hu
        have HQ := Lib.hid hX
        clear HX hX
        have k0 : (0 : Int) ≤ (k : Int) := by omega
        have kb : (k : Int) ≤ (s.size : Int) := by omega
        have ka : (a : Int) ≤ (k : Int) := by omega
        have kw : IntKind.i64.wrap ((k : Int) - (a : Int)) = (k : Int) - (a : Int) := by apply IntWalk.i64_in <;> omega
        have HAN := Lib.hid (rany_any HQ.out.1 (by omega))
        obtain ⟨an, han⟩ : ∃ an, anyF f rm = an := ⟨_, rfl⟩
        rw [han] at HAN
        cases an with
        | false =>
          have HE : Hid (R0 = (lg, ru)) := Lib.hid (by
            have h1 := HQ.out.2.2
            have h2 : isAny r f = false := by unfold isAny; rw [HRM.out]; exact han
            rcases hre : restR s k with _ | ⟨x, y⟩
            · rw [hre, goG, if_neg (by rw [h2]; decide)] at h1; exact h1.symm
            · rw [hre, goG, if_neg (by rw [h2]; decide)] at h1; exact h1.symm)
          have HB := Lib.hid HQ.out.2.1
          clear han HQ
          go_wp2_with fail
          go_fit HAN.out
          rintro e w3 ⟨rfl, rfl⟩
          go_wp2_with fail
          go_roundw
          case rel => exact ⟨j + 1, lg, ru, fr, by go_num, hlt, rfl, rfl, rfl, Lib.hid ⟨HB.out, by have := HNX.out; rw [HE.out] at this; exact this⟩⟩
          case measure => simp [intOf] <;> omega
        | true =>
          go_wp2_with fail
          go_fit HAN.out
          rintro e w3 ⟨rfl, rfl⟩
          have hany : isAny r f = true := by unfold isAny; rw [HRM.out]; exact han
          have hb4 := HQ.out.2.1
          obtain ⟨hc3, hru3⟩ := HGT.out _ hb4
          have HEN := Lib.hid (rends_any hru3 (by rw [HRM.out]; exact HQ.out.1))
          have hST : ∀ (W : World) (c : Nat), Below w3.heap.size w3 W → c < 256 → Calls Tryd.prog 42 #[.pointer p, u, .int .u8 (c : Int)] W fun e w' => ∃ G, e = .returned (.slice (some ⟨G, 0, none⟩) rm rm) ∧ BolR w' (.slice (some ⟨G, 0, none⟩) rm rm) rm (stepG r f c) ∧ Below w.heap.size w w' := fun W c hb hc => by
            have h1 := rstep_any (hru3.below hb) HSE.out (f := f) (u := u) (by rw [HRM.out]; exact BolR.below HQ.out.1 hb) c hc
            rw [HRM.out] at h1
            exact h1.mono fun e w' ⟨G, x, y, z⟩ => ⟨G, x, y, (hb4.trans (hb.mono hb4.size)).trans (z.mono (Nat.le_trans hb4.size hb.size))⟩
          have HST := Lib.hid hST
          obtain ⟨en, hen⟩ : ∃ en, endsG r f = en := ⟨_, rfl⟩
          rw [hen] at HEN
          have HG := Lib.hid HQ.out.2.2
          have HANY := Lib.hid hany
          have HENE := Lib.hid hen
          have HB4 := Lib.hid hb4
          clear hru3 hST HQ hany hen han hb4
          go_upto_region 12 with (fail)
          obtain ⟨fr2, hfr2⟩ : ∃ fr2, max fr ((k : Int) - (a : Int)) = fr2 := ⟨_, rfl⟩
          (try rw [hfr2])
          clear hfr2
          have hcases : en = false ∨ en = true ∧ ru < 0 ∨ en = true ∧ (¬ ru < 0 ∧ lg < (k : Int) - (a : Int)) ∨ en = true ∧ (¬ ru < 0 ∧ ¬ lg < (k : Int) - (a : Int)) := by
            rcases en with _ | _
            · exact .inl rfl
            · by_cases h1 : ru < 0
              · exact .inr (.inl ⟨rfl, h1⟩)
              · by_cases h2 : lg < (k : Int) - (a : Int)
                · exact .inr (.inr (.inl ⟨rfl, h1, h2⟩))
                · exact .inr (.inr (.inr ⟨rfl, h1, h2⟩))
          have hend : k = s.size ∨ k < s.size := by omega
          rcases hcases with rfl | ⟨rfl, hx1⟩ | ⟨rfl, hx1, hx2⟩ | ⟨rfl, hx1, hx2⟩
          · skip
            rcases hend with he | he
            · have HE : Hid (R0 = (lg, ru)) := Lib.hid (by
                have h1 := HG.out
                rw [show restR s k = [] from List.length_eq_zero_iff.1 (by rw [rest_len]; omega), goG, if_pos HANY.out, if_neg (fun h => by rw [HENE.out] at h; cases h.1)] at h1
                exact h1.symm)
              have hke : ((k : Int) == (s.size : Int)) = true := by rw [he]; simp
              clear he HST
              go_wp2_with fail
              go_fit HEN.out
              rintro e w4 ⟨rfl, rfl⟩
              go_wp2_with fail
              go_roundw
              case rel => exact ⟨j + 1, lg, ru, fr2, by go_num, hlt, rfl, rfl, rfl, Lib.hid ⟨HB4.out, by have := HNX.out; rw [HE.out] at this; exact this⟩⟩
              case measure => simp [intOf] <;> omega
            · have hke : ((k : Int) == (s.size : Int)) = false := beq_eq_false_iff_ne.2 (by omega)
              have hkl : (k : Int) < (s.size : Int) := by omega
              have hb := getR s k he
              have hb2 := bR_lt s k
              have HE : Hid (goG r j (restR s (k + 1)) (stepG r f (bR s k)) (((k + 1 : Nat) : Int) - (a : Int)) lg ru = R0) := Lib.hid (by
                have h1 := HG.out
                rw [rest_cons s k he, goG, if_pos HANY.out, if_neg (fun h => by rw [HENE.out] at h; cases h.1)] at h1
                rw [show ((k + 1 : Nat) : Int) - (a : Int) = (k : Int) - (a : Int) + 1 by omega]
                exact h1)
              obtain ⟨cc, hcc⟩ : ∃ cc, bR s k = cc := ⟨_, rfl⟩
              rw [hcc] at hb hb2 HE
              have HS2 := Lib.hid (fun W hb => HST.out W cc hb hb2)
              clear hcc HST
              go_wp2_with fail
              go_fit HEN.out
              rintro e w4 ⟨rfl, rfl⟩
              go_wp2_with fail
              go_region_law (go_simp; go_at_call 42; go_must (go_fit (HS2.out _ ?_)); (exact ⟨rfl, rfl, rfl, Nat.le_refl _, fun _ _ => rfl⟩); rintro e w6 ⟨G6, rfl, hB6, hb6⟩; have H6 := Lib.hid (And.intro hB6 hb6); clear hB6 hb6)
              all_goals
                go_wp2_with fail
                exact ⟨⟨k + 1, lg, ru, fr2, by go_num, by omega, by omega, rfl, rfl, rfl, Lib.hid ⟨_, _, rfl, H6.out.1, H6.out.2, HE.out⟩⟩, by simp [intOf] <;> omega⟩
          · skip
            rcases hend with he | he
            · have HE : Hid (R0 = (((k : Int) - (a : Int)), (j : Int))) := Lib.hid (by
                have h1 := HG.out
                rw [show restR s k = [] from List.length_eq_zero_iff.1 (by rw [rest_len]; omega), goG, if_pos HANY.out, if_pos ⟨HENE.out, .inl hx1⟩] at h1
                exact h1.symm)
              have hke : ((k : Int) == (s.size : Int)) = true := by rw [he]; simp
              clear he HST
              go_wp2_with fail
              go_fit HEN.out
              rintro e w4 ⟨rfl, rfl⟩
              go_wp2_with fail
              go_roundw
              case rel => exact ⟨j + 1, ((k : Int) - (a : Int)), (j : Int), fr2, by go_num, hlt, rfl, rfl, rfl, Lib.hid ⟨HB4.out, by have := HNX.out; rw [HE.out] at this; exact this⟩⟩
              case measure => simp [intOf] <;> omega
            · have hke : ((k : Int) == (s.size : Int)) = false := beq_eq_false_iff_ne.2 (by omega)
              have hkl : (k : Int) < (s.size : Int) := by omega
              have hb := getR s k he
              have hb2 := bR_lt s k
              have HE : Hid (goG r j (restR s (k + 1)) (stepG r f (bR s k)) (((k + 1 : Nat) : Int) - (a : Int)) ((k : Int) - (a : Int)) (j : Int) = R0) := Lib.hid (by
                have h1 := HG.out
                rw [rest_cons s k he, goG, if_pos HANY.out, if_pos ⟨HENE.out, .inl hx1⟩] at h1
                rw [show ((k + 1 : Nat) : Int) - (a : Int) = (k : Int) - (a : Int) + 1 by omega]
                exact h1)
              obtain ⟨cc, hcc⟩ : ∃ cc, bR s k = cc := ⟨_, rfl⟩
              rw [hcc] at hb hb2 HE
              have HS2 := Lib.hid (fun W hb => HST.out W cc hb hb2)
              clear hcc HST
              go_wp2_with fail
              go_fit HEN.out
              rintro e w4 ⟨rfl, rfl⟩
              go_wp2_with fail
              go_region_law (go_simp; go_at_call 42; go_must (go_fit (HS2.out _ ?_)); (exact ⟨rfl, rfl, rfl, Nat.le_refl _, fun _ _ => rfl⟩); rintro e w6 ⟨G6, rfl, hB6, hb6⟩; have H6 := Lib.hid (And.intro hB6 hb6); clear hB6 hb6)
              all_goals
                go_wp2_with fail
                exact ⟨⟨k + 1, ((k : Int) - (a : Int)), (j : Int), fr2, by go_num, by omega, by omega, rfl, rfl, rfl, Lib.hid ⟨_, _, rfl, H6.out.1, H6.out.2, HE.out⟩⟩, by simp [intOf] <;> omega⟩
          · skip
            have hx3 : (k : Int) - (a : Int) > lg := hx2
            rcases hend with he | he
            · have HE : Hid (R0 = (((k : Int) - (a : Int)), (j : Int))) := Lib.hid (by
                have h1 := HG.out
                rw [show restR s k = [] from List.length_eq_zero_iff.1 (by rw [rest_len]; omega), goG, if_pos HANY.out, if_pos ⟨HENE.out, .inr hx2⟩] at h1
                exact h1.symm)
              have hke : ((k : Int) == (s.size : Int)) = true := by rw [he]; simp
              clear he HST
              go_wp2_with fail
              go_fit HEN.out
              rintro e w4 ⟨rfl, rfl⟩
              go_wp2_with fail
              go_roundw
              case rel => exact ⟨j + 1, ((k : Int) - (a : Int)), (j : Int), fr2, by go_num, hlt, rfl, rfl, rfl, Lib.hid ⟨HB4.out, by have := HNX.out; rw [HE.out] at this; exact this⟩⟩
              case measure => simp [intOf] <;> omega
            · have hke : ((k : Int) == (s.size : Int)) = false := beq_eq_false_iff_ne.2 (by omega)
              have hkl : (k : Int) < (s.size : Int) := by omega
              have hb := getR s k he
              have hb2 := bR_lt s k
              have HE : Hid (goG r j (restR s (k + 1)) (stepG r f (bR s k)) (((k + 1 : Nat) : Int) - (a : Int)) ((k : Int) - (a : Int)) (j : Int) = R0) := Lib.hid (by
                have h1 := HG.out
                rw [rest_cons s k he, goG, if_pos HANY.out, if_pos ⟨HENE.out, .inr hx2⟩] at h1
                rw [show ((k + 1 : Nat) : Int) - (a : Int) = (k : Int) - (a : Int) + 1 by omega]
                exact h1)
              obtain ⟨cc, hcc⟩ : ∃ cc, bR s k = cc := ⟨_, rfl⟩
              rw [hcc] at hb hb2 HE
              have HS2 := Lib.hid (fun W hb => HST.out W cc hb hb2)
              clear hcc HST
              go_wp2_with fail
              go_fit HEN.out
              rintro e w4 ⟨rfl, rfl⟩
              go_wp2_with fail
              go_region_law (go_simp; go_at_call 42; go_must (go_fit (HS2.out _ ?_)); (exact ⟨rfl, rfl, rfl, Nat.le_refl _, fun _ _ => rfl⟩); rintro e w6 ⟨G6, rfl, hB6, hb6⟩; have H6 := Lib.hid (And.intro hB6 hb6); clear hB6 hb6)
              all_goals
                go_wp2_with fail
                exact ⟨⟨k + 1, ((k : Int) - (a : Int)), (j : Int), fr2, by go_num, by omega, by omega, rfl, rfl, rfl, Lib.hid ⟨_, _, rfl, H6.out.1, H6.out.2, HE.out⟩⟩, by simp [intOf] <;> omega⟩
          · skip
            have hx3 : ¬ (k : Int) - (a : Int) > lg := hx2
            rcases hend with he | he
            · have HE : Hid (R0 = (lg, ru)) := Lib.hid (by
                have h1 := HG.out
                rw [show restR s k = [] from List.length_eq_zero_iff.1 (by rw [rest_len]; omega), goG, if_pos HANY.out, if_neg (fun h => h.2.elim hx1 hx2)] at h1
                exact h1.symm)
              have hke : ((k : Int) == (s.size : Int)) = true := by rw [he]; simp
              clear he HST
              go_wp2_with fail
              go_fit HEN.out
              rintro e w4 ⟨rfl, rfl⟩
              go_wp2_with fail
              go_roundw
              case rel => exact ⟨j + 1, lg, ru, fr2, by go_num, hlt, rfl, rfl, rfl, Lib.hid ⟨HB4.out, by have := HNX.out; rw [HE.out] at this; exact this⟩⟩
              case measure => simp [intOf] <;> omega
            · have hke : ((k : Int) == (s.size : Int)) = false := beq_eq_false_iff_ne.2 (by omega)
              have hkl : (k : Int) < (s.size : Int) := by omega
              have hb := getR s k he
              have hb2 := bR_lt s k
              have HE : Hid (goG r j (restR s (k + 1)) (stepG r f (bR s k)) (((k + 1 : Nat) : Int) - (a : Int)) lg ru = R0) := Lib.hid (by
                have h1 := HG.out
                rw [rest_cons s k he, goG, if_pos HANY.out, if_neg (fun h => h.2.elim hx1 hx2)] at h1
                rw [show ((k + 1 : Nat) : Int) - (a : Int) = (k : Int) - (a : Int) + 1 by omega]
                exact h1)
              obtain ⟨cc, hcc⟩ : ∃ cc, bR s k = cc := ⟨_, rfl⟩
              rw [hcc] at hb hb2 HE
              have HS2 := Lib.hid (fun W hb => HST.out W cc hb hb2)
              clear hcc HST
              go_wp2_with fail
              go_fit HEN.out
              rintro e w4 ⟨rfl, rfl⟩
              go_wp2_with fail
              go_region_law (go_simp; go_at_call 42; go_must (go_fit (HS2.out _ ?_)); (exact ⟨rfl, rfl, rfl, Nat.le_refl _, fun _ _ => rfl⟩); rintro e w6 ⟨G6, rfl, hB6, hb6⟩; have H6 := Lib.hid (And.intro hB6 hb6); clear hB6 hb6)
              all_goals
                go_wp2_with fail
                exact ⟨⟨k + 1, lg, ru, fr2, by go_num, by omega, by omega, rfl, rfl, rfl, Lib.hid ⟨_, _, rfl, H6.out.1, H6.out.2, HE.out⟩⟩, by simp [intOf] <;> omega⟩
    · have hli : ¬ (j : Int) < (m : Int) := by omega
      have HE : Hid (matchG rs 0 (restR s a) 0 (-1) = (lg, ru) ∧ Below w.heap.size w wr) := Lib.hid ⟨by
        rw [← HQ.out.2, List.drop_eq_nil_of_le (by have := HM.out; omega), matchG], HQ.out.1⟩
      clear HQ
      go_wp2_with fail
      go_ret3
      exact ⟨⟨fr, by rw [HE.out.1]; rfl⟩, HE.out.2⟩
theorem rmatch_any (h : RusW w v rs) (hok : ∀ r, r ∈ rs → ∀ st, st ∈ r.sets → OkR st) (hl : rs.length ≤ 64) (s : ByteArray) (hs : s.size ≤ 1000) (a : Int) :
    Calls Tryd.prog 18 #[v, .string s, .int .i64 a] w fun e w' => (∃ far : Int, e = .returned (.tuple #[.int .i64 (matchGA rs s a).1, .int .i64 (matchGA rs s a).2, .int .i64 far])) ∧ Below w.heap.size w w' := by
  unfold matchGA
  by_cases ha : a < 0 ∨ (s.size : Int) < a
  · rw [if_pos ha]
    exact (rmatch_out s a ha w).mono fun e w' ⟨he, hw⟩ => ⟨⟨0, he⟩, by rw [hw]; exact Below.refl _ _⟩
  · rw [if_neg ha]
    obtain ⟨m, rfl⟩ : ∃ m : Nat, a = m := ⟨a.toNat, by omega⟩
    rw [Int.toNat_natCast]
    exact rmatch_in h hok hl s hs m (by omega)
end
end Go.Proofs.YtkopbngnhgdfhaaDoor

/-
  limnerref11.Least: what it returns.
-/
namespace Go.Proofs.YtkopbngnhgdfhaaDoor
open Go.RowKit

theorem leastG_next {rs : List RuN} {j : Nat} {r : RuN} (h : rs[j]? = some r) (W : List Nat) : leastG (rs.drop j) W j = if endsG r (stepsG r W startG) = true then (j : Int) else leastG (rs.drop (j + 1)) W (j + 1) := by
  have hk := (List.getElem?_eq_some_iff.1 h).1
  rw [List.drop_eq_getElem_cons hk, (List.getElem?_eq_some_iff.1 h).2, leastG]
section
variable {w : World} {v : Value} {rs : List RuN}
set_option maxRecDepth 4000 in
set_option maxHeartbeats 16000000 in
theorem rleast_any (h : RusW w v rs) (hok : ∀ r, r ∈ rs → ∀ st, st ∈ r.sets → OkR st) (hl : rs.length ≤ 64) (s : ByteArray) (hs : s.size ≤ 1000) :
    Calls Tryd.prog 21 #[v, .string s] w fun e w' => e = .returned (.int .i64 (leastG rs (restR s 0) 0)) ∧ Below w.heap.size w w' := by
  obtain ⟨vo, vc, rfl, hvc⟩ := h.form
  have HV := Lib.hid h
  have HOK := Lib.hid hok
  obtain ⟨m, hm⟩ : ∃ m, rs.length = m := ⟨_, rfl⟩
  have HM := Lib.hid hm
  rw [hm] at hvc hl HV ⊢
  have hsz : (s.size : Int) ≤ 1000 := by omega
  clear h hm hok
  have H0 : Hid (Below w.heap.size w w ∧ leastG (rs.drop 0) (restR s 0) 0 = leastG rs (restR s 0) 0) := Lib.hid ⟨Below.refl _ _, rfl⟩
  go_enter Tryd.func21, Tryd.ntmps21
  go_wp2_with fail
  go_loopw [5] (fun s5 wr => ∃ j : Nat, s5 = .int .i64 (j : Int) ∧ j ≤ m ∧ Hid (Below w.heap.size w wr ∧ leastG (rs.drop j) (restR s 0) j = leastG rs (restR s 0) 0)) (fun s5 _ => m - (intOf s5).toNat)
  case atStart => exact ⟨0, rfl, Nat.zero_le _, H0⟩
  case round =>
    obtain ⟨j, rfl, hj, HQ⟩ := hrel
    clear H0
    have j0 : (0 : Int) ≤ (j : Int) := by omega
    have jb : (j : Int) ≤ 64 := by omega
    by_cases hlt : j < m
    · have hli : (j : Int) < (m : Int) := by omega
      have hla : j < rs.length := by have := HM.out; omega
      obtain ⟨r, hr⟩ : ∃ r, rs[j] = r := ⟨_, rfl⟩
      have hil : rs[j]? = some r := by rw [List.getElem?_eq_getElem hla, hr]
      obtain ⟨g0, o0, c0, p, hv0, hc0, hru0⟩ := HV.out.get hil
      injection hv0 with e1 e2 e3
      subst e1
      clear e2 e3
      have HGT : Hid (∀ W : World, Below w.heap.size w W → W.cell? ⟨g0, o0 + j, none⟩ = some (.pointer p) ∧ RuR W (.pointer p) r) := Lib.hid fun W hb => ⟨(keep_below (fun _ => True) hb).cell hc0 trivial, hru0.below hb⟩
      obtain ⟨hc, hru⟩ := HGT.out wr HQ.out.1
      have HSE := Lib.hid (HOK.out r (List.mem_of_getElem? hil))
      have HNX : Hid ((if endsG r (stepsG r (restR s 0) startG) = true then (j : Int) else leastG (rs.drop (j + 1)) (restR s 0) (j + 1)) = leastG rs (restR s 0) 0) := Lib.hid (by rw [← leastG_next hil]; exact HQ.out.2)
      have HA := Lib.hid (rstart_any hru)
      obtain ⟨rm, hrm⟩ : ∃ rm, r.m = rm := ⟨_, rfl⟩
      have HRM := Lib.hid hrm
      have hrf : rm ≤ 1000 := by rw [← hrm]; exact hru.few
      rw [hrm] at HA
      clear hil hla hr hru hrm hc0 hru0
      go_wp2_with fail
      go_fit HA.out
      rintro e w2 ⟨G, rfl, hB, hb2⟩
      obtain ⟨ST, hST⟩ : ∃ ST, stepsG r (restR s 0) startG = ST := ⟨_, rfl⟩
      rw [hST] at HNX
      have H2 : Hid (∃ (u : Value) (f : Nat → Bool), u = Value.slice (some ⟨G, 0, none⟩) rm rm ∧ BolR w2 u rm f ∧ Below w.heap.size w w2 ∧ stepsG r (restR s 0) f = ST) := Lib.hid ⟨_, _, rfl, hB, HQ.out.1.trans (hb2.mono HQ.out.1.size), hST⟩
      clear hB hb2 HA hST HQ hc
      go_wp2_with fail
      go_loopw [6, 7] (fun s6 s7 wr => ∃ k : Nat, s7 = .int .i64 (k : Int) ∧ k ≤ s.size ∧ Hid (∃ (u : Value) (f : Nat → Bool), u = s6 ∧ BolR wr u rm f ∧ Below w.heap.size w wr ∧ stepsG r (restR s k) f = ST)) (fun _ s7 _ => s.size - (intOf s7).toNat)
      case atStart => exact ⟨0, rfl, Nat.zero_le _, H2⟩
      case round =>
        obtain ⟨k, rfl, hk, HX⟩ := hrel
        clear H2
        obtain ⟨u, f, hu, hX⟩ := HX.out
        subst hu
        have HQ := Lib.hid hX
        clear HX hX
        have k0 : (0 : Int) ≤ (k : Int) := by omega
        have kb : (k : Int) ≤ (s.size : Int) := by omega
        obtain ⟨hc3, hru3⟩ := HGT.out _ HQ.out.2.1
        by_cases he : k < s.size
        · have hkl : (k : Int) < (s.size : Int) := by omega
          have hb := getR s k he
          have hb2 := bR_lt s k
          have HE : Hid (stepsG r (restR s (k + 1)) (stepG r f (bR s k)) = ST) := Lib.hid (by
            have h1 := HQ.out.2.2
            rw [rest_cons s k he, stepsG] at h1
            exact h1)
          obtain ⟨cc, hcc⟩ : ∃ cc, bR s k = cc := ⟨_, rfl⟩
          rw [hcc] at hb hb2 HE
          have hS2 : ∀ W : World, Below wr.heap.size wr W → Calls Tryd.prog 42 #[.pointer p, u, .int .u8 (cc : Int)] W fun e w' => ∃ G, e = .returned (.slice (some ⟨G, 0, none⟩) rm rm) ∧ BolR w' (.slice (some ⟨G, 0, none⟩) rm rm) rm (stepG r f cc) ∧ Below w.heap.size w w' := fun W hb => by
            have h1 := rstep_any (hru3.below hb) HSE.out (f := f) (u := u) (by rw [HRM.out]; exact BolR.below HQ.out.1 hb) cc hb2
            rw [HRM.out] at h1
            exact h1.mono fun e w' ⟨G, x, y, z⟩ => ⟨G, x, y, (HQ.out.2.1.trans (hb.mono HQ.out.2.1.size)).trans (z.mono (Nat.le_trans HQ.out.2.1.size hb.size))⟩
          have HS2 := Lib.hid hS2
          clear hS2 hcc hru3 HQ
          go_wp2_with fail
          go_region_law (go_simp; go_at_call 42; go_must (go_fit (HS2.out _ ?_)); (exact ⟨rfl, rfl, rfl, Nat.le_refl _, fun _ _ => rfl⟩); rintro e w6 ⟨G6, rfl, hB6, hb6⟩; have H6 := Lib.hid (And.intro hB6 hb6); clear hB6 hb6)
          all_goals
            go_wp2_with fail
            exact ⟨⟨k + 1, by go_num, by omega, Lib.hid ⟨_, _, rfl, H6.out.1, H6.out.2, HE.out⟩⟩, by simp [intOf] <;> omega⟩
        · have hkl : ¬ (k : Int) < (s.size : Int) := by omega
          have HF : Hid (f = ST) := Lib.hid (by
            have h1 := HQ.out.2.2
            rw [show restR s k = [] from List.length_eq_zero_iff.1 (by rw [rest_len]; omega), stepsG] at h1
            exact h1)
          have HEN := Lib.hid (rends_any hru3 (by rw [HRM.out]; exact HQ.out.1))
          have HB := Lib.hid HQ.out.2.1
          rw [HF.out] at HEN
          obtain ⟨en, hen⟩ : ∃ en, endsG r ST = en := ⟨_, rfl⟩
          rw [hen] at HEN HNX
          clear hru3 HQ hen HF
          cases en with
          | true =>
            go_wp2_with fail
            go_fit HEN.out
            rintro e w4 ⟨rfl, rfl⟩
            go_wp2_with fail
            go_ret
            exact ⟨by rw [← HNX.out]; rfl, HB.out⟩
          | false =>
            go_wp2_with fail
            go_fit HEN.out
            rintro e w4 ⟨rfl, rfl⟩
            go_wp2_with fail
            go_roundw
            case rel => exact ⟨j + 1, by go_num, hlt, Lib.hid ⟨HB.out, by have := HNX.out; simpa using this⟩⟩
            case measure => simp [intOf] <;> omega
    · have hli : ¬ (j : Int) < (m : Int) := by omega
      have HE : Hid (leastG rs (restR s 0) 0 = -1 ∧ Below w.heap.size w wr) := Lib.hid ⟨by
        rw [← HQ.out.2, List.drop_eq_nil_of_le (by have := HM.out; omega), leastG], HQ.out.1⟩
      clear HQ
      go_wp2_with fail
      go_ret
      exact ⟨by rw [HE.out.1]; rfl, HE.out.2⟩
end
end Go.Proofs.YtkopbngnhgdfhaaDoor

/-
  What the program's states tell and what the document's positions tell is one. No call is walked here.
-/
namespace Go.Proofs.YtkopbngnhgdfhaaDoor
open Go.RowKit

section
variable {L : List ByteArray}
def rsE (L : List ByteArray) : List RuN := (nodesP L).map ruleN
theorem matchA_same (L : List ByteArray) (s : ByteArray) (a : Int) : matchA (quE L) (fiE L) s a = matchGA (rsE L) s a := by
  unfold matchA matchGA
  split
  · rfl
  · exact match_same _ (nodes_good L) _
/-- The states behind the first i bytes of a text. -/
def setE (L : List ByteArray) (s : ByteArray) (i : Nat) : List Int := stepsP (quE L) ((bytesR s).take i) (reachP (quE L) (fiE L))
theorem set_zero (s : ByteArray) : setE L s 0 = reachP (quE L) (fiE L) := rfl
theorem set_next (s : ByteArray) (i : Nat) (h : i < s.size) : setE L s (i + 1) = stepP (quE L) (bR s i) (setE L s i) := by
  unfold setE
  rw [List.take_add_one, bytesR_at s i h]
  exact steps_snoc _ _ _ _
theorem set_end (s : ByteArray) (i : Nat) (h : s.size ≤ i) : setE L s (i + 1) = setE L s i := by
  unfold setE
  rw [List.take_of_length_le (by rw [bytesR_len]; omega), List.take_of_length_le (by rw [bytesR_len]; omega)]
theorem set_few (s : ByteArray) : ∀ (i : Nat), (setE L s i).length ≤ (quE L).length := fun i => by
  induction i with
  | zero => exact reach_few _ _
  | succ i ih =>
    by_cases h : i < s.size
    · rw [set_next s i h]; exact step_few _ _ _
    · have h1 : (bytesR s).take (i + 1) = (bytesR s).take i := by rw [List.take_of_length_le (by rw [bytesR_len]; omega), List.take_of_length_le (by rw [bytesR_len]; omega)]
      unfold setE at ih ⊢
      rw [h1]; exact ih
theorem least_take (L : List ByteArray) (s t : ByteArray) (i : Nat) (ht : bytesR t = (bytesR s).take i) : accP (quE L) (setE L s i) (-1) = leastG (rsE L) (restR t 0) 0 := by
  unfold setE
  rw [rest_zero, ht]
  exact least_same _ (nodes_good L) _
theorem ext_list11 (s : ByteArray) (a b : Nat) : (s.extract a b).data.toList = (s.data.toList.take b).drop a := by
  rw [Lib.extract_data, List.drop_take]
theorem bytes_take (s : ByteArray) (i : Nat) : bytesR (s.extract 0 i) = (bytesR s).take i := by
  unfold bytesR
  rw [ext_list11, List.drop_zero, List.map_take]
theorem rsE_ok (L : List ByteArray) : ∀ r, r ∈ rsE L → ∀ st, st ∈ r.sets → OkR st := by
  intro r hr
  unfold rsE at hr
  obtain ⟨n, hn, rfl⟩ := List.mem_map.1 hr
  obtain ⟨h1, h2⟩ := nodes_good L n hn
  exact (rule_ok n h1 h2).sets
theorem rsE_len (L : List ByteArray) : (rsE L).length = L.length := by unfold rsE nodesP; rw [List.length_map, List.length_map]
end
end Go.Proofs.YtkopbngnhgdfhaaDoor
