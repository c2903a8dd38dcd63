/-
  limnerref11.Rules: what it returns.
-/
import Derived.Test.YtkopbngnhgdfhaaDoorBe41
import Derived.Test.YtkopbngnhgdfhaaDoorBe38
import Derived.Test.YtkopbngnhgdfhaaDoorBe42
namespace Go.Proofs.YtkopbngnhgdfhaaDoor
open Go.RowKit

theorem Tryd.infoRuP : (Tryd.prog.info? 93).map (fun i => (i.zero, i.size, i.bytes)) = some (some (.pointer none), 1, 8) := by kernel_rfl
/-- A slice of rules. -/
def RusW (w : World) (v : Value) (rs : List RuN) : Prop :=
  ∃ us : List Value, us.length = rs.length ∧ RowZ (fun _ => True) w v rs.length us ∧ ∀ (i : Nat) (r : RuN) (u : Value), rs[i]? = some r → us[i]? = some u → ∃ p, u = .pointer p ∧ RuR w u r
theorem RusW.below {w w' : World} {v : Value} {rs : List RuN} (h : RusW w v rs) (hb : Below w.heap.size w w') : RusW w' v rs := by
  obtain ⟨us, h1, h2, h3⟩ := h
  refine ⟨us, h1, h2.keep (keep_below _ hb) fun _ _ h => h, fun i r u hr hu => ?_⟩
  obtain ⟨p, h4, h5⟩ := h3 i r u hr hu
  exact ⟨p, h4, h5.below hb⟩
theorem RusW.form {w : World} {v : Value} {rs : List RuN} (h : RusW w v rs) : ∃ ao cap, v = .slice ao rs.length cap ∧ rs.length ≤ cap := by
  obtain ⟨us, h1, ⟨ao, cap, hv, hn, _⟩, _⟩ := h
  exact ⟨ao, cap, hv, hn⟩
theorem RusW.get {w : World} {v : Value} {rs : List RuN} {i : Nat} {r : RuN} (h : RusW w v rs) (hi : rs[i]? = some r) : ∃ g o cap p, v = .slice (some ⟨g, o, none⟩) rs.length cap ∧ w.cell? ⟨g, o + i, none⟩ = some (.pointer p) ∧ RuR w (.pointer p) r := by
  obtain ⟨us, h1, ⟨ao, cap, hv, hn, hc⟩, h3⟩ := h
  have hk := (List.getElem?_eq_some_iff.1 hi).1
  obtain ⟨u, hu⟩ : ∃ u, us[i]? = some u := ⟨_, List.getElem?_eq_getElem (by omega)⟩
  obtain ⟨p, rfl, h5⟩ := h3 i r u hi hu
  obtain ⟨g, o, ha, _, hg⟩ := hc i _ hu
  exact ⟨g, o, cap, p, by rw [hv, ha], hg, h5⟩
/-- Rules as they are gathered. -/
structure RwW (w0 w : World) (v : Value) (rs : List RuN) : Prop where
  r : ∃ us : List Value, us.length = rs.length ∧ w.ownsRow 0 93 1 v rs.length us ∧ ∀ (i : Nat) (r : RuN) (u : Value), rs[i]? = some r → us[i]? = some u → ∃ p, u = .pointer p ∧ RuO (fun k => v.ownBlock = some k) w u r
  b : Below w0.heap.size w0 w
  f : ∀ k, v.ownBlock = some k → w0.heap.size ≤ k
section
variable {w0 w w' : World} {v : Value} {rs : List RuN}
theorem RwW.under (h : RwW w0 w v rs) (hb : Below w.heap.size w w') : RwW w0 w' v rs := by
  obtain ⟨us, h1, h2, h3⟩ := h.r
  refine ⟨⟨us, h1, ownRow_keep h2 (keep_below (fun _ => True) hb) fun _ _ => trivial, fun i r u hr hu => ?_⟩, h.b.trans (hb.mono h.b.size), h.f⟩
  obtain ⟨p, h4, h5⟩ := h3 i r u hr hu
  exact ⟨p, h4, h5.below hb⟩
theorem RwW.lt (h : RwW w0 w v rs) : ∀ k, v.ownBlock = some k → k < w.heap.size := by
  obtain ⟨us, _, h2, _⟩ := h.r
  exact fun k e => (World.ownsRow.lt h2 k e).2
theorem RwW.read (h : RwW w0 w v rs) : RusW w v rs := by
  obtain ⟨us, h1, h2, h3⟩ := h.r
  refine ⟨us, h1, (ownZ h2).mono fun _ _ _ => trivial, fun i r u hr hu => ?_⟩
  obtain ⟨p, h4, h5⟩ := h3 i r u hr hu
  exact ⟨p, h4, h5.read⟩
theorem RwW.push {Y : Nat} {p : Option Addr} {r : RuN} (h : RwW w0 w v rs) (t ty : TypeId) (ht : Tryd.prog.underlying t = some (.slice 93)) (hY : w.cell? ⟨Y, 0, none⟩ = some (.pointer p)) (hr0 : RuO (fun k => v.ownBlock = some k) w (.pointer p) r) (hl : rs.length ≤ 100000) :
    ∃ v' w', (Builtin.append_ #[t, t] ty #[v, .slice (some ⟨Y, 0, none⟩) 1 1]).run Tryd.prog w = .ok v' w' ∧ RwW w0 w' v' (rs ++ [r]) := by
  obtain ⟨i0, hi, hz0, hz1, hz2⟩ := info_of Tryd.infoRuP
  obtain ⟨us, h1, h2, h3⟩ := h.r
  obtain ⟨v', w', hr, hown', hgr, _, hat⟩ := run_append_own_at (P := Tryd.prog) w 0 t ty 93 i0 (.pointer none) 1 8 ht hi hz0 hz1 hz2 rfl (by decide) v rs.length us h2 ⟨Y, 0, none⟩ 1 1 [.pointer p] rfl (fun j x hx => by
    have hj := (List.getElem?_eq_some_iff.1 hx).1
    have : j = 0 := by simpa using hj
    subst this
    rw [rlit]
    simp at hx
    rw [← hx]
    exact hY) (fun x hx => by rw [List.mem_singleton.1 hx]; rfl) (by unfold maxLen; omega) (by omega) (Nat.zero_le _)
  have hk : KeepW (fun k => v.ownBlock ≠ some k) w w' := ⟨hgr.os, hgr.tape, hgr.output, hgr.size, fun k hk hne => hgr.block k hk fun e => hne e.symm⟩
  have hlt := h.lt
  have hor : ∀ k, v'.ownBlock = some k → v.ownBlock = some k ∨ k = w.heap.size := fun k e => by
    rcases hat with hat | hat
    · exact .inl (hat ▸ e)
    · rw [hat] at e; cases e; exact .inr rfl
  have hgo : ∀ {u : Value} {q : RuN}, RuO (fun k => v.ownBlock = some k) w u q → RuO (fun k => v'.ownBlock = some k) w' u q := fun {u q} hh => by
    have h4 := hh.mono (old2 := fun k => v.ownBlock = some k ∨ v'.ownBlock = some k) fun k hk e => e.elim id fun e => (hor k e).elim id fun e => by omega
    exact (h4.keep (hk.mono fun k _ ho e => ho (.inl e))).mono fun k _ e => .inr e
  refine ⟨v', w', hr, ⟨us ++ [.pointer p], by rw [List.length_append, List.length_append, h1]; rfl, by rw [List.length_append]; exact hown', fun i q u hq hu => ?_⟩, KeepW.below h.b hk h.b.size fun k hk e => by have := h.f k e; omega, fun k e => ?_⟩
  · by_cases hil : i < rs.length
    · rw [List.getElem?_append_left hil] at hq
      rw [List.getElem?_append_left (by omega)] at hu
      obtain ⟨p', h4, h5⟩ := h3 i q u hq hu
      exact ⟨p', h4, hgo h5⟩
    · rw [List.getElem?_append_right (by omega)] at hq hu
      rw [h1] at hu
      have e0 : i - rs.length = 0 := by
        have := (List.getElem?_eq_some_iff.1 hq).1
        simpa using this
      rw [e0] at hq hu
      cases hq
      cases hu
      exact ⟨p, rfl, hgo hr0⟩
  · rcases hor k e with e2 | e2
    · exact h.f k e2
    · have := h.b.size; omega
end
section
variable {w : World} {v : Value} {L : List ByteArray}
theorem rrules_arg (h : StrsW w v L) (hL : L.length = 0 ∨ 64 < L.length) : Calls Tryd.prog 15 #[v] w fun e w' => e = .returned (.tuple #[.slice none 0 0, .int .i64 2]) ∧ w' = w := by
  obtain ⟨vo, vc, rfl, hvc⟩ := h.form
  by_cases h0 : L.length = 0
  · rw [h0] at hvc ⊢
    clear h hL h0
    go_enter Tryd.func15, Tryd.ntmps15
    go_wp2_with fail
    go_ret2
    exact ⟨rfl, rfl⟩
  · have h64 := hL.resolve_left h0
    obtain ⟨m, hm⟩ : ∃ m, L.length = m := ⟨_, rfl⟩
    rw [hm] at hvc h0 h64 ⊢
    have hz1 : ((m : Int) == 0) = false := beq_eq_false_iff_ne.2 (by omega)
    have h64i : (m : Int) > 64 := by omega
    clear h hL h0 hm
    go_enter Tryd.func15, Tryd.ntmps15
    go_wp2_with fail
    go_ret2
    exact ⟨rfl, rfl⟩
theorem sizeP_take (h : ∀ s, s ∈ L → (parseP s).2 = 0) (i : Nat) : sizeP (L.take i) ≤ 200 * i := by
  induction i with
  | zero => rw [List.take_zero]; exact Nat.le_refl _
  | succ i ih =>
    rw [List.take_add_one, sizeP_app]
    rcases hx : L[i]? with _ | s
    · show _ + 0 ≤ _; omega
    · have := ((parse_ok s).2.2.2 (h s (List.mem_of_getElem? hx))).1
      show _ + (s.size + 0) ≤ _
      omega
set_option maxRecDepth 4000 in
set_option maxHeartbeats 8000000 in
theorem rrules_go (h : StrsW w v L) (h0 : L.length ≠ 0) (h64 : L.length ≤ 64) :
    Calls Tryd.prog 15 #[v] w fun e w' => (∃ r, e = .returned (.tuple #[r, .int .i64 (makeE L)]) ∧ (makeE L = 0 → RusW w' r ((nodesP L).map ruleN))) ∧ Below w.heap.size w w' := by
  obtain ⟨vo, vc, rfl, hvc⟩ := h.form
  have HV := Lib.hid h
  have HE0 : Hid (makeE L = if errsP L ≠ 0 then errsP L else if 2000 < sizeP L then 70 else 0) := Lib.hid (by unfold makeE; rw [if_neg (by omega)])
  obtain ⟨m, hm⟩ : ∃ m, L.length = m := ⟨_, rfl⟩
  have HM := Lib.hid hm
  rw [hm] at hvc h0 h64 HV ⊢
  have hz1 : ((m : Int) == 0) = false := beq_eq_false_iff_ne.2 (by omega)
  have hm64' : ¬ (m : Int) > 64 := by omega
  have hm64 : (m : Int) ≤ 64 := by omega
  clear h hm h0
  have H0 : Hid (∃ vv, vv = Value.slice none 0 0 ∧ RwW w w vv ((nodesP (L.take 0)).map ruleN) ∧ (0 : Nat) = sizeP (L.take 0) ∧ errsP (L.take 0) = 0 ∧ (0 : Nat) ≤ 200 * 0) := Lib.hid ⟨_, rfl, ⟨⟨[], rfl, World.ownsRow_nil _ _ _ _, fun i r u hr => by cases hr⟩, Below.refl _ _, fun k e => by cases e⟩, by rw [List.take_zero, sizeP], by rw [List.take_zero, errsP], Nat.le_refl _⟩
  go_enter Tryd.func15, Tryd.ntmps15
  go_wp2_with fail
  go_loopw [4, 5, 6] (fun s4 s5 s6 wr => ∃ i z : Nat, s6 = .int .i64 (i : Int) ∧ i ≤ m ∧ s5 = .int .i64 (z : Int) ∧ Hid (∃ vv, vv = s4 ∧ RwW w wr vv ((nodesP (L.take i)).map ruleN) ∧ z = sizeP (L.take i) ∧ errsP (L.take i) = 0 ∧ z ≤ 200 * i)) (fun _ _ s6 _ => m - (intOf s6).toNat)
  case atStart => exact ⟨0, 0, rfl, Nat.zero_le _, rfl, H0⟩
  case round =>
    obtain ⟨i, z, rfl, hi, rfl, HX⟩ := hrel
    clear H0
    obtain ⟨vv, hvv, hX, hZ, hE, hzb⟩ := HX.out
    subst hvv
    have HQ := Lib.hid hX
    have HZ := Lib.hid hZ
    have HE := Lib.hid hE
    clear HX hX hZ hE
    have i0 : (0 : Int) ≤ (i : Int) := by omega
    have ib : (i : Int) ≤ 64 := by omega
    have z0 : (0 : Int) ≤ (z : Int) := by omega
    have zb : (z : Int) ≤ 12800 := by omega
    by_cases hlt : i < m
    · have hli : (i : Int) < (m : Int) := by omega
      have hla : i < L.length := by have := HM.out; omega
      obtain ⟨s, hs⟩ : ∃ s, L[i] = s := ⟨_, rfl⟩
      have hil : L[i]? = some s := by rw [List.getElem?_eq_getElem hla, hs]
      have hget := fun (W : World) (hb : Below w.heap.size w W) => (HV.out.below hb).get hil
      obtain ⟨g, o, c, hve, hc⟩ := hget wr HQ.out.b
      injection hve with e1 e2 e3
      subst e1
      clear e2 e3
      have HGT : Hid (∀ W : World, Below w.heap.size w W → W.cell? ⟨g, o + i, none⟩ = some (.string s)) := Lib.hid fun W hb => by
        obtain ⟨g', o', c', hve', hc'⟩ := hget W hb
        injection hve' with e1 e2 e3
        injection e1 with e1
        injection e1 with e1 e4
        subst e1 e4
        exact hc'
      have HT : Hid (L.take (i + 1) = L.take i ++ [s] ∧ L = L.take i ++ s :: L.drop (i + 1)) := Lib.hid ⟨by rw [List.take_add_one, hil]; rfl, by
        have h1 := List.drop_eq_getElem_cons hla
        rw [hs] at h1
        rw [← h1, List.take_append_drop]⟩
      have HA := Lib.hid (rparse_any s wr)
      have hcs : (parseP s).2 = 0 ∨ ¬ (parseP s).2 = 0 := by omega
      have HOK := Lib.hid (parse_ok s)
      obtain ⟨⟨n, er⟩, hp⟩ : ∃ r, parseP s = r := ⟨_, rfl⟩
      rw [hp] at HA hcs HOK
      simp only at HA hcs HOK
      have HPP := Lib.hid hp
      clear hla hs hil hp hget
      go_wp2_with fail
      go_fit HA.out
      rintro e w2 ⟨x, rfl, ⟨hso, u, rfl, hu⟩, hb2⟩
      obtain ⟨uo, uc, rfl, _⟩ := KidsW.form hu
      have H2 := Lib.hid (And.intro hso (And.intro hu hb2))
      have hbox := boxN.new 90 w2 n.kind n.set (.slice uo n.kids.length uc)
      have hba := alloc_under w2 (.cells #[.int .i64 n.kind, .int .u64 (n.set.1 : Int), .int .u64 (n.set.2.1 : Int), .int .u64 (n.set.2.2.1 : Int), .int .u64 (n.set.2.2.2 : Int), .slice uo n.kids.length uc] 90)
      have H3 := Lib.hid (And.intro hbox (And.intro (hb2.trans (hba.mono hb2.size)) (And.intro hba (HQ.out.b.trans ((hb2.trans (hba.mono hb2.size)).mono HQ.out.b.size)))))
      clear hso hu hb2 HA hbox hba
      unfold nodeV
      rcases hcs with he0 | he0
      · subst he0
        obtain ⟨⟨c0, c1, c2, c3, c4, c5⟩, _⟩ := H3.out.1.cells
        have HOF := Lib.hid (rof_any (ok := fun k => wr.heap.size ≤ k) (w := w2.alloc (.cells #[.int .i64 n.kind, .int .u64 (n.set.1 : Int), .int .u64 (n.set.2.1 : Int), .int .u64 (n.set.2.2.1 : Int), .int .u64 (n.set.2.2.2 : Int), .slice uo n.kids.length uc] 90)) (x := nodeV n (.slice uo n.kids.length uc)) ⟨H2.out.1, _, rfl, H2.out.2.1.under H3.out.2.2.1⟩ HOK.out.1 (by have := HOK.out.2.2.1; omega))
        unfold nodeV at HOF
        have hssz := (HOK.out.2.2.2 rfl).1
        have hs0 : (0 : Int) ≤ (s.size : Int) := by omega
        have hsb : (s.size : Int) ≤ 200 := by omega
        have hzw : IntKind.i64.wrap ((z : Int) + (s.size : Int)) = (z : Int) + (s.size : Int) := by apply IntWalk.i64_in <;> omega
        have hzs : (z : Int) + (s.size : Int) ≤ 13000 := by omega
        go_wp2_with fail
        go_fit HOF.out
        rintro e w5 ⟨p, rfl, hru, hb5⟩
        have hR5 := HQ.out.under (H3.out.2.1.trans (hb5.mono H3.out.2.1.size))
        have hba6 := alloc_under w5 (.cells #[.pointer p] 93)
        have hru2 := (hru.mono (old2 := fun k => vv.ownBlock = some k) fun k _ e => by
          have h1 := HQ.out.lt k e
          have h2 := H3.out.2.1.size
          omega).below hba6
        have hcell := cell_one_new w5 (.pointer p) 93 0 _ rfl
        rw [rlit] at hcell
        have hlen : ((nodesP (L.take i)).map ruleN).length ≤ 100000 := by unfold nodesP; rw [List.length_map, List.length_map, List.length_take]; omega
        obtain ⟨v', w6, hr, hR⟩ := (hR5.under hba6).push 38 38 Tryd.underlying38 hcell hru2 hlen
        have HR := Lib.hid hR
        have hc6 := HGT.out w6 hR.b
        have HF : Hid ((nodesP (L.take i)).map ruleN ++ [ruleN n] = (nodesP (L.take (i + 1))).map ruleN ∧ z + s.size = sizeP (L.take (i + 1)) ∧ errsP (L.take (i + 1)) = 0 ∧ z + s.size ≤ 200 * (i + 1)) := Lib.hid ⟨by rw [HT.out.1, nodes_app, List.map_append]; show _ = _ ++ [ruleN (parseP s).1]; rw [HPP.out], by rw [HT.out.1, sizeP_app, HZ.out]; rfl, by rw [HT.out.1, errs_app _ _ HE.out, errsP, HPP.out, if_pos rfl, errsP], by omega⟩
        clear hR5 hba6 hru hru2 hcell hlen hR hb5 HOF c0 c1 c2 c3 c4 c5
        go_wp2_with (at_builtin; refine napp_list (by rfl) _ _ 38 (by rfl) (by rfl) (by rfl) hr ?_)
        go_roundw
        case rel => exact ⟨i + 1, z + s.size, by go_num, hlt, by go_num, Lib.hid ⟨_, rfl, by rw [← HF.out.1]; exact HR.out, HF.out.2⟩⟩
        case measure => simp [intOf] <;> omega
      · have heb : (er == 0) = false := beq_eq_false_iff_ne.2 he0
        have HF : Hid (makeE L = er) := Lib.hid (by
          have h1 : errsP L = er := by rw [HT.out.2, errs_app _ _ HE.out, errsP, HPP.out, if_neg he0]
          rw [HE0.out, h1, if_pos he0])
        have HN := Lib.hid he0
        clear he0
        go_wp2_with fail
        go_ret2
        exact ⟨⟨_, by rw [HF.out]; rfl, fun h0 => absurd (HF.out.symm.trans h0) HN.out⟩, H3.out.2.2.2⟩
    · have hli : ¬ (i : Int) < (m : Int) := by omega
      have hall : L.take i = L := List.take_of_length_le (by have := HM.out; omega)
      rw [hall] at HQ HZ HE
      by_cases h2000 : 2000 < z
      · have hzi : (z : Int) > 2000 := by omega
        have HF : Hid (makeE L = 70) := Lib.hid (by rw [HE0.out, if_neg (fun h => h HE.out), ← HZ.out, if_pos h2000])
        clear hall
        go_wp2_with fail
        go_ret2
        exact ⟨⟨_, by rw [HF.out]; rfl, fun h0 => absurd (HF.out.symm.trans h0) (by decide)⟩, HQ.out.b⟩
      · have hzi : ¬ (z : Int) > 2000 := by omega
        have HF : Hid (makeE L = 0) := Lib.hid (by rw [HE0.out, if_neg (fun h => h HE.out), ← HZ.out, if_neg h2000])
        clear hall
        go_wp2_with fail
        go_ret2
        exact ⟨⟨_, by rw [HF.out]; rfl, fun _ => HQ.out.read⟩, HQ.out.b⟩
theorem rrules_any (h : StrsW w v L) :
    Calls Tryd.prog 15 #[v] w fun e w' => (∃ r, e = .returned (.tuple #[r, .int .i64 (makeE L)]) ∧ (makeE L = 0 → RusW w' r ((nodesP L).map ruleN))) ∧ Below w.heap.size w w' := by
  by_cases hL : L.length = 0 ∨ 64 < L.length
  · refine (rrules_arg h hL).mono ?_
    rintro e w' ⟨rfl, rfl⟩
    have hE : makeE L = 2 := by unfold makeE; rw [if_pos hL]
    exact ⟨⟨_, by rw [hE], fun h0 => by rw [hE] at h0; cases h0⟩, Below.refl _ _⟩
  · exact rrules_go h (by omega) (by omega)
end
end Go.Proofs.YtkopbngnhgdfhaaDoor
