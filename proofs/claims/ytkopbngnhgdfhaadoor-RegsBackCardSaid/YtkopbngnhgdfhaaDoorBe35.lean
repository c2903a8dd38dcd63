/-
  regs' reader: row: what it returns, or how it ends, where piece does as it should.
-/
import Derived.Test.YtkopbngnhgdfhaaDoorBe34
namespace Go.Proofs.YtkopbngnhgdfhaaDoor
open Go.RowKit

theorem Tryd.infoNode : (Tryd.prog.info? 26).map (fun i => (i.zero.map fun z => z.cells.size, i.size, i.bytes)) = some (some 6, 6, 64) := by kernel_rfl
theorem infoN : ∃ i z, Tryd.prog.info? 26 = some i ∧ i.zero = some z ∧ z.cells.size = 6 ∧ i.size = 6 ∧ i.bytes = 64 := by
  have h := Tryd.infoNode
  obtain ⟨i, hi⟩ : ∃ i, Tryd.prog.info? 26 = some i := by
    rcases hx : Tryd.prog.info? 26 with _ | i
    · rw [hx] at h; cases h
    · exact ⟨i, rfl⟩
  rw [hi] at h
  simp only [Option.map_some, Option.some.injEq, Prod.mk.injEq] at h
  obtain ⟨h1, h2, h3⟩ := h
  rcases hz : i.zero with _ | z
  · rw [hz] at h1; cases h1
  · rw [hz] at h1
    simp only [Option.map_some, Option.some.injEq] at h1
    exact ⟨i, z, hi, hz, h1, h2, h3⟩
/-- What lies in memory while row or rule works: a row of nodes of its own. -/
structure RoW (w0 w : World) (R : Nat) (s : ByteArray) (k B : Nat) (v : Value) (l : List Nd) : Prop where
  at_ : AtW w0 w R s k B
  out : OutF 26 (B + 1) w v l
section
variable {w0 w w' : World} {R : Nat} {s : ByteArray} {j k B : Nat} {v u : Value} {l : List Nd} {n : Nd}
theorem RoW.move (h : RoW w0 w R s k B v l) (hk : KeepW (fun k => k ≠ R) w w') (hr : RdW w' R s j) : RoW w0 w' R s j B v l :=
  have h1 := h.at_.rl
  ⟨h.at_.move hk hr, h.out.keep hk fun k hk => by omega⟩
theorem RoW.under (h : RoW w0 w R s k B v l) (hb : Below w.heap.size w w') : RoW w0 w' R s k B v l := h.move (keep_below _ hb) (h.at_.rx.rd.below hb)
theorem RoW.push {X m : Nat} (h : RoW w0 w R s k B v l) (t ty : TypeId) (ht : Tryd.prog.underlying t = some (.slice 26)) (hX : ∀ (j : Nat) x, (nodeC n u)[j]? = some x → w.cell? ⟨X, j, none⟩ = some x) (hs : OkR n.set) (hu : KidsF (fun k => m ≤ k) w n.kids u)
    (ho : ∀ k, k < w.heap.size → m ≤ k → B + 1 ≤ k ∧ v.ownBlock ≠ some k) (hl : l.length ≤ 100000) :
    ∃ v' w1, (Builtin.append_ #[t, t] ty #[v, .slice (some ⟨X, 0, none⟩) 1 1]).run Tryd.prog w = .ok v' w1 ∧ RoW w0 w1 R s k B v' (l ++ [n]) := by
  obtain ⟨i0, z, hi, hz0, hzl, hz1, hz2⟩ := infoN
  have hBl := h.at_.b.lt
  have hrl := h.at_.rl
  have hgl := h.at_.gl
  have hge := h.at_.ge
  have hown : ∀ k, v.ownBlock = some k → B + 1 ≤ k := fun k e => (h.out.lt k e).1
  obtain ⟨v', w1, hr, hO, hk⟩ := run_outF t ty i0 z ht hi hz0 hzl hz1 hz2 h.out hX hs hu ho hBl hl
  have hno : ∀ k, k ≤ B → v.ownBlock ≠ some k := fun k hk e => by have := hown k e; omega
  exact ⟨v', w1, hr, ⟨h.at_.rx.keep hk (hno R (by omega)) (hno _ (by omega)), h.at_.b.keep hk (hno B (by omega)), keep_old h.at_.kp hk fun k hk _ => hno k (by omega), hge, hrl, hgl⟩, hO⟩
end
theorem RoW.nil {w0 w : World} {R : Nat} {s : ByteArray} {k B : Nat} (h : AtW w0 w R s k B) : RoW w0 w R s k B (.slice none 0 0) [] := ⟨h, OutF.nil _ _ _⟩
/-- Where a row ends. -/
def StopR (l : List Nat) : Prop := l = [] ∨ l.head? = some 41 ∨ l.head? = some 124
theorem rw_step (l : List Nat) (h : ¬ StopR l) (all row : List Nd) : rwR l all row = match pieceR l with
    | none => none
    | some (n, q) => rwR q all (row ++ [n]) := by
  rw [rw_eq, if_neg (fun e => h (by rcases e with e | e; exact .inl e; exact .inr (.inl e))), if_neg (fun e => h (.inr (.inr e)))]
  unfold pieceR
  rcases atR l with _ | ⟨n, r⟩ <;> rfl
theorem piece_parts {s : ByteArray} {i : Nat} {n : Nd} {q : List Nat} (h : pieceR (restR s i) = some (n, q)) : ∃ j, i < j ∧ j ≤ s.size ∧ q = restR s j := by
  unfold pieceR at h
  rcases ha : atR (restR s i) with _ | ⟨m, r⟩
  · rw [ha] at h; cases h
  rw [ha] at h
  have h1 := at_len ha
  obtain ⟨k1, hk1⟩ := at_drop ha
  obtain ⟨k2, hk2⟩ := signs_drop r m
  have h2 := signs_len r m
  rw [rest_len] at h1
  have hq : q = (signsR m r).2 := by
    exact (congrArg Prod.snd (Option.some.inj h)).symm
  refine ⟨s.size - q.length, ?_, by omega, rest_of s i ⟨k1 + k2, ?_⟩⟩
  · rw [hq]; omega
  · rw [hq, hk2, hk1, List.drop_drop]
theorem sees_stop {s : ByteArray} {k : Nat} : (decide (k = s.size) = true ∨ seesR s k ⟨#[124, 41]⟩ = true) ↔ (StopR (restR s k) ∧ k ≤ s.size) ∨ False ∨ (decide (k = s.size) = true ∨ seesR s k ⟨#[124, 41]⟩ = true) := by
  constructor
  · intro h; exact .inr (.inr h)
  · intro h
    rcases h with ⟨h, hk⟩ | h | h
    · by_cases e : k = s.size
      · exact .inl (decide_eq_true e)
      · refine .inr ?_
        unfold seesR
        rw [idx_stop _ (bR_lt s k), decide_eq_true (show k < s.size by omega)]
        rw [rest_cons s k (by omega)] at h
        rcases h with h | h | h
        · cases h
        · rw [Option.some.inj h]; rfl
        · rw [Option.some.inj h]; rfl
    · exact h.elim
    · exact h
theorem stop_end {s : ByteArray} : StopR (restR s s.size) := .inl (rest_nil s _ (Nat.le_refl _))
theorem stop_sees {s : ByteArray} {k : Nat} (h : seesR s k ⟨#[124, 41]⟩ = true) : StopR (restR s k) := by
  unfold seesR at h
  rw [idx_stop _ (bR_lt s k), Bool.and_eq_true] at h
  have hk := of_decide_eq_true h.1
  rw [rest_cons s k hk]
  rcases of_decide_eq_true h.2 with e | e
  · exact .inr (.inr (by rw [e]; rfl))
  · exact .inr (.inl (by rw [e]; rfl))
theorem stop_not {s : ByteArray} {k : Nat} (hk : k < s.size) (h : seesR s k ⟨#[124, 41]⟩ = false) : ¬ StopR (restR s k) := by
  unfold seesR at h
  rw [idx_stop _ (bR_lt s k), decide_eq_true hk, Bool.true_and] at h
  have hn := of_decide_eq_false h
  rw [rest_cons s k hk]
  rintro (e | e | e)
  · cases e
  · exact hn (.inr (Option.some.inj e))
  · exact hn (.inl (Option.some.inj e))
/-- What row comes to: its pieces, and where they end; or the text is none. -/
def RowP (s : ByteArray) (R i : Nat) (w w' : World) (e : Ending) : Prop :=
  KeepW (fun k => k ≠ R) w w' ∧
    ((∃ ps j x, e = .returned x ∧ NodeF (fun k => w.heap.size ≤ k) w' (joinR 2 ps) x ∧ RdW w' R s j ∧ i ≤ j ∧ j ≤ s.size ∧ StopR (restR s j) ∧ ∀ all, rwR (restR s i) all [] = rwR (restR s j) all ps) ∨
    (e = failE ∧ ∀ all, rwR (restR s i) all [] = none))
def pRowC (s : ByteArray) (R i : Nat) : Prop := ∀ w, RxW w R s i → Calls Tryd.prog 63 #[.pointer (some ⟨R, 0, none⟩)] w fun e w' => RowP s R i w w' e
set_option maxHeartbeats 16000000 in
theorem prow_of (s : ByteArray) (R i : Nat) (hi : i ≤ s.size) (hs : s.size ≤ 1000) (HP : ∀ k, i ≤ k → k < s.size → pPieceC s R k) : pRowC s R i := by
  intro w h
  have H0 := Lib.hid (AtW.new h)
  have HPC := Lib.hid HP
  unfold pPieceC at HPC
  clear h HP
  go_enter Tryd.func63, Tryd.ntmps63
  go_wp2_with fail
  obtain ⟨W0, hW0⟩ : ∃ W0, w.alloc (.cells #[.int .i64 0, .int .u64 0, .int .u64 0, .int .u64 0, .int .u64 0, .slice none 0 0] 26) = W0 := ⟨_, rfl⟩
  (try rw [hW0])
  rw [hW0] at H0
  clear hW0
  obtain ⟨B, hB⟩ : ∃ B, w.heap.size = B := ⟨_, rfl⟩
  (try rw [hB])
  rw [hB] at H0
  clear hB
  have HST : Hid (∃ k ps v, v = Value.slice none 0 0 ∧ i ≤ k ∧ k ≤ s.size ∧ ps.length ≤ k ∧ RoW w W0 R s k B v ps ∧ ∀ all, rwR (restR s i) all [] = rwR (restR s k) all ps) := ⟨i, [], _, rfl, Nat.le_refl _, hi, Nat.zero_le _, RoW.nil H0.out, fun _ => rfl⟩
  clear H0
  go_loopw [3] (fun s3 wr => Hid (∃ k ps v, v = s3 ∧ i ≤ k ∧ k ≤ s.size ∧ ps.length ≤ k ∧ RoW w wr R s k B v ps ∧ ∀ all, rwR (restR s i) all [] = rwR (restR s k) all ps)) (fun _ wr => s.size + 1 - posW wr R)
  case atStart => exact HST
  case round =>
    clear HST
    obtain ⟨k, ps, v, hv, hik, hk, hlen, hQ, hG⟩ := hrel.out
    subst hv
    have HQ := Lib.hid hQ
    have HG := Lib.hid hG
    have HPOS := Lib.hid hQ.at_.rx.rd.pos
    clear hQ hG hrel
    by_cases hend : k = s.size
    · have HE1 := Lib.hid (pended_w HQ.out.at_.rx.rd true (decide_eq_true hend))
      have HS : Hid (StopR (restR s k)) := by rw [hend]; exact stop_end
      clear hend
      go_wp2_with fail
      go_fit HE1.out
      rintro e w4 ⟨rfl, hb⟩
      have H4 := Lib.hid (HQ.out.under hb)
      clear hb
      have HJ := Lib.hid (pjoin_f (ok := fun k => B < k) 2 (ps) v _ (H4.out.out.kids (by omega) |>.mono (fun k _ hk => hk)) (by omega))
      go_wp2_with fail
      go_fit HJ.out
      rintro e w8 ⟨x, rfl, ⟨hns, u, rfl, hu⟩, hb⟩
      obtain ⟨uo, uc, rfl, _⟩ := hu.form
      have HA := Lib.hid ((H4.out.at_).below hb)
      have HNS := Lib.hid hns
      have HKI := Lib.hid hu
      obtain ⟨J, hJ⟩ : ∃ J, joinR 2 (ps) = J := ⟨_, rfl⟩
      rw [hJ] at HNS HKI
      simp only [hJ] at hu ⊢
      have HJJ := Lib.hid hJ
      clear hu hns hb hJ
      unfold nodeV
      obtain ⟨⟨b0, b1, b2, b3, b4, b5⟩, g0, g1, g2, g3, g4, g5⟩ := HA.out.b.cells
      have hBlt := HA.out.b.lt
      have hF := HA.out.fin J (.slice uo J.kids.length uc) HNS.out HKI.out
      have HKP := Lib.hid (And.intro hF.1 (And.intro hF.2.1 hF.2.2.2))
      obtain ⟨⟨y0, y1, y2, y3, y4, y5⟩, _⟩ := hF.2.2.1.cells
      unfold set6N set4N at y0 y1 y2 y3 y4 y5 HKP
      have Y0 := Lib.hid y0
      have Y1 := Lib.hid y1
      have Y2 := Lib.hid y2
      have Y3 := Lib.hid y3
      have Y4 := Lib.hid y4
      have Y5 := Lib.hid y5
      clear hF y0 y1 y2 y3 y4 y5
      go_wp2_with fail
      have y0 := Y0.out
      have y1 := Y1.out
      have y2 := Y2.out
      have y3 := Y3.out
      have y4 := Y4.out
      have y5 := Y5.out
      exact bodyPost_ret (v := nodeV J (.slice uo J.kids.length uc)) (by simp [results, Tryd.results63, go_sem, nodeV, y0, y1, y2, y3, y4, y5]) rfl (⟨HKP.out.1, .inl ⟨ps, k, _, rfl, by rw [HJJ.out]; exact HKP.out.2.2, HKP.out.2.1, hik, hk, HS.out, HG.out⟩⟩)
    · have HE1 := Lib.hid (pended_w HQ.out.at_.rx.rd false (decide_eq_false hend))
      have HSE := Lib.hid (fun W (hr : RdW W R s k) v hv => psees_w hr hk ⟨#[124, 41]⟩ v hv)
      rcases hsee : seesR s k ⟨#[124, 41]⟩ with _ | _
      · have HSE2 := Lib.hid (fun W hr => HSE.out W hr false hsee)
        have hst := stop_not (by omega) hsee
        have hstep := rw_step (restR s k) hst
        have HPK := Lib.hid (HPC.out k hik (by omega))
        clear hsee HSE hst
        rcases hp : pieceR (restR s k) with _ | ⟨n, q⟩
        · simp only [hp] at HPK hstep
          have HE : Hid (∀ all, rwR (restR s i) all [] = none) := fun all => by rw [HG.out all, hstep]
          clear hp hstep hend
          go_wp2_with fail
          go_fit HE1.out
          rintro e w3 ⟨rfl, hb⟩
          have H3 := Lib.hid (HQ.out.under hb)
          clear hb
          go_wp2_with fail
          go_fit (HSE2.out _ H3.out.at_.rx.rd)
          rintro e w4 ⟨rfl, hb⟩
          have H4 := Lib.hid (H3.out.under hb)
          clear hb
          go_wp2_with fail
          go_fit (HPK.out _ H4.out.at_.rx)
          rintro e w5 ⟨hk5, rfl⟩
          exact ⟨rfl, H4.out.at_.kp.trans hk5, .inr ⟨rfl, HE.out⟩⟩
        · obtain ⟨j, hkj, hj, rfl⟩ := piece_parts hp
          simp only [hp] at HPK hstep
          have HG2 : Hid (∀ all, rwR (restR s i) all [] = rwR (restR s j) all (ps ++ [n])) := fun all => by rw [HG.out all, hstep]
          have HSZ := Lib.hid (rest_size s j hj)
          clear hp hstep hend
          go_wp2_with fail
          go_fit HE1.out
          rintro e w2 ⟨rfl, hb⟩
          have H2 := Lib.hid (HQ.out.under hb)
          clear hb
          go_wp2_with fail
          go_fit (HSE2.out _ H2.out.at_.rx.rd)
          rintro e w3 ⟨rfl, hb⟩
          have H3 := Lib.hid (H2.out.under hb)
          clear hb
          go_wp2_with fail
          go_fit (HPK.out _ H3.out.at_.rx)
          rintro e w4 ⟨hk4, x, rfl, ⟨hns, u, rfl, hu⟩, hr4⟩
          rw [HSZ.out] at hr4
          obtain ⟨uo, uc, rfl, _⟩ := hu.form
          have H4 := Lib.hid (H3.out.move hk4 hr4)
          have HNS := Lib.hid hns
          have HU := Lib.hid hu
          have HOW : Hid (∀ k, w3.heap.size ≤ k → B + 1 ≤ k ∧ v.ownBlock ≠ some k) := fun k hk => ⟨by have := H3.out.at_.b.lt; omega, fun e => by have := (H3.out.out.lt k e).2; omega⟩
          clear hk4 hr4 hns hu
          have hcr := boxN_node (n := n) (boxN.new 26 w4 n.kind n.set (.slice uo n.kids.length uc))
          have hb5 := alloc_under w4 (.cells #[.int .i64 n.kind, .int .u64 (n.set.1 : Int), .int .u64 (n.set.2.1 : Int), .int .u64 (n.set.2.2.1 : Int), .int .u64 (n.set.2.2.2 : Int), .slice uo n.kids.length uc] 26)
          obtain ⟨v7, w8, hr, hW8⟩ := (H4.out.under hb5).push 24 24 Tryd.underlying24 hcr HNS.out (HU.out.under hb5) (fun k _ hk => HOW.out k hk) (by omega)
          have HW8 := Lib.hid hW8
          clear hcr hb5 hW8
          unfold nodeV
          go_wp2_with (at_builtin; refine wpList_runR (by rfl) _ _ 24 (by rfl) (by rfl) (by rfl) hr ?_)
          clear hr
          go_roundw
          case rel => exact ⟨j, ps ++ [n], _, rfl, by omega, hj, by rw [List.length_append, List.length_singleton]; omega, HW8.out, HG2.out⟩
          case measure => (rw [HPOS.out, HW8.out.at_.rx.rd.pos]; omega)
      · have HSE2 := Lib.hid (fun W hr => HSE.out W hr true hsee)
        have HS := Lib.hid (stop_sees hsee)
        clear hsee HSE hend
        go_wp2_with fail
        go_fit HE1.out
        rintro e w3 ⟨rfl, hb⟩
        have H3 := Lib.hid (HQ.out.under hb)
        clear hb
        go_wp2_with fail
        go_fit (HSE2.out _ H3.out.at_.rx.rd)
        rintro e w4 ⟨rfl, hb⟩
        have H4 := Lib.hid (H3.out.under hb)
        clear hb
        have HJ := Lib.hid (pjoin_f (ok := fun k => B < k) 2 (ps) v _ (H4.out.out.kids (by omega) |>.mono (fun k _ hk => hk)) (by omega))
        go_wp2_with fail
        go_fit HJ.out
        rintro e w8 ⟨x, rfl, ⟨hns, u, rfl, hu⟩, hb⟩
        obtain ⟨uo, uc, rfl, _⟩ := hu.form
        have HA := Lib.hid ((H4.out.at_).below hb)
        have HNS := Lib.hid hns
        have HKI := Lib.hid hu
        obtain ⟨J, hJ⟩ : ∃ J, joinR 2 (ps) = J := ⟨_, rfl⟩
        rw [hJ] at HNS HKI
        simp only [hJ] at hu ⊢
        have HJJ := Lib.hid hJ
        clear hu hns hb hJ
        unfold nodeV
        obtain ⟨⟨b0, b1, b2, b3, b4, b5⟩, g0, g1, g2, g3, g4, g5⟩ := HA.out.b.cells
        have hBlt := HA.out.b.lt
        have hF := HA.out.fin J (.slice uo J.kids.length uc) HNS.out HKI.out
        have HKP := Lib.hid (And.intro hF.1 (And.intro hF.2.1 hF.2.2.2))
        obtain ⟨⟨y0, y1, y2, y3, y4, y5⟩, _⟩ := hF.2.2.1.cells
        unfold set6N set4N at y0 y1 y2 y3 y4 y5 HKP
        have Y0 := Lib.hid y0
        have Y1 := Lib.hid y1
        have Y2 := Lib.hid y2
        have Y3 := Lib.hid y3
        have Y4 := Lib.hid y4
        have Y5 := Lib.hid y5
        clear hF y0 y1 y2 y3 y4 y5
        go_wp2_with fail
        have y0 := Y0.out
        have y1 := Y1.out
        have y2 := Y2.out
        have y3 := Y3.out
        have y4 := Y4.out
        have y5 := Y5.out
        exact bodyPost_ret (v := nodeV J (.slice uo J.kids.length uc)) (by simp [results, Tryd.results63, go_sem, nodeV, y0, y1, y2, y3, y4, y5]) rfl (⟨HKP.out.1, .inl ⟨ps, k, _, rfl, by rw [HJJ.out]; exact HKP.out.2.2, HKP.out.2.1, hik, hk, HS.out, HG.out⟩⟩)
end Go.Proofs.YtkopbngnhgdfhaaDoor
