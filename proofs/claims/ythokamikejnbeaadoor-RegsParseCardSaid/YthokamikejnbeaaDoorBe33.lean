/-
  limnerref10.Same: what it returns, for every two nodes.
-/
import Derived.StillTailTactics
import Derived.Test.YthokamikejnbeaaDoorBe32
import Derived.Test.YthokamikejnbeaaDoorBe9
import Derived.Test.YthokamikejnbeaaDoorBe11
namespace Go.Proofs.YthokamikejnbeaaDoor
open Go.RowKit

/-- What lies in memory while Same goes over the kids. -/
structure SmW (ok ok' : Nat → Prop) (w0 w : World) (A : Nat) (a b : Nd) (u v : Value) : Prop where
  ba : boxN 33 w A a.kind a.set u
  bb : boxN 33 w (A + 1) b.kind b.set v
  ka : KidsW ok w a.kids u
  kb : KidsW ok' w b.kids v
  bel : Below A w0 w
theorem SmW.under {ok ok' : Nat → Prop} {w0 w w' : World} {A : Nat} {a b : Nd} {u v : Value} (h : SmW ok ok' w0 w A a b u v) (hb : Below w.heap.size w w') : SmW ok ok' w0 w' A a b u v :=
  ⟨h.ba.below hb, h.bb.below hb, h.ka.under hb, h.kb.under hb, h.bel.trans (hb.mono (Nat.le_of_lt h.ba.lt))⟩
theorem SmW.new {ok ok' : Nat → Prop} {w : World} {a b : Nd} {u v : Value} (ha : KidsW ok w a.kids u) (hb : KidsW ok' w b.kids v) : SmW ok ok' w ((w.alloc (.cells #[.int .i64 a.kind, .int .u64 (a.set.1 : Int), .int .u64 (a.set.2.1 : Int), .int .u64 (a.set.2.2.1 : Int), .int .u64 (a.set.2.2.2 : Int), u] 33)).alloc (.cells #[.int .i64 b.kind, .int .u64 (b.set.1 : Int), .int .u64 (b.set.2.1 : Int), .int .u64 (b.set.2.2.1 : Int), .int .u64 (b.set.2.2.2 : Int), v] 33)) w.heap.size a b u v := by
  have h1 := boxN.new 33 w a.kind a.set u
  have b1 := alloc_under w (.cells #[.int .i64 a.kind, .int .u64 (a.set.1 : Int), .int .u64 (a.set.2.1 : Int), .int .u64 (a.set.2.2.1 : Int), .int .u64 (a.set.2.2.2 : Int), u] 33)
  have z1 := alloc_size w (.cells #[.int .i64 a.kind, .int .u64 (a.set.1 : Int), .int .u64 (a.set.2.1 : Int), .int .u64 (a.set.2.2.1 : Int), .int .u64 (a.set.2.2.2 : Int), u] 33)
  obtain ⟨W, hW⟩ : ∃ W, w.alloc (.cells #[.int .i64 a.kind, .int .u64 (a.set.1 : Int), .int .u64 (a.set.2.1 : Int), .int .u64 (a.set.2.2.1 : Int), .int .u64 (a.set.2.2.2 : Int), u] 33) = W := ⟨_, rfl⟩
  rw [hW] at h1 b1 z1 ⊢
  have h2 := boxN.new 33 W b.kind b.set v
  have b2 := alloc_under W (.cells #[.int .i64 b.kind, .int .u64 (b.set.1 : Int), .int .u64 (b.set.2.1 : Int), .int .u64 (b.set.2.2.1 : Int), .int .u64 (b.set.2.2.2 : Int), v] 33)
  rw [z1] at h2
  exact ⟨h1.below b2, h2, (ha.under b1).under b2, (hb.under b1).under b2, b1.trans (b2.mono (by omega))⟩
set_option maxRecDepth 4000 in
set_option maxHeartbeats 16000000 in
theorem rsame_any : ∀ (d : Nat) (ok ok' : Nat → Prop) (a b : Nd) (x y : Value) (w : World), deepR a ≤ d → NodeW ok w a x → NodeW ok' w b y →
    Calls Tryd.prog 11 #[x, y] w fun e w' => e = .returned (.bool (sameR a b)) ∧ Below w.heap.size w w'
  | 0, _, _, a, _, _, _, _, hd, _, _ => by
    rw [deep_kids] at hd; omega
  | d + 1, ok, ok', .mk ka sa la, .mk kb sb lb, x, y, w, hd, ⟨_, u, hx, hu⟩, ⟨_, v, hy, hv⟩ => by
    subst hx hy
    rw [deep_kids] at hd
    have IH := Lib.hid (rsame_any d)
    have HS0 := Lib.hid (SmW.new hu hv)
    obtain ⟨uo, uc, hue, hul, hub⟩ := hu.form
    obtain ⟨vo, vc, hve, hvl, hvb⟩ := hv.form
    subst hue hve
    clear hu hv
    have hsp : sameR (.mk ka sa la) (.mk kb sb lb) = (decide (ka = kb) && decide (sa = sb) && sameL la lb) := by rw [sameR]
    have hln := sameL_len la lb
    obtain ⟨RES, hRES⟩ : ∃ R, sameR (.mk ka sa la) (.mk kb sb lb) = R := ⟨_, rfl⟩
    rw [hRES] at hsp ⊢
    clear hRES
    have HEQ := Lib.hid (fun W => set_eqIn sa sb W)
    unfold setV at HEQ
    unfold nodeV
    have hdk : deepL la ≤ d := by simp only [Nd.kids] at hd; omega
    simp only [Nd.kind, Nd.set, Nd.kids] at HS0 hul hub hvl hvb ⊢
    clear hd
    by_cases hk : ka = kb
    case neg =>
      have bk : (ka != kb) = true := bne_iff_ne.2 hk
      have bk2 : ka ≠ kb := hk
      have HR : Hid (RES = false) := by rw [hsp, decide_eq_false hk]; rfl
      clear hk hsp hln
      go_enter Tryd.func11, Tryd.ntmps11
      go_wp2_with fail
      go_ret
      exact ⟨by rw [HR.out]; rfl, HS0.out.bel⟩
    subst hk
    rw [decide_eq_true rfl, Bool.true_and] at hsp
    by_cases hs : sa = sb
    case neg =>
      have HR : Hid (RES = false) := by rw [hsp, decide_eq_false hs]; rfl
      rw [decide_eq_false hs] at HEQ
      have heq := HEQ.out
      clear hsp hln hs HEQ
      go_enter Tryd.func11, Tryd.ntmps11
      go_wp2_with fail
      go_ret
      exact ⟨by rw [HR.out]; rfl, HS0.out.bel⟩
    subst hs
    rw [decide_eq_true rfl] at HEQ
    rw [decide_eq_true rfl, Bool.true_and] at hsp
    have heq := HEQ.out
    by_cases hl : la.length = lb.length
    case neg =>
      have bl : ((la.length : Int) == (lb.length : Int)) = false := beq_eq_false_iff_ne.2 (by omega)
      have HR : Hid (RES = false) := by rw [hsp, hln hl]; exact rfl
      clear hsp hln hl HEQ
      go_enter Tryd.func11, Tryd.ntmps11
      go_wp2_with fail
      go_ret
      exact ⟨by rw [HR.out]; rfl, HS0.out.bel⟩
    obtain ⟨n, hn⟩ : ∃ n, la.length = n := ⟨_, rfl⟩
    have hn2 : lb.length = n := by omega
    have HL := Lib.hid (And.intro hn hn2)
    have HSP := Lib.hid hsp
    rw [hn] at hul hub HS0 ⊢
    rw [hn2] at hvl hvb HS0 ⊢
    clear hln hl HEQ hn hn2 hsp
    go_enter Tryd.func11, Tryd.ntmps11
    go_wp2_with fail
    obtain ⟨W1, hW1⟩ : ∃ W1, (w.alloc (.cells #[.int .i64 ka, .int .u64 (sa.1 : Int), .int .u64 (sa.2.1 : Int), .int .u64 (sa.2.2.1 : Int), .int .u64 (sa.2.2.2 : Int), .slice uo n uc] 33)).alloc (.cells #[.int .i64 ka, .int .u64 (sa.1 : Int), .int .u64 (sa.2.1 : Int), .int .u64 (sa.2.2.1 : Int), .int .u64 (sa.2.2.2 : Int), .slice vo n vc] 33) = W1 := ⟨_, rfl⟩
    (try rw [hW1])
    rw [hW1] at HS0
    clear hW1
    obtain ⟨A, hA⟩ : ∃ A, w.heap.size = A := ⟨_, rfl⟩
    (try rw [hA])
    rw [hA] at HS0
    have HAS := Lib.hid hA
    clear hA
    have HS1 : Hid (SmW ok ok' w W1 A (.mk ka sa la) (.mk ka sa lb) (.slice uo n uc) (.slice vo n vc) ∧ sameL (la.drop 0) (lb.drop 0) = RES) := ⟨HS0.out, by rw [HSP.out]; rfl⟩
    clear HS0 HSP
    go_loopw [5] (fun s5 wr => ∃ i : Nat, s5 = .int .i64 (i : Int) ∧ i ≤ n ∧ Hid (SmW ok ok' w wr A (.mk ka sa la) (.mk ka sa lb) (.slice uo n uc) (.slice vo n vc) ∧ sameL (la.drop i) (lb.drop i) = RES)) (fun s5 _ => n - (intOf s5).toNat)
    case atStart => exact ⟨0, rfl, Nat.zero_le _, HS1⟩
    case round =>
      obtain ⟨i, rfl, hi, HI⟩ := hrel
      clear HS1
      have i0 : (0 : Int) ≤ (i : Int) := by omega
      have ib : (i : Int) ≤ 9223372036854775807 := by omega
      obtain ⟨⟨a0, a1, a2, a3, a4, a5⟩, _⟩ := HI.out.1.ba.cells
      obtain ⟨⟨b0, b1, b2, b3, b4, b5⟩, _⟩ := HI.out.1.bb.cells
      have hAlt := HI.out.1.bb.lt
      by_cases hlt : i < n
      · have hli : (i : Int) < (n : Int) := by omega
        have hla : i < la.length := by have := HL.out.1; omega
        have hlb : i < lb.length := by have := HL.out.2; omega
        obtain ⟨g, o, c1, xa, hua, hc1, hoa, hka, hga⟩ := HI.out.1.ka.at_ (i := i) (n := la[i]) (List.getElem?_eq_getElem hla)
        obtain ⟨g', o', c2, xb, hvb', hc2, hob, hkb, hgb⟩ := HI.out.1.kb.at_ (i := i) (n := lb[i]) (List.getElem?_eq_getElem hlb)
        have hdi : deepR la[i] ≤ d := Nat.le_trans (deep_kid la _ (List.getElem_mem hla)) hdk
        have hst := sameL_drop la lb i hla hlb
        rw [HI.out.2] at hst
        injection hua with e1 e2 e3
        injection hvb' with e4 e5 e6
        subst e1 e3 e4 e6
        clear e2 e5
        obtain ⟨pa, hpa⟩ : ∃ p, la[i] = p := ⟨_, rfl⟩
        obtain ⟨pb, hpb⟩ : ∃ p, lb[i] = p := ⟨_, rfl⟩
        rw [hpa] at hoa hka hga hdi hst
        rw [hpb] at hob hkb hgb hst
        have x0 := hga 0 _ (by decide) rfl
        have x1 := hga 1 _ (by decide) rfl
        have x2 := hga 2 _ (by decide) rfl
        have x3 := hga 3 _ (by decide) rfl
        have x4 := hga 4 _ (by decide) rfl
        have x5 := hga 5 _ (by decide) rfl
        have y0 := hgb 0 _ (by decide) rfl
        have y1 := hgb 1 _ (by decide) rfl
        have y2 := hgb 2 _ (by decide) rfl
        have y3 := hgb 3 _ (by decide) rfl
        have y4 := hgb 4 _ (by decide) rfl
        have y5 := hgb 5 _ (by decide) rfl
        simp only [Nat.add_zero, ← Nat.add_assoc] at x0 x1 x2 x3 x4 x5 y0 y1 y2 y3 y4 y5
        have hgl := rlt x0
        have hgl2 := rlt y0
        have HC := Lib.hid (fun W (hW : Below wr.heap.size wr W) => IH.out ok ok' pa pb (nodeV pa xa) (nodeV pb xb) W hdi ⟨hoa, _, rfl, hka.under hW⟩ ⟨hob, _, rfl, hkb.under hW⟩)
        unfold nodeV at HC
        have HST := Lib.hid hst
        have HI2 := Lib.hid HI.out.1
        clear hga hgb hoa hob hka hkb hdi hst hla hlb hpa hpb HI
        go_wp2_with fail
        go_still_tail 10, (by kernel_rfl)
        change wpList _ _ _ _ _ wr.drew
        obtain ⟨Wd, hWd⟩ : ∃ Wd, wr.drew = Wd := ⟨_, rfl⟩
        rw [hWd]
        have hbd : Below wr.heap.size wr Wd := by rw [← hWd]; exact ⟨rfl, rfl, rfl, Nat.le_refl _, fun _ _ => rfl⟩
        have HI3 := Lib.hid (HI2.out.under hbd)
        have HC2 := Lib.hid (HC.out Wd hbd)
        clear hWd hbd HC HI2 x0 x1 x2 x3 x4 x5 y0 y1 y2 y3 y4 y5 a0 a1 a2 a3 a4 a5 b0 b1 b2 b3 b4 b5
        rcases hsm : sameR pa pb with _ | _
        · rw [hsm] at HST HC2
          clear hsm
          go_wp2_with fail
          go_fit HC2.out
          rintro e wx ⟨rfl, hbx⟩
          have HI4 := Lib.hid (HI3.out.under hbx)
          clear hbx
          go_wp2_with fail
          go_ret
          exact ⟨by rw [HST.out]; rfl, by rw [HAS.out]; exact HI4.out.bel⟩
        · rw [hsm, Bool.true_and] at HST
          rw [hsm] at HC2
          clear hsm
          go_wp2_with fail
          go_fit HC2.out
          rintro e wx ⟨rfl, hbx⟩
          have HI4 := Lib.hid (HI3.out.under hbx)
          clear hbx
          go_wp2_with fail
          go_roundw
          case rel => exact ⟨i + 1, by go_num, by omega, HI4.out, HST.out.symm⟩
          case measure => simp [intOf]; omega
      · have hie : i = n := by omega
        subst hie
        have HR : Hid (RES = true) := by
          have h2 := HI.out.2
          rw [List.drop_eq_nil_of_le (by have := HL.out.1; omega), List.drop_eq_nil_of_le (by have := HL.out.2; omega)] at h2
          exact h2.symm
        have HB := Lib.hid HI.out.1.bel
        clear HI
        go_wp2_with fail
        go_ret
        exact ⟨by rw [HR.out]; rfl, by rw [HAS.out]; exact HB.out⟩
end Go.Proofs.YthokamikejnbeaaDoor
