/-
  Texts of this proof, one behind the other; each begins with its own remark.
-/
import Derived.Deep.Cut
import Derived.Deep.RegionLaw
import Derived.Test.YtkopbngnhgdfhaaDoorBe19
import Derived.Test.YtkopbngnhgdfhaaDoorBe17
/-
  limnerref11.lay: what it comes to, of a node of each kind without a row of kids, where it does as it should with the kid.
-/
namespace Go.Proofs.YtkopbngnhgdfhaaDoor
open Go.RowKit

section
variable {X : Nat → Prop} {w : World} {R m : Nat} {sv bv lv x : Value} {S : List St4} {E : Nat → Nat → Bool} {n : Nd}
set_option maxRecDepth 4000 in
set_option maxHeartbeats 8000000 in
theorem rlay_none (hk : ¬ n.kind = 1 ∧ ¬ n.kind = 2 ∧ ¬ n.kind = 3 ∧ ¬ n.kind = 4 ∧ ¬ n.kind = 5 ∧ ¬ n.kind = 6) (hks : n.kids = []) (hr : RulW X w R sv bv lv S m E) (hX : ∀ k, w.heap.size ≤ k → ¬ X k) (hx : NodeW (fun k => ¬ OwnR R sv bv k) w n x) (hlen : 0 < S.length ∧ S.length + (setsN n).length ≤ m) (hm : m ≤ 100000) :
    Calls Tryd.prog 59 #[.pointer (some ⟨R, 0, none⟩), x, .int .i64 (m : Int)] w fun e w' => LayP X R sv bv lv S m E n w w' e := by
  obtain ⟨hs, u, rfl, hu⟩ := hx
  obtain ⟨uo, uc, rfl, hul, hub⟩ := hu.form
  have HS0 := Lib.hid (LayF.start hr hu (by omega))
  have hmk := fun W => nmake m (by omega) W
  have hk1 : (n.kind == 1) = false := beq_eq_false_iff_ne.2 hk.1
  have hk2 : (n.kind == 2) = false := beq_eq_false_iff_ne.2 hk.2.1
  have hk3 : (n.kind == 3) = false := beq_eq_false_iff_ne.2 hk.2.2.1
  have hk4 : (n.kind == 4) = false := beq_eq_false_iff_ne.2 hk.2.2.2.1
  have hk5 : (n.kind == 5) = false := beq_eq_false_iff_ne.2 hk.2.2.2.2.1
  have hk6 : (n.kind == 6) = false := beq_eq_false_iff_ne.2 hk.2.2.2.2.2
  have HG : Hid (glN n S.length = emptyG ∧ S ++ setsN n = S) := Lib.hid ⟨by rw [glN_eq, if_neg hk.1, if_neg hk.2.1, if_neg hk.2.2.1, if_neg hk.2.2.2.1, if_neg hk.2.2.2.2.1, if_neg hk.2.2.2.2.2], by rw [setsN_kids n hk.1, hks, setsL, List.append_nil]⟩
  clear hk hks
  unfold nodeV
  have HX := Lib.hid hX
  clear hr hu hX
  go_enter Tryd.func59, Tryd.ntmps59
  go_upto_region 2 with (fail)
  obtain ⟨W1, hW1⟩ : ∃ W1, ((w.alloc (.cells #[.int .i64 n.kind, .int .u64 (n.set.1 : Int), .int .u64 (n.set.2.1 : Int), .int .u64 (n.set.2.2.1 : Int), .int .u64 (n.set.2.2.2 : Int), .slice uo n.kids.length uc] 90)).alloc (.cells #[.bool false, .slice none 0 0, .slice none 0 0] 128)).alloc (.cells (boolC (noneB m)).toArray 4) = W1 := ⟨_, rfl⟩
  (try rw [hW1])
  rw [hW1] at HS0
  clear hW1 hmk
  obtain ⟨b, hb⟩ : ∃ b, w.heap.size = b := ⟨_, rfl⟩
  (try rw [hb])
  rw [hb] at HS0 HX
  have HBB := Lib.hid hb
  clear hb
  obtain ⟨⟨c0, c1, c2, c3, c4, c5⟩, _⟩ := HS0.out.1.x.cells
  have hbl := HS0.out.1.x.lt
  obtain ⟨⟨p0, p1, p2⟩, p3, p4, p5⟩ := HS0.out.1.p.cells
  have hpl := HS0.out.1.p.lt
  have HF := Lib.hid (HS0.out.1.fin (z := true) HS0.out.1.nrow.acc1 HS0.out.1.nrow.acc1)
  obtain ⟨⟨y0, y1, y2⟩, _⟩ := HF.out.1.cells
  unfold setP at y0 y1 y2 HF
  go_wp2_with fail
  exact bodyPost_ret (v := .agg #[.bool true, (.slice (some ⟨b + 1 + 1, 0, none⟩) m m), (.slice (some ⟨b + 1 + 1, 0, none⟩) m m)]) (by simp [results, Tryd.results59, go_sem, y0, y1, y2]) rfl (layP_mk (g := emptyG) HG.out.1 HG.out.2 (HF.out.2.1.congr fun i _ j _ => by simp [orF2, emptyG, noF2]) HF.out.2.2.1 HF.out.2.2.2.1 HF.out.2.2.2.2)
set_option maxRecDepth 4000 in
set_option maxHeartbeats 8000000 in
theorem rlay_star (hk : n.kind = 4) (k1 : Nd) (hks : n.kids = [k1]) (hB : LayW k1) (hr : RulW X w R sv bv lv S m E) (hX : ∀ k, w.heap.size ≤ k → ¬ X k) (hx : NodeW (fun k => ¬ OwnR R sv bv k) w n x) (hlen : 0 < S.length ∧ S.length + (setsN n).length ≤ m) (hm : m ≤ 100000) :
    Calls Tryd.prog 59 #[.pointer (some ⟨R, 0, none⟩), x, .int .i64 (m : Int)] w fun e w' => LayP X R sv bv lv S m E n w w' e := by
  obtain ⟨hs, u, rfl, hu⟩ := hx
  obtain ⟨uo, uc, rfl, hul, hub⟩ := hu.form
  have HS0 := Lib.hid (LayF.start hr hu (by omega))
  have hmk := fun W => nmake m (by omega) W
  have HG : Hid (glN n S.length = loopG true (glN k1 S.length) ∧ S ++ setsN n = S ++ setsN k1) := Lib.hid ⟨by rw [glN_eq, if_neg (by rw [hk]; decide), if_neg (by rw [hk]; decide), if_neg (by rw [hk]; decide), if_pos hk, hks, oneG], by rw [setsN_kids n (by rw [hk]; decide), hks, setsL, setsL, List.append_nil]⟩
  have hk14 : (n.kind == 4) = true := by rw [hk]; rfl
  have HK0 : Hid (n.kids[0]? = some k1) := Lib.hid (by rw [hks]; rfl)
  have HLN : Hid (0 < S.length ∧ S.length + (setsN k1).length ≤ m) := Lib.hid (by
    have h1 := congrArg List.length HG.out.2
    rw [List.length_append, List.length_append] at h1
    omega)
  have hlk : 0 < n.kids.length := by rw [hks]; simp
  have hlki : (0 : Int) < (n.kids.length : Int) := by omega
  have hk1 : (n.kind == 1) = false := by rw [hk]; rfl
  have hk2 : (n.kind == 2) = false := by rw [hk]; rfl
  have hk3 : (n.kind == 3) = false := by rw [hk]; rfl
  have hk4 : (n.kind == 4) = true := by rw [hk]; rfl
  have HB := Lib.hid hB
  clear hk hks hB hlen
  unfold nodeV
  have HX := Lib.hid hX
  clear hr hu hX
  go_enter Tryd.func59, Tryd.ntmps59
  go_upto_region 2 with (fail)
  obtain ⟨W1, hW1⟩ : ∃ W1, ((w.alloc (.cells #[.int .i64 n.kind, .int .u64 (n.set.1 : Int), .int .u64 (n.set.2.1 : Int), .int .u64 (n.set.2.2.1 : Int), .int .u64 (n.set.2.2.2 : Int), .slice uo n.kids.length uc] 90)).alloc (.cells #[.bool false, .slice none 0 0, .slice none 0 0] 128)).alloc (.cells (boolC (noneB m)).toArray 4) = W1 := ⟨_, rfl⟩
  (try rw [hW1])
  rw [hW1] at HS0
  clear hW1 hmk
  obtain ⟨b, hb⟩ : ∃ b, w.heap.size = b := ⟨_, rfl⟩
  (try rw [hb])
  rw [hb] at HS0 HX
  have HBB := Lib.hid hb
  clear hb
  obtain ⟨⟨c0, c1, c2, c3, c4, c5⟩, _⟩ := HS0.out.1.x.cells
  have hbl := HS0.out.1.x.lt
  obtain ⟨⟨p0, p1, p2⟩, p3, p4, p5⟩ := HS0.out.1.p.cells
  have hpl := HS0.out.1.p.lt
  obtain ⟨g, o, cap, ku, kl, kc, hue, hul2, rfl, hnk, hcell⟩ := HS0.out.1.kid HK0.out
  injection hue with e1 e2 e3
  subst e1 e3
  clear e2
  have d0 := hcell 0 _ (by decide) rfl
  have d1 := hcell 1 _ (by decide) rfl
  have d2 := hcell 2 _ (by decide) rfl
  have d3 := hcell 3 _ (by decide) rfl
  have d4 := hcell 4 _ (by decide) rfl
  have d5 := hcell 5 _ (by decide) rfl
  simp only [Nat.zero_mul, Nat.zero_add, Nat.add_zero] at d0 d1 d2 d3 d4 d5
  have HA := Lib.hid (HB.out _ _ _ _ _ _ _ _ _ _ HS0.out.1.r (HS0.out.1.newX (by rw [HBB.out]; exact HX.out)) hnk HLN.out hm)
  unfold nodeV at HA
  clear hcell hnk
  go_wp2_with fail
  go_fit HA.out
  rintro e w2 ⟨sv', fV, lV, rfl, hR, hGo, hf, hl⟩
  have h2 := HS0.out.1.go hR hGo
  have hsz := HS0.out.2
  have H2 := Lib.hid (And.intro h2 (And.intro (hf.mono (own2 := Acc1 R sv' bv b) fun k _ e => e.imp id fun e => by omega) (hl.mono (own2 := Acc1 R sv' bv b) fun k _ e => e.imp id fun e => by omega)))
  obtain ⟨fo, fc, hfv⟩ : ∃ fo fc, fV = .slice fo m fc := by
    obtain ⟨_, gg, cc, hh, _⟩ := hf
    exact ⟨_, _, hh⟩
  obtain ⟨lo, lc, hlv⟩ : ∃ lo lc, lV = .slice lo m lc := by
    obtain ⟨_, gg, cc, hh, _⟩ := hl
    exact ⟨_, _, hh⟩
  subst hfv hlv
  obtain ⟨nu, hnu⟩ : ∃ nu, (glN k1 S.length).null = nu := ⟨_, rfl⟩
  (try rw [hnu])
  clear hR hGo hf hl h2 hsz HA HS0 c0 c1 c2 c3 c4 c5 hbl p0 p1 p2 p3 p4 p5 hpl d0 d1 d2 d3 d4 d5
  have hba := alloc_under w2 (.cells #[.bool nu, .slice fo m fc, .slice lo m lc] 128)
  have H3 := Lib.hid (And.intro (H2.out.1.under hba) (And.intro (H2.out.2.1.under hba) (And.intro (H2.out.2.2.under hba) (box3.new 128 w2 (.bool nu) (.slice fo m fc) (.slice lo m lc)))))
  clear hba
  go_upto_region 33 with (fail)
  obtain ⟨W3, hW3⟩ : ∃ W3, w2.alloc (.cells #[.bool nu, .slice fo m fc, .slice lo m lc] 128) = W3 := ⟨_, rfl⟩
  (try rw [hW3])
  rw [hW3] at H3
  clear hW3
  obtain ⟨c, hc⟩ : ∃ c, w2.heap.size = c := ⟨_, rfl⟩
  (try rw [hc])
  rw [hc] at H3
  have HNO := Lib.hid (show ¬ OwnR R sv' bv c from H2.out.1.r.ownlt c (by omega))
  clear hc H2
  obtain ⟨⟨q0, q1, q2⟩, _⟩ := H3.out.2.2.2.cells
  have HFO := Lib.hid (rfollow_any H3.out.1.r (H3.out.2.2.1.mono (own2 := OwnR R sv' bv) fun k _ e => .inl e) (H3.out.2.1.mono (own2 := OwnR R sv' bv) fun k _ e => .inl e) hm (H3.out.1.newX (by rw [HBB.out]; exact HX.out)))
  go_wp2_with fail
  go_fit HFO.out
  rintro e w4 ⟨rfl, hR, hGo⟩
  have H4 := Lib.hid (And.intro (H3.out.1.go hR hGo) (And.intro (H3.out.2.1.go1 hGo) (And.intro (H3.out.2.2.1.go1 hGo) (H3.out.2.2.2.go HNO.out hGo).1)))
  clear hR hGo HFO q0 q1 q2 H3
  obtain ⟨⟨c0, c1, c2, c3, c4, c5⟩, _⟩ := H4.out.1.x.cells
  have hbl := H4.out.1.x.lt
  obtain ⟨⟨p0, p1, p2⟩, p3, p4, p5⟩ := H4.out.1.p.cells
  have hpl := H4.out.1.p.lt
  obtain ⟨⟨q0, q1, q2⟩, _⟩ := H4.out.2.2.2.cells
  have HF := Lib.hid (H4.out.1.fin (z := (nu || true)) H4.out.2.1 H4.out.2.2.1)
  obtain ⟨⟨y0, y1, y2⟩, _⟩ := HF.out.1.cells
  unfold setP at y0 y1 y2 HF
  have HNU := Lib.hid hnu
  clear hnu
  rcases nu with _ | _
  · simp only [Bool.false_or] at y0 y1 y2 HF
    go_wp2_with fail
    exact bodyPost_ret (v := .agg #[.bool true, .slice fo m fc, .slice lo m lc]) (by simp [results, Tryd.results59, go_sem, y0, y1, y2]) rfl (by
      have h1 := layP_mk (E := E) (g := loopG true (glN k1 S.length)) HG.out.1 HG.out.2 (HF.out.2.1.congr fun i _ j _ => by simp [orF2, loopG, crossF, Bool.or_assoc]) HF.out.2.2.1 HF.out.2.2.2.1 HF.out.2.2.2.2
      rw [show (loopG true (glN k1 S.length)).null = true by simp [loopG, HNU.out]] at h1
      exact h1)
  · simp only [Bool.true_or] at y0 y1 y2 HF
    go_wp2_with fail
    exact bodyPost_ret (v := .agg #[.bool true, .slice fo m fc, .slice lo m lc]) (by simp [results, Tryd.results59, go_sem, y0, y1, y2]) rfl (by
      have h1 := layP_mk (E := E) (g := loopG true (glN k1 S.length)) HG.out.1 HG.out.2 (HF.out.2.1.congr fun i _ j _ => by simp [orF2, loopG, crossF, Bool.or_assoc]) HF.out.2.2.1 HF.out.2.2.2.1 HF.out.2.2.2.2
      rw [show (loopG true (glN k1 S.length)).null = true by simp [loopG, HNU.out]] at h1
      exact h1)
set_option maxRecDepth 4000 in
set_option maxHeartbeats 8000000 in
theorem rlay_plus (hk : n.kind = 5) (k1 : Nd) (hks : n.kids = [k1]) (hB : LayW k1) (hr : RulW X w R sv bv lv S m E) (hX : ∀ k, w.heap.size ≤ k → ¬ X k) (hx : NodeW (fun k => ¬ OwnR R sv bv k) w n x) (hlen : 0 < S.length ∧ S.length + (setsN n).length ≤ m) (hm : m ≤ 100000) :
    Calls Tryd.prog 59 #[.pointer (some ⟨R, 0, none⟩), x, .int .i64 (m : Int)] w fun e w' => LayP X R sv bv lv S m E n w w' e := by
  obtain ⟨hs, u, rfl, hu⟩ := hx
  obtain ⟨uo, uc, rfl, hul, hub⟩ := hu.form
  have HS0 := Lib.hid (LayF.start hr hu (by omega))
  have hmk := fun W => nmake m (by omega) W
  have HG : Hid (glN n S.length = loopG false (glN k1 S.length) ∧ S ++ setsN n = S ++ setsN k1) := Lib.hid ⟨by rw [glN_eq, if_neg (by rw [hk]; decide), if_neg (by rw [hk]; decide), if_neg (by rw [hk]; decide), if_neg (by rw [hk]; decide), if_pos hk, hks, oneG], by rw [setsN_kids n (by rw [hk]; decide), hks, setsL, setsL, List.append_nil]⟩
  have hk14 : (n.kind == 4) = false := by rw [hk]; rfl
  have HK0 : Hid (n.kids[0]? = some k1) := Lib.hid (by rw [hks]; rfl)
  have HLN : Hid (0 < S.length ∧ S.length + (setsN k1).length ≤ m) := Lib.hid (by
    have h1 := congrArg List.length HG.out.2
    rw [List.length_append, List.length_append] at h1
    omega)
  have hlk : 0 < n.kids.length := by rw [hks]; simp
  have hlki : (0 : Int) < (n.kids.length : Int) := by omega
  have hk1 : (n.kind == 1) = false := by rw [hk]; rfl
  have hk2 : (n.kind == 2) = false := by rw [hk]; rfl
  have hk3 : (n.kind == 3) = false := by rw [hk]; rfl
  have hk4 : (n.kind == 4) = false := by rw [hk]; rfl
  have hk5 : (n.kind == 5) = true := by rw [hk]; rfl
  have HB := Lib.hid hB
  clear hk hks hB hlen
  unfold nodeV
  have HX := Lib.hid hX
  clear hr hu hX
  go_enter Tryd.func59, Tryd.ntmps59
  go_upto_region 2 with (fail)
  obtain ⟨W1, hW1⟩ : ∃ W1, ((w.alloc (.cells #[.int .i64 n.kind, .int .u64 (n.set.1 : Int), .int .u64 (n.set.2.1 : Int), .int .u64 (n.set.2.2.1 : Int), .int .u64 (n.set.2.2.2 : Int), .slice uo n.kids.length uc] 90)).alloc (.cells #[.bool false, .slice none 0 0, .slice none 0 0] 128)).alloc (.cells (boolC (noneB m)).toArray 4) = W1 := ⟨_, rfl⟩
  (try rw [hW1])
  rw [hW1] at HS0
  clear hW1 hmk
  obtain ⟨b, hb⟩ : ∃ b, w.heap.size = b := ⟨_, rfl⟩
  (try rw [hb])
  rw [hb] at HS0 HX
  have HBB := Lib.hid hb
  clear hb
  obtain ⟨⟨c0, c1, c2, c3, c4, c5⟩, _⟩ := HS0.out.1.x.cells
  have hbl := HS0.out.1.x.lt
  obtain ⟨⟨p0, p1, p2⟩, p3, p4, p5⟩ := HS0.out.1.p.cells
  have hpl := HS0.out.1.p.lt
  obtain ⟨g, o, cap, ku, kl, kc, hue, hul2, rfl, hnk, hcell⟩ := HS0.out.1.kid HK0.out
  injection hue with e1 e2 e3
  subst e1 e3
  clear e2
  have d0 := hcell 0 _ (by decide) rfl
  have d1 := hcell 1 _ (by decide) rfl
  have d2 := hcell 2 _ (by decide) rfl
  have d3 := hcell 3 _ (by decide) rfl
  have d4 := hcell 4 _ (by decide) rfl
  have d5 := hcell 5 _ (by decide) rfl
  simp only [Nat.zero_mul, Nat.zero_add, Nat.add_zero] at d0 d1 d2 d3 d4 d5
  have HA := Lib.hid (HB.out _ _ _ _ _ _ _ _ _ _ HS0.out.1.r (HS0.out.1.newX (by rw [HBB.out]; exact HX.out)) hnk HLN.out hm)
  unfold nodeV at HA
  clear hcell hnk
  go_wp2_with fail
  go_fit HA.out
  rintro e w2 ⟨sv', fV, lV, rfl, hR, hGo, hf, hl⟩
  have h2 := HS0.out.1.go hR hGo
  have hsz := HS0.out.2
  have H2 := Lib.hid (And.intro h2 (And.intro (hf.mono (own2 := Acc1 R sv' bv b) fun k _ e => e.imp id fun e => by omega) (hl.mono (own2 := Acc1 R sv' bv b) fun k _ e => e.imp id fun e => by omega)))
  obtain ⟨fo, fc, hfv⟩ : ∃ fo fc, fV = .slice fo m fc := by
    obtain ⟨_, gg, cc, hh, _⟩ := hf
    exact ⟨_, _, hh⟩
  obtain ⟨lo, lc, hlv⟩ : ∃ lo lc, lV = .slice lo m lc := by
    obtain ⟨_, gg, cc, hh, _⟩ := hl
    exact ⟨_, _, hh⟩
  subst hfv hlv
  obtain ⟨nu, hnu⟩ : ∃ nu, (glN k1 S.length).null = nu := ⟨_, rfl⟩
  (try rw [hnu])
  clear hR hGo hf hl h2 hsz HA HS0 c0 c1 c2 c3 c4 c5 hbl p0 p1 p2 p3 p4 p5 hpl d0 d1 d2 d3 d4 d5
  have hba := alloc_under w2 (.cells #[.bool nu, .slice fo m fc, .slice lo m lc] 128)
  have H3 := Lib.hid (And.intro (H2.out.1.under hba) (And.intro (H2.out.2.1.under hba) (And.intro (H2.out.2.2.under hba) (box3.new 128 w2 (.bool nu) (.slice fo m fc) (.slice lo m lc)))))
  clear hba
  go_upto_region 33 with (fail)
  obtain ⟨W3, hW3⟩ : ∃ W3, w2.alloc (.cells #[.bool nu, .slice fo m fc, .slice lo m lc] 128) = W3 := ⟨_, rfl⟩
  (try rw [hW3])
  rw [hW3] at H3
  clear hW3
  obtain ⟨c, hc⟩ : ∃ c, w2.heap.size = c := ⟨_, rfl⟩
  (try rw [hc])
  rw [hc] at H3
  have HNO := Lib.hid (show ¬ OwnR R sv' bv c from H2.out.1.r.ownlt c (by omega))
  clear hc H2
  obtain ⟨⟨q0, q1, q2⟩, _⟩ := H3.out.2.2.2.cells
  have HFO := Lib.hid (rfollow_any H3.out.1.r (H3.out.2.2.1.mono (own2 := OwnR R sv' bv) fun k _ e => .inl e) (H3.out.2.1.mono (own2 := OwnR R sv' bv) fun k _ e => .inl e) hm (H3.out.1.newX (by rw [HBB.out]; exact HX.out)))
  go_wp2_with fail
  go_fit HFO.out
  rintro e w4 ⟨rfl, hR, hGo⟩
  have H4 := Lib.hid (And.intro (H3.out.1.go hR hGo) (And.intro (H3.out.2.1.go1 hGo) (And.intro (H3.out.2.2.1.go1 hGo) (H3.out.2.2.2.go HNO.out hGo).1)))
  clear hR hGo HFO q0 q1 q2 H3
  obtain ⟨⟨c0, c1, c2, c3, c4, c5⟩, _⟩ := H4.out.1.x.cells
  have hbl := H4.out.1.x.lt
  obtain ⟨⟨p0, p1, p2⟩, p3, p4, p5⟩ := H4.out.1.p.cells
  have hpl := H4.out.1.p.lt
  obtain ⟨⟨q0, q1, q2⟩, _⟩ := H4.out.2.2.2.cells
  have HF := Lib.hid (H4.out.1.fin (z := (nu || false)) H4.out.2.1 H4.out.2.2.1)
  obtain ⟨⟨y0, y1, y2⟩, _⟩ := HF.out.1.cells
  unfold setP at y0 y1 y2 HF
  have HNU := Lib.hid hnu
  clear hnu
  rcases nu with _ | _
  · simp only [Bool.false_or] at y0 y1 y2 HF
    go_wp2_with fail
    exact bodyPost_ret (v := .agg #[.bool false, .slice fo m fc, .slice lo m lc]) (by simp [results, Tryd.results59, go_sem, y0, y1, y2]) rfl (by
      have h1 := layP_mk (E := E) (g := loopG false (glN k1 S.length)) HG.out.1 HG.out.2 (HF.out.2.1.congr fun i _ j _ => by simp [orF2, loopG, crossF, Bool.or_assoc]) HF.out.2.2.1 HF.out.2.2.2.1 HF.out.2.2.2.2
      rw [show (loopG false (glN k1 S.length)).null = false by simp [loopG, HNU.out]] at h1
      exact h1)
  · simp only [Bool.true_or] at y0 y1 y2 HF
    go_wp2_with fail
    exact bodyPost_ret (v := .agg #[.bool true, .slice fo m fc, .slice lo m lc]) (by simp [results, Tryd.results59, go_sem, y0, y1, y2]) rfl (by
      have h1 := layP_mk (E := E) (g := loopG false (glN k1 S.length)) HG.out.1 HG.out.2 (HF.out.2.1.congr fun i _ j _ => by simp [orF2, loopG, crossF, Bool.or_assoc]) HF.out.2.2.1 HF.out.2.2.2.1 HF.out.2.2.2.2
      rw [show (loopG false (glN k1 S.length)).null = true by simp [loopG, HNU.out]] at h1
      exact h1)
set_option maxRecDepth 4000 in
set_option maxHeartbeats 8000000 in
theorem rlay_maybe (hk : n.kind = 6) (k1 : Nd) (hks : n.kids = [k1]) (hB : LayW k1) (hr : RulW X w R sv bv lv S m E) (hX : ∀ k, w.heap.size ≤ k → ¬ X k) (hx : NodeW (fun k => ¬ OwnR R sv bv k) w n x) (hlen : 0 < S.length ∧ S.length + (setsN n).length ≤ m) (hm : m ≤ 100000) :
    Calls Tryd.prog 59 #[.pointer (some ⟨R, 0, none⟩), x, .int .i64 (m : Int)] w fun e w' => LayP X R sv bv lv S m E n w w' e := by
  obtain ⟨hs, u, rfl, hu⟩ := hx
  obtain ⟨uo, uc, rfl, hul, hub⟩ := hu.form
  have HS0 := Lib.hid (LayF.start hr hu (by omega))
  have hmk := fun W => nmake m (by omega) W
  have HG : Hid (glN n S.length = maybeG (glN k1 S.length) ∧ S ++ setsN n = S ++ setsN k1) := Lib.hid ⟨by rw [glN_eq, if_neg (by rw [hk]; decide), if_neg (by rw [hk]; decide), if_neg (by rw [hk]; decide), if_neg (by rw [hk]; decide), if_neg (by rw [hk]; decide), if_pos hk, hks, oneG], by rw [setsN_kids n (by rw [hk]; decide), hks, setsL, setsL, List.append_nil]⟩
  have hk14 : (n.kind == 4) = false := by rw [hk]; rfl
  have HK0 : Hid (n.kids[0]? = some k1) := Lib.hid (by rw [hks]; rfl)
  have HLN : Hid (0 < S.length ∧ S.length + (setsN k1).length ≤ m) := Lib.hid (by
    have h1 := congrArg List.length HG.out.2
    rw [List.length_append, List.length_append] at h1
    omega)
  have hlk : 0 < n.kids.length := by rw [hks]; simp
  have hlki : (0 : Int) < (n.kids.length : Int) := by omega
  have hk1 : (n.kind == 1) = false := by rw [hk]; rfl
  have hk2 : (n.kind == 2) = false := by rw [hk]; rfl
  have hk3 : (n.kind == 3) = false := by rw [hk]; rfl
  have hk4 : (n.kind == 4) = false := by rw [hk]; rfl
  have hk5 : (n.kind == 5) = false := by rw [hk]; rfl
  have hk6 : (n.kind == 6) = true := by rw [hk]; rfl
  have HB := Lib.hid hB
  clear hk hks hB hlen
  unfold nodeV
  have HX := Lib.hid hX
  clear hr hu hX
  go_enter Tryd.func59, Tryd.ntmps59
  go_upto_region 2 with (fail)
  obtain ⟨W1, hW1⟩ : ∃ W1, ((w.alloc (.cells #[.int .i64 n.kind, .int .u64 (n.set.1 : Int), .int .u64 (n.set.2.1 : Int), .int .u64 (n.set.2.2.1 : Int), .int .u64 (n.set.2.2.2 : Int), .slice uo n.kids.length uc] 90)).alloc (.cells #[.bool false, .slice none 0 0, .slice none 0 0] 128)).alloc (.cells (boolC (noneB m)).toArray 4) = W1 := ⟨_, rfl⟩
  (try rw [hW1])
  rw [hW1] at HS0
  clear hW1 hmk
  obtain ⟨b, hb⟩ : ∃ b, w.heap.size = b := ⟨_, rfl⟩
  (try rw [hb])
  rw [hb] at HS0 HX
  have HBB := Lib.hid hb
  clear hb
  obtain ⟨⟨c0, c1, c2, c3, c4, c5⟩, _⟩ := HS0.out.1.x.cells
  have hbl := HS0.out.1.x.lt
  obtain ⟨⟨p0, p1, p2⟩, p3, p4, p5⟩ := HS0.out.1.p.cells
  have hpl := HS0.out.1.p.lt
  obtain ⟨g, o, cap, ku, kl, kc, hue, hul2, rfl, hnk, hcell⟩ := HS0.out.1.kid HK0.out
  injection hue with e1 e2 e3
  subst e1 e3
  clear e2
  have d0 := hcell 0 _ (by decide) rfl
  have d1 := hcell 1 _ (by decide) rfl
  have d2 := hcell 2 _ (by decide) rfl
  have d3 := hcell 3 _ (by decide) rfl
  have d4 := hcell 4 _ (by decide) rfl
  have d5 := hcell 5 _ (by decide) rfl
  simp only [Nat.zero_mul, Nat.zero_add, Nat.add_zero] at d0 d1 d2 d3 d4 d5
  have HA := Lib.hid (HB.out _ _ _ _ _ _ _ _ _ _ HS0.out.1.r (HS0.out.1.newX (by rw [HBB.out]; exact HX.out)) hnk HLN.out hm)
  unfold nodeV at HA
  clear hcell hnk
  go_wp2_with fail
  go_fit HA.out
  rintro e w2 ⟨sv', fV, lV, rfl, hR, hGo, hf, hl⟩
  have h2 := HS0.out.1.go hR hGo
  have hsz := HS0.out.2
  have H2 := Lib.hid (And.intro h2 (And.intro (hf.mono (own2 := Acc1 R sv' bv b) fun k _ e => e.imp id fun e => by omega) (hl.mono (own2 := Acc1 R sv' bv b) fun k _ e => e.imp id fun e => by omega)))
  obtain ⟨fo, fc, hfv⟩ : ∃ fo fc, fV = .slice fo m fc := by
    obtain ⟨_, gg, cc, hh, _⟩ := hf
    exact ⟨_, _, hh⟩
  obtain ⟨lo, lc, hlv⟩ : ∃ lo lc, lV = .slice lo m lc := by
    obtain ⟨_, gg, cc, hh, _⟩ := hl
    exact ⟨_, _, hh⟩
  subst hfv hlv
  obtain ⟨nu, hnu⟩ : ∃ nu, (glN k1 S.length).null = nu := ⟨_, rfl⟩
  (try rw [hnu])
  clear hR hGo hf hl h2 hsz HA HS0 c0 c1 c2 c3 c4 c5 hbl p0 p1 p2 p3 p4 p5 hpl d0 d1 d2 d3 d4 d5
  have hba := alloc_under w2 (.cells #[.bool nu, .slice fo m fc, .slice lo m lc] 128)
  have H3 := Lib.hid (And.intro (H2.out.1.under hba) (And.intro (H2.out.2.1.under hba) (And.intro (H2.out.2.2.under hba) (box3.new 128 w2 (.bool nu) (.slice fo m fc) (.slice lo m lc)))))
  clear hba
  obtain ⟨⟨q0, q1, q2⟩, _⟩ := H3.out.2.2.2.cells
  obtain ⟨⟨p0, p1, p2⟩, p3, p4, p5⟩ := H3.out.1.p.cells
  have hpl := H3.out.1.p.lt
  have HF := Lib.hid (H3.out.1.fin (z := true) H3.out.2.1 H3.out.2.2.1)
  obtain ⟨⟨y0, y1, y2⟩, _⟩ := HF.out.1.cells
  unfold setP at y0 y1 y2 HF
  clear H2 hnu
  go_wp2_with fail
  exact bodyPost_ret (v := .agg #[.bool true, .slice fo m fc, .slice lo m lc]) (by simp [results, Tryd.results59, go_sem, y0, y1, y2]) rfl (layP_mk (g := maybeG (glN k1 S.length)) HG.out.1 HG.out.2 (HF.out.2.1.congr fun i _ j _ => by simp [orF2, maybeG]) HF.out.2.2.1 HF.out.2.2.2.1 HF.out.2.2.2.2)
end
end Go.Proofs.YtkopbngnhgdfhaaDoor

/-
  limnerref11: a rule that is read; or, of a row of one's own; Start, Any, Ends: what each returns.
-/
namespace Go.Proofs.YtkopbngnhgdfhaaDoor
open Go.RowKit

section
variable {o1 o2 : Nat → Prop} {w : World} {u v : Value} {m : Nat} {f g : Nat → Bool}
set_option maxRecDepth 4000 in
set_option maxHeartbeats 4000000 in
theorem rorM_any (hu : BolO o1 w u m f) (hv : BolO o2 w v m g) (hm : m ≤ 100000) :
    Calls Tryd.prog 60 #[u, v] w fun e w' => ∃ G, e = .returned (.slice (some ⟨G, 0, none⟩) m m) ∧ w.heap.size ≤ G ∧ (∃ M, blkM w' G M ∧ M.length = m ∧ ∀ j, j < m → M.getD j false = orF f g j) ∧ Below w.heap.size w w' := by
  have HU := Lib.hid (fun (W : World) (hb : Below w.heap.size w W) => And.intro (hu.under hb) (hv.under hb))
  obtain ⟨hm0, gu, cu, rfl, hcu, _, _⟩ := hu
  obtain ⟨_, gv, cv, rfl, hcv, _, _⟩ := hv
  have hmk := nmake m (by omega) w
  have H0 : Hid (OrW w (w.alloc (.cells (boolC (noneB m)).toArray 4)) w.heap.size m 0 (orF f g)) := Lib.hid ⟨⟨noneB m, blkM_new w m, noneB_len m, fun j hj => by omega⟩, alloc_under _ _, rfl⟩
  clear hm0
  go_enter Tryd.func60, Tryd.ntmps60
  go_wp2_with fail
  obtain ⟨W1, hW1⟩ : ∃ W1, w.alloc (.cells (boolC (noneB m)).toArray 4) = W1 := ⟨_, rfl⟩
  (try rw [hW1])
  rw [hW1] at H0
  obtain ⟨G, hG⟩ : ∃ G, w.heap.size = G := ⟨_, rfl⟩
  (try rw [hG])
  rw [hG] at H0
  have HG := Lib.hid hG
  clear hW1 hmk hG
  go_loopw [6] (fun s6 wr => ∃ i : Nat, s6 = .int .i64 (i : Int) ∧ i ≤ m ∧ Hid (OrW w wr G m i (orF f g))) (fun s6 _ => m - (intOf s6).toNat)
  case atStart => exact ⟨0, rfl, Nat.zero_le _, H0⟩
  case round =>
    obtain ⟨i, rfl, hi, HQ⟩ := hrel
    clear H0
    have i0 : (0 : Int) ≤ (i : Int) := by omega
    have ib : (i : Int) ≤ 100000 := by omega
    by_cases hlt : i < m
    · have hli : (i : Int) < (m : Int) := by omega
      obtain ⟨hu2, hv2⟩ := HU.out wr HQ.out.b
      obtain ⟨_, gu', cu', hue, _, _, huc⟩ := hu2
      injection hue with e1 e2 e3
      injection e1 with e1
      injection e1 with e1
      subst e1
      obtain ⟨_, gv', cv', hve, _, _, hvc⟩ := hv2
      injection hve with e4 e5 e6
      injection e4 with e4
      injection e4 with e4
      subst e4
      have x0 := huc i hlt
      have x1 := hvc i hlt
      clear e2 e3 e5 e6 huc hvc
      obtain ⟨⟨y, y0⟩, y1, y2, hst⟩ := HQ.out.store hlt _ rfl
      have HS := Lib.hid hst
      unfold orF at HS
      obtain ⟨a, ha⟩ : ∃ a, f i = a := ⟨_, rfl⟩
      obtain ⟨b, hb⟩ : ∃ b, g i = b := ⟨_, rfl⟩
      rw [ha] at x0
      rw [hb] at x1
      rw [ha, hb] at HS
      clear hst ha hb
      cases a with
      | true =>
        rw [Bool.true_or] at HS
        go_wp2_with fail
        go_roundw
        case rel => exact ⟨i + 1, by go_num, hlt, HS⟩
        case measure => simp [intOf] <;> omega
      | false =>
        rw [Bool.false_or] at HS
        go_wp2_with fail
        go_roundw
        case rel => exact ⟨i + 1, by go_num, hlt, HS⟩
        case measure => simp [intOf] <;> omega
    · have hli : ¬ (i : Int) < (m : Int) := by omega
      have him : i = m := by omega
      have HF := Lib.hid (show w.heap.size ≤ G ∧ (∃ M, blkM wr G M ∧ M.length = m ∧ ∀ j, j < m → M.getD j false = orF f g j) ∧ Below w.heap.size w wr from by
        obtain ⟨⟨M, h1, h2, h3⟩, h4, _⟩ := HQ.out
        exact ⟨by rw [HG.out]; exact Nat.le_refl _, ⟨M, h1, h2, fun j hj => h3 j (by omega)⟩, h4⟩)
      clear HQ him
      go_wp2_with fail
      go_ret
      exact ⟨G, rfl, HF.out⟩
end
abbrev BolR : World → Value → Nat → (Nat → Bool) → Prop := BolO fun _ => False
theorem BolO.read {own : Nat → Prop} {w : World} {v : Value} {m : Nat} {f : Nat → Bool} (h : BolO own w v m f) : BolR w v m f := h.mono fun _ _ e => e.elim
theorem BolR.below {w w' : World} {v : Value} {m : Nat} {f : Nat → Bool} (h : BolR w v m f) (hb : Below w.heap.size w w') : BolR w' v m f := BolO.under h hb
/-- A rule that is read; nothing of it lies in blocks of 'old'. -/
structure RuO (old : Nat → Prop) (w : World) (v : Value) (r : RuN) : Prop where
  pos : 0 < r.m
  few : r.m ≤ 1000
  len : r.sets.length = r.m
  at_ : ∃ R sv bv lv, v = .pointer (some ⟨R, 0, none⟩) ∧ w.cell? ⟨R, 0, none⟩ = some sv ∧ w.cell? ⟨R, 1, none⟩ = some bv ∧ w.cell? ⟨R, 2, none⟩ = some lv ∧ RowZ (fun k => ¬ old k) w sv r.m (setsC r.sets) ∧ BolO old w lv r.m r.last ∧
    (∃ g cap, bv = .slice (some ⟨g, 0, none⟩) r.m cap ∧ r.m ≤ cap ∧ ¬ old g ∧ ∀ k, k < r.m → ∃ u, w.cell? ⟨g, k, none⟩ = some u ∧ BolO old w u r.m (r.behind k)) ∧ ¬ old R
abbrev RuR : World → Value → RuN → Prop := RuO fun _ => False
theorem RuO.keep {old : Nat → Prop} {w w' : World} {v : Value} {r : RuN} (h : RuO old w v r) (hk : KeepW (fun k => ¬ old k) w w') : RuO old w' v r := by
  obtain ⟨h1, h2, h3, R, sv, bv, lv, hv, c0, c1, c2, hs, hl, ⟨g, cap, hbv, hc, hg, hr⟩, hR⟩ := h
  have hgo : Gone old old w w' := ⟨hk, fun _ e => .inl e⟩
  refine ⟨h1, h2, h3, R, sv, bv, lv, hv, hk.cell c0 hR, hk.cell c1 hR, hk.cell c2 hR, hs.keep hk fun _ _ h => h, hl.go hgo, ⟨g, cap, hbv, hc, hg, fun k hk2 => ?_⟩, hR⟩
  obtain ⟨u, h4, h5⟩ := hr k hk2
  exact ⟨u, hk.cell h4 hg, h5.go hgo⟩
theorem RuO.mono {old old2 : Nat → Prop} {w : World} {v : Value} {r : RuN} (h : RuO old w v r) (hm : ∀ k, k < w.heap.size → old2 k → old k) : RuO old2 w v r := by
  obtain ⟨h1, h2, h3, R, sv, bv, lv, hv, c0, c1, c2, hs, hl, ⟨g, cap, hbv, hc, hg, hr⟩, hR⟩ := h
  obtain ⟨u0, h4, _⟩ := hr 0 h1
  refine ⟨h1, h2, h3, R, sv, bv, lv, hv, c0, c1, c2, hs.mono fun k hk ho e => ho (hm k hk e), hl.mono hm, ⟨g, cap, hbv, hc, fun e => hg (hm g (rlt h4) e), fun k hk2 => ?_⟩, fun e => hR (hm R (rlt c0) e)⟩
  obtain ⟨u, h5, h6⟩ := hr k hk2
  exact ⟨u, h5, h6.mono hm⟩
theorem RuO.read {old : Nat → Prop} {w : World} {v : Value} {r : RuN} (h : RuO old w v r) : RuR w v r := h.mono fun _ _ e => e.elim
theorem RuO.below {old : Nat → Prop} {w w' : World} {v : Value} {r : RuN} (h : RuO old w v r) (hb : Below w.heap.size w w') : RuO old w' v r := h.keep (keep_below _ hb)
section
variable {w : World} {v u : Value} {r : RuN} {f : Nat → Bool} {m : Nat}
set_option maxHeartbeats 2000000 in
theorem rstart_any (h : RuR w v r) :
    Calls Tryd.prog 39 #[v] w fun e w' => ∃ G, e = .returned (.slice (some ⟨G, 0, none⟩) r.m r.m) ∧ BolR w' (.slice (some ⟨G, 0, none⟩) r.m r.m) r.m startG ∧ Below w.heap.size w w' := by
  obtain ⟨hpos, hfew, _, R, sv, bv, lv, hv, c0, _, _, ⟨so, sc, hsv, hsc, _⟩, _, _⟩ := h
  subst hv hsv
  obtain ⟨m, hm⟩ : ∃ m, r.m = m := ⟨_, rfl⟩
  rw [hm] at hpos hfew c0 hsc ⊢
  have hmk := nmake m (by omega) w
  have hmi : (0 : Int) < (m : Int) := by omega
  have hb1 := alloc_under w (.cells (boolC (noneB m)).toArray 4)
  have hB := blkM_new w m
  clear hm
  obtain ⟨W1, hW1⟩ : ∃ W1, w.alloc (.cells (boolC (noneB m)).toArray 4) = W1 := ⟨_, rfl⟩
  have x0 : ∃ y, W1.cell? ⟨w.heap.size, 0, none⟩ = some y := ⟨_, by rw [← hW1]; exact hB.at_ (by rw [noneB_len]; omega) false⟩
  obtain ⟨y, x0⟩ := x0
  have x1 := hB.frozen 0
  have x2 := hB.lt
  rw [hW1] at x1 x2 hb1
  have hk : KeepW (fun k => k ≠ w.heap.size) W1 (W1.setCell ⟨w.heap.size, 0, none⟩ (.bool true)) := keep_set _ 0 none _ W1 fun h => h rfl
  have HF := Lib.hid (show BolR (W1.setCell ⟨w.heap.size, 0, none⟩ (.bool true)) (.slice (some ⟨w.heap.size, 0, none⟩) m m) m startG ∧ Below w.heap.size w (W1.setCell ⟨w.heap.size, 0, none⟩ (.bool true)) from by
    refine ⟨BolO.of_blk (l := (noneB m).set 0 true) ?_ (by rw [List.length_set, noneB_len]) hpos (fun e => e) fun i hi => ?_, KeepW.below hb1 hk hb1.size fun k hk => by omega⟩
    · have h1 := hB.set 0 true
      rw [hW1] at h1
      exact h1
    · rw [getD_set (by rw [noneB_len]; omega), noneB_get]
      unfold startG oneF
      split
      · rename_i e; subst e; rfl
      · rename_i e; simp [e])
  clear hb1 hB hk
  go_enter Tryd.func39, Tryd.ntmps39
  go_upto_region 2 with (fail)
  (try rw [hW1])
  clear hW1 hmk
  go_wp2_with fail
  go_ret
  exact ⟨_, rfl, HF.out⟩
theorem rany_any (h : BolR w u m f) (hm : m ≤ 100000) : Calls Tryd.prog 40 #[u] w fun e w' => e = .returned (.bool (anyF f m)) ∧ w' = w := by
  obtain ⟨h0, g, cap, rfl, hc, _, hx⟩ := h
  have HX := Lib.hid hx
  clear hx h0
  go_enter Tryd.func40, Tryd.ntmps40
  go_wp2_with fail
  go_loop [3] (fun s3 => ∃ i : Nat, s3 = .int .i64 (i : Int) ∧ i ≤ m ∧ Hid (anyF f i = false)) (fun s3 => m - (intOf s3).toNat)
  case atStart => exact ⟨0, rfl, Nat.zero_le _, rfl⟩
  case round =>
    obtain ⟨i, rfl, hi, HA⟩ := hrel
    have i0 : (0 : Int) ≤ (i : Int) := by omega
    have ib : (i : Int) ≤ 100000 := by omega
    by_cases hlt : i < m
    · have hli : (i : Int) < (m : Int) := by omega
      have x0 := HX.out i hlt
      rcases hf : f i with _ | _
      · rw [hf] at x0
        have HA2 : Hid (anyF f (i + 1) = false) := Lib.hid (by rw [anyF, HA.out, hf]; rfl)
        clear hf
        go_wp2_with fail
        go_round
        case rel => exact ⟨i + 1, by go_num, hlt, HA2⟩
        case measure => simp [intOf] <;> omega
      · rw [hf] at x0
        have HF : Hid (anyF f m = true) := Lib.hid ((any_iff f m).2 ⟨i, hlt, hf⟩)
        clear hf
        go_wp2_with fail
        go_ret
        exact ⟨by rw [HF.out]; rfl, rfl⟩
    · have hli : ¬ (i : Int) < (m : Int) := by omega
      have him : i = m := by omega
      have HF : Hid (anyF f m = false) := Lib.hid (by rw [← him]; exact HA.out)
      clear him
      go_wp2_with fail
      go_ret
      exact ⟨by rw [HF.out]; rfl, rfl⟩
set_option maxHeartbeats 2000000 in
theorem rends_any (h : RuR w v r) (hu : BolR w u r.m f) : Calls Tryd.prog 41 #[v, u] w fun e w' => e = .returned (.bool (endsG r f)) ∧ w' = w := by
  obtain ⟨hpos, hfew, _, R, sv, bv, lv, hv, _, _, c2, _, ⟨_, gl, cl, rfl, hcl, _, hlx⟩, _⟩ := h
  obtain ⟨_, g, cap, rfl, hc, _, hx⟩ := hu
  have HX := Lib.hid hx
  have HL := Lib.hid hlx
  subst hv
  unfold endsG
  obtain ⟨m, hm⟩ : ∃ m, r.m = m := ⟨_, rfl⟩
  rw [hm] at hfew c2 hcl hc HX HL ⊢
  clear hx hlx hpos hm
  go_enter Tryd.func41, Tryd.ntmps41
  go_wp2_with fail
  go_loop [5] (fun s5 => ∃ i : Nat, s5 = .int .i64 (i : Int) ∧ i ≤ m ∧ Hid (anyF (fun p => f p && r.last p) i = false)) (fun s5 => m - (intOf s5).toNat)
  case atStart => exact ⟨0, rfl, Nat.zero_le _, rfl⟩
  case round =>
    obtain ⟨i, rfl, hi, HA⟩ := hrel
    have i0 : (0 : Int) ≤ (i : Int) := by omega
    have ib : (i : Int) ≤ 1000 := by omega
    by_cases hlt : i < m
    · have hli : (i : Int) < (m : Int) := by omega
      have x0 := HX.out i hlt
      have x1 := HL.out i hlt
      rcases hf : f i with _ | _
      · rw [hf] at x0
        have HA2 : Hid (anyF (fun p => f p && r.last p) (i + 1) = false) := Lib.hid (by rw [anyF, HA.out, hf]; rfl)
        clear hf
        go_wp2_with fail
        go_round
        case rel => exact ⟨i + 1, by go_num, hlt, HA2⟩
        case measure => simp [intOf] <;> omega
      · rw [hf] at x0
        rcases hg : r.last i with _ | _
        · rw [hg] at x1
          have HA2 : Hid (anyF (fun p => f p && r.last p) (i + 1) = false) := Lib.hid (by rw [anyF, HA.out, hf, hg]; rfl)
          clear hf hg
          go_wp2_with fail
          go_round
          case rel => exact ⟨i + 1, by go_num, hlt, HA2⟩
          case measure => simp [intOf] <;> omega
        · rw [hg] at x1
          have HF : Hid (anyF (fun p => f p && r.last p) m = true) := Lib.hid ((any_iff _ m).2 ⟨i, hlt, by rw [hf, hg]; rfl⟩)
          clear hf hg
          go_wp2_with fail
          go_ret
          exact ⟨by rw [HF.out]; rfl, rfl⟩
    · have hli : ¬ (i : Int) < (m : Int) := by omega
      have him : i = m := by omega
      have HF : Hid (anyF (fun p => f p && r.last p) m = false) := Lib.hid (by rw [← him]; exact HA.out)
      clear him
      go_wp2_with fail
      go_ret
      exact ⟨by rw [HF.out]; rfl, rfl⟩
end
end Go.Proofs.YtkopbngnhgdfhaaDoor
