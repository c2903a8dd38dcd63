/-
  regs.Same of one tree twice: it returns true.
-/
import Derived.Test.YtkopbngnhgdfhaaDoorBe45
namespace Go.Proofs.YtkopbngnhgdfhaaDoor
open Go.RowKit

set_option maxRecDepth 100000 in
set_option maxHeartbeats 8000000 in
theorem psame_eq (n : Nd) (u v : Value) (w : World) (hs : OkR n.set) (hu : KidsF (fun _ => True) w n.kids u) (hv : KidsF (fun _ => True) w n.kids v) (hw : wtR n ≤ 100000) :
    Calls Tryd.prog 10 #[nodeV n u, nodeV n v] w fun e w' => e = .returned (.bool true) ∧ Below w.heap.size w w' := by
  have hu2 : KidsF (fun k => k < w.heap.size) w n.kids u := hu.mono fun k hk _ => hk
  have hv2 : KidsF (fun k => k < w.heap.size) w n.kids v := hv.mono fun k hk _ => hk
  obtain ⟨uo, uc, rfl, _⟩ := hu.form
  obtain ⟨vo, vc, rfl, _⟩ := hv.form
  have hb1 := alloc_under w (.cells #[.int .i64 n.kind, .int .u64 (n.set.1 : Int), .int .u64 (n.set.2.1 : Int), .int .u64 (n.set.2.2.1 : Int), .int .u64 (n.set.2.2.2 : Int), .slice uo n.kids.length uc] 26)
  have hz1 := alloc_size w (.cells #[.int .i64 n.kind, .int .u64 (n.set.1 : Int), .int .u64 (n.set.2.1 : Int), .int .u64 (n.set.2.2.1 : Int), .int .u64 (n.set.2.2.2 : Int), .slice uo n.kids.length uc] 26)
  obtain ⟨W1, hW1⟩ : ∃ W, w.alloc (.cells #[.int .i64 n.kind, .int .u64 (n.set.1 : Int), .int .u64 (n.set.2.1 : Int), .int .u64 (n.set.2.2.1 : Int), .int .u64 (n.set.2.2.2 : Int), .slice uo n.kids.length uc] 26) = W := ⟨_, rfl⟩
  rw [hW1] at hb1 hz1
  have hb2 := alloc_under W1 (.cells #[.int .i64 n.kind, .int .u64 (n.set.1 : Int), .int .u64 (n.set.2.1 : Int), .int .u64 (n.set.2.2.1 : Int), .int .u64 (n.set.2.2.2 : Int), .slice vo n.kids.length vc] 26)
  have hz2 := alloc_size W1 (.cells #[.int .i64 n.kind, .int .u64 (n.set.1 : Int), .int .u64 (n.set.2.1 : Int), .int .u64 (n.set.2.2.1 : Int), .int .u64 (n.set.2.2.2 : Int), .slice vo n.kids.length vc] 26)
  obtain ⟨W2, hW2⟩ : ∃ W, W1.alloc (.cells #[.int .i64 n.kind, .int .u64 (n.set.1 : Int), .int .u64 (n.set.2.1 : Int), .int .u64 (n.set.2.2.1 : Int), .int .u64 (n.set.2.2.2 : Int), .slice vo n.kids.length vc] 26) = W := ⟨_, rfl⟩
  rw [hW2] at hb2 hz2
  have hb3 := alloc_under W2 (.map #[] 0)
  have hz3 := alloc_size W2 (.map #[] 0)
  have hset := SetM.new (kv := kpP) W2
  have hmm := run_makeMap_plain (P := Tryd.prog) W2 62
  rw [hz2, hz1] at hset
  obtain ⟨W3, hW3⟩ : ∃ W, W2.alloc (.map #[] 0) = W := ⟨_, rfl⟩
  rw [hW3] at hb3 hz3 hset
  have hb4 := alloc_under W3 (.cells #[.int .i64 n.kind, .int .u64 (n.set.1 : Int), .int .u64 (n.set.2.1 : Int), .int .u64 (n.set.2.2.1 : Int), .int .u64 (n.set.2.2.2 : Int), .slice uo n.kids.length uc, .int .i64 n.kind, .int .u64 (n.set.1 : Int), .int .u64 (n.set.2.1 : Int), .int .u64 (n.set.2.2.1 : Int), .int .u64 (n.set.2.2.2 : Int), .slice vo n.kids.length vc] 64)
  have hnew := heap_alloc_new W3 (.cells #[.int .i64 n.kind, .int .u64 (n.set.1 : Int), .int .u64 (n.set.2.1 : Int), .int .u64 (n.set.2.2.1 : Int), .int .u64 (n.set.2.2.2 : Int), .slice uo n.kids.length uc, .int .i64 n.kind, .int .u64 (n.set.1 : Int), .int .u64 (n.set.2.1 : Int), .int .u64 (n.set.2.2.1 : Int), .int .u64 (n.set.2.2.2 : Int), .slice vo n.kids.length vc] 64)
  have hz4 := alloc_size W3 (.cells #[.int .i64 n.kind, .int .u64 (n.set.1 : Int), .int .u64 (n.set.2.1 : Int), .int .u64 (n.set.2.2.1 : Int), .int .u64 (n.set.2.2.2 : Int), .slice uo n.kids.length uc, .int .i64 n.kind, .int .u64 (n.set.1 : Int), .int .u64 (n.set.2.1 : Int), .int .u64 (n.set.2.2.1 : Int), .int .u64 (n.set.2.2.2 : Int), .slice vo n.kids.length vc] 64)
  obtain ⟨W4, hW4⟩ : ∃ W, W3.alloc (.cells #[.int .i64 n.kind, .int .u64 (n.set.1 : Int), .int .u64 (n.set.2.1 : Int), .int .u64 (n.set.2.2.1 : Int), .int .u64 (n.set.2.2.2 : Int), .slice uo n.kids.length uc, .int .i64 n.kind, .int .u64 (n.set.1 : Int), .int .u64 (n.set.2.1 : Int), .int .u64 (n.set.2.2.1 : Int), .int .u64 (n.set.2.2.2 : Int), .slice vo n.kids.length vc] 64) = W := ⟨_, rfl⟩
  rw [hW4] at hb4 hnew hz4
  have hbA := (hb1.trans (hb2.mono (by omega))).trans ((hb3.mono (by omega)).trans (hb4.mono (by omega)))
  have hst : SmW w w.heap.size W4 (.slice (some ⟨W3.heap.size, 0, none⟩) 1 1) [n] [] :=
    ⟨⟨[.slice uo n.kids.length uc], [.slice vo n.kids.length vc], ⟨⟨hs, hu2.under hbA, hv2.under hbA⟩, trivial⟩, rfl, .inr ⟨_, 1, _, rfl, by omega, hnew, Nat.le_refl _, by unfold maxLen; omega, rfl, rfl⟩⟩,
      hset.under hb4, (fun k hk => by cases hk), hbA, by omega⟩
  have H0 := Lib.hid (show ∃ x l ks, x = Value.slice (some ⟨W3.heap.size, 0, none⟩) 1 1 ∧ SmW w w.heap.size W4 x l ks ∧ wtL l ≤ 100000 from ⟨_, _, _, rfl, hst, by rw [wtL_one]; exact hw⟩)
  obtain ⟨⟨x0, x1, x2, x3, x4, x5⟩, _⟩ := (((show boxN 26 W1 w.heap.size n.kind n.set (.slice uo n.kids.length uc) by rw [← hW1]; exact boxN.new _ _ _ _ _).below hb2).below hb3).cells
  obtain ⟨⟨y0, y1, y2, y3, y4, y5⟩, _⟩ := ((show boxN 26 W2 W1.heap.size n.kind n.set (.slice vo n.kids.length vc) by rw [← hW2]; exact boxN.new _ _ _ _ _).below hb3).cells
  have HZ2 := Lib.hid (show W2.heap.size = w.heap.size + 2 by omega)
  unfold nodeV
  clear hs hu hv hu2 hv2 hw hb1 hb2 hb3 hb4 hz1 hz2 hz3 hz4 hset hnew hbA hst
  go_enter Tryd.func10, Tryd.ntmps10
  go_wp2_with fail
  try rw [hW4]
  clear hW1 hW2 hW3 hW4 hmm x0 x1 x2 x3 x4 x5 y0 y1 y2 y3 y4 y5
  obtain ⟨N, hN⟩ : ∃ N, w.heap.size = N := ⟨_, rfl⟩
  rw [hN] at H0
  have HN := Lib.hid hN
  obtain ⟨B2, hB2⟩ : ∃ N, W2.heap.size = N := ⟨_, rfl⟩
  (try rw [hB2])
  have HB2 : Hid (B2 = N + 2) := by show _ = _; have := HZ2.out; omega
  clear hN hB2
  go_loopw [6] (fun s6 wr => Hid (∃ l ks, SmW w N wr s6 l ks ∧ wtL l ≤ 100000)) (fun s6 wr => smM w N s6 wr)
  case atStart =>
    obtain ⟨x, l, ks, rfl, h1, h2⟩ := H0.out
    exact ⟨l, ks, h1, h2⟩
  case round =>
    clear H0
    obtain ⟨l0, ks0, hq0, hw0⟩ := hrel.out
    obtain ⟨l, ks, hq, hwt⟩ := smM_is ⟨l0, ks0, hq0, rfl⟩
    have hwl : wtL l ≤ 100000 := by
      have := smM_le ⟨l0, ks0, hq0, rfl⟩
      omega
    clear hq0 hw0 hrel
    match l, hq, hwt, hwl with
    | [], hq, _, _ =>
      obtain ⟨ao, cap, rfl⟩ := hq.prs.form
      have HF := Lib.hid (And.intro hq.bel HN.out)
      clear hq
      go_wp2_with fail
      go_ret
      exact ⟨rfl, by rw [HF.out.2]; exact HF.out.1⟩
    | c :: l, hq, hwt, hwl =>
      obtain ⟨g, cap, u, v, rfl, hcap, hos, hku, hkv, hcells, hpop⟩ := hq.prs.pop
      obtain ⟨po, pc, rfl, _⟩ := hku.form
      obtain ⟨qo, qc, rfl, _⟩ := hkv.form
      have HMS := Lib.hid (And.intro hwt hwl)
      have hll := wtL_len l
      have hwc : wtL (c :: l) = wtR c + wtL l := by rw [wtL]
      obtain ⟨m, hm⟩ : ∃ m, l.length = m := ⟨_, rfl⟩
      rw [hm] at hcells hpop hcap hll HMS ⊢
      obtain ⟨kn, hkn⟩ : ∃ m, c.kids.length = m := ⟨_, rfl⟩
      have hk : ((m + 1 : Nat) : Int) - 1 = (m : Int) := by omega
      have hk0 : (0 : Int) < ((m + 1 : Nat) : Int) := by omega
      have hm0 : (0 : Int) ≤ (m : Int) := by omega
      have hmk : (m : Int) < ((m + 1 : Nat) : Int) := by omega
      have hml : (m : Int) ≤ 100000 := by omega
      have hcap2 : m ≤ cap := by omega
      have x0 := hcells 0 _ rfl
      have x1 := hcells 1 _ rfl
      have x2 := hcells 2 _ rfl
      have x3 := hcells 3 _ rfl
      have x4 := hcells 4 _ rfl
      have x5 := hcells 5 _ rfl
      have x6 := hcells 6 _ rfl
      have x7 := hcells 7 _ rfl
      have x8 := hcells 8 _ rfl
      have x9 := hcells 9 _ rfl
      have x10 := hcells 10 _ rfl
      have x11 := hcells 11 _ rfl
      simp only [Nat.add_zero] at x0
      have HQ := Lib.hid (And.intro hq (And.intro hos (And.intro hku (And.intro hkv hpop))))
      have HKN := Lib.hid (And.intro hm hkn)
      rw [hkn] at x5 x11
      have hbX := alloc_under wr (.cells #[.int .i64 c.kind, .int .u64 (c.set.1 : Int), .int .u64 (c.set.2.1 : Int), .int .u64 (c.set.2.2.1 : Int), .int .u64 (c.set.2.2.2 : Int), .slice po kn pc, .int .i64 c.kind, .int .u64 (c.set.1 : Int), .int .u64 (c.set.2.1 : Int), .int .u64 (c.set.2.2.1 : Int), .int .u64 (c.set.2.2.2 : Int), .slice qo kn qc] 64)
      have hX0 : PrX wr.heap.size c po qo kn pc qc (wr.alloc (.cells #[.int .i64 c.kind, .int .u64 (c.set.1 : Int), .int .u64 (c.set.2.1 : Int), .int .u64 (c.set.2.2.1 : Int), .int .u64 (c.set.2.2.2 : Int), .slice po kn pc, .int .i64 c.kind, .int .u64 (c.set.1 : Int), .int .u64 (c.set.2.1 : Int), .int .u64 (c.set.2.2.1 : Int), .int .u64 (c.set.2.2.2 : Int), .slice qo kn qc] 64)) := heap_alloc_new wr _
      have HX := Lib.hid (And.intro hbX hX0)
      have HAL0 := palike_eq c (.slice po c.kids.length pc) (.slice qo c.kids.length qc) (wr.alloc (.cells #[.int .i64 c.kind, .int .u64 (c.set.1 : Int), .int .u64 (c.set.2.1 : Int), .int .u64 (c.set.2.2.1 : Int), .int .u64 (c.set.2.2.2 : Int), .slice po kn pc, .int .i64 c.kind, .int .u64 (c.set.1 : Int), .int .u64 (c.set.2.1 : Int), .int .u64 (c.set.2.2.1 : Int), .int .u64 (c.set.2.2.2 : Int), .slice qo kn qc] 64)) (hku.W.under hbX) (hkv.W.under hbX)
      unfold nodeV at HAL0
      rw [hkn] at HAL0
      have HAL := Lib.hid HAL0
      have HKU0 : ∀ V, Below wr.heap.size wr V → Calls Tryd.prog 27 #[nodeV c (.slice po c.kids.length pc)] V fun e U => e = .returned (kpV (kpK (.slice po c.kids.length pc))) ∧ Below wr.heap.size wr U ∧ Hid (Below V.heap.size V U) := fun V hV =>
        (pkidsOf_any c _ V (hku.W.under hV)).mono fun e U ⟨h1, h2⟩ => ⟨h1, hV.trans (h2.mono hV.size), h2⟩
      have HKV0 : ∀ V, Below wr.heap.size wr V → Calls Tryd.prog 27 #[nodeV c (.slice qo c.kids.length qc)] V fun e U => e = .returned (kpV (kpK (.slice qo c.kids.length qc))) ∧ Below wr.heap.size wr U ∧ Hid (Below V.heap.size V U) := fun V hV =>
        (pkidsOf_any c _ V (hkv.W.under hV)).mono fun e U ⟨h1, h2⟩ => ⟨h1, hV.trans (h2.mono hV.size), h2⟩
      obtain ⟨⟨p1, n1⟩, hk1⟩ : ∃ k, kpK (.slice po c.kids.length pc) = k := ⟨_, rfl⟩
      obtain ⟨⟨p2, n2⟩, hk2⟩ : ∃ k, kpK (.slice qo c.kids.length qc) = k := ⟨_, rfl⟩
      rw [hkn] at hk1 hk2 HKU0 HKV0
      unfold nodeV kpV at HKU0 HKV0
      simp only [hk1] at HKU0
      simp only [hk2] at HKV0
      have HKK := Lib.hid (And.intro hk1 hk2)
      have HKU := Lib.hid HKU0
      have HKV := Lib.hid HKV0
      clear HKU0 HKV0 HAL0 hbX hX0 hk1 hk2
      clear hq hos hku hkv hcells hpop hwt hwl hwc hm hll hkn
      go_wp2_with fail
      go_fit HAL.out
      rintro e w3 ⟨rfl, hb3⟩
      have H3 := Lib.hid (show Below wr.heap.size wr w3 ∧ PrX wr.heap.size c po qo kn pc qc w3 from ⟨HX.out.1.trans (hb3.mono HX.out.1.size), HX.out.2.below hb3⟩)
      have HC : Hid (∀ V, Below w3.heap.size w3 V → PrX wr.heap.size c po qo kn pc qc V) := fun V hV => H3.out.2.below hV
      clear hb3 HX HAL x0 x1 x2 x3 x4 x5 x6 x7 x8 x9 x10 x11
      obtain ⟨X, hX⟩ : ∃ X, wr.heap.size = X := ⟨_, rfl⟩
      have HXE := Lib.hid hX
      rw [show PrX wr.heap.size c po qo kn pc qc w3 = PrX X c po qo kn pc qc w3 by rw [hX]] at H3
      have HC : Hid (∀ V, Below w3.heap.size w3 V → PrX X c po qo kn pc qc V) := fun V hV => by rw [← hX]; exact HC.out V hV
      (try rw [hX])
      have HKU3 : Hid (∀ V, Below w3.heap.size w3 V → Calls Tryd.prog 27 #[.agg #[.int .i64 c.kind, .int .u64 (c.set.1 : Int), .int .u64 (c.set.2.1 : Int), .int .u64 (c.set.2.2.1 : Int), .int .u64 (c.set.2.2.2 : Int), .slice po kn pc]] V fun e U => e = .returned (.agg #[.pointer p1, .int .i64 (n1 : Int)]) ∧ Below w3.heap.size w3 U ∧ Hid (Below V.heap.size V U) ∧ X < U.heap.size ∧ U.cell? ⟨X, 0, none⟩ = some (.int .i64 c.kind) ∧ U.cell? ⟨X, 1, none⟩ = some (.int .u64 (c.set.1 : Int)) ∧ U.cell? ⟨X, 2, none⟩ = some (.int .u64 (c.set.2.1 : Int)) ∧ U.cell? ⟨X, 3, none⟩ = some (.int .u64 (c.set.2.2.1 : Int)) ∧ U.cell? ⟨X, 4, none⟩ = some (.int .u64 (c.set.2.2.2 : Int)) ∧ U.cell? ⟨X, 5, none⟩ = some (.slice po kn pc) ∧ U.cell? ⟨X, 6, none⟩ = some (.int .i64 c.kind) ∧ U.cell? ⟨X, 7, none⟩ = some (.int .u64 (c.set.1 : Int)) ∧ U.cell? ⟨X, 8, none⟩ = some (.int .u64 (c.set.2.1 : Int)) ∧ U.cell? ⟨X, 9, none⟩ = some (.int .u64 (c.set.2.2.1 : Int)) ∧ U.cell? ⟨X, 10, none⟩ = some (.int .u64 (c.set.2.2.2 : Int)) ∧ U.cell? ⟨X, 11, none⟩ = some (.slice qo kn qc)) := fun V hV =>
        (HKU.out V (H3.out.1.trans (hV.mono H3.out.1.size))).mono fun e U ⟨h1, _, h3⟩ => ⟨h1, hV.trans (h3.out.mono hV.size), h3, (HC.out U (hV.trans (h3.out.mono hV.size))).lt, (HC.out U (hV.trans (h3.out.mono hV.size))).cells⟩
      have HKV3 : Hid (∀ V, Below w3.heap.size w3 V → Calls Tryd.prog 27 #[.agg #[.int .i64 c.kind, .int .u64 (c.set.1 : Int), .int .u64 (c.set.2.1 : Int), .int .u64 (c.set.2.2.1 : Int), .int .u64 (c.set.2.2.2 : Int), .slice qo kn qc]] V fun e U => e = .returned (.agg #[.pointer p2, .int .i64 (n2 : Int)]) ∧ Below w3.heap.size w3 U ∧ Hid (Below V.heap.size V U) ∧ X < U.heap.size ∧ U.cell? ⟨X, 0, none⟩ = some (.int .i64 c.kind) ∧ U.cell? ⟨X, 1, none⟩ = some (.int .u64 (c.set.1 : Int)) ∧ U.cell? ⟨X, 2, none⟩ = some (.int .u64 (c.set.2.1 : Int)) ∧ U.cell? ⟨X, 3, none⟩ = some (.int .u64 (c.set.2.2.1 : Int)) ∧ U.cell? ⟨X, 4, none⟩ = some (.int .u64 (c.set.2.2.2 : Int)) ∧ U.cell? ⟨X, 5, none⟩ = some (.slice po kn pc) ∧ U.cell? ⟨X, 6, none⟩ = some (.int .i64 c.kind) ∧ U.cell? ⟨X, 7, none⟩ = some (.int .u64 (c.set.1 : Int)) ∧ U.cell? ⟨X, 8, none⟩ = some (.int .u64 (c.set.2.1 : Int)) ∧ U.cell? ⟨X, 9, none⟩ = some (.int .u64 (c.set.2.2.1 : Int)) ∧ U.cell? ⟨X, 10, none⟩ = some (.int .u64 (c.set.2.2.2 : Int)) ∧ U.cell? ⟨X, 11, none⟩ = some (.slice qo kn qc)) := fun V hV =>
        (HKV.out V (H3.out.1.trans (hV.mono H3.out.1.size))).mono fun e U ⟨h1, _, h3⟩ => ⟨h1, hV.trans (h3.out.mono hV.size), h3, (HC.out U (hV.trans (h3.out.mono hV.size))).lt, (HC.out U (hV.trans (h3.out.mono hV.size))).cells⟩
      clear hX HKU HKV
      have kk := Below.refl w3.heap.size w3
      have k0 : Below w3.heap.size w3 w3.drew := kk.drew
      have hXl := H3.out.2.lt
      obtain ⟨x0, x1, x2, x3, x4, x5, x6, x7, x8, x9, x10, x11⟩ := H3.out.2.cells
      go_wp2_with fail
      go_cut [8] from 37 to 43 (fun s8 W => ∃ K, s8 = .pointer (some ⟨K, 0, none⟩) ∧ Hid (KeyF K p1 p2 n1 n2 W ∧ PrX X c po qo kn pc qc W ∧ Below w3.heap.size w3 W))
      case first =>
        go_region_with (first
          | (go_at_call 27; go_fit (HKU3.out _ ?_); (first | with_reducible exact kk | with_reducible exact k0 | with_reducible exact below_al kk | with_reducible exact below_ald kk | with_reducible exact kk.drew | with_reducible exact below_al kk.drew); rintro e vv ⟨rfl, kk2, jj, hXl, x0, x1, x2, x3, x4, x5, x6, x7, x8, x9, x10, x11⟩; (first | (have zk := KeyZ.below zk jj.out; obtain ⟨⟨z0, z1, z2, z3⟩, ⟨f0, f1, f2, f3⟩, zl⟩ := zk.facts) | (have zk := key_kept jj.out; have zB := kk.size; obtain ⟨⟨z0, z1, z2, z3⟩, ⟨f0, f1, f2, f3⟩, zl⟩ := zk.facts) | (have zk := key_kept2 jj.out; have zB := kk.size; obtain ⟨⟨z0, z1, z2, z3⟩, ⟨f0, f1, f2, f3⟩, zl⟩ := zk.facts) | skip); have kk := kk2)
          | (go_at_call 27; go_fit (HKV3.out _ ?_); (first | with_reducible exact kk | with_reducible exact k0 | with_reducible exact below_al kk | with_reducible exact below_ald kk | with_reducible exact kk.drew | with_reducible exact below_al kk.drew); rintro e vv ⟨rfl, kk2, jj, hXl, x0, x1, x2, x3, x4, x5, x6, x7, x8, x9, x10, x11⟩; (first | (have zk := KeyZ.below zk jj.out; obtain ⟨⟨z0, z1, z2, z3⟩, ⟨f0, f1, f2, f3⟩, zl⟩ := zk.facts) | (have zk := key_kept jj.out; have zB := kk.size; obtain ⟨⟨z0, z1, z2, z3⟩, ⟨f0, f1, f2, f3⟩, zl⟩ := zk.facts) | (have zk := key_kept2 jj.out; have zB := kk.size; obtain ⟨⟨z0, z1, z2, z3⟩, ⟨f0, f1, f2, f3⟩, zl⟩ := zk.facts) | skip); have kk := kk2))
        all_goals (go_wp2_with fail; go_meet; first | with_reducible exact closeA HC kk | with_reducible exact closeB HC zk zB kk)
      case rest =>
        clear HKU3 HKV3 kk k0 hXl x0 x1 x2 x3 x4 x5 x6 x7 x8 x9 x10 x11
        obtain ⟨K, rfl, HCut⟩ := hcut
        have hB := H3.out.1.trans (HCut.out.2.2.mono H3.out.1.size)
        have hB2 := hB.trans ((alloc_under wc (.cells #[] 72)).mono hB.size)
        have hset : SetM kpP wc B2 ks := by rw [HB2.out]; exact HQ.out.1.set.under hB
        have hkeys := fun k hk => (⟨((HQ.out.1.keys k hk).1.under hB), ((HQ.out.1.keys k hk).2.under hB)⟩ : KpB N wc k.1 ∧ KpB N wc k.2)
        have hg1 := kpB_of (HQ.out.2.2.1.under hB)
        have hg2 := kpB_of (HQ.out.2.2.2.1.under hB)
        rw [HKN.out.2] at hg1 hg2
        rw [HKK.out.1] at hg1
        rw [HKK.out.2] at hg2
        obtain ⟨⟨y0, y1, y2, y3⟩, yl⟩ := HCut.out.1.cells
        by_cases hin : ((p1, n1), (p2, n2)) ∈ ks
        · have hlk := set_look_yes (kv := kpP) 62 71 Tryd.underlying62 (by rw [Tryd.fieldsLists]) hset ((p1, n1), (p2, n2)) hin (fun em => kp2_check em 9997 _ _ _) (fun k hk => kp2_eqIn 9997 _ _ _ _ _ hg1.F hg2.F (hkeys k hk).1.F (hkeys k hk).2.F)
          simp only [kpP, kp2V] at hlk
          have hsm : SmW w N (wc.alloc (.cells #[] 72)) (.slice (some ⟨g, 0, none⟩) m cap) l ks := by
            have h1 := HQ.out.1.under hB2
            exact ⟨HQ.out.2.2.2.2.below hB2, h1.set, h1.keys, h1.bel, h1.sz⟩
          have HS := Lib.hid hsm
          have HD : Hid (smM w N (.slice (some ⟨g, 0, none⟩) m cap) (wc.alloc (.cells #[] 72)) < smM w N (.slice (some ⟨g, 0, none⟩) (m + 1) cap) wr ∧ wtL l ≤ 100000) := Lib.hid (by
            have h1 := smM_le ⟨l, ks, hsm, rfl⟩
            have h2 := HMS.out.1
            have h3 := HMS.out.2
            have h4 := wt_kids c
            rw [wtL] at h2 h3
            omega)
          clear hB hB2 hset hkeys hg1 hg2 hsm
          go_wp2_with fail
          go_roundw
          case rel => exact Lib.hid ⟨l, ks, HS.out, HD.out.2⟩
          case measure => exact HD.out.1
        · have hlk := set_look_no (kv := kpP) 62 71 Tryd.underlying62 (by rw [Tryd.fieldsLists]) hset ((p1, n1), (p2, n2)) hin (fun em => kp2_check em 9997 _ _ _) (fun k hk => kp2_eqIn 9997 _ _ _ _ _ hg1.F hg2.F (hkeys k hk).1.F (hkeys k hk).2.F)
          have hb6 := alloc_under wc (.cells #[] 72)
          obtain ⟨w7, hmu, hs7, hk7⟩ := set_put (kv := kpP) 62 71 72 Tryd.underlying62 (by rw [Tryd.fieldsLists]) (hset.under hb6) ((p1, n1), (p2, n2)) hin (fun em => kp2_check em 9997 _ _ _) (fun k hk => kp2_eqIn 9997 _ _ _ _ _ (hg1.under hb6).F (hg2.under hb6).F ((hkeys k hk).1.under hb6).F ((hkeys k hk).2.under hb6).F)
          simp only [kpP, kp2V] at hlk hmu
          have hsz := HQ.out.1.sz
          have hno : ∀ k, k < N → k ≠ B2 := fun k hk e => by have := HB2.out; omega
          have h1 := HQ.out.1.under hB2
          have hXN : B2 < X := by have := HB2.out; have := HXE.out; omega
          have hIN : InW w N X w7 (.slice (some ⟨g, 0, none⟩) m cap) c l 0 po qo kn pc qc (ks ++ [((p1, n1), (p2, n2))]) := by
            have hp := (HQ.out.2.2.2.2.below hB2).keep hk7 (fun k hk => by have := HB2.out; omega)
            have hku := (HQ.out.2.2.1.under hB2).keep hk7 (fun k _ hk => hno k hk)
            have hkv := (HQ.out.2.2.2.1.under hB2).keep hk7 (fun k _ hk => hno k hk)
            rw [HKN.out.2] at hku hkv
            refine ⟨⟨hp, by rw [← HB2.out]; exact hs7, fun k hk => ?_, KeepW.below h1.bel hk7 (by have := h1.sz; omega) fun k hk => hno k hk, by have := hk7.size; have := h1.sz; omega⟩, (HCut.out.2.1.below hb6).keep hk7 (by omega), hku, hkv, fun k e => ?_⟩
            · rcases List.mem_append.1 hk with hk | hk
              · exact ⟨(h1.keys k hk).1.keep hk7 hno, (h1.keys k hk).2.keep hk7 hno⟩
              · rw [List.mem_singleton.1 hk]
                exact ⟨(hg1.under hb6).keep hk7 hno, (hg2.under hb6).keep hk7 hno⟩
            · have := (PrW.ownlt HQ.out.2.2.2.2 k e).2
              have := HXE.out
              omega
          have HI := Lib.hid hIN
          have hXl := hIN.px.lt
          obtain ⟨x0, x1, x2, x3, x4, x5, x6, x7, x8, x9, x10, x11⟩ := hIN.px.cells
          clear hB hB2 hset hkeys hg1 hg2 hb6 hs7 hk7 hno h1 hIN
          obtain ⟨KS, hKS⟩ : ∃ k, ks ++ [((p1, n1), (p2, n2))] = k := ⟨_, rfl⟩
          rw [hKS] at HI
          clear hKS
          go_wp2_with fail
          clear x0 x1 x2 x3 x4 x5 x6 x7 x8 x9 x10 x11 hXl y0 y1 y2 y3 yl hlk hmu
          go_loopw [6, 58] (fun s6 s58 W => ∃ i : Nat, s58 = .int .i64 (i : Int) ∧ i ≤ kn ∧ Hid (InW w N X W s6 c l i po qo kn pc qc KS)) (fun _ s58 _ => kn - (intOf s58).toNat)
          case atStart => exact ⟨0, rfl, Nat.zero_le _, HI⟩
          case round =>
            obtain ⟨i, rfl, hi, HJ⟩ := hrel
            clear HI
            have hkw : kn ≤ 100000 := by
              have h1 := wtL_len c.kids
              have h2 := wt_kids c
              have h3 := HMS.out.2
              have h4 := HKN.out.2
              rw [wtL] at h3
              omega
            have i0 : (0 : Int) ≤ (i : Int) := by omega
            have ib : (i : Int) ≤ 100000 := by omega
            obtain ⟨ao, cp, hsv⟩ := HJ.out.sm.prs.form
            obtain ⟨Lx, hLx⟩ : ∃ k, ((c.kids.take i).reverse ++ l).length = k := ⟨_, rfl⟩
            rw [hLx] at hsv
            clear hLx
            subst hsv
            by_cases hlt : i < kn
            · have hli : (i : Int) < (kn : Int) := by omega
              have hla : i < c.kids.length := by have := HKN.out.2; omega
              obtain ⟨d, hd⟩ : ∃ d, c.kids[i] = d := ⟨_, rfl⟩
              have hil : c.kids[i]? = some d := by rw [List.getElem?_eq_getElem hla, hd]
              obtain ⟨ga, oa, ca, xu, hva, _, hos, hxu, hca, _, _⟩ := HJ.out.ku.at_ hil
              obtain ⟨gb, ob, cb, xv, hvb, _, _, hxv, hcb, _, _⟩ := HJ.out.kv.at_ hil
              injection hva with e1 e2 e3
              injection hvb with f1 f2 f3
              subst e1 f1
              clear e2 e3 f2 f3
              have u0 := hca 0 _ (by decide) rfl
              have u1 := hca 1 _ (by decide) rfl
              have u2 := hca 2 _ (by decide) rfl
              have u3 := hca 3 _ (by decide) rfl
              have u4 := hca 4 _ (by decide) rfl
              have u5 := hca 5 _ (by decide) rfl
              have v0 := hcb 0 _ (by decide) rfl
              have v1 := hcb 1 _ (by decide) rfl
              have v2 := hcb 2 _ (by decide) rfl
              have v3 := hcb 3 _ (by decide) rfl
              have v4 := hcb 4 _ (by decide) rfl
              have v5 := hcb 5 _ (by decide) rfl
              simp only [Nat.add_zero, ← Nat.add_assoc] at u0 u1 u2 u3 u4 u5 v0 v1 v2 v3 v4 v5
              obtain ⟨x0, x1, x2, x3, x4, x5, x6, x7, x8, x9, x10, x11⟩ := HJ.out.px.cells
              have hXl := HJ.out.px.lt
              have hul := rlt u0
              have hvl := rlt v0
              have HPU := Lib.hid (fun (W : World) (hb : Below wr.heap.size wr W) => (HJ.out.under hb).push hil hos (hxu.under hb) (hxv.under hb) (by
                have h1 := wtL_len ((c.kids.take i).reverse ++ l)
                have h2 := HMS.out.2
                have h3 : wtL (c.kids.take i) ≤ wtL c.kids := by
                  have := congrArg wtL (List.take_append_drop i c.kids)
                  rw [wtL_app] at this
                  omega
                have h4 := wt_kids c
                rw [wtL_app, wtL_rev] at h1
                rw [wtL] at h2
                omega))
              have kb := Below.refl wr.heap.size wr
              have kd := kb.drew
              clear hca hcb hxu hxv hos hd hil hla
              go_wp2_with fail
              go_region_law (first
                | (obtain ⟨x', w8, hr, hJ2⟩ := HPU.out _ kb; refine papp_step (by rfl) (.tmp 61) (.tmp 75) 65 (by rfl) (by rfl) (by rfl) hr ?_; have HJ2 := Lib.hid hJ2; clear hJ2 hr)
                | (obtain ⟨x', w8, hr, hJ2⟩ := HPU.out _ kd; refine papp_step (by rfl) (.tmp 61) (.tmp 75) 65 (by rfl) (by rfl) (by rfl) hr ?_; have HJ2 := Lib.hid hJ2; clear hJ2 hr))
              all_goals
                go_wp2_with fail
                go_roundw
                case rel => exact ⟨i + 1, by go_num, by omega, HJ2⟩
                case measure => simp [intOf] <;> omega
            · have hli : ¬ (i : Int) < (kn : Int) := by omega
              have hall : c.kids.take i = c.kids := List.take_of_length_le (by have := HKN.out.2; omega)
              have HZ : Hid (wtL (c.kids.reverse ++ l) < wtL (c :: l) ∧ SmW w N wr (.slice ao Lx cp) (c.kids.reverse ++ l) KS) := Lib.hid ⟨by
                have h4 := wt_kids c
                rw [wtL_app, wtL_rev, wtL]
                omega, by
                have h5 := HJ.out.sm
                rw [hall] at h5
                exact h5⟩
              clear HJ
              go_wp2_with fail
              go_roundw
              case rel => exact Lib.hid ⟨_, _, HZ.out.2, by have h1 := HZ.out.1; have h2 := HMS.out.2; omega⟩
              case measure =>
                rw [← HMS.out.1]
                have h1 := smM_le ⟨_, _, HZ.out.2, rfl⟩
                have h2 := HZ.out.1
                omega
end Go.Proofs.YtkopbngnhgdfhaaDoor
