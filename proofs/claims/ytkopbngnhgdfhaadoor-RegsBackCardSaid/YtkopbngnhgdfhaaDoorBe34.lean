/-
  regs' reader: piece: what it returns, or how it ends, where atom does as it should.
-/
import Derived.Test.YtkopbngnhgdfhaaDoorBe32
import Derived.Test.YtkopbngnhgdfhaaDoorBe33
namespace Go.Proofs.YtkopbngnhgdfhaaDoor
open Go.RowKit

/-- What lies in memory while piece goes over its signs: C: the box of the node at hand. -/
structure PcW (w0 w : World) (R : Nat) (s : ByteArray) (k B C : Nat) (n : Nd) (u : Value) : Prop where
  at_ : AtW w0 w R s k B
  box : boxN 26 w C n.kind n.set u
  kids : KidsF (fun j => B < j ∧ j ≠ C) w n.kids u
  ok : OkR n.set
  lo : B < C
section
variable {w0 w w' : World} {R : Nat} {s : ByteArray} {j k B C : Nat} {n : Nd} {u : Value}
theorem PcW.move (h : PcW w0 w R s k B C n u) (hk : KeepW (fun k => k ≠ R) w w') (hr : RdW w' R s j) : PcW w0 w' R s j B C n u :=
  have h1 := h.at_.rl
  have h2 := h.lo
  ⟨h.at_.move hk hr, h.box.keep hk (by omega), h.kids.keep hk (fun k _ hk => by omega), h.ok, h.lo⟩
theorem PcW.below (h : PcW w0 w R s k B C n u) (hb : Below w.heap.size w w') : PcW w0 w' R s k B C n u := h.move (keep_below _ hb) (h.at_.rx.rd.below hb)
theorem set_size (w : World) (p : Addr) (v : Value) : (w.setCell p v).heap.size = w.heap.size := by unfold World.setCell; simp only [Array.size_modify]
/-- One sign more: D: where the node at hand is laid as a kid. -/
theorem PcW.sign2 (h : PcW w0 w R s k B C n u) (K : Int) (D : Nat) (hD : B < D ∧ D ≠ C) (hFD : FrZ w D) (hX : ∀ (j : Nat) x, (nodeC n u)[j]? = some x → w.cell? ⟨D, j, none⟩ = some x) :
    PcW w0 (set6N w C K noR (.slice (some ⟨D, 0, none⟩) 1 1)) R s k B C (.mk K noR [n]) (.slice (some ⟨D, 0, none⟩) 1 1) := by
  have hk := keep_set6N w C K noR (.slice (some ⟨D, 0, none⟩) 1 1)
  have hlo := h.lo
  have hrl := h.at_.rl
  have hgl := h.at_.gl
  have hge := h.at_.ge
  refine ⟨⟨h.at_.rx.keep hk (by omega) (by omega), h.at_.b.keep hk (by omega), keep_old h.at_.kp hk fun k hk _ => by omega, hge, hrl, hgl⟩, h.box.set6 K noR _, ?_, ok_no, hlo⟩
  show KidsW _ _ [n] _
  exact ⟨[n], [u], _, by show 1 ≤ 9223372036854775807; decide, rfl, ⟨some ⟨D, 0, none⟩, 1, rfl, Nat.le_refl _, fun j x hx => ⟨D, 0, rfl, ⟨hD, hFD.keep hk hD.2⟩, by
      rw [Nat.zero_add]
      have e : nodesC [n] [u] = nodeC n u := by show nodeC n u ++ [] = _; rw [List.append_nil]
      rw [e] at hx
      exact hk.cell (hX j x hx) hD.2⟩⟩, (fun i m hm => by
    have e0 : i = 0 := by
      have := (List.getElem?_eq_some_iff.1 hm).1
      simpa using this
    subst e0
    cases hm
    exact h.ok), fun i m x hm hx => by
    have e0 : i = 0 := by
      have := (List.getElem?_eq_some_iff.1 hm).1
      simpa using this
    subst e0
    cases hm
    cases hx
    exact h.kids.keep hk fun k _ hk => hk.2⟩
theorem alloc_set (w : World) (p : Addr) (v : Value) (o : Obj) (hp : p.block < w.heap.size) : (w.setCell p v).alloc o = (w.alloc o).setCell p v := by
  unfold World.alloc World.setCell
  simp only
  congr 1
  apply Array.ext_getElem?
  intro k
  simp only [Array.getElem?_push, Array.getElem?_modify, Array.size_modify]
  by_cases h1 : k = w.heap.size
  · subst h1
    simp [Nat.ne_of_lt hp]
  · simp [h1]
theorem alloc_set6 (w : World) (C : Nat) (K : Int) (t : St4) (v : Value) (o : Obj) (hC : C < w.heap.size) : (set6N w C K t v).alloc o = set6N (w.alloc o) C K t v := by
  unfold set6N set4N
  rw [alloc_set, alloc_set, alloc_set, alloc_set, alloc_set, alloc_set] <;> simp only [set_size] <;> exact hC
theorem PcW.both (h : PcW w0 w R s k B C n u) (K : Int) (i : Nat) :
    (∀ m, PcW w0 ((set6N ((w.setCell ⟨R, 1, none⟩ (.int .i64 (i : Int))).drewN m) C K noR (.slice (some ⟨w.heap.size, 0, none⟩) 1 1)).alloc (.cells #[.int .i64 n.kind, .int .u64 (n.set.1 : Int), .int .u64 (n.set.2.1 : Int), .int .u64 (n.set.2.2.1 : Int), .int .u64 (n.set.2.2.2 : Int), u] 26)) R s i B C (.mk K noR [n]) (.slice (some ⟨w.heap.size, 0, none⟩) 1 1)) ∧
    ∀ m, PcW w0 (set6N (((w.setCell ⟨R, 1, none⟩ (.int .i64 (i : Int))).alloc (.cells #[.int .i64 n.kind, .int .u64 (n.set.1 : Int), .int .u64 (n.set.2.1 : Int), .int .u64 (n.set.2.2.1 : Int), .int .u64 (n.set.2.2.2 : Int), u] 26)).drewN m) C K noR (.slice (some ⟨w.heap.size, 0, none⟩) 1 1)) R s i B C (.mk K noR [n]) (.slice (some ⟨w.heap.size, 0, none⟩) 1 1) := by
  have hsz := set_size w ⟨R, 1, none⟩ (.int .i64 (i : Int))
  have h1 := h.move (keep_rd w R (i : Int)) (h.at_.rx.rd.set i)
  have hBl := h.at_.b.lt
  have hCl := h.box.lt
  obtain ⟨W0, hW0⟩ : ∃ W0, w.setCell ⟨R, 1, none⟩ (.int .i64 (i : Int)) = W0 := ⟨_, rfl⟩
  rw [hW0] at h1 hsz ⊢
  rw [← hsz] at hBl hCl ⊢
  have key : ∀ W : World, PcW w0 W R s i B C n u → W.heap.size = W0.heap.size → PcW w0 (set6N (W.alloc (.cells #[.int .i64 n.kind, .int .u64 (n.set.1 : Int), .int .u64 (n.set.2.1 : Int), .int .u64 (n.set.2.2.1 : Int), .int .u64 (n.set.2.2.2 : Int), u] 26)) C K noR (.slice (some ⟨W0.heap.size, 0, none⟩) 1 1)) R s i B C (.mk K noR [n]) (.slice (some ⟨W0.heap.size, 0, none⟩) 1 1) := fun W hW hs => by
    rw [← hs]
    exact (hW.below (alloc_under W (.cells #[.int .i64 n.kind, .int .u64 (n.set.1 : Int), .int .u64 (n.set.2.1 : Int), .int .u64 (n.set.2.2.1 : Int), .int .u64 (n.set.2.2.2 : Int), u] 26))).sign2 K W.heap.size ⟨by omega, by omega⟩ ⟨_, _, heap_alloc_new _ _⟩ (boxN_node (n := n) (boxN.new 26 W n.kind n.set u))
  refine ⟨fun m => ?_, fun m => ?_⟩
  · rw [alloc_set6 _ _ _ _ _ _ (show C < (W0.drewN m).heap.size from hCl)]
    exact key _ (h1.below (drewN_under W0 m)) rfl
  · have := (h1.below (alloc_under W0 (.cells #[.int .i64 n.kind, .int .u64 (n.set.1 : Int), .int .u64 (n.set.2.1 : Int), .int .u64 (n.set.2.2.1 : Int), .int .u64 (n.set.2.2.2 : Int), u] 26))).below (drewN_under _ m)
    exact this.sign2 K W0.heap.size ⟨by omega, by omega⟩ ⟨_, _, heap_alloc_new W0 _⟩ fun j x hx => boxN_node (n := n) (boxN.new 26 W0 n.kind n.set u) j x hx
theorem PcW.new (h : AtW w0 w R s k B) (hn : OkR n.set) (hu : KidsF (fun j => B < j) w n.kids u) : PcW w0 (w.alloc (.cells #[.int .i64 n.kind, .int .u64 (n.set.1 : Int), .int .u64 (n.set.2.1 : Int), .int .u64 (n.set.2.2.1 : Int), .int .u64 (n.set.2.2.2 : Int), u] 26)) R s k B w.heap.size n u := by
  have hb := alloc_under w (.cells #[.int .i64 n.kind, .int .u64 (n.set.1 : Int), .int .u64 (n.set.2.1 : Int), .int .u64 (n.set.2.2.1 : Int), .int .u64 (n.set.2.2.2 : Int), u] 26)
  exact ⟨h.below hb, boxN.new 26 w n.kind n.set u, (hu.mono (ok' := fun j => B < j ∧ j ≠ w.heap.size) (fun j hj hk => ⟨hk, by omega⟩)).under hb, hn, h.b.lt⟩
end
section
variable {w : World} {R : Nat} {s : ByteArray} {i : Nat}
set_option maxHeartbeats 1000000 in
/-- next, with the world that it leaves. -/
theorem pnext_x (h : RdW w R s i) (hlt : i < s.size) (hs : s.size ≤ 1000) :
    Calls Tryd.prog 83 #[.pointer (some ⟨R, 0, none⟩)] w fun e w' => e = .returned (.int .u8 (bR s i : Int)) ∧ ∃ m, w' = (w.setCell ⟨R, 1, none⟩ (.int .i64 ((i : Int) + 1))).drewN m := by
  have HE := Lib.hid ((pended_any h).mono fun e w' ⟨he, m, hm⟩ => (show e = Ending.returned (Value.bool false) ∧ ∃ m, w' = w.drewN m from ⟨by rw [he, decide_eq_false (by omega)], m, hm⟩))
  have HN := Lib.hid (fun W => pneed_yes W)
  have HR := Lib.hid h
  have hb := getR s i hlt
  have h1 : (i : Int) < (s.size : Int) := by omega
  have h0 : (0 : Int) ≤ (i : Int) := by omega
  have h1000 : (i : Int) ≤ 1000 := by omega
  obtain ⟨c, hc⟩ : ∃ c, bR s i = c := ⟨_, rfl⟩
  rw [hc] at hb ⊢
  obtain ⟨⟨x0, x1⟩, f0, f1⟩ := h.cells
  have hlt1 := h.lt
  clear h hc
  go_enter Tryd.func83, Tryd.ntmps83
  go_wp2_with fail
  go_fit HE.out
  rintro e w1 ⟨rfl, m1, hm1⟩
  have HM := Lib.hid hm1
  have HB := Lib.hid (show RdW w1 R s i from by rw [hm1]; exact HR.out.below (drewN_under w m1))
  clear hm1 x0 x1 f0 f1 hlt1
  obtain ⟨⟨x0, x1⟩, f0, f1⟩ := HB.out.cells
  have hlt1 := HB.out.lt
  go_wp2_with fail
  go_fit (HN.out _)
  rintro e w2 ⟨rfl, rfl⟩
  have HX := Lib.hid (show RdW (w2.setCell ⟨R, 1, none⟩ (.int .i64 ((i : Int) + 1))) R s (i + 1) from HB.out.set (i + 1))
  go_upto_region 3 with (fail)
  obtain ⟨W2, hW2⟩ : ∃ W2, w2.setCell ⟨R, 1, none⟩ (.int .i64 ((i : Int) + 1)) = W2 := ⟨_, rfl⟩
  rw [hW2] at HX
  (try rw [hW2])
  have HW2 := Lib.hid hW2
  clear hW2 x0 x1 f0 f1 hlt1
  obtain ⟨⟨y0, y1⟩, _⟩ := HX.out.cells
  rw [show ((i + 1 : Nat) : Int) = (i : Int) + 1 by omega] at y1
  have e1 : (i : Int) + 1 - 1 = (i : Int) := by omega
  go_quiet (fail)
  go_wp2_with fail
  go_ret
  exact ⟨rfl, m1 + nq, by rw [← HW2.out, HM.out, ← World.drewN_drewN]; exact rfl⟩
/-- What piece does over signs. -/
theorem sign_yes {c : Nat} {l : List Nat} (h : 0 < signR c) (n : Nd) : signsR n (c :: l) = signsR (.mk (signR c : Nat) noR [n]) l := by
  simp only [signsR]; rw [if_pos h]
theorem sign_no {l : List Nat} (h : ∀ c, l.head? = some c → ¬ 0 < signR c) (n : Nd) : signsR n l = (n, l) := by
  match l, h with
  | [], _ => rfl
  | c :: t, h => simp only [signsR]; rw [if_neg (h c rfl)]
theorem sees_sign {i : Nat} : seesR s i ⟨#[42, 43, 63]⟩ = decide (∃ c, (restR s i).head? = some c ∧ 0 < signR c) := by
  unfold seesR
  by_cases h : i < s.size
  · rw [idx_sign _ (bR_lt s i), decide_eq_true h, rest_cons s i h, Bool.true_and]
    refine decide_eq_decide.2 ⟨fun h2 => ⟨_, rfl, ?_⟩, fun ⟨c, hc, h2⟩ => ?_⟩
    · by_cases e : 0 < signR (bR s i)
      · exact e
      · rw [if_neg e] at h2; omega
    · cases hc
      rw [if_pos h2]
      unfold signR at h2 ⊢
      split
      · decide
      split
      · decide
      split
      · decide
      · rename_i e1 e2 e3
        rw [if_neg e1, if_neg e2, if_neg e3] at h2
        omega
  · rw [decide_eq_false h, rest_nil s i (by omega)]
    exact (decide_eq_false (fun ⟨c, hc, _⟩ => by cases hc)).symm
end
def pPieceC (s : ByteArray) (R i : Nat) : Prop := ∀ w, RxW w R s i → Calls Tryd.prog 75 #[.pointer (some ⟨R, 0, none⟩)] w fun e w' => NdP s R w w' (pieceR (restR s i)) e
set_option maxHeartbeats 16000000 in
theorem ppiece_of (s : ByteArray) (R i : Nat) (hi : i ≤ s.size) (hs : s.size ≤ 1000) (HA : pAtomC s R i) : pPieceC s R i := by
  intro w h
  have H0 := Lib.hid (AtW.new h)
  have HAT := Lib.hid HA
  unfold pAtomC at HAT
  obtain ⟨O, hO⟩ : ∃ O, pieceR (restR s i) = O := ⟨_, rfl⟩
  rw [hO]
  unfold pieceR at hO
  clear h HA
  rcases hq : atR (restR s i) with _ | ⟨n, r⟩
  · rw [hq] at hO
    simp only [hq] at HAT
    have HE : Hid (O = none) := hO.symm
    clear hq hO
    go_enter Tryd.func75, Tryd.ntmps75
    go_wp2_with fail
    obtain ⟨W0, hW0⟩ : ∃ W0, w.alloc (.cells #[.int .i64 0, .int .u64 0, .int .u64 0, .int .u64 0, .int .u64 0, .slice none 0 0] 26) = W0 := ⟨_, rfl⟩
    (try rw [hW0])
    rw [hW0] at H0
    clear hW0
    obtain ⟨B, hB⟩ : ∃ B, w.heap.size = B := ⟨_, rfl⟩
    (try rw [hB])
    rw [hB] at H0
    clear hB
    go_fit (HAT.out _ H0.out.rx)
    rintro e w1 ⟨hk, rfl⟩
    exact ⟨rfl, ndp_none HE.out (H0.out.kp.trans hk)⟩
  have hlen := at_len hq
  rw [rest_len] at hlen
  obtain ⟨j, rfl, hj, hji⟩ : ∃ j, r = restR s j ∧ j ≤ s.size ∧ i < j := ⟨s.size - r.length, rest_of s i (at_drop hq), by omega, by omega⟩
  rw [hq] at hO
  simp only [hq] at HAT
  have HSZ := Lib.hid (rest_size s j hj)
  have HO := Lib.hid (show O = some (signsR n (restR s j)) from hO.symm)
  clear hq hlen hO
  go_enter Tryd.func75, Tryd.ntmps75
  go_wp2_with fail
  obtain ⟨W0, hW0⟩ : ∃ W0, w.alloc (.cells #[.int .i64 0, .int .u64 0, .int .u64 0, .int .u64 0, .int .u64 0, .slice none 0 0] 26) = W0 := ⟨_, rfl⟩
  (try rw [hW0])
  rw [hW0] at H0
  clear hW0
  obtain ⟨B, hB⟩ : ∃ B, w.heap.size = B := ⟨_, rfl⟩
  (try rw [hB])
  rw [hB] at H0
  clear hB
  go_fit (HAT.out _ H0.out.rx)
  rintro e w1 ⟨hk, x, rfl, hn, hr⟩
  rw [HSZ.out] at hr
  obtain ⟨hns, u, rfl, hu⟩ := hn
  obtain ⟨uo, uc, rfl, _⟩ := hu.form
  have HNEW := Lib.hid (PcW.new (H0.out.move hk hr) hns (hu.mono (ok' := fun k => B < k) fun k _ hk => by have := H0.out.b.lt; omega))
  unfold nodeV
  clear hk hr hns hu
  go_wp2_with fail
  obtain ⟨W2, hW2⟩ : ∃ W2, w1.alloc (.cells #[.int .i64 n.kind, .int .u64 (n.set.1 : Int), .int .u64 (n.set.2.1 : Int), .int .u64 (n.set.2.2.1 : Int), .int .u64 (n.set.2.2.2 : Int), .slice uo n.kids.length uc] 26) = W2 := ⟨_, rfl⟩
  (try rw [hW2])
  rw [hW2] at HNEW
  clear hW2
  obtain ⟨C, hC⟩ : ∃ C, w1.heap.size = C := ⟨_, rfl⟩
  (try rw [hC])
  rw [hC] at HNEW
  clear hC
  have HST : Hid (∃ k n uo un uc, k ≤ s.size ∧ PcW w W2 R s k B C n (.slice uo un uc) ∧ O = some (signsR n (restR s k))) := ⟨j, n, uo, _, uc, hj, HNEW.out, HO.out⟩
  clear HNEW HO HSZ HAT
  go_loopw [] (fun wr => Hid (∃ k n uo un uc, k ≤ s.size ∧ PcW w wr R s k B C n (.slice uo un uc) ∧ O = some (signsR n (restR s k)))) (fun wr => s.size + 1 - posW wr R)
  case atStart => exact HST
  case round =>
    clear HST
    obtain ⟨k, m, uo, un, uc, hk, hP, hOk⟩ := hrel.out
    have HQ := Lib.hid hP
    have HPOS := Lib.hid hP.at_.rx.rd.pos
    have HOK := Lib.hid hOk
    have hsee := sees_sign (s := s) (i := k)
    clear hP hOk hrel
    by_cases hsg : ∃ c, (restR s k).head? = some c ∧ 0 < signR c
    · have HSE := Lib.hid (psees_w HQ.out.at_.rx.rd hk ⟨#[42, 43, 63]⟩ true (by rw [hsee]; exact decide_eq_true hsg))
      obtain ⟨c, hc, hcs⟩ := hsg
      have hks : k < s.size := Classical.byContradiction fun hn => by rw [rest_nil s k (by omega)] at hc; cases hc
      have hcc : bR s k = c := by rw [rest_cons s k hks] at hc; exact Option.some.inj hc
      have hc256 : c < 256 := by rw [← hcc]; exact bR_lt s k
      have HO2 := Lib.hid (show O = some (signsR (.mk ((signR c : Nat) : Int) noR [m]) (restR s (k + 1))) by rw [HOK.out, rest_cons s k hks, hcc, sign_yes hcs])
      have hix := idx_sign c hc256
      rw [if_pos hcs] at hix
      have HIX := Lib.hid (fun W => strIdx_any ⟨#[42, 43, 63]⟩ c W)
      simp only [hix] at HIX
      have hs4 : 4 ≤ signR c ∧ signR c ≤ 6 := by
        unfold signR at hcs ⊢
        split
        · decide
        split
        · decide
        split
        · decide
        · rename_i e1 e2 e3
          rw [if_neg e1, if_neg e2, if_neg e3] at hcs
          omega
      obtain ⟨K, hK⟩ : ∃ K : Int, ((signR c : Nat) : Int) = K := ⟨_, rfl⟩
      have hK4 : 4 ≤ K := by omega
      have hK6 : K ≤ 6 := by omega
      have eK : 4 + (K - 4) = K := by omega
      rw [hK] at HO2
      simp only [hK] at HIX
      have HNX := Lib.hid (fun W (hr : RdW W R s k) => pnext_x hr hks hs)
      simp only [hcc] at HNX
      clear hsee hc hcs hcc hix hs4 hK HOK
      go_wp2_with fail
      go_fit HSE.out
      rintro e w4 ⟨rfl, hb⟩
      have HQ2 := Lib.hid (HQ.out.below hb)
      clear hb
      have HSN := Lib.hid (HQ2.out.both K (k + 1))
      have wK : IntKind.i64.wrap K = K := by exact IntWalk.i64_in _ (by omega)
      unfold set6N set4N at HSN
      rw [show ((k + 1 : Nat) : Int) = (k : Int) + 1 by omega] at HSN
      simp only [show ((noR.1 : Nat) : Int) = 0 from rfl, show ((noR.2.1 : Nat) : Int) = 0 from rfl, show ((noR.2.2.1 : Nat) : Int) = 0 from rfl, show ((noR.2.2.2 : Nat) : Int) = 0 from rfl] at HSN
      obtain ⟨⟨c0, c1, c2, c3, c4, c5⟩, fc0, fc1, fc2, fc3, fc4, fc5⟩ := HQ2.out.box.cells
      have hClt := HQ2.out.box.lt
      have hRlt := HQ2.out.at_.rx.rd.lt
      have hRC : R ≠ C := by have := HQ2.out.at_.rl; have := HQ2.out.lo; omega
      have HR := Lib.hid HQ2.out.at_.rx.rd
      have HRA : Hid (∀ o, RdW (w4.alloc o) R s k) := fun o => HR.out.below (alloc_under w4 o)
      go_wp2_with fail
      go_region_with (first | (go_at_call 83; go_fit (HNX.out _ ?_); (first | exact HR.out | exact HRA.out _); (rintro e wx ⟨rfl, mx, rfl⟩)) | (go_at_call 81; go_fit (HIX.out _); (rintro e wx ⟨rfl, rfl⟩)))
      all_goals (go_wp2_with fail; first | (have HZ := Lib.hid (HSN.out.1 (1 + mx)); refine ⟨⟨k + 1, .mk K noR [m], _, _, _, by omega, (by with_reducible exact HZ.out), HO2.out⟩, ?_⟩; rw [HPOS.out, HZ.out.at_.rx.rd.pos]; omega) | (have HZ := Lib.hid (HSN.out.2 (1 + mx)); refine ⟨⟨k + 1, .mk K noR [m], _, _, _, by omega, (by with_reducible exact HZ.out), HO2.out⟩, ?_⟩; rw [HPOS.out, HZ.out.at_.rx.rd.pos]; omega))
    · have HSE := Lib.hid (psees_w HQ.out.at_.rx.rd hk ⟨#[42, 43, 63]⟩ false (by rw [hsee]; exact decide_eq_false hsg))
      have HE := Lib.hid (show O = some (m, restR s k) by rw [HOK.out, sign_no (fun c hc h => hsg ⟨c, hc, h⟩)])
      have HSZ := Lib.hid (rest_size s k hk)
      clear hsg hsee HOK
      go_wp2_with fail
      go_fit HSE.out
      rintro e w4 ⟨rfl, hb⟩
      have HQ2 := Lib.hid (HQ.out.below hb)
      clear hb
      obtain ⟨⟨c0, c1, c2, c3, c4, c5⟩, _⟩ := HQ2.out.box.cells
      obtain ⟨⟨b0, b1, b2, b3, b4, b5⟩, g0, g1, g2, g3, g4, g5⟩ := HQ2.out.at_.b.cells
      have hBlt := HQ2.out.at_.b.lt
      have hF := HQ2.out.at_.fin m (.slice uo un uc) HQ2.out.ok (HQ2.out.kids.mono fun k _ hk => hk.1)
      have HKP := Lib.hid (And.intro hF.1 (And.intro hF.2.1 hF.2.2.2))
      obtain ⟨⟨y0, y1, y2, y3, y4, y5⟩, _⟩ := hF.2.2.1.cells
      unfold set6N set4N at y0 y1 y2 y3 y4 y5 HKP
      have Y0 := Lib.hid y0
      have Y1 := Lib.hid y1
      have Y2 := Lib.hid y2
      have Y3 := Lib.hid y3
      have Y4 := Lib.hid y4
      have Y5 := Lib.hid y5
      clear hF y0 y1 y2 y3 y4 y5
      go_wp2_with fail
      have y0 := Y0.out
      have y1 := Y1.out
      have y2 := Y2.out
      have y3 := Y3.out
      have y4 := Y4.out
      have y5 := Y5.out
      exact bodyPost_ret (v := nodeV m (.slice uo un uc)) (by simp [results, Tryd.results75, go_sem, nodeV, y0, y1, y2, y3, y4, y5]) rfl (ndp_some HE.out HSZ.out HKP.out.1 HKP.out.2.1 HKP.out.2.2)
end Go.Proofs.YtkopbngnhgdfhaaDoor
