/-
  keys: first, anew: what each call returns, which bytes wait then: for every byte.
-/
import Derived.Test.YtdnldfgolbcjiaaDoorBe13
import Derived.Test.YtdnldfgolbcjiaaDoorBe18
namespace Go.Proofs.YtdnldfgolbcjiaaDoor
open Go.RowKit

theorem key_any {ok ok' : Nat → Prop} {w : World} {v : Value} {l : List Ke} (h : KeysW ok w v l) (hm : ∀ k, ok k → ok' k) : KeysW ok' w v l := h.any hm
theorem alloc_below (w : World) (o : Obj) : Below w.heap.size w (w.alloc o) := (Below.refl _ _).alloc (Nat.le_refl _) o
theorem alloc_size (w : World) (o : Obj) : (w.alloc o).heap.size = w.heap.size + 1 := Array.size_push _
/-- What 'done' leaves, behind some memory of the call's own. -/
theorem fed_done {N D : Nat} {w w1 w' : World} {u v : Value} {k : Ke} (hb : Below w.heap.size w w1) (hu : OutK w1.heap.size w' u [k]) (hd : DecW N w' D v (.held noB)) (hv : ∀ j, v.ownBlock = some j → w1.heap.size ≤ j) (hk : KeepW (fun k => k ≠ D) w1 w') :
    FedK N D (fun k => k ≠ D) w (.held noB, [k]) (.returned u) w' :=
  ⟨u, v, rfl, hu.keys.any fun j (hj : w1.heap.size ≤ j) => Nat.le_trans hb.size hj, hd, (keep_below _ hb).trans hk, fun j e hj => absurd (hv j e) (by have := hb.size; omega)⟩
/-- What 'wait' leaves of a row of the call's own. -/
theorem fed_wait {N D : Nat} {w w1 w' : World} {v : Value} {s : ByteArray} (hb : Below w.heap.size w w1) (hB : boxK w' D (.iface 52 v)) (hr : OwnB N w1 v s) (hv : ∀ j, v.ownBlock = some j → w.heap.size ≤ j) (hk : KeepW (fun k => k ≠ D) w1 w') (hD : N ≤ D) (hDl : D < w.heap.size) :
    FedK N D (fun k => k ≠ D) w (.held s, []) (.returned (.slice none 0 0)) w' := by
  have hne : ∀ j, v.ownBlock = some j → j ≠ D := fun j e => by have := hv j e; omega
  exact ⟨_, v, rfl, KeysW.nil _ _, ⟨hB, hr.keep hk hne, fun e => hne D e rfl, hD⟩, (keep_below _ hb).trans hk, fun j e hj => absurd (hv j e) (by omega)⟩

set_option maxRecDepth 4000 in
set_option maxHeartbeats 2000000 in
theorem kfirst_any (N : Nat) (w : World) (D b : Nat) (x : Value) (hB : boxK w D x) (hN : N ≤ w.heap.size) (hD : N ≤ D) (hT : TabK N w) (hb : b < 256) :
    Calls Tryd.prog 43 #[.pointer (some ⟨D, 0, none⟩), .int .u8 (b : Int)] w (FedK N D (fun k => k ≠ D) w (firstK b)) := by
  have hDl := hB.lt
  have YB := Lib.hid (fun W (h : Below w.heap.size w W) => (⟨hB.below h, hT.below h, Nat.le_trans hN h.size⟩ : boxK W D x ∧ TabK N W ∧ N ≤ W.heap.size))
  have HW := Lib.hid (fun W v (h : boxK W D x) => kwait_any W D x v h)
  have HD := Lib.hid (fun W k (h : boxK W D x) (hN : N ≤ W.heap.size) => kdone_any N W D x k h hN hD)
  have R1 := Lib.hid (fun W (h : N ≤ W.heap.size) => row_byte N W b hb h)
  have HS := Lib.hid (fun W (h : TabK N W) sl (hv : BytesW W sl (oneS b)) => kstarts_any (oneS b) sl W h.u (by rw [one_size]; decide) (by rw [one_size]; decide) hv)
  have HDl := Lib.hid hDl
  have HDN := Lib.hid hD
  clear hB hT hDl hD
  by_cases e27 : b = 27
  · have HF : Hid (firstK b = (.held (oneS b), [])) := by show firstK b = _; unfold firstK; rw [if_pos (.inl e27)]
    subst e27
    go_enter Tryd.func43, Tryd.ntmps43
    go_wp2_with fail
    go_fit (HW.out _ _ (YB.out _ (alloc_below w _)).1)
    rintro e w' ⟨rfl, hB, hk⟩
    go_wp2_with fail
    go_ret
    rw [HF.out]
    exact fed_wait (alloc_below w _) hB (R1.out w hN) (fun j e => by cases e; exact Nat.le_refl _) hk HDN.out HDl.out
  have i27 : ((b : Int) == 27) = false := u8_no e27
  by_cases hg : begB (oneS b) = true
  · have HF : Hid (firstK b = (.held (oneS b), [])) := by show firstK b = _; unfold firstK; rw [if_pos (.inr hg)]
    rw [hg] at HS
    clear hg
    go_enter Tryd.func43, Tryd.ntmps43
    go_wp2_with fail
    go_fit (HS.out _ (YB.out _ (alloc_below w _)).2.1 _ (R1.out w hN).bytes)
    rintro e w1 ⟨rfl, hb1⟩
    have hbw : Below w.heap.size w w1 := (alloc_below w _).trans (hb1.mono (alloc_below w _).size)
    clear hb1
    obtain ⟨_, _, n1⟩ := YB.out _ hbw
    go_wp2_with fail
    have hbw2 : Below w.heap.size w (w1.alloc (.cells #[.int .u8 (b : Int)] 5)) := hbw.trans ((alloc_below w1 _).mono hbw.size)
    go_fit (HW.out _ _ (YB.out _ hbw2).1)
    rintro e w' ⟨rfl, hB, hk⟩
    go_wp2_with fail
    go_ret
    rw [HF.out]
    exact fed_wait hbw2 hB (R1.out w1 n1) (fun j e => by cases e; exact hbw.size) hk HDN.out HDl.out
  have hg0 : begB (oneS b) = false := by cases h : begB (oneS b); rfl; exact absurd h hg
  have HF : Hid (firstK b = (.held noB, [oneK b])) := by
    show firstK b = _
    unfold firstK
    rw [if_neg]
    rintro (h | h)
    · exact e27 h
    · exact hg h
  rw [hg0] at HS
  clear hg hg0
  have fin := Lib.hid (fun (w1 w' : World) u v (h1 : Below w.heap.size w w1) (h2 : OutK w1.heap.size w' u [oneK b]) (h3 : DecW N w' D v (.held noB)) h4 (h5 : KeepW (fun k => k ≠ D) w1 w') => fed_done (v := v) h1 h2 h3 h4 h5)
  by_cases c1 : b < 32
  · have j1 : (b : Int) < 32 := by omega
    have HC0 : Hid (b < 32 ∨ b = 127) := .inl c1
    have H1 : Hid (oneK b = ctlK b) := by show oneK b = _; unfold oneK; rw [if_pos HC0.out]
    have HC := Lib.hid (fun W => kctl_any b W hb)
    go_enter Tryd.func43, Tryd.ntmps43
    go_wp2_with fail
    go_fit (HS.out _ (YB.out _ (alloc_below w _)).2.1 _ (R1.out w hN).bytes)
    rintro e w1 ⟨rfl, hb1⟩
    have hbw : Below w.heap.size w w1 := (alloc_below w _).trans (hb1.mono (alloc_below w _).size)
    clear hb1
    go_wp2_with fail
    go_fit (HC.out _)
    rintro e w2 ⟨rfl, hb2⟩
    have hbw2 : Below w.heap.size w w2 := hbw.trans (hb2.mono hbw.size)
    clear hb2
    obtain ⟨y2, _, n2⟩ := YB.out _ hbw2
    go_wp2_with fail
    go_fit (HD.out _ _ y2 n2)
    rintro e w' ⟨⟨u, rfl, hu, _⟩, ⟨v, hd, hv⟩, hk⟩
    go_wp2_with fail
    go_ret
    rw [HF.out]
    exact fin.out w2 w' _ v hbw2 (by rw [H1.out]; exact hu) hd hv hk
  by_cases c2 : b = 127
  · have j1 : ((b : Int) == 127) = true := by rw [c2]; rfl
    have j2 : (32 : Int) ≤ (b : Int) := by omega
    have HC0 : Hid (b < 32 ∨ b = 127) := .inr c2
    clear c2
    have H1 : Hid (oneK b = ctlK b) := by show oneK b = _; unfold oneK; rw [if_pos HC0.out]
    have HC := Lib.hid (fun W => kctl_any b W hb)
    go_enter Tryd.func43, Tryd.ntmps43
    go_wp2_with fail
    go_fit (HS.out _ (YB.out _ (alloc_below w _)).2.1 _ (R1.out w hN).bytes)
    rintro e w1 ⟨rfl, hb1⟩
    have hbw : Below w.heap.size w w1 := (alloc_below w _).trans (hb1.mono (alloc_below w _).size)
    clear hb1
    go_wp2_with fail
    go_fit (HC.out _)
    rintro e w2 ⟨rfl, hb2⟩
    have hbw2 : Below w.heap.size w w2 := hbw.trans (hb2.mono hbw.size)
    clear hb2
    obtain ⟨y2, _, n2⟩ := YB.out _ hbw2
    go_wp2_with fail
    go_fit (HD.out _ _ y2 n2)
    rintro e w' ⟨⟨u, rfl, hu, _⟩, ⟨v, hd, hv⟩, hk⟩
    go_wp2_with fail
    go_ret
    rw [HF.out]
    exact fin.out w2 w' _ v hbw2 (by rw [H1.out]; exact hu) hd hv hk
  have j2 : (32 : Int) ≤ (b : Int) := by omega
  have j3 : ((b : Int) == 127) = false := u8_no c2
  by_cases c3 : b < 128
  · have j1 : (b : Int) < 128 := by omega
    have H1 : Hid (oneK b = (1, b, noB)) := by show oneK b = _; unfold oneK; rw [if_neg (by omega), if_pos c3]
    have HK := Lib.hid (fun W (h : boxK W D x) (hN : N ≤ W.heap.size) => HD.out W (1, b, noB) h hN)
    go_enter Tryd.func43, Tryd.ntmps43
    go_wp2_with fail
    go_fit (HS.out _ (YB.out _ (alloc_below w _)).2.1 _ (R1.out w hN).bytes)
    rintro e w1 ⟨rfl, hb1⟩
    have hbw : Below w.heap.size w w1 := (alloc_below w _).trans (hb1.mono (alloc_below w _).size)
    clear hb1
    go_wp2_with fail
    obtain ⟨y2, _, n2⟩ := YB.out _ hbw
    go_fit (HK.out _ y2 n2)
    rintro e w' ⟨⟨u, rfl, hu, _⟩, ⟨v, hd, hv⟩, hk⟩
    go_wp2_with fail
    go_ret
    rw [HF.out]
    exact fin.out w1 w' _ v hbw (by rw [H1.out]; exact hu) hd hv hk
  · have j1 : (128 : Int) ≤ (b : Int) := by omega
    have H1 : Hid (oneK b = badK (oneS b)) := by show oneK b = _; unfold oneK; rw [if_neg (by omega), if_neg c3]
    have HI := Lib.hid (fun W v (h : BytesW W v (oneS b)) => kinv_any W v (oneS b) h)
    go_enter Tryd.func43, Tryd.ntmps43
    go_wp2_with fail
    go_fit (HS.out _ (YB.out _ (alloc_below w _)).2.1 _ (R1.out w hN).bytes)
    rintro e w1 ⟨rfl, hb1⟩
    have hbw : Below w.heap.size w w1 := (alloc_below w _).trans (hb1.mono (alloc_below w _).size)
    clear hb1
    go_wp2_with fail
    obtain ⟨_, _, n1⟩ := YB.out _ hbw
    go_fit (HI.out _ _ (R1.out w1 n1).bytes)
    rintro e w2 ⟨rfl, hb2⟩
    have hbw2 : Below w.heap.size w w2 := hbw.trans (((alloc_below w1 _).trans (hb2.mono (alloc_below w1 _).size)).mono hbw.size)
    clear hb2
    obtain ⟨y2, _, n2⟩ := YB.out _ hbw2
    go_wp2_with fail
    go_fit (HD.out _ _ y2 n2)
    rintro e w' ⟨⟨u, rfl, hu, _⟩, ⟨v, hd, hv⟩, hk⟩
    go_wp2_with fail
    go_ret
    rw [HF.out]
    exact fin.out w2 w' _ v hbw2 (by rw [H1.out]; exact hu) hd hv hk

set_option maxHeartbeats 2000000 in
theorem kanew_any (N : Nat) (w : World) (D b : Nat) (x : Value) (k : Ke) (hB : boxK w D x) (hN : N ≤ w.heap.size) (hD : N ≤ D) (hT : TabK N w) (hb : b < 256) :
    Calls Tryd.prog 61 #[.pointer (some ⟨D, 0, none⟩), keV k, .int .u8 (b : Int)] w (FedK N D (fun k => k ≠ D) w (anewK k b)) := by
  have hDl := hB.lt
  have YB := Lib.hid (fun W (h : Below w.heap.size w W) => (⟨hB.below h, hT.below h, Nat.le_trans hN h.size⟩ : boxK W D x ∧ TabK N W ∧ N ≤ W.heap.size))
  have HD := Lib.hid (fun W k (h : boxK W D x) (hN : N ≤ W.heap.size) => kdone_any N W D x k h hN hD)
  have HF := Lib.hid (fun W x (h : boxK W D x) (hN : N ≤ W.heap.size) (hT : TabK N W) => kfirst_any N W D b x h hN hD hT hb)
  have HDN := Lib.hid hD
  clear hB hT hDl hD
  unfold keV
  go_enter Tryd.func61, Tryd.ntmps61
  go_wp2_with fail
  obtain ⟨y1, t1, n1⟩ := YB.out _ (alloc_below w (.cells #[.int .i64 (k.1 : Int), .int .i32 (k.2.1 : Int), .string k.2.2] 40))
  go_fit (HD.out _ k y1 n1)
  rintro e w1 ⟨⟨u, rfl, hu, hne⟩, ⟨v, hd, hv⟩, hk⟩
  have b0 := alloc_below w (.cells #[.int .i64 (k.1 : Int), .int .i32 (k.2.1 : Int), .string k.2.2] 40)
  obtain ⟨W0, hW0⟩ : ∃ W0, w.alloc (.cells #[.int .i64 (k.1 : Int), .int .i32 (k.2.1 : Int), .string k.2.2] 40) = W0 := ⟨_, rfl⟩
  rw [hW0] at y1 t1 n1 hu hk hv b0
  clear hW0
  have t2 : TabK N w1 := t1.keep hk fun j hj => by show j ≠ D; have := HDN.out; omega
  have n2 : N ≤ w1.heap.size := Nat.le_trans n1 hk.size
  have HF2 := Lib.hid (HF.out w1 _ hd.box n2 t2)
  have HU := Lib.hid hu
  have HV := Lib.hid hv
  have HK := Lib.hid hk
  have HB0 := Lib.hid b0
  clear y1 t1 n1 hu hv hk b0 t2 hd
  go_wp2_with fail
  go_fit HF2.out
  rintro e w2 ⟨u2, v2, rfl, hu2, hd2, hk2, ho2⟩
  have hlt := HU.out.lt
  have hU2 : OutK W0.heap.size w2 u [k] := HU.out.keep hk2 fun j e => fun h => hne (by rw [e, h])
  have hz := HB0.out.size
  have hz2 := HK.out.size
  have hz3 := hk2.size
  obtain ⟨u3, w3, hr, hO, hk3, hn3⟩ := run_outK 34 34 Tryd.underlying34 hU2 hu2 (by omega) (by have := first_keys b; simp only [List.length_cons, List.length_nil]; omega)
  have hk03 : KeepW (fun k => k ≠ D) w w3 := (((keep_below _ HB0.out).trans HK.out).trans hk2).comp hk3 fun j hj _ e => by
    have := (hlt j e).1
    omega
  have hd3 : DecW N w3 D v2 (firstK b).1 := hd2.keep hk3 hne fun j e h => by
    by_cases hj : j < w1.heap.size
    · exact hd2.ne (e.trans (congrArg some (Classical.byContradiction fun (hn : ¬ j = D) => ho2 j e hj hn)))
    · exact absurd (hlt j h).2 hj
  have hfin : FedK N D (fun k => k ≠ D) w (anewK k b) (.returned u3) w3 := by
    refine ⟨u3, v2, rfl, hO.keys.any fun j (hj : W0.heap.size ≤ j) => (by show w.heap.size ≤ j; omega), hd3, hk03, fun j e hj hn => ?_⟩
    exact ho2 j e (by omega) hn
  have HFin := Lib.hid hfin
  clear hfin hd3 hk03 hn3 hk3 hO hz3 hz2 hz hU2 hlt ho2 hk2 hd2 hu2
  go_wp2_with (at_builtin; refine wpList_run (by rfl) _ _ 34 (by rfl) (by rfl) (by rfl) hr ?_)
  go_ret
  exact HFin.out
end Go.Proofs.YtdnldfgolbcjiaaDoor
