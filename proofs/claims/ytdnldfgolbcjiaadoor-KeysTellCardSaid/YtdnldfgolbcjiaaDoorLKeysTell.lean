/-
  KeysTell: whatever bytes are fed, with whatever pauses, the keys and what waits are the document's: the law's walk: it returns true.
-/
import Derived.Test.YtdnldfgolbcjiaaDoorBe48
namespace Go.Proofs.YtdnldfgolbcjiaaDoor
open Go.RowKit

set_option maxRecDepth 4000 in
set_option maxHeartbeats 4000000 in
theorem keysTell_far (v : Value) (l : List KAct) (w : World) (hL : TabK w.heap.size w) (hS : KActsW w v l) (h : greatB l = true) :
    Calls Tryd.prog 3 #[v] w fun e w' => e = .returned (.bool true) ∧ Below w.heap.size w w' := by
  have HG := Lib.hid (great_any v l w hS)
  rw [h] at HG
  have HP := Lib.hid (pressed_any w hL)
  clear hL hS h
  go_enter Tryd.func3, Tryd.ntmps3
  go_wp2_with fail
  go_fit HG.out
  rintro e w2 ⟨rfl, rfl⟩
  go_wp2_with fail
  go_fit HP.out
  rintro e w3 ⟨rfl, hb3⟩
  go_wp2_with fail
  go_ret
  exact ⟨rfl, hb3⟩
theorem wpAnyH_mono {P : Program} {ops : Array Oper} {Q : Exit → Act → World → Prop} {md : Region.Mode} {S S' : World → Prop} (h : ∀ w, S w → S' w) : ∀ (fuel : Nat) (listed : Array Bool) (a : Act) (w : World), wpAnyH P md ops Q S fuel listed a w → wpAnyH P md ops Q S' fuel listed a w
  | 0, _, _, _, H => H
  | fuel + 1, _, _, _, H => ⟨H.1, fun i hi => wpOp_mono (fun a' w' h' => ⟨h _ h'.1, wpAnyH_mono h fuel _ a' w' h'.2⟩) (H.2 i hi)⟩
theorem tick_size (p : Ky) : sizeK (tickK p).1 ≤ sizeK p := by
  cases p with
  | paste s => exact Nat.le_refl _
  | held w =>
    show sizeK (if w.size = 0 then (Ky.held w, []) else (Ky.held noB, [if w = oneS 27 then ((5, 0, noB) : Ke) else badK w])).1 ≤ w.size
    split
    · exact Nat.le_refl _
    · exact Nat.zero_le _
def OkT (p : Ky) (m : Nat) : Prop := OkK p ∧ sizeK p ≤ m
set_option maxRecDepth 4000 in
set_option maxHeartbeats 16000000 in
theorem keysTell_near (v : Value) (l : List KAct) (w : World) (hL : TabK w.heap.size w) (hS : KActsW w v l) (h : greatB l = false) :
    Calls Tryd.prog 3 #[v] w fun e w' => e = .returned (.bool true) ∧ Below w.heap.size w w' := by
  have HG := Lib.hid (great_any v l w hS)
  rw [h] at HG
  have hlong : longB l = false := by unfold greatB at h; cases hl : longB l <;> simp_all
  have hn30 : l.length ≤ 30 := by
    unfold greatB at h
    rw [hlong, Bool.false_or] at h
    have := of_decide_eq_false h
    omega
  have HSZ := Lib.hid (not_long l hlong)
  have HNW := Lib.hid (knew_any w.heap.size w (Nat.le_refl _))
  have HP := Lib.hid (fun W (h : Below w.heap.size w W) => pressed_any W ((hL.below h).up h.size))
  have HA := Lib.hid (fun i a (ha : l[i]? = some a) W (hb : Below w.heap.size w W) => KActsW.at_ (hS.below hb) ha)
  have HT := Lib.hid hL
  obtain ⟨ao, cap, rfl, _⟩ := hS.form
  have HEX := Lib.hid (fun i (h : i < l.length) => (⟨_, List.getElem?_eq_getElem h⟩ : ∃ x, l[i]? = some x))
  obtain ⟨n, hn⟩ : ∃ n, l.length = n := ⟨_, rfl⟩
  rw [hn] at hn30 HA HEX HG ⊢
  clear hL hS h hn hlong
  go_enter Tryd.func3, Tryd.ntmps3
  go_wp2_with fail
  go_fit HG.out
  rintro e w0 ⟨rfl, rfl⟩
  go_wp2_with fail
  go_fit HNW.out
  rintro e w1 ⟨D, v, rfl, hD, hd, hv, hb1⟩
  have H0 : Hid (∃ v u p, TelW w0.heap.size D w1.heap.size w0 (w1.alloc (.cells #[.string ⟨#[]⟩, .bool false, .slice none 0 0] 30)) v u p p ∧ OkT p 0) := by
    have hba := alloc_below w1 (.cells #[.string ⟨#[]⟩, .bool false, .slice none 0 0] 30)
    have hz := hb1.size
    have hlD := hd.box.lt
    have hlv := OwnB.lt hd.row
    refine ⟨v, .slice none 0 0, .held noB, ⟨hd.below hba, ⟨heap_alloc_new _ _, ⟨rfl, .inl ⟨rfl, rfl⟩⟩, (fun e => by cases e), hz⟩, (HT.out.below hb1).below hba, hb1.trans (hba.mono hz), Nat.le_trans hz hba.size, by omega, fun e => by have := (hlv _ e).2; omega, (fun e => by cases e), fun k e e2 => by cases e2⟩, ok_noB, Nat.le_refl _⟩
  obtain ⟨W2, hW2⟩ : ∃ W2, w1.alloc (.cells #[.string ⟨#[]⟩, .bool false, .slice none 0 0] 30) = W2 := ⟨_, rfl⟩
  rw [hW2] at H0
  have HW2 := Lib.hid hW2
  obtain ⟨R, hR⟩ : ∃ R, w1.heap.size = R := ⟨_, rfl⟩
  rw [hR] at H0
  clear hd hv hb1 HNW hW2
  go_wp2
  (try rw [HW2.out])
  (try rw [hR])
  clear hR HW2
  go_loopw [5] (fun s5 wr => ∃ i : Nat, s5 = .int .i64 (i : Int) ∧ i ≤ n ∧ Hid (∃ v u p, TelW w0.heap.size D R w0 wr v u p p ∧ OkT p (300 * i))) (fun s5 _ => n - (intOf s5).toNat)
  case atStart => exact ⟨0, rfl, Nat.zero_le _, H0⟩
  case round =>
    obtain ⟨i, rfl, hi, HI⟩ := hrel
    clear H0
    by_cases hlt : i < n
    · obtain ⟨a, ha⟩ := HEX.out i hlt
      have hbw : Below w0.heap.size w0 wr := by obtain ⟨_, _, _, hT, _⟩ := HI.out; exact hT.bel
      obtain ⟨g, o, c, hf, hcc, _, _⟩ := HA.out i a ha wr hbw
      have e1 : ao = some ⟨g, o, none⟩ := (Value.slice.inj hf).1
      subst e1
      have HC : Hid (∀ W, Below w0.heap.size w0 W → W.cell? ⟨g, o + i * 2, none⟩ = some (.string a.1) ∧ W.cell? ⟨g, o + i * 2 + 1, none⟩ = some (.bool a.2)) := fun W hW => by
        obtain ⟨g', o', c', hf', _, c0, c1⟩ := HA.out i a ha W hW
        cases hf'
        exact ⟨c0, c1⟩
      have hsz := HSZ.out i a ha
      have k1 : (i : Int) < (n : Int) := by omega
      have k0 : (0 : Int) ≤ (i : Int) := by omega
      obtain ⟨s, tk⟩ := a
      have HBT := Lib.hid (fun k (hk : k < s.size) => (show (s[k].toNat : Int) = (bt s k : Int) by unfold bt; rw [show s.get! k = s[k] from get_at s k hk]))
      have hsz' : s.size ≤ 300 := hsz
      have HI0 : Hid (∃ v u p, TelW w0.heap.size D R w0 wr v u p p ∧ OkT p (300 * i + 0)) := HI
      clear hf ha hsz HA HEX HSZ hbw
      go_wp2
      go_loopw [6] (fun s6 wr2 => ∃ k : Nat, s6 = .int .i64 (k : Int) ∧ k ≤ s.size ∧ Hid (∃ v u p, TelW w0.heap.size D R w0 wr2 v u p p ∧ OkT p (300 * i + k))) (fun s6 _ => s.size - (intOf s6).toNat)
      case atStart => exact ⟨0, rfl, Nat.zero_le _, HI0⟩
      case round =>
        obtain ⟨k, rfl, hk, HJ⟩ := hrel
        clear HI0 HI
        obtain ⟨v, u, p, hT, hOk, hSz⟩ := HJ.out
        obtain ⟨x0, x1⟩ := HC.out _ hT.bel
        by_cases hkl : k < s.size
        · have hbt := HBT.out k hkl
          have hb256 := bt_lt s k
          obtain ⟨b, hb⟩ : ∃ b, bt s k = b := ⟨_, rfl⟩
          rw [hb] at hbt hb256
          have q1 : (k : Int) < (s.size : Int) := by omega
          have q0 : (0 : Int) ≤ (k : Int) := by omega
          have hks := feed_keys p b
          have hok2 := ok_feedK p b hb256
          have hsz2 := feed_size p b
          obtain ⟨G, hG⟩ : ∃ G, feedK p b = G := ⟨_, rfl⟩
          obtain ⟨Q, hQ⟩ : ∃ Q, G.1 = Q := ⟨_, rfl⟩
          have HCC := Lib.hid (fun W hW => (HC.out W hW).1)
          have x0d := HCC.out _ (hT.bel.trans ((Below.refl _ wr).drew.mono hT.n))
          have L1 : Hid (∀ V, Below wr.heap.size wr V → Calls Tryd.prog 13 #[.pointer (some ⟨D, 0, none⟩), .int .u8 (b : Int)] V fun e w3 => ∃ a, e = .returned a ∧ Hid (∀ V, Below w3.heap.size w3 V → V.cell? ⟨g, o + i * 2, none⟩ = some (.string s)) ∧ Hid (∀ V2, Below w3.heap.size w3 V2 → Calls Tryd.prog 14 #[.pointer (some ⟨R, 0, none⟩), .int .u8 (b : Int)] V2 fun e w4 => ∃ c, e = .returned c ∧ Hid (∀ V, Below w4.heap.size w4 V → V.cell? ⟨g, o + i * 2, none⟩ = some (.string s)) ∧ Hid (∀ V3, Below w4.heap.size w4 V3 → Calls Tryd.prog 12 #[a, c] V3 fun e w5 => e = .returned (.bool true) ∧ Hid (∀ V, Below w5.heap.size w5 V → V.cell? ⟨g, o + i * 2, none⟩ = some (.string s)) ∧ Hid (∀ V4, Below w5.heap.size w5 V4 → (V4.cell? ⟨R, 0, none⟩ = some (.string (heldS Q)) ∧ V4.cell? ⟨R, 1, none⟩ = some (.bool (isP Q))) ∧ Hid (∃ v u, TelW w0.heap.size D R w0 V4 v u Q Q) ∧ Hid (Calls Tryd.prog 15 #[.pointer (some ⟨D, 0, none⟩)] V4 fun e w6 => e = .returned (.bool (waitsK Q)) ∧ w6 = V4))))) := fun V hV => by
            have hTV := hT.below hV
            refine (kfeed_any w0.heap.size V D b v p hTV.dec hTV.n hTV.tab hb256 (by omega)).mono ?_
            rintro e w3 ⟨a, v3, rfl, hu3, hd3, hk3, ho3⟩
            have hT3 := hTV.dturn hd3 hk3 ho3
            rw [hG] at hu3 hT3
            rw [hQ] at hT3
            refine ⟨a, rfl, fun V hV => HCC.out V (hT3.below hV).bel, fun V2 hV2 => ?_⟩
            have hT3' := hT3.below hV2
            refine (rfeed_any w0.heap.size R b u p V2 hT3'.ref hOk hT3'.n hb256 (by omega)).mono ?_
            rintro e w4 ⟨c, u4, rfl, hu4, hd4, hk4, ho4⟩
            have hT4 := hT3'.rturn hd4 hk4 ho4
            rw [hG] at hu4 hT4
            rw [hQ] at hT4
            have hR3 := hT3.ref.box.lt
            have hz3 := hk3.size
            have hRV := hTV.ref.box.lt
            have hu3' : KeysW (FromK V.heap.size) w4 a G.2 := (KeysW.below hu3 hV2).keep (hk4.mono fun j _ hj => by have h1 : V.heap.size ≤ j := hj; show j ≠ R; omega)
            refine ⟨c, rfl, fun V hV => HCC.out V (hT4.below hV).bel, fun V3 hV3 => ?_⟩
            rw [hG] at hks
            refine (same_any G.2 G.2 a c V3 (hu3'.below hV3) (hu4.below hV3) (by omega) (by omega)).mono ?_
            rintro e w5 ⟨rfl, hb5⟩
            have hT5 := (hT4.below hV3).below hb5
            refine ⟨by rw [decide_eq_true rfl], fun V hV => HCC.out V (hT5.below hV).bel, fun V4 hV4 => ?_⟩
            have hT6 := hT5.below hV4
            exact ⟨⟨hT6.ref.box.cells.1.1, hT6.ref.box.cells.1.2.1⟩, ⟨v3, u4, hT6⟩, kwaiting_any w0.heap.size V4 D v3 Q hT6.dec⟩
          have HQ : Hid (OkT Q (300 * i + (k + 1))) := by
            rw [hG, hQ] at hok2 hsz2
            exact ⟨hok2, by omega⟩
          have hwr := waits_ref Q
          obtain ⟨P1, hP1⟩ : ∃ P1, isP Q = P1 := ⟨_, rfl⟩
          obtain ⟨X0, hX0⟩ : ∃ X0, heldS Q = X0 := ⟨_, rfl⟩
          obtain ⟨WQ, hWQ⟩ : ∃ WQ, waitsK Q = WQ := ⟨_, rfl⟩
          rw [hP1, hX0, hWQ] at L1
          rw [hP1, hX0, hWQ] at hwr
          clear hT hOk hSz hks hok2 hsz2 hG hQ hP1 hX0 hWQ HJ hb
          have HWQ := Lib.hid hwr
          clear hwr
          go_wp2_with fail
          refine wp_region_held_drew (S := (fun V => V.cell? ⟨g, o + i * 2, none⟩ = some (.string s))) (by kernel_rfl) x0d (fun hHeld => ?_)
          refine wpAnyH_take (i := 0) (oi := { dst := some 29, op := Op.move (Operand.tmp 3), type := 25, pos := _, after := #[], guard := none }) (v := ?v0) rfl (by kernel_rfl) (by kernel_rfl) (by kernel_rfl) (fun _ _ _ h => h) (Or.inl ⟨by rfl, ?h0⟩) (by assumption) ?r0
          case h0 => (intro w hSw; (try dsimp only at hSw); go_simp; (try with_reducible rfl))
          case r0 =>
            (try simp only [Act.put, List.setIfInBounds_toArray, List.set_cons_zero, List.set_cons_succ])
            refine wpAnyH_take (i := 1) (oi := { dst := some 30, op := Op.move (Operand.tmp 0), type := 22, pos := _, after := #[], guard := none }) (v := ?v1) rfl (by kernel_rfl) (by kernel_rfl) (by kernel_rfl) (fun _ _ _ h => h) (Or.inl ⟨by rfl, ?h1⟩) (by assumption) ?r1
            case h1 => (intro w hSw; (try dsimp only at hSw); go_simp; (try with_reducible rfl))
            case r1 =>
              (try simp only [Act.put, List.setIfInBounds_toArray, List.set_cons_zero, List.set_cons_succ])
              refine wpAnyH_take (i := 2) (oi := { dst := some 31, op := Op.move (Operand.tmp 5), type := 3, pos := _, after := #[], guard := none }) (v := ?v2) rfl (by kernel_rfl) (by kernel_rfl) (by kernel_rfl) (fun _ _ _ h => h) (Or.inl ⟨by rfl, ?h2⟩) (by assumption) ?r2
              case h2 => (intro w hSw; (try dsimp only at hSw); go_simp; (try with_reducible rfl))
              case r2 =>
                (try simp only [Act.put, List.setIfInBounds_toArray, List.set_cons_zero, List.set_cons_succ])
                refine wpAnyH_take (i := 3) (oi := { dst := some 32, op := Op.indexAddr 22 (Operand.tmp 30) (Operand.tmp 31), type := 0, pos := _, after := #[{ on := 1, ground := Ground.data }, { on := 2, ground := Ground.data }], guard := none }) (v := ?v3) rfl (by kernel_rfl) (by kernel_rfl) (by kernel_rfl) (fun _ _ _ h => h) (Or.inl ⟨by rfl, ?h3⟩) (by assumption) ?r3
                case h3 => (intro w hSw; (try dsimp only at hSw); go_simp; (try with_reducible rfl))
                case r3 =>
                  (try simp only [Act.put, List.setIfInBounds_toArray, List.set_cons_zero, List.set_cons_succ])
                  refine wpAnyH_take (i := 4) (oi := { dst := some 33, op := Op.fieldAddr 32 (Operand.tmp 32) 0, type := 0, pos := _, after := #[{ on := 3, ground := Ground.data }], guard := none }) (v := ?v4) rfl (by kernel_rfl) (by kernel_rfl) (by kernel_rfl) (fun _ _ _ h => h) (Or.inl ⟨by rfl, ?h4⟩) (by assumption) ?r4
                  case h4 => (intro w hSw; (try dsimp only at hSw); go_simp; (try with_reducible rfl))
                  case r4 =>
                    (try simp only [Act.put, List.setIfInBounds_toArray, List.set_cons_zero, List.set_cons_succ])
                    refine wpAnyH_take (i := 5) (oi := { dst := some 34, op := Op.load 9 (Operand.tmp 33), type := 9, pos := _, after := #[{ on := 4, ground := Ground.data }], guard := none }) (v := ?v5) rfl (by kernel_rfl) (by kernel_rfl) (by kernel_rfl) (fun _ _ _ h => h) (Or.inl ⟨by rfl, ?h5⟩) (by assumption) ?r5
                    case h5 => (intro w hSw; (try dsimp only at hSw); go_simp; (try with_reducible rfl))
                    case r5 =>
                      (try simp only [Act.put, List.setIfInBounds_toArray, List.set_cons_zero, List.set_cons_succ])
                      refine wpAnyH_take (i := 6) (oi := { dst := some 35, op := Op.move (Operand.tmp 6), type := 3, pos := _, after := #[], guard := none }) (v := ?v6) rfl (by kernel_rfl) (by kernel_rfl) (by kernel_rfl) (fun _ _ _ h => h) (Or.inl ⟨by rfl, ?h6⟩) (by assumption) ?r6
                      case h6 => (intro w hSw; (try dsimp only at hSw); go_simp; (try with_reducible rfl))
                      case r6 =>
                        (try simp only [Act.put, List.setIfInBounds_toArray, List.set_cons_zero, List.set_cons_succ])
                        refine wpAnyH_take (i := 7) (oi := { dst := some 36, op := Op.index 9 (Operand.tmp 34) (Operand.tmp 35), type := 5, pos := _, after := #[{ on := 5, ground := Ground.data }, { on := 6, ground := Ground.data }], guard := none }) (v := ?v7) rfl (by kernel_rfl) (by kernel_rfl) (by kernel_rfl) (fun _ _ _ h => h) (Or.inl ⟨by rfl, ?h7⟩) (by assumption) ?r7
                        case h7 => (intro w hSw; (try dsimp only at hSw); go_simp; (try with_reducible rfl))
                        case r7 =>
                          (try simp only [Act.put, List.setIfInBounds_toArray, List.set_cons_zero, List.set_cons_succ])
                          refine wpAnyH_take (i := 9) (oi := { dst := some 38, op := Op.move (Operand.tmp 4), type := 27, pos := _, after := #[], guard := none }) (v := ?v8) rfl (by kernel_rfl) (by kernel_rfl) (by kernel_rfl) (fun _ _ _ h => h) (Or.inl ⟨by rfl, ?h8⟩) (by assumption) ?r8
                          case h8 => (intro w hSw; (try dsimp only at hSw); go_simp; (try with_reducible rfl))
                          case r8 =>
                            (try simp only [Act.put, List.setIfInBounds_toArray, List.set_cons_zero, List.set_cons_succ])
                            refine wpAnyH_take (i := 10) (oi := { dst := some 39, op := Op.move (Operand.tmp 0), type := 22, pos := _, after := #[], guard := none }) (v := ?v9) rfl (by kernel_rfl) (by kernel_rfl) (by kernel_rfl) (fun _ _ _ h => h) (Or.inl ⟨by rfl, ?h9⟩) (by assumption) ?r9
                            case h9 => (intro w hSw; (try dsimp only at hSw); go_simp; (try with_reducible rfl))
                            case r9 =>
                              (try simp only [Act.put, List.setIfInBounds_toArray, List.set_cons_zero, List.set_cons_succ])
                              refine wpAnyH_take (i := 11) (oi := { dst := some 40, op := Op.move (Operand.tmp 5), type := 3, pos := _, after := #[], guard := none }) (v := ?v10) rfl (by kernel_rfl) (by kernel_rfl) (by kernel_rfl) (fun _ _ _ h => h) (Or.inl ⟨by rfl, ?h10⟩) (by assumption) ?r10
                              case h10 => (intro w hSw; (try dsimp only at hSw); go_simp; (try with_reducible rfl))
                              case r10 =>
                                (try simp only [Act.put, List.setIfInBounds_toArray, List.set_cons_zero, List.set_cons_succ])
                                refine wpAnyH_take (i := 12) (oi := { dst := some 41, op := Op.indexAddr 22 (Operand.tmp 39) (Operand.tmp 40), type := 0, pos := _, after := #[{ on := 10, ground := Ground.data }, { on := 11, ground := Ground.data }], guard := none }) (v := ?v11) rfl (by kernel_rfl) (by kernel_rfl) (by kernel_rfl) (fun _ _ _ h => h) (Or.inl ⟨by rfl, ?h11⟩) (by assumption) ?r11
                                case h11 => (intro w hSw; (try dsimp only at hSw); go_simp; (try with_reducible rfl))
                                case r11 =>
                                  (try simp only [Act.put, List.setIfInBounds_toArray, List.set_cons_zero, List.set_cons_succ])
                                  refine wpAnyH_take (i := 13) (oi := { dst := some 42, op := Op.fieldAddr 32 (Operand.tmp 41) 0, type := 0, pos := _, after := #[{ on := 12, ground := Ground.data }], guard := none }) (v := ?v12) rfl (by kernel_rfl) (by kernel_rfl) (by kernel_rfl) (fun _ _ _ h => h) (Or.inl ⟨by rfl, ?h12⟩) (by assumption) ?r12
                                  case h12 => (intro w hSw; (try dsimp only at hSw); go_simp; (try with_reducible rfl))
                                  case r12 =>
                                    (try simp only [Act.put, List.setIfInBounds_toArray, List.set_cons_zero, List.set_cons_succ])
                                    refine wpAnyH_take (i := 14) (oi := { dst := some 43, op := Op.load 9 (Operand.tmp 42), type := 9, pos := _, after := #[{ on := 13, ground := Ground.data }], guard := none }) (v := ?v13) rfl (by kernel_rfl) (by kernel_rfl) (by kernel_rfl) (fun _ _ _ h => h) (Or.inl ⟨by rfl, ?h13⟩) (by assumption) ?r13
                                    case h13 => (intro w hSw; (try dsimp only at hSw); go_simp; (try with_reducible rfl))
                                    case r13 =>
                                      (try simp only [Act.put, List.setIfInBounds_toArray, List.set_cons_zero, List.set_cons_succ])
                                      refine wpAnyH_take (i := 15) (oi := { dst := some 44, op := Op.move (Operand.tmp 6), type := 3, pos := _, after := #[], guard := none }) (v := ?v14) rfl (by kernel_rfl) (by kernel_rfl) (by kernel_rfl) (fun _ _ _ h => h) (Or.inl ⟨by rfl, ?h14⟩) (by assumption) ?r14
                                      case h14 => (intro w hSw; (try dsimp only at hSw); go_simp; (try with_reducible rfl))
                                      case r14 =>
                                        (try simp only [Act.put, List.setIfInBounds_toArray, List.set_cons_zero, List.set_cons_succ])
                                        refine wpAnyH_take (i := 16) (oi := { dst := some 45, op := Op.index 9 (Operand.tmp 43) (Operand.tmp 44), type := 5, pos := _, after := #[{ on := 14, ground := Ground.data }, { on := 15, ground := Ground.data }], guard := none }) (v := ?v15) rfl (by kernel_rfl) (by kernel_rfl) (by kernel_rfl) (fun _ _ _ h => h) (Or.inl ⟨by rfl, ?h15⟩) (by assumption) ?r15
                                        case h15 => (intro w hSw; (try dsimp only at hSw); go_simp; (try with_reducible rfl))
                                        case r15 =>
                                          (try simp only [Act.put, List.setIfInBounds_toArray, List.set_cons_zero, List.set_cons_succ])
                                          refine wpAnyH_ready (rs := [8]) (by kernel_rfl) (by simp) ?_
                                          refine AllReadyH.cons (o := { dst := some 37, op := Op.call { callee := Callee.value (Operand.func 13), args := #[Operand.tmp 29, Operand.tmp 36], argTypes := #[25, 5] }, type := 34, pos := _, after := #[{ on := 0, ground := Ground.data }, { on := 7, ground := Ground.data }], guard := none }) rfl (fun K hK => ?_) AllReadyH.nil
                                          go_simp
                                          go_at_call 13
                                          go_fit (L1.out _ ?_)
                                          (first | exact Below.refl _ _ | exact (Below.refl _ _).drew)
                                          rintro e w3 ⟨a, rfl, I3, L2⟩
                                          (try go_wp2_with fail)
                                          refine hK.out _ _ (I3.out w3 (Below.refl _ _)) (fun hHeld => ?_)
                                          clear hK K
                                          (try simp only [Act.put, List.setIfInBounds_toArray, List.set_cons_zero, List.set_cons_succ])
                                          refine wpAnyH_ready (rs := [17]) (by kernel_rfl) (by simp) ?_
                                          refine AllReadyH.cons (o := { dst := some 46, op := Op.call { callee := Callee.value (Operand.func 14), args := #[Operand.tmp 38, Operand.tmp 45], argTypes := #[27, 5] }, type := 34, pos := _, after := #[{ on := 9, ground := Ground.data }, { on := 16, ground := Ground.data }, { on := 8, ground := Ground.chain }], guard := none }) rfl (fun K hK => ?_) AllReadyH.nil
                                          go_simp
                                          go_at_call 14
                                          go_fit (L2.out _ ?_)
                                          (first | exact Below.refl _ _ | exact (Below.refl _ _).drew)
                                          rintro e w4 ⟨c, rfl, I4, L3⟩
                                          (try go_wp2_with fail)
                                          refine hK.out _ _ (I4.out w4 (Below.refl _ _)) (fun hHeld => ?_)
                                          clear hK K
                                          (try simp only [Act.put, List.setIfInBounds_toArray, List.set_cons_zero, List.set_cons_succ])
                                          refine wpAnyH_ready (rs := [18]) (by kernel_rfl) (by simp) ?_
                                          refine AllReadyH.cons (o := { dst := some 47, op := Op.call { callee := Callee.value (Operand.func 12), args := #[Operand.tmp 37, Operand.tmp 46], argTypes := #[34, 34] }, type := 4, pos := _, after := #[{ on := 8, ground := Ground.data }, { on := 17, ground := Ground.data }, { on := 17, ground := Ground.chain }], guard := none }) rfl (fun K hK => ?_) AllReadyH.nil
                                          go_simp
                                          go_at_call 12
                                          go_fit (L3.out _ ?_)
                                          (first | exact Below.refl _ _ | exact (Below.refl _ _).drew)
                                          rintro e w5 ⟨rfl, I5, L4⟩
                                          (try go_wp2_with fail)
                                          refine hK.out _ _ (I5.out w5 (Below.refl _ _)) (fun hHeld => ?_)
                                          clear hK K
                                          (try simp only [Act.put, List.setIfInBounds_toArray, List.set_cons_zero, List.set_cons_succ])
                                          refine wpAnyH_take (i := 19) (oi := { dst := some 48, op := Op.unOp UnOp.not 4 (Operand.tmp 47), type := 4, pos := _, after := #[{ on := 18, ground := Ground.data }], guard := none }) (v := ?v16) rfl (by kernel_rfl) (by kernel_rfl) (by kernel_rfl) (fun _ _ _ h => h) (Or.inl ⟨by rfl, ?h16⟩) (by assumption) ?r16
                                          case h16 => (intro w hSw; (try dsimp only at hSw); go_simp; (try with_reducible rfl))
                                          case r16 =>
                                            (try simp only [Act.put, List.setIfInBounds_toArray, List.set_cons_zero, List.set_cons_succ])
                                            refine wpAnyH_take (i := 20) (oi := { dst := some 49, op := Op.move (Operand.tmp 48), type := 4, pos := _, after := #[{ on := 19, ground := Ground.data }, { on := 18, ground := Ground.chain }], guard := none }) (v := ?v17) rfl (by kernel_rfl) (by kernel_rfl) (by kernel_rfl) (fun _ _ _ h => h) (Or.inl ⟨by rfl, ?h17⟩) (by assumption) ?r17
                                            case h17 => (intro w hSw; (try dsimp only at hSw); go_simp; (try with_reducible rfl))
                                            case r17 =>
                                              (try simp only [Act.put, List.setIfInBounds_toArray, List.set_cons_zero, List.set_cons_succ])
                                              obtain ⟨⟨r0, r1⟩, HT9, L5⟩ := L4.out _ (Below.refl _ _)
                                              clear L1 L2 L3 L4 I3 I4 I5
                                              refine wpAnyH_mono (S := (fun V => V.cell? ⟨g, o + i * 2, none⟩ = some (.string s) ∧ V.cell? ⟨R, 0, none⟩ = some (.string X0) ∧ V.cell? ⟨R, 1, none⟩ = some (.bool P1))) (fun w h => h.1) _ _ _ _ ?_
                                              have hHeld2 : (fun V => V.cell? ⟨g, o + i * 2, none⟩ = some (.string s) ∧ V.cell? ⟨R, 0, none⟩ = some (.string X0) ∧ V.cell? ⟨R, 1, none⟩ = some (.bool P1)) w5 := ⟨hHeld, r0, r1⟩
                                              clear hHeld
                                              cases P1 with
                                              | true =>
                                                have hW : WQ = true := HWQ.out.symm
                                                subst hW
                                                clear HWQ
                                                refine wpAnyH_take (i := 21) (oi := { dst := some 50, op := Op.move (Operand.tmp 3), type := 25, pos := _, after := #[{ on := 20, ground := Ground.guard }], guard := some (20, false) }) (v := ?v18) rfl (by kernel_rfl) (by kernel_rfl) (by kernel_rfl) (fun _ _ _ h => h) (Or.inl ⟨by rfl, ?h18⟩) (by assumption) ?r18
                                                case h18 => (intro w hSw; (try dsimp only at hSw); go_simp; (try with_reducible rfl))
                                                case r18 =>
                                                  (try simp only [Act.put, List.setIfInBounds_toArray, List.set_cons_zero, List.set_cons_succ])
                                                  refine wpAnyH_take (i := 23) (oi := { dst := some 52, op := Op.move (Operand.tmp 4), type := 27, pos := _, after := #[{ on := 20, ground := Ground.guard }], guard := some (20, false) }) (v := ?v19) rfl (by kernel_rfl) (by kernel_rfl) (by kernel_rfl) (fun _ _ _ h => h) (Or.inl ⟨by rfl, ?h19⟩) (by assumption) ?r19
                                                  case h19 => (intro w hSw; (try dsimp only at hSw); go_simp; (try with_reducible rfl))
                                                  case r19 =>
                                                    (try simp only [Act.put, List.setIfInBounds_toArray, List.set_cons_zero, List.set_cons_succ])
                                                    refine wpAnyH_take (i := 24) (oi := { dst := some 53, op := Op.nilCheck (Operand.tmp 52), type := 0, pos := _, after := #[{ on := 23, ground := Ground.data }, { on := 20, ground := Ground.guard }], guard := some (20, false) }) (v := ?v20) rfl (by kernel_rfl) (by kernel_rfl) (by kernel_rfl) (fun _ _ _ h => h) (Or.inl ⟨by rfl, ?h20⟩) (by assumption) ?r20
                                                    case h20 => (intro w hSw; (try dsimp only at hSw); go_simp; (try with_reducible rfl))
                                                    case r20 =>
                                                      (try simp only [Act.put, List.setIfInBounds_toArray, List.set_cons_zero, List.set_cons_succ])
                                                      refine wpAnyH_take (i := 25) (oi := { dst := some 54, op := Op.fieldAddr 30 (Operand.tmp 53) 1, type := 0, pos := _, after := #[{ on := 24, ground := Ground.data }, { on := 20, ground := Ground.guard }], guard := some (20, false) }) (v := ?v21) rfl (by kernel_rfl) (by kernel_rfl) (by kernel_rfl) (fun _ _ _ h => h) (Or.inl ⟨by rfl, ?h21⟩) (by assumption) ?r21
                                                      case h21 => (intro w hSw; (try dsimp only at hSw); go_simp; (try with_reducible rfl))
                                                      case r21 =>
                                                        (try simp only [Act.put, List.setIfInBounds_toArray, List.set_cons_zero, List.set_cons_succ])
                                                        refine wpAnyH_take (i := 26) (oi := { dst := some 55, op := Op.load 4 (Operand.tmp 54), type := 4, pos := _, after := #[{ on := 25, ground := Ground.data }, { on := 20, ground := Ground.guard }], guard := some (20, false) }) (v := ?v22) rfl (by kernel_rfl) (by kernel_rfl) (by kernel_rfl) (fun _ _ _ h => h) (Or.inl ⟨by rfl, ?h22⟩) (by assumption) ?r22
                                                        case h22 => (intro w hSw; (try dsimp only at hSw); go_simp; (try with_reducible rfl))
                                                        case r22 =>
                                                          (try simp only [Act.put, List.setIfInBounds_toArray, List.set_cons_zero, List.set_cons_succ])
                                                          refine wpAnyH_ready (rs := [22]) (by kernel_rfl) (by simp) ?_
                                                          refine AllReadyH.cons (o := { dst := some 51, op := Op.call { callee := Callee.value (Operand.func 15), args := #[Operand.tmp 50], argTypes := #[25] }, type := 4, pos := _, after := #[{ on := 21, ground := Ground.data }, { on := 20, ground := Ground.chain }, { on := 20, ground := Ground.guard }], guard := some (20, false) }) rfl (fun K hK => ?_) AllReadyH.nil
                                                          go_simp
                                                          go_at_call 15
                                                          go_fit L5.out
                                                          rintro e w6 ⟨rfl, rfl⟩
                                                          (try go_wp2_with fail)
                                                          refine hK.out _ _ hHeld2 (fun hHeld => ?_)
                                                          clear hK K
                                                          (try simp only [Act.put, List.setIfInBounds_toArray, List.set_cons_zero, List.set_cons_succ])
                                                          refine wpAnyH_take (i := 27) (oi := { dst := some 56, op := Op.move (Operand.tmp 55), type := 4, pos := _, after := #[{ on := 26, ground := Ground.data }, { on := 22, ground := Ground.chain }, { on := 20, ground := Ground.guard }], guard := some (20, false) }) (v := ?v23) rfl (by kernel_rfl) (by kernel_rfl) (by kernel_rfl) (fun _ _ _ h => h) (Or.inl ⟨by rfl, ?h23⟩) (by assumption) ?r23
                                                          case h23 => (intro w hSw; (try dsimp only at hSw); go_simp; (try with_reducible rfl))
                                                          case r23 =>
                                                            (try simp only [Act.put, List.setIfInBounds_toArray, List.set_cons_zero, List.set_cons_succ])
                                                            refine wpAnyH_take (i := 28) (oi := { dst := some 57, op := Op.move (Operand.tmp 4), type := 27, pos := _, after := #[{ on := 27, ground := Ground.guard }], guard := some (27, false) }) (v := undef) rfl (by kernel_rfl) (by kernel_rfl) (by kernel_rfl) (fun _ _ _ h => h) (Or.inr ⟨by rfl, rfl⟩) (by assumption) ?_
                                                            (try simp only [Act.put, List.setIfInBounds_toArray, List.set_cons_zero, List.set_cons_succ])
                                                            refine wpAnyH_take (i := 29) (oi := { dst := some 58, op := Op.nilCheck (Operand.tmp 57), type := 0, pos := _, after := #[{ on := 28, ground := Ground.data }, { on := 27, ground := Ground.guard }], guard := some (27, false) }) (v := undef) rfl (by kernel_rfl) (by kernel_rfl) (by kernel_rfl) (fun _ _ _ h => h) (Or.inr ⟨by rfl, rfl⟩) (by assumption) ?_
                                                            (try simp only [Act.put, List.setIfInBounds_toArray, List.set_cons_zero, List.set_cons_succ])
                                                            refine wpAnyH_take (i := 30) (oi := { dst := some 59, op := Op.fieldAddr 30 (Operand.tmp 58) 0, type := 0, pos := _, after := #[{ on := 29, ground := Ground.data }, { on := 27, ground := Ground.guard }], guard := some (27, false) }) (v := undef) rfl (by kernel_rfl) (by kernel_rfl) (by kernel_rfl) (fun _ _ _ h => h) (Or.inr ⟨by rfl, rfl⟩) (by assumption) ?_
                                                            (try simp only [Act.put, List.setIfInBounds_toArray, List.set_cons_zero, List.set_cons_succ])
                                                            refine wpAnyH_take (i := 31) (oi := { dst := some 60, op := Op.load 9 (Operand.tmp 59), type := 9, pos := _, after := #[{ on := 30, ground := Ground.data }, { on := 27, ground := Ground.guard }], guard := some (27, false) }) (v := undef) rfl (by kernel_rfl) (by kernel_rfl) (by kernel_rfl) (fun _ _ _ h => h) (Or.inr ⟨by rfl, rfl⟩) (by assumption) ?_
                                                            (try simp only [Act.put, List.setIfInBounds_toArray, List.set_cons_zero, List.set_cons_succ])
                                                            refine wpAnyH_take (i := 32) (oi := { dst := some 61, op := Op.binOp BinOp.neq 9 (Operand.tmp 60) (Operand.const (Value.string { data := #[] })) 9, type := 4, pos := _, after := #[{ on := 31, ground := Ground.data }, { on := 27, ground := Ground.guard }], guard := some (27, false) }) (v := undef) rfl (by kernel_rfl) (by kernel_rfl) (by kernel_rfl) (fun _ _ _ h => h) (Or.inr ⟨by rfl, rfl⟩) (by assumption) ?_
                                                            (try simp only [Act.put, List.setIfInBounds_toArray, List.set_cons_zero, List.set_cons_succ])
                                                            refine wpAnyH_take (i := 33) (oi := { dst := some 62, op := Op.pick (Operand.tmp 56) (Operand.const (Value.bool true)) (Operand.tmp 61), type := 4, pos := _, after := #[{ on := 27, ground := Ground.data }, { on := 32, ground := Ground.data }, { on := 20, ground := Ground.guard }], guard := some (20, false) }) (v := ?v24) rfl (by kernel_rfl) (by kernel_rfl) (by kernel_rfl) (fun _ _ _ h => h) (Or.inl ⟨by rfl, ?h24⟩) (by assumption) ?r24
                                                            case h24 => (intro w hSw; (try dsimp only at hSw); go_simp; (try with_reducible rfl))
                                                            case r24 =>
                                                              (try simp only [Act.put, List.setIfInBounds_toArray, List.set_cons_zero, List.set_cons_succ])
                                                              refine wpAnyH_take (i := 34) (oi := { dst := some 63, op := Op.binOp BinOp.neq 4 (Operand.tmp 51) (Operand.tmp 62) 4, type := 4, pos := _, after := #[{ on := 22, ground := Ground.data }, { on := 33, ground := Ground.data }, { on := 20, ground := Ground.guard }], guard := some (20, false) }) (v := ?v25) rfl (by kernel_rfl) (by kernel_rfl) (by kernel_rfl) (fun _ _ _ h => h) (Or.inl ⟨by rfl, ?h25⟩) (by assumption) ?r25
                                                              case h25 => (intro w hSw; (try dsimp only at hSw); go_simp; (try with_reducible rfl))
                                                              case r25 =>
                                                                (try simp only [Act.put, List.setIfInBounds_toArray, List.set_cons_zero, List.set_cons_succ])
                                                                refine wpAnyH_take (i := 35) (oi := { dst := some 64, op := Op.pick (Operand.tmp 49) (Operand.const (Value.bool true)) (Operand.tmp 63), type := 4, pos := _, after := #[{ on := 20, ground := Ground.data }, { on := 34, ground := Ground.data }], guard := none }) (v := ?v26) rfl (by kernel_rfl) (by kernel_rfl) (by kernel_rfl) (fun _ _ _ h => h) (Or.inl ⟨by rfl, ?h26⟩) (by assumption) ?r26
                                                                case h26 => (intro w hSw; (try dsimp only at hSw); go_simp; (try with_reducible rfl))
                                                                case r26 =>
                                                                  (try simp only [Act.put, List.setIfInBounds_toArray, List.set_cons_zero, List.set_cons_succ])
                                                                  refine wpAnyH_done (by kernel_rfl) ?_ _
                                                                  go_wp2_with fail
                                                                  go_roundw
                                                                  case rel => (obtain ⟨v9, u9, hT9⟩ := HT9.out; exact ⟨k + 1, by go_num, hkl, ⟨v9, u9, Q, hT9, HQ.out⟩⟩)
                                                                  case measure => (simp [intOf]; omega)
                                              | false =>
                                                cases hx : (X0.toList == []) with
                                                | true =>
                                                  have hW : WQ = false := by have h1 := HWQ.out; rw [hx] at h1; exact h1.symm
                                                  subst hW
                                                  clear HWQ
                                                  refine wpAnyH_take (i := 21) (oi := { dst := some 50, op := Op.move (Operand.tmp 3), type := 25, pos := _, after := #[{ on := 20, ground := Ground.guard }], guard := some (20, false) }) (v := ?v27) rfl (by kernel_rfl) (by kernel_rfl) (by kernel_rfl) (fun _ _ _ h => h) (Or.inl ⟨by rfl, ?h27⟩) (by assumption) ?r27
                                                  case h27 => (intro w hSw; (try dsimp only at hSw); go_simp; (try with_reducible rfl))
                                                  case r27 =>
                                                    (try simp only [Act.put, List.setIfInBounds_toArray, List.set_cons_zero, List.set_cons_succ])
                                                    refine wpAnyH_take (i := 23) (oi := { dst := some 52, op := Op.move (Operand.tmp 4), type := 27, pos := _, after := #[{ on := 20, ground := Ground.guard }], guard := some (20, false) }) (v := ?v28) rfl (by kernel_rfl) (by kernel_rfl) (by kernel_rfl) (fun _ _ _ h => h) (Or.inl ⟨by rfl, ?h28⟩) (by assumption) ?r28
                                                    case h28 => (intro w hSw; (try dsimp only at hSw); go_simp; (try with_reducible rfl))
                                                    case r28 =>
                                                      (try simp only [Act.put, List.setIfInBounds_toArray, List.set_cons_zero, List.set_cons_succ])
                                                      refine wpAnyH_take (i := 24) (oi := { dst := some 53, op := Op.nilCheck (Operand.tmp 52), type := 0, pos := _, after := #[{ on := 23, ground := Ground.data }, { on := 20, ground := Ground.guard }], guard := some (20, false) }) (v := ?v29) rfl (by kernel_rfl) (by kernel_rfl) (by kernel_rfl) (fun _ _ _ h => h) (Or.inl ⟨by rfl, ?h29⟩) (by assumption) ?r29
                                                      case h29 => (intro w hSw; (try dsimp only at hSw); go_simp; (try with_reducible rfl))
                                                      case r29 =>
                                                        (try simp only [Act.put, List.setIfInBounds_toArray, List.set_cons_zero, List.set_cons_succ])
                                                        refine wpAnyH_take (i := 25) (oi := { dst := some 54, op := Op.fieldAddr 30 (Operand.tmp 53) 1, type := 0, pos := _, after := #[{ on := 24, ground := Ground.data }, { on := 20, ground := Ground.guard }], guard := some (20, false) }) (v := ?v30) rfl (by kernel_rfl) (by kernel_rfl) (by kernel_rfl) (fun _ _ _ h => h) (Or.inl ⟨by rfl, ?h30⟩) (by assumption) ?r30
                                                        case h30 => (intro w hSw; (try dsimp only at hSw); go_simp; (try with_reducible rfl))
                                                        case r30 =>
                                                          (try simp only [Act.put, List.setIfInBounds_toArray, List.set_cons_zero, List.set_cons_succ])
                                                          refine wpAnyH_take (i := 26) (oi := { dst := some 55, op := Op.load 4 (Operand.tmp 54), type := 4, pos := _, after := #[{ on := 25, ground := Ground.data }, { on := 20, ground := Ground.guard }], guard := some (20, false) }) (v := ?v31) rfl (by kernel_rfl) (by kernel_rfl) (by kernel_rfl) (fun _ _ _ h => h) (Or.inl ⟨by rfl, ?h31⟩) (by assumption) ?r31
                                                          case h31 => (intro w hSw; (try dsimp only at hSw); go_simp; (try with_reducible rfl))
                                                          case r31 =>
                                                            (try simp only [Act.put, List.setIfInBounds_toArray, List.set_cons_zero, List.set_cons_succ])
                                                            refine wpAnyH_ready (rs := [22]) (by kernel_rfl) (by simp) ?_
                                                            refine AllReadyH.cons (o := { dst := some 51, op := Op.call { callee := Callee.value (Operand.func 15), args := #[Operand.tmp 50], argTypes := #[25] }, type := 4, pos := _, after := #[{ on := 21, ground := Ground.data }, { on := 20, ground := Ground.chain }, { on := 20, ground := Ground.guard }], guard := some (20, false) }) rfl (fun K hK => ?_) AllReadyH.nil
                                                            go_simp
                                                            go_at_call 15
                                                            go_fit L5.out
                                                            rintro e w6 ⟨rfl, rfl⟩
                                                            (try go_wp2_with fail)
                                                            refine hK.out _ _ hHeld2 (fun hHeld => ?_)
                                                            clear hK K
                                                            (try simp only [Act.put, List.setIfInBounds_toArray, List.set_cons_zero, List.set_cons_succ])
                                                            refine wpAnyH_take (i := 27) (oi := { dst := some 56, op := Op.move (Operand.tmp 55), type := 4, pos := _, after := #[{ on := 26, ground := Ground.data }, { on := 22, ground := Ground.chain }, { on := 20, ground := Ground.guard }], guard := some (20, false) }) (v := ?v32) rfl (by kernel_rfl) (by kernel_rfl) (by kernel_rfl) (fun _ _ _ h => h) (Or.inl ⟨by rfl, ?h32⟩) (by assumption) ?r32
                                                            case h32 => (intro w hSw; (try dsimp only at hSw); go_simp; (try with_reducible rfl))
                                                            case r32 =>
                                                              (try simp only [Act.put, List.setIfInBounds_toArray, List.set_cons_zero, List.set_cons_succ])
                                                              refine wpAnyH_take (i := 28) (oi := { dst := some 57, op := Op.move (Operand.tmp 4), type := 27, pos := _, after := #[{ on := 27, ground := Ground.guard }], guard := some (27, false) }) (v := ?v33) rfl (by kernel_rfl) (by kernel_rfl) (by kernel_rfl) (fun _ _ _ h => h) (Or.inl ⟨by rfl, ?h33⟩) (by assumption) ?r33
                                                              case h33 => (intro w hSw; (try dsimp only at hSw); go_simp; (try with_reducible rfl))
                                                              case r33 =>
                                                                (try simp only [Act.put, List.setIfInBounds_toArray, List.set_cons_zero, List.set_cons_succ])
                                                                refine wpAnyH_take (i := 29) (oi := { dst := some 58, op := Op.nilCheck (Operand.tmp 57), type := 0, pos := _, after := #[{ on := 28, ground := Ground.data }, { on := 27, ground := Ground.guard }], guard := some (27, false) }) (v := ?v34) rfl (by kernel_rfl) (by kernel_rfl) (by kernel_rfl) (fun _ _ _ h => h) (Or.inl ⟨by rfl, ?h34⟩) (by assumption) ?r34
                                                                case h34 => (intro w hSw; (try dsimp only at hSw); go_simp; (try with_reducible rfl))
                                                                case r34 =>
                                                                  (try simp only [Act.put, List.setIfInBounds_toArray, List.set_cons_zero, List.set_cons_succ])
                                                                  refine wpAnyH_take (i := 30) (oi := { dst := some 59, op := Op.fieldAddr 30 (Operand.tmp 58) 0, type := 0, pos := _, after := #[{ on := 29, ground := Ground.data }, { on := 27, ground := Ground.guard }], guard := some (27, false) }) (v := ?v35) rfl (by kernel_rfl) (by kernel_rfl) (by kernel_rfl) (fun _ _ _ h => h) (Or.inl ⟨by rfl, ?h35⟩) (by assumption) ?r35
                                                                  case h35 => (intro w hSw; (try dsimp only at hSw); go_simp; (try with_reducible rfl))
                                                                  case r35 =>
                                                                    (try simp only [Act.put, List.setIfInBounds_toArray, List.set_cons_zero, List.set_cons_succ])
                                                                    refine wpAnyH_take (i := 31) (oi := { dst := some 60, op := Op.load 9 (Operand.tmp 59), type := 9, pos := _, after := #[{ on := 30, ground := Ground.data }, { on := 27, ground := Ground.guard }], guard := some (27, false) }) (v := ?v36) rfl (by kernel_rfl) (by kernel_rfl) (by kernel_rfl) (fun _ _ _ h => h) (Or.inl ⟨by rfl, ?h36⟩) (by assumption) ?r36
                                                                    case h36 => (intro w hSw; (try dsimp only at hSw); go_simp; (try with_reducible rfl))
                                                                    case r36 =>
                                                                      (try simp only [Act.put, List.setIfInBounds_toArray, List.set_cons_zero, List.set_cons_succ])
                                                                      refine wpAnyH_take (i := 32) (oi := { dst := some 61, op := Op.binOp BinOp.neq 9 (Operand.tmp 60) (Operand.const (Value.string { data := #[] })) 9, type := 4, pos := _, after := #[{ on := 31, ground := Ground.data }, { on := 27, ground := Ground.guard }], guard := some (27, false) }) (v := ?v37) rfl (by kernel_rfl) (by kernel_rfl) (by kernel_rfl) (fun _ _ _ h => h) (Or.inl ⟨by rfl, ?h37⟩) (by assumption) ?r37
                                                                      case h37 => (intro w hSw; (try dsimp only at hSw); go_simp; (try with_reducible rfl))
                                                                      case r37 =>
                                                                        (try simp only [Act.put, List.setIfInBounds_toArray, List.set_cons_zero, List.set_cons_succ])
                                                                        refine wpAnyH_take (i := 33) (oi := { dst := some 62, op := Op.pick (Operand.tmp 56) (Operand.const (Value.bool true)) (Operand.tmp 61), type := 4, pos := _, after := #[{ on := 27, ground := Ground.data }, { on := 32, ground := Ground.data }, { on := 20, ground := Ground.guard }], guard := some (20, false) }) (v := ?v38) rfl (by kernel_rfl) (by kernel_rfl) (by kernel_rfl) (fun _ _ _ h => h) (Or.inl ⟨by rfl, ?h38⟩) (by assumption) ?r38
                                                                        case h38 => (intro w hSw; (try dsimp only at hSw); go_simp; (try with_reducible rfl))
                                                                        case r38 =>
                                                                          (try simp only [Act.put, List.setIfInBounds_toArray, List.set_cons_zero, List.set_cons_succ])
                                                                          refine wpAnyH_take (i := 34) (oi := { dst := some 63, op := Op.binOp BinOp.neq 4 (Operand.tmp 51) (Operand.tmp 62) 4, type := 4, pos := _, after := #[{ on := 22, ground := Ground.data }, { on := 33, ground := Ground.data }, { on := 20, ground := Ground.guard }], guard := some (20, false) }) (v := ?v39) rfl (by kernel_rfl) (by kernel_rfl) (by kernel_rfl) (fun _ _ _ h => h) (Or.inl ⟨by rfl, ?h39⟩) (by assumption) ?r39
                                                                          case h39 => (intro w hSw; (try dsimp only at hSw); go_simp; (try with_reducible rfl))
                                                                          case r39 =>
                                                                            (try simp only [Act.put, List.setIfInBounds_toArray, List.set_cons_zero, List.set_cons_succ])
                                                                            refine wpAnyH_take (i := 35) (oi := { dst := some 64, op := Op.pick (Operand.tmp 49) (Operand.const (Value.bool true)) (Operand.tmp 63), type := 4, pos := _, after := #[{ on := 20, ground := Ground.data }, { on := 34, ground := Ground.data }], guard := none }) (v := ?v40) rfl (by kernel_rfl) (by kernel_rfl) (by kernel_rfl) (fun _ _ _ h => h) (Or.inl ⟨by rfl, ?h40⟩) (by assumption) ?r40
                                                                            case h40 => (intro w hSw; (try dsimp only at hSw); go_simp; (try with_reducible rfl))
                                                                            case r40 =>
                                                                              (try simp only [Act.put, List.setIfInBounds_toArray, List.set_cons_zero, List.set_cons_succ])
                                                                              refine wpAnyH_done (by kernel_rfl) ?_ _
                                                                              go_wp2_with fail
                                                                              go_roundw
                                                                              case rel => (obtain ⟨v9, u9, hT9⟩ := HT9.out; exact ⟨k + 1, by go_num, hkl, ⟨v9, u9, Q, hT9, HQ.out⟩⟩)
                                                                              case measure => (simp [intOf]; omega)
                                                | false =>
                                                  have hW : WQ = true := by have h1 := HWQ.out; rw [hx] at h1; exact h1.symm
                                                  subst hW
                                                  clear HWQ
                                                  refine wpAnyH_take (i := 21) (oi := { dst := some 50, op := Op.move (Operand.tmp 3), type := 25, pos := _, after := #[{ on := 20, ground := Ground.guard }], guard := some (20, false) }) (v := ?v41) rfl (by kernel_rfl) (by kernel_rfl) (by kernel_rfl) (fun _ _ _ h => h) (Or.inl ⟨by rfl, ?h41⟩) (by assumption) ?r41
                                                  case h41 => (intro w hSw; (try dsimp only at hSw); go_simp; (try with_reducible rfl))
                                                  case r41 =>
                                                    (try simp only [Act.put, List.setIfInBounds_toArray, List.set_cons_zero, List.set_cons_succ])
                                                    refine wpAnyH_take (i := 23) (oi := { dst := some 52, op := Op.move (Operand.tmp 4), type := 27, pos := _, after := #[{ on := 20, ground := Ground.guard }], guard := some (20, false) }) (v := ?v42) rfl (by kernel_rfl) (by kernel_rfl) (by kernel_rfl) (fun _ _ _ h => h) (Or.inl ⟨by rfl, ?h42⟩) (by assumption) ?r42
                                                    case h42 => (intro w hSw; (try dsimp only at hSw); go_simp; (try with_reducible rfl))
                                                    case r42 =>
                                                      (try simp only [Act.put, List.setIfInBounds_toArray, List.set_cons_zero, List.set_cons_succ])
                                                      refine wpAnyH_take (i := 24) (oi := { dst := some 53, op := Op.nilCheck (Operand.tmp 52), type := 0, pos := _, after := #[{ on := 23, ground := Ground.data }, { on := 20, ground := Ground.guard }], guard := some (20, false) }) (v := ?v43) rfl (by kernel_rfl) (by kernel_rfl) (by kernel_rfl) (fun _ _ _ h => h) (Or.inl ⟨by rfl, ?h43⟩) (by assumption) ?r43
                                                      case h43 => (intro w hSw; (try dsimp only at hSw); go_simp; (try with_reducible rfl))
                                                      case r43 =>
                                                        (try simp only [Act.put, List.setIfInBounds_toArray, List.set_cons_zero, List.set_cons_succ])
                                                        refine wpAnyH_take (i := 25) (oi := { dst := some 54, op := Op.fieldAddr 30 (Operand.tmp 53) 1, type := 0, pos := _, after := #[{ on := 24, ground := Ground.data }, { on := 20, ground := Ground.guard }], guard := some (20, false) }) (v := ?v44) rfl (by kernel_rfl) (by kernel_rfl) (by kernel_rfl) (fun _ _ _ h => h) (Or.inl ⟨by rfl, ?h44⟩) (by assumption) ?r44
                                                        case h44 => (intro w hSw; (try dsimp only at hSw); go_simp; (try with_reducible rfl))
                                                        case r44 =>
                                                          (try simp only [Act.put, List.setIfInBounds_toArray, List.set_cons_zero, List.set_cons_succ])
                                                          refine wpAnyH_take (i := 26) (oi := { dst := some 55, op := Op.load 4 (Operand.tmp 54), type := 4, pos := _, after := #[{ on := 25, ground := Ground.data }, { on := 20, ground := Ground.guard }], guard := some (20, false) }) (v := ?v45) rfl (by kernel_rfl) (by kernel_rfl) (by kernel_rfl) (fun _ _ _ h => h) (Or.inl ⟨by rfl, ?h45⟩) (by assumption) ?r45
                                                          case h45 => (intro w hSw; (try dsimp only at hSw); go_simp; (try with_reducible rfl))
                                                          case r45 =>
                                                            (try simp only [Act.put, List.setIfInBounds_toArray, List.set_cons_zero, List.set_cons_succ])
                                                            refine wpAnyH_ready (rs := [22]) (by kernel_rfl) (by simp) ?_
                                                            refine AllReadyH.cons (o := { dst := some 51, op := Op.call { callee := Callee.value (Operand.func 15), args := #[Operand.tmp 50], argTypes := #[25] }, type := 4, pos := _, after := #[{ on := 21, ground := Ground.data }, { on := 20, ground := Ground.chain }, { on := 20, ground := Ground.guard }], guard := some (20, false) }) rfl (fun K hK => ?_) AllReadyH.nil
                                                            go_simp
                                                            go_at_call 15
                                                            go_fit L5.out
                                                            rintro e w6 ⟨rfl, rfl⟩
                                                            (try go_wp2_with fail)
                                                            refine hK.out _ _ hHeld2 (fun hHeld => ?_)
                                                            clear hK K
                                                            (try simp only [Act.put, List.setIfInBounds_toArray, List.set_cons_zero, List.set_cons_succ])
                                                            refine wpAnyH_take (i := 27) (oi := { dst := some 56, op := Op.move (Operand.tmp 55), type := 4, pos := _, after := #[{ on := 26, ground := Ground.data }, { on := 22, ground := Ground.chain }, { on := 20, ground := Ground.guard }], guard := some (20, false) }) (v := ?v46) rfl (by kernel_rfl) (by kernel_rfl) (by kernel_rfl) (fun _ _ _ h => h) (Or.inl ⟨by rfl, ?h46⟩) (by assumption) ?r46
                                                            case h46 => (intro w hSw; (try dsimp only at hSw); go_simp; (try with_reducible rfl))
                                                            case r46 =>
                                                              (try simp only [Act.put, List.setIfInBounds_toArray, List.set_cons_zero, List.set_cons_succ])
                                                              refine wpAnyH_take (i := 28) (oi := { dst := some 57, op := Op.move (Operand.tmp 4), type := 27, pos := _, after := #[{ on := 27, ground := Ground.guard }], guard := some (27, false) }) (v := ?v47) rfl (by kernel_rfl) (by kernel_rfl) (by kernel_rfl) (fun _ _ _ h => h) (Or.inl ⟨by rfl, ?h47⟩) (by assumption) ?r47
                                                              case h47 => (intro w hSw; (try dsimp only at hSw); go_simp; (try with_reducible rfl))
                                                              case r47 =>
                                                                (try simp only [Act.put, List.setIfInBounds_toArray, List.set_cons_zero, List.set_cons_succ])
                                                                refine wpAnyH_take (i := 29) (oi := { dst := some 58, op := Op.nilCheck (Operand.tmp 57), type := 0, pos := _, after := #[{ on := 28, ground := Ground.data }, { on := 27, ground := Ground.guard }], guard := some (27, false) }) (v := ?v48) rfl (by kernel_rfl) (by kernel_rfl) (by kernel_rfl) (fun _ _ _ h => h) (Or.inl ⟨by rfl, ?h48⟩) (by assumption) ?r48
                                                                case h48 => (intro w hSw; (try dsimp only at hSw); go_simp; (try with_reducible rfl))
                                                                case r48 =>
                                                                  (try simp only [Act.put, List.setIfInBounds_toArray, List.set_cons_zero, List.set_cons_succ])
                                                                  refine wpAnyH_take (i := 30) (oi := { dst := some 59, op := Op.fieldAddr 30 (Operand.tmp 58) 0, type := 0, pos := _, after := #[{ on := 29, ground := Ground.data }, { on := 27, ground := Ground.guard }], guard := some (27, false) }) (v := ?v49) rfl (by kernel_rfl) (by kernel_rfl) (by kernel_rfl) (fun _ _ _ h => h) (Or.inl ⟨by rfl, ?h49⟩) (by assumption) ?r49
                                                                  case h49 => (intro w hSw; (try dsimp only at hSw); go_simp; (try with_reducible rfl))
                                                                  case r49 =>
                                                                    (try simp only [Act.put, List.setIfInBounds_toArray, List.set_cons_zero, List.set_cons_succ])
                                                                    refine wpAnyH_take (i := 31) (oi := { dst := some 60, op := Op.load 9 (Operand.tmp 59), type := 9, pos := _, after := #[{ on := 30, ground := Ground.data }, { on := 27, ground := Ground.guard }], guard := some (27, false) }) (v := ?v50) rfl (by kernel_rfl) (by kernel_rfl) (by kernel_rfl) (fun _ _ _ h => h) (Or.inl ⟨by rfl, ?h50⟩) (by assumption) ?r50
                                                                    case h50 => (intro w hSw; (try dsimp only at hSw); go_simp; (try with_reducible rfl))
                                                                    case r50 =>
                                                                      (try simp only [Act.put, List.setIfInBounds_toArray, List.set_cons_zero, List.set_cons_succ])
                                                                      refine wpAnyH_take (i := 32) (oi := { dst := some 61, op := Op.binOp BinOp.neq 9 (Operand.tmp 60) (Operand.const (Value.string { data := #[] })) 9, type := 4, pos := _, after := #[{ on := 31, ground := Ground.data }, { on := 27, ground := Ground.guard }], guard := some (27, false) }) (v := ?v51) rfl (by kernel_rfl) (by kernel_rfl) (by kernel_rfl) (fun _ _ _ h => h) (Or.inl ⟨by rfl, ?h51⟩) (by assumption) ?r51
                                                                      case h51 => (intro w hSw; (try dsimp only at hSw); go_simp; (try with_reducible rfl))
                                                                      case r51 =>
                                                                        (try simp only [Act.put, List.setIfInBounds_toArray, List.set_cons_zero, List.set_cons_succ])
                                                                        refine wpAnyH_take (i := 33) (oi := { dst := some 62, op := Op.pick (Operand.tmp 56) (Operand.const (Value.bool true)) (Operand.tmp 61), type := 4, pos := _, after := #[{ on := 27, ground := Ground.data }, { on := 32, ground := Ground.data }, { on := 20, ground := Ground.guard }], guard := some (20, false) }) (v := ?v52) rfl (by kernel_rfl) (by kernel_rfl) (by kernel_rfl) (fun _ _ _ h => h) (Or.inl ⟨by rfl, ?h52⟩) (by assumption) ?r52
                                                                        case h52 => (intro w hSw; (try dsimp only at hSw); go_simp; (try with_reducible rfl))
                                                                        case r52 =>
                                                                          (try simp only [Act.put, List.setIfInBounds_toArray, List.set_cons_zero, List.set_cons_succ])
                                                                          refine wpAnyH_take (i := 34) (oi := { dst := some 63, op := Op.binOp BinOp.neq 4 (Operand.tmp 51) (Operand.tmp 62) 4, type := 4, pos := _, after := #[{ on := 22, ground := Ground.data }, { on := 33, ground := Ground.data }, { on := 20, ground := Ground.guard }], guard := some (20, false) }) (v := ?v53) rfl (by kernel_rfl) (by kernel_rfl) (by kernel_rfl) (fun _ _ _ h => h) (Or.inl ⟨by rfl, ?h53⟩) (by assumption) ?r53
                                                                          case h53 => (intro w hSw; (try dsimp only at hSw); go_simp; (try with_reducible rfl))
                                                                          case r53 =>
                                                                            (try simp only [Act.put, List.setIfInBounds_toArray, List.set_cons_zero, List.set_cons_succ])
                                                                            refine wpAnyH_take (i := 35) (oi := { dst := some 64, op := Op.pick (Operand.tmp 49) (Operand.const (Value.bool true)) (Operand.tmp 63), type := 4, pos := _, after := #[{ on := 20, ground := Ground.data }, { on := 34, ground := Ground.data }], guard := none }) (v := ?v54) rfl (by kernel_rfl) (by kernel_rfl) (by kernel_rfl) (fun _ _ _ h => h) (Or.inl ⟨by rfl, ?h54⟩) (by assumption) ?r54
                                                                            case h54 => (intro w hSw; (try dsimp only at hSw); go_simp; (try with_reducible rfl))
                                                                            case r54 =>
                                                                              (try simp only [Act.put, List.setIfInBounds_toArray, List.set_cons_zero, List.set_cons_succ])
                                                                              refine wpAnyH_done (by kernel_rfl) ?_ _
                                                                              go_wp2_with fail
                                                                              go_roundw
                                                                              case rel => (obtain ⟨v9, u9, hT9⟩ := HT9.out; exact ⟨k + 1, by go_num, hkl, ⟨v9, u9, Q, hT9, HQ.out⟩⟩)
                                                                              case measure => (simp [intOf]; omega)
        · have hke : k = s.size := by omega
          have q1 : (s.size : Int) ≤ (k : Int) := by omega
          have HCC := Lib.hid (fun W hW => (HC.out W hW).2)
          have x1d := HCC.out _ (hT.bel.trans ((Below.refl _ wr).drew.mono hT.n))
          clear HC HBT
          have hOkS : OkT p (300 * i + k) := ⟨hOk, hSz⟩
          cases tk with
          | false =>
            obtain ⟨Q, hQ⟩ : ∃ Q, p = Q := ⟨_, rfl⟩
            have L4 : Hid (∀ V4, Below wr.heap.size wr V4 → (V4.cell? ⟨R, 0, none⟩ = some (.string (heldS Q)) ∧ V4.cell? ⟨R, 1, none⟩ = some (.bool (isP Q))) ∧ Hid (∃ v u, TelW w0.heap.size D R w0 V4 v u Q Q) ∧ Hid (Calls Tryd.prog 15 #[.pointer (some ⟨D, 0, none⟩)] V4 fun e w6 => e = .returned (.bool (waitsK Q)) ∧ w6 = V4)) := fun V4 hV4 => by
              have hT6 := hT.below hV4
              rw [hQ] at hT6
              exact ⟨⟨hT6.ref.box.cells.1.1, hT6.ref.box.cells.1.2.1⟩, ⟨v, u, hT6⟩, kwaiting_any w0.heap.size V4 D v Q hT6.dec⟩
            have HQ : Hid (OkT Q (300 * (i + 1))) := by
              rw [← hQ]
              exact ⟨hOk, by omega⟩
            have hwr := waits_ref Q
            obtain ⟨P1, hP1⟩ : ∃ P1, isP Q = P1 := ⟨_, rfl⟩
            obtain ⟨X0, hX0⟩ : ∃ X0, heldS Q = X0 := ⟨_, rfl⟩
            obtain ⟨WQ, hWQ⟩ : ∃ WQ, waitsK Q = WQ := ⟨_, rfl⟩
            rw [hP1, hX0, hWQ] at L4
            rw [hP1, hX0, hWQ] at hwr
            clear hT hOk hSz hOkS hQ hP1 hX0 hWQ HJ HCC hke
            have HWQ := Lib.hid hwr
            clear hwr
            go_wp2_with fail
            refine wp_region_held_drew (S := (fun V => V.cell? ⟨g, o + i * 2 + 1, none⟩ = some (.bool false))) (by kernel_rfl) x1d (fun hHeld => ?_)
            refine wpAnyH_take (i := 0) (oi := { dst := some 65, op := Op.move (Operand.tmp 0), type := 22, pos := _, after := #[], guard := none }) (v := ?v55) rfl (by kernel_rfl) (by kernel_rfl) (by kernel_rfl) (fun _ _ _ h => h) (Or.inl ⟨by rfl, ?h55⟩) (by assumption) ?r55
            case h55 => (intro w hSw; (try dsimp only at hSw); go_simp; (try with_reducible rfl))
            case r55 =>
              (try simp only [Act.put, List.setIfInBounds_toArray, List.set_cons_zero, List.set_cons_succ])
              refine wpAnyH_take (i := 1) (oi := { dst := some 66, op := Op.move (Operand.tmp 5), type := 3, pos := _, after := #[], guard := none }) (v := ?v56) rfl (by kernel_rfl) (by kernel_rfl) (by kernel_rfl) (fun _ _ _ h => h) (Or.inl ⟨by rfl, ?h56⟩) (by assumption) ?r56
              case h56 => (intro w hSw; (try dsimp only at hSw); go_simp; (try with_reducible rfl))
              case r56 =>
                (try simp only [Act.put, List.setIfInBounds_toArray, List.set_cons_zero, List.set_cons_succ])
                refine wpAnyH_take (i := 2) (oi := { dst := some 67, op := Op.indexAddr 22 (Operand.tmp 65) (Operand.tmp 66), type := 0, pos := _, after := #[{ on := 0, ground := Ground.data }, { on := 1, ground := Ground.data }], guard := none }) (v := ?v57) rfl (by kernel_rfl) (by kernel_rfl) (by kernel_rfl) (fun _ _ _ h => h) (Or.inl ⟨by rfl, ?h57⟩) (by assumption) ?r57
                case h57 => (intro w hSw; (try dsimp only at hSw); go_simp; (try with_reducible rfl))
                case r57 =>
                  (try simp only [Act.put, List.setIfInBounds_toArray, List.set_cons_zero, List.set_cons_succ])
                  refine wpAnyH_take (i := 3) (oi := { dst := some 68, op := Op.fieldAddr 32 (Operand.tmp 67) 1, type := 0, pos := _, after := #[{ on := 2, ground := Ground.data }], guard := none }) (v := ?v58) rfl (by kernel_rfl) (by kernel_rfl) (by kernel_rfl) (fun _ _ _ h => h) (Or.inl ⟨by rfl, ?h58⟩) (by assumption) ?r58
                  case h58 => (intro w hSw; (try dsimp only at hSw); go_simp; (try with_reducible rfl))
                  case r58 =>
                    (try simp only [Act.put, List.setIfInBounds_toArray, List.set_cons_zero, List.set_cons_succ])
                    refine wpAnyH_take (i := 4) (oi := { dst := some 69, op := Op.load 4 (Operand.tmp 68), type := 4, pos := _, after := #[{ on := 3, ground := Ground.data }], guard := none }) (v := ?v59) rfl (by kernel_rfl) (by kernel_rfl) (by kernel_rfl) (fun _ _ _ h => h) (Or.inl ⟨by rfl, ?h59⟩) (by assumption) ?r59
                    case h59 => (intro w hSw; (try dsimp only at hSw); go_simp; (try with_reducible rfl))
                    case r59 =>
                      (try simp only [Act.put, List.setIfInBounds_toArray, List.set_cons_zero, List.set_cons_succ])
                      refine wpAnyH_take (i := 5) (oi := { dst := some 70, op := Op.move (Operand.tmp 69), type := 4, pos := _, after := #[{ on := 4, ground := Ground.data }], guard := none }) (v := ?v60) rfl (by kernel_rfl) (by kernel_rfl) (by kernel_rfl) (fun _ _ _ h => h) (Or.inl ⟨by rfl, ?h60⟩) (by assumption) ?r60
                      case h60 => (intro w hSw; (try dsimp only at hSw); go_simp; (try with_reducible rfl))
                      case r60 =>
                        (try simp only [Act.put, List.setIfInBounds_toArray, List.set_cons_zero, List.set_cons_succ])
                        refine wpAnyH_take (i := 6) (oi := { dst := some 71, op := Op.move (Operand.tmp 3), type := 25, pos := _, after := #[{ on := 5, ground := Ground.guard }], guard := some (5, true) }) (v := undef) rfl (by kernel_rfl) (by kernel_rfl) (by kernel_rfl) (fun _ _ _ h => h) (Or.inr ⟨by rfl, rfl⟩) (by assumption) ?_
                        (try simp only [Act.put, List.setIfInBounds_toArray, List.set_cons_zero, List.set_cons_succ])
                        refine wpAnyH_take (i := 7) (oi := { dst := some 72, op := Op.call { callee := Callee.value (Operand.func 16), args := #[Operand.tmp 71], argTypes := #[25] }, type := 34, pos := _, after := #[{ on := 6, ground := Ground.data }, { on := 5, ground := Ground.chain }, { on := 5, ground := Ground.guard }], guard := some (5, true) }) (v := undef) rfl (by kernel_rfl) (by kernel_rfl) (by kernel_rfl) (fun _ _ _ h => h) (Or.inr ⟨by rfl, rfl⟩) (by assumption) ?_
                        (try simp only [Act.put, List.setIfInBounds_toArray, List.set_cons_zero, List.set_cons_succ])
                        refine wpAnyH_take (i := 8) (oi := { dst := some 73, op := Op.move (Operand.tmp 4), type := 27, pos := _, after := #[{ on := 5, ground := Ground.guard }], guard := some (5, true) }) (v := undef) rfl (by kernel_rfl) (by kernel_rfl) (by kernel_rfl) (fun _ _ _ h => h) (Or.inr ⟨by rfl, rfl⟩) (by assumption) ?_
                        (try simp only [Act.put, List.setIfInBounds_toArray, List.set_cons_zero, List.set_cons_succ])
                        refine wpAnyH_take (i := 9) (oi := { dst := some 74, op := Op.call { callee := Callee.value (Operand.func 17), args := #[Operand.tmp 73], argTypes := #[27] }, type := 34, pos := _, after := #[{ on := 8, ground := Ground.data }, { on := 7, ground := Ground.chain }, { on := 5, ground := Ground.guard }], guard := some (5, true) }) (v := undef) rfl (by kernel_rfl) (by kernel_rfl) (by kernel_rfl) (fun _ _ _ h => h) (Or.inr ⟨by rfl, rfl⟩) (by assumption) ?_
                        (try simp only [Act.put, List.setIfInBounds_toArray, List.set_cons_zero, List.set_cons_succ])
                        refine wpAnyH_take (i := 10) (oi := { dst := some 75, op := Op.call { callee := Callee.value (Operand.func 12), args := #[Operand.tmp 72, Operand.tmp 74], argTypes := #[34, 34] }, type := 4, pos := _, after := #[{ on := 7, ground := Ground.data }, { on := 9, ground := Ground.data }, { on := 9, ground := Ground.chain }, { on := 5, ground := Ground.guard }], guard := some (5, true) }) (v := undef) rfl (by kernel_rfl) (by kernel_rfl) (by kernel_rfl) (fun _ _ _ h => h) (Or.inr ⟨by rfl, rfl⟩) (by assumption) ?_
                        (try simp only [Act.put, List.setIfInBounds_toArray, List.set_cons_zero, List.set_cons_succ])
                        refine wpAnyH_take (i := 11) (oi := { dst := some 76, op := Op.unOp UnOp.not 4 (Operand.tmp 75), type := 4, pos := _, after := #[{ on := 10, ground := Ground.data }, { on := 5, ground := Ground.guard }], guard := some (5, true) }) (v := undef) rfl (by kernel_rfl) (by kernel_rfl) (by kernel_rfl) (fun _ _ _ h => h) (Or.inr ⟨by rfl, rfl⟩) (by assumption) ?_
                        (try simp only [Act.put, List.setIfInBounds_toArray, List.set_cons_zero, List.set_cons_succ])
                        refine wpAnyH_take (i := 12) (oi := { dst := some 77, op := Op.pick (Operand.tmp 70) (Operand.tmp 76) (Operand.const (Value.bool false)), type := 4, pos := _, after := #[{ on := 5, ground := Ground.data }, { on := 11, ground := Ground.data }], guard := none }) (v := ?v61) rfl (by kernel_rfl) (by kernel_rfl) (by kernel_rfl) (fun _ _ _ h => h) (Or.inl ⟨by rfl, ?h61⟩) (by assumption) ?r61
                        case h61 => (intro w hSw; (try dsimp only at hSw); go_simp; (try with_reducible rfl))
                        case r61 =>
                          (try simp only [Act.put, List.setIfInBounds_toArray, List.set_cons_zero, List.set_cons_succ])
                          refine wpAnyH_take (i := 13) (oi := { dst := some 78, op := Op.move (Operand.tmp 77), type := 4, pos := _, after := #[{ on := 12, ground := Ground.data }, { on := 10, ground := Ground.chain }], guard := none }) (v := ?v62) rfl (by kernel_rfl) (by kernel_rfl) (by kernel_rfl) (fun _ _ _ h => h) (Or.inl ⟨by rfl, ?h62⟩) (by assumption) ?r62
                          case h62 => (intro w hSw; (try dsimp only at hSw); go_simp; (try with_reducible rfl))
                          case r62 =>
                            (try simp only [Act.put, List.setIfInBounds_toArray, List.set_cons_zero, List.set_cons_succ])
                            obtain ⟨⟨r0, r1⟩, HT9, L5⟩ := L4.out _ (Below.refl _ _).drew
                            clear L4
                            refine wpAnyH_mono (S := (fun V => V.cell? ⟨g, o + i * 2 + 1, none⟩ = some (.bool false) ∧ V.cell? ⟨R, 0, none⟩ = some (.string X0) ∧ V.cell? ⟨R, 1, none⟩ = some (.bool P1))) (fun w h => h.1) _ _ _ _ ?_
                            have hHeld2 : (fun V => V.cell? ⟨g, o + i * 2 + 1, none⟩ = some (.bool false) ∧ V.cell? ⟨R, 0, none⟩ = some (.string X0) ∧ V.cell? ⟨R, 1, none⟩ = some (.bool P1)) wr.drew := ⟨hHeld, r0, r1⟩
                            clear hHeld
                            cases P1 with
                            | true =>
                              have hW : WQ = true := HWQ.out.symm
                              subst hW
                              clear HWQ
                              refine wpAnyH_take (i := 14) (oi := { dst := some 79, op := Op.move (Operand.tmp 3), type := 25, pos := _, after := #[{ on := 13, ground := Ground.guard }], guard := some (13, false) }) (v := ?v63) rfl (by kernel_rfl) (by kernel_rfl) (by kernel_rfl) (fun _ _ _ h => h) (Or.inl ⟨by rfl, ?h63⟩) (by assumption) ?r63
                              case h63 => (intro w hSw; (try dsimp only at hSw); go_simp; (try with_reducible rfl))
                              case r63 =>
                                (try simp only [Act.put, List.setIfInBounds_toArray, List.set_cons_zero, List.set_cons_succ])
                                refine wpAnyH_take (i := 16) (oi := { dst := some 81, op := Op.move (Operand.tmp 4), type := 27, pos := _, after := #[{ on := 13, ground := Ground.guard }], guard := some (13, false) }) (v := ?v64) rfl (by kernel_rfl) (by kernel_rfl) (by kernel_rfl) (fun _ _ _ h => h) (Or.inl ⟨by rfl, ?h64⟩) (by assumption) ?r64
                                case h64 => (intro w hSw; (try dsimp only at hSw); go_simp; (try with_reducible rfl))
                                case r64 =>
                                  (try simp only [Act.put, List.setIfInBounds_toArray, List.set_cons_zero, List.set_cons_succ])
                                  refine wpAnyH_take (i := 17) (oi := { dst := some 82, op := Op.nilCheck (Operand.tmp 81), type := 0, pos := _, after := #[{ on := 16, ground := Ground.data }, { on := 13, ground := Ground.guard }], guard := some (13, false) }) (v := ?v65) rfl (by kernel_rfl) (by kernel_rfl) (by kernel_rfl) (fun _ _ _ h => h) (Or.inl ⟨by rfl, ?h65⟩) (by assumption) ?r65
                                  case h65 => (intro w hSw; (try dsimp only at hSw); go_simp; (try with_reducible rfl))
                                  case r65 =>
                                    (try simp only [Act.put, List.setIfInBounds_toArray, List.set_cons_zero, List.set_cons_succ])
                                    refine wpAnyH_take (i := 18) (oi := { dst := some 83, op := Op.fieldAddr 30 (Operand.tmp 82) 1, type := 0, pos := _, after := #[{ on := 17, ground := Ground.data }, { on := 13, ground := Ground.guard }], guard := some (13, false) }) (v := ?v66) rfl (by kernel_rfl) (by kernel_rfl) (by kernel_rfl) (fun _ _ _ h => h) (Or.inl ⟨by rfl, ?h66⟩) (by assumption) ?r66
                                    case h66 => (intro w hSw; (try dsimp only at hSw); go_simp; (try with_reducible rfl))
                                    case r66 =>
                                      (try simp only [Act.put, List.setIfInBounds_toArray, List.set_cons_zero, List.set_cons_succ])
                                      refine wpAnyH_take (i := 19) (oi := { dst := some 84, op := Op.load 4 (Operand.tmp 83), type := 4, pos := _, after := #[{ on := 18, ground := Ground.data }, { on := 13, ground := Ground.guard }], guard := some (13, false) }) (v := ?v67) rfl (by kernel_rfl) (by kernel_rfl) (by kernel_rfl) (fun _ _ _ h => h) (Or.inl ⟨by rfl, ?h67⟩) (by assumption) ?r67
                                      case h67 => (intro w hSw; (try dsimp only at hSw); go_simp; (try with_reducible rfl))
                                      case r67 =>
                                        (try simp only [Act.put, List.setIfInBounds_toArray, List.set_cons_zero, List.set_cons_succ])
                                        refine wpAnyH_ready (rs := [15]) (by kernel_rfl) (by simp) ?_
                                        refine AllReadyH.cons (o := { dst := some 80, op := Op.call { callee := Callee.value (Operand.func 15), args := #[Operand.tmp 79], argTypes := #[25] }, type := 4, pos := _, after := #[{ on := 14, ground := Ground.data }, { on := 13, ground := Ground.chain }, { on := 13, ground := Ground.guard }], guard := some (13, false) }) rfl (fun K hK => ?_) AllReadyH.nil
                                        go_simp
                                        go_at_call 15
                                        go_fit L5.out
                                        rintro e w6 ⟨rfl, rfl⟩
                                        (try go_wp2_with fail)
                                        refine hK.out _ _ hHeld2 (fun hHeld => ?_)
                                        clear hK K
                                        (try simp only [Act.put, List.setIfInBounds_toArray, List.set_cons_zero, List.set_cons_succ])
                                        refine wpAnyH_take (i := 20) (oi := { dst := some 85, op := Op.move (Operand.tmp 84), type := 4, pos := _, after := #[{ on := 19, ground := Ground.data }, { on := 15, ground := Ground.chain }, { on := 13, ground := Ground.guard }], guard := some (13, false) }) (v := ?v68) rfl (by kernel_rfl) (by kernel_rfl) (by kernel_rfl) (fun _ _ _ h => h) (Or.inl ⟨by rfl, ?h68⟩) (by assumption) ?r68
                                        case h68 => (intro w hSw; (try dsimp only at hSw); go_simp; (try with_reducible rfl))
                                        case r68 =>
                                          (try simp only [Act.put, List.setIfInBounds_toArray, List.set_cons_zero, List.set_cons_succ])
                                          refine wpAnyH_take (i := 21) (oi := { dst := some 86, op := Op.move (Operand.tmp 4), type := 27, pos := _, after := #[{ on := 20, ground := Ground.guard }], guard := some (20, false) }) (v := undef) rfl (by kernel_rfl) (by kernel_rfl) (by kernel_rfl) (fun _ _ _ h => h) (Or.inr ⟨by rfl, rfl⟩) (by assumption) ?_
                                          (try simp only [Act.put, List.setIfInBounds_toArray, List.set_cons_zero, List.set_cons_succ])
                                          refine wpAnyH_take (i := 22) (oi := { dst := some 87, op := Op.nilCheck (Operand.tmp 86), type := 0, pos := _, after := #[{ on := 21, ground := Ground.data }, { on := 20, ground := Ground.guard }], guard := some (20, false) }) (v := undef) rfl (by kernel_rfl) (by kernel_rfl) (by kernel_rfl) (fun _ _ _ h => h) (Or.inr ⟨by rfl, rfl⟩) (by assumption) ?_
                                          (try simp only [Act.put, List.setIfInBounds_toArray, List.set_cons_zero, List.set_cons_succ])
                                          refine wpAnyH_take (i := 23) (oi := { dst := some 88, op := Op.fieldAddr 30 (Operand.tmp 87) 0, type := 0, pos := _, after := #[{ on := 22, ground := Ground.data }, { on := 20, ground := Ground.guard }], guard := some (20, false) }) (v := undef) rfl (by kernel_rfl) (by kernel_rfl) (by kernel_rfl) (fun _ _ _ h => h) (Or.inr ⟨by rfl, rfl⟩) (by assumption) ?_
                                          (try simp only [Act.put, List.setIfInBounds_toArray, List.set_cons_zero, List.set_cons_succ])
                                          refine wpAnyH_take (i := 24) (oi := { dst := some 89, op := Op.load 9 (Operand.tmp 88), type := 9, pos := _, after := #[{ on := 23, ground := Ground.data }, { on := 20, ground := Ground.guard }], guard := some (20, false) }) (v := undef) rfl (by kernel_rfl) (by kernel_rfl) (by kernel_rfl) (fun _ _ _ h => h) (Or.inr ⟨by rfl, rfl⟩) (by assumption) ?_
                                          (try simp only [Act.put, List.setIfInBounds_toArray, List.set_cons_zero, List.set_cons_succ])
                                          refine wpAnyH_take (i := 25) (oi := { dst := some 90, op := Op.binOp BinOp.neq 9 (Operand.tmp 89) (Operand.const (Value.string { data := #[] })) 9, type := 4, pos := _, after := #[{ on := 24, ground := Ground.data }, { on := 20, ground := Ground.guard }], guard := some (20, false) }) (v := undef) rfl (by kernel_rfl) (by kernel_rfl) (by kernel_rfl) (fun _ _ _ h => h) (Or.inr ⟨by rfl, rfl⟩) (by assumption) ?_
                                          (try simp only [Act.put, List.setIfInBounds_toArray, List.set_cons_zero, List.set_cons_succ])
                                          refine wpAnyH_take (i := 26) (oi := { dst := some 91, op := Op.pick (Operand.tmp 85) (Operand.const (Value.bool true)) (Operand.tmp 90), type := 4, pos := _, after := #[{ on := 20, ground := Ground.data }, { on := 25, ground := Ground.data }, { on := 13, ground := Ground.guard }], guard := some (13, false) }) (v := ?v69) rfl (by kernel_rfl) (by kernel_rfl) (by kernel_rfl) (fun _ _ _ h => h) (Or.inl ⟨by rfl, ?h69⟩) (by assumption) ?r69
                                          case h69 => (intro w hSw; (try dsimp only at hSw); go_simp; (try with_reducible rfl))
                                          case r69 =>
                                            (try simp only [Act.put, List.setIfInBounds_toArray, List.set_cons_zero, List.set_cons_succ])
                                            refine wpAnyH_take (i := 27) (oi := { dst := some 92, op := Op.binOp BinOp.neq 4 (Operand.tmp 80) (Operand.tmp 91) 4, type := 4, pos := _, after := #[{ on := 15, ground := Ground.data }, { on := 26, ground := Ground.data }, { on := 13, ground := Ground.guard }], guard := some (13, false) }) (v := ?v70) rfl (by kernel_rfl) (by kernel_rfl) (by kernel_rfl) (fun _ _ _ h => h) (Or.inl ⟨by rfl, ?h70⟩) (by assumption) ?r70
                                            case h70 => (intro w hSw; (try dsimp only at hSw); go_simp; (try with_reducible rfl))
                                            case r70 =>
                                              (try simp only [Act.put, List.setIfInBounds_toArray, List.set_cons_zero, List.set_cons_succ])
                                              refine wpAnyH_take (i := 28) (oi := { dst := some 93, op := Op.pick (Operand.tmp 78) (Operand.const (Value.bool true)) (Operand.tmp 92), type := 4, pos := _, after := #[{ on := 13, ground := Ground.data }, { on := 27, ground := Ground.data }], guard := none }) (v := ?v71) rfl (by kernel_rfl) (by kernel_rfl) (by kernel_rfl) (fun _ _ _ h => h) (Or.inl ⟨by rfl, ?h71⟩) (by assumption) ?r71
                                              case h71 => (intro w hSw; (try dsimp only at hSw); go_simp; (try with_reducible rfl))
                                              case r71 =>
                                                (try simp only [Act.put, List.setIfInBounds_toArray, List.set_cons_zero, List.set_cons_succ])
                                                refine wpAnyH_done (by kernel_rfl) ?_ _
                                                go_wp2_with fail
                                                go_roundw
                                                case rel => (obtain ⟨v9, u9, hT9⟩ := HT9.out; exact ⟨i + 1, by go_num, hlt, ⟨v9, u9, Q, hT9, HQ.out⟩⟩)
                                                case measure => (simp [intOf]; omega)
                            | false =>
                              cases hx : (X0.toList == []) with
                              | true =>
                                have hW : WQ = false := by have h1 := HWQ.out; rw [hx] at h1; exact h1.symm
                                subst hW
                                clear HWQ
                                refine wpAnyH_take (i := 14) (oi := { dst := some 79, op := Op.move (Operand.tmp 3), type := 25, pos := _, after := #[{ on := 13, ground := Ground.guard }], guard := some (13, false) }) (v := ?v72) rfl (by kernel_rfl) (by kernel_rfl) (by kernel_rfl) (fun _ _ _ h => h) (Or.inl ⟨by rfl, ?h72⟩) (by assumption) ?r72
                                case h72 => (intro w hSw; (try dsimp only at hSw); go_simp; (try with_reducible rfl))
                                case r72 =>
                                  (try simp only [Act.put, List.setIfInBounds_toArray, List.set_cons_zero, List.set_cons_succ])
                                  refine wpAnyH_take (i := 16) (oi := { dst := some 81, op := Op.move (Operand.tmp 4), type := 27, pos := _, after := #[{ on := 13, ground := Ground.guard }], guard := some (13, false) }) (v := ?v73) rfl (by kernel_rfl) (by kernel_rfl) (by kernel_rfl) (fun _ _ _ h => h) (Or.inl ⟨by rfl, ?h73⟩) (by assumption) ?r73
                                  case h73 => (intro w hSw; (try dsimp only at hSw); go_simp; (try with_reducible rfl))
                                  case r73 =>
                                    (try simp only [Act.put, List.setIfInBounds_toArray, List.set_cons_zero, List.set_cons_succ])
                                    refine wpAnyH_take (i := 17) (oi := { dst := some 82, op := Op.nilCheck (Operand.tmp 81), type := 0, pos := _, after := #[{ on := 16, ground := Ground.data }, { on := 13, ground := Ground.guard }], guard := some (13, false) }) (v := ?v74) rfl (by kernel_rfl) (by kernel_rfl) (by kernel_rfl) (fun _ _ _ h => h) (Or.inl ⟨by rfl, ?h74⟩) (by assumption) ?r74
                                    case h74 => (intro w hSw; (try dsimp only at hSw); go_simp; (try with_reducible rfl))
                                    case r74 =>
                                      (try simp only [Act.put, List.setIfInBounds_toArray, List.set_cons_zero, List.set_cons_succ])
                                      refine wpAnyH_take (i := 18) (oi := { dst := some 83, op := Op.fieldAddr 30 (Operand.tmp 82) 1, type := 0, pos := _, after := #[{ on := 17, ground := Ground.data }, { on := 13, ground := Ground.guard }], guard := some (13, false) }) (v := ?v75) rfl (by kernel_rfl) (by kernel_rfl) (by kernel_rfl) (fun _ _ _ h => h) (Or.inl ⟨by rfl, ?h75⟩) (by assumption) ?r75
                                      case h75 => (intro w hSw; (try dsimp only at hSw); go_simp; (try with_reducible rfl))
                                      case r75 =>
                                        (try simp only [Act.put, List.setIfInBounds_toArray, List.set_cons_zero, List.set_cons_succ])
                                        refine wpAnyH_take (i := 19) (oi := { dst := some 84, op := Op.load 4 (Operand.tmp 83), type := 4, pos := _, after := #[{ on := 18, ground := Ground.data }, { on := 13, ground := Ground.guard }], guard := some (13, false) }) (v := ?v76) rfl (by kernel_rfl) (by kernel_rfl) (by kernel_rfl) (fun _ _ _ h => h) (Or.inl ⟨by rfl, ?h76⟩) (by assumption) ?r76
                                        case h76 => (intro w hSw; (try dsimp only at hSw); go_simp; (try with_reducible rfl))
                                        case r76 =>
                                          (try simp only [Act.put, List.setIfInBounds_toArray, List.set_cons_zero, List.set_cons_succ])
                                          refine wpAnyH_ready (rs := [15]) (by kernel_rfl) (by simp) ?_
                                          refine AllReadyH.cons (o := { dst := some 80, op := Op.call { callee := Callee.value (Operand.func 15), args := #[Operand.tmp 79], argTypes := #[25] }, type := 4, pos := _, after := #[{ on := 14, ground := Ground.data }, { on := 13, ground := Ground.chain }, { on := 13, ground := Ground.guard }], guard := some (13, false) }) rfl (fun K hK => ?_) AllReadyH.nil
                                          go_simp
                                          go_at_call 15
                                          go_fit L5.out
                                          rintro e w6 ⟨rfl, rfl⟩
                                          (try go_wp2_with fail)
                                          refine hK.out _ _ hHeld2 (fun hHeld => ?_)
                                          clear hK K
                                          (try simp only [Act.put, List.setIfInBounds_toArray, List.set_cons_zero, List.set_cons_succ])
                                          refine wpAnyH_take (i := 20) (oi := { dst := some 85, op := Op.move (Operand.tmp 84), type := 4, pos := _, after := #[{ on := 19, ground := Ground.data }, { on := 15, ground := Ground.chain }, { on := 13, ground := Ground.guard }], guard := some (13, false) }) (v := ?v77) rfl (by kernel_rfl) (by kernel_rfl) (by kernel_rfl) (fun _ _ _ h => h) (Or.inl ⟨by rfl, ?h77⟩) (by assumption) ?r77
                                          case h77 => (intro w hSw; (try dsimp only at hSw); go_simp; (try with_reducible rfl))
                                          case r77 =>
                                            (try simp only [Act.put, List.setIfInBounds_toArray, List.set_cons_zero, List.set_cons_succ])
                                            refine wpAnyH_take (i := 21) (oi := { dst := some 86, op := Op.move (Operand.tmp 4), type := 27, pos := _, after := #[{ on := 20, ground := Ground.guard }], guard := some (20, false) }) (v := ?v78) rfl (by kernel_rfl) (by kernel_rfl) (by kernel_rfl) (fun _ _ _ h => h) (Or.inl ⟨by rfl, ?h78⟩) (by assumption) ?r78
                                            case h78 => (intro w hSw; (try dsimp only at hSw); go_simp; (try with_reducible rfl))
                                            case r78 =>
                                              (try simp only [Act.put, List.setIfInBounds_toArray, List.set_cons_zero, List.set_cons_succ])
                                              refine wpAnyH_take (i := 22) (oi := { dst := some 87, op := Op.nilCheck (Operand.tmp 86), type := 0, pos := _, after := #[{ on := 21, ground := Ground.data }, { on := 20, ground := Ground.guard }], guard := some (20, false) }) (v := ?v79) rfl (by kernel_rfl) (by kernel_rfl) (by kernel_rfl) (fun _ _ _ h => h) (Or.inl ⟨by rfl, ?h79⟩) (by assumption) ?r79
                                              case h79 => (intro w hSw; (try dsimp only at hSw); go_simp; (try with_reducible rfl))
                                              case r79 =>
                                                (try simp only [Act.put, List.setIfInBounds_toArray, List.set_cons_zero, List.set_cons_succ])
                                                refine wpAnyH_take (i := 23) (oi := { dst := some 88, op := Op.fieldAddr 30 (Operand.tmp 87) 0, type := 0, pos := _, after := #[{ on := 22, ground := Ground.data }, { on := 20, ground := Ground.guard }], guard := some (20, false) }) (v := ?v80) rfl (by kernel_rfl) (by kernel_rfl) (by kernel_rfl) (fun _ _ _ h => h) (Or.inl ⟨by rfl, ?h80⟩) (by assumption) ?r80
                                                case h80 => (intro w hSw; (try dsimp only at hSw); go_simp; (try with_reducible rfl))
                                                case r80 =>
                                                  (try simp only [Act.put, List.setIfInBounds_toArray, List.set_cons_zero, List.set_cons_succ])
                                                  refine wpAnyH_take (i := 24) (oi := { dst := some 89, op := Op.load 9 (Operand.tmp 88), type := 9, pos := _, after := #[{ on := 23, ground := Ground.data }, { on := 20, ground := Ground.guard }], guard := some (20, false) }) (v := ?v81) rfl (by kernel_rfl) (by kernel_rfl) (by kernel_rfl) (fun _ _ _ h => h) (Or.inl ⟨by rfl, ?h81⟩) (by assumption) ?r81
                                                  case h81 => (intro w hSw; (try dsimp only at hSw); go_simp; (try with_reducible rfl))
                                                  case r81 =>
                                                    (try simp only [Act.put, List.setIfInBounds_toArray, List.set_cons_zero, List.set_cons_succ])
                                                    refine wpAnyH_take (i := 25) (oi := { dst := some 90, op := Op.binOp BinOp.neq 9 (Operand.tmp 89) (Operand.const (Value.string { data := #[] })) 9, type := 4, pos := _, after := #[{ on := 24, ground := Ground.data }, { on := 20, ground := Ground.guard }], guard := some (20, false) }) (v := ?v82) rfl (by kernel_rfl) (by kernel_rfl) (by kernel_rfl) (fun _ _ _ h => h) (Or.inl ⟨by rfl, ?h82⟩) (by assumption) ?r82
                                                    case h82 => (intro w hSw; (try dsimp only at hSw); go_simp; (try with_reducible rfl))
                                                    case r82 =>
                                                      (try simp only [Act.put, List.setIfInBounds_toArray, List.set_cons_zero, List.set_cons_succ])
                                                      refine wpAnyH_take (i := 26) (oi := { dst := some 91, op := Op.pick (Operand.tmp 85) (Operand.const (Value.bool true)) (Operand.tmp 90), type := 4, pos := _, after := #[{ on := 20, ground := Ground.data }, { on := 25, ground := Ground.data }, { on := 13, ground := Ground.guard }], guard := some (13, false) }) (v := ?v83) rfl (by kernel_rfl) (by kernel_rfl) (by kernel_rfl) (fun _ _ _ h => h) (Or.inl ⟨by rfl, ?h83⟩) (by assumption) ?r83
                                                      case h83 => (intro w hSw; (try dsimp only at hSw); go_simp; (try with_reducible rfl))
                                                      case r83 =>
                                                        (try simp only [Act.put, List.setIfInBounds_toArray, List.set_cons_zero, List.set_cons_succ])
                                                        refine wpAnyH_take (i := 27) (oi := { dst := some 92, op := Op.binOp BinOp.neq 4 (Operand.tmp 80) (Operand.tmp 91) 4, type := 4, pos := _, after := #[{ on := 15, ground := Ground.data }, { on := 26, ground := Ground.data }, { on := 13, ground := Ground.guard }], guard := some (13, false) }) (v := ?v84) rfl (by kernel_rfl) (by kernel_rfl) (by kernel_rfl) (fun _ _ _ h => h) (Or.inl ⟨by rfl, ?h84⟩) (by assumption) ?r84
                                                        case h84 => (intro w hSw; (try dsimp only at hSw); go_simp; (try with_reducible rfl))
                                                        case r84 =>
                                                          (try simp only [Act.put, List.setIfInBounds_toArray, List.set_cons_zero, List.set_cons_succ])
                                                          refine wpAnyH_take (i := 28) (oi := { dst := some 93, op := Op.pick (Operand.tmp 78) (Operand.const (Value.bool true)) (Operand.tmp 92), type := 4, pos := _, after := #[{ on := 13, ground := Ground.data }, { on := 27, ground := Ground.data }], guard := none }) (v := ?v85) rfl (by kernel_rfl) (by kernel_rfl) (by kernel_rfl) (fun _ _ _ h => h) (Or.inl ⟨by rfl, ?h85⟩) (by assumption) ?r85
                                                          case h85 => (intro w hSw; (try dsimp only at hSw); go_simp; (try with_reducible rfl))
                                                          case r85 =>
                                                            (try simp only [Act.put, List.setIfInBounds_toArray, List.set_cons_zero, List.set_cons_succ])
                                                            refine wpAnyH_done (by kernel_rfl) ?_ _
                                                            go_wp2_with fail
                                                            go_roundw
                                                            case rel => (obtain ⟨v9, u9, hT9⟩ := HT9.out; exact ⟨i + 1, by go_num, hlt, ⟨v9, u9, Q, hT9, HQ.out⟩⟩)
                                                            case measure => (simp [intOf]; omega)
                              | false =>
                                have hW : WQ = true := by have h1 := HWQ.out; rw [hx] at h1; exact h1.symm
                                subst hW
                                clear HWQ
                                refine wpAnyH_take (i := 14) (oi := { dst := some 79, op := Op.move (Operand.tmp 3), type := 25, pos := _, after := #[{ on := 13, ground := Ground.guard }], guard := some (13, false) }) (v := ?v86) rfl (by kernel_rfl) (by kernel_rfl) (by kernel_rfl) (fun _ _ _ h => h) (Or.inl ⟨by rfl, ?h86⟩) (by assumption) ?r86
                                case h86 => (intro w hSw; (try dsimp only at hSw); go_simp; (try with_reducible rfl))
                                case r86 =>
                                  (try simp only [Act.put, List.setIfInBounds_toArray, List.set_cons_zero, List.set_cons_succ])
                                  refine wpAnyH_take (i := 16) (oi := { dst := some 81, op := Op.move (Operand.tmp 4), type := 27, pos := _, after := #[{ on := 13, ground := Ground.guard }], guard := some (13, false) }) (v := ?v87) rfl (by kernel_rfl) (by kernel_rfl) (by kernel_rfl) (fun _ _ _ h => h) (Or.inl ⟨by rfl, ?h87⟩) (by assumption) ?r87
                                  case h87 => (intro w hSw; (try dsimp only at hSw); go_simp; (try with_reducible rfl))
                                  case r87 =>
                                    (try simp only [Act.put, List.setIfInBounds_toArray, List.set_cons_zero, List.set_cons_succ])
                                    refine wpAnyH_take (i := 17) (oi := { dst := some 82, op := Op.nilCheck (Operand.tmp 81), type := 0, pos := _, after := #[{ on := 16, ground := Ground.data }, { on := 13, ground := Ground.guard }], guard := some (13, false) }) (v := ?v88) rfl (by kernel_rfl) (by kernel_rfl) (by kernel_rfl) (fun _ _ _ h => h) (Or.inl ⟨by rfl, ?h88⟩) (by assumption) ?r88
                                    case h88 => (intro w hSw; (try dsimp only at hSw); go_simp; (try with_reducible rfl))
                                    case r88 =>
                                      (try simp only [Act.put, List.setIfInBounds_toArray, List.set_cons_zero, List.set_cons_succ])
                                      refine wpAnyH_take (i := 18) (oi := { dst := some 83, op := Op.fieldAddr 30 (Operand.tmp 82) 1, type := 0, pos := _, after := #[{ on := 17, ground := Ground.data }, { on := 13, ground := Ground.guard }], guard := some (13, false) }) (v := ?v89) rfl (by kernel_rfl) (by kernel_rfl) (by kernel_rfl) (fun _ _ _ h => h) (Or.inl ⟨by rfl, ?h89⟩) (by assumption) ?r89
                                      case h89 => (intro w hSw; (try dsimp only at hSw); go_simp; (try with_reducible rfl))
                                      case r89 =>
                                        (try simp only [Act.put, List.setIfInBounds_toArray, List.set_cons_zero, List.set_cons_succ])
                                        refine wpAnyH_take (i := 19) (oi := { dst := some 84, op := Op.load 4 (Operand.tmp 83), type := 4, pos := _, after := #[{ on := 18, ground := Ground.data }, { on := 13, ground := Ground.guard }], guard := some (13, false) }) (v := ?v90) rfl (by kernel_rfl) (by kernel_rfl) (by kernel_rfl) (fun _ _ _ h => h) (Or.inl ⟨by rfl, ?h90⟩) (by assumption) ?r90
                                        case h90 => (intro w hSw; (try dsimp only at hSw); go_simp; (try with_reducible rfl))
                                        case r90 =>
                                          (try simp only [Act.put, List.setIfInBounds_toArray, List.set_cons_zero, List.set_cons_succ])
                                          refine wpAnyH_ready (rs := [15]) (by kernel_rfl) (by simp) ?_
                                          refine AllReadyH.cons (o := { dst := some 80, op := Op.call { callee := Callee.value (Operand.func 15), args := #[Operand.tmp 79], argTypes := #[25] }, type := 4, pos := _, after := #[{ on := 14, ground := Ground.data }, { on := 13, ground := Ground.chain }, { on := 13, ground := Ground.guard }], guard := some (13, false) }) rfl (fun K hK => ?_) AllReadyH.nil
                                          go_simp
                                          go_at_call 15
                                          go_fit L5.out
                                          rintro e w6 ⟨rfl, rfl⟩
                                          (try go_wp2_with fail)
                                          refine hK.out _ _ hHeld2 (fun hHeld => ?_)
                                          clear hK K
                                          (try simp only [Act.put, List.setIfInBounds_toArray, List.set_cons_zero, List.set_cons_succ])
                                          refine wpAnyH_take (i := 20) (oi := { dst := some 85, op := Op.move (Operand.tmp 84), type := 4, pos := _, after := #[{ on := 19, ground := Ground.data }, { on := 15, ground := Ground.chain }, { on := 13, ground := Ground.guard }], guard := some (13, false) }) (v := ?v91) rfl (by kernel_rfl) (by kernel_rfl) (by kernel_rfl) (fun _ _ _ h => h) (Or.inl ⟨by rfl, ?h91⟩) (by assumption) ?r91
                                          case h91 => (intro w hSw; (try dsimp only at hSw); go_simp; (try with_reducible rfl))
                                          case r91 =>
                                            (try simp only [Act.put, List.setIfInBounds_toArray, List.set_cons_zero, List.set_cons_succ])
                                            refine wpAnyH_take (i := 21) (oi := { dst := some 86, op := Op.move (Operand.tmp 4), type := 27, pos := _, after := #[{ on := 20, ground := Ground.guard }], guard := some (20, false) }) (v := ?v92) rfl (by kernel_rfl) (by kernel_rfl) (by kernel_rfl) (fun _ _ _ h => h) (Or.inl ⟨by rfl, ?h92⟩) (by assumption) ?r92
                                            case h92 => (intro w hSw; (try dsimp only at hSw); go_simp; (try with_reducible rfl))
                                            case r92 =>
                                              (try simp only [Act.put, List.setIfInBounds_toArray, List.set_cons_zero, List.set_cons_succ])
                                              refine wpAnyH_take (i := 22) (oi := { dst := some 87, op := Op.nilCheck (Operand.tmp 86), type := 0, pos := _, after := #[{ on := 21, ground := Ground.data }, { on := 20, ground := Ground.guard }], guard := some (20, false) }) (v := ?v93) rfl (by kernel_rfl) (by kernel_rfl) (by kernel_rfl) (fun _ _ _ h => h) (Or.inl ⟨by rfl, ?h93⟩) (by assumption) ?r93
                                              case h93 => (intro w hSw; (try dsimp only at hSw); go_simp; (try with_reducible rfl))
                                              case r93 =>
                                                (try simp only [Act.put, List.setIfInBounds_toArray, List.set_cons_zero, List.set_cons_succ])
                                                refine wpAnyH_take (i := 23) (oi := { dst := some 88, op := Op.fieldAddr 30 (Operand.tmp 87) 0, type := 0, pos := _, after := #[{ on := 22, ground := Ground.data }, { on := 20, ground := Ground.guard }], guard := some (20, false) }) (v := ?v94) rfl (by kernel_rfl) (by kernel_rfl) (by kernel_rfl) (fun _ _ _ h => h) (Or.inl ⟨by rfl, ?h94⟩) (by assumption) ?r94
                                                case h94 => (intro w hSw; (try dsimp only at hSw); go_simp; (try with_reducible rfl))
                                                case r94 =>
                                                  (try simp only [Act.put, List.setIfInBounds_toArray, List.set_cons_zero, List.set_cons_succ])
                                                  refine wpAnyH_take (i := 24) (oi := { dst := some 89, op := Op.load 9 (Operand.tmp 88), type := 9, pos := _, after := #[{ on := 23, ground := Ground.data }, { on := 20, ground := Ground.guard }], guard := some (20, false) }) (v := ?v95) rfl (by kernel_rfl) (by kernel_rfl) (by kernel_rfl) (fun _ _ _ h => h) (Or.inl ⟨by rfl, ?h95⟩) (by assumption) ?r95
                                                  case h95 => (intro w hSw; (try dsimp only at hSw); go_simp; (try with_reducible rfl))
                                                  case r95 =>
                                                    (try simp only [Act.put, List.setIfInBounds_toArray, List.set_cons_zero, List.set_cons_succ])
                                                    refine wpAnyH_take (i := 25) (oi := { dst := some 90, op := Op.binOp BinOp.neq 9 (Operand.tmp 89) (Operand.const (Value.string { data := #[] })) 9, type := 4, pos := _, after := #[{ on := 24, ground := Ground.data }, { on := 20, ground := Ground.guard }], guard := some (20, false) }) (v := ?v96) rfl (by kernel_rfl) (by kernel_rfl) (by kernel_rfl) (fun _ _ _ h => h) (Or.inl ⟨by rfl, ?h96⟩) (by assumption) ?r96
                                                    case h96 => (intro w hSw; (try dsimp only at hSw); go_simp; (try with_reducible rfl))
                                                    case r96 =>
                                                      (try simp only [Act.put, List.setIfInBounds_toArray, List.set_cons_zero, List.set_cons_succ])
                                                      refine wpAnyH_take (i := 26) (oi := { dst := some 91, op := Op.pick (Operand.tmp 85) (Operand.const (Value.bool true)) (Operand.tmp 90), type := 4, pos := _, after := #[{ on := 20, ground := Ground.data }, { on := 25, ground := Ground.data }, { on := 13, ground := Ground.guard }], guard := some (13, false) }) (v := ?v97) rfl (by kernel_rfl) (by kernel_rfl) (by kernel_rfl) (fun _ _ _ h => h) (Or.inl ⟨by rfl, ?h97⟩) (by assumption) ?r97
                                                      case h97 => (intro w hSw; (try dsimp only at hSw); go_simp; (try with_reducible rfl))
                                                      case r97 =>
                                                        (try simp only [Act.put, List.setIfInBounds_toArray, List.set_cons_zero, List.set_cons_succ])
                                                        refine wpAnyH_take (i := 27) (oi := { dst := some 92, op := Op.binOp BinOp.neq 4 (Operand.tmp 80) (Operand.tmp 91) 4, type := 4, pos := _, after := #[{ on := 15, ground := Ground.data }, { on := 26, ground := Ground.data }, { on := 13, ground := Ground.guard }], guard := some (13, false) }) (v := ?v98) rfl (by kernel_rfl) (by kernel_rfl) (by kernel_rfl) (fun _ _ _ h => h) (Or.inl ⟨by rfl, ?h98⟩) (by assumption) ?r98
                                                        case h98 => (intro w hSw; (try dsimp only at hSw); go_simp; (try with_reducible rfl))
                                                        case r98 =>
                                                          (try simp only [Act.put, List.setIfInBounds_toArray, List.set_cons_zero, List.set_cons_succ])
                                                          refine wpAnyH_take (i := 28) (oi := { dst := some 93, op := Op.pick (Operand.tmp 78) (Operand.const (Value.bool true)) (Operand.tmp 92), type := 4, pos := _, after := #[{ on := 13, ground := Ground.data }, { on := 27, ground := Ground.data }], guard := none }) (v := ?v99) rfl (by kernel_rfl) (by kernel_rfl) (by kernel_rfl) (fun _ _ _ h => h) (Or.inl ⟨by rfl, ?h99⟩) (by assumption) ?r99
                                                          case h99 => (intro w hSw; (try dsimp only at hSw); go_simp; (try with_reducible rfl))
                                                          case r99 =>
                                                            (try simp only [Act.put, List.setIfInBounds_toArray, List.set_cons_zero, List.set_cons_succ])
                                                            refine wpAnyH_done (by kernel_rfl) ?_ _
                                                            go_wp2_with fail
                                                            go_roundw
                                                            case rel => (obtain ⟨v9, u9, hT9⟩ := HT9.out; exact ⟨i + 1, by go_num, hlt, ⟨v9, u9, Q, hT9, HQ.out⟩⟩)
                                                            case measure => (simp [intOf]; omega)
          | true =>
            have hks := tick_keys p
            have hok2 := ok_tickK p hOk
            have hsz2 := tick_size p
            obtain ⟨G, hG⟩ : ∃ G, tickK p = G := ⟨_, rfl⟩
            obtain ⟨Q, hQ⟩ : ∃ Q, G.1 = Q := ⟨_, rfl⟩
            have L1 : Hid (∀ V, Below wr.heap.size wr V → Calls Tryd.prog 16 #[.pointer (some ⟨D, 0, none⟩)] V fun e w3 => ∃ a, e = .returned a ∧ Hid (∀ V, Below w3.heap.size w3 V → V.cell? ⟨g, o + i * 2 + 1, none⟩ = some (.bool true)) ∧ Hid (∀ V2, Below w3.heap.size w3 V2 → Calls Tryd.prog 17 #[.pointer (some ⟨R, 0, none⟩)] V2 fun e w4 => ∃ c, e = .returned c ∧ Hid (∀ V, Below w4.heap.size w4 V → V.cell? ⟨g, o + i * 2 + 1, none⟩ = some (.bool true)) ∧ Hid (∀ V3, Below w4.heap.size w4 V3 → Calls Tryd.prog 12 #[a, c] V3 fun e w5 => e = .returned (.bool true) ∧ Hid (∀ V, Below w5.heap.size w5 V → V.cell? ⟨g, o + i * 2 + 1, none⟩ = some (.bool true)) ∧ Hid (∀ V4, Below w5.heap.size w5 V4 → (V4.cell? ⟨R, 0, none⟩ = some (.string (heldS Q)) ∧ V4.cell? ⟨R, 1, none⟩ = some (.bool (isP Q))) ∧ Hid (∃ v u, TelW w0.heap.size D R w0 V4 v u Q Q) ∧ Hid (Calls Tryd.prog 15 #[.pointer (some ⟨D, 0, none⟩)] V4 fun e w6 => e = .returned (.bool (waitsK Q)) ∧ w6 = V4))))) := fun V hV => by
              have hTV := hT.below hV
              refine (ktick_any w0.heap.size V D v p hTV.dec hTV.n).mono ?_
              rintro e w3 ⟨a, v3, rfl, hu3, hd3, hk3, ho3⟩
              have hT3 := hTV.dturn hd3 hk3 ho3
              rw [hG] at hu3 hT3
              rw [hQ] at hT3
              refine ⟨a, rfl, fun V hV => HCC.out V (hT3.below hV).bel, fun V2 hV2 => ?_⟩
              have hT3' := hT3.below hV2
              refine (rtick_any w0.heap.size R u p V2 hT3'.ref).mono ?_
              rintro e w4 ⟨c, u4, rfl, hu4, hd4, hk4, ho4⟩
              have hT4 := hT3'.rturn hd4 hk4 ho4
              rw [hG] at hu4 hT4
              rw [hQ] at hT4
              have hR3 := hT3.ref.box.lt
              have hz3 := hk3.size
              have hRV := hTV.ref.box.lt
              have hu3' : KeysW (FromK V.heap.size) w4 a G.2 := (KeysW.below hu3 hV2).keep (hk4.mono fun j _ hj => by have h1 : V.heap.size ≤ j := hj; show j ≠ R; omega)
              refine ⟨c, rfl, fun V hV => HCC.out V (hT4.below hV).bel, fun V3 hV3 => ?_⟩
              rw [hG] at hks
              refine (same_any G.2 G.2 a c V3 (hu3'.below hV3) (hu4.below hV3) (by omega) (by omega)).mono ?_
              rintro e w5 ⟨rfl, hb5⟩
              have hT5 := (hT4.below hV3).below hb5
              refine ⟨by rw [decide_eq_true rfl], fun V hV => HCC.out V (hT5.below hV).bel, fun V4 hV4 => ?_⟩
              have hT6 := hT5.below hV4
              exact ⟨⟨hT6.ref.box.cells.1.1, hT6.ref.box.cells.1.2.1⟩, ⟨v3, u4, hT6⟩, kwaiting_any w0.heap.size V4 D v3 Q hT6.dec⟩
            have HQ : Hid (OkT Q (300 * (i + 1))) := by
              rw [hG, hQ] at hok2 hsz2
              exact ⟨hok2, by omega⟩
            have hwr := waits_ref Q
            obtain ⟨P1, hP1⟩ : ∃ P1, isP Q = P1 := ⟨_, rfl⟩
            obtain ⟨X0, hX0⟩ : ∃ X0, heldS Q = X0 := ⟨_, rfl⟩
            obtain ⟨WQ, hWQ⟩ : ∃ WQ, waitsK Q = WQ := ⟨_, rfl⟩
            rw [hP1, hX0, hWQ] at L1
            rw [hP1, hX0, hWQ] at hwr
            clear hT hOk hSz hOkS hks hok2 hsz2 hG hQ hP1 hX0 hWQ HJ HCC hke
            have HWQ := Lib.hid hwr
            clear hwr
            go_wp2_with fail
            refine wp_region_held_drew (S := (fun V => V.cell? ⟨g, o + i * 2 + 1, none⟩ = some (.bool true))) (by kernel_rfl) x1d (fun hHeld => ?_)
            refine wpAnyH_take (i := 0) (oi := { dst := some 65, op := Op.move (Operand.tmp 0), type := 22, pos := _, after := #[], guard := none }) (v := ?v100) rfl (by kernel_rfl) (by kernel_rfl) (by kernel_rfl) (fun _ _ _ h => h) (Or.inl ⟨by rfl, ?h100⟩) (by assumption) ?r100
            case h100 => (intro w hSw; (try dsimp only at hSw); go_simp; (try with_reducible rfl))
            case r100 =>
              (try simp only [Act.put, List.setIfInBounds_toArray, List.set_cons_zero, List.set_cons_succ])
              refine wpAnyH_take (i := 1) (oi := { dst := some 66, op := Op.move (Operand.tmp 5), type := 3, pos := _, after := #[], guard := none }) (v := ?v101) rfl (by kernel_rfl) (by kernel_rfl) (by kernel_rfl) (fun _ _ _ h => h) (Or.inl ⟨by rfl, ?h101⟩) (by assumption) ?r101
              case h101 => (intro w hSw; (try dsimp only at hSw); go_simp; (try with_reducible rfl))
              case r101 =>
                (try simp only [Act.put, List.setIfInBounds_toArray, List.set_cons_zero, List.set_cons_succ])
                refine wpAnyH_take (i := 2) (oi := { dst := some 67, op := Op.indexAddr 22 (Operand.tmp 65) (Operand.tmp 66), type := 0, pos := _, after := #[{ on := 0, ground := Ground.data }, { on := 1, ground := Ground.data }], guard := none }) (v := ?v102) rfl (by kernel_rfl) (by kernel_rfl) (by kernel_rfl) (fun _ _ _ h => h) (Or.inl ⟨by rfl, ?h102⟩) (by assumption) ?r102
                case h102 => (intro w hSw; (try dsimp only at hSw); go_simp; (try with_reducible rfl))
                case r102 =>
                  (try simp only [Act.put, List.setIfInBounds_toArray, List.set_cons_zero, List.set_cons_succ])
                  refine wpAnyH_take (i := 3) (oi := { dst := some 68, op := Op.fieldAddr 32 (Operand.tmp 67) 1, type := 0, pos := _, after := #[{ on := 2, ground := Ground.data }], guard := none }) (v := ?v103) rfl (by kernel_rfl) (by kernel_rfl) (by kernel_rfl) (fun _ _ _ h => h) (Or.inl ⟨by rfl, ?h103⟩) (by assumption) ?r103
                  case h103 => (intro w hSw; (try dsimp only at hSw); go_simp; (try with_reducible rfl))
                  case r103 =>
                    (try simp only [Act.put, List.setIfInBounds_toArray, List.set_cons_zero, List.set_cons_succ])
                    refine wpAnyH_take (i := 4) (oi := { dst := some 69, op := Op.load 4 (Operand.tmp 68), type := 4, pos := _, after := #[{ on := 3, ground := Ground.data }], guard := none }) (v := ?v104) rfl (by kernel_rfl) (by kernel_rfl) (by kernel_rfl) (fun _ _ _ h => h) (Or.inl ⟨by rfl, ?h104⟩) (by assumption) ?r104
                    case h104 => (intro w hSw; (try dsimp only at hSw); go_simp; (try with_reducible rfl))
                    case r104 =>
                      (try simp only [Act.put, List.setIfInBounds_toArray, List.set_cons_zero, List.set_cons_succ])
                      refine wpAnyH_take (i := 5) (oi := { dst := some 70, op := Op.move (Operand.tmp 69), type := 4, pos := _, after := #[{ on := 4, ground := Ground.data }], guard := none }) (v := ?v105) rfl (by kernel_rfl) (by kernel_rfl) (by kernel_rfl) (fun _ _ _ h => h) (Or.inl ⟨by rfl, ?h105⟩) (by assumption) ?r105
                      case h105 => (intro w hSw; (try dsimp only at hSw); go_simp; (try with_reducible rfl))
                      case r105 =>
                        (try simp only [Act.put, List.setIfInBounds_toArray, List.set_cons_zero, List.set_cons_succ])
                        refine wpAnyH_take (i := 6) (oi := { dst := some 71, op := Op.move (Operand.tmp 3), type := 25, pos := _, after := #[{ on := 5, ground := Ground.guard }], guard := some (5, true) }) (v := ?v106) rfl (by kernel_rfl) (by kernel_rfl) (by kernel_rfl) (fun _ _ _ h => h) (Or.inl ⟨by rfl, ?h106⟩) (by assumption) ?r106
                        case h106 => (intro w hSw; (try dsimp only at hSw); go_simp; (try with_reducible rfl))
                        case r106 =>
                          (try simp only [Act.put, List.setIfInBounds_toArray, List.set_cons_zero, List.set_cons_succ])
                          refine wpAnyH_take (i := 8) (oi := { dst := some 73, op := Op.move (Operand.tmp 4), type := 27, pos := _, after := #[{ on := 5, ground := Ground.guard }], guard := some (5, true) }) (v := ?v107) rfl (by kernel_rfl) (by kernel_rfl) (by kernel_rfl) (fun _ _ _ h => h) (Or.inl ⟨by rfl, ?h107⟩) (by assumption) ?r107
                          case h107 => (intro w hSw; (try dsimp only at hSw); go_simp; (try with_reducible rfl))
                          case r107 =>
                            (try simp only [Act.put, List.setIfInBounds_toArray, List.set_cons_zero, List.set_cons_succ])
                            refine wpAnyH_ready (rs := [7]) (by kernel_rfl) (by simp) ?_
                            refine AllReadyH.cons (o := { dst := some 72, op := Op.call { callee := Callee.value (Operand.func 16), args := #[Operand.tmp 71], argTypes := #[25] }, type := 34, pos := _, after := #[{ on := 6, ground := Ground.data }, { on := 5, ground := Ground.chain }, { on := 5, ground := Ground.guard }], guard := some (5, true) }) rfl (fun K hK => ?_) AllReadyH.nil
                            go_simp
                            go_at_call 16
                            go_fit (L1.out _ ?_)
                            (first | exact Below.refl _ _ | exact (Below.refl _ _).drew)
                            rintro e w3 ⟨a, rfl, I3, L2⟩
                            (try go_wp2_with fail)
                            refine hK.out _ _ (I3.out w3 (Below.refl _ _)) (fun hHeld => ?_)
                            clear hK K
                            (try simp only [Act.put, List.setIfInBounds_toArray, List.set_cons_zero, List.set_cons_succ])
                            refine wpAnyH_ready (rs := [9]) (by kernel_rfl) (by simp) ?_
                            refine AllReadyH.cons (o := { dst := some 74, op := Op.call { callee := Callee.value (Operand.func 17), args := #[Operand.tmp 73], argTypes := #[27] }, type := 34, pos := _, after := #[{ on := 8, ground := Ground.data }, { on := 7, ground := Ground.chain }, { on := 5, ground := Ground.guard }], guard := some (5, true) }) rfl (fun K hK => ?_) AllReadyH.nil
                            go_simp
                            go_at_call 17
                            go_fit (L2.out _ ?_)
                            (first | exact Below.refl _ _ | exact (Below.refl _ _).drew)
                            rintro e w4 ⟨c, rfl, I4, L3⟩
                            (try go_wp2_with fail)
                            refine hK.out _ _ (I4.out w4 (Below.refl _ _)) (fun hHeld => ?_)
                            clear hK K
                            (try simp only [Act.put, List.setIfInBounds_toArray, List.set_cons_zero, List.set_cons_succ])
                            refine wpAnyH_ready (rs := [10]) (by kernel_rfl) (by simp) ?_
                            refine AllReadyH.cons (o := { dst := some 75, op := Op.call { callee := Callee.value (Operand.func 12), args := #[Operand.tmp 72, Operand.tmp 74], argTypes := #[34, 34] }, type := 4, pos := _, after := #[{ on := 7, ground := Ground.data }, { on := 9, ground := Ground.data }, { on := 9, ground := Ground.chain }, { on := 5, ground := Ground.guard }], guard := some (5, true) }) rfl (fun K hK => ?_) AllReadyH.nil
                            go_simp
                            go_at_call 12
                            go_fit (L3.out _ ?_)
                            (first | exact Below.refl _ _ | exact (Below.refl _ _).drew)
                            rintro e w5 ⟨rfl, I5, L4⟩
                            (try go_wp2_with fail)
                            refine hK.out _ _ (I5.out w5 (Below.refl _ _)) (fun hHeld => ?_)
                            clear hK K
                            (try simp only [Act.put, List.setIfInBounds_toArray, List.set_cons_zero, List.set_cons_succ])
                            refine wpAnyH_take (i := 11) (oi := { dst := some 76, op := Op.unOp UnOp.not 4 (Operand.tmp 75), type := 4, pos := _, after := #[{ on := 10, ground := Ground.data }, { on := 5, ground := Ground.guard }], guard := some (5, true) }) (v := ?v108) rfl (by kernel_rfl) (by kernel_rfl) (by kernel_rfl) (fun _ _ _ h => h) (Or.inl ⟨by rfl, ?h108⟩) (by assumption) ?r108
                            case h108 => (intro w hSw; (try dsimp only at hSw); go_simp; (try with_reducible rfl))
                            case r108 =>
                              (try simp only [Act.put, List.setIfInBounds_toArray, List.set_cons_zero, List.set_cons_succ])
                              refine wpAnyH_take (i := 12) (oi := { dst := some 77, op := Op.pick (Operand.tmp 70) (Operand.tmp 76) (Operand.const (Value.bool false)), type := 4, pos := _, after := #[{ on := 5, ground := Ground.data }, { on := 11, ground := Ground.data }], guard := none }) (v := ?v109) rfl (by kernel_rfl) (by kernel_rfl) (by kernel_rfl) (fun _ _ _ h => h) (Or.inl ⟨by rfl, ?h109⟩) (by assumption) ?r109
                              case h109 => (intro w hSw; (try dsimp only at hSw); go_simp; (try with_reducible rfl))
                              case r109 =>
                                (try simp only [Act.put, List.setIfInBounds_toArray, List.set_cons_zero, List.set_cons_succ])
                                refine wpAnyH_take (i := 13) (oi := { dst := some 78, op := Op.move (Operand.tmp 77), type := 4, pos := _, after := #[{ on := 12, ground := Ground.data }, { on := 10, ground := Ground.chain }], guard := none }) (v := ?v110) rfl (by kernel_rfl) (by kernel_rfl) (by kernel_rfl) (fun _ _ _ h => h) (Or.inl ⟨by rfl, ?h110⟩) (by assumption) ?r110
                                case h110 => (intro w hSw; (try dsimp only at hSw); go_simp; (try with_reducible rfl))
                                case r110 =>
                                  (try simp only [Act.put, List.setIfInBounds_toArray, List.set_cons_zero, List.set_cons_succ])
                                  obtain ⟨⟨r0, r1⟩, HT9, L5⟩ := L4.out _ (Below.refl _ _)
                                  clear L1 L2 L3 L4 I3 I4 I5
                                  refine wpAnyH_mono (S := (fun V => V.cell? ⟨g, o + i * 2 + 1, none⟩ = some (.bool true) ∧ V.cell? ⟨R, 0, none⟩ = some (.string X0) ∧ V.cell? ⟨R, 1, none⟩ = some (.bool P1))) (fun w h => h.1) _ _ _ _ ?_
                                  have hHeld2 : (fun V => V.cell? ⟨g, o + i * 2 + 1, none⟩ = some (.bool true) ∧ V.cell? ⟨R, 0, none⟩ = some (.string X0) ∧ V.cell? ⟨R, 1, none⟩ = some (.bool P1)) w5 := ⟨hHeld, r0, r1⟩
                                  clear hHeld
                                  cases P1 with
                                  | true =>
                                    have hW : WQ = true := HWQ.out.symm
                                    subst hW
                                    clear HWQ
                                    refine wpAnyH_take (i := 14) (oi := { dst := some 79, op := Op.move (Operand.tmp 3), type := 25, pos := _, after := #[{ on := 13, ground := Ground.guard }], guard := some (13, false) }) (v := ?v111) rfl (by kernel_rfl) (by kernel_rfl) (by kernel_rfl) (fun _ _ _ h => h) (Or.inl ⟨by rfl, ?h111⟩) (by assumption) ?r111
                                    case h111 => (intro w hSw; (try dsimp only at hSw); go_simp; (try with_reducible rfl))
                                    case r111 =>
                                      (try simp only [Act.put, List.setIfInBounds_toArray, List.set_cons_zero, List.set_cons_succ])
                                      refine wpAnyH_take (i := 16) (oi := { dst := some 81, op := Op.move (Operand.tmp 4), type := 27, pos := _, after := #[{ on := 13, ground := Ground.guard }], guard := some (13, false) }) (v := ?v112) rfl (by kernel_rfl) (by kernel_rfl) (by kernel_rfl) (fun _ _ _ h => h) (Or.inl ⟨by rfl, ?h112⟩) (by assumption) ?r112
                                      case h112 => (intro w hSw; (try dsimp only at hSw); go_simp; (try with_reducible rfl))
                                      case r112 =>
                                        (try simp only [Act.put, List.setIfInBounds_toArray, List.set_cons_zero, List.set_cons_succ])
                                        refine wpAnyH_take (i := 17) (oi := { dst := some 82, op := Op.nilCheck (Operand.tmp 81), type := 0, pos := _, after := #[{ on := 16, ground := Ground.data }, { on := 13, ground := Ground.guard }], guard := some (13, false) }) (v := ?v113) rfl (by kernel_rfl) (by kernel_rfl) (by kernel_rfl) (fun _ _ _ h => h) (Or.inl ⟨by rfl, ?h113⟩) (by assumption) ?r113
                                        case h113 => (intro w hSw; (try dsimp only at hSw); go_simp; (try with_reducible rfl))
                                        case r113 =>
                                          (try simp only [Act.put, List.setIfInBounds_toArray, List.set_cons_zero, List.set_cons_succ])
                                          refine wpAnyH_take (i := 18) (oi := { dst := some 83, op := Op.fieldAddr 30 (Operand.tmp 82) 1, type := 0, pos := _, after := #[{ on := 17, ground := Ground.data }, { on := 13, ground := Ground.guard }], guard := some (13, false) }) (v := ?v114) rfl (by kernel_rfl) (by kernel_rfl) (by kernel_rfl) (fun _ _ _ h => h) (Or.inl ⟨by rfl, ?h114⟩) (by assumption) ?r114
                                          case h114 => (intro w hSw; (try dsimp only at hSw); go_simp; (try with_reducible rfl))
                                          case r114 =>
                                            (try simp only [Act.put, List.setIfInBounds_toArray, List.set_cons_zero, List.set_cons_succ])
                                            refine wpAnyH_take (i := 19) (oi := { dst := some 84, op := Op.load 4 (Operand.tmp 83), type := 4, pos := _, after := #[{ on := 18, ground := Ground.data }, { on := 13, ground := Ground.guard }], guard := some (13, false) }) (v := ?v115) rfl (by kernel_rfl) (by kernel_rfl) (by kernel_rfl) (fun _ _ _ h => h) (Or.inl ⟨by rfl, ?h115⟩) (by assumption) ?r115
                                            case h115 => (intro w hSw; (try dsimp only at hSw); go_simp; (try with_reducible rfl))
                                            case r115 =>
                                              (try simp only [Act.put, List.setIfInBounds_toArray, List.set_cons_zero, List.set_cons_succ])
                                              refine wpAnyH_ready (rs := [15]) (by kernel_rfl) (by simp) ?_
                                              refine AllReadyH.cons (o := { dst := some 80, op := Op.call { callee := Callee.value (Operand.func 15), args := #[Operand.tmp 79], argTypes := #[25] }, type := 4, pos := _, after := #[{ on := 14, ground := Ground.data }, { on := 13, ground := Ground.chain }, { on := 13, ground := Ground.guard }], guard := some (13, false) }) rfl (fun K hK => ?_) AllReadyH.nil
                                              go_simp
                                              go_at_call 15
                                              go_fit L5.out
                                              rintro e w6 ⟨rfl, rfl⟩
                                              (try go_wp2_with fail)
                                              refine hK.out _ _ hHeld2 (fun hHeld => ?_)
                                              clear hK K
                                              (try simp only [Act.put, List.setIfInBounds_toArray, List.set_cons_zero, List.set_cons_succ])
                                              refine wpAnyH_take (i := 20) (oi := { dst := some 85, op := Op.move (Operand.tmp 84), type := 4, pos := _, after := #[{ on := 19, ground := Ground.data }, { on := 15, ground := Ground.chain }, { on := 13, ground := Ground.guard }], guard := some (13, false) }) (v := ?v116) rfl (by kernel_rfl) (by kernel_rfl) (by kernel_rfl) (fun _ _ _ h => h) (Or.inl ⟨by rfl, ?h116⟩) (by assumption) ?r116
                                              case h116 => (intro w hSw; (try dsimp only at hSw); go_simp; (try with_reducible rfl))
                                              case r116 =>
                                                (try simp only [Act.put, List.setIfInBounds_toArray, List.set_cons_zero, List.set_cons_succ])
                                                refine wpAnyH_take (i := 21) (oi := { dst := some 86, op := Op.move (Operand.tmp 4), type := 27, pos := _, after := #[{ on := 20, ground := Ground.guard }], guard := some (20, false) }) (v := undef) rfl (by kernel_rfl) (by kernel_rfl) (by kernel_rfl) (fun _ _ _ h => h) (Or.inr ⟨by rfl, rfl⟩) (by assumption) ?_
                                                (try simp only [Act.put, List.setIfInBounds_toArray, List.set_cons_zero, List.set_cons_succ])
                                                refine wpAnyH_take (i := 22) (oi := { dst := some 87, op := Op.nilCheck (Operand.tmp 86), type := 0, pos := _, after := #[{ on := 21, ground := Ground.data }, { on := 20, ground := Ground.guard }], guard := some (20, false) }) (v := undef) rfl (by kernel_rfl) (by kernel_rfl) (by kernel_rfl) (fun _ _ _ h => h) (Or.inr ⟨by rfl, rfl⟩) (by assumption) ?_
                                                (try simp only [Act.put, List.setIfInBounds_toArray, List.set_cons_zero, List.set_cons_succ])
                                                refine wpAnyH_take (i := 23) (oi := { dst := some 88, op := Op.fieldAddr 30 (Operand.tmp 87) 0, type := 0, pos := _, after := #[{ on := 22, ground := Ground.data }, { on := 20, ground := Ground.guard }], guard := some (20, false) }) (v := undef) rfl (by kernel_rfl) (by kernel_rfl) (by kernel_rfl) (fun _ _ _ h => h) (Or.inr ⟨by rfl, rfl⟩) (by assumption) ?_
                                                (try simp only [Act.put, List.setIfInBounds_toArray, List.set_cons_zero, List.set_cons_succ])
                                                refine wpAnyH_take (i := 24) (oi := { dst := some 89, op := Op.load 9 (Operand.tmp 88), type := 9, pos := _, after := #[{ on := 23, ground := Ground.data }, { on := 20, ground := Ground.guard }], guard := some (20, false) }) (v := undef) rfl (by kernel_rfl) (by kernel_rfl) (by kernel_rfl) (fun _ _ _ h => h) (Or.inr ⟨by rfl, rfl⟩) (by assumption) ?_
                                                (try simp only [Act.put, List.setIfInBounds_toArray, List.set_cons_zero, List.set_cons_succ])
                                                refine wpAnyH_take (i := 25) (oi := { dst := some 90, op := Op.binOp BinOp.neq 9 (Operand.tmp 89) (Operand.const (Value.string { data := #[] })) 9, type := 4, pos := _, after := #[{ on := 24, ground := Ground.data }, { on := 20, ground := Ground.guard }], guard := some (20, false) }) (v := undef) rfl (by kernel_rfl) (by kernel_rfl) (by kernel_rfl) (fun _ _ _ h => h) (Or.inr ⟨by rfl, rfl⟩) (by assumption) ?_
                                                (try simp only [Act.put, List.setIfInBounds_toArray, List.set_cons_zero, List.set_cons_succ])
                                                refine wpAnyH_take (i := 26) (oi := { dst := some 91, op := Op.pick (Operand.tmp 85) (Operand.const (Value.bool true)) (Operand.tmp 90), type := 4, pos := _, after := #[{ on := 20, ground := Ground.data }, { on := 25, ground := Ground.data }, { on := 13, ground := Ground.guard }], guard := some (13, false) }) (v := ?v117) rfl (by kernel_rfl) (by kernel_rfl) (by kernel_rfl) (fun _ _ _ h => h) (Or.inl ⟨by rfl, ?h117⟩) (by assumption) ?r117
                                                case h117 => (intro w hSw; (try dsimp only at hSw); go_simp; (try with_reducible rfl))
                                                case r117 =>
                                                  (try simp only [Act.put, List.setIfInBounds_toArray, List.set_cons_zero, List.set_cons_succ])
                                                  refine wpAnyH_take (i := 27) (oi := { dst := some 92, op := Op.binOp BinOp.neq 4 (Operand.tmp 80) (Operand.tmp 91) 4, type := 4, pos := _, after := #[{ on := 15, ground := Ground.data }, { on := 26, ground := Ground.data }, { on := 13, ground := Ground.guard }], guard := some (13, false) }) (v := ?v118) rfl (by kernel_rfl) (by kernel_rfl) (by kernel_rfl) (fun _ _ _ h => h) (Or.inl ⟨by rfl, ?h118⟩) (by assumption) ?r118
                                                  case h118 => (intro w hSw; (try dsimp only at hSw); go_simp; (try with_reducible rfl))
                                                  case r118 =>
                                                    (try simp only [Act.put, List.setIfInBounds_toArray, List.set_cons_zero, List.set_cons_succ])
                                                    refine wpAnyH_take (i := 28) (oi := { dst := some 93, op := Op.pick (Operand.tmp 78) (Operand.const (Value.bool true)) (Operand.tmp 92), type := 4, pos := _, after := #[{ on := 13, ground := Ground.data }, { on := 27, ground := Ground.data }], guard := none }) (v := ?v119) rfl (by kernel_rfl) (by kernel_rfl) (by kernel_rfl) (fun _ _ _ h => h) (Or.inl ⟨by rfl, ?h119⟩) (by assumption) ?r119
                                                    case h119 => (intro w hSw; (try dsimp only at hSw); go_simp; (try with_reducible rfl))
                                                    case r119 =>
                                                      (try simp only [Act.put, List.setIfInBounds_toArray, List.set_cons_zero, List.set_cons_succ])
                                                      refine wpAnyH_done (by kernel_rfl) ?_ _
                                                      go_wp2_with fail
                                                      go_roundw
                                                      case rel => (obtain ⟨v9, u9, hT9⟩ := HT9.out; exact ⟨i + 1, by go_num, hlt, ⟨v9, u9, Q, hT9, HQ.out⟩⟩)
                                                      case measure => (simp [intOf]; omega)
                                  | false =>
                                    cases hx : (X0.toList == []) with
                                    | true =>
                                      have hW : WQ = false := by have h1 := HWQ.out; rw [hx] at h1; exact h1.symm
                                      subst hW
                                      clear HWQ
                                      refine wpAnyH_take (i := 14) (oi := { dst := some 79, op := Op.move (Operand.tmp 3), type := 25, pos := _, after := #[{ on := 13, ground := Ground.guard }], guard := some (13, false) }) (v := ?v120) rfl (by kernel_rfl) (by kernel_rfl) (by kernel_rfl) (fun _ _ _ h => h) (Or.inl ⟨by rfl, ?h120⟩) (by assumption) ?r120
                                      case h120 => (intro w hSw; (try dsimp only at hSw); go_simp; (try with_reducible rfl))
                                      case r120 =>
                                        (try simp only [Act.put, List.setIfInBounds_toArray, List.set_cons_zero, List.set_cons_succ])
                                        refine wpAnyH_take (i := 16) (oi := { dst := some 81, op := Op.move (Operand.tmp 4), type := 27, pos := _, after := #[{ on := 13, ground := Ground.guard }], guard := some (13, false) }) (v := ?v121) rfl (by kernel_rfl) (by kernel_rfl) (by kernel_rfl) (fun _ _ _ h => h) (Or.inl ⟨by rfl, ?h121⟩) (by assumption) ?r121
                                        case h121 => (intro w hSw; (try dsimp only at hSw); go_simp; (try with_reducible rfl))
                                        case r121 =>
                                          (try simp only [Act.put, List.setIfInBounds_toArray, List.set_cons_zero, List.set_cons_succ])
                                          refine wpAnyH_take (i := 17) (oi := { dst := some 82, op := Op.nilCheck (Operand.tmp 81), type := 0, pos := _, after := #[{ on := 16, ground := Ground.data }, { on := 13, ground := Ground.guard }], guard := some (13, false) }) (v := ?v122) rfl (by kernel_rfl) (by kernel_rfl) (by kernel_rfl) (fun _ _ _ h => h) (Or.inl ⟨by rfl, ?h122⟩) (by assumption) ?r122
                                          case h122 => (intro w hSw; (try dsimp only at hSw); go_simp; (try with_reducible rfl))
                                          case r122 =>
                                            (try simp only [Act.put, List.setIfInBounds_toArray, List.set_cons_zero, List.set_cons_succ])
                                            refine wpAnyH_take (i := 18) (oi := { dst := some 83, op := Op.fieldAddr 30 (Operand.tmp 82) 1, type := 0, pos := _, after := #[{ on := 17, ground := Ground.data }, { on := 13, ground := Ground.guard }], guard := some (13, false) }) (v := ?v123) rfl (by kernel_rfl) (by kernel_rfl) (by kernel_rfl) (fun _ _ _ h => h) (Or.inl ⟨by rfl, ?h123⟩) (by assumption) ?r123
                                            case h123 => (intro w hSw; (try dsimp only at hSw); go_simp; (try with_reducible rfl))
                                            case r123 =>
                                              (try simp only [Act.put, List.setIfInBounds_toArray, List.set_cons_zero, List.set_cons_succ])
                                              refine wpAnyH_take (i := 19) (oi := { dst := some 84, op := Op.load 4 (Operand.tmp 83), type := 4, pos := _, after := #[{ on := 18, ground := Ground.data }, { on := 13, ground := Ground.guard }], guard := some (13, false) }) (v := ?v124) rfl (by kernel_rfl) (by kernel_rfl) (by kernel_rfl) (fun _ _ _ h => h) (Or.inl ⟨by rfl, ?h124⟩) (by assumption) ?r124
                                              case h124 => (intro w hSw; (try dsimp only at hSw); go_simp; (try with_reducible rfl))
                                              case r124 =>
                                                (try simp only [Act.put, List.setIfInBounds_toArray, List.set_cons_zero, List.set_cons_succ])
                                                refine wpAnyH_ready (rs := [15]) (by kernel_rfl) (by simp) ?_
                                                refine AllReadyH.cons (o := { dst := some 80, op := Op.call { callee := Callee.value (Operand.func 15), args := #[Operand.tmp 79], argTypes := #[25] }, type := 4, pos := _, after := #[{ on := 14, ground := Ground.data }, { on := 13, ground := Ground.chain }, { on := 13, ground := Ground.guard }], guard := some (13, false) }) rfl (fun K hK => ?_) AllReadyH.nil
                                                go_simp
                                                go_at_call 15
                                                go_fit L5.out
                                                rintro e w6 ⟨rfl, rfl⟩
                                                (try go_wp2_with fail)
                                                refine hK.out _ _ hHeld2 (fun hHeld => ?_)
                                                clear hK K
                                                (try simp only [Act.put, List.setIfInBounds_toArray, List.set_cons_zero, List.set_cons_succ])
                                                refine wpAnyH_take (i := 20) (oi := { dst := some 85, op := Op.move (Operand.tmp 84), type := 4, pos := _, after := #[{ on := 19, ground := Ground.data }, { on := 15, ground := Ground.chain }, { on := 13, ground := Ground.guard }], guard := some (13, false) }) (v := ?v125) rfl (by kernel_rfl) (by kernel_rfl) (by kernel_rfl) (fun _ _ _ h => h) (Or.inl ⟨by rfl, ?h125⟩) (by assumption) ?r125
                                                case h125 => (intro w hSw; (try dsimp only at hSw); go_simp; (try with_reducible rfl))
                                                case r125 =>
                                                  (try simp only [Act.put, List.setIfInBounds_toArray, List.set_cons_zero, List.set_cons_succ])
                                                  refine wpAnyH_take (i := 21) (oi := { dst := some 86, op := Op.move (Operand.tmp 4), type := 27, pos := _, after := #[{ on := 20, ground := Ground.guard }], guard := some (20, false) }) (v := ?v126) rfl (by kernel_rfl) (by kernel_rfl) (by kernel_rfl) (fun _ _ _ h => h) (Or.inl ⟨by rfl, ?h126⟩) (by assumption) ?r126
                                                  case h126 => (intro w hSw; (try dsimp only at hSw); go_simp; (try with_reducible rfl))
                                                  case r126 =>
                                                    (try simp only [Act.put, List.setIfInBounds_toArray, List.set_cons_zero, List.set_cons_succ])
                                                    refine wpAnyH_take (i := 22) (oi := { dst := some 87, op := Op.nilCheck (Operand.tmp 86), type := 0, pos := _, after := #[{ on := 21, ground := Ground.data }, { on := 20, ground := Ground.guard }], guard := some (20, false) }) (v := ?v127) rfl (by kernel_rfl) (by kernel_rfl) (by kernel_rfl) (fun _ _ _ h => h) (Or.inl ⟨by rfl, ?h127⟩) (by assumption) ?r127
                                                    case h127 => (intro w hSw; (try dsimp only at hSw); go_simp; (try with_reducible rfl))
                                                    case r127 =>
                                                      (try simp only [Act.put, List.setIfInBounds_toArray, List.set_cons_zero, List.set_cons_succ])
                                                      refine wpAnyH_take (i := 23) (oi := { dst := some 88, op := Op.fieldAddr 30 (Operand.tmp 87) 0, type := 0, pos := _, after := #[{ on := 22, ground := Ground.data }, { on := 20, ground := Ground.guard }], guard := some (20, false) }) (v := ?v128) rfl (by kernel_rfl) (by kernel_rfl) (by kernel_rfl) (fun _ _ _ h => h) (Or.inl ⟨by rfl, ?h128⟩) (by assumption) ?r128
                                                      case h128 => (intro w hSw; (try dsimp only at hSw); go_simp; (try with_reducible rfl))
                                                      case r128 =>
                                                        (try simp only [Act.put, List.setIfInBounds_toArray, List.set_cons_zero, List.set_cons_succ])
                                                        refine wpAnyH_take (i := 24) (oi := { dst := some 89, op := Op.load 9 (Operand.tmp 88), type := 9, pos := _, after := #[{ on := 23, ground := Ground.data }, { on := 20, ground := Ground.guard }], guard := some (20, false) }) (v := ?v129) rfl (by kernel_rfl) (by kernel_rfl) (by kernel_rfl) (fun _ _ _ h => h) (Or.inl ⟨by rfl, ?h129⟩) (by assumption) ?r129
                                                        case h129 => (intro w hSw; (try dsimp only at hSw); go_simp; (try with_reducible rfl))
                                                        case r129 =>
                                                          (try simp only [Act.put, List.setIfInBounds_toArray, List.set_cons_zero, List.set_cons_succ])
                                                          refine wpAnyH_take (i := 25) (oi := { dst := some 90, op := Op.binOp BinOp.neq 9 (Operand.tmp 89) (Operand.const (Value.string { data := #[] })) 9, type := 4, pos := _, after := #[{ on := 24, ground := Ground.data }, { on := 20, ground := Ground.guard }], guard := some (20, false) }) (v := ?v130) rfl (by kernel_rfl) (by kernel_rfl) (by kernel_rfl) (fun _ _ _ h => h) (Or.inl ⟨by rfl, ?h130⟩) (by assumption) ?r130
                                                          case h130 => (intro w hSw; (try dsimp only at hSw); go_simp; (try with_reducible rfl))
                                                          case r130 =>
                                                            (try simp only [Act.put, List.setIfInBounds_toArray, List.set_cons_zero, List.set_cons_succ])
                                                            refine wpAnyH_take (i := 26) (oi := { dst := some 91, op := Op.pick (Operand.tmp 85) (Operand.const (Value.bool true)) (Operand.tmp 90), type := 4, pos := _, after := #[{ on := 20, ground := Ground.data }, { on := 25, ground := Ground.data }, { on := 13, ground := Ground.guard }], guard := some (13, false) }) (v := ?v131) rfl (by kernel_rfl) (by kernel_rfl) (by kernel_rfl) (fun _ _ _ h => h) (Or.inl ⟨by rfl, ?h131⟩) (by assumption) ?r131
                                                            case h131 => (intro w hSw; (try dsimp only at hSw); go_simp; (try with_reducible rfl))
                                                            case r131 =>
                                                              (try simp only [Act.put, List.setIfInBounds_toArray, List.set_cons_zero, List.set_cons_succ])
                                                              refine wpAnyH_take (i := 27) (oi := { dst := some 92, op := Op.binOp BinOp.neq 4 (Operand.tmp 80) (Operand.tmp 91) 4, type := 4, pos := _, after := #[{ on := 15, ground := Ground.data }, { on := 26, ground := Ground.data }, { on := 13, ground := Ground.guard }], guard := some (13, false) }) (v := ?v132) rfl (by kernel_rfl) (by kernel_rfl) (by kernel_rfl) (fun _ _ _ h => h) (Or.inl ⟨by rfl, ?h132⟩) (by assumption) ?r132
                                                              case h132 => (intro w hSw; (try dsimp only at hSw); go_simp; (try with_reducible rfl))
                                                              case r132 =>
                                                                (try simp only [Act.put, List.setIfInBounds_toArray, List.set_cons_zero, List.set_cons_succ])
                                                                refine wpAnyH_take (i := 28) (oi := { dst := some 93, op := Op.pick (Operand.tmp 78) (Operand.const (Value.bool true)) (Operand.tmp 92), type := 4, pos := _, after := #[{ on := 13, ground := Ground.data }, { on := 27, ground := Ground.data }], guard := none }) (v := ?v133) rfl (by kernel_rfl) (by kernel_rfl) (by kernel_rfl) (fun _ _ _ h => h) (Or.inl ⟨by rfl, ?h133⟩) (by assumption) ?r133
                                                                case h133 => (intro w hSw; (try dsimp only at hSw); go_simp; (try with_reducible rfl))
                                                                case r133 =>
                                                                  (try simp only [Act.put, List.setIfInBounds_toArray, List.set_cons_zero, List.set_cons_succ])
                                                                  refine wpAnyH_done (by kernel_rfl) ?_ _
                                                                  go_wp2_with fail
                                                                  go_roundw
                                                                  case rel => (obtain ⟨v9, u9, hT9⟩ := HT9.out; exact ⟨i + 1, by go_num, hlt, ⟨v9, u9, Q, hT9, HQ.out⟩⟩)
                                                                  case measure => (simp [intOf]; omega)
                                    | false =>
                                      have hW : WQ = true := by have h1 := HWQ.out; rw [hx] at h1; exact h1.symm
                                      subst hW
                                      clear HWQ
                                      refine wpAnyH_take (i := 14) (oi := { dst := some 79, op := Op.move (Operand.tmp 3), type := 25, pos := _, after := #[{ on := 13, ground := Ground.guard }], guard := some (13, false) }) (v := ?v134) rfl (by kernel_rfl) (by kernel_rfl) (by kernel_rfl) (fun _ _ _ h => h) (Or.inl ⟨by rfl, ?h134⟩) (by assumption) ?r134
                                      case h134 => (intro w hSw; (try dsimp only at hSw); go_simp; (try with_reducible rfl))
                                      case r134 =>
                                        (try simp only [Act.put, List.setIfInBounds_toArray, List.set_cons_zero, List.set_cons_succ])
                                        refine wpAnyH_take (i := 16) (oi := { dst := some 81, op := Op.move (Operand.tmp 4), type := 27, pos := _, after := #[{ on := 13, ground := Ground.guard }], guard := some (13, false) }) (v := ?v135) rfl (by kernel_rfl) (by kernel_rfl) (by kernel_rfl) (fun _ _ _ h => h) (Or.inl ⟨by rfl, ?h135⟩) (by assumption) ?r135
                                        case h135 => (intro w hSw; (try dsimp only at hSw); go_simp; (try with_reducible rfl))
                                        case r135 =>
                                          (try simp only [Act.put, List.setIfInBounds_toArray, List.set_cons_zero, List.set_cons_succ])
                                          refine wpAnyH_take (i := 17) (oi := { dst := some 82, op := Op.nilCheck (Operand.tmp 81), type := 0, pos := _, after := #[{ on := 16, ground := Ground.data }, { on := 13, ground := Ground.guard }], guard := some (13, false) }) (v := ?v136) rfl (by kernel_rfl) (by kernel_rfl) (by kernel_rfl) (fun _ _ _ h => h) (Or.inl ⟨by rfl, ?h136⟩) (by assumption) ?r136
                                          case h136 => (intro w hSw; (try dsimp only at hSw); go_simp; (try with_reducible rfl))
                                          case r136 =>
                                            (try simp only [Act.put, List.setIfInBounds_toArray, List.set_cons_zero, List.set_cons_succ])
                                            refine wpAnyH_take (i := 18) (oi := { dst := some 83, op := Op.fieldAddr 30 (Operand.tmp 82) 1, type := 0, pos := _, after := #[{ on := 17, ground := Ground.data }, { on := 13, ground := Ground.guard }], guard := some (13, false) }) (v := ?v137) rfl (by kernel_rfl) (by kernel_rfl) (by kernel_rfl) (fun _ _ _ h => h) (Or.inl ⟨by rfl, ?h137⟩) (by assumption) ?r137
                                            case h137 => (intro w hSw; (try dsimp only at hSw); go_simp; (try with_reducible rfl))
                                            case r137 =>
                                              (try simp only [Act.put, List.setIfInBounds_toArray, List.set_cons_zero, List.set_cons_succ])
                                              refine wpAnyH_take (i := 19) (oi := { dst := some 84, op := Op.load 4 (Operand.tmp 83), type := 4, pos := _, after := #[{ on := 18, ground := Ground.data }, { on := 13, ground := Ground.guard }], guard := some (13, false) }) (v := ?v138) rfl (by kernel_rfl) (by kernel_rfl) (by kernel_rfl) (fun _ _ _ h => h) (Or.inl ⟨by rfl, ?h138⟩) (by assumption) ?r138
                                              case h138 => (intro w hSw; (try dsimp only at hSw); go_simp; (try with_reducible rfl))
                                              case r138 =>
                                                (try simp only [Act.put, List.setIfInBounds_toArray, List.set_cons_zero, List.set_cons_succ])
                                                refine wpAnyH_ready (rs := [15]) (by kernel_rfl) (by simp) ?_
                                                refine AllReadyH.cons (o := { dst := some 80, op := Op.call { callee := Callee.value (Operand.func 15), args := #[Operand.tmp 79], argTypes := #[25] }, type := 4, pos := _, after := #[{ on := 14, ground := Ground.data }, { on := 13, ground := Ground.chain }, { on := 13, ground := Ground.guard }], guard := some (13, false) }) rfl (fun K hK => ?_) AllReadyH.nil
                                                go_simp
                                                go_at_call 15
                                                go_fit L5.out
                                                rintro e w6 ⟨rfl, rfl⟩
                                                (try go_wp2_with fail)
                                                refine hK.out _ _ hHeld2 (fun hHeld => ?_)
                                                clear hK K
                                                (try simp only [Act.put, List.setIfInBounds_toArray, List.set_cons_zero, List.set_cons_succ])
                                                refine wpAnyH_take (i := 20) (oi := { dst := some 85, op := Op.move (Operand.tmp 84), type := 4, pos := _, after := #[{ on := 19, ground := Ground.data }, { on := 15, ground := Ground.chain }, { on := 13, ground := Ground.guard }], guard := some (13, false) }) (v := ?v139) rfl (by kernel_rfl) (by kernel_rfl) (by kernel_rfl) (fun _ _ _ h => h) (Or.inl ⟨by rfl, ?h139⟩) (by assumption) ?r139
                                                case h139 => (intro w hSw; (try dsimp only at hSw); go_simp; (try with_reducible rfl))
                                                case r139 =>
                                                  (try simp only [Act.put, List.setIfInBounds_toArray, List.set_cons_zero, List.set_cons_succ])
                                                  refine wpAnyH_take (i := 21) (oi := { dst := some 86, op := Op.move (Operand.tmp 4), type := 27, pos := _, after := #[{ on := 20, ground := Ground.guard }], guard := some (20, false) }) (v := ?v140) rfl (by kernel_rfl) (by kernel_rfl) (by kernel_rfl) (fun _ _ _ h => h) (Or.inl ⟨by rfl, ?h140⟩) (by assumption) ?r140
                                                  case h140 => (intro w hSw; (try dsimp only at hSw); go_simp; (try with_reducible rfl))
                                                  case r140 =>
                                                    (try simp only [Act.put, List.setIfInBounds_toArray, List.set_cons_zero, List.set_cons_succ])
                                                    refine wpAnyH_take (i := 22) (oi := { dst := some 87, op := Op.nilCheck (Operand.tmp 86), type := 0, pos := _, after := #[{ on := 21, ground := Ground.data }, { on := 20, ground := Ground.guard }], guard := some (20, false) }) (v := ?v141) rfl (by kernel_rfl) (by kernel_rfl) (by kernel_rfl) (fun _ _ _ h => h) (Or.inl ⟨by rfl, ?h141⟩) (by assumption) ?r141
                                                    case h141 => (intro w hSw; (try dsimp only at hSw); go_simp; (try with_reducible rfl))
                                                    case r141 =>
                                                      (try simp only [Act.put, List.setIfInBounds_toArray, List.set_cons_zero, List.set_cons_succ])
                                                      refine wpAnyH_take (i := 23) (oi := { dst := some 88, op := Op.fieldAddr 30 (Operand.tmp 87) 0, type := 0, pos := _, after := #[{ on := 22, ground := Ground.data }, { on := 20, ground := Ground.guard }], guard := some (20, false) }) (v := ?v142) rfl (by kernel_rfl) (by kernel_rfl) (by kernel_rfl) (fun _ _ _ h => h) (Or.inl ⟨by rfl, ?h142⟩) (by assumption) ?r142
                                                      case h142 => (intro w hSw; (try dsimp only at hSw); go_simp; (try with_reducible rfl))
                                                      case r142 =>
                                                        (try simp only [Act.put, List.setIfInBounds_toArray, List.set_cons_zero, List.set_cons_succ])
                                                        refine wpAnyH_take (i := 24) (oi := { dst := some 89, op := Op.load 9 (Operand.tmp 88), type := 9, pos := _, after := #[{ on := 23, ground := Ground.data }, { on := 20, ground := Ground.guard }], guard := some (20, false) }) (v := ?v143) rfl (by kernel_rfl) (by kernel_rfl) (by kernel_rfl) (fun _ _ _ h => h) (Or.inl ⟨by rfl, ?h143⟩) (by assumption) ?r143
                                                        case h143 => (intro w hSw; (try dsimp only at hSw); go_simp; (try with_reducible rfl))
                                                        case r143 =>
                                                          (try simp only [Act.put, List.setIfInBounds_toArray, List.set_cons_zero, List.set_cons_succ])
                                                          refine wpAnyH_take (i := 25) (oi := { dst := some 90, op := Op.binOp BinOp.neq 9 (Operand.tmp 89) (Operand.const (Value.string { data := #[] })) 9, type := 4, pos := _, after := #[{ on := 24, ground := Ground.data }, { on := 20, ground := Ground.guard }], guard := some (20, false) }) (v := ?v144) rfl (by kernel_rfl) (by kernel_rfl) (by kernel_rfl) (fun _ _ _ h => h) (Or.inl ⟨by rfl, ?h144⟩) (by assumption) ?r144
                                                          case h144 => (intro w hSw; (try dsimp only at hSw); go_simp; (try with_reducible rfl))
                                                          case r144 =>
                                                            (try simp only [Act.put, List.setIfInBounds_toArray, List.set_cons_zero, List.set_cons_succ])
                                                            refine wpAnyH_take (i := 26) (oi := { dst := some 91, op := Op.pick (Operand.tmp 85) (Operand.const (Value.bool true)) (Operand.tmp 90), type := 4, pos := _, after := #[{ on := 20, ground := Ground.data }, { on := 25, ground := Ground.data }, { on := 13, ground := Ground.guard }], guard := some (13, false) }) (v := ?v145) rfl (by kernel_rfl) (by kernel_rfl) (by kernel_rfl) (fun _ _ _ h => h) (Or.inl ⟨by rfl, ?h145⟩) (by assumption) ?r145
                                                            case h145 => (intro w hSw; (try dsimp only at hSw); go_simp; (try with_reducible rfl))
                                                            case r145 =>
                                                              (try simp only [Act.put, List.setIfInBounds_toArray, List.set_cons_zero, List.set_cons_succ])
                                                              refine wpAnyH_take (i := 27) (oi := { dst := some 92, op := Op.binOp BinOp.neq 4 (Operand.tmp 80) (Operand.tmp 91) 4, type := 4, pos := _, after := #[{ on := 15, ground := Ground.data }, { on := 26, ground := Ground.data }, { on := 13, ground := Ground.guard }], guard := some (13, false) }) (v := ?v146) rfl (by kernel_rfl) (by kernel_rfl) (by kernel_rfl) (fun _ _ _ h => h) (Or.inl ⟨by rfl, ?h146⟩) (by assumption) ?r146
                                                              case h146 => (intro w hSw; (try dsimp only at hSw); go_simp; (try with_reducible rfl))
                                                              case r146 =>
                                                                (try simp only [Act.put, List.setIfInBounds_toArray, List.set_cons_zero, List.set_cons_succ])
                                                                refine wpAnyH_take (i := 28) (oi := { dst := some 93, op := Op.pick (Operand.tmp 78) (Operand.const (Value.bool true)) (Operand.tmp 92), type := 4, pos := _, after := #[{ on := 13, ground := Ground.data }, { on := 27, ground := Ground.data }], guard := none }) (v := ?v147) rfl (by kernel_rfl) (by kernel_rfl) (by kernel_rfl) (fun _ _ _ h => h) (Or.inl ⟨by rfl, ?h147⟩) (by assumption) ?r147
                                                                case h147 => (intro w hSw; (try dsimp only at hSw); go_simp; (try with_reducible rfl))
                                                                case r147 =>
                                                                  (try simp only [Act.put, List.setIfInBounds_toArray, List.set_cons_zero, List.set_cons_succ])
                                                                  refine wpAnyH_done (by kernel_rfl) ?_ _
                                                                  go_wp2_with fail
                                                                  go_roundw
                                                                  case rel => (obtain ⟨v9, u9, hT9⟩ := HT9.out; exact ⟨i + 1, by go_num, hlt, ⟨v9, u9, Q, hT9, HQ.out⟩⟩)
                                                                  case measure => (simp [intOf]; omega)
    · have k1 : (n : Int) ≤ (i : Int) := by omega
      have hbw : Below w0.heap.size w0 wr := by obtain ⟨_, _, _, hT, _⟩ := HI.out; exact hT.bel
      have HB := Lib.hid hbw
      clear hbw HI
      go_wp2_with fail
      go_fit (HP.out _ HB.out)
      rintro e w3 ⟨rfl, hb3⟩
      go_wp2_with fail
      go_ret
      exact ⟨rfl, HB.out.trans (hb3.mono HB.out.size)⟩
theorem keysTell_any (v : Value) (l : List KAct) (w : World) (hL : TabK w.heap.size w) (hS : KActsW w v l) :
    Calls Tryd.prog 3 #[v] w fun e w' => e = .returned (.bool true) ∧ Below w.heap.size w w' := by
  cases h : greatB l with
  | true => exact keysTell_far v l w hL hS h
  | false => exact keysTell_near v l w hL hS h
end Go.Proofs.YtdnldfgolbcjiaaDoor
