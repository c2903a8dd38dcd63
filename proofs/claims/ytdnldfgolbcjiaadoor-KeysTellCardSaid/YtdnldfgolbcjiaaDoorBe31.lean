/-
  limnerlaw09: Same, Told, is: what each returns. Keys told beside a row of them.
-/
import Derived.Test.YtdnldfgolbcjiaaDoorBe30
import Derived.Test.YtdnldfgolbcjiaaDoorBe18
import Derived.Test.YtdnldfgolbcjiaaDoorBe22
namespace Go.Proofs.YtdnldfgolbcjiaaDoor
open Go.RowKit

/-- A decoder of the call's own, and a row of the keys that it told. -/
structure TolW (N D : Nat) (w0 w : World) (v o : Value) (p : Ky) (l : List Ke) : Prop where
  dec : DecW N w D v p
  out : OutK N w o l
  tab : TabK N w
  bel : Below N w0 w
  n : N ≤ w.heap.size
  ne1 : o.ownBlock ≠ some D
  ne2 : ∀ k, o.ownBlock = some k → v.ownBlock ≠ some k
theorem TolW.below {N D : Nat} {w0 w w' : World} {v o : Value} {p : Ky} {l : List Ke} (h : TolW N D w0 w v o p l) (hb : Below w.heap.size w w') : TolW N D w0 w' v o p l :=
  ⟨h.dec.below hb, h.out.below hb, h.tab.below hb, h.bel.trans (hb.mono h.n), Nat.le_trans h.n hb.size, h.ne1, h.ne2⟩
theorem TolW.step {N D : Nat} {w0 w w1 : World} {v o u v' : Value} {p : Ky} {l : List Ke} {r : Ky × List Ke} (h : TolW N D w0 w v o p l) (hu : KeysW (FromK w.heap.size) w1 u r.2) (hd : DecW N w1 D v' r.1) (hk : KeepW (okK D v) w w1) (hv : ∀ k, v'.ownBlock = some k → k < w.heap.size → ¬ okK D v k) (hs : l.length + r.2.length ≤ 1000000) :
    ∃ o' w2, (Builtin.append_ #[34, 34] 34 #[o, u]).run Tryd.prog w1 = .ok o' w2 ∧ TolW N D w0 w2 v' o' r.1 (l ++ r.2) := by
  have hlo := h.out.lt
  have hO : OutK N w1 o l := h.out.keep hk fun k e => ⟨fun hkD => h.ne1 (by rw [e, hkD]), h.ne2 k e⟩
  have hN1 : N ≤ w1.heap.size := Nat.le_trans h.n hk.size
  obtain ⟨o', w2, hr, hO2, hk2, hn2⟩ := run_outK 34 34 Tryd.underlying34 hO hu hN1 hs
  have hz := hk.size
  have hlv := OwnB.lt hd.row
  have hov : ∀ k, o.ownBlock = some k → v'.ownBlock ≠ some k := fun k e e2 => by
    have hkl := (hlo k e).2
    refine hv k e2 hkl ⟨fun hkD => h.ne1 (by rw [e, hkD]), h.ne2 k e⟩
  refine ⟨o', w2, hr, hd.keep hk2 h.ne1 (fun k e e2 => hov k e2 e), hO2, (h.tab.keep hk (ok_low h.dec.ge fun k e => (OwnB.lt h.dec.row k e).1)).keep hk2 (fun k hkN e => by have := (hlo k e).1; omega), ?_, Nat.le_trans hN1 hk2.size, ?_, ?_⟩
  · exact KeepW.below (KeepW.below h.bel hk h.n (ok_low h.dec.ge fun k e => (OwnB.lt h.dec.row k e).1)) hk2 hN1 fun k hkN e => by have := (hlo k e).1; omega
  · intro e
    rcases hn2 D e with h5 | h5
    · exact h.ne1 h5
    · have := hd.box.lt; omega
  · intro k e e2
    rcases hn2 k e with h5 | h5
    · exact hov k h5 e2
    · have := (hlv k e2).2; omega

/-- A turn whose keys nobody keeps. -/
theorem TolW.turn {N D : Nat} {w0 w w1 : World} {v o v' : Value} {p q : Ky} {l : List Ke} (h : TolW N D w0 w v o p l) (hd : DecW N w1 D v' q) (hk : KeepW (okK D v) w w1) (hv : ∀ k, v'.ownBlock = some k → k < w.heap.size → ¬ okK D v k) : TolW N D w0 w1 v' o q l := by
  have hlo := h.out.lt
  exact ⟨hd, h.out.keep hk fun k e => ⟨fun hkD => h.ne1 (by rw [e, hkD]), h.ne2 k e⟩, h.tab.keep hk (ok_low h.dec.ge fun k e => (OwnB.lt h.dec.row k e).1), KeepW.below h.bel hk h.n (ok_low h.dec.ge fun k e => (OwnB.lt h.dec.row k e).1), Nat.le_trans h.n hk.size, h.ne1,
    fun k e e2 => hv k e2 (hlo k e).2 ⟨fun hkD => h.ne1 (by rw [e, hkD]), h.ne2 k e⟩⟩

set_option maxRecDepth 4000 in
set_option maxHeartbeats 2000000 in
theorem same_any {ok ok2 : Nat → Prop} (l l2 : List Ke) (v v2 : Value) (w : World) (h : KeysW ok w v l) (h2 : KeysW ok2 w v2 l2) (hl : l.length ≤ 100000) (hl2 : l2.length ≤ 100000) :
    Calls Tryd.prog 12 #[v, v2] w fun e w' => e = .returned (.bool (decide (l = l2))) ∧ Below w.heap.size w w' := by
  have HA := Lib.hid (fun i a (ha : l[i]? = some a) W (hb : Below w.heap.size w W) => KeysW.at_ (h.below hb) ha)
  have HA2 := Lib.hid (fun i a (ha : l2[i]? = some a) W (hb : Below w.heap.size w W) => KeysW.at_ (h2.below hb) ha)
  obtain ⟨ao, cap, rfl, _⟩ := h.form
  obtain ⟨ao2, cap2, rfl, _⟩ := h2.form
  clear h h2
  obtain ⟨n, hn⟩ : ∃ n, l.length = n := ⟨_, rfl⟩
  obtain ⟨n2, hn2⟩ : ∃ n, l2.length = n := ⟨_, rfl⟩
  rw [hn] at hl HA ⊢
  rw [hn2] at hl2 HA2 ⊢
  have HN := Lib.hid hn
  have HN2 := Lib.hid hn2
  clear hn hn2
  by_cases e : n = n2
  · subst e
    go_enter Tryd.func12, Tryd.ntmps12
    go_wp2
    go_loopw [5] (fun s5 wr => ∃ i : Nat, s5 = .int .i64 (i : Int) ∧ i ≤ n ∧ Hid (l.take i = l2.take i) ∧ Below w.heap.size w wr) (fun s5 _ => n - (intOf s5).toNat)
    case atStart => exact ⟨0, rfl, Nat.zero_le _, rfl, Below.refl _ _⟩
    case round =>
      obtain ⟨i, rfl, hi, HT, hbw⟩ := hrel
      by_cases hlt : i < n
      · obtain ⟨a, ha⟩ : ∃ a, l[i]? = some a := ⟨_, List.getElem?_eq_getElem (by rw [HN.out]; exact hlt)⟩
        obtain ⟨a2, ha2⟩ : ∃ a, l2[i]? = some a := ⟨_, List.getElem?_eq_getElem (by rw [HN2.out]; exact hlt)⟩
        obtain ⟨g, o, c, hf, hcc, c0, c1, c2⟩ := HA.out i a ha wr hbw
        obtain ⟨g2, o2, cc2, hf2, hcc2, d0, d1, d2⟩ := HA2.out i a2 ha2 wr hbw
        have e1 : ao = some ⟨g, o, none⟩ := (Value.slice.inj hf).1
        have e2 : ao2 = some ⟨g2, o2, none⟩ := (Value.slice.inj hf2).1
        subst e1
        subst e2
        have j1 : (i : Int) < (n : Int) := by omega
        have HT2 : Hid (a = a2 → l.take (i + 1) = l2.take (i + 1)) := fun e => by
          rw [List.take_add_one, List.take_add_one, ha, ha2, HT.out, e]
        have HT3 : Hid (a ≠ a2 → l ≠ l2) := fun hne e => hne (by rw [e, ha2] at ha; exact (Option.some.inj ha).symm)
        clear hf hf2 ha ha2
        rw [Nat.mul_comm 3 i] at c0 c1 c2 d0 d1 d2
        by_cases hq : a = a2
        · have hkq : ∀ W, (binOp .neq 40 (.agg #[.int .i64 (a.1 : Int), .int .i32 (a.2.1 : Int), .string a.2.2]) (.agg #[.int .i64 (a2.1 : Int), .int .i32 (a2.2.1 : Int), .string a2.2.2])).run Tryd.prog W = .ok (.bool false) W := fun W => by rw [key_neq, decide_eq_true hq]; rfl
          have HT4 := Lib.hid (HT2.out hq)
          clear hq HT2 HT3
          go_wp2_with fail
          go_quiet (fail)
          go_wp2_with fail
          go_roundw
          case rel => exact ⟨i + 1, rfl, hlt, HT4, below_drewN hbw nq⟩
          case measure => simp [intOf]; omega
        · have hkq : ∀ W, (binOp .neq 40 (.agg #[.int .i64 (a.1 : Int), .int .i32 (a.2.1 : Int), .string a.2.2]) (.agg #[.int .i64 (a2.1 : Int), .int .i32 (a2.2.1 : Int), .string a2.2.2])).run Tryd.prog W = .ok (.bool true) W := fun W => by rw [key_neq, decide_eq_false hq]; rfl
          have HT4 := Lib.hid (HT3.out hq)
          clear hq HT2 HT3
          go_wp2_with fail
          go_quiet (fail)
          go_wp2_with fail
          go_ret
          exact ⟨by rw [decide_eq_false HT4.out]; rfl, below_drewN hbw nq⟩
      · have hie : i = n := by omega
        have HE : Hid (l = l2) := by
          have := HT.out
          rw [hie] at this
          rw [List.take_of_length_le (by rw [HN.out]; exact Nat.le_refl _), List.take_of_length_le (by rw [HN2.out]; exact Nat.le_refl _)] at this
          exact this
        subst hie
        go_wp2_with fail
        go_ret
        exact ⟨by rw [decide_eq_true HE.out]; rfl, hbw⟩
  · have e1 : ((n : Int) == (n2 : Int)) = false := beq_eq_false_iff_ne.2 (by omega)
    have HE : Hid (¬ l = l2) := fun h => e (by rw [← HN.out, ← HN2.out, h])
    go_enter Tryd.func12, Tryd.ntmps12
    go_wp2_with fail
    go_ret
    exact ⟨by rw [decide_eq_false HE.out]; rfl, Below.refl _ _⟩

theorem TabK.up {N M : Nat} {w : World} (h : TabK N w) (hM : N ≤ M) : TabK M w := ⟨h.u, h.t, Nat.lt_of_lt_of_le h.l1 hM, Nat.lt_of_lt_of_le h.l2 hM, Nat.lt_of_lt_of_le h.l3 hM, Nat.lt_of_lt_of_le h.l4 hM⟩
set_option maxRecDepth 4000 in
set_option maxHeartbeats 4000000 in
theorem ktold_any (s : ByteArray) (tick : Bool) (w : World) (hT : TabK w.heap.size w) (hs : s.size ≤ 2000) :
    Calls Tryd.prog 20 #[.string s, .bool tick] w fun e w' => ∃ u, e = .returned u ∧ KeysW (FromK w.heap.size) w' u (toldK s tick) ∧ Below w.heap.size w w' := by
  have HNW := Lib.hid (knew_any w.heap.size w (Nat.le_refl _))
  have HBT := Lib.hid (fun k (hk : k < s.size) => (show (s[k].toNat : Int) = (bt s k : Int) by unfold bt; rw [show s.get! k = s[k] from get_at s k hk]))
  have HTD : Hid (toldK s tick = (runK (.held noB) (bytesN s)).2 ++ if tick then (tickK (runK (.held noB) (bytesN s)).1).2 else []) := rfl
  have HT := Lib.hid hT
  clear hT
  go_enter Tryd.func20, Tryd.ntmps20
  go_wp2_with fail
  go_fit HNW.out
  rintro e w1 ⟨D, v, rfl, hD, hd, hv, hb1⟩
  have hst : TolW w.heap.size D w w1 v (.slice none 0 0) (.held noB) [] := ⟨hd, OutK.nil _ _, HT.out.below hb1, hb1, hb1.size, (fun e => by cases e), fun k e => by cases e⟩
  have HST : Hid (∃ v, TolW w.heap.size D w w1 v (.slice none 0 0) (runK (.held noB) ((bytesN s).take 0)).1 (runK (.held noB) ((bytesN s).take 0)).2) := ⟨v, hst⟩
  clear hst hd hv hb1
  go_wp2
  go_loopw [6, 7] (fun s6 s7 wr => ∃ k : Nat, s7 = .int .i64 (k : Int) ∧ k ≤ s.size ∧ Hid (∃ v, TolW w.heap.size D w wr v s6 (runK (.held noB) ((bytesN s).take k)).1 (runK (.held noB) ((bytesN s).take k)).2)) (fun _ s7 _ => s.size - (intOf s7).toNat)
  case atStart => exact ⟨0, rfl, Nat.zero_le _, HST⟩
  case round =>
    obtain ⟨k, rfl, hk, HI⟩ := hrel
    clear HST
    by_cases hlt : k < s.size
    · obtain ⟨v, hI⟩ := HI.out
      have hbt := HBT.out k hlt
      have hb256 := bt_lt s k
      have hl1 := run_size ((bytesN s).take k) (.held noB)
      have hl2 := run_keys ((bytesN s).take k) (.held noB)
      have hl3 : ((bytesN s).take k).length ≤ k := by rw [List.length_take]; omega
      have hz : sizeK (.held noB) = 0 := rfl
      have hrt := runK_snoc (.held noB) ((bytesN s).take k) (bt s k)
      rw [← bytesN_take s k hlt] at hrt
      obtain ⟨b, hb⟩ : ∃ b, bt s k = b := ⟨_, rfl⟩
      rw [hb] at hrt hbt hb256
      obtain ⟨P, hP⟩ : ∃ P, runK (.held noB) ((bytesN s).take k) = P := ⟨_, rfl⟩
      rw [hP] at hI hl1 hl2 hrt
      have hf2 := feed_keys P.1 b
      have HF := Lib.hid (kfeed_any w.heap.size wr D b v P.1 hI.dec hI.n hI.tab hb256 (by omega))
      have HII := Lib.hid hI
      have HRT := Lib.hid hrt
      have hki : (k : Int) < (s.size : Int) := by omega
      have hk0 : (0 : Int) ≤ (k : Int) := by omega
      clear hI hP hb HI hrt hl1 hz
      go_wp2_with fail
      go_fit HF.out
      rintro e w2 ⟨u, v', rfl, hu, hd, hkk, hv⟩
      obtain ⟨o', w3, hr, hT3⟩ := HII.out.step hu hd hkk hv (by omega)
      have HR3 : Hid (∃ v, TolW w.heap.size D w w3 v o' (runK (.held noB) ((bytesN s).take (k + 1))).1 (runK (.held noB) ((bytesN s).take (k + 1))).2) := ⟨v', by rw [HRT.out]; exact hT3⟩
      clear hu hd hkk hv hT3 HII HF HRT
      go_wp2_with (at_builtin; refine wpList_run (by rfl) _ _ 34 (by rfl) (by rfl) (by rfl) hr ?_)
      go_roundw
      case rel => exact ⟨k + 1, by go_num, by omega, HR3⟩
      case measure => simp [intOf]; omega
    · have hke : k = s.size := by omega
      have HI2 := HI
      rw [hke, List.take_of_length_le (by rw [bytesN_len]; exact Nat.le_refl _)] at HI2
      have hki : (s.size : Int) ≤ (k : Int) := by omega
      have hl2 := run_keys (bytesN s) (.held noB)
      rw [bytesN_len] at hl2
      obtain ⟨v, hI⟩ := HI2.out
      clear HI HI2 hke
      cases tick with
      | false =>
        have hfin : ∃ u, Ending.returned u6 = .returned u ∧ KeysW (FromK w.heap.size) wr u (toldK s false) ∧ Below w.heap.size w wr := ⟨_, rfl, by rw [HTD.out]; simpa using hI.out.keys, hI.bel⟩
        have HFin := Lib.hid hfin
        clear hfin hI
        go_wp2_with fail
        go_ret
        exact HFin.out
      | true =>
        have HK := Lib.hid (ktick_any w.heap.size wr D v _ hI.dec hI.n)
        have HII := Lib.hid hI
        have hf1 := tick_keys (runK (.held noB) (bytesN s)).1
        clear hI
        go_wp2_with fail
        go_fit HK.out
        rintro e w2 ⟨u, v', rfl, hu, hd, hkk, hv⟩
        obtain ⟨o', w3, hr, hT3⟩ := HII.out.step hu hd hkk hv (by omega)
        have hfin : ∃ u, Ending.returned o' = .returned u ∧ KeysW (FromK w.heap.size) w3 u (toldK s true) ∧ Below w.heap.size w w3 := ⟨_, rfl, by rw [HTD.out]; simpa using hT3.out.keys, hT3.bel⟩
        have HFin := Lib.hid hfin
        clear hu hd hkk hv hT3 HII HK hfin
        go_wp2_with (at_builtin; refine wpList_run (by rfl) _ _ 34 (by rfl) (by rfl) (by rfl) hr ?_)
        go_ret
        exact HFin.out
set_option maxHeartbeats 2000000 in
theorem kis_any {ok : Nat → Prop} (s : ByteArray) (tick : Bool) (v : Value) (l : List Ke) (w : World) (hT : TabK w.heap.size w) (hs : s.size ≤ 2000) (hv : KeysW ok w v l) (hl : l.length ≤ 1000) :
    Calls Tryd.prog 21 #[.string s, .bool tick, v] w fun e w' => e = .returned (.bool (decide (toldK s tick = l))) ∧ Below w.heap.size w w' := by
  have H1 := Lib.hid (ktold_any s tick w hT hs)
  have hlen : (toldK s tick).length ≤ 100000 := by
    unfold toldK
    have h1 := run_keys (bytesN s) (.held noB)
    have h2 := tick_keys (runK (.held noB) (bytesN s)).1
    rw [bytesN_len] at h1
    rw [List.length_append]
    split
    · omega
    · simp only [List.length_nil]; omega
  have HS := Lib.hid (fun W u (h : Below w.heap.size w W) (hu : KeysW (FromK w.heap.size) W u (toldK s tick)) => same_any (toldK s tick) l u v W hu (hv.below h) hlen (by omega))
  clear hT hv hlen
  go_enter Tryd.func21, Tryd.ntmps21
  go_wp2_with fail
  go_fit H1.out
  rintro e w1 ⟨u, rfl, hu, hb1⟩
  have HS1 := Lib.hid (HS.out w1 u hb1 hu)
  go_wp2_with fail
  go_fit HS1.out
  rintro e w2 ⟨rfl, hb2⟩
  go_wp2_with fail
  go_ret
  exact ⟨rfl, hb1.trans (hb2.mono hb1.size)⟩
end Go.Proofs.YtdnldfgolbcjiaaDoor
