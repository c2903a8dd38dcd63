/-
  regs.kidsBelow: what it returns, for every level of nodes.
-/
import Derived.Test.YtkopbngnhgdfhaaDoorBe22
import Derived.Test.YtkopbngnhgdfhaaDoorBe35
namespace Go.Proofs.YtkopbngnhgdfhaaDoor
open Go.RowKit

theorem kpF_of {ok : Nat → Prop} {w : World} {l : List Nd} {u : Value} (h : KidsF ok w l u) : KpF w (kpK u) := by
  obtain ⟨ao, c, rfl, _⟩ := h.form
  intro a ha
  by_cases h0 : l.length = 0
  · rw [show kpK (.slice ao l.length c) = (none, 0) from if_pos h0] at ha
    cases ha
  · rw [show kpK (.slice ao l.length c) = (ao, l.length) from if_neg h0] at ha
    obtain ⟨g, o, c1, x, hv, _, _, _, _, _, hf⟩ := h.at_ (i := 0) (n := l[0]) (List.getElem?_eq_getElem (by omega))
    injection hv with e1 _ _
    simp only at ha
    rw [e1] at ha
    cases ha
    exact hf
/-- What lies in memory while kidsBelow goes over a level. -/
structure KbW (w0 w : World) (N : Nat) (l : List Nd) (vl : Value) (lo : List Nd) (v : Value) (ks : List Kp) (i : Nat) : Prop where
  lev : KidsF (fun k => k < N) w l vl
  set : SetM kpV w N ks
  out : OutG 26 N w v lo
  bel : Below N w0 w
  sz : N + 1 ≤ w.heap.size
  keys : ∀ k, k ∈ ks → KpF w k ∧ ∃ n u, n ∈ l ∧ KidsF (fun k => k < N) w n.kids u ∧ kpK u = k ∧ ∀ x, x ∈ n.kids → x ∈ lo
  fin : ∀ x, x ∈ lo → ∃ n, n ∈ l ∧ x ∈ n.kids
  done : ∀ n, n ∈ l.take i → formR n.kind n.set n.kids.length = true ∧ ∀ x, x ∈ n.kids → x ∈ lo
  wt : wtL lo ≤ wtL (l.take i)
section
variable {w0 w w' : World} {N i : Nat} {l lo : List Nd} {vl v : Value} {ks : List Kp}
theorem KbW.under (h : KbW w0 w N l vl lo v ks i) (hb : Below w.heap.size w w') : KbW w0 w' N l vl lo v ks i :=
  ⟨h.lev.under hb, h.set.under hb, h.out.below hb, h.bel.trans (hb.mono (by have := h.sz; omega)), Nat.le_trans h.sz hb.size, fun k hk => by
    obtain ⟨h1, n, u, h2, h3, h4⟩ := h.keys k hk
    exact ⟨fun a ha => (h1 a ha).under hb, n, u, h2, h3.under hb, h4⟩, h.fin, h.done, h.wt⟩
theorem take_next {l : List Nd} {i : Nat} {n : Nd} (hi : l[i]? = some n) : l.take (i + 1) = l.take i ++ [n] := by rw [List.take_add_one, hi]; rfl
theorem KbW.new {w : World} (hl : KidsF (fun k => k < w.heap.size) w l vl) : KbW w (w.alloc (.map #[] 0)) w.heap.size l vl [] (.slice none 0 0) [] 0 := by
  have hb := alloc_under w (.map #[] 0)
  exact ⟨hl.under hb, SetM.new w, OutG.nil _ _ _, hb, by rw [alloc_size]; exact Nat.le_refl _, (fun k hk => by cases hk), (fun x hx => by cases hx), (fun n hn => by simp at hn), by simp [wtL]⟩
/-- A list that was met is passed over. -/
theorem KbW.skip {n : Nd} {u : Value} (h : KbW w0 w N l vl lo v ks i) (hi : l[i]? = some n) (hu : KidsF (fun k => k < N) w n.kids u) (hf : formR n.kind n.set n.kids.length = true) (hk : kpK u ∈ ks) : KbW w0 w N l vl lo v ks (i + 1) := by
  obtain ⟨_, n', u', hn', hu', hkk, hx⟩ := h.keys _ hk
  have e := kids_det hu' hu hkk
  have ht := take_next hi
  refine ⟨h.lev, h.set, h.out, h.bel, h.sz, h.keys, h.fin, fun m hm => ?_, ?_⟩
  · rw [ht] at hm
    rcases List.mem_append.1 hm with hm | hm
    · exact h.done m hm
    · rw [List.mem_singleton.1 hm]
      exact ⟨hf, fun x hxx => hx x (by rw [e]; exact hxx)⟩
  · rw [ht, wtL_app]
    have := h.wt
    omega
/-- A new list is put in. -/
theorem KbW.put {n : Nd} {u : Value} {w2 : World} (h : KbW w0 w N l vl lo v ks i) (hi : l[i]? = some n) (hu : KidsF (fun k => k < N) w n.kids u) (hf : formR n.kind n.set n.kids.length = true)
    (hs : SetM kpV w2 N (ks ++ [kpK u])) (hk : KeepW (fun k => k ≠ N) w w2) (t ty : TypeId) (ht : Tryd.prog.underlying t = some (.slice 26)) (hl : lo.length + n.kids.length ≤ 100000) :
    ∃ v' w3, (Builtin.append_ #[t, t] ty #[v, u]).run Tryd.prog w2 = .ok v' w3 ∧ KbW w0 w3 N l vl (lo ++ n.kids) v' (ks ++ [kpK u]) (i + 1) ∧ Below N w w3 := by
  obtain ⟨i0, z, hi0, hz0, hzl, hz1, hz2⟩ := infoN
  have hsz := h.sz
  have hsz2 := hk.size
  have hout := h.out.keep hk fun k hk => hk
  have hlev := h.lev.keep hk fun k _ hk => by omega
  have hu2 := hu.keep hk fun k _ hk => by omega
  obtain ⟨v', w3, hr, hO, hk3⟩ := run_outG t ty i0 z ht hi0 hz0 hzl hz1 hz2 hout hu2 (by omega) hl
  have hno : ∀ k, k ≤ N → v.ownBlock ≠ some k := fun k hk e => by have := (OutG.lt hout k e).1; omega
  have hmem : n ∈ l := List.mem_of_getElem? hi
  refine ⟨v', w3, hr, ⟨hlev.keep hk3 fun k _ hk => hno k (by omega), hs.keep hk3 (hno N (Nat.le_refl _)), hO, KeepW.below (KeepW.below h.bel hk (by omega) fun k hk => by omega) hk3 (by omega) (fun k hk => hno k (by omega)), by have := hk3.size; omega, fun k hkm => ?_, fun x hx => ?_, fun m hm => ?_, ?_⟩, ?_⟩
  · have up : ∀ {m : List Nd} {y : Value}, KidsF (fun k => k < N) w m y → KidsF (fun k => k < N) w3 m y := fun hh => (hh.keep hk fun k _ hk => by omega).keep hk3 fun k _ hk => hno k (by omega)
    rcases List.mem_append.1 hkm with hkm | hkm
    · obtain ⟨_, n', y, h2, h3, h4, h5⟩ := h.keys k hkm
      have h6 := up h3
      exact ⟨by rw [← h4]; exact kpF_of h6, n', y, h2, h6, h4, fun x hx => List.mem_append.2 (.inl (h5 x hx))⟩
    · rw [List.mem_singleton.1 hkm]
      have h6 := up hu
      exact ⟨kpF_of h6, n, u, hmem, h6, rfl, fun x hx => List.mem_append.2 (.inr hx)⟩
  · rcases List.mem_append.1 hx with hx | hx
    · exact h.fin x hx
    · exact ⟨n, hmem, hx⟩
  · rw [take_next hi] at hm
    rcases List.mem_append.1 hm with hm | hm
    · exact ⟨(h.done m hm).1, fun x hx => List.mem_append.2 (.inl ((h.done m hm).2 x hx))⟩
    · rw [List.mem_singleton.1 hm]
      exact ⟨hf, fun x hx => List.mem_append.2 (.inr hx)⟩
  · rw [take_next hi, wtL_app, wtL_app, wtL_one, wt_kids n]
    have := h.wt
    omega
  · exact KeepW.below (KeepW.below (Below.refl N w) hk (by omega) fun k hk => by omega) hk3 (by omega) fun k hk => hno k (by omega)
end
theorem kp_equal (a b : Kp) (w : World) (ha : KpF w a) (hb : KpF w b) : (Op.equal 68 (kpV a) (kpV b)).run Tryd.prog w = .ok (decide (a = b)) w := kp_eqIn 9998 a b w ha hb
/-- What kidsBelow comes to. -/
def BelowP (l : List Nd) (w w' : World) (e : Ending) : Prop :=
  Below w.heap.size w w' ∧
    ((∃ v l', e = .returned (.tuple #[v, .bool true]) ∧ KidsF (fun _ => True) w' l' v ∧ (∀ x, x ∈ l' ↔ ∃ n, n ∈ l ∧ x ∈ n.kids) ∧ wtL l' ≤ wtL l ∧ ∀ n, n ∈ l → formR n.kind n.set n.kids.length = true) ∨
    (e = .returned (.tuple #[.slice none 0 0, .bool false]) ∧ ∃ n, n ∈ l ∧ formR n.kind n.set n.kids.length = false))
set_option maxRecDepth 4000 in
set_option maxHeartbeats 16000000 in
theorem pbelow_any (l : List Nd) (v : Value) (w : World) (hv : KidsF (fun _ => True) w l v) (hw : wtL l ≤ 100000) :
    Calls Tryd.prog 49 #[v] w fun e w' => BelowP l w w' e := by
  obtain ⟨vo, vc, rfl, hvl, hvb⟩ := hv.form
  have HS0 := Lib.hid (KbW.new (hv.mono (ok' := fun k => k < w.heap.size) fun k hk _ => hk))
  have hmm := run_makeMap_plain (P := Tryd.prog) w 135
  have hll := wtL_len l
  obtain ⟨n, hn⟩ : ∃ n, l.length = n := ⟨_, rfl⟩
  have HL := Lib.hid hn
  rw [hn] at hvl hvb HS0 hll ⊢
  clear hn hv
  go_enter Tryd.func49, Tryd.ntmps49
  go_wp2_with fail
  obtain ⟨W1, hW1⟩ : ∃ W1, w.alloc (.map #[] 0) = W1 := ⟨_, rfl⟩
  (try rw [hW1])
  rw [hW1] at HS0
  clear hW1 hmm
  obtain ⟨N, hN⟩ : ∃ N, w.heap.size = N := ⟨_, rfl⟩
  (try rw [hN])
  rw [hN] at HS0
  have HNS := Lib.hid hN
  clear hN
  have HS1 : Hid (∃ v lo ks, v = Value.slice none 0 0 ∧ KbW w W1 N l (.slice vo n vc) lo v ks 0) := ⟨_, _, _, rfl, HS0.out⟩
  clear HS0
  go_loopw [2, 13] (fun s2 s13 wr => ∃ i : Nat, s13 = .int .i64 (i : Int) ∧ i ≤ n ∧ Hid (∃ v lo ks, v = s2 ∧ KbW w wr N l (.slice vo n vc) lo v ks i)) (fun _ s13 _ => n - (intOf s13).toNat)
  case atStart => exact ⟨0, rfl, Nat.zero_le _, HS1⟩
  case round =>
    obtain ⟨i, rfl, hi, HI⟩ := hrel
    clear HS1
    obtain ⟨v, lo, ks, hvs, hQ⟩ := HI.out
    subst hvs
    have HQ := Lib.hid hQ
    clear HI hQ
    have i0 : (0 : Int) ≤ (i : Int) := by omega
    have ib : (i : Int) ≤ 9223372036854775807 := by omega
    by_cases hlt : i < n
    · have hli : (i : Int) < (n : Int) := by omega
      have hla : i < l.length := by have := HL.out; omega
      obtain ⟨g, o, c1, xa, hua, hc1, hoa, hka, hga, _, _⟩ := HQ.out.lev.at_ (i := i) (n := l[i]) (List.getElem?_eq_getElem hla)
      have hil : l[i]? = some l[i] := List.getElem?_eq_getElem hla
      have hmem : l[i] ∈ l := List.getElem_mem hla
      have hwt := wtL_mem l _ hmem
      injection hua with e1 e2 e3
      subst e1 e3
      clear e2
      obtain ⟨pa, hpa⟩ : ∃ p, l[i] = p := ⟨_, rfl⟩
      rw [hpa] at hoa hka hga hil hmem hwt
      have x0 := hga 0 _ (by decide) rfl
      have x1 := hga 1 _ (by decide) rfl
      have x2 := hga 2 _ (by decide) rfl
      have x3 := hga 3 _ (by decide) rfl
      have x4 := hga 4 _ (by decide) rfl
      have x5 := hga 5 _ (by decide) rfl
      simp only [Nat.add_zero, ← Nat.add_assoc] at x0 x1 x2 x3 x4 x5
      have hgl := rlt x0
      obtain ⟨xo, xc, rfl, hxl, _⟩ := hka.form
      have HFI := Lib.hid (fun W (hW : Below wr.heap.size wr W) => pfits_any pa (.slice xo pa.kids.length xc) W (hka.W.under hW))
      have HKO := Lib.hid (fun W (hW : Below wr.heap.size wr W) => pkidsOf_any pa (.slice xo pa.kids.length xc) W (hka.W.under hW))
      unfold nodeV at HFI HKO
      have HP := Lib.hid (And.intro hil (And.intro hka (And.intro hmem hwt)))
      have hb2 := alloc_under wr (.cells #[.int .i64 pa.kind, .int .u64 (pa.set.1 : Int), .int .u64 (pa.set.2.1 : Int), .int .u64 (pa.set.2.2.1 : Int), .int .u64 (pa.set.2.2.2 : Int), .slice xo pa.kids.length xc] 26)
      have H2 := Lib.hid (And.intro hb2 (boxN.new 26 wr pa.kind pa.set (.slice xo pa.kids.length xc)))
      clear hga hoa hka hla hpa hil hmem hwt hb2
      rcases hfo : formR pa.kind pa.set pa.kids.length with _ | _
      · rw [hfo] at HFI
        have HNO : Hid (∃ n, n ∈ l ∧ formR n.kind n.set n.kids.length = false) := ⟨pa, HP.out.2.2.1, hfo⟩
        clear hfo
        go_wp2_with fail
        go_fit (HFI.out _ H2.out.1)
        rintro e w3 ⟨rfl, hb3⟩
        have hB3 := Lib.hid (HQ.out.bel.trans ((H2.out.1.mono (by have := HQ.out.sz; omega)).trans (hb3.mono (by have := HQ.out.sz; have := H2.out.1.size; omega))))
        clear hb3
        go_wp2_with fail
        go_ret2
        exact ⟨by rw [HNS.out]; exact hB3.out, .inr ⟨rfl, HNO.out⟩⟩
      · rw [hfo] at HFI
        have HFO := Lib.hid hfo
        clear hfo
        go_wp2_with fail
        go_fit (HFI.out _ H2.out.1)
        rintro e w3 ⟨rfl, hb3⟩
        have H3 := Lib.hid (show Below wr.heap.size wr w3 ∧ boxN 26 w3 wr.heap.size pa.kind pa.set (.slice xo pa.kids.length xc) from ⟨H2.out.1.trans (hb3.mono H2.out.1.size), H2.out.2.below hb3⟩)
        clear hb3
        obtain ⟨⟨c0, c1, c2, c3, c4, c5⟩, _⟩ := H3.out.2.cells
        have hClt := H3.out.2.lt
        go_wp2_with fail
        go_fit (HKO.out _ H3.out.1)
        rintro e w4 ⟨rfl, hb4⟩
        have H4 := Lib.hid (show Below wr.heap.size wr w4 ∧ boxN 26 w4 wr.heap.size pa.kind pa.set (.slice xo pa.kids.length xc) from ⟨H3.out.1.trans (hb4.mono H3.out.1.size), H3.out.2.below hb4⟩)
        clear hb4 c0 c1 c2 c3 c4 c5 hClt
        obtain ⟨⟨p, m⟩, hkp⟩ : ∃ k, kpK (.slice xo pa.kids.length xc) = k := ⟨_, rfl⟩
        rw [hkp]
        unfold kpV
        simp only
        -- the key's box
        have hb5 := alloc_under w4 (.cells #[.pointer p, .int .i64 (m : Int)] 68)
        have hQ5 := HQ.out.under (H4.out.1.trans (hb5.mono H4.out.1.size))
        have hgood := kpF_of (HP.out.2.1.under (H4.out.1.trans (hb5.mono H4.out.1.size)))
        rw [hkp] at hgood
        have H5 := Lib.hid (And.intro hQ5 (And.intro hgood (H4.out.2.below hb5)))
        have HKP := Lib.hid hkp
        clear hb5 hkp
        by_cases hin : (p, m) ∈ ks
        · have hlk := set_look_yes (kv := kpV) 135 68 Tryd.underlying135 (by rw [Tryd.fieldsList]) hQ5.set (p, m) hin (fun em => kp_check em 9998 _ _) (fun k hk => kp_equal _ _ _ hgood (hQ5.keys k hk).1)
          unfold kpV at hlk
          simp only at hlk
          clear hQ5 hgood
          have HSK := Lib.hid (H5.out.1.skip HP.out.1 (HP.out.2.1.under (H4.out.1.trans ((alloc_under w4 (.cells #[.pointer p, .int .i64 (m : Int)] 68)).mono H4.out.1.size))) HFO.out (by rw [HKP.out]; exact hin))
          have HSU := Lib.hid (HSK.out.under (alloc_under _ (.cells #[] 72)))
          go_wp2_with fail
          exact ⟨⟨i + 1, by go_num, by omega, v, _, _, rfl, HSU.out⟩, by simp [intOf]; omega⟩
        · have hlk := set_look_no (kv := kpV) 135 68 Tryd.underlying135 (by rw [Tryd.fieldsList]) hQ5.set (p, m) hin (fun em => kp_check em 9998 _ _) (fun k hk => kp_equal _ _ _ hgood (hQ5.keys k hk).1)
          have hb6 := alloc_under (w4.alloc (.cells #[.pointer p, .int .i64 (m : Int)] 68)) (.cells #[] 72)
          have hQ6 := hQ5.under hb6
          have hg6 : KpF ((w4.alloc (.cells #[.pointer p, .int .i64 (m : Int)] 68)).alloc (.cells #[] 72)) (p, m) := fun a ha => (hgood a ha).under hb6
          obtain ⟨w7, hmu, hs7, hk7⟩ := set_put (kv := kpV) 135 68 72 Tryd.underlying135 (by rw [Tryd.fieldsList]) hQ6.set (p, m) hin (fun em => kp_check em 9998 _ _) (fun k hk => kp_equal _ _ _ hg6 (hQ6.keys k hk).1)
          rw [← HKP.out] at hs7
          have hW6 : Below wr.heap.size wr ((w4.alloc (.cells #[.pointer p, .int .i64 (m : Int)] 68)).alloc (.cells #[] 72)) := (H4.out.1.trans ((alloc_under w4 (.cells #[.pointer p, .int .i64 (m : Int)] 68)).mono H4.out.1.size)).trans (hb6.mono (Nat.le_trans H4.out.1.size (alloc_under w4 (.cells #[.pointer p, .int .i64 (m : Int)] 68)).size))
          obtain ⟨v9, w9, hr, hQ9, hb9⟩ := hQ6.put HP.out.1 (HP.out.2.1.under hW6) HFO.out hs7 hk7 24 24 Tryd.underlying24 (by
            have h1 := hQ6.wt
            have h2 := wtL_len lo
            have h3 := wtL_len pa.kids
            have h4 := HP.out.2.2.2
            rw [wt_kids] at h4
            have h5 : wtL (l.take i) + wtR pa ≤ wtL l := by
              have h6 : wtL l = wtL (l.take (i + 1)) + wtL (l.drop (i + 1)) := by rw [← wtL_app, List.take_append_drop]
              rw [take_next HP.out.1, wtL_app, wtL_one] at h6
              omega
            have h7 := wt_kids pa
            omega)
          have HB7 := Lib.hid ((H5.out.2.2.below hb6).keep hk7 (by show wr.heap.size ≠ N; have := HQ.out.sz; omega))
          have HQ9 := Lib.hid hQ9
          unfold kpV at hlk hmu
          simp only at hlk hmu
          obtain ⟨⟨d0, d1, d2, d3, d4, d5⟩, _⟩ := HB7.out.cells
          have hDlt := HB7.out.lt
          clear hQ5 hgood hb6 hQ6 hg6 hs7 hk7 hW6 hQ9 hb9
          go_wp2_with (at_builtin; refine wpList_runR (by rfl) _ _ 24 (by rfl) (by rfl) (by rfl) hr ?_)
          go_roundw
          case rel => exact ⟨i + 1, by go_num, by omega, v9, _, _, rfl, HQ9.out⟩
          case measure => (simp [intOf]; omega)
    · have hie : i = n := by omega
      subst hie
      have hwl := HQ.out.wt
      rw [List.take_of_length_le (by have := HL.out; omega)] at hwl
      have hFIN : Hid (KidsF (fun _ => True) wr lo v ∧ (∀ x, x ∈ lo ↔ ∃ n, n ∈ l ∧ x ∈ n.kids) ∧ wtL lo ≤ wtL l ∧ ∀ n, n ∈ l → formR n.kind n.set n.kids.length = true) := by
        have hd := HQ.out.done
        rw [List.take_of_length_le (by have := HL.out; omega)] at hd
        exact ⟨HQ.out.out.kids (by have := wtL_len lo; omega), fun x => ⟨HQ.out.fin x, fun ⟨n, hn, hx⟩ => (hd n hn).2 x hx⟩, hwl, fun n hn => (hd n hn).1⟩
      have HBL := Lib.hid HQ.out.bel
      clear HQ hwl
      go_wp2_with fail
      go_ret2
      exact ⟨by rw [HNS.out]; exact HBL.out, .inl ⟨v, lo, rfl, hFIN.out⟩⟩
end Go.Proofs.YtkopbngnhgdfhaaDoor
