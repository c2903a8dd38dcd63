/-
  For every text and every list of at most 60 acts with texts of at most 3000 bytes each: what is answered is what the document's strings say, all texts that were stay as they were, and pieces are as few as they are to be; so the law returns true. A text of more than 17000 bytes, a longer list, or a longer text in it: the examples alone, as the law says. No condition.
-/
import Derived.Test.YtalngjafpohhjaaPcPlay
import Derived.Test.YtalngjafpohhjaaPcRef
import Derived.Test.YtalngjafpohhjaaPcPut
import Derived.Test.YtalngjafpohhjaaPcOpen
import Derived.Deep.AppendLies
namespace Go.Proofs.Ytalngjafpohhjaa
open Go.ChangeShapes Go.WideShapes Go.ChangeAt Go.RowKit
open Go.ChangeMaps (open_string shut_string)

set_option maxRecDepth 100000 in
set_option maxHeartbeats 1000000 in
theorem piecesPlay_far (s : ByteArray) (v : Value) (l : List (Int × Int × Int × ByteArray)) (w : World) (hA : ActsW w v l) (h : 17000 < s.size ∨ 60 < l.length) :
    Calls Try.prog 3 #[.string s, v] w fun e w' => e = .returned (.bool true) ∧ Below w.heap.size w w' := by
  obtain ⟨ao, cap, rfl, _⟩ := hA
  have HP := Lib.hid (put_any w)
  by_cases h1 : 17000 < (s.size : Int)
  · clear h
    go_enter Try.func3, Try.ntmps3
    go_wp2_with fail
    go_fit HP.out
    rintro e w3 ⟨rfl, b3⟩
    go_wp2
    go_ret
    exact ⟨rfl, b3⟩
  · have h2 : 60 < (l.length : Int) := by omega
    clear h
    go_enter Try.func3, Try.ntmps3
    go_wp2_with fail
    go_fit HP.out
    rintro e w3 ⟨rfl, b3⟩
    go_wp2
    go_ret
    exact ⟨rfl, b3⟩

set_option maxRecDepth 100000 in
set_option maxHeartbeats 1000000 in
theorem piecesPlay_full (s : ByteArray) (v : Value) (l : List (Int × Int × Int × ByteArray)) (w : World) (hA : ActsW w v l) (hs : s.size ≤ 17000) (hl : l.length ≤ 60) (hs2 : 16384 < s.size) :
    Calls Try.prog 3 #[.string s, v] w fun e w' => e = .returned (.bool true) ∧ Below w.heap.size w w' := by
  obtain ⟨ao, cap, rfl, _⟩ := hA
  have H1 := Lib.hid (new_far s w hs2)
  have H2 := Lib.hid (fun w => refNew_far s w hs2)
  have h1 : (s.size : Int) ≤ 17000 := by omega
  have h2 : (l.length : Int) ≤ 60 := by omega
  go_enter Try.func3, Try.ntmps3
  go_wp2_with fail
  go_fit H1.out
  rintro e w1 ⟨rfl, b1⟩
  go_wp2_with fail
  go_fit (H2.out _)
  rintro e w2 ⟨rfl, rfl⟩
  have HP := Lib.hid (put_any w2)
  go_wp2_with fail
  go_fit HP.out
  rintro e w3 ⟨rfl, b3⟩
  go_wp2
  go_ret
  exact ⟨rfl, b1.trans (b3.mono b1.size)⟩

theorem PlayW.first (w0 : World) (B : Nat) (w : World) (hB : B ≤ w.heap.size) (b : Nat) (s : ByteArray) (ys : List ByteArray) (ht : TextO (fun _ => True) w (.pointer (some ⟨b, 0, none⟩)) s ys) (hs : s.size ≤ 16384) (_ : w0 = w0) :
    PlayW B ((w.alloc (.cells #[.pointer (some ⟨b, 0, none⟩)] 24)).alloc (.cells #[.string s] 9)) w.heap.size (w.heap.size + 1) (.slice (some ⟨w.heap.size, 0, none⟩) 1 1) (.slice (some ⟨w.heap.size + 1, 0, none⟩) 1 1) [(b, s)] := by
  have hb : Below w.heap.size w ((w.alloc (.cells #[.pointer (some ⟨b, 0, none⟩)] 24)).alloc (.cells #[.string s] 9)) := ((Below.refl _ _).alloc (Nat.le_refl _) _).alloc (by simp) _
  refine ⟨rfl, rfl, by omega, ⟨rfl, .inr ⟨w.heap.size, 1, #[.pointer (some ⟨b, 0, none⟩)], rfl, hB, ?_, Nat.le_refl _, by unfold maxLen; omega, rfl, rfl⟩⟩, ⟨rfl, .inr ⟨w.heap.size + 1, 1, #[.string s], rfl, by omega, ?_, Nat.le_refl _, by unfold maxLen; omega, rfl, rfl⟩⟩, fun p hp => ?_⟩
  · rw [Below.heap_alloc _ _ _ (by simp)]; exact heap_alloc_new w _
  · have := heap_alloc_new (w.alloc (.cells #[.pointer (some ⟨b, 0, none⟩)] 24)) (.cells #[.string s] 9)
    simpa using this
  · rw [List.mem_singleton] at hp
    subst hp
    refine ⟨ys, (ht.mono (ok' := fun k => k < w.heap.size) fun k hk _ => hk).below hb |>.mono fun k _ hk => ⟨by omega, by omega⟩, hs⟩

set_option maxRecDepth 100000 in
set_option maxHeartbeats 8000000 in
theorem piecesPlay_near (s : ByteArray) (v : Value) (l : List (Int × Int × Int × ByteArray)) (w : World) (hA : ActsW w v l) (hs : s.size ≤ 16384) (hl : l.length ≤ 60) :
    Calls Try.prog 3 #[.string s, v] w fun e w' => e = .returned (.bool true) ∧ Below w.heap.size w w' := by
  have HA := Lib.hid (fun W (hW : Below w.heap.size w W) => hA.below hW)
  obtain ⟨ao, cap, rfl, _⟩ := hA
  have H1 := Lib.hid (new_ok s w hs)
  have H2 := Lib.hid (fun w => refNew_ok s w hs)
  have h1 : (s.size : Int) ≤ 16384 := by omega
  have h2 : (l.length : Int) ≤ 60 := by omega
  go_enter Try.func3, Try.ntmps3
  go_wp2_with fail
  go_fit H1.out
  rintro e w1 ⟨⟨t1, rfl, T1⟩, b1⟩
  obtain ⟨tb1, rfl⟩ := T1.ptr
  have W1 := PlayW.first w w.heap.size w1 b1.size tb1 s _ T1 hs rfl
  have k1 : Below w.heap.size w ((w1.alloc (.cells #[.pointer (some ⟨tb1, 0, none⟩)] 24)).alloc (.cells #[.string s] 9)) := (b1.alloc b1.size _).alloc (by have := b1.size; simp; omega) _
  go_wp2_with fail
  go_fit (H2.out _)
  rintro e w2 ⟨rfl, rfl⟩
  clear H1 H2 b1 T1
  go_wp2
  go_loopw [9, 10, 11] (fun s9 s10 s11 wr => ∃ (i g1 g2 : Nat) (ps : List (Nat × ByteArray)), s11 = .int .i64 (i : Int) ∧ i ≤ l.length ∧ PlayW w.heap.size wr g1 g2 s9 s10 ps ∧ 1 ≤ ps.length ∧ ps.length ≤ 1 + i ∧ Below w.heap.size w wr) (fun _ _ s11 _ => l.length - (intOf s11).toNat)
  case atStart => exact ⟨0, _, _, _, rfl, Nat.zero_le _, W1, Nat.le_refl _, Nat.le_refl _, k1⟩
  case round =>
    clear W1 k1
    obtain ⟨i, g1, g2, ps, rfl, hil, hW, hp1, hpn, k⟩ := hrel
    by_cases hlt : i < l.length
    · obtain ⟨⟨K, F, T, X⟩, hx⟩ : ∃ x, l[i]? = some x := ⟨_, List.getElem?_eq_getElem hlt⟩
      obtain ⟨ao', cap', he, hcell⟩ := HA.out wr k
      obtain ⟨K0, K1, g, o, hao, c0, c1, c2, c3⟩ := hcell i _ hx
      cases he
      subst hao
      clear hcell hx
      dsimp only at K0 K1 c0 c1 c2 c3
      have hps := hW.form1
      have hps2 := hW.form2
      obtain ⟨M, hM⟩ : ∃ M, ps.length = M + 1 := ⟨ps.length - 1, by omega⟩
      rw [hM] at hps hps2
      obtain ⟨cc1, rfl, hc1⟩ := hps
      obtain ⟨cc2, rfl, hc2⟩ := hps2
      obtain ⟨⟨tb, r⟩, hp⟩ : ∃ p, ps[M]? = some p := ⟨_, List.getElem?_eq_getElem (by omega)⟩
      by_cases hX : X.size ≤ 3000
      · have x1 : (X.size : Int) ≤ 3000 := by omega
        have bX : Below wr.heap.size wr (wr.alloc (.cells #[.int .u8 K, .int .i64 F, .int .i64 T, .string X] 33)) := (Below.refl _ _).alloc (Nat.le_refl _) _
        have hWX := hW.below bX
        have f1 := hWX.cell1 M _ hp
        have f2 := hWX.cell2 M _ hp
        have m0 : (0 : Int) ≤ (M : Int) := by omega
        have m1 : (M : Int) ≤ 60 := by omega
        have m2 : IntKind.i64.wrap (M : Int) = (M : Int) := by rw [IntKind.wrap_i64]; omega
        have HXB : Hid (∀ j u, (#[.int .u8 K, .int .i64 F, .int .i64 T, .string X] : Array Value)[j]? = some u → (wr.alloc (.cells #[.int .u8 K, .int .i64 F, .int .i64 T, .string X] 33)).cell? ⟨wr.heap.size, j, none⟩ = some u) := fun j u hj => by
          rw [cell_of_row _ _ _ _ 33 (0, 0) (heap_alloc_new wr _)]; exact hj
        have HH := Lib.hid hM
        have HP := Lib.hid hp
        clear hW hM hp
        go_wp2_with fail
        go_quiet (fail)
        have kd := k.trans ((bX.trans ((below_drewN _ nq).mono (by simp))).mono k.size)
        have hP := hWX.below (below_drewN _ nq)
        have hX0 := HXB.out 0 _ rfl
        have hX1 := HXB.out 1 _ rfl
        have hX2 := HXB.out 2 _ rfl
        have hX3 := HXB.out 3 _ rfl
        rw [← (below_drewN (wr.alloc (.cells #[.int .u8 K, .int .i64 F, .int .i64 T, .string X] 33)) nq).cell (p := ⟨wr.heap.size, 0, none⟩) (by simp)] at hX0
        rw [← (below_drewN (wr.alloc (.cells #[.int .u8 K, .int .i64 F, .int .i64 T, .string X] 33)) nq).cell (p := ⟨wr.heap.size, 1, none⟩) (by simp)] at hX1
        rw [← (below_drewN (wr.alloc (.cells #[.int .u8 K, .int .i64 F, .int .i64 T, .string X] 33)) nq).cell (p := ⟨wr.heap.size, 2, none⟩) (by simp)] at hX2
        rw [← (below_drewN (wr.alloc (.cells #[.int .u8 K, .int .i64 F, .int .i64 T, .string X] 33)) nq).cell (p := ⟨wr.heap.size, 3, none⟩) (by simp)] at hX3
        obtain ⟨Wd, hWd⟩ : ∃ Wd, (wr.alloc (.cells #[.int .u8 K, .int .i64 F, .int .i64 T, .string X] 33)).drewN nq = Wd := ⟨_, rfl⟩
        rw [hWd] at kd hP hX0 hX1 hX2 hX3 ⊢
        obtain ⟨bx, hbx⟩ : ∃ bx, wr.heap.size = bx := ⟨_, rfl⟩
        rw [hbx] at hX0 hX1 hX2 hX3 ⊢
        have HXd : Hid (∀ W, Below Wd.heap.size Wd W → W.cell? ⟨bx, 0, none⟩ = some (.int .u8 K) ∧ W.cell? ⟨bx, 1, none⟩ = some (.int .i64 F) ∧ W.cell? ⟨bx, 2, none⟩ = some (.int .i64 T) ∧ W.cell? ⟨bx, 3, none⟩ = some (.string X)) := fun W hW =>
          ⟨by rw [hW.cell (p := ⟨bx, 0, none⟩) (cell_lt hX0)]; exact hX0, by rw [hW.cell (p := ⟨bx, 1, none⟩) (cell_lt hX1)]; exact hX1, by rw [hW.cell (p := ⟨bx, 2, none⟩) (cell_lt hX2)]; exact hX2, by rw [hW.cell (p := ⟨bx, 3, none⟩) (cell_lt hX3)]; exact hX3⟩
        have OK : Hid (∀ W, Below Wd.heap.size Wd W → ∀ k, W.heap.size ≤ k → k ≠ g1 ∧ k ≠ g2) := fun W hW j hj => by
          have q1 := hP.lt1.2
          have q2 := hP.lt2.2
          have q3 := hW.size
          exact ⟨by omega, by omega⟩
        obtain ⟨ys, hT, hr⟩ := hP.text M _ HP.out
        dsimp only at hT hr
        clear f1 f2 hWX bX HXB hWd hbx c0 c1 c2 c3 hX0 hX1 hX2 hX3 HA
        obtain ⟨d0, d1, d2, d3⟩ := HXd.out Wd (Below.refl _ _)
        have r1 : (r.size : Int) ≤ 16384 := by omega
        by_cases q2 : K % 5 = 2
        · cases hb : inB F T r.size
          · as_aux_lemma =>
              have D1 := Lib.hid (del_arg F T Wd hT hb)
              have D2 := Lib.hid (fun w => refDel_arg r F T w hb)
              go_wp2_with fail
              go_fit D1.out
              rintro e w2 ⟨rfl, b2⟩
              obtain ⟨e0, e1, e2, e3⟩ := HXd.out w2 b2
              clear d0 d1 d2 d3
              go_wp2_with fail
              go_fit (D2.out _)
              rintro e w3 ⟨rfl, b3⟩
              have b3' := b2.trans (b3.mono b2.size)
              clear e0 e1 e2 e3
              have hP3 := hP.below b3'
              have k3 := kd.trans (b3'.mono kd.size)
              have hl1 := HH.out
              clear b2 b3 b3' kd hP HXd OK hT D1 D2 HP HH k
              go_wp2
              go_roundw
              case rel => exact ⟨i + 1, g1, g2, ps, by go_num, by omega, hP3, by omega, by omega, k3⟩
              case measure => simp [intOf]; omega
          · as_aux_lemma =>
              have hb' : 0 ≤ F ∧ F ≤ T ∧ T ≤ (r.size : Int) := of_decide_eq_true hb
              obtain ⟨a, rfl⟩ : ∃ a : Nat, F = (a : Int) := ⟨F.toNat, by omega⟩
              obtain ⟨c, rfl⟩ : ∃ c : Nat, T = (c : Int) := ⟨T.toNat, by omega⟩
              have D1 := Lib.hid (del_okO a c Wd (OK.out Wd (Below.refl _ _)) hT (by omega) (by omega) hr)
              have D2 := Lib.hid (fun w => refDel_ok r a c w (by omega) (by omega) hr)
              have hz := putS_size r a c ⟨#[]⟩ (by omega) (by omega)
              rw [show ByteArray.size ⟨#[]⟩ = 0 from rfl, Nat.add_zero] at hz
              have hn := delL_len ys a c (by omega)
              obtain ⟨S, hS⟩ : ∃ S, putS r a c ⟨#[]⟩ = S := ⟨_, rfl⟩
              obtain ⟨zs, hzs⟩ : ∃ zs, delL ys a c = zs := ⟨_, rfl⟩
              rw [hS] at D1 D2 hz
              rw [hzs] at D1 hn
              have hz2 : S.size ≤ 16384 := by omega
              clear hS hzs hz
              go_wp2_with fail
              go_fit D1.out
              rintro e w2 ⟨⟨u, rfl, U2⟩, b2⟩
              obtain ⟨ub, rfl⟩ := U2.ptr
              obtain ⟨e0, e1, e2, e3⟩ := HXd.out w2 b2
              clear d0 d1 d2 d3
              go_wp2_with fail
              go_fit (D2.out _)
              rintro e w3 ⟨rfl, b3⟩
              have b3' := b2.trans (b3.mono b2.size)
              have U3 := U2.below b3
              have hP3 := hP.below b3'
              have T3 := hT.below b3'
              have k3 := kd.trans (b3'.mono kd.size)
              have hl1 := HH.out
              have hle := T3.text.le
              have P1 := Lib.hid (pieces_text w3 U3.text)
              have P2 := Lib.hid (pieces_text w3 T3.text)
              obtain ⟨n1, hn1⟩ : ∃ n, zs.length = n := ⟨_, rfl⟩
              obtain ⟨n2, hn2⟩ : ∃ n, ys.length = n := ⟨_, rfl⟩
              rw [hn1] at P1 hn
              rw [hn2] at P2 hn hle
              have hn3 : (n1 : Int) ≤ (n2 : Int) + 1 := by omega
              have hn4 : (n2 : Int) ≤ 16384 := by omega
              obtain ⟨v9', wa, v10', wb, g1', g2', q5, q6, hP', bp⟩ := hP3.push k3.size (by omega) U3 hz2
              have kb := k3.trans bp
              clear e0 e1 e2 e3 b2 b3 b3' kd hP HXd OK hT D1 D2 HP HH k U2 U3 T3 hP3 hn1 hn2 hle k3 bp hn
              go_wp2_with fail
              go_fit P1.out
              rintro e w4 ⟨rfl, rfl⟩
              go_wp2_with fail
              go_fit P2.out
              rintro e w5 ⟨rfl, rfl⟩
              clear P1 P2
              go_wp2_with (at_builtin; first | refine wpList_app rfl _ _ _ rfl rfl rfl q5 ?_ | refine wpList_app rfl _ _ _ rfl rfl rfl q6 ?_)
              go_roundw
              case rel => exact ⟨i + 1, g1', g2', ps ++ [(ub, S)], by go_num, by omega, hP', by rw [List.length_append]; omega, by rw [List.length_append, List.length_cons, List.length_nil]; omega, kb⟩
              case measure => simp [intOf]; omega
        · by_cases q3 : K % 5 = 3
          · as_aux_lemma =>
              have G1 : Hid (∀ W, Below Wd.heap.size Wd W → Calls Try.prog 14 #[.pointer (some ⟨tb, 0, none⟩), .int .i64 F, .int .i64 T] W fun e w' => e = .returned (.string (sliceS r F T)) ∧ Below W.heap.size W w') := fun W hW => slice_text F T W (hT.below hW).text (by omega)
              have G2 := Lib.hid (fun w => refSlice_any r F T w)
              obtain ⟨Y, hY⟩ : ∃ Y, sliceS r F T = Y := ⟨_, rfl⟩
              rw [hY] at G1 G2
              have hl1 := HH.out
              clear hY hT
              go_wp2
              go_region_held3 (fun W => W.cell? ⟨bx, 1, none⟩ = some (.int .i64 F) ∧ W.cell? ⟨bx, 2, none⟩ = some (.int .i64 T)) (first | go_keep | exact ⟨(HXd.out _ ⟨b2.os, b2.tape, b2.output, b2.size, b2.block⟩).2.1, (HXd.out _ ⟨b2.os, b2.tape, b2.output, b2.size, b2.block⟩).2.2.1⟩)
                (first
                  | (go_at_call 14; go_must (go_fit (G1.out _ ?_)); exact ⟨rfl, rfl, rfl, Nat.le_refl _, fun _ _ => rfl⟩; rintro e w2 ⟨rfl, b2⟩)
                  | (go_at_call 15; go_must (go_fit (G2.out _)); rintro e w3 ⟨rfl, rfl⟩))
              all_goals
                have b3' : Below Wd.heap.size Wd _ := ⟨b2.os, b2.tape, b2.output, b2.size, b2.block⟩
                have hP3 := hP.below b3'
                have k3 := kd.trans (b3'.mono kd.size)
                clear b2 b3' kd hP HXd OK HP HH k G1 G2
                go_wp2
                go_roundw
                case rel => exact ⟨i + 1, g1, g2, ps, by go_num, by omega, hP3.below ⟨rfl, rfl, rfl, Nat.le_refl _, fun _ _ => rfl⟩, by omega, by omega, k3.trans ⟨rfl, rfl, rfl, Nat.le_refl _, fun _ _ => rfl⟩⟩
                case measure => simp [intOf]; omega
          · by_cases q4 : K % 5 = 4
            · as_aux_lemma =>
                have hl1 := HH.out
                have hpl := HP.out
                obtain ⟨J, hJ⟩ : ∃ J : Nat, max ((M : Int) - 1) 0 = (J : Int) := ⟨(max ((M : Int) - 1) 0).toNat, by omega⟩
                have hJ2 : max ((M : Int) + 1 - 2) 0 = (J : Int) := by omega
                have hJM : J ≤ M := by omega
                obtain ⟨⟨tb2, r2⟩, hp2⟩ : ∃ p, ps[J]? = some p := ⟨_, List.getElem?_eq_getElem (by omega)⟩
                have f1 := hP.cell1 J _ hp2
                have f2 := hP.cell2 J _ hp2
                obtain ⟨ys2, hT2, hr2⟩ := hP.text J _ hp2
                dsimp only at f1 f2 hT2 hr2
                have j0 : (0 : Int) ≤ (J : Int) := by omega
                have j1 : (J : Int) < (M : Int) + 1 := by omega
                have HF : Hid (∀ W, Below Wd.heap.size Wd W → W.cell? ⟨g1, J, none⟩ = some (.pointer (some ⟨tb2, 0, none⟩)) ∧ W.cell? ⟨g2, J, none⟩ = some (.string r2)) := fun W hW =>
                  ⟨by rw [hW.cell (p := ⟨g1, J, none⟩) (cell_lt f1)]; exact f1, by rw [hW.cell (p := ⟨g2, J, none⟩) (cell_lt f2)]; exact f2⟩
                obtain ⟨i1, hi1, y0, y1, y2⟩ := info_parts Try.infoPtrT
                obtain ⟨i2, hi2, z0, z1, z2⟩ := info_parts Try.infoStr
                have HI1 := Lib.hid hi1
                have HI2 := Lib.hid hi2
                have HY := Lib.hid (And.intro y0 (And.intro y1 y2))
                have HZ := Lib.hid (And.intro z0 (And.intro z1 z2))
                have A2 : Hid (∀ o1 o2, Below Wd.heap.size Wd ((Wd.alloc o1).alloc o2)) := fun o1 o2 => ((Below.refl _ _).alloc (Nat.le_refl _) _).alloc (by simp) _
                have A1 : Hid (∀ o1, Below Wd.heap.size Wd (Wd.alloc o1)) := fun o1 => (Below.refl _ _).alloc (Nat.le_refl _) _
                have CN : Hid (∀ (W : World) u t, (W.alloc (.cells #[u] t)).cell? ⟨W.heap.size, 0, none⟩ = some u) := fun W u t => by
                  rw [cell_of_row _ _ _ _ t (0, 0) (heap_alloc_new W _)]; rfl
                have CO : Hid (∀ (W : World) u t o2, ((W.alloc (.cells #[u] t)).alloc o2).cell? ⟨W.heap.size, 0, none⟩ = some u) := fun W u t o2 => by
                  rw [World.cell?_alloc_lt _ _ _ (by simp)]; exact CN.out W u t
                have CS : Hid (∀ (W : World) o1 u t, ((W.alloc o1).alloc (.cells #[u] t)).cell? ⟨W.heap.size + 1, 0, none⟩ = some u) := fun W o1 u t => by
                  have h := CN.out (W.alloc o1) u t
                  rwa [show (W.alloc o1).heap.size = W.heap.size + 1 by simp] at h
                have NE : Hid (g1 ≠ g2 ∧ g1 < Wd.heap.size ∧ g2 < Wd.heap.size ∧ J < M + 1) := ⟨hP.ne, hP.lt1.2, hP.lt2.2, by omega⟩
                have HO : Hid (w.heap.size ≤ Wd.heap.size) := kd.size
                have OB := Lib.hid (And.intro hP.b1 hP.b2)
                have OW := Lib.hid (And.intro hP.own1 hP.own2)
                have LN : Hid (ps.length ≤ 1000) := by show _ ≤ _; omega
                rw [hl1] at OW
                clear hp2 hpl hT hi1 hi2 y0 y1 y2 z0 z1 z2
                go_wp2
                go_region_held3 (fun W => W.cell? ⟨g1, J, none⟩ = some (.pointer (some ⟨tb2, 0, none⟩)) ∧ W.cell? ⟨g2, J, none⟩ = some (.string r2))
                  (first | go_keep | exact sb.out | exact sa.out _ ⟨rfl, rfl, rfl, Nat.le_refl _, fun _ _ => rfl⟩ | exact sa.out _ ((((Below.refl _ _).alloc (Nat.le_refl _) _)).trans ⟨rfl, rfl, rfl, Nat.le_refl _, fun _ _ => rfl⟩) | exact HF.out _ ((A1.out _).trans ⟨rfl, rfl, rfl, Nat.le_refl _, fun _ _ => rfl⟩) | exact HF.out _ ((A2.out _ _).trans ⟨rfl, rfl, rfl, Nat.le_refl _, fun _ _ => rfl⟩))
                  (first
                    | (refine step_own 30 24 i1 _ 8 Try.underlying30 HI1.out HY.out.1 HY.out.2.1 HY.out.2.2 rfl (by decide) (by rfl) _ _ (by rfl) (by rfl) (by rfl) (W0 := Wd) (u := .pointer (some ⟨tb2, 0, none⟩)) ?qb OW.out.1 OB.out.1 ?qc rfl (by have := LN.out; omega) HO.out ?_
                       case qb => first | exact (A2.out _ _).trans ⟨rfl, rfl, rfl, Nat.le_refl _, fun _ _ => rfl⟩ | exact (A1.out _).trans ⟨rfl, rfl, rfl, Nat.le_refl _, fun _ _ => rfl⟩
                       case qc => first | exact CN.out _ _ _ | exact CO.out _ _ _ _ | exact CS.out _ _ _ _
                       intro v9' wa g1' bw o1 gr1 e1 f1' kp1
                       have sa : Hid (∀ W, Below wa.heap.size wa W → W.cell? ⟨g1, J, none⟩ = some (.pointer (some ⟨tb2, 0, none⟩)) ∧ W.cell? ⟨g2, J, none⟩ = some (.string r2)) := fun W hW => by
                         have h3 := (kp1 J NE.out.2.2.2).trans (HF.out _ bw).1
                         have h4 := gr1.cell (HF.out _ bw).2 (fun e => NE.out.1 (Option.some.inj e).symm)
                         exact ⟨by rw [hW.cell (p := ⟨g1, J, none⟩) (cell_lt h3)]; exact h3, by rw [hW.cell (p := ⟨g2, J, none⟩) (cell_lt h4)]; exact h4⟩)
                    | (refine step_own 31 9 i2 _ 16 Try.underlying31 HI2.out HZ.out.1 HZ.out.2.1 HZ.out.2.2 rfl (by decide) (by rfl) _ _ (by rfl) (by rfl) (by rfl) (W0 := wa) (u := .string r2) ?qb ((own_below OW.out.2 bw).kept gr1 (.inr (by rw [OB.out.2]; exact fun e => NE.out.1 (Option.some.inj e).symm))) OB.out.2 ?qc rfl (by have := LN.out; omega) (Nat.le_trans HO.out (Nat.le_trans bw.size gr1.size)) ?_
                       case qb => first | exact ⟨rfl, rfl, rfl, Nat.le_refl _, fun _ _ => rfl⟩ | exact ((Below.refl _ _).alloc (Nat.le_refl _) _).trans ⟨rfl, rfl, rfl, Nat.le_refl _, fun _ _ => rfl⟩
                       case qc => first | exact CN.out _ _ _ | exact gr1.cell (CS.out _ _ _ _) (fun e => by have := Option.some.inj e; have := NE.out.2.1; simp at *; omega) | exact gr1.cell (CO.out _ _ _ _) (fun e => by have := Option.some.inj e; have := NE.out.2.1; simp at *; omega)
                       intro v10' wb g2' bw2 o2 gr2 e2 f2' kp2
                       have sb : Hid (wb.cell? ⟨g1, J, none⟩ = some (.pointer (some ⟨tb2, 0, none⟩)) ∧ wb.cell? ⟨g2, J, none⟩ = some (.string r2)) := ⟨gr2.cell (sa.out _ bw2).1 (fun e => NE.out.1 (Option.some.inj e)), (kp2 J NE.out.2.2.2).trans (sa.out _ bw2).2⟩))
                all_goals
                  have nE := NE.out
                  have s1 := bw.size
                  have s2 := gr1.size
                  have s3 := bw2.size
                  have h1' : g1' = g1 ∨ Wd.heap.size ≤ g1' := f1'.imp id fun h => Nat.le_trans s1 h
                  have h2' : g2' = g2 ∨ Wd.heap.size ≤ g2' := f2'.imp id fun h => Nat.le_trans (Nat.le_trans s1 (Nat.le_trans s2 s3)) h
                  have lt1 := (o1.lt g1' e1).2
                  have n1 : g1' ≠ g2 := by rcases h1' with h | h <;> omega
                  have n2 : g1' ≠ g2' := by rcases f2' with h | h <;> omega
                  have o1b := (own_below o1 bw2).kept gr2 (.inr (by rw [e1]; exact fun e => n1 (Option.some.inj e)))
                  have hP' := hP.join hT2 hr2 (by rw [HH.out]; exact o1b) (by rw [HH.out]; exact o2) e1 e2 n2 h1' h2' fun k hk a1 a2 => by
                    rw [gr2.block k (by omega) (fun e => a2 (Option.some.inj e)), bw2.block k (by omega), gr1.block k (by omega) (fun e => a1 (Option.some.inj e)), bw.block k hk]
                  have p1 := hP.lt1.1
                  have p2 := hP.lt2.1
                  have t1 := kd.trans (bw.mono HO.out)
                  have t2 := t1.grown gr1 (Nat.le_trans HO.out s1) fun k hk => by cases hk; exact p1
                  have t3 := (t2.trans (bw2.mono t2.size)).grown gr2 (Nat.le_trans t2.size s3) fun k hk => by cases hk; exact p2
                  clear t1 t2 p1 p2 o1b o1 o2 gr1 gr2 kp1 kp2 sa sb bw bw2 e1 e2 f1' f2' h1' h2' lt1 n1 n2 s1 s2 s3 nE hP HXd OK hT2 HF A1 A2 CN CO CS NE OB OW LN HI1 HI2 HY HZ kd HO f1 f2 HP HH k
                  go_wp2
                  go_roundw
                  case rel => exact ⟨i + 1, g1', g2', ps ++ [(tb2, r2)], by go_num, by omega, hP', by rw [List.length_append]; omega, by rw [List.length_append, List.length_cons, List.length_nil]; omega, t3⟩
                  case measure => simp [intOf]; omega
            · cases hb : inB F F r.size
              · as_aux_lemma =>
                  have D1 := Lib.hid (ins_arg F X Wd hT hb)
                  have D2 := Lib.hid (fun w => refIns_arg r X F w hb)
                  go_wp2_with fail
                  go_fit D1.out
                  rintro e w2 ⟨rfl, b2⟩
                  obtain ⟨e0, e1, e2, e3⟩ := HXd.out w2 b2
                  clear d0 d1 d2 d3
                  go_wp2_with fail
                  go_fit (D2.out _)
                  rintro e w3 ⟨rfl, b3⟩
                  have b3' := b2.trans (b3.mono b2.size)
                  clear e0 e1 e2 e3
                  have hP3 := hP.below b3'
                  have k3 := kd.trans (b3'.mono kd.size)
                  have hl1 := HH.out
                  clear b2 b3 b3' kd hP HXd OK hT D1 D2 HP HH k
                  go_wp2
                  go_roundw
                  case rel => exact ⟨i + 1, g1, g2, ps, by go_num, by omega, hP3, by omega, by omega, k3⟩
                  case measure => simp [intOf]; omega
              · have hb' : 0 ≤ F ∧ F ≤ F ∧ F ≤ (r.size : Int) := of_decide_eq_true hb
                obtain ⟨a, rfl⟩ : ∃ a : Nat, F = (a : Int) := ⟨F.toNat, by omega⟩
                by_cases hf : 16384 < r.size + X.size
                · as_aux_lemma =>
                    have D1 := Lib.hid (ins_full (a : Int) X Wd hT hb hr hf)
                    have D2 := Lib.hid (fun w => refIns_full r X a w (by omega) hr hf (by omega))
                    go_wp2_with fail
                    go_fit D1.out
                    rintro e w2 ⟨rfl, b2⟩
                    obtain ⟨e0, e1, e2, e3⟩ := HXd.out w2 b2
                    clear d0 d1 d2 d3
                    go_wp2_with fail
                    go_fit (D2.out _)
                    rintro e w3 ⟨rfl, b3⟩
                    have b3' := b2.trans (b3.mono b2.size)
                    clear e0 e1 e2 e3
                    have hP3 := hP.below b3'
                    have k3 := kd.trans (b3'.mono kd.size)
                    have hl1 := HH.out
                    clear b2 b3 b3' kd hP HXd OK hT D1 D2 HP HH k
                    go_wp2
                    go_roundw
                    case rel => exact ⟨i + 1, g1, g2, ps, by go_num, by omega, hP3, by omega, by omega, k3⟩
                    case measure => simp [intOf]; omega
                · as_aux_lemma =>
                    have D1 := Lib.hid (ins_okO a X Wd (OK.out Wd (Below.refl _ _)) hT (by omega) (by omega))
                    have D2 := Lib.hid (fun w => refIns_ok r X a w (by omega) (by omega))
                    have hz := putS_size r a a X (Nat.le_refl _) (by omega)
                    have hn := insL_len ys a X
                    obtain ⟨S, hS⟩ : ∃ S, putS r a a X = S := ⟨_, rfl⟩
                    obtain ⟨zs, hzs⟩ : ∃ zs, insL ys a X = zs := ⟨_, rfl⟩
                    rw [hS] at D1 D2 hz
                    rw [hzs] at D1 hn
                    have hz2 : S.size ≤ 16384 := by omega
                    clear hS hzs hz
                    go_wp2_with fail
                    go_fit D1.out
                    rintro e w2 ⟨⟨u, rfl, U2⟩, b2⟩
                    obtain ⟨ub, rfl⟩ := U2.ptr
                    obtain ⟨e0, e1, e2, e3⟩ := HXd.out w2 b2
                    clear d0 d1 d2 d3
                    go_wp2_with fail
                    go_fit (D2.out _)
                    rintro e w3 ⟨rfl, b3⟩
                    have b3' := b2.trans (b3.mono b2.size)
                    have U3 := U2.below b3
                    have hP3 := hP.below b3'
                    have T3 := hT.below b3'
                    have k3 := kd.trans (b3'.mono kd.size)
                    have hl1 := HH.out
                    have hle := T3.text.le
                    have P1 := Lib.hid (pieces_text w3 U3.text)
                    have P2 := Lib.hid (pieces_text w3 T3.text)
                    obtain ⟨n1, hn1⟩ : ∃ n, zs.length = n := ⟨_, rfl⟩
                    obtain ⟨n2, hn2⟩ : ∃ n, ys.length = n := ⟨_, rfl⟩
                    rw [hn1] at P1 hn
                    rw [hn2] at P2 hn hle
                    have hn3 : (n1 : Int) ≤ (n2 : Int) + 2 := by omega
                    have hn4 : (n2 : Int) ≤ 16384 := by omega
                    obtain ⟨v9', wa, v10', wb, g1', g2', q5, q6, hP', bp⟩ := hP3.push k3.size (by omega) U3 hz2
                    have kb := k3.trans bp
                    clear e0 e1 e2 e3 b2 b3 b3' kd hP HXd OK hT D1 D2 HP HH k U2 U3 T3 hP3 hn1 hn2 hle k3 bp hn
                    go_wp2_with fail
                    go_fit P1.out
                    rintro e w4 ⟨rfl, rfl⟩
                    go_wp2_with fail
                    go_fit P2.out
                    rintro e w5 ⟨rfl, rfl⟩
                    clear P1 P2
                    go_wp2_with (at_builtin; first | refine wpList_app rfl _ _ _ rfl rfl rfl q5 ?_ | refine wpList_app rfl _ _ _ rfl rfl rfl q6 ?_)
                    go_roundw
                    case rel => exact ⟨i + 1, g1', g2', ps ++ [(ub, S)], by go_num, by omega, hP', by rw [List.length_append]; omega, by rw [List.length_append, List.length_cons, List.length_nil]; omega, kb⟩
                    case measure => simp [intOf]; omega
      · as_aux_lemma =>
          have HP := Lib.hid (put_any (wr.alloc (.cells #[.int .u8 K, .int .i64 F, .int .i64 T, .string X] 33)))
          have bX : Below wr.heap.size wr (wr.alloc (.cells #[.int .u8 K, .int .i64 F, .int .i64 T, .string X] 33)) := (Below.refl _ _).alloc (Nat.le_refl _) _
          have x1 : 3000 < (X.size : Int) := by omega
          clear hW
          go_wp2_with fail
          go_fit HP.out
          rintro e w3 ⟨rfl, b3⟩
          go_wp2
          go_ret
          exact ⟨rfl, k.trans ((bX.trans (b3.mono bX.size)).mono k.size)⟩
    · as_aux_lemma =>
        obtain rfl : i = l.length := by omega
        obtain ⟨cc1, rfl, hc1⟩ := hW.form1
        obtain ⟨cc2, rfl, hc2⟩ := hW.form2
        have n1 : (ps.length : Int) ≤ 61 := by omega
        have HPW := Lib.hid (fun W (hb : Below wr.heap.size wr W) => hW.below hb)
        clear HA hW
        go_wp2
        go_loopw [22] (fun s22 w2 => ∃ j : Nat, s22 = .int .i64 (j : Int) ∧ j ≤ ps.length ∧ Below wr.heap.size wr w2) (fun s22 _ => ps.length - (intOf s22).toNat)
        case atStart => exact ⟨0, rfl, Nat.zero_le _, Below.refl _ _⟩
        case round =>
          obtain ⟨j, rfl, hj, b2⟩ := hrel
          have hP := HPW.out _ b2
          by_cases hlt2 : j < ps.length
          · as_aux_lemma =>
              obtain ⟨⟨tb, r⟩, hp⟩ : ∃ p, ps[j]? = some p := ⟨_, List.getElem?_eq_getElem hlt2⟩
              have f1 := hP.cell1 j _ hp
              have f2 := hP.cell2 j _ hp
              obtain ⟨ys, hT, hr⟩ := hP.text j _ hp
              dsimp only at f1 f2 hT hr
              have hle := hT.text.le
              have GS : Hid (∀ W, Below wr.heap.size wr W → Calls Try.prog 18 #[.pointer (some ⟨tb, 0, none⟩), .string r] W fun e w' => e = .returned (.bool true) ∧ Below W.heap.size W w') := fun W hW => same_any W (hT.below hW).text hr
              have GP : Hid (∀ W, Below wr.heap.size wr W → Calls Try.prog 13 #[.pointer (some ⟨tb, 0, none⟩)] W fun e w' => e = .returned (.int .i64 (ys.length : Int)) ∧ w' = W) := fun W hW => pieces_text W (hT.below hW).text
              have GL : Hid (∀ W, Below wr.heap.size wr W → Calls Try.prog 19 #[.pointer (some ⟨tb, 0, none⟩)] W fun e w' => e = .returned (.int .i64 (r.size : Int)) ∧ w' = W) := fun W hW => len_text W (hT.below hW).text
              have HK : Hid (∀ W, Below wr.heap.size wr W → W.cell? ⟨g1, j, none⟩ = some (.pointer (some ⟨tb, 0, none⟩)) ∧ W.cell? ⟨g2, j, none⟩ = some (.string r)) := fun W hW =>
                ⟨by rw [hW.cell (p := ⟨g1, j, none⟩) (cell_lt f1)]; exact f1, by rw [hW.cell (p := ⟨g2, j, none⟩) (cell_lt f2)]; exact f2⟩
              obtain ⟨n, hn⟩ : ∃ n, ys.length = n := ⟨_, rfl⟩
              rw [hn] at GP hle
              have i1 : (n : Int) ≤ (r.size : Int) := by omega
              have i2 : (0 : Int) ≤ (j : Int) := by omega
              have i3 : (j : Int) < (ps.length : Int) := by omega
              clear hn hp hT hP hr hle
              go_wp2
              go_region_held3 (fun W => W.cell? ⟨g1, j, none⟩ = some (.pointer (some ⟨tb, 0, none⟩)) ∧ W.cell? ⟨g2, j, none⟩ = some (.string r)) (first | go_keep | exact HK.out _ ⟨b5.os, b5.tape, b5.output, b5.size, b5.block⟩)
                (first
                  | (go_at_call 18; go_must (go_fit (GS.out _ ?_)); exact ⟨rfl, rfl, rfl, Nat.le_refl _, fun _ _ => rfl⟩; rintro e w5 ⟨rfl, b5⟩)
                  | (go_at_call 13; go_must (go_fit (GP.out _ ?_)); exact ⟨b5.os, b5.tape, b5.output, b5.size, b5.block⟩; rintro e w6 ⟨rfl, rfl⟩)
                  | (go_at_call 19; go_must (go_fit (GL.out _ ?_)); exact ⟨b5.os, b5.tape, b5.output, b5.size, b5.block⟩; rintro e w7 ⟨rfl, rfl⟩))
              all_goals
                have b6 : Below wr.heap.size wr _ := ⟨b5.os, b5.tape, b5.output, b5.size, b5.block⟩
                have b7 := b2.trans (b6.mono b2.size)
                clear b5 b6 b2 HK GS GP GL f1 f2
                go_wp2
                go_roundw
                case rel => exact ⟨j + 1, by go_num, by omega, b7⟩
                case measure => simp [intOf]; omega
          · as_aux_lemma =>
              have hj2 : j = ps.length := by omega
              have HP := Lib.hid (put_any wr)
              have i3 : (ps.length : Int) ≤ (j : Int) := by omega
              clear hP HPW
              go_wp2_with fail
              go_fit HP.out
              rintro e w3 ⟨rfl, b3⟩
              go_wp2
              go_ret
              exact ⟨rfl, k.trans ((b2.trans (b3.mono b2.size)).mono k.size)⟩

theorem piecesPlay_any (s : ByteArray) (v : Value) (l : List (Int × Int × Int × ByteArray)) (w : World) (hA : ActsW w v l) :
    Calls Try.prog 3 #[.string s, v] w fun e w' => e = .returned (.bool true) ∧ Below w.heap.size w w' := by
  by_cases h : 17000 < s.size ∨ 60 < l.length
  · exact piecesPlay_far s v l w hA h
  · by_cases h2 : 16384 < s.size
    · exact piecesPlay_full s v l w hA (by omega) (by omega) h2
    · exact piecesPlay_near s v l w hA (by omega) (by omega)

-- FRAME
theorem piecesPlay_own : ownKnob Try.prog.godebug = none := by kernel_rfl

set_option maxRecDepth 100000 in
theorem piecesPlay_lifted (os : Os) (started : os.Started) (H : Type) (enc : TypeId × Value → H) :
    ReturnsInHanded {} Try.checked os 3 .any (Rows.piecesPlaySpec.pre6 enc Try.prog Try.f3 Rows.piecesPlayRow.domain false) (Rows.piecesPlaySpec.post enc Try.prog Try.f3 false true false false) := by
  refine returnsInHanded_of_change (C := Try.checked) piecesPlay_own started (by kernel_rfl) Try.func3
    (ChangeSpec.witness6 (enc := enc) (C := Try.checked) false ⟨#[], #[.string ⟨#[]⟩, .slice none 0 0], []⟩ 8 (by kernel_rfl) (by kernel_rfl) (by kernel_rfl) (by kernel_rfl)) ?_
  intro W base args ds gs before hval0 hW hcnd _
  have hval : ∀ (j : Nat) t v, Try.f3.params[j]? = some t → args[j]? = some v → Value.okWide Try.prog W .any base t v := hval0
  have hW' := hW
  obtain ⟨p, q, hA0, hV, rfl, hfz, hnd⟩ := hW
  have hA : DataW.TrodAll enc Try.prog W 0 (fun _ => true) true Try.f3.params.toList args.toList ds p := hA0
  rw [Try.params3] at hA hval
  obtain ⟨v0, v1, d0, d1, p0, p1, rfl, rfl, rfl, h0, h1⟩ := trodAll_two hA
  obtain ⟨rfl, rfl⟩ := trodVars_none hV
  obtain ⟨x0, rfl, rfl, rfl, wr0⟩ := open_string Try.underlying9 (hval 0 9 v0 rfl rfl) h0
  have k1 := h1
  obtain ⟨x1, hS1⟩ := open_acts (hval 1 22 v1 rfl rfl) h1
  clear hA0 hval0
  simp only [List.append_nil] at hW'
  have hlt : ∀ x ∈ (p1), x.block < W.heap.size := fun x hx => hW'.lt x (by simp [hx])
  refine (piecesPlay_any x0 v1 x1 W hS1).mono fun e W' ⟨he, hw⟩ => ?_
  subst he
  exact ⟨_, rfl, _, _, _, [], (p1), [], hW', trodAll_mk1 (shut_bool Try.underlying4 _), trodAll_mk2 (shut_string Try.underlying9 wr0) (Below.trod Try.laidOut (by kernel_rfl) (of_decide_eq_true (by kernel_rfl)) k1 hw (fun x hx => hlt x (by simp [hx]))), rfl, hw.frame _, fun h => by cases h⟩

theorem piecesPlay_holds : Rows.PiecesPlaySaid :=
  OpenClaim.holds_of_wide 3 Try.f3 rfl rfl rfl rfl rfl rfl rfl ⟨rfl, rfl, rfl, rfl, rfl⟩ rfl rfl rfl rfl rfl (by kernel_rfl) Try.func3 (by kernel_rfl)
    (of_decide_eq_true (by kernel_rfl)) (by unfold Func.isWrapper; first | (rw [if_pos (by decide +kernel)]; kernel_rfl) | (rw [if_neg (by decide +kernel)]; exact ⟨rfl, rfl⟩))
    (fun os started H enc _ => piecesPlay_lifted os started H enc)
end Go.Proofs.Ytalngjafpohhjaa
