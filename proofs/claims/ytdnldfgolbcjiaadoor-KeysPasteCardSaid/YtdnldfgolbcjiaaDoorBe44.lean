/-
  limnerref09.pasted: what it returns, where the document's decoder stands then: in a paste.
-/
import Derived.Test.YtdnldfgolbcjiaaDoorBe40
import Derived.Test.YtdnldfgolbcjiaaDoorBe43
import Derived.Test.YtdnldfgolbcjiaaDoorBe26
namespace Go.Proofs.YtdnldfgolbcjiaaDoor
open Go.RowKit

/-- What a turn of the document's decoder leaves. -/
def FedR (N R : Nat) (v : Value) (w : World) (r : Ky × List Ke) (e : Ending) (w' : World) : Prop :=
  ∃ u v', e = .returned u ∧ KeysW (FromK w.heap.size) w' u r.2 ∧ RefK N w' R v' r.1 ∧ KeepW (fun k => k ≠ R) w w' ∧ ∀ k, v'.ownBlock = some k → k < w.heap.size → v.ownBlock = some k
theorem FedH.fed {N R : Nat} {v : Value} {w w' : World} {r : Ky × List Ke} {e : Ending} (h : FedH R v w r e w') (hr : OwnB N w v noB) (hne : v.ownBlock ≠ some R) (hR : N ≤ R) : FedR N R v w r e w' := by
  obtain ⟨u, he, hu, hB, hk, hp⟩ := h
  exact ⟨u, v, he, hu, ⟨hB, by rw [hp]; exact hr.keep hk (fun k e hk => hne (by rw [e, hk])), hne, hR⟩, hk, fun k e _ => e⟩
set_option maxRecDepth 4000 in
set_option maxHeartbeats 8000000 in
theorem rpast_any (N R b : Nat) (v : Value) (s : ByteArray) (w : World) (h : RefK N w R v (.paste s)) (hN : N ≤ w.heap.size) (hb : b < 256) (hs : s.size ≤ 50000) :
    Calls Tryd.prog 27 #[.pointer (some ⟨R, 0, none⟩), .int .u8 (b : Int)] w (FedR N R v w (pasteK (s ++ oneS b))) := by
  have hB : boxR w R (.string ⟨#[]⟩) (.bool true) v := h.box
  have hR : OwnB N w v s := h.row
  have hge := h.ge
  have hl := hB.lt
  obtain ⟨⟨c0, c1, c2⟩, f0, f1, f2⟩ := hB.cells
  obtain ⟨v1, w1, hr1, ho1, hb1⟩ := run_copyB 28 28 Tryd.underlying28 hR.bytes (by omega)
  have hX : (w1.alloc (.cells #[.int .u8 (b : Int)] 5)).cell? ⟨w1.heap.size, 0, none⟩ = some (.int .u8 (b : Int)) := by
    unfold World.cell?
    rw [heap_alloc_new w1 _]; rfl
  have hba := alloc_below w1 (.cells #[.int .u8 (b : Int)] 5)
  have hza := alloc_size w1 (.cells #[.int .u8 (b : Int)] 5)
  obtain ⟨v2, w2, hr2, ho2, _, hk2, hn2⟩ := run_snocB (N := w.heap.size) 28 28 Tryd.underlying28 (ho1.below hba) hX hb (Nat.le_trans hb1.size hba.size) (by omega)
  have hlo := OwnB.lt ho1
  have hz1 := hb1.size
  have hkw : KeepW (fun k => k ≠ R) w w2 := ((keep_below AnyK (hb1.trans (hba.mono hb1.size))).comp hk2 (fun k hk _ e => by have := (hlo k e).1; omega)).mono fun _ _ _ => trivial
  have hbw : Below w.heap.size w w2 := KeepW.below (hb1.trans (hba.mono hb1.size)) hk2 (by omega) fun k hk e => by have := (hlo k e).1; omega
  have hB2 := hB.below hbw
  have hlo2 := OwnB.lt ho2
  have hne2 : v2.ownBlock ≠ some R := fun e => by have := (hlo2 R e).1; omega
  have hsz := snoc_size s b
  obtain ⟨g2, cap2, hv2, hcap2⟩ := ho2.form0 (by omega)
  obtain ⟨T, hT⟩ : ∃ T, s ++ oneS b = T := ⟨_, rfl⟩
  rw [hT] at ho2 hsz hv2 hcap2 ⊢
  obtain ⟨n, hn⟩ : ∃ n, T.size = n := ⟨_, rfl⟩
  have hB3 := hB2.set2 v2
  have hk3 := hkw.trans (keep_R w2 R 2 v2)
  obtain ⟨W3, hW3⟩ : ∃ W3, w2.setCell ⟨R, 2, none⟩ v2 = W3 := ⟨_, rfl⟩
  have ho3 : OwnB w.heap.size W3 v2 T := by rw [← hW3]; exact ho2.keep (keep_R w2 R 2 v2) (fun k e hk => hne2 (by rw [e, hk]))
  rw [hW3] at hB3 hk3
  obtain ⟨⟨e0, e1, e2⟩, p0, p1, p2⟩ := hB3.cells
  obtain ⟨⟨m0, m1, m2⟩, q0, q1, q2⟩ := hB2.cells
  have hl2 := hB2.lt
  have hl3 := hB3.lt
  have HN3 := Lib.hid hN
  have HW3 := Lib.hid hW3
  have HB3 := Lib.hid hB3
  have HK3 := Lib.hid hk3
  have HO3 := Lib.hid ho3
  have HNE := Lib.hid hne2
  have HGE := Lib.hid hge
  have hno : ¬ endsP T → FedR N R v w (pasteK T) (.returned (.slice none 0 0)) W3 := fun hend => by
    have hp : pasteK T = (.paste T, []) := by unfold pasteK; rw [if_neg hend]
    rw [hp]
    refine ⟨_, v2, rfl, KeysW.nil _ _, ⟨HB3.out, ?_, hne2, hge⟩, hk3, fun k e hk => by have := (hlo2 k e).1; omega⟩
    show OwnB N W3 v2 T
    obtain ⟨a1, a2 | ⟨g, cap, cur, a3, a4, a5⟩⟩ := ho3
    · exact ⟨a1, .inl a2⟩
    · exact ⟨a1, .inr ⟨g, cap, cur, a3, Nat.le_trans hN a4, a5⟩⟩
  have HNO := Lib.hid hno
  have hTB := ho3.bytes
  rw [hv2] at hTB
  clear h hB hR hb1 hX hba hza ho1 hk2 hn2 hlo hz1 hkw hbw hB2 hlo2 hne2 ho2 hB3 hk3 ho3 hno hT hge hN
  rw [hn] at hv2 hcap2 hsz hTB
  by_cases h6 : 6 ≤ n
  · obtain ⟨k, hk⟩ : ∃ k, n = k + 6 := ⟨n - 6, by omega⟩
    subst hk
    have ht := tail_bytes hTB k (cap2 - k) (by omega)
    rw [show k + 6 - k = 6 by omega, Nat.zero_add] at ht
    have cv := bytes_conv 28 Tryd.underlying28 ht
    have hh := head_bytes hTB k cap2 (by omega) (by omega)
    have cv2 := bytes_conv 28 Tryd.underlying28 hh
    have HEN : Hid (endsP T ↔ tailB T k = endP) := by
      show endsP T ↔ _
      unfold endsP
      rw [hn, show k + 6 - 6 = k by omega]
      exact ⟨fun h => h.2, fun h => ⟨by omega, h⟩⟩
    have HPK : Hid (endsP T → pasteK T = (.held noB, [(15, 0, cleanB (T.extract 0 k))])) := fun h => by
      unfold pasteK
      rw [if_pos h, hn, show k + 6 - 6 = k by omega]
    have HCL := Lib.hid (fun W => rclean_any (T.extract 0 k) W (by rw [ByteArray.size_extract]; omega))
    have i1 : (0 : Int) ≤ (k : Int) := by omega
    have i2 : k ≤ 50000 := by omega
    obtain ⟨U, hU⟩ : ∃ U, tailB T k = U := ⟨_, rfl⟩
    rw [hU] at cv HEN
    obtain ⟨H, hH⟩ : ∃ H, T.extract 0 k = H := ⟨_, rfl⟩
    rw [hH] at cv2 HPK HCL
    clear ht hh hU hH hTB hsz hn
    subst hv2
    by_cases hE : U = endP
    · have q : (U.toList == [27, 91, 50, 48, 49, 126]) = true := by rw [ba_lit]; exact decide_eq_true hE
      have HP := Lib.hid (HPK.out (HEN.out.2 hE))
      clear hE HEN HPK HNO
      go_enter Tryd.func27, Tryd.ntmps27
      go_wp2_with (at_builtin; first | refine wpList_run (by rfl) _ _ 28 (by rfl) (by rfl) (by rfl) hr1 ?_ | refine wpList_run (by rfl) _ _ 28 (by rfl) (by rfl) (by rfl) hr2 ?_)
      go_fit (HCL.out _)
      rintro e w4 ⟨rfl, hb4⟩
      have HB4 := Lib.hid (HB3.out.below hb4)
      have HK4 := Lib.hid (HK3.out.trans (keep_below _ hb4))
      have hl4 := HB4.out.lt
      obtain ⟨⟨x0, x1, x2⟩, y0, y1, y2⟩ := HB4.out.cells
      have HB6 := Lib.hid ((HB4.out.set1 (.bool false)).set2 (.slice none 0 0))
      have HK6 := Lib.hid ((HK4.out.trans (keep_R w4 R 1 (.bool false))).trans (keep_R _ R 2 (.slice none 0 0)))
      have HKY : Hid (∀ W, Calls Tryd.prog 31 #[.int .i64 15, .int .i32 0, .string (cleanB H)] W fun e w' => ∃ u, e = .returned u ∧ OutK W.heap.size w' u [(15, 0, cleanB H)] ∧ Below W.heap.size W w') := fun W => rkey_any 15 0 (cleanB H) W
      clear hb4
      go_wp2_with fail
      go_fit (HKY.out _)
      rintro e w7 ⟨u, rfl, hu, hb7⟩
      have hfin : FedR N R v w (.held noB, [(15, 0, cleanB H)]) (.returned u) w7 := ⟨u, .slice none 0 0, rfl, hu.keys.any fun j hj => Nat.le_trans HK6.out.size hj, ⟨HB6.out.below hb7, ⟨rfl, .inl ⟨rfl, rfl⟩⟩, (fun e => by cases e), HGE.out⟩, HK6.out.trans (keep_below _ hb7), fun k e => by cases e⟩
      have HFin := Lib.hid hfin
      clear hu hb7 hfin
      go_wp2_with fail
      go_ret
      rw [HP.out]
      exact HFin.out
    · have q : (U.toList == [27, 91, 50, 48, 49, 126]) = false := by rw [ba_lit]; exact decide_eq_false hE
      have HF := Lib.hid (HNO.out (fun h => hE (HEN.out.1 h)))
      clear hE HEN HPK HNO
      go_enter Tryd.func27, Tryd.ntmps27
      go_wp2_with (at_builtin; first | refine wpList_run (by rfl) _ _ 28 (by rfl) (by rfl) (by rfl) hr1 ?_ | refine wpList_run (by rfl) _ _ 28 (by rfl) (by rfl) (by rfl) hr2 ?_)
      go_ret
      exact HF.out
  · have i1 : (n : Int) < 6 := by omega
    have HF := Lib.hid (HNO.out (fun h => h6 (by have := h.1; omega)))
    clear hn hsz
    subst hv2
    go_enter Tryd.func27, Tryd.ntmps27
    go_wp2_with (at_builtin; first | refine wpList_run (by rfl) _ _ 28 (by rfl) (by rfl) (by rfl) hr1 ?_ | refine wpList_run (by rfl) _ _ 28 (by rfl) (by rfl) (by rfl) hr2 ?_)
    go_ret
    exact HF.out
end Go.Proofs.YtdnldfgolbcjiaaDoor
