/-
  keys.control, known: what each call returns: for every byte, for every slice of two bytes or more.
-/
import Derived.Test.YtdnldfgolbcjiaaDoorBe11
import Derived.Test.YtdnldfgolbcjiaaDoorBe12
namespace Go.Proofs.YtdnldfgolbcjiaaDoor
open Go.RowKit

theorem u8_no {b c : Nat} (h : b ≠ c) : ((b : Int) == (c : Int)) = false := beq_eq_false_iff_ne.2 (by omega)
set_option maxHeartbeats 2000000 in
theorem kctl_any (b : Nat) (w : World) (hb : b < 256) :
    Calls Tryd.prog 60 #[.int .u8 (b : Int)] w fun e w' => e = .returned (keV (ctlK b)) ∧ Below w.heap.size w w' := by
  have HB : Hid (∀ x, Below w.heap.size w (w.alloc (.cells x 40))) := fun x => (Below.refl _ _).alloc (Nat.le_refl _) _
  by_cases e13 : b = 13
  · subst e13
    go_enter Tryd.func60, Tryd.ntmps60
    go_wp2_with fail
    exact bodyPost_ret (v := keV (ctlK 13)) (by simp [results, Tryd.results60, go_sem, keV, ctlK, noB]) rfl ⟨rfl, HB.out _⟩
  have i13 : ((b : Int) == 13) = false := u8_no e13
  by_cases e10 : b = 10
  · subst e10
    go_enter Tryd.func60, Tryd.ntmps60
    go_wp2_with fail
    exact bodyPost_ret (v := keV (ctlK 10)) (by simp [results, Tryd.results60, go_sem, keV, ctlK, noB]) rfl ⟨rfl, HB.out _⟩
  have i10 : ((b : Int) == 10) = false := u8_no e10
  by_cases e9 : b = 9
  · subst e9
    go_enter Tryd.func60, Tryd.ntmps60
    go_wp2_with fail
    exact bodyPost_ret (v := keV (ctlK 9)) (by simp [results, Tryd.results60, go_sem, keV, ctlK, noB]) rfl ⟨rfl, HB.out _⟩
  have i9 : ((b : Int) == 9) = false := u8_no e9
  by_cases e8 : b = 8
  · subst e8
    go_enter Tryd.func60, Tryd.ntmps60
    go_wp2_with fail
    exact bodyPost_ret (v := keV (ctlK 8)) (by simp [results, Tryd.results60, go_sem, keV, ctlK, noB]) rfl ⟨rfl, HB.out _⟩
  have i8 : ((b : Int) == 8) = false := u8_no e8
  by_cases e127 : b = 127
  · subst e127
    go_enter Tryd.func60, Tryd.ntmps60
    go_wp2_with fail
    exact bodyPost_ret (v := keV (ctlK 127)) (by simp [results, Tryd.results60, go_sem, keV, ctlK, noB]) rfl ⟨rfl, HB.out _⟩
  have i127 : ((b : Int) == 127) = false := u8_no e127
  by_cases e0 : b = 0
  · subst e0
    go_enter Tryd.func60, Tryd.ntmps60
    go_wp2_with fail
    exact bodyPost_ret (v := keV (ctlK 0)) (by simp [results, Tryd.results60, go_sem, keV, ctlK, noB]) rfl ⟨rfl, HB.out _⟩
  have i0 : ((b : Int) == 0) = false := u8_no e0
  by_cases h : 27 < b
  · have h2 : (27 : Int) < (b : Int) := by omega
    have HE : Hid (ctlK b = (6, b + 64, noB)) := by
      show ctlK b = _
      unfold ctlK
      rw [if_neg (by omega), if_neg e9, if_neg (by omega), if_pos (.inr h)]
    go_enter Tryd.func60, Tryd.ntmps60
    go_wp2_with fail
    rw [HE.out]
    exact bodyPost_ret (v := keV (6, b + 64, noB)) (by simp [results, Tryd.results60, go_sem, keV, noB]) rfl ⟨rfl, HB.out _⟩
  · have h2 : (b : Int) ≤ 27 := by omega
    have HE : Hid (ctlK b = (6, b + 96, noB)) := by
      show ctlK b = _
      unfold ctlK
      rw [if_neg (by omega), if_neg e9, if_neg (by omega), if_neg (by omega)]
    go_enter Tryd.func60, Tryd.ntmps60
    go_wp2_with fail
    rw [HE.out]
    exact bodyPost_ret (v := keV (6, b + 96, noB)) (by simp [results, Tryd.results60, go_sem, keV, noB]) rfl ⟨rfl, HB.out _⟩

/-- The box of a key that is handed back. -/
def keyB (W : World) (Q : Nat) (x0 x1 x2 : Value) : Prop := W.heap[Q]? = some (.cells #[x0, x1, x2] 40 (0, 0))
theorem keyB.cells {W : World} {Q : Nat} {x0 x1 x2 : Value} (h : keyB W Q x0 x1 x2) : (W.cell? ⟨Q, 0, none⟩ = some x0 ∧ W.cell? ⟨Q, 1, none⟩ = some x1 ∧ W.cell? ⟨Q, 2, none⟩ = some x2) ∧ W.frozen? ⟨Q, 0, none⟩ = false ∧ W.frozen? ⟨Q, 1, none⟩ = false ∧ W.frozen? ⟨Q, 2, none⟩ = false := by
  unfold keyB at h
  refine ⟨⟨?_, ?_, ?_⟩, ?_, ?_, ?_⟩ <;> first | (unfold World.cell?; rw [h]; rfl) | (unfold World.frozen?; rw [h]; simp)
theorem keyB_heap {W : World} {Q p : Nat} {v : Value} {cs : Array Value} {T : TypeId} (h : W.heap[Q]? = some (.cells cs T (0, 0))) : (W.setCell ⟨Q, p, none⟩ v).heap[Q]? = some (.cells (cs.modify p fun _ => v) T (0, 0)) := by
  show (W.heap.modify Q _)[Q]? = _
  have hlt := (Array.getElem?_eq_some_iff.1 h).1
  obtain ⟨_, he⟩ := Array.getElem?_eq_some_iff.1 h
  rw [Array.getElem?_eq_getElem (by rw [Array.size_modify]; exact hlt), Array.getElem_modify_self, he]
  rfl
theorem keyB.set3 {W : World} {Q : Nat} {x0 x1 x2 : Value} (h : keyB W Q x0 x1 x2) (a b c : Value) : keyB (((W.setCell ⟨Q, 0, none⟩ a).setCell ⟨Q, 1, none⟩ b).setCell ⟨Q, 2, none⟩ c) Q a b c := keyB_heap (keyB_heap (keyB_heap h))
theorem keyB_keep (W : World) (Q : Nat) (a b c : Value) : KeepW (fun k => k ≠ Q) W (((W.setCell ⟨Q, 0, none⟩ a).setCell ⟨Q, 1, none⟩ b).setCell ⟨Q, 2, none⟩ c) :=
  ((keep_set _ _ _ _ _ fun h => h rfl).trans (keep_set _ _ _ _ _ fun h => h rfl)).trans (keep_set _ _ _ _ _ fun h => h rfl)
theorem ba_lit (r : ByteArray) (l : List UInt8) : (r.toList == l) = decide (r = ⟨l.toArray⟩) := by
  rw [← ba_beq]
  congr 1
  rw [Lib.toList_data]
set_option maxHeartbeats 4000000 in
theorem kknown_any (s : ByteArray) (v : Value) (w : World) (hv : BytesW w v s) (h2 : 3 ≤ s.size) (hs : s.size ≤ 1000000) :
    Calls Tryd.prog 62 #[v] w fun e w' => e = .returned (keV (knownK s)) ∧ Below w.heap.size w w' := by
  have HB : Hid (∀ x, Below w.heap.size w (w.alloc (.cells x 40))) := fun x => (Below.refl _ _).alloc (Nat.le_refl _) _
  have HI := Lib.hid (fun W (hb : Below w.heap.size w W) => kinv_any W v s (hv.below hb))
  obtain ⟨g, o, cap, rfl, hcap, _⟩ := hv.cells (by omega)
  have c := bytes_conv 28 Tryd.underlying28 ((tail_bytes hv 2 (cap - 2) (by omega)).below ((Below.refl _ _).alloc (Nat.le_refl _) (.cells #[.int .i64 0, .int .i32 0, .string ⟨#[]⟩] 40)))
  have HK : Hid (knownK s = if namedK (tailB s 2) = 0 then badK s else (namedK (tailB s 2), 0, noB)) := rfl
  obtain ⟨r, hr⟩ : ∃ r, tailB s 2 = r := ⟨_, rfl⟩
  rw [hr] at c HK
  obtain ⟨n, hn⟩ : ∃ n, s.size = n + 3 := ⟨s.size - 3, by omega⟩
  rw [hn] at c HI hs hcap ⊢
  rw [show n + 3 - 2 = n + 1 by omega] at c
  clear hv h2 hr hn
  by_cases e0 : r = ⟨#[65]⟩
  · have q0 : (r.toList == [65]) = true := by rw [ba_lit]; exact decide_eq_true e0
    have HX : Hid (knownK s = (8, 0, noB)) := by rw [HK.out, e0]; rfl
    clear e0 HK HI
    go_enter Tryd.func62, Tryd.ntmps62
    go_wp2_with fail
    rw [HX.out]
    exact bodyPost_ret (v := keV (8, 0, noB)) (by simp [results, Tryd.results62, go_sem, keV, noB]) rfl ⟨rfl, HB.out _⟩
  have q0 : (r.toList == [65]) = false := by rw [ba_lit]; exact decide_eq_false e0
  by_cases e1 : r = ⟨#[66]⟩
  · have q1 : (r.toList == [66]) = true := by rw [ba_lit]; exact decide_eq_true e1
    have HX : Hid (knownK s = (9, 0, noB)) := by rw [HK.out, e1]; rfl
    clear e1 HK HI
    go_enter Tryd.func62, Tryd.ntmps62
    go_wp2_with fail
    rw [HX.out]
    exact bodyPost_ret (v := keV (9, 0, noB)) (by simp [results, Tryd.results62, go_sem, keV, noB]) rfl ⟨rfl, HB.out _⟩
  have q1 : (r.toList == [66]) = false := by rw [ba_lit]; exact decide_eq_false e1
  by_cases e2 : r = ⟨#[67]⟩
  · have q2 : (r.toList == [67]) = true := by rw [ba_lit]; exact decide_eq_true e2
    have HX : Hid (knownK s = (11, 0, noB)) := by rw [HK.out, e2]; rfl
    clear e2 HK HI
    go_enter Tryd.func62, Tryd.ntmps62
    go_wp2_with fail
    rw [HX.out]
    exact bodyPost_ret (v := keV (11, 0, noB)) (by simp [results, Tryd.results62, go_sem, keV, noB]) rfl ⟨rfl, HB.out _⟩
  have q2 : (r.toList == [67]) = false := by rw [ba_lit]; exact decide_eq_false e2
  by_cases e3 : r = ⟨#[68]⟩
  · have q3 : (r.toList == [68]) = true := by rw [ba_lit]; exact decide_eq_true e3
    have HX : Hid (knownK s = (10, 0, noB)) := by rw [HK.out, e3]; rfl
    clear e3 HK HI
    go_enter Tryd.func62, Tryd.ntmps62
    go_wp2_with fail
    rw [HX.out]
    exact bodyPost_ret (v := keV (10, 0, noB)) (by simp [results, Tryd.results62, go_sem, keV, noB]) rfl ⟨rfl, HB.out _⟩
  have q3 : (r.toList == [68]) = false := by rw [ba_lit]; exact decide_eq_false e3
  by_cases e4 : r = ⟨#[72]⟩
  · have q4 : (r.toList == [72]) = true := by rw [ba_lit]; exact decide_eq_true e4
    have HX : Hid (knownK s = (12, 0, noB)) := by rw [HK.out, e4]; rfl
    clear e4 HK HI
    go_enter Tryd.func62, Tryd.ntmps62
    go_wp2_with fail
    rw [HX.out]
    exact bodyPost_ret (v := keV (12, 0, noB)) (by simp [results, Tryd.results62, go_sem, keV, noB]) rfl ⟨rfl, HB.out _⟩
  have q4 : (r.toList == [72]) = false := by rw [ba_lit]; exact decide_eq_false e4
  by_cases e5 : r = ⟨#[49, 126]⟩
  · have q5 : (r.toList == [49, 126]) = true := by rw [ba_lit]; exact decide_eq_true e5
    have HX : Hid (knownK s = (12, 0, noB)) := by rw [HK.out, e5]; rfl
    clear e5 HK HI
    go_enter Tryd.func62, Tryd.ntmps62
    go_wp2_with fail
    rw [HX.out]
    exact bodyPost_ret (v := keV (12, 0, noB)) (by simp [results, Tryd.results62, go_sem, keV, noB]) rfl ⟨rfl, HB.out _⟩
  have q5 : (r.toList == [49, 126]) = false := by rw [ba_lit]; exact decide_eq_false e5
  by_cases e6 : r = ⟨#[55, 126]⟩
  · have q6 : (r.toList == [55, 126]) = true := by rw [ba_lit]; exact decide_eq_true e6
    have HX : Hid (knownK s = (12, 0, noB)) := by rw [HK.out, e6]; rfl
    clear e6 HK HI
    go_enter Tryd.func62, Tryd.ntmps62
    go_wp2_with fail
    rw [HX.out]
    exact bodyPost_ret (v := keV (12, 0, noB)) (by simp [results, Tryd.results62, go_sem, keV, noB]) rfl ⟨rfl, HB.out _⟩
  have q6 : (r.toList == [55, 126]) = false := by rw [ba_lit]; exact decide_eq_false e6
  by_cases e7 : r = ⟨#[70]⟩
  · have q7 : (r.toList == [70]) = true := by rw [ba_lit]; exact decide_eq_true e7
    have HX : Hid (knownK s = (13, 0, noB)) := by rw [HK.out, e7]; rfl
    clear e7 HK HI
    go_enter Tryd.func62, Tryd.ntmps62
    go_wp2_with fail
    rw [HX.out]
    exact bodyPost_ret (v := keV (13, 0, noB)) (by simp [results, Tryd.results62, go_sem, keV, noB]) rfl ⟨rfl, HB.out _⟩
  have q7 : (r.toList == [70]) = false := by rw [ba_lit]; exact decide_eq_false e7
  by_cases e8 : r = ⟨#[52, 126]⟩
  · have q8 : (r.toList == [52, 126]) = true := by rw [ba_lit]; exact decide_eq_true e8
    have HX : Hid (knownK s = (13, 0, noB)) := by rw [HK.out, e8]; rfl
    clear e8 HK HI
    go_enter Tryd.func62, Tryd.ntmps62
    go_wp2_with fail
    rw [HX.out]
    exact bodyPost_ret (v := keV (13, 0, noB)) (by simp [results, Tryd.results62, go_sem, keV, noB]) rfl ⟨rfl, HB.out _⟩
  have q8 : (r.toList == [52, 126]) = false := by rw [ba_lit]; exact decide_eq_false e8
  by_cases e9 : r = ⟨#[56, 126]⟩
  · have q9 : (r.toList == [56, 126]) = true := by rw [ba_lit]; exact decide_eq_true e9
    have HX : Hid (knownK s = (13, 0, noB)) := by rw [HK.out, e9]; rfl
    clear e9 HK HI
    go_enter Tryd.func62, Tryd.ntmps62
    go_wp2_with fail
    rw [HX.out]
    exact bodyPost_ret (v := keV (13, 0, noB)) (by simp [results, Tryd.results62, go_sem, keV, noB]) rfl ⟨rfl, HB.out _⟩
  have q9 : (r.toList == [56, 126]) = false := by rw [ba_lit]; exact decide_eq_false e9
  by_cases e10 : r = ⟨#[51, 126]⟩
  · have q10 : (r.toList == [51, 126]) = true := by rw [ba_lit]; exact decide_eq_true e10
    have HX : Hid (knownK s = (14, 0, noB)) := by rw [HK.out, e10]; rfl
    clear e10 HK HI
    go_enter Tryd.func62, Tryd.ntmps62
    go_wp2_with fail
    rw [HX.out]
    exact bodyPost_ret (v := keV (14, 0, noB)) (by simp [results, Tryd.results62, go_sem, keV, noB]) rfl ⟨rfl, HB.out _⟩
  have q10 : (r.toList == [51, 126]) = false := by rw [ba_lit]; exact decide_eq_false e10
  have HN : Hid (namedK r = 0) := by
    show namedK r = 0
    unfold namedK
    rw [if_neg (show ¬ r = oneS 65 from e0), if_neg (show ¬ r = oneS 66 from e1), if_neg (show ¬ r = oneS 67 from e2), if_neg (show ¬ r = oneS 68 from e3), if_neg (fun h => by rcases h with h | h | h; exact e4 h; exact e5 h; exact e6 h), if_neg (fun h => by rcases h with h | h | h; exact e7 h; exact e8 h; exact e9 h), if_neg e10]
  have HX : Hid (knownK s = badK s) := by show knownK s = _; rw [HK.out, if_pos HN.out]
  clear HK HN
  clear e0
  clear e1
  clear e2
  clear e3
  clear e4
  clear e5
  clear e6
  clear e7
  clear e8
  clear e9
  clear e10
  go_enter Tryd.func62, Tryd.ntmps62
  go_wp2_with fail
  go_fit (HI.out _ (HB.out _))
  rintro e w' ⟨rfl, hb⟩
  have hq : keyB w' w.heap.size (.int .i64 0) (.int .i32 0) (.string ⟨#[]⟩) := (hb.block w.heap.size (by rw [show (w.alloc _).heap.size = w.heap.size + 1 from Array.size_push _]; exact Nat.lt_succ_self _)).trans (heap_alloc_new w _)
  obtain ⟨⟨d0, d1, d2⟩, f0, f1, f2⟩ := hq.cells
  obtain ⟨⟨y0, y1, y2⟩, _, _, _⟩ := (hq.set3 (.int .i64 0) (.int .i32 0) (.string s)).cells
  have hz : KeepW (fun k => k ≠ w.heap.size) w' (((w'.setCell ⟨w.heap.size, 0, none⟩ (.int .i64 0)).setCell ⟨w.heap.size, 1, none⟩ (.int .i32 0)).setCell ⟨w.heap.size, 2, none⟩ (.string s)) := keyB_keep _ _ _ _ _
  have hw : Below w.heap.size w (((w'.setCell ⟨w.heap.size, 0, none⟩ (.int .i64 0)).setCell ⟨w.heap.size, 1, none⟩ (.int .i32 0)).setCell ⟨w.heap.size, 2, none⟩ (.string s)) := KeepW.below ((HB.out _).trans (hb.mono (HB.out _).size)) hz (Nat.le_trans (HB.out _).size hb.size) fun k hk => Nat.ne_of_lt hk
  clear hq hz hb
  unfold keV badK
  go_wp2_with fail
  rw [HX.out]
  exact bodyPost_ret (v := keV (badK s)) (by simp [results, Tryd.results62, go_sem, keV, badK, y0, y1, y2]) rfl ⟨rfl, hw⟩
end Go.Proofs.YtdnldfgolbcjiaaDoor
