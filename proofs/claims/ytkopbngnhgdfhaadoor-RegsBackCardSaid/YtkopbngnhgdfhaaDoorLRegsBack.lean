/-
  limnerlaw10.RegsBack: it returns true, for every text.
-/
import Derived.Test.YtkopbngnhgdfhaaDoorBe43
import Derived.Test.YtkopbngnhgdfhaaDoorBe46
import Derived.Test.YtkopbngnhgdfhaaDoorBe11
import Derived.Test.YtkopbngnhgdfhaaDoorBe40
namespace Go.Proofs.YtkopbngnhgdfhaaDoor
open Go.RowKit

/-- What a text's tree is, and what is shown of it. -/
theorem back_plain (s : ByteArray) : (∃ e : Int, parseP s = (emptyR, e) ∧ (e = 10 ∨ (e = 3 ∧ 200 < s.size))) ∨
    (∃ n T, parseP s = (n, 0) ∧ s.size ≤ 200 ∧ strR (textR n) = T ∧ T.toList.isEmpty = false ∧ T.size ≤ 400000000 ∧ ((200 < T.size ∧ parseP T = (emptyR, 3)) ∨ (T.size ≤ 200 ∧ parseP T = (n, 0)))) := by
  have hwt := wt_parseP s
  unfold parseP at hwt ⊢
  by_cases h : 200 < s.size
  · exact .inl ⟨3, by rw [if_pos h], .inr ⟨rfl, h⟩⟩
  · rw [if_neg h] at hwt
    simp only [if_neg h]
    rcases hq : parseR (bytesR s) with _ | n
    · exact .inl ⟨10, rfl, .inl rfl⟩
    · simp only [hq] at hwt
      obtain ⟨h1, h2, h3⟩ := parse_good (bytesR s) n (fun y hy => rest_lt s 0 y hy) hq
      rw [bytesR_len] at h3
      have ht : textR n = showT n := by
        rw [text_eq, h1, decide_eq_true (show deepR n ≤ 200 by omega)]
        rfl
      have hlb := show_lb n
      obtain ⟨c, t, hct, _⟩ := show_head n h1
      refine .inr ⟨n, strR (showT n), rfl, by omega, by rw [ht], ?_, by rw [strR_size]; omega, ?_⟩
      · rw [hct, Lib.toList_data]
        rfl
      · by_cases h2 : 200 < (strR (showT n)).size
        · exact .inl ⟨h2, by rw [if_pos h2]⟩
        · refine .inr ⟨by omega, ?_⟩
          rw [if_neg h2, strR_bytes _ hlb.1, show_back n h1 ‹_›]

def cellsE (V : World) (B : Nat) (u : Value) : Prop := V.cell? ⟨B, 0, none⟩ = some (.int .i64 0) ∧ V.cell? ⟨B, 1, none⟩ = some (.int .u64 0) ∧ V.cell? ⟨B, 2, none⟩ = some (.int .u64 0) ∧ V.cell? ⟨B, 3, none⟩ = some (.int .u64 0) ∧ V.cell? ⟨B, 4, none⟩ = some (.int .u64 0) ∧ V.cell? ⟨B, 5, none⟩ = some u
def cellsN (V : World) (B : Nat) (n : Nd) (u : Value) : Prop := V.cell? ⟨B, 0, none⟩ = some (.int .i64 n.kind) ∧ V.cell? ⟨B, 1, none⟩ = some (.int .u64 (n.set.1 : Int)) ∧ V.cell? ⟨B, 2, none⟩ = some (.int .u64 (n.set.2.1 : Int)) ∧ V.cell? ⟨B, 3, none⟩ = some (.int .u64 (n.set.2.2.1 : Int)) ∧ V.cell? ⟨B, 4, none⟩ = some (.int .u64 (n.set.2.2.2 : Int)) ∧ V.cell? ⟨B, 5, none⟩ = some u
set_option maxRecDepth 100000 in
set_option maxHeartbeats 8000000 in
theorem regsBack_no (s : ByteArray) (e0 : Int) (w : World) (he : ErrW w) (hp : parseP s = (emptyR, e0)) (h0 : e0 = 10 ∨ (e0 = 3 ∧ 200 < s.size)) :
    Calls Tryd.prog 3 #[.string s] w fun e w' => e = .returned (.bool true) ∧ Below w.heap.size w w' := by
  have HP := Lib.hid (pparse_any s w he)
  rw [hp] at HP
  have HE := Lib.hid he
  have HSM0 : Hid (∀ (V : World) (uo : Option Addr) (uc : Nat), KidsF (fun _ => True) V [] (.slice uo 0 uc) → Calls Tryd.prog 10 #[nodeV emptyR (.slice uo 0 uc), nodeV emptyR (.slice none 0 0)] V fun e U => e = .returned (.bool true) ∧ Below V.heap.size V U) := fun V uo uc hu => psame_eq emptyR _ _ V ok_no hu (KidsF.nil _ _) (by decide)
  clear he hp
  rcases h0 with rfl | ⟨rfl, hsz⟩
  · go_enter Tryd.func3, Tryd.ntmps3
    go_wp2_with fail
    go_fit HP.out
    rintro e w1 ⟨x, rfl, hx, hb⟩
    obtain ⟨_, u, rfl, hu⟩ := hx
    obtain ⟨uo, uc, rfl, _⟩ := hu.form
    change KidsF _ w1 [] (.slice uo 0 uc) at hu
    have hb2 := alloc_under w1 (.cells #[.int .i64 0, .int .u64 0, .int .u64 0, .int .u64 0, .int .u64 0, .slice uo 0 uc] 26)
    have hbx : boxN 26 (w1.alloc (.cells #[.int .i64 0, .int .u64 0, .int .u64 0, .int .u64 0, .int .u64 0, .slice uo 0 uc] 26)) w1.heap.size 0 noR (.slice uo 0 uc) := boxN.new 26 w1 0 noR (.slice uo 0 uc)
    obtain ⟨W2, hW2⟩ : ∃ W2, w1.alloc (.cells #[.int .i64 0, .int .u64 0, .int .u64 0, .int .u64 0, .int .u64 0, .slice uo 0 uc] 26) = W2 := ⟨_, rfl⟩
    rw [hW2] at hb2 hbx
    have hku : KidsF (fun _ => True) W2 [] (.slice uo 0 uc) := (hu.under hb2).mono fun _ _ _ => trivial
    have hwb := hb.trans (hb2.mono hb.size)
    have HB := Lib.hid hwb
    have HC : Hid (∀ V, Below W2.heap.size W2 V → cellsE V w1.heap.size (.slice uo 0 uc)) := fun V hV => (hbx.below hV).cells.1
    have HSM : Hid (∀ V, Below W2.heap.size W2 V → Calls Tryd.prog 10 #[nodeV emptyR (.slice uo 0 uc), nodeV emptyR (.slice none 0 0)] V fun e U => e = .returned (.bool true) ∧ Below W2.heap.size W2 U) := fun V hV => (HSM0.out V uo uc (hku.under hV)).mono fun e U ⟨h1, h2⟩ => ⟨h1, hV.trans (h2.mono hV.size)⟩
    have HRU : Hid (∀ V, Below W2.heap.size W2 V → Calls Tryd.prog 11 #[] V fun e U => e = .returned (.bool true) ∧ Below W2.heap.size W2 U) := fun V hV =>
      (ruled_any V (HE.out.below (hwb.trans (hV.mono hwb.size)))).mono fun e U ⟨h1, h2⟩ => ⟨h1, hV.trans (h2.mono hV.size)⟩
    unfold cellsE at HC
    simp only [nodeV, emptyR, Nd.kind, Nd.set, noR] at HSM
    have kk := Below.refl W2.heap.size W2
    have k0 : Below W2.heap.size W2 W2.drew := kk.drew
    clear hu hb hb2 hbx hku hwb HSM0
    simp only [nodeV, emptyR, Nd.kind, Nd.set, noR, Nd.kids, List.length_nil]
    obtain ⟨x0, x1, x2, x3, x4, x5⟩ := HC.out W2 kk
    go_wp2_with fail
    go_fit (HSM.out _ kk)
    rintro e w3 ⟨rfl, kk2⟩
    clear x0 x1 x2 x3 x4 x5
    go_wp2_with fail
    go_fit (HRU.out _ kk2)
    rintro e w4 ⟨rfl, kk3⟩
    have HF := Lib.hid (HB.out.trans (kk3.mono HB.out.size))
    clear kk kk2 kk3 k0
    go_wp2_with fail
    go_ret
    exact ⟨rfl, HF.out⟩
  · have hi : (200 : Int) < (s.size : Int) := by omega
    clear hsz
    go_enter Tryd.func3, Tryd.ntmps3
    go_wp2_with fail
    go_fit HP.out
    rintro e w1 ⟨x, rfl, hx, hb⟩
    obtain ⟨_, u, rfl, hu⟩ := hx
    obtain ⟨uo, uc, rfl, _⟩ := hu.form
    change KidsF _ w1 [] (.slice uo 0 uc) at hu
    have hb2 := alloc_under w1 (.cells #[.int .i64 0, .int .u64 0, .int .u64 0, .int .u64 0, .int .u64 0, .slice uo 0 uc] 26)
    have hbx : boxN 26 (w1.alloc (.cells #[.int .i64 0, .int .u64 0, .int .u64 0, .int .u64 0, .int .u64 0, .slice uo 0 uc] 26)) w1.heap.size 0 noR (.slice uo 0 uc) := boxN.new 26 w1 0 noR (.slice uo 0 uc)
    obtain ⟨W2, hW2⟩ : ∃ W2, w1.alloc (.cells #[.int .i64 0, .int .u64 0, .int .u64 0, .int .u64 0, .int .u64 0, .slice uo 0 uc] 26) = W2 := ⟨_, rfl⟩
    rw [hW2] at hb2 hbx
    have hku : KidsF (fun _ => True) W2 [] (.slice uo 0 uc) := (hu.under hb2).mono fun _ _ _ => trivial
    have hwb := hb.trans (hb2.mono hb.size)
    have HB := Lib.hid hwb
    have HC : Hid (∀ V, Below W2.heap.size W2 V → cellsE V w1.heap.size (.slice uo 0 uc)) := fun V hV => (hbx.below hV).cells.1
    have HSM : Hid (∀ V, Below W2.heap.size W2 V → Calls Tryd.prog 10 #[nodeV emptyR (.slice uo 0 uc), nodeV emptyR (.slice none 0 0)] V fun e U => e = .returned (.bool true) ∧ Below W2.heap.size W2 U) := fun V hV => (HSM0.out V uo uc (hku.under hV)).mono fun e U ⟨h1, h2⟩ => ⟨h1, hV.trans (h2.mono hV.size)⟩
    have HRU : Hid (∀ V, Below W2.heap.size W2 V → Calls Tryd.prog 11 #[] V fun e U => e = .returned (.bool true) ∧ Below W2.heap.size W2 U) := fun V hV =>
      (ruled_any V (HE.out.below (hwb.trans (hV.mono hwb.size)))).mono fun e U ⟨h1, h2⟩ => ⟨h1, hV.trans (h2.mono hV.size)⟩
    unfold cellsE at HC
    simp only [nodeV, emptyR, Nd.kind, Nd.set, noR] at HSM
    have kk := Below.refl W2.heap.size W2
    have k0 : Below W2.heap.size W2 W2.drew := kk.drew
    clear hu hb hb2 hbx hku hwb HSM0
    simp only [nodeV, emptyR, Nd.kind, Nd.set, noR, Nd.kids, List.length_nil]
    obtain ⟨x0, x1, x2, x3, x4, x5⟩ := HC.out W2 kk
    go_wp2_with fail
    go_fit (HSM.out _ kk)
    rintro e w3 ⟨rfl, kk2⟩
    clear x0 x1 x2 x3 x4 x5
    go_wp2_with fail
    go_fit (HRU.out _ kk2)
    rintro e w4 ⟨rfl, kk3⟩
    have HF := Lib.hid (HB.out.trans (kk3.mono HB.out.size))
    clear kk kk2 kk3 k0
    go_wp2_with fail
    go_ret
    exact ⟨rfl, HF.out⟩
set_option maxRecDepth 100000 in
set_option maxHeartbeats 8000000 in
theorem regsBack_long (s T : ByteArray) (n : Nd) (w : World) (he : ErrW w) (hp : parseP s = (n, 0)) (hs : s.size ≤ 200) (ht : strR (textR n) = T) (hne : T.toList.isEmpty = false) (hTm : T.size ≤ 400000000) (hl : 200 < T.size) (hq : parseP T = (emptyR, 3)) :
    Calls Tryd.prog 3 #[.string s] w fun e w' => e = .returned (.bool true) ∧ Below w.heap.size w w' := by
  have hwt := wt_parseP s
  rw [hp] at hwt
  have hwt2 : wtR n ≤ 100000 := Nat.le_trans hwt (by decide)
  have HP := Lib.hid (pparse_any s w he)
  rw [hp] at HP
  have HE := Lib.hid he
  have HP2 := Lib.hid (fun W (h : ErrW W) => pparse_any T W h)
  rw [hq] at HP2
  have HSH : Hid (∀ (V : World) x, NodeF (fun _ => True) V n x → Calls Tryd.prog 12 #[x] V fun e U => e = .returned (.string T) ∧ Below V.heap.size V U) := fun V x hx => by
    have := pshow_any n x V hx hwt2
    rwa [ht] at this
  have HSM0 : Hid (∀ (V : World) (u v : Value), OkR n.set → KidsF (fun _ => True) V n.kids u → KidsF (fun _ => True) V n.kids v → Calls Tryd.prog 10 #[nodeV n u, nodeV n v] V fun e U => e = .returned (.bool true) ∧ Below V.heap.size V U) := fun V u v ho hu hv => psame_eq n _ _ V ho hu hv hwt2
  have hi1 : ¬ (200 : Int) < (s.size : Int) := by omega
  have hi2 :  (200 : Int) < (T.size : Int) := by omega
  have hne2 : (T.toList == []) = false := by rcases h : T.toList with _ | _ <;> simp_all
  have hTT : (T.toList == T.toList) = true := beq_self_eq_true _
  clear he hp hq hwt hwt2 ht hs hTm hl
  go_enter Tryd.func3, Tryd.ntmps3
  go_wp2_with fail
  go_fit HP.out
  rintro e w1 ⟨x, rfl, hx, hb⟩
  obtain ⟨hos, u, rfl, hu⟩ := hx
  obtain ⟨uo, uc, rfl, _⟩ := hu.form
  have hb2 := alloc_under w1 (.cells #[.int .i64 n.kind, .int .u64 (n.set.1 : Int), .int .u64 (n.set.2.1 : Int), .int .u64 (n.set.2.2.1 : Int), .int .u64 (n.set.2.2.2 : Int), .slice uo n.kids.length uc] 26)
  have hbx := boxN.new 26 w1 n.kind n.set (.slice uo n.kids.length uc)
  obtain ⟨W2, hW2⟩ : ∃ W2, w1.alloc (.cells #[.int .i64 n.kind, .int .u64 (n.set.1 : Int), .int .u64 (n.set.2.1 : Int), .int .u64 (n.set.2.2.1 : Int), .int .u64 (n.set.2.2.2 : Int), .slice uo n.kids.length uc] 26) = W2 := ⟨_, rfl⟩
  rw [hW2] at hb2 hbx
  have hku : KidsF (fun _ => True) W2 n.kids (.slice uo n.kids.length uc) := (hu.under hb2).mono fun _ _ _ => trivial
  have hwb := hb.trans (hb2.mono hb.size)
  have H2 := Lib.hid (And.intro hwb (And.intro hbx (And.intro hku (And.intro hos (And.intro (HE.out.below hwb) (show w.heap.size ≤ w1.heap.size from hb.size))))))
  have HSH2 := Lib.hid (HSH.out W2 _ ⟨hos, _, rfl, hku⟩)
  obtain ⟨⟨x0, x1, x2, x3, x4, x5⟩, _⟩ := hbx.cells
  clear hu hb hb2 hbx hku hwb hos HE HSH HP HSM0
  unfold nodeV at HSH2
  unfold nodeV
  obtain ⟨na, hna⟩ : ∃ x, n.kids.length = x := ⟨_, rfl⟩
  have HNA := Lib.hid hna
  rw [hna] at HSH2 x5 hW2 ⊢
  clear hna
  go_wp2_with fail
  try rw [hW2]
  clear hW2
  go_fit HSH2.out
  rintro e w3 ⟨rfl, hb3⟩
  have HP3 := Lib.hid (HP2.out w3 (H2.out.2.2.2.2.1.below hb3))
  have H3 := Lib.hid hb3
  clear hb3 HP2 HSH2 x0 x1 x2 x3 x4 x5
  go_wp2_with fail
  go_fit HP3.out
  rintro e w4 ⟨y, rfl, hy, hb4⟩
  obtain ⟨_, v, rfl, hv⟩ := hy
  obtain ⟨vo, vc, rfl, _⟩ := hv.form
  have hb5 := alloc_under w4 (.cells #[.int .i64 0, .int .u64 0, .int .u64 0, .int .u64 0, .int .u64 0, .slice vo 0 vc] 26)
  have hbw : Below w.heap.size w (w4.alloc (.cells #[.int .i64 0, .int .u64 0, .int .u64 0, .int .u64 0, .int .u64 0, .slice vo 0 vc] 26)) := ((H2.out.1.trans (H3.out.mono H2.out.1.size)).trans (hb4.mono (Nat.le_trans H2.out.1.size H3.out.size))).trans (hb5.mono (Nat.le_trans H2.out.1.size (Nat.le_trans H3.out.size hb4.size)))
  have HRU := Lib.hid (ruled_any _ (((H2.out.2.2.2.2.1.below H3.out).below hb4).below hb5))
  have HB := Lib.hid hbw
  clear hv hb4 hb5 hbw HP3
  simp only [nodeV, emptyR, Nd.kind, Nd.set, noR, Nd.kids, List.length_nil]
  go_wp2_with fail
  go_fit HRU.out
  rintro e w5 ⟨rfl, hb⟩
  have HF := Lib.hid (HB.out.trans (hb.mono HB.out.size))
  clear hb
  go_wp2_with fail
  go_ret
  exact ⟨rfl, HF.out⟩
set_option maxRecDepth 100000 in
set_option maxHeartbeats 8000000 in
theorem regsBack_short (s T : ByteArray) (n : Nd) (w : World) (he : ErrW w) (hp : parseP s = (n, 0)) (hs : s.size ≤ 200) (ht : strR (textR n) = T) (hne : T.toList.isEmpty = false) (hTm : T.size ≤ 400000000) (hl : T.size ≤ 200) (hq : parseP T = (n, 0)) :
    Calls Tryd.prog 3 #[.string s] w fun e w' => e = .returned (.bool true) ∧ Below w.heap.size w w' := by
  have hwt := wt_parseP s
  rw [hp] at hwt
  have hwt2 : wtR n ≤ 100000 := Nat.le_trans hwt (by decide)
  have HP := Lib.hid (pparse_any s w he)
  rw [hp] at HP
  have HE := Lib.hid he
  have HP2 := Lib.hid (fun W (h : ErrW W) => pparse_any T W h)
  rw [hq] at HP2
  have HSH : Hid (∀ (V : World) x, NodeF (fun _ => True) V n x → Calls Tryd.prog 12 #[x] V fun e U => e = .returned (.string T) ∧ Below V.heap.size V U) := fun V x hx => by
    have := pshow_any n x V hx hwt2
    rwa [ht] at this
  have HSM0 : Hid (∀ (V : World) (u v : Value), OkR n.set → KidsF (fun _ => True) V n.kids u → KidsF (fun _ => True) V n.kids v → Calls Tryd.prog 10 #[nodeV n u, nodeV n v] V fun e U => e = .returned (.bool true) ∧ Below V.heap.size V U) := fun V u v ho hu hv => psame_eq n _ _ V ho hu hv hwt2
  have hi1 : ¬ (200 : Int) < (s.size : Int) := by omega
  have hi2 : ¬ (200 : Int) < (T.size : Int) := by omega
  have hne2 : (T.toList == []) = false := by rcases h : T.toList with _ | _ <;> simp_all
  have hTT : (T.toList == T.toList) = true := beq_self_eq_true _
  clear he hp hq hwt hwt2 ht hs hTm hl
  go_enter Tryd.func3, Tryd.ntmps3
  go_wp2_with fail
  go_fit HP.out
  rintro e w1 ⟨x, rfl, hx, hb⟩
  obtain ⟨hos, u, rfl, hu⟩ := hx
  obtain ⟨uo, uc, rfl, _⟩ := hu.form
  have hb2 := alloc_under w1 (.cells #[.int .i64 n.kind, .int .u64 (n.set.1 : Int), .int .u64 (n.set.2.1 : Int), .int .u64 (n.set.2.2.1 : Int), .int .u64 (n.set.2.2.2 : Int), .slice uo n.kids.length uc] 26)
  have hbx := boxN.new 26 w1 n.kind n.set (.slice uo n.kids.length uc)
  obtain ⟨W2, hW2⟩ : ∃ W2, w1.alloc (.cells #[.int .i64 n.kind, .int .u64 (n.set.1 : Int), .int .u64 (n.set.2.1 : Int), .int .u64 (n.set.2.2.1 : Int), .int .u64 (n.set.2.2.2 : Int), .slice uo n.kids.length uc] 26) = W2 := ⟨_, rfl⟩
  rw [hW2] at hb2 hbx
  have hku : KidsF (fun _ => True) W2 n.kids (.slice uo n.kids.length uc) := (hu.under hb2).mono fun _ _ _ => trivial
  have hwb := hb.trans (hb2.mono hb.size)
  have H2 := Lib.hid (And.intro hwb (And.intro hbx (And.intro hku (And.intro hos (And.intro (HE.out.below hwb) (show w.heap.size ≤ w1.heap.size from hb.size))))))
  have HSH2 := Lib.hid (HSH.out W2 _ ⟨hos, _, rfl, hku⟩)
  obtain ⟨⟨x0, x1, x2, x3, x4, x5⟩, _⟩ := hbx.cells
  clear hu hb hb2 hbx hku hwb hos HE HP
  unfold nodeV at HSH2
  unfold nodeV
  obtain ⟨na, hna⟩ : ∃ x, n.kids.length = x := ⟨_, rfl⟩
  have HNA := Lib.hid hna
  rw [hna] at HSH2 x5 hW2 ⊢
  clear hna
  go_wp2_with fail
  try rw [hW2]
  clear hW2
  go_fit HSH2.out
  rintro e w3 ⟨rfl, hb3⟩
  have HP3 := Lib.hid (HP2.out w3 (H2.out.2.2.2.2.1.below hb3))
  have H3 := Lib.hid hb3
  clear hb3 HP2 HSH2 x0 x1 x2 x3 x4 x5
  go_wp2_with fail
  go_fit HP3.out
  rintro e w4 ⟨y, rfl, hy, hb4⟩
  obtain ⟨_, v, rfl, hv⟩ := hy
  obtain ⟨vo, vc, rfl, _⟩ := hv.form
  have hb5 := alloc_under w4 (.cells #[.int .i64 n.kind, .int .u64 (n.set.1 : Int), .int .u64 (n.set.2.1 : Int), .int .u64 (n.set.2.2.1 : Int), .int .u64 (n.set.2.2.2 : Int), .slice vo n.kids.length vc] 26)
  have hby := boxN.new 26 w4 n.kind n.set (.slice vo n.kids.length vc)
  obtain ⟨W5, hW5⟩ : ∃ W2, w4.alloc (.cells #[.int .i64 n.kind, .int .u64 (n.set.1 : Int), .int .u64 (n.set.2.1 : Int), .int .u64 (n.set.2.2.1 : Int), .int .u64 (n.set.2.2.2 : Int), .slice vo n.kids.length vc] 26) = W2 := ⟨_, rfl⟩
  rw [hW5] at hb5 hby
  have hkv : KidsF (fun _ => True) W5 n.kids (.slice vo n.kids.length vc) := (hv.under hb5).mono fun _ _ _ => trivial
  have hku : KidsF (fun _ => True) W5 n.kids (.slice uo n.kids.length uc) := ((H2.out.2.2.1.under H3.out).under hb4).under hb5
  have hbx := ((H2.out.2.1.below H3.out).below hb4).below hb5
  have hbw : Below w.heap.size w W5 := ((H2.out.1.trans (H3.out.mono H2.out.1.size)).trans (hb4.mono (Nat.le_trans H2.out.1.size H3.out.size))).trans (hb5.mono (Nat.le_trans H2.out.1.size (Nat.le_trans H3.out.size hb4.size)))
  have heE := ((H2.out.2.2.2.2.1.below H3.out).below hb4).below hb5
  have HB := Lib.hid hbw
  have HC : Hid (∀ V, Below W5.heap.size W5 V → cellsN V w1.heap.size n (.slice uo n.kids.length uc) ∧ cellsN V w4.heap.size n (.slice vo n.kids.length vc)) := fun V hV => ⟨(hbx.below hV).cells.1, (hby.below hV).cells.1⟩
  have HSM : Hid (∀ V, Below W5.heap.size W5 V → Calls Tryd.prog 10 #[nodeV n (.slice uo n.kids.length uc), nodeV n (.slice vo n.kids.length vc)] V fun e U => e = .returned (.bool true) ∧ Below W5.heap.size W5 U) := fun V hV => (HSM0.out V _ _ H2.out.2.2.2.1 (hku.under hV) (hkv.under hV)).mono fun e U ⟨h1, h2⟩ => ⟨h1, hV.trans (h2.mono hV.size)⟩
  have HSW : Hid (∀ V, Below W5.heap.size W5 V → Calls Tryd.prog 12 #[nodeV n (.slice vo n.kids.length vc)] V fun e U => e = .returned (.string T) ∧ Below W5.heap.size W5 U) := fun V hV => (HSH.out V _ ⟨H2.out.2.2.2.1, _, rfl, hkv.under hV⟩).mono fun e U ⟨h1, h2⟩ => ⟨h1, hV.trans (h2.mono hV.size)⟩
  have HRU : Hid (∀ V, Below W5.heap.size W5 V → Calls Tryd.prog 11 #[] V fun e U => e = .returned (.bool true) ∧ Below W5.heap.size W5 U) := fun V hV =>
    (ruled_any V (heE.below hV)).mono fun e U ⟨h1, h2⟩ => ⟨h1, hV.trans (h2.mono hV.size)⟩
  rw [HNA.out] at HC HSM HSW hW5
  unfold cellsN at HC
  unfold nodeV at HSM HSW
  have kk := Below.refl W5.heap.size W5
  have k0 : Below W5.heap.size W5 W5.drew := kk.drew
  clear hv hb4 hb5 hby hkv hku hbx hbw heE HP3 HSM0 HSH
  unfold nodeV
  rw [HNA.out]
  obtain ⟨⟨x0, x1, x2, x3, x4, x5⟩, y0, y1, y2, y3, y4, y5⟩ := HC.out W5 kk
  go_wp2_with fail
  go_fit (HSM.out _ kk)
  rintro e w6 ⟨rfl, kk2⟩
  clear x0 x1 x2 x3 x4 x5 y0 y1 y2 y3 y4 y5
  obtain ⟨⟨x0, x1, x2, x3, x4, x5⟩, y0, y1, y2, y3, y4, y5⟩ := HC.out w6 kk2
  go_wp2_with fail
  go_fit (HSW.out _ kk2)
  rintro e w7 ⟨rfl, kk3⟩
  clear x0 x1 x2 x3 x4 x5 y0 y1 y2 y3 y4 y5
  go_wp2_with fail
  go_fit (HRU.out _ kk3)
  rintro e w8 ⟨rfl, kk4⟩
  have HF := Lib.hid (HB.out.trans (kk4.mono HB.out.size))
  clear kk kk2 kk3 kk4 k0
  go_wp2_with fail
  go_ret
  exact ⟨rfl, HF.out⟩
theorem regsBack_any (s : ByteArray) (w : World) (he : ErrW w) :
    Calls Tryd.prog 3 #[.string s] w fun e w' => e = .returned (.bool true) ∧ Below w.heap.size w w' := by
  rcases back_plain s with ⟨e0, h1, h2⟩ | ⟨n, T, h1, h2, h3, h4, h5, h6 | h6⟩
  · exact regsBack_no s e0 w he h1 h2
  · exact regsBack_long s T n w he h1 h2 h3 h4 h5 h6.1 h6.2
  · exact regsBack_short s T n w he h1 h2 h3 h4 h5 h6.1 h6.2
end Go.Proofs.YtkopbngnhgdfhaaDoor
