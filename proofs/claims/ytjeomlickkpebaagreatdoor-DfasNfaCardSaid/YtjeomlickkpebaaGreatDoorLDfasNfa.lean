/-
  limnerlaw12.DfasNfa: it returns true, for any rules and text.
-/
import Derived.Test.YtjeomlickkpebaaGreatDoorBe45
import Derived.Test.YtjeomlickkpebaaGreatDoorBe44
namespace Go.Proofs.YtjeomlickkpebaaGreatDoor
open Go.RowKit

set_option maxRecDepth 4000 in
set_option maxHeartbeats 16000000 in
theorem dfasNfa_any (v : Value) (L : List ByteArray) (s : ByteArray) (w : World) (he : EnvW w) (h : StrsW w v L) :
    Calls Tryz.prog 9 #[v, .string s] w fun e w' => e = .returned (.bool true) ∧ Below w.heap.size w w' := by
  have HTB := Lib.hid (fun (W : World) (hb : Below w.heap.size w W) => (tabled_any (he.below hb)).mono fun e w' h2 => (⟨h2.1, hb.trans (h2.2.mono hb.size)⟩ : e = .returned (.bool true) ∧ Below w.heap.size w w'))
  have HG := Lib.hid (greatd_any h)
  have HMD := Lib.hid (dmade_any h he)
  obtain ⟨vo, vc, rfl, hvc⟩ := h.form
  obtain ⟨m, hm⟩ : ∃ m, L.length = m := ⟨_, rfl⟩
  rw [hm] at hvc HG HMD ⊢
  obtain ⟨gb, hgb⟩ : ∃ gb, greatD L = gb := ⟨_, rfl⟩
  rw [hgb] at HG
  clear h hm hgb
  cases gb with
  | true =>
    go_enter Tryz.func9, Tryz.ntmps9
    go_wp2_with fail
    go_fit HG.out
    rintro e w1 ⟨rfl, rfl⟩
    have HX := Lib.hid (HTB.out _ (Below.refl _ _))
    clear HMD HTB
    go_wp2_with fail
    go_fit HX.out
    rintro e w9 ⟨rfl, hb⟩
    have HB := Lib.hid hb
    clear hb
    go_wp2_with fail
    go_ret
    exact ⟨rfl, HB.out⟩
  | false =>
  by_cases hs9 : 100 < s.size
  · have hsi : (s.size : Int) > 100 := by omega
    go_enter Tryz.func9, Tryz.ntmps9
    go_wp2_with fail
    go_fit HG.out
    rintro e w1 ⟨rfl, rfl⟩
    have HX := Lib.hid (HTB.out _ (Below.refl _ _))
    clear HMD HTB
    go_wp2_with fail
    go_fit HX.out
    rintro e w9 ⟨rfl, hb⟩
    have HB := Lib.hid hb
    clear hb
    go_wp2_with fail
    go_ret
    exact ⟨rfl, HB.out⟩
  have hsi : ¬ (s.size : Int) > 100 := by omega
  go_enter Tryz.func9, Tryz.ntmps9
  go_wp2_with fail
  go_fit HG.out
  rintro e w1 ⟨rfl, rfl⟩
  go_wp2_with fail
  go_fit HMD.out
  rintro e w3 ⟨ho, hb3⟩
  have H3 := Lib.hid hb3
  clear hb3 HMD HG
  rcases ho with ⟨hne, rfl⟩ | ⟨h0, np, hnp, ⟨dp, k, rfl, hD, hk⟩ | ⟨rfl, ls, h4, h5, h6⟩⟩
  · obtain ⟨er, her⟩ : ∃ er, makeE L = er := ⟨_, rfl⟩
    rw [her] at hne ⊢
    have heb : (er == 0) = false := beq_eq_false_iff_ne.2 hne
    have heb2 : (er != 0) = true := by simpa using hne
    clear her hne
    have HX := Lib.hid (HTB.out _ H3.out)
    clear HTB
    go_wp2_with fail
    go_fit HX.out
    rintro e w9 ⟨rfl, hb⟩
    have HB := Lib.hid hb
    clear hb
    go_wp2_with fail
    go_ret
    exact ⟨rfl, HB.out⟩
  · have HD := Lib.hid (And.intro hD (And.intro hnp (And.intro hk h0)))
    clear hD hnp hk h0
    have HGD := Lib.hid (make_good HD.out.2.2.2)
    have HB0 := Lib.hid (Below.refl w3.heap.size w3)
    go_wp2_with fail
    go_loopw [8] (fun s8 wr => ∃ i : Nat, s8 = .int .i64 (i : Int) ∧ i ≤ s.size + 1 ∧ Hid (Below w3.heap.size w3 wr)) (fun s8 _ => s.size + 1 - (intOf s8).toNat)
    case atStart => exact ⟨0, rfl, Nat.zero_le _, HB0⟩
    case round =>
      obtain ⟨i, rfl, hi, HX⟩ := hrel
      clear HB0
      have i0 : (0 : Int) ≤ (i : Int) := by omega
      have ib : (i : Int) ≤ 101 := by omega
      by_cases hlt : i ≤ s.size
      · have hli : (i : Int) ≤ (s.size : Int) := by omega
        obtain ⟨x, y, st, e1, e2, x0, xst, hst, _⟩ := mda_facts L HD.out.1.ok (says_tab HD.out.2.2.1) s (i : Int)
        have M1 := pdmatch_any (HD.out.1.below HX.out) s (by omega) (i : Int)
        rw [e1] at M1
        have M1 := Lib.hid M1
        have M2 : Hid (∀ W, Below w3.heap.size w3 W → Calls Tryz.prog 28 #[.pointer np, .string s, .int .i64 (i : Int)] W fun e w' => e = .returned (.tuple #[.int .i64 x, .int .i64 y]) ∧ Below W.heap.size W w') := Lib.hid fun W hb =>
          (nmatch_any (.inr (HD.out.2.1.below hb)) HGD.out.1.ok HGD.out.1.in_ s (by omega) (i : Int)).mono fun e w' h2 => ⟨by rw [h2.1, matchA_same, e2], h2.2⟩
        have hst2 : ¬ st > (s.size : Int) - (i : Int) := by have := hst i0 hli; omega
        have hxs : ¬ st < x := by omega
        have hw : IntKind.i64.wrap ((s.size : Int) - (i : Int)) = (s.size : Int) - (i : Int) := by apply IntWalk.i64_in <;> omega
        have xx : (x != x) = false := by simp
        have yy : (y != y) = false := by simp
        have xx2 : (x == x) = true := by simp
        have yy2 : (y == y) = true := by simp
        clear e1 e2 hst x0 xst
        go_wp2_with fail
        go_fit M1.out
        rintro e w5 ⟨rfl, hb⟩
        have H5 := Lib.hid (HX.out.trans (hb.mono HX.out.size))
        clear hb HX M1
        go_wp2_with fail
        go_fit (M2.out _ H5.out)
        rintro e w6 ⟨rfl, hb⟩
        have H6 := Lib.hid (H5.out.trans (hb.mono H5.out.size))
        clear hb H5 M2
        go_wp2_with fail
        go_roundw
        case rel => exact ⟨i + 1, by go_num, by omega, H6⟩
        case measure => simp [intOf] <;> omega
      · have hli : ¬ (i : Int) ≤ (s.size : Int) := by omega
        have HX2 := Lib.hid (HTB.out _ (H3.out.trans (HX.out.mono H3.out.size)))
        clear HTB
        go_wp2_with fail
        go_fit HX2.out
        rintro e w9 ⟨rfl, hb⟩
        have HB := Lib.hid hb
        clear hb
        go_wp2_with fail
        go_ret
        exact ⟨rfl, HB.out⟩
  · have HX := Lib.hid (HTB.out _ H3.out)
    clear HTB h4 h5 h6 hnp h0
    go_wp2_with fail
    go_fit HX.out
    rintro e w9 ⟨rfl, hb⟩
    have HB := Lib.hid hb
    clear hb
    go_wp2_with fail
    go_ret
    exact ⟨rfl, HB.out⟩
end Go.Proofs.YtjeomlickkpebaaGreatDoor
