/-
  regs' reader: escaped, letter: what each call returns, or how it ends.
-/
import Derived.Test.YtkopbngnhgdfhaaDoorBe24
namespace Go.Proofs.YtkopbngnhgdfhaaDoor
open Go.RowKit

theorem MvP.go {s : ByteArray} {R : Nat} {w w1 w' : World} {o : Option (Nat × List Nat)} {e : Ending} (h : MvP s R w1 w' o e) (hk : KeepW (fun k => k ≠ R) w w1) : MvP s R w w' o e := ⟨hk.trans h.1, h.2⟩
theorem rest_size (s : ByteArray) (i : Nat) (h : i ≤ s.size) : s.size - (restR s i).length = i := by rw [rest_len]; omega
section
variable {w : World} {R : Nat} {s : ByteArray} {i : Nat}
set_option maxHeartbeats 4000000 in
theorem pescaped_any (h : RxW w R s i) (hi : i ≤ s.size) (hs : s.size ≤ 1000) :
    Calls Tryd.prog 93 #[.pointer (some ⟨R, 0, none⟩)] w fun e w' => MvP s R w w' (escR (restR s i)) e := by
  by_cases h0 : i = s.size
  · subst h0
    have HN := Lib.hid (pnext_no h.rd)
    have HE := Lib.hid (show escR (restR s s.size) = none by rw [rest_nil s _ (Nat.le_refl _)]; rfl)
    clear h
    go_enter Tryd.func93, Tryd.ntmps93
    go_wp2_with fail
    go_fit HN.out
    rintro e w1 ⟨rfl, hb⟩
    exact ⟨rfl, by rw [HE.out]; exact ⟨keep_below _ hb, rfl⟩⟩
  have HN := Lib.hid (pnext_yes h.rd (by omega) hs)
  have HE := Lib.hid (show escR (restR s i) = escR (bR s i :: restR s (i + 1)) by rw [rest_cons s i (by omega)])
  have HSZ := Lib.hid (rest_size s (i + 1) (by omega))
  have hd := bR_lt s i
  have HX := Lib.hid h
  obtain ⟨d, hdd⟩ : ∃ d, bR s i = d := ⟨_, rfl⟩
  rw [hdd] at HN HE hd
  clear h hdd
  by_cases e110 : d = 110
  · subst e110
    have HE2 := Lib.hid (show escR (110 :: restR s (i + 1)) = some (10, restR s (i + 1)) from rfl)
    rw [show ((110 : Nat) : Int) = 110 from rfl] at HN
    clear hd
    go_enter Tryd.func93, Tryd.ntmps93
    go_wp2_with fail
    go_fit HN.out
    rintro e w1 ⟨rfl, hr, hk⟩
    have HR := Lib.hid (And.intro hr hk)
    clear hr hk
    go_wp2_with fail
    go_ret
    exact ⟨HR.out.2, by rw [HE.out, HE2.out]; exact ⟨rfl, by rw [HSZ.out]; exact HR.out.1⟩⟩
  have i110 : ((d : Int) == 110) = false := beq_eq_false_iff_ne.2 (by omega)
  by_cases e116 : d = 116
  · subst e116
    have HE2 := Lib.hid (show escR (116 :: restR s (i + 1)) = some (9, restR s (i + 1)) from rfl)
    rw [show ((116 : Nat) : Int) = 116 from rfl] at HN
    clear hd
    go_enter Tryd.func93, Tryd.ntmps93
    go_wp2_with fail
    go_fit HN.out
    rintro e w1 ⟨rfl, hr, hk⟩
    have HR := Lib.hid (And.intro hr hk)
    clear hr hk
    go_wp2_with fail
    go_ret
    exact ⟨HR.out.2, by rw [HE.out, HE2.out]; exact ⟨rfl, by rw [HSZ.out]; exact HR.out.1⟩⟩
  have i116 : ((d : Int) == 116) = false := beq_eq_false_iff_ne.2 (by omega)
  by_cases e114 : d = 114
  · subst e114
    have HE2 := Lib.hid (show escR (114 :: restR s (i + 1)) = some (13, restR s (i + 1)) from rfl)
    rw [show ((114 : Nat) : Int) = 114 from rfl] at HN
    clear hd
    go_enter Tryd.func93, Tryd.ntmps93
    go_wp2_with fail
    go_fit HN.out
    rintro e w1 ⟨rfl, hr, hk⟩
    have HR := Lib.hid (And.intro hr hk)
    clear hr hk
    go_wp2_with fail
    go_ret
    exact ⟨HR.out.2, by rw [HE.out, HE2.out]; exact ⟨rfl, by rw [HSZ.out]; exact HR.out.1⟩⟩
  have i114 : ((d : Int) == 114) = false := beq_eq_false_iff_ne.2 (by omega)
  by_cases e120 : d = 120
  · subst e120
    have HE2 := Lib.hid (show escR (120 :: restR s (i + 1)) = hexR (restR s (i + 1)) from rfl)
    have HNU := Lib.hid (fun W (hr : RdW W R s (i + 1)) (hk : KeepW (fun k => k ≠ R) w W) => pnumber_any (HX.out.move hk hr) (by omega) hs)
    rw [show ((120 : Nat) : Int) = 120 from rfl] at HN
    clear hd i110 i116 i114 e110 e116 e114
    rcases hh : hexR (restR s (i + 1)) with _ | ⟨b, r⟩
    · rw [hh] at HE2
      simp only [hh] at HNU
      clear hh
      go_enter Tryd.func93, Tryd.ntmps93
      go_wp2_with fail
      go_fit HN.out
      rintro e w1 ⟨rfl, hr, hk⟩
      have H2 := Lib.hid (HNU.out w1 hr hk)
      have HK := Lib.hid hk
      clear hr hk
      go_wp2_with fail
      go_fit H2.out
      rintro e w2 ⟨hk2, rfl⟩
      exact ⟨rfl, by rw [HE.out, HE2.out]; exact ⟨HK.out.trans hk2, rfl⟩⟩
    · rw [hh] at HE2
      simp only [hh] at HNU
      clear hh
      go_enter Tryd.func93, Tryd.ntmps93
      go_wp2_with fail
      go_fit HN.out
      rintro e w1 ⟨rfl, hr, hk⟩
      have H2 := Lib.hid (HNU.out w1 hr hk)
      have HK := Lib.hid hk
      clear hr hk
      go_wp2_with fail
      go_fit H2.out
      rintro e w2 ⟨hk2, rfl, hr2⟩
      have HR2 := Lib.hid (And.intro (HK.out.trans hk2) hr2)
      clear hk2 hr2
      go_wp2_with fail
      go_ret
      exact ⟨HR2.out.1, by rw [HE.out, HE2.out]; exact ⟨rfl, HR2.out.2⟩⟩
  have i120 : ((d : Int) == 120) = false := beq_eq_false_iff_ne.2 (by omega)
  have HSP := Lib.hid (fun W => pspecial_any d W hd)
  by_cases hsp : specR d = true
  · have HE2 := Lib.hid (show escR (d :: restR s (i + 1)) = some (d, restR s (i + 1)) by simp only [escR]; rw [if_neg e110, if_neg e116, if_neg e114, if_neg e120, if_pos hsp])
    rw [hsp] at HSP
    have HYES := Lib.hid (fun W => pneed_yes W)
    clear e110 e116 e114 e120 hsp hd
    go_enter Tryd.func93, Tryd.ntmps93
    go_wp2_with fail
    go_fit HN.out
    rintro e w1 ⟨rfl, hr, hk⟩
    have HR := Lib.hid (And.intro hr hk)
    clear hr hk
    go_wp2_with fail
    go_fit (HSP.out _)
    rintro e w2 ⟨rfl, rfl⟩
    go_wp2_with fail
    go_fit (HYES.out _)
    rintro e w3 ⟨rfl, rfl⟩
    go_wp2_with fail
    go_ret
    exact ⟨HR.out.2, by rw [HE.out, HE2.out]; exact ⟨rfl, by rw [HSZ.out]; exact HR.out.1⟩⟩
  · have HE2 := Lib.hid (show escR (d :: restR s (i + 1)) = none by simp only [escR]; rw [if_neg e110, if_neg e116, if_neg e114, if_neg e120, if_neg hsp])
    rw [show specR d = false by simpa using hsp] at HSP
    have HNO := Lib.hid (fun W => pneed_no W)
    clear e110 e116 e114 e120 hsp hd
    go_enter Tryd.func93, Tryd.ntmps93
    go_wp2_with fail
    go_fit HN.out
    rintro e w1 ⟨rfl, hr, hk⟩
    have HR := Lib.hid (And.intro hr hk)
    clear hr hk
    go_wp2_with fail
    go_fit (HSP.out _)
    rintro e w2 ⟨rfl, rfl⟩
    go_wp2_with fail
    go_fit (HNO.out _)
    rintro e w3 ⟨rfl, rfl⟩
    exact ⟨rfl, by rw [HE.out, HE2.out]; exact ⟨HR.out.2, rfl⟩⟩
set_option maxHeartbeats 4000000 in
theorem pletter_any (h : RxW w R s i) (hi : i ≤ s.size) (hs : s.size ≤ 1000) :
    Calls Tryd.prog 90 #[.pointer (some ⟨R, 0, none⟩)] w fun e w' => MvP s R w w' (letR true (restR s i)) e := by
  by_cases h0 : i = s.size
  · subst h0
    have HN := Lib.hid (pnext_no h.rd)
    have HE := Lib.hid (show letR true (restR s s.size) = none by rw [rest_nil s _ (Nat.le_refl _)]; rfl)
    clear h
    go_enter Tryd.func90, Tryd.ntmps90
    go_wp2_with fail
    go_fit HN.out
    rintro e w1 ⟨rfl, hb⟩
    exact ⟨rfl, by rw [HE.out]; exact ⟨keep_below _ hb, rfl⟩⟩
  have HN := Lib.hid (pnext_yes h.rd (by omega) hs)
  have HE := Lib.hid (show letR true (restR s i) = letR true (bR s i :: restR s (i + 1)) by rw [rest_cons s i (by omega)])
  have HSZ := Lib.hid (rest_size s (i + 1) (by omega))
  have hd := bR_lt s i
  have HX := Lib.hid h
  obtain ⟨d, hdd⟩ : ∃ d, bR s i = d := ⟨_, rfl⟩
  rw [hdd] at HN HE hd
  clear h hdd
  by_cases e92 : d = 92
  · subst e92
    have HE2 := Lib.hid (show letR true (92 :: restR s (i + 1)) = escR (restR s (i + 1)) from rfl)
    have HNU := Lib.hid (fun W (hr : RdW W R s (i + 1)) (hk : KeepW (fun k => k ≠ R) w W) => pescaped_any (HX.out.move hk hr) (by omega) hs)
    rw [show ((92 : Nat) : Int) = 92 from rfl] at HN
    clear hd
    rcases hh : escR (restR s (i + 1)) with _ | ⟨b, r⟩
    · rw [hh] at HE2
      simp only [hh] at HNU
      clear hh
      go_enter Tryd.func90, Tryd.ntmps90
      go_wp2_with fail
      go_fit HN.out
      rintro e w1 ⟨rfl, hr, hk⟩
      have H2 := Lib.hid (HNU.out w1 hr hk)
      have HK := Lib.hid hk
      clear hr hk
      go_wp2_with fail
      go_fit H2.out
      rintro e w2 ⟨hk2, rfl⟩
      exact ⟨rfl, by rw [HE.out, HE2.out]; exact ⟨HK.out.trans hk2, rfl⟩⟩
    · rw [hh] at HE2
      simp only [hh] at HNU
      clear hh
      go_enter Tryd.func90, Tryd.ntmps90
      go_wp2_with fail
      go_fit HN.out
      rintro e w1 ⟨rfl, hr, hk⟩
      have H2 := Lib.hid (HNU.out w1 hr hk)
      have HK := Lib.hid hk
      clear hr hk
      go_wp2_with fail
      go_fit H2.out
      rintro e w2 ⟨hk2, rfl, hr2⟩
      have HR2 := Lib.hid (And.intro (HK.out.trans hk2) hr2)
      clear hk2 hr2
      go_wp2_with fail
      go_ret
      exact ⟨HR2.out.1, by rw [HE.out, HE2.out]; exact ⟨rfl, HR2.out.2⟩⟩
  have i92 : ((d : Int) == 92) = false := beq_eq_false_iff_ne.2 (by omega)
  have HSP := Lib.hid (fun W => pspecial_any d W hd)
  by_cases hsp : specR d = true
  · have HE2 := Lib.hid (show letR true (d :: restR s (i + 1)) = none by simp only [letR]; rw [if_neg e92, if_pos ⟨hsp, .inl trivial⟩])
    rw [hsp] at HSP
    have HNO := Lib.hid (fun W => pneed_no W)
    clear e92 hsp hd
    go_enter Tryd.func90, Tryd.ntmps90
    go_wp2_with fail
    go_fit HN.out
    rintro e w1 ⟨rfl, hr, hk⟩
    have HR := Lib.hid (And.intro hr hk)
    clear hr hk
    go_wp2_with fail
    go_fit (HSP.out _)
    rintro e w2 ⟨rfl, rfl⟩
    go_wp2_with fail
    go_fit (HNO.out _)
    rintro e w3 ⟨rfl, rfl⟩
    exact ⟨rfl, by rw [HE.out, HE2.out]; exact ⟨HR.out.2, rfl⟩⟩
  · have HE2 := Lib.hid (show letR true (d :: restR s (i + 1)) = some (d, restR s (i + 1)) by simp only [letR]; rw [if_neg e92, if_neg (fun e => hsp e.1)])
    rw [show specR d = false by simpa using hsp] at HSP
    have HYES := Lib.hid (fun W => pneed_yes W)
    clear e92 hsp hd
    go_enter Tryd.func90, Tryd.ntmps90
    go_wp2_with fail
    go_fit HN.out
    rintro e w1 ⟨rfl, hr, hk⟩
    have HR := Lib.hid (And.intro hr hk)
    clear hr hk
    go_wp2_with fail
    go_fit (HSP.out _)
    rintro e w2 ⟨rfl, rfl⟩
    go_wp2_with fail
    go_fit (HYES.out _)
    rintro e w3 ⟨rfl, rfl⟩
    go_wp2_with fail
    go_ret
    exact ⟨HR.out.2, by rw [HE.out, HE2.out]; exact ⟨rfl, by rw [HSZ.out]; exact HR.out.1⟩⟩
end
end Go.Proofs.YtkopbngnhgdfhaaDoor
