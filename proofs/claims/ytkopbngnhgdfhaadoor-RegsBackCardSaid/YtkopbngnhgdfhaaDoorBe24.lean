/-
  strconv.ParseUint at two bytes; regs' reader: number: what each call returns, or how it ends.
-/
import Derived.Test.YtkopbngnhgdfhaaDoorBe15
import Derived.Test.YtkopbngnhgdfhaaDoorBe23
import Derived.Test.YtkopbngnhgdfhaaDoorBe21
namespace Go.Proofs.YtkopbngnhgdfhaaDoor
open Go.RowKit

/-- The library's error lies where it is told of. -/
def ErrW (w : World) : Prop := ∃ ev, w.cell? ⟨1, 0, none⟩ = some ev ∧ (ev = .nilIface ∨ ∃ te pe, ev = .iface te pe)
theorem ErrW.below {w w' : World} (h : ErrW w) (hb : Below w.heap.size w w') : ErrW w' := by
  obtain ⟨ev, h1, h2⟩ := h
  exact ⟨ev, (keep_below (fun _ => True) hb).cell h1 trivial, h2⟩
theorem ErrW.keep {ok : Nat → Prop} {w w' : World} (h : ErrW w) (hk : KeepW ok w w') (ho : ok 1) : ErrW w' := by
  obtain ⟨ev, h1, h2⟩ := h
  exact ⟨ev, hk.cell h1 ho, h2⟩
/-- The reader's box, and the library's error. -/
structure RxW (w : World) (R : Nat) (s : ByteArray) (i : Nat) : Prop where
  rd : RdW w R s i
  err : ErrW w
  ne : R ≠ 1
theorem RxW.below {w w' : World} {R : Nat} {s : ByteArray} {i : Nat} (h : RxW w R s i) (hb : Below w.heap.size w w') : RxW w' R s i := ⟨h.rd.below hb, h.err.below hb, h.ne⟩
theorem RxW.keep {ok : Nat → Prop} {w w' : World} {R : Nat} {s : ByteArray} {i : Nat} (h : RxW w R s i) (hk : KeepW ok w w') (ho : ok R) (hg : ok 1) : RxW w' R s i := ⟨h.rd.keep hk ho, h.err.keep hk hg, h.ne⟩
theorem RxW.move {w w' : World} {R : Nat} {s : ByteArray} {i j : Nat} (h : RxW w R s i) (hk : KeepW (fun k => k ≠ R) w w') (hr : RdW w' R s j) : RxW w' R s j := ⟨hr, h.err.keep hk h.ne.symm, h.ne⟩
theorem toerr_any (s : ByteArray) (w : World) (hs : s.size = 2) (he : ErrW w) :
    Calls Tryd.prog 97 #[.string ⟨#[80, 97, 114, 115, 101, 85, 105, 110, 116]⟩, .string s, .int .i64 16, .int .i64 8, .iface 158 (.int .i64 2)] w fun e w' => ∃ N, e = .returned (.iface 160 (.pointer (some ⟨N, 0, none⟩))) ∧ Below w.heap.size w w' := by
  obtain ⟨ev, h1, h2⟩ := he
  exact (Tryd.strconv_toError_syntax ⟨#[80, 97, 114, 115, 101, 85, 105, 110, 116]⟩ s 16 8 ev w (by rw [hs]; decide) h1 h2).mono fun e w' ⟨N, e1, _, _, e2⟩ => ⟨N, e1, e2⟩
theorem pubuint_any (s : ByteArray) (w : World) (hs : s.size = 2) (he : ErrW w) :
    Calls Tryd.prog 95 #[.string s, .int .i64 16, .int .i64 8] w fun e w' => (match hexL 0 (bytesR s) with
      | some n => e = .returned (.tuple #[.int .u64 (n : Int), .nilIface])
      | none => ∃ T a, e = .returned (.tuple #[.int .u64 0, .iface T (.pointer a)])) ∧ Below w.heap.size w w' := by
  have HU := Lib.hid (puint_any s w hs)
  rcases hh : hexL 0 (bytesR s) with _ | n
  · rw [hh] at HU
    have HT := Lib.hid (fun W (hb : Below w.heap.size w W) => toerr_any s W hs (he.below hb))
    unfold uintV at HU
    clear hh he
    go_enter Tryd.func95, Tryd.ntmps95
    go_wp2_with fail
    go_fit HU.out
    rintro e w1 ⟨rfl, hb⟩
    have HB := Lib.hid hb
    have HT1 := Lib.hid (HT.out w1 hb)
    clear hb
    go_wp2_with fail
    go_fit HT1.out
    rintro e w2 ⟨N, rfl, hb2⟩
    have HB2 := Lib.hid (HB.out.trans (hb2.mono HB.out.size))
    clear hb2
    go_wp2_with fail
    go_ret2
    exact ⟨⟨_, _, rfl⟩, HB2.out⟩
  · rw [hh] at HU
    unfold uintV at HU
    clear hh he
    obtain ⟨a, ha⟩ : ∃ a : Int, (n : Int) = a := ⟨_, rfl⟩
    simp only [ha] at HU ⊢
    clear ha
    go_enter Tryd.func95, Tryd.ntmps95
    go_wp2_with fail
    go_fit HU.out
    rintro e w1 ⟨rfl, hb⟩
    have HB := Lib.hid hb
    clear hb
    go_wp2_with fail
    go_ret2
    exact ⟨rfl, HB.out⟩
/-- A byte and where the rest begins, or the text is given up. -/
def MvP (s : ByteArray) (R : Nat) (w w' : World) (o : Option (Nat × List Nat)) (e : Ending) : Prop :=
  KeepW (fun k => k ≠ R) w w' ∧ match o with
  | some (b, r) => e = .returned (.int .u8 (b : Int)) ∧ RdW w' R s (s.size - r.length)
  | none => e = failE
theorem hex_two (s : ByteArray) (i : Nat) (h : i + 1 < s.size) : hexR (restR s i) = (hexL 0 [bR s i, bR s (i + 1)]).map fun n => (n, restR s (i + 2)) := by
  rw [rest_cons s i (by omega), rest_cons s (i + 1) h]
  simp only [hexR, hexL]
  rcases digR (bR s i) with _ | x
  · rfl
  rcases digR (bR s (i + 1)) with _ | y
  · rfl
  simp
theorem two_bytes (a b : Nat) (ha : a < 256) (hb : b < 256) : bytesR (strOfNums [(a : Int), (b : Int)]) = [a, b] := by
  have e : strOfNums [(a : Int), (b : Int)] = strR [a, b] := by
    apply ByteArray.ext
    simp [strOfNums, strR]
  rw [e, strR_bytes [a, b] (by intro x hx; simp at hx; omega)]
theorem hexL_lt (a b n : Nat) (h : hexL 0 [a, b] = some n) : n < 256 := by
  simp only [hexL] at h
  rcases ha : digR a with _ | x
  · rw [ha] at h; cases h
  rw [ha] at h
  rcases hb : digR b with _ | y
  · rw [hb] at h; cases h
  rw [hb] at h
  have h1 := dig_lt ha
  have h2 := dig_lt hb
  have := Option.some.inj h
  omega
set_option maxHeartbeats 2000000 in
theorem pnumber_any {w : World} {R : Nat} {s : ByteArray} {i : Nat} (h : RxW w R s i) (hi : i ≤ s.size) (hs : s.size ≤ 1000) :
    Calls Tryd.prog 94 #[.pointer (some ⟨R, 0, none⟩)] w fun e w' => MvP s R w w' (hexR (restR s i)) e := by
  by_cases h0 : i = s.size
  · subst h0
    have HN := Lib.hid (pnext_no h.rd)
    have HE := Lib.hid (show hexR (restR s s.size) = none by rw [rest_nil s _ (Nat.le_refl _)]; rfl)
    clear h
    go_enter Tryd.func94, Tryd.ntmps94
    go_wp2_with fail
    go_fit HN.out
    rintro e w1 ⟨rfl, hb⟩
    exact ⟨rfl, by rw [HE.out]; exact ⟨keep_below _ hb, rfl⟩⟩
  by_cases h1 : i + 1 = s.size
  · have HN := Lib.hid (pnext_yes h.rd (by omega) hs)
    have HX := Lib.hid (fun W (hr : RdW W R s (i + 1)) => pnext_no (h1 ▸ hr))
    have HE := Lib.hid (show hexR (restR s i) = none by rw [rest_cons s _ (by omega), rest_nil s _ (by omega)]; rfl)
    clear h h1
    go_enter Tryd.func94, Tryd.ntmps94
    go_wp2_with fail
    go_fit HN.out
    rintro e w1 ⟨rfl, hr, hk⟩
    have H2 := Lib.hid (HX.out w1 hr)
    have HK := Lib.hid hk
    clear hr hk
    go_wp2_with fail
    go_fit H2.out
    rintro e w2 ⟨rfl, hb⟩
    exact ⟨rfl, by rw [HE.out]; exact ⟨HK.out.trans (keep_below _ hb), rfl⟩⟩
  · have HN := Lib.hid (pnext_yes h.rd (by omega) hs)
    have HX := Lib.hid (fun W (hr : RdW W R s (i + 1)) => pnext_yes hr (by omega) hs)
    have HE := Lib.hid (hex_two s i (by omega))
    have HM := Lib.hid (fun W (hk : KeepW (fun k => k ≠ R) w W) => h.err.keep hk h.ne.symm)
    have hRW := Lib.hid h
    have ha := bR_lt s i
    have hb := bR_lt s (i + 1)
    obtain ⟨a, haa⟩ : ∃ a, bR s i = a := ⟨_, rfl⟩
    obtain ⟨b, hbb⟩ : ∃ b, bR s (i + 1) = b := ⟨_, rfl⟩
    rw [haa] at HN ha HE
    rw [hbb] at hb HE
    simp only [hbb] at HX
    have HP := Lib.hid (fun W (he : ErrW W) => pubuint_any (strOfNums [(a : Int), (b : Int)]) W rfl he)
    rw [two_bytes a b ha hb] at HP
    have HCV := Lib.hid (fun (W : World) => run_convert_bytes_arg (P := Tryd.prog) (W.alloc (.cells #[.int .u8 (a : Int), .int .u8 (b : Int)] 5)) 57 5 Tryd.underlying57 Tryd.underlying5 W.heap.size 0 2 2 [(a : Int), (b : Int)] rfl (by
      intro j hj
      have h2 : j = 0 ∨ j = 1 := by omega
      rcases h2 with rfl | rfl <;> (unfold World.cell?; rw [heap_alloc_new]; rfl)) 9 Tryd.underlying9)
    obtain ⟨T, hT⟩ : ∃ T, strOfNums [(a : Int), (b : Int)] = T := ⟨_, rfl⟩
    simp only [hT] at HP HCV
    clear h hT haa hbb
    go_enter Tryd.func94, Tryd.ntmps94
    go_wp2_with fail
    go_fit HN.out
    rintro e w1 ⟨rfl, hr, hk⟩
    have H2 := Lib.hid (HX.out w1 hr)
    have HK := Lib.hid hk
    clear hr hk
    go_wp2_with fail
    go_fit H2.out
    rintro e w2 ⟨rfl, hr, hk⟩
    have HR := Lib.hid hr
    have HK2 := Lib.hid (HK.out.trans hk)
    have hcv := HCV.out w2
    clear hr hk
    go_wp2_with fail
    have HB3 := Lib.hid (alloc_under w2 (.cells #[.int .u8 (a : Int), .int .u8 (b : Int)] 5))
    have HK3 := Lib.hid (HK2.out.trans (keep_below _ HB3.out))
    have HP3 := Lib.hid (HP.out _ (HM.out _ HK3.out))
    rcases hh : hexL 0 [a, b] with _ | n
    · simp only [hh] at HP3
      rw [hh] at HE
      clear hh
      go_fit HP3.out
      rintro e w3 ⟨⟨U, p, rfl⟩, hb3⟩
      have HB4 := Lib.hid (HK3.out.trans (keep_below _ hb3))
      have HNO := Lib.hid (fun W => pneed_no W)
      clear hb3
      go_wp2_with fail
      go_fit (HNO.out _)
      rintro e w4 ⟨rfl, rfl⟩
      exact ⟨rfl, by rw [HE.out]; exact ⟨HB4.out, rfl⟩⟩
    · simp only [hh] at HP3
      rw [hh] at HE
      have hn := hexL_lt a b n hh
      clear hh
      have HF : Hid (MvP s R w2 w2 none failE → True) := fun _ => trivial
      have HRE := Lib.hid (show s.size - (restR s (i + 2)).length = i + 2 by rw [rest_len]; omega)
      obtain ⟨z, hz⟩ : ∃ z : Int, (n : Int) = z := ⟨_, rfl⟩
      have z0 : 0 ≤ z := by omega
      have z1 : z ≤ 255 := by omega
      have HZ := Lib.hid hz
      rw [hz] at HP3
      clear hz HF hn
      go_fit HP3.out
      rintro e w3 ⟨rfl, hb3⟩
      have HB4 := Lib.hid (show RdW w3 R s (i + 2) ∧ KeepW (fun k => k ≠ R) w w3 from ⟨(HR.out.below HB3.out).below hb3, HK3.out.trans (keep_below _ hb3)⟩)
      have HYES := Lib.hid (fun W => pneed_yes W)
      clear hb3
      go_wp2_with fail
      go_fit (HYES.out _)
      rintro e w4 ⟨rfl, rfl⟩
      go_wp2_with fail
      go_ret
      exact ⟨HB4.out.2, by rw [HE.out]; exact ⟨by rw [HZ.out]; rfl, by rw [HRE.out]; exact HB4.out.1⟩⟩
end Go.Proofs.YtkopbngnhgdfhaaDoor
