/-
  Texts of this proof, one behind the other; each begins with its own remark.
-/
import Derived.Shelf.Strings.Builder1
import Derived.Shelf.Strings.BuilderF
import Derived.Shelf.Strings.BuilderK
import Derived.Shelf.LaysM
import Derived.Shelf.Strconv.Clone
import Derived.Shelf.Strconv.SyntaxError
import Derived.Shelf.LaysC
import Derived.Shelf.Strconv.ToError
import Derived.Shelf.Strconv.Lower
import Derived.Test.YtkopbngnhgdfhaaDoorProg
import Derived.Test.YtkopbngnhgdfhaaDoorBe24
import Derived.Test.YtkopbngnhgdfhaaDoorBe25
import Derived.Test.YtkopbngnhgdfhaaDoorBe13
/-
  Library contracts at this seat's program: each is one application of the library's own theorem. Made by wip/tools/shelf.py.
-/
namespace Go.Proofs
open Go.Shelf
def Tryd.laysC245_ren : Go.Shelf.Ren := ⟨fun | 245 => 97 | 279 => 100 | 280 => 101 | 281 => 102 | 282 => 103 | 316 => 104 | 171 => 106 | 205 => 105 | 243 => 107 | 246 => 108 | 283 => 109 | 284 => 110 | 285 => 111 | 286 => 112 | 129 => 114 | 317 => 113 | 318 => 115 | 319 => 116 | 320 => 117 | 337 => 118 | 338 => 119 | n => n, fun | 9 => 9 | 3 => 3 | 75 => 109 | 167 => 158 | 4 => 4 | 168 => 160 | 210 => 165 | 37 => 57 | 0 => 0 | 127 => 117 | 145 => 170 | 143 => 168 | 2 => 2 | 171 => 172 | 53 => 22 | 5 => 5 | 173 => 175 | 212 => 178 | 51 => 179 | 20 => 20 | 213 => 180 | 46 => 145 | 232 => 184 | 233 => 185 | 80 => 80 | n => n, fun | 15 => 1 | 16 => 2 | 17 => 3 | 18 => 4 | 19 => 5 | n => n⟩
theorem Tryd.laysC245 : Go.Proofs.LaysC.n245 Tryd.prog Tryd.laysC245_ren := {
  mixed := by kernel_rfl
  f129 := Tryd.func114.trans (congrArg some (by kernel_rfl))
  f171 := Tryd.func106.trans (congrArg some (by kernel_rfl))
  f205 := Tryd.func105.trans (congrArg some (by kernel_rfl))
  f243 := Tryd.func107.trans (congrArg some (by kernel_rfl))
  f245 := Tryd.func97.trans (congrArg some (by kernel_rfl))
  f246 := Tryd.func108.trans (congrArg some (by kernel_rfl))
  f279 := Tryd.func100.trans (congrArg some (by kernel_rfl))
  f280 := Tryd.func101.trans (congrArg some (by kernel_rfl))
  f281 := Tryd.func102.trans (congrArg some (by kernel_rfl))
  f282 := Tryd.func103.trans (congrArg some (by kernel_rfl))
  f283 := Tryd.func109.trans (congrArg some (by kernel_rfl))
  f284 := Tryd.func110.trans (congrArg some (by kernel_rfl))
  f285 := Tryd.func111.trans (congrArg some (by kernel_rfl))
  f286 := Tryd.func112.trans (congrArg some (by kernel_rfl))
  f316 := Tryd.func104.trans (congrArg some (by kernel_rfl))
  f317 := Tryd.func113.trans (congrArg some (by kernel_rfl))
  f318 := Tryd.func115.trans (congrArg some (by kernel_rfl))
  f319 := Tryd.func116.trans (congrArg some (by kernel_rfl))
  f320 := Tryd.func117.trans (congrArg some (by kernel_rfl))
  f337 := Tryd.func118.trans (congrArg some (by kernel_rfl))
  f338 := Tryd.func119.trans (congrArg some (by kernel_rfl))
  t0 := Tryd.underlying0
  a0 := Tryd.isAgg0
  z0 := Tryd.sizeOf0
  v0 := Tryd.zeroValue0
  t2 := Tryd.underlying2
  a2 := Tryd.isAgg2
  z2 := Tryd.sizeOf2
  v2 := Tryd.zeroValue2
  t3 := Tryd.underlying3
  a3 := Tryd.isAgg3
  z3 := Tryd.sizeOf3
  v3 := Tryd.zeroValue3
  t4 := Tryd.underlying4
  a4 := Tryd.isAgg4
  z4 := Tryd.sizeOf4
  v4 := Tryd.zeroValue4
  t5 := Tryd.underlying5
  a5 := Tryd.isAgg5
  z5 := Tryd.sizeOf5
  v5 := Tryd.zeroValue5
  t9 := Tryd.underlying9
  a9 := Tryd.isAgg9
  z9 := Tryd.sizeOf9
  v9 := Tryd.zeroValue9
  t20 := Tryd.underlying20
  a20 := Tryd.isAgg20
  z20 := Tryd.sizeOf20
  v20 := Tryd.zeroValue20
  t37 := Tryd.underlying57
  a37 := Tryd.isAgg57
  z37 := Tryd.sizeOf57
  v37 := Tryd.zeroValue57
  t46 := Tryd.underlying145
  a46 := Tryd.isAgg145
  z46 := Tryd.sizeOf145
  v46 := Tryd.zeroValue145
  t51 := Tryd.underlying179
  a51 := Tryd.isAgg179
  z51 := Tryd.sizeOf179
  v51 := Tryd.zeroValue179
  t53 := Tryd.underlying22
  a53 := Tryd.isAgg22
  z53 := Tryd.sizeOf22
  v53 := Tryd.zeroValue22
  t75 := Tryd.underlying109
  a75 := Tryd.isAgg109
  z75 := Tryd.sizeOf109
  v75 := Tryd.zeroValue109
  t127 := Tryd.underlying117
  a127 := Tryd.isAgg117
  z127 := Tryd.sizeOf117
  v127 := Tryd.zeroValue117
  t143 := Tryd.underlying168
  a143 := Tryd.isAgg168
  z143 := Tryd.sizeOf168
  v143 := Tryd.zeroValue168
  t145 := Tryd.underlying170
  a145 := Tryd.isAgg170
  z145 := Tryd.sizeOf170
  v145 := Tryd.zeroValue170
  t167 := Tryd.underlying158
  a167 := Tryd.isAgg158
  z167 := Tryd.sizeOf158
  v167 := Tryd.zeroValue158
  t168 := Tryd.underlying160
  a168 := Tryd.isAgg160
  z168 := Tryd.sizeOf160
  v168 := Tryd.zeroValue160
  t171 := Tryd.underlying172
  a171 := Tryd.isAgg172
  z171 := Tryd.sizeOf172
  v171 := Tryd.zeroValue172
  t173 := Tryd.underlying175
  a173 := Tryd.isAgg175
  z173 := Tryd.sizeOf175
  v173 := Tryd.zeroValue175
  t210 := Tryd.underlying165
  a210 := Tryd.isAgg165
  z210 := Tryd.sizeOf165
  v210 := Tryd.zeroValue165
  t212 := Tryd.underlying178
  a212 := Tryd.isAgg178
  z212 := Tryd.sizeOf178
  v212 := Tryd.zeroValue178
  t213 := Tryd.underlying180
  a213 := Tryd.isAgg180
  z213 := Tryd.sizeOf180
  t232 := Tryd.underlying184
  a232 := Tryd.isAgg184
  z232 := Tryd.sizeOf184
  v232 := Tryd.zeroValue184
  t233 := Tryd.underlying185
  a233 := Tryd.isAgg185
  z233 := Tryd.sizeOf185
  v233 := Tryd.zeroValue185
  g15 := by kernel_rfl
  g16 := by kernel_rfl
  g17 := by kernel_rfl
  g18 := by kernel_rfl
  g19 := by kernel_rfl
  t80 := Tryd.underlying80
  a80 := Tryd.isAgg80
  z80 := Tryd.sizeOf80
  v80 := Tryd.zeroValue80
  i0 := by kernel_rfl
  i2 := by kernel_rfl
  i3 := by kernel_rfl
  i4 := by kernel_rfl
  i5 := by kernel_rfl
  i9 := by kernel_rfl
  i20 := by kernel_rfl
  i37 := by kernel_rfl
  i46 := by kernel_rfl
  i51 := by kernel_rfl
  i53 := by kernel_rfl
  i75 := by kernel_rfl
  i80 := by kernel_rfl
  i127 := by kernel_rfl
  i143 := by kernel_rfl
  i145 := by kernel_rfl
  i167 := by kernel_rfl
  i168 := by kernel_rfl
  i171 := by kernel_rfl
  i173 := by kernel_rfl
  i210 := by kernel_rfl
  i212 := by kernel_rfl
  i232 := by kernel_rfl
  i233 := by kernel_rfl
  m15 := by kernel_rfl
  m16 := by kernel_rfl
  m17 := by kernel_rfl
  m18 := by kernel_rfl
  m19 := by kernel_rfl
  c0 := by kernel_rfl
  c2 := by kernel_rfl
  c3 := by kernel_rfl
  c4 := by kernel_rfl
  c5 := by kernel_rfl
  c9 := by kernel_rfl
  c20 := by kernel_rfl
  c37 := by kernel_rfl
  c46 := by kernel_rfl
  c51 := by kernel_rfl
  c53 := by kernel_rfl
  c75 := by kernel_rfl
  c80 := by kernel_rfl
  c127 := by kernel_rfl
  c143 := by kernel_rfl
  c145 := by kernel_rfl
  c167 := by kernel_rfl
  c168 := by kernel_rfl
  c171 := by kernel_rfl
  c173 := by kernel_rfl
  c210 := by kernel_rfl
  c212 := by kernel_rfl
  c213 := by kernel_rfl
  c232 := by kernel_rfl
  c233 := by kernel_rfl }
open Go.RowKit in
theorem Tryd.strconv_toError_syntax (fn s : ByteArray) (base bits : Int) (ev : Value) (w : World) (hlim : s.size ≤ 281474976710656) (hv : w.cell? ⟨1, 0, none⟩ = some ev) (hev : ev = .nilIface ∨ ∃ te pe, ev = .iface te pe) :
    Calls Tryd.prog 97 #[.string fn, .string s, .int .i64 base, .int .i64 bits, .iface 158 (.int .i64 2)] w fun e w' => ∃ N, e = .returned (.iface 160 (.pointer (some ⟨N, 0, none⟩))) ∧ w.heap.size ≤ N ∧ w'.heap[N]? = some (.cells #[.string fn, .string s, ev] 165 (0, 0)) ∧ Below w.heap.size w w' := Any.strconv_toError_syntax Tryd.laysC245 fn s base bits ev w hlim hv hev
end Go.Proofs

/-
  strconv.ParseUint at two bytes; regs' reader: number: what each call returns, or how it ends.
-/
namespace Go.Proofs.YtkopbngnhgdfhaaDoor
open Go.RowKit

/-- The library's error lies where it is told of. -/
def ErrW (w : World) : Prop := ∃ ev, w.cell? ⟨1, 0, none⟩ = some ev ∧ (ev = .nilIface ∨ ∃ te pe, ev = .iface te pe)
theorem ErrW.below {w w' : World} (h : ErrW w) (hb : Below w.heap.size w w') : ErrW w' := by
  obtain ⟨ev, h1, h2⟩ := h
  exact ⟨ev, (keep_below (fun _ => True) hb).cell h1 trivial, h2⟩
theorem ErrW.keep {ok : Nat → Prop} {w w' : World} (h : ErrW w) (hk : KeepW ok w w') (ho : ok 1) : ErrW w' := by
  obtain ⟨ev, h1, h2⟩ := h
  exact ⟨ev, hk.cell h1 ho, h2⟩
/-- The reader's box, and the library's error. -/
structure RxW (w : World) (R : Nat) (s : ByteArray) (i : Nat) : Prop where
  rd : RdW w R s i
  err : ErrW w
  ne : R ≠ 1
theorem RxW.below {w w' : World} {R : Nat} {s : ByteArray} {i : Nat} (h : RxW w R s i) (hb : Below w.heap.size w w') : RxW w' R s i := ⟨h.rd.below hb, h.err.below hb, h.ne⟩
theorem RxW.keep {ok : Nat → Prop} {w w' : World} {R : Nat} {s : ByteArray} {i : Nat} (h : RxW w R s i) (hk : KeepW ok w w') (ho : ok R) (hg : ok 1) : RxW w' R s i := ⟨h.rd.keep hk ho, h.err.keep hk hg, h.ne⟩
theorem RxW.move {w w' : World} {R : Nat} {s : ByteArray} {i j : Nat} (h : RxW w R s i) (hk : KeepW (fun k => k ≠ R) w w') (hr : RdW w' R s j) : RxW w' R s j := ⟨hr, h.err.keep hk h.ne.symm, h.ne⟩
theorem toerr_any (s : ByteArray) (w : World) (hs : s.size = 2) (he : ErrW w) :
    Calls Tryd.prog 97 #[.string ⟨#[80, 97, 114, 115, 101, 85, 105, 110, 116]⟩, .string s, .int .i64 16, .int .i64 8, .iface 158 (.int .i64 2)] w fun e w' => ∃ N, e = .returned (.iface 160 (.pointer (some ⟨N, 0, none⟩))) ∧ Below w.heap.size w w' := by
  obtain ⟨ev, h1, h2⟩ := he
  exact (Tryd.strconv_toError_syntax ⟨#[80, 97, 114, 115, 101, 85, 105, 110, 116]⟩ s 16 8 ev w (by rw [hs]; decide) h1 h2).mono fun e w' ⟨N, e1, _, _, e2⟩ => ⟨N, e1, e2⟩
theorem pubuint_any (s : ByteArray) (w : World) (hs : s.size = 2) (he : ErrW w) :
    Calls Tryd.prog 95 #[.string s, .int .i64 16, .int .i64 8] w fun e w' => (match hexL 0 (bytesR s) with
      | some n => e = .returned (.tuple #[.int .u64 (n : Int), .nilIface])
      | none => ∃ T a, e = .returned (.tuple #[.int .u64 0, .iface T (.pointer a)])) ∧ Below w.heap.size w w' := by
  have HU := Lib.hid (puint_any s w hs)
  rcases hh : hexL 0 (bytesR s) with _ | n
  · rw [hh] at HU
    have HT := Lib.hid (fun W (hb : Below w.heap.size w W) => toerr_any s W hs (he.below hb))
    unfold uintV at HU
    clear hh he
    go_enter Tryd.func95, Tryd.ntmps95
    go_wp2_with fail
    go_fit HU.out
    rintro e w1 ⟨rfl, hb⟩
    have HB := Lib.hid hb
    have HT1 := Lib.hid (HT.out w1 hb)
    clear hb
    go_wp2_with fail
    go_fit HT1.out
    rintro e w2 ⟨N, rfl, hb2⟩
    have HB2 := Lib.hid (HB.out.trans (hb2.mono HB.out.size))
    clear hb2
    go_wp2_with fail
    go_ret2
    exact ⟨⟨_, _, rfl⟩, HB2.out⟩
  · rw [hh] at HU
    unfold uintV at HU
    clear hh he
    obtain ⟨a, ha⟩ : ∃ a : Int, (n : Int) = a := ⟨_, rfl⟩
    simp only [ha] at HU ⊢
    clear ha
    go_enter Tryd.func95, Tryd.ntmps95
    go_wp2_with fail
    go_fit HU.out
    rintro e w1 ⟨rfl, hb⟩
    have HB := Lib.hid hb
    clear hb
    go_wp2_with fail
    go_ret2
    exact ⟨rfl, HB.out⟩
/-- A byte and where the rest begins, or the text is given up. -/
def MvP (s : ByteArray) (R : Nat) (w w' : World) (o : Option (Nat × List Nat)) (e : Ending) : Prop :=
  KeepW (fun k => k ≠ R) w w' ∧ match o with
  | some (b, r) => e = .returned (.int .u8 (b : Int)) ∧ RdW w' R s (s.size - r.length)
  | none => e = failE
theorem hex_two (s : ByteArray) (i : Nat) (h : i + 1 < s.size) : hexR (restR s i) = (hexL 0 [bR s i, bR s (i + 1)]).map fun n => (n, restR s (i + 2)) := by
  rw [rest_cons s i (by omega), rest_cons s (i + 1) h]
  simp only [hexR, hexL]
  rcases digR (bR s i) with _ | x
  · rfl
  rcases digR (bR s (i + 1)) with _ | y
  · rfl
  simp
theorem two_bytes (a b : Nat) (ha : a < 256) (hb : b < 256) : bytesR (strOfNums [(a : Int), (b : Int)]) = [a, b] := by
  have e : strOfNums [(a : Int), (b : Int)] = strR [a, b] := by
    apply ByteArray.ext
    simp [strOfNums, strR]
  rw [e, strR_bytes [a, b] (by intro x hx; simp at hx; omega)]
theorem hexL_lt (a b n : Nat) (h : hexL 0 [a, b] = some n) : n < 256 := by
  simp only [hexL] at h
  rcases ha : digR a with _ | x
  · rw [ha] at h; cases h
  rw [ha] at h
  rcases hb : digR b with _ | y
  · rw [hb] at h; cases h
  rw [hb] at h
  have h1 := dig_lt ha
  have h2 := dig_lt hb
  have := Option.some.inj h
  omega
set_option maxHeartbeats 2000000 in
theorem pnumber_any {w : World} {R : Nat} {s : ByteArray} {i : Nat} (h : RxW w R s i) (hi : i ≤ s.size) (hs : s.size ≤ 1000) :
    Calls Tryd.prog 94 #[.pointer (some ⟨R, 0, none⟩)] w fun e w' => MvP s R w w' (hexR (restR s i)) e := by
  by_cases h0 : i = s.size
  · subst h0
    have HN := Lib.hid (pnext_no h.rd)
    have HE := Lib.hid (show hexR (restR s s.size) = none by rw [rest_nil s _ (Nat.le_refl _)]; rfl)
    clear h
    go_enter Tryd.func94, Tryd.ntmps94
    go_wp2_with fail
    go_fit HN.out
    rintro e w1 ⟨rfl, hb⟩
    exact ⟨rfl, by rw [HE.out]; exact ⟨keep_below _ hb, rfl⟩⟩
  by_cases h1 : i + 1 = s.size
  · have HN := Lib.hid (pnext_yes h.rd (by omega) hs)
    have HX := Lib.hid (fun W (hr : RdW W R s (i + 1)) => pnext_no (h1 ▸ hr))
    have HE := Lib.hid (show hexR (restR s i) = none by rw [rest_cons s _ (by omega), rest_nil s _ (by omega)]; rfl)
    clear h h1
    go_enter Tryd.func94, Tryd.ntmps94
    go_wp2_with fail
    go_fit HN.out
    rintro e w1 ⟨rfl, hr, hk⟩
    have H2 := Lib.hid (HX.out w1 hr)
    have HK := Lib.hid hk
    clear hr hk
    go_wp2_with fail
    go_fit H2.out
    rintro e w2 ⟨rfl, hb⟩
    exact ⟨rfl, by rw [HE.out]; exact ⟨HK.out.trans (keep_below _ hb), rfl⟩⟩
  · have HN := Lib.hid (pnext_yes h.rd (by omega) hs)
    have HX := Lib.hid (fun W (hr : RdW W R s (i + 1)) => pnext_yes hr (by omega) hs)
    have HE := Lib.hid (hex_two s i (by omega))
    have HM := Lib.hid (fun W (hk : KeepW (fun k => k ≠ R) w W) => h.err.keep hk h.ne.symm)
    have hRW := Lib.hid h
    have ha := bR_lt s i
    have hb := bR_lt s (i + 1)
    obtain ⟨a, haa⟩ : ∃ a, bR s i = a := ⟨_, rfl⟩
    obtain ⟨b, hbb⟩ : ∃ b, bR s (i + 1) = b := ⟨_, rfl⟩
    rw [haa] at HN ha HE
    rw [hbb] at hb HE
    simp only [hbb] at HX
    have HP := Lib.hid (fun W (he : ErrW W) => pubuint_any (strOfNums [(a : Int), (b : Int)]) W rfl he)
    rw [two_bytes a b ha hb] at HP
    have HCV := Lib.hid (fun (W : World) => run_convert_bytes_arg (P := Tryd.prog) (W.alloc (.cells #[.int .u8 (a : Int), .int .u8 (b : Int)] 5)) 57 5 Tryd.underlying57 Tryd.underlying5 W.heap.size 0 2 2 [(a : Int), (b : Int)] rfl (by
      intro j hj
      have h2 : j = 0 ∨ j = 1 := by omega
      rcases h2 with rfl | rfl <;> (unfold World.cell?; rw [heap_alloc_new]; rfl)) 9 Tryd.underlying9)
    obtain ⟨T, hT⟩ : ∃ T, strOfNums [(a : Int), (b : Int)] = T := ⟨_, rfl⟩
    simp only [hT] at HP HCV
    clear h hT haa hbb
    go_enter Tryd.func94, Tryd.ntmps94
    go_wp2_with fail
    go_fit HN.out
    rintro e w1 ⟨rfl, hr, hk⟩
    have H2 := Lib.hid (HX.out w1 hr)
    have HK := Lib.hid hk
    clear hr hk
    go_wp2_with fail
    go_fit H2.out
    rintro e w2 ⟨rfl, hr, hk⟩
    have HR := Lib.hid hr
    have HK2 := Lib.hid (HK.out.trans hk)
    have hcv := HCV.out w2
    clear hr hk
    go_wp2_with fail
    have HB3 := Lib.hid (alloc_under w2 (.cells #[.int .u8 (a : Int), .int .u8 (b : Int)] 5))
    have HK3 := Lib.hid (HK2.out.trans (keep_below _ HB3.out))
    have HP3 := Lib.hid (HP.out _ (HM.out _ HK3.out))
    rcases hh : hexL 0 [a, b] with _ | n
    · simp only [hh] at HP3
      rw [hh] at HE
      clear hh
      go_fit HP3.out
      rintro e w3 ⟨⟨U, p, rfl⟩, hb3⟩
      have HB4 := Lib.hid (HK3.out.trans (keep_below _ hb3))
      have HNO := Lib.hid (fun W => pneed_no W)
      clear hb3
      go_wp2_with fail
      go_fit (HNO.out _)
      rintro e w4 ⟨rfl, rfl⟩
      exact ⟨rfl, by rw [HE.out]; exact ⟨HB4.out, rfl⟩⟩
    · simp only [hh] at HP3
      rw [hh] at HE
      have hn := hexL_lt a b n hh
      clear hh
      have HF : Hid (MvP s R w2 w2 none failE → True) := fun _ => trivial
      have HRE := Lib.hid (show s.size - (restR s (i + 2)).length = i + 2 by rw [rest_len]; omega)
      obtain ⟨z, hz⟩ : ∃ z : Int, (n : Int) = z := ⟨_, rfl⟩
      have z0 : 0 ≤ z := by omega
      have z1 : z ≤ 255 := by omega
      have HZ := Lib.hid hz
      rw [hz] at HP3
      clear hz HF hn
      go_fit HP3.out
      rintro e w3 ⟨rfl, hb3⟩
      have HB4 := Lib.hid (show RdW w3 R s (i + 2) ∧ KeepW (fun k => k ≠ R) w w3 from ⟨(HR.out.below HB3.out).below hb3, HK3.out.trans (keep_below _ hb3)⟩)
      have HYES := Lib.hid (fun W => pneed_yes W)
      clear hb3
      go_wp2_with fail
      go_fit (HYES.out _)
      rintro e w4 ⟨rfl, rfl⟩
      go_wp2_with fail
      go_ret
      exact ⟨HB4.out.2, by rw [HE.out]; exact ⟨by rw [HZ.out]; rfl, by rw [HRE.out]; exact HB4.out.1⟩⟩
end Go.Proofs.YtkopbngnhgdfhaaDoor

/-
  regs' reader: escaped, letter: what each call returns, or how it ends.
-/
namespace Go.Proofs.YtkopbngnhgdfhaaDoor
open Go.RowKit

theorem MvP.go {s : ByteArray} {R : Nat} {w w1 w' : World} {o : Option (Nat × List Nat)} {e : Ending} (h : MvP s R w1 w' o e) (hk : KeepW (fun k => k ≠ R) w w1) : MvP s R w w' o e := ⟨hk.trans h.1, h.2⟩
theorem rest_size (s : ByteArray) (i : Nat) (h : i ≤ s.size) : s.size - (restR s i).length = i := by rw [rest_len]; omega
section
variable {w : World} {R : Nat} {s : ByteArray} {i : Nat}
set_option maxHeartbeats 4000000 in
theorem pescaped_any (h : RxW w R s i) (hi : i ≤ s.size) (hs : s.size ≤ 1000) :
    Calls Tryd.prog 93 #[.pointer (some ⟨R, 0, none⟩)] w fun e w' => MvP s R w w' (escR (restR s i)) e := by
  by_cases h0 : i = s.size
  · subst h0
    have HN := Lib.hid (pnext_no h.rd)
    have HE := Lib.hid (show escR (restR s s.size) = none by rw [rest_nil s _ (Nat.le_refl _)]; rfl)
    clear h
    go_enter Tryd.func93, Tryd.ntmps93
    go_wp2_with fail
    go_fit HN.out
    rintro e w1 ⟨rfl, hb⟩
    exact ⟨rfl, by rw [HE.out]; exact ⟨keep_below _ hb, rfl⟩⟩
  have HN := Lib.hid (pnext_yes h.rd (by omega) hs)
  have HE := Lib.hid (show escR (restR s i) = escR (bR s i :: restR s (i + 1)) by rw [rest_cons s i (by omega)])
  have HSZ := Lib.hid (rest_size s (i + 1) (by omega))
  have hd := bR_lt s i
  have HX := Lib.hid h
  obtain ⟨d, hdd⟩ : ∃ d, bR s i = d := ⟨_, rfl⟩
  rw [hdd] at HN HE hd
  clear h hdd
  by_cases e110 : d = 110
  · subst e110
    have HE2 := Lib.hid (show escR (110 :: restR s (i + 1)) = some (10, restR s (i + 1)) from rfl)
    rw [show ((110 : Nat) : Int) = 110 from rfl] at HN
    clear hd
    go_enter Tryd.func93, Tryd.ntmps93
    go_wp2_with fail
    go_fit HN.out
    rintro e w1 ⟨rfl, hr, hk⟩
    have HR := Lib.hid (And.intro hr hk)
    clear hr hk
    go_wp2_with fail
    go_ret
    exact ⟨HR.out.2, by rw [HE.out, HE2.out]; exact ⟨rfl, by rw [HSZ.out]; exact HR.out.1⟩⟩
  have i110 : ((d : Int) == 110) = false := beq_eq_false_iff_ne.2 (by omega)
  by_cases e116 : d = 116
  · subst e116
    have HE2 := Lib.hid (show escR (116 :: restR s (i + 1)) = some (9, restR s (i + 1)) from rfl)
    rw [show ((116 : Nat) : Int) = 116 from rfl] at HN
    clear hd
    go_enter Tryd.func93, Tryd.ntmps93
    go_wp2_with fail
    go_fit HN.out
    rintro e w1 ⟨rfl, hr, hk⟩
    have HR := Lib.hid (And.intro hr hk)
    clear hr hk
    go_wp2_with fail
    go_ret
    exact ⟨HR.out.2, by rw [HE.out, HE2.out]; exact ⟨rfl, by rw [HSZ.out]; exact HR.out.1⟩⟩
  have i116 : ((d : Int) == 116) = false := beq_eq_false_iff_ne.2 (by omega)
  by_cases e114 : d = 114
  · subst e114
    have HE2 := Lib.hid (show escR (114 :: restR s (i + 1)) = some (13, restR s (i + 1)) from rfl)
    rw [show ((114 : Nat) : Int) = 114 from rfl] at HN
    clear hd
    go_enter Tryd.func93, Tryd.ntmps93
    go_wp2_with fail
    go_fit HN.out
    rintro e w1 ⟨rfl, hr, hk⟩
    have HR := Lib.hid (And.intro hr hk)
    clear hr hk
    go_wp2_with fail
    go_ret
    exact ⟨HR.out.2, by rw [HE.out, HE2.out]; exact ⟨rfl, by rw [HSZ.out]; exact HR.out.1⟩⟩
  have i114 : ((d : Int) == 114) = false := beq_eq_false_iff_ne.2 (by omega)
  by_cases e120 : d = 120
  · subst e120
    have HE2 := Lib.hid (show escR (120 :: restR s (i + 1)) = hexR (restR s (i + 1)) from rfl)
    have HNU := Lib.hid (fun W (hr : RdW W R s (i + 1)) (hk : KeepW (fun k => k ≠ R) w W) => pnumber_any (HX.out.move hk hr) (by omega) hs)
    rw [show ((120 : Nat) : Int) = 120 from rfl] at HN
    clear hd i110 i116 i114 e110 e116 e114
    rcases hh : hexR (restR s (i + 1)) with _ | ⟨b, r⟩
    · rw [hh] at HE2
      simp only [hh] at HNU
      clear hh
      go_enter Tryd.func93, Tryd.ntmps93
      go_wp2_with fail
      go_fit HN.out
      rintro e w1 ⟨rfl, hr, hk⟩
      have H2 := Lib.hid (HNU.out w1 hr hk)
      have HK := Lib.hid hk
      clear hr hk
      go_wp2_with fail
      go_fit H2.out
      rintro e w2 ⟨hk2, rfl⟩
      exact ⟨rfl, by rw [HE.out, HE2.out]; exact ⟨HK.out.trans hk2, rfl⟩⟩
    · rw [hh] at HE2
      simp only [hh] at HNU
      clear hh
      go_enter Tryd.func93, Tryd.ntmps93
      go_wp2_with fail
      go_fit HN.out
      rintro e w1 ⟨rfl, hr, hk⟩
      have H2 := Lib.hid (HNU.out w1 hr hk)
      have HK := Lib.hid hk
      clear hr hk
      go_wp2_with fail
      go_fit H2.out
      rintro e w2 ⟨hk2, rfl, hr2⟩
      have HR2 := Lib.hid (And.intro (HK.out.trans hk2) hr2)
      clear hk2 hr2
      go_wp2_with fail
      go_ret
      exact ⟨HR2.out.1, by rw [HE.out, HE2.out]; exact ⟨rfl, HR2.out.2⟩⟩
  have i120 : ((d : Int) == 120) = false := beq_eq_false_iff_ne.2 (by omega)
  have HSP := Lib.hid (fun W => pspecial_any d W hd)
  by_cases hsp : specR d = true
  · have HE2 := Lib.hid (show escR (d :: restR s (i + 1)) = some (d, restR s (i + 1)) by simp only [escR]; rw [if_neg e110, if_neg e116, if_neg e114, if_neg e120, if_pos hsp])
    rw [hsp] at HSP
    have HYES := Lib.hid (fun W => pneed_yes W)
    clear e110 e116 e114 e120 hsp hd
    go_enter Tryd.func93, Tryd.ntmps93
    go_wp2_with fail
    go_fit HN.out
    rintro e w1 ⟨rfl, hr, hk⟩
    have HR := Lib.hid (And.intro hr hk)
    clear hr hk
    go_wp2_with fail
    go_fit (HSP.out _)
    rintro e w2 ⟨rfl, rfl⟩
    go_wp2_with fail
    go_fit (HYES.out _)
    rintro e w3 ⟨rfl, rfl⟩
    go_wp2_with fail
    go_ret
    exact ⟨HR.out.2, by rw [HE.out, HE2.out]; exact ⟨rfl, by rw [HSZ.out]; exact HR.out.1⟩⟩
  · have HE2 := Lib.hid (show escR (d :: restR s (i + 1)) = none by simp only [escR]; rw [if_neg e110, if_neg e116, if_neg e114, if_neg e120, if_neg hsp])
    rw [show specR d = false by simpa using hsp] at HSP
    have HNO := Lib.hid (fun W => pneed_no W)
    clear e110 e116 e114 e120 hsp hd
    go_enter Tryd.func93, Tryd.ntmps93
    go_wp2_with fail
    go_fit HN.out
    rintro e w1 ⟨rfl, hr, hk⟩
    have HR := Lib.hid (And.intro hr hk)
    clear hr hk
    go_wp2_with fail
    go_fit (HSP.out _)
    rintro e w2 ⟨rfl, rfl⟩
    go_wp2_with fail
    go_fit (HNO.out _)
    rintro e w3 ⟨rfl, rfl⟩
    exact ⟨rfl, by rw [HE.out, HE2.out]; exact ⟨HR.out.2, rfl⟩⟩
set_option maxHeartbeats 4000000 in
theorem pletter_any (h : RxW w R s i) (hi : i ≤ s.size) (hs : s.size ≤ 1000) :
    Calls Tryd.prog 90 #[.pointer (some ⟨R, 0, none⟩)] w fun e w' => MvP s R w w' (letR true (restR s i)) e := by
  by_cases h0 : i = s.size
  · subst h0
    have HN := Lib.hid (pnext_no h.rd)
    have HE := Lib.hid (show letR true (restR s s.size) = none by rw [rest_nil s _ (Nat.le_refl _)]; rfl)
    clear h
    go_enter Tryd.func90, Tryd.ntmps90
    go_wp2_with fail
    go_fit HN.out
    rintro e w1 ⟨rfl, hb⟩
    exact ⟨rfl, by rw [HE.out]; exact ⟨keep_below _ hb, rfl⟩⟩
  have HN := Lib.hid (pnext_yes h.rd (by omega) hs)
  have HE := Lib.hid (show letR true (restR s i) = letR true (bR s i :: restR s (i + 1)) by rw [rest_cons s i (by omega)])
  have HSZ := Lib.hid (rest_size s (i + 1) (by omega))
  have hd := bR_lt s i
  have HX := Lib.hid h
  obtain ⟨d, hdd⟩ : ∃ d, bR s i = d := ⟨_, rfl⟩
  rw [hdd] at HN HE hd
  clear h hdd
  by_cases e92 : d = 92
  · subst e92
    have HE2 := Lib.hid (show letR true (92 :: restR s (i + 1)) = escR (restR s (i + 1)) from rfl)
    have HNU := Lib.hid (fun W (hr : RdW W R s (i + 1)) (hk : KeepW (fun k => k ≠ R) w W) => pescaped_any (HX.out.move hk hr) (by omega) hs)
    rw [show ((92 : Nat) : Int) = 92 from rfl] at HN
    clear hd
    rcases hh : escR (restR s (i + 1)) with _ | ⟨b, r⟩
    · rw [hh] at HE2
      simp only [hh] at HNU
      clear hh
      go_enter Tryd.func90, Tryd.ntmps90
      go_wp2_with fail
      go_fit HN.out
      rintro e w1 ⟨rfl, hr, hk⟩
      have H2 := Lib.hid (HNU.out w1 hr hk)
      have HK := Lib.hid hk
      clear hr hk
      go_wp2_with fail
      go_fit H2.out
      rintro e w2 ⟨hk2, rfl⟩
      exact ⟨rfl, by rw [HE.out, HE2.out]; exact ⟨HK.out.trans hk2, rfl⟩⟩
    · rw [hh] at HE2
      simp only [hh] at HNU
      clear hh
      go_enter Tryd.func90, Tryd.ntmps90
      go_wp2_with fail
      go_fit HN.out
      rintro e w1 ⟨rfl, hr, hk⟩
      have H2 := Lib.hid (HNU.out w1 hr hk)
      have HK := Lib.hid hk
      clear hr hk
      go_wp2_with fail
      go_fit H2.out
      rintro e w2 ⟨hk2, rfl, hr2⟩
      have HR2 := Lib.hid (And.intro (HK.out.trans hk2) hr2)
      clear hk2 hr2
      go_wp2_with fail
      go_ret
      exact ⟨HR2.out.1, by rw [HE.out, HE2.out]; exact ⟨rfl, HR2.out.2⟩⟩
  have i92 : ((d : Int) == 92) = false := beq_eq_false_iff_ne.2 (by omega)
  have HSP := Lib.hid (fun W => pspecial_any d W hd)
  by_cases hsp : specR d = true
  · have HE2 := Lib.hid (show letR true (d :: restR s (i + 1)) = none by simp only [letR]; rw [if_neg e92, if_pos ⟨hsp, .inl trivial⟩])
    rw [hsp] at HSP
    have HNO := Lib.hid (fun W => pneed_no W)
    clear e92 hsp hd
    go_enter Tryd.func90, Tryd.ntmps90
    go_wp2_with fail
    go_fit HN.out
    rintro e w1 ⟨rfl, hr, hk⟩
    have HR := Lib.hid (And.intro hr hk)
    clear hr hk
    go_wp2_with fail
    go_fit (HSP.out _)
    rintro e w2 ⟨rfl, rfl⟩
    go_wp2_with fail
    go_fit (HNO.out _)
    rintro e w3 ⟨rfl, rfl⟩
    exact ⟨rfl, by rw [HE.out, HE2.out]; exact ⟨HR.out.2, rfl⟩⟩
  · have HE2 := Lib.hid (show letR true (d :: restR s (i + 1)) = some (d, restR s (i + 1)) by simp only [letR]; rw [if_neg e92, if_neg (fun e => hsp e.1)])
    rw [show specR d = false by simpa using hsp] at HSP
    have HYES := Lib.hid (fun W => pneed_yes W)
    clear e92 hsp hd
    go_enter Tryd.func90, Tryd.ntmps90
    go_wp2_with fail
    go_fit HN.out
    rintro e w1 ⟨rfl, hr, hk⟩
    have HR := Lib.hid (And.intro hr hk)
    clear hr hk
    go_wp2_with fail
    go_fit (HSP.out _)
    rintro e w2 ⟨rfl, rfl⟩
    go_wp2_with fail
    go_fit (HYES.out _)
    rintro e w3 ⟨rfl, rfl⟩
    go_wp2_with fail
    go_ret
    exact ⟨HR.out.2, by rw [HE.out, HE2.out]; exact ⟨rfl, by rw [HSZ.out]; exact HR.out.1⟩⟩
end
end Go.Proofs.YtkopbngnhgdfhaaDoor

/-
  A rule of small letters alone: its tree, its language, what Match tells of it. No call is walked here.
-/
namespace Go.Proofs.YtkopbngnhgdfhaaDoor

def smallR (c : Nat) : Prop := 97 ≤ c ∧ c ≤ 122
theorem small_spec {c : Nat} (h : smallR c) : specR c = false := by
  obtain ⟨h1, h2⟩ := h
  unfold specR
  simp only [List.contains_eq_mem, List.mem_cons, List.not_mem_nil, or_false, decide_eq_false_iff_not]
  omega
theorem small_sign {c : Nat} (h : smallR c) : signR c = 0 := by
  obtain ⟨h1, h2⟩ := h
  unfold signR
  rw [if_neg (by omega), if_neg (by omega), if_neg (by omega)]
theorem small_let {c : Nat} (t : List Nat) (h : smallR c) : letR false (c :: t) = some (c, t) := by
  have hs := small_spec h
  obtain ⟨h1, h2⟩ := h
  simp only [letR]
  rw [if_neg (by omega), if_neg (fun e => by rw [hs] at e; exact absurd e.1 (by decide))]
theorem small_signs (n : Nd) : ∀ (t : List Nat), (∀ c, c ∈ t → smallR c) → signsR n t = (n, t)
  | [], _ => rfl
  | c :: t, h => by
    simp only [signsR]
    rw [small_sign (h c (List.mem_cons_self ..)), if_neg (by omega)]
theorem small_atom {c : Nat} (f : Nat) (t : List Nat) (h : smallR c) : atomR (f + 1) (c :: t) = some (byteN c, t) := by
  have hl := small_let t h
  obtain ⟨h1, h2⟩ := h
  simp only [atomR, List.head?_cons, Option.some.injEq]
  rw [if_neg (by omega), if_neg (by omega), if_neg (by omega), hl]
  rfl
theorem small_rows : ∀ (l : List Nat) (f : Nat) (row : List Nd), (∀ c, c ∈ l → smallR c) → l.length < f → rowsR f l [] row = some (joinR 2 (row ++ l.map byteN), [])
  | [], f + 1, row, _, _ => by
    simp only [rowsR, true_or, if_true, List.nil_append, List.map_nil, List.append_nil]
    rfl
  | c :: t, f + 1, row, h, hf => by
    have hc := h c (List.mem_cons_self ..)
    have h1 : 97 ≤ c := hc.1
    have h2 : c ≤ 122 := hc.2
    obtain ⟨f, rfl⟩ : ∃ k, f = k + 1 := ⟨f - 1, by simp only [List.length_cons] at hf; omega⟩
    have ht : ∀ x, x ∈ t → smallR x := fun x hx => h x (List.mem_cons_of_mem _ hx)
    rw [rowsR, if_neg (by simp only [List.head?_cons, Option.some.injEq]; rintro (e | e); · cases e
                          · omega), if_neg (by simp only [List.head?_cons, Option.some.injEq]; omega), small_atom f t hc]
    simp only
    rw [small_signs _ t ht]
    rw [small_rows t (f + 1) _ ht (by simp only [List.length_cons] at hf; omega), List.map_cons, List.append_assoc]
    rfl
theorem small_parse (l : List Nat) (h : ∀ c, c ∈ l → smallR c) : parseR l = some (joinR 2 (l.map byteN)) := by
  unfold parseR
  rw [small_rows l _ [] h (by omega)]
  rfl
/-! ### Its language -/
theorem byte_lang {c : Nat} (hc : c < 256) (w : List Nat) (hw : ∀ x, x ∈ w → x < 256) : LangN (byteN c) w ↔ w = [c] := by
  unfold byteN
  rw [LangN, if_pos rfl]
  constructor
  · rintro ⟨b, rfl, h⟩
    rw [has_with _ _ _ (hw b (List.mem_singleton.2 rfl)) 1 (by omega), has_no, Bool.false_or, decide_eq_true_eq] at h
    rw [show b = c by omega]
  · rintro rfl
    exact ⟨c, rfl, by rw [has_with _ _ _ hc 1 (by omega), has_no, Bool.false_or]; exact decide_eq_true (by omega)⟩
theorem bytes_lang : ∀ (l : List Nat) (w : List Nat), (∀ c, c ∈ l → c < 256) → (∀ x, x ∈ w → x < 256) → (LangC (l.map byteN) w ↔ w = l)
  | [], w, _, _ => by rw [List.map_nil, LangC]
  | c :: l, w, h, hw => by
    rw [List.map_cons, LangC]
    have hl : ∀ x, x ∈ l → x < 256 := fun x hx => h x (List.mem_cons_of_mem _ hx)
    constructor
    · rintro ⟨u, v, rfl, h1, h2⟩
      rw [(byte_lang (h c (List.mem_cons_self ..)) u fun x hx => hw x (List.mem_append_left _ hx)).1 h1]
      rw [(bytes_lang l v hl fun x hx => hw x (List.mem_append_right _ hx)).1 h2]
      rfl
    · rintro rfl
      exact ⟨[c], l, rfl, (byte_lang (h c (List.mem_cons_self ..)) [c] fun x hx => hw x (by rw [List.mem_singleton.1 hx]; exact List.mem_cons_self ..)).2 rfl, (bytes_lang l l hl hl).2 rfl⟩
theorem small_lang (l : List Nat) (h : ∀ c, c ∈ l → c < 256) (w : List Nat) (hw : ∀ x, x ∈ w → x < 256) : LangN (joinR 2 (l.map byteN)) w ↔ w = l := by
  match l, h with
  | [], _ => exact Iff.rfl
  | [c], h => exact byte_lang (h c (List.mem_cons_self ..)) w hw
  | c :: d :: l, h =>
    have h1 := bytes_lang (c :: d :: l) w h hw
    rw [← h1]
    show LangN (.mk 2 noR ((c :: d :: l).map byteN)) w ↔ _
    rw [LangN, if_neg (by decide), if_pos rfl]
/-! ### What Match tells -/
theorem text_match {A : List Nat → Nat → Prop} {W t : List Nat} {long rule : Int} (hA : ∀ u j, (∀ x, x ∈ u → x < 256) → (A u j ↔ j = 0 ∧ u = t)) (hW : ∀ x, x ∈ W → x < 256) (h : MatchI A W long rule) :
    (W.take t.length = t → long = t.length ∧ rule = 0) ∧ (W.take t.length ≠ t → long = 0 ∧ rule = -1) := by
  have hT : ∀ i x, x ∈ W.take i → x < 256 := fun i x hx => hW x (List.mem_of_mem_take hx)
  have hle : W.take t.length = t → t.length ≤ W.length := fun e => by
    have := congrArg List.length e
    rw [List.length_take] at this
    omega
  rcases h with ⟨h1, h2, h3⟩ | ⟨m, h1, h2, h3, h4, _⟩
  · refine ⟨fun e => absurd ((hA _ 0 (hT _)).2 ⟨rfl, e⟩) (h3 _ (hle e) 0), fun _ => ⟨h2, h1⟩⟩
  · rcases h4 with ⟨h4, _⟩ | ⟨j, hj, h5, _⟩
    · exact absurd h4 h3
    · obtain ⟨rfl, h6⟩ := (hA _ j (hT _)).1 h5
      have hm : m = t.length := by
        have := congrArg List.length h6
        rw [List.length_take] at this
        omega
      subst hm
      exact ⟨fun _ => ⟨h1, by rw [hj]; rfl⟩, fun e => absurd h6 e⟩
theorem one_lang (l : List Nat) (h : ∀ c, c ∈ l → smallR c) (u : List Nat) (j : Nat) (hu : ∀ x, x ∈ u → x < 256) : LangR [joinR 2 (l.map byteN)] u j ↔ j = 0 ∧ u = l := by
  have hl : ∀ c, c ∈ l → c < 256 := fun c hc => by have := (h c hc).2; omega
  unfold LangR
  constructor
  · rintro ⟨n, h1, h2⟩
    match j, h1 with
    | 0, h1 => cases h1; exact ⟨rfl, (small_lang l hl u hu).1 h2⟩
    | j + 1, h1 => simp at h1
  · rintro ⟨rfl, rfl⟩
    exact ⟨_, rfl, (small_lang u hl u hu).2 rfl⟩
end Go.Proofs.YtkopbngnhgdfhaaDoor

/-
  With one rule more behind: what Match tells. No call is walked here.
-/
namespace Go.Proofs.YtkopbngnhgdfhaaDoor

theorem langR_app {ns : List Nd} {x : Nd} {w : List Nat} {j : Nat} (h : j < ns.length) : LangR (ns ++ [x]) w j ↔ LangR ns w j := by
  unfold LangR
  rw [List.getElem?_append_left h]
theorem langR_lt {ns : List Nd} {w : List Nat} {j : Nat} (h : LangR ns w j) : j < ns.length := by
  obtain ⟨n, h1, _⟩ := h
  exact (List.getElem?_eq_some_iff.1 h1).1
theorem match_more {ns : List Nd} {x : Nd} {W : List Nat} {m r n q : Int} (h : MatchI (LangR ns) W m r) (g : MatchI (LangR (ns ++ [x])) W n q) :
    (0 ≤ r → m ≤ n ∧ (n = m → q = r)) ∧ (0 ≤ q → q < ns.length → q = r ∧ n = m) := by
  have hP1 : 0 ≤ r → m ≤ n ∧ (n = m → q = r) := fun hr => by
    rcases h with ⟨h1, _⟩ | ⟨a, rfl, ha, _, h3, _⟩
    · omega
    rcases h3 with ⟨h3, _⟩ | ⟨j, rfl, hj, hmin⟩
    · omega
    have hB := (langR_app (x := x) (langR_lt hj)).2 hj
    rcases g with ⟨_, _, g1⟩ | ⟨b, rfl, hb, gq, g3, g4⟩
    · exact absurd hB (g1 a ha j)
    · have hab : a ≤ b := Nat.le_of_not_lt fun hlt => g4 a hlt ha j hB
      refine ⟨by omega, fun e => ?_⟩
      obtain rfl : b = a := by omega
      rcases g3 with ⟨g3, _⟩ | ⟨i, rfl, gi, gmin⟩
      · exact absurd g3 gq
      · have h1 : i ≤ j := Nat.le_of_not_lt fun hlt => gmin j hlt hB
        have h2 : j ≤ i := Nat.le_of_not_lt fun hlt => hmin i hlt ((langR_app (by have := langR_lt hj; omega)).1 gi)
        omega
  refine ⟨hP1, fun hq hk => ?_⟩
  rcases g with ⟨g1, _⟩ | ⟨b, rfl, hb, gq, g3, g4⟩
  · omega
  rcases g3 with ⟨g3, _⟩ | ⟨i, rfl, gi, gmin⟩
  · exact absurd g3 gq
  have hA := (langR_app (x := x) (by omega)).1 gi
  have hr : 0 ≤ r ∧ (b : Int) ≤ m := by
    rcases h with ⟨_, _, h1⟩ | ⟨a, rfl, ha, hr, h3, h4⟩
    · exact absurd hA (h1 b hb i)
    · refine ⟨?_, ?_⟩
      · rcases h3 with ⟨h3, _⟩ | ⟨j, rfl, _⟩
        · exact absurd h3 hr
        · omega
      · have : b ≤ a := Nat.le_of_not_lt fun hlt => h4 b hlt hb i hA
        omega
  have h5 := hP1 hr.1
  have h6 : (b : Int) = m := by omega
  exact ⟨h5.2 h6, h6⟩
end Go.Proofs.YtkopbngnhgdfhaaDoor
