/-
  Texts of this proof, one behind the other; each begins with its own remark.
-/
import Derived.Shelf.Strings.Builder1
import Derived.Shelf.Strings.BuilderF
import Derived.Shelf.Strings.BuilderK
import Derived.Shelf.LaysM
import Derived.Shelf.Strconv.Clone
import Derived.Shelf.Strconv.SyntaxError
import Derived.Shelf.LaysC
import Derived.Shelf.Strconv.ToError
import Derived.Shelf.Strconv.Lower
import Derived.Test.YtkopbngnhgdfhaaDoorProg
import Derived.Test.YtkopbngnhgdfhaaDoorBe11
/-
  How many nodes a node is; that what is read of a text has not too many. No call is walked here.
-/
namespace Go.Proofs.YtkopbngnhgdfhaaDoor

mutual
def wtR : Nd → Nat
  | .mk _ _ l => wtL l + 1
def wtL : List Nd → Nat
  | [] => 0
  | n :: l => wtR n + wtL l
end
theorem wt_kids (n : Nd) : wtR n = wtL n.kids + 1 := by
  cases n with
  | mk k s l => rw [wtR]; rfl
theorem wt_pos (n : Nd) : 1 ≤ wtR n := by rw [wt_kids]; omega
theorem wtL_len : ∀ (l : List Nd), l.length ≤ wtL l
  | [] => Nat.le_refl _
  | n :: l => by
    have := wtL_len l
    have := wt_pos n
    rw [wtL, List.length_cons]; omega
theorem wtL_app : ∀ (l m : List Nd), wtL (l ++ m) = wtL l + wtL m
  | [], m => by simp [wtL]
  | n :: l, m => by rw [List.cons_append, wtL, wtL, wtL_app l m]; omega
theorem wtL_one (n : Nd) : wtL [n] = wtR n := by simp [wtL]
theorem wtL_mem : ∀ (l : List Nd) (n : Nd), n ∈ l → wtR n ≤ wtL l
  | m :: l, n, h => by
    rw [wtL]
    rcases List.mem_cons.1 h with rfl | h
    · omega
    · have := wtL_mem l n h; omega
theorem wt_join (k : Int) (l : List Nd) : wtR (joinR k l) ≤ wtL l + 1 := by
  match l with
  | [] => simp [joinR, emptyR, wtR, wtL]
  | [x] => simp [joinR, wtL]
  | x :: y :: l => simp [joinR, wtR]
theorem wt_signs : ∀ (l : List Nat) (n : Nd), wtR (signsR n l).1 + (signsR n l).2.length = wtR n + l.length
  | [], n => rfl
  | c :: t, n => by
    simp only [signsR]
    split
    · have := wt_signs t (.mk (signR c : Nat) noR [n])
      rw [this]
      simp only [wtR, wtL, List.length_cons]
      omega
    · rfl
theorem wt_bracket {l r : List Nat} {n : Nd} (h : bracketR l = some (n, r)) : wtR n = 1 := by
  unfold bracketR at h
  split at h
  · rcases hs : spansR (l.length + 1) true noR l.tail with _ | x
    · rw [hs] at h; cases h
    · rw [hs] at h; cases h; simp [wtR, wtL]
  · rcases hs : spansR (l.length + 1) true noR l with _ | x
    · rw [hs] at h; cases h
    · rw [hs] at h; cases h; simp [wtR, wtL]
theorem wt_rows : ∀ (N : Nat) (l : List Nat), l.length ≤ N →
    (∀ n r, atR l = some (n, r) → wtR n + 2 * r.length ≤ 2 * l.length) ∧
    (∀ all row n r, rwR l all row = some (n, r) → wtR n + 2 * r.length ≤ wtL all + wtL row + 2 * l.length + 3)
  | N, l, hN => by
    have hA : ∀ n r, atR l = some (n, r) → wtR n + 2 * r.length ≤ 2 * l.length := by
      intro n r h
      have hlt := at_len h
      have htl : l.tail.length + 1 = l.length := by rw [List.length_tail]; omega
      rw [at_eq] at h
      split at h
      · split at h
        · cases h
        · rename_i m q hq
          split at h
          · rename_i hp
            cases h
            have h4 := congrArg List.length (head_tail hp)
            simp only [List.length_cons] at h4
            obtain ⟨N, rfl⟩ : ∃ k, N = k + 1 := ⟨N - 1, by omega⟩
            have := (wt_rows N l.tail (by omega)).2 [] [] _ q hq
            simp only [wtL] at this
            omega
          · cases h
      split at h
      · have := wt_bracket h
        omega
      split at h
      · cases h
        simp only [dotR, wtR, wtL]
        omega
      · rcases hs : letR false l with _ | x
        · rw [hs] at h; cases h
        · rw [hs] at h
          cases h
          simp only [byteN, wtR, wtL]
          omega
    refine ⟨hA, fun all row n r h => ?_⟩
    have hj := wt_join 2 row
    rw [rw_eq] at h
    split at h
    · cases h
      have := wt_join 3 (all ++ [joinR 2 row])
      rw [wtL_app, wtL_one] at this
      omega
    split at h
    · rename_i hc
      have h4 := congrArg List.length (head_tail hc)
      simp only [List.length_cons] at h4
      obtain ⟨N, rfl⟩ : ∃ k, N = k + 1 := ⟨N - 1, by omega⟩
      have := (wt_rows N l.tail (by omega)).2 _ _ _ r h
      rw [wtL_app, wtL_one] at this
      simp only [wtL] at this
      omega
    split at h
    · cases h
    · rename_i m q hq
      have h1 := hA m q hq
      have hlt := at_len hq
      have h2 := wt_signs q m
      have hsl := signs_len q m
      obtain ⟨N, rfl⟩ : ∃ k, N = k + 1 := ⟨N - 1, by omega⟩
      have := (wt_rows N (signsR m q).2 (by omega)).2 _ _ _ r h
      rw [wtL_app, wtL_one] at this
      omega
theorem wt_parse (l : List Nat) (n : Nd) (h : parseR l = some n) : wtR n ≤ 2 * l.length + 3 := by
  rw [parse_eq] at h
  split at h
  · rename_i m hm
    cases h
    have := (wt_rows _ l (Nat.le_refl _)).2 [] [] _ [] hm
    simp only [wtL, List.length_nil] at this
    omega
  · cases h
end Go.Proofs.YtkopbngnhgdfhaaDoor

/-
  Library contracts at this seat's program: each is one application of the library's own theorem. Made by wip/tools/shelf.py.
-/
namespace Go.Proofs
open Go.Shelf
def Tryd.laysC245_ren : Go.Shelf.Ren := ⟨fun | 245 => 97 | 279 => 100 | 280 => 101 | 281 => 102 | 282 => 103 | 316 => 104 | 171 => 106 | 205 => 105 | 243 => 107 | 246 => 108 | 283 => 109 | 284 => 110 | 285 => 111 | 286 => 112 | 129 => 114 | 317 => 113 | 318 => 115 | 319 => 116 | 320 => 117 | 337 => 118 | 338 => 119 | n => n, fun | 9 => 9 | 3 => 3 | 75 => 109 | 167 => 158 | 4 => 4 | 168 => 160 | 210 => 165 | 37 => 57 | 0 => 0 | 127 => 117 | 145 => 170 | 143 => 168 | 2 => 2 | 171 => 172 | 53 => 22 | 5 => 5 | 173 => 175 | 212 => 178 | 51 => 179 | 20 => 20 | 213 => 180 | 46 => 145 | 232 => 184 | 233 => 185 | 80 => 80 | n => n, fun | 15 => 1 | 16 => 2 | 17 => 3 | 18 => 4 | 19 => 5 | n => n⟩
theorem Tryd.laysC245 : Go.Proofs.LaysC.n245 Tryd.prog Tryd.laysC245_ren := {
  mixed := by kernel_rfl
  f129 := Tryd.func114.trans (congrArg some (by kernel_rfl))
  f171 := Tryd.func106.trans (congrArg some (by kernel_rfl))
  f205 := Tryd.func105.trans (congrArg some (by kernel_rfl))
  f243 := Tryd.func107.trans (congrArg some (by kernel_rfl))
  f245 := Tryd.func97.trans (congrArg some (by kernel_rfl))
  f246 := Tryd.func108.trans (congrArg some (by kernel_rfl))
  f279 := Tryd.func100.trans (congrArg some (by kernel_rfl))
  f280 := Tryd.func101.trans (congrArg some (by kernel_rfl))
  f281 := Tryd.func102.trans (congrArg some (by kernel_rfl))
  f282 := Tryd.func103.trans (congrArg some (by kernel_rfl))
  f283 := Tryd.func109.trans (congrArg some (by kernel_rfl))
  f284 := Tryd.func110.trans (congrArg some (by kernel_rfl))
  f285 := Tryd.func111.trans (congrArg some (by kernel_rfl))
  f286 := Tryd.func112.trans (congrArg some (by kernel_rfl))
  f316 := Tryd.func104.trans (congrArg some (by kernel_rfl))
  f317 := Tryd.func113.trans (congrArg some (by kernel_rfl))
  f318 := Tryd.func115.trans (congrArg some (by kernel_rfl))
  f319 := Tryd.func116.trans (congrArg some (by kernel_rfl))
  f320 := Tryd.func117.trans (congrArg some (by kernel_rfl))
  f337 := Tryd.func118.trans (congrArg some (by kernel_rfl))
  f338 := Tryd.func119.trans (congrArg some (by kernel_rfl))
  t0 := Tryd.underlying0
  a0 := Tryd.isAgg0
  z0 := Tryd.sizeOf0
  v0 := Tryd.zeroValue0
  t2 := Tryd.underlying2
  a2 := Tryd.isAgg2
  z2 := Tryd.sizeOf2
  v2 := Tryd.zeroValue2
  t3 := Tryd.underlying3
  a3 := Tryd.isAgg3
  z3 := Tryd.sizeOf3
  v3 := Tryd.zeroValue3
  t4 := Tryd.underlying4
  a4 := Tryd.isAgg4
  z4 := Tryd.sizeOf4
  v4 := Tryd.zeroValue4
  t5 := Tryd.underlying5
  a5 := Tryd.isAgg5
  z5 := Tryd.sizeOf5
  v5 := Tryd.zeroValue5
  t9 := Tryd.underlying9
  a9 := Tryd.isAgg9
  z9 := Tryd.sizeOf9
  v9 := Tryd.zeroValue9
  t20 := Tryd.underlying20
  a20 := Tryd.isAgg20
  z20 := Tryd.sizeOf20
  v20 := Tryd.zeroValue20
  t37 := Tryd.underlying57
  a37 := Tryd.isAgg57
  z37 := Tryd.sizeOf57
  v37 := Tryd.zeroValue57
  t46 := Tryd.underlying145
  a46 := Tryd.isAgg145
  z46 := Tryd.sizeOf145
  v46 := Tryd.zeroValue145
  t51 := Tryd.underlying179
  a51 := Tryd.isAgg179
  z51 := Tryd.sizeOf179
  v51 := Tryd.zeroValue179
  t53 := Tryd.underlying22
  a53 := Tryd.isAgg22
  z53 := Tryd.sizeOf22
  v53 := Tryd.zeroValue22
  t75 := Tryd.underlying109
  a75 := Tryd.isAgg109
  z75 := Tryd.sizeOf109
  v75 := Tryd.zeroValue109
  t127 := Tryd.underlying117
  a127 := Tryd.isAgg117
  z127 := Tryd.sizeOf117
  v127 := Tryd.zeroValue117
  t143 := Tryd.underlying168
  a143 := Tryd.isAgg168
  z143 := Tryd.sizeOf168
  v143 := Tryd.zeroValue168
  t145 := Tryd.underlying170
  a145 := Tryd.isAgg170
  z145 := Tryd.sizeOf170
  v145 := Tryd.zeroValue170
  t167 := Tryd.underlying158
  a167 := Tryd.isAgg158
  z167 := Tryd.sizeOf158
  v167 := Tryd.zeroValue158
  t168 := Tryd.underlying160
  a168 := Tryd.isAgg160
  z168 := Tryd.sizeOf160
  v168 := Tryd.zeroValue160
  t171 := Tryd.underlying172
  a171 := Tryd.isAgg172
  z171 := Tryd.sizeOf172
  v171 := Tryd.zeroValue172
  t173 := Tryd.underlying175
  a173 := Tryd.isAgg175
  z173 := Tryd.sizeOf175
  v173 := Tryd.zeroValue175
  t210 := Tryd.underlying165
  a210 := Tryd.isAgg165
  z210 := Tryd.sizeOf165
  v210 := Tryd.zeroValue165
  t212 := Tryd.underlying178
  a212 := Tryd.isAgg178
  z212 := Tryd.sizeOf178
  v212 := Tryd.zeroValue178
  t213 := Tryd.underlying180
  a213 := Tryd.isAgg180
  z213 := Tryd.sizeOf180
  t232 := Tryd.underlying184
  a232 := Tryd.isAgg184
  z232 := Tryd.sizeOf184
  v232 := Tryd.zeroValue184
  t233 := Tryd.underlying185
  a233 := Tryd.isAgg185
  z233 := Tryd.sizeOf185
  v233 := Tryd.zeroValue185
  g15 := by kernel_rfl
  g16 := by kernel_rfl
  g17 := by kernel_rfl
  g18 := by kernel_rfl
  g19 := by kernel_rfl
  t80 := Tryd.underlying80
  a80 := Tryd.isAgg80
  z80 := Tryd.sizeOf80
  v80 := Tryd.zeroValue80
  i0 := by kernel_rfl
  i2 := by kernel_rfl
  i3 := by kernel_rfl
  i4 := by kernel_rfl
  i5 := by kernel_rfl
  i9 := by kernel_rfl
  i20 := by kernel_rfl
  i37 := by kernel_rfl
  i46 := by kernel_rfl
  i51 := by kernel_rfl
  i53 := by kernel_rfl
  i75 := by kernel_rfl
  i80 := by kernel_rfl
  i127 := by kernel_rfl
  i143 := by kernel_rfl
  i145 := by kernel_rfl
  i167 := by kernel_rfl
  i168 := by kernel_rfl
  i171 := by kernel_rfl
  i173 := by kernel_rfl
  i210 := by kernel_rfl
  i212 := by kernel_rfl
  i232 := by kernel_rfl
  i233 := by kernel_rfl
  m15 := by kernel_rfl
  m16 := by kernel_rfl
  m17 := by kernel_rfl
  m18 := by kernel_rfl
  m19 := by kernel_rfl
  c0 := by kernel_rfl
  c2 := by kernel_rfl
  c3 := by kernel_rfl
  c4 := by kernel_rfl
  c5 := by kernel_rfl
  c9 := by kernel_rfl
  c20 := by kernel_rfl
  c37 := by kernel_rfl
  c46 := by kernel_rfl
  c51 := by kernel_rfl
  c53 := by kernel_rfl
  c75 := by kernel_rfl
  c80 := by kernel_rfl
  c127 := by kernel_rfl
  c143 := by kernel_rfl
  c145 := by kernel_rfl
  c167 := by kernel_rfl
  c168 := by kernel_rfl
  c171 := by kernel_rfl
  c173 := by kernel_rfl
  c210 := by kernel_rfl
  c212 := by kernel_rfl
  c213 := by kernel_rfl
  c232 := by kernel_rfl
  c233 := by kernel_rfl }
open Go.RowKit in
theorem Tryd.strconv_toError_syntax (fn s : ByteArray) (base bits : Int) (ev : Value) (w : World) (hlim : s.size ≤ 281474976710656) (hv : w.cell? ⟨1, 0, none⟩ = some ev) (hev : ev = .nilIface ∨ ∃ te pe, ev = .iface te pe) :
    Calls Tryd.prog 97 #[.string fn, .string s, .int .i64 base, .int .i64 bits, .iface 158 (.int .i64 2)] w fun e w' => ∃ N, e = .returned (.iface 160 (.pointer (some ⟨N, 0, none⟩))) ∧ w.heap.size ≤ N ∧ w'.heap[N]? = some (.cells #[.string fn, .string s, ev] 165 (0, 0)) ∧ Below w.heap.size w w' := Any.strconv_toError_syntax Tryd.laysC245 fn s base bits ev w hlim hv hev
end Go.Proofs
