/-
  Texts of this proof, one behind the other; each begins with its own remark.
-/
import Derived.Test.YtkopbngnhgdfhaaDoorBe36
import Derived.Test.YtkopbngnhgdfhaaDoorBe37
import Derived.Test.YtkopbngnhgdfhaaDoorBe6
import Derived.Test.YtkopbngnhgdfhaaDoorBe4
import Derived.Test.YtkopbngnhgdfhaaDoorBe39
/-
  regs.mayBe: what it returns: whether a node may be, and is not too deep.
-/
namespace Go.Proofs.YtkopbngnhgdfhaaDoor
open Go.RowKit

/-- All nodes of a level may be, and are at most so deep. -/
def LevR (d : Nat) (l : List Nd) : Prop := ∀ x, x ∈ l → mayR x = true ∧ deepR x ≤ d
theorem mayL_iff : ∀ (l : List Nd), mayL l = true ↔ ∀ x, x ∈ l → mayR x = true
  | [] => by simp [mayL]
  | n :: l => by simp [mayL, mayL_iff l]
theorem deepL_iff : ∀ (l : List Nd) (d : Nat), deepL l ≤ d ↔ ∀ x, x ∈ l → deepR x ≤ d
  | [], d => by simp [deepL]
  | n :: l, d => by simp [deepL, Nat.max_le, deepL_iff l d]
theorem may_form (n : Nd) : mayR n = true ↔ formR n.kind n.set n.kids.length = true ∧ ∀ x, x ∈ n.kids → mayR x = true := by
  cases n with
  | mk k s l => rw [mayR, Bool.and_eq_true, mayL_iff]; rfl
theorem lev_step {d : Nat} {l l' : List Nd} (h : ∀ x, x ∈ l' ↔ ∃ n, n ∈ l ∧ x ∈ n.kids) : LevR (d + 1) l ↔ (∀ n, n ∈ l → formR n.kind n.set n.kids.length = true) ∧ LevR d l' := by
  constructor
  · intro hl
    refine ⟨fun n hn => ((may_form n).1 (hl n hn).1).1, fun x hx => ?_⟩
    obtain ⟨n, hn, hxn⟩ := (h x).1 hx
    have h1 := hl n hn
    refine ⟨((may_form n).1 h1.1).2 x hxn, ?_⟩
    have h2 := h1.2
    rw [deep_kids] at h2
    exact (deepL_iff n.kids d).1 (by omega) x hxn
  · intro ⟨hf, hl⟩ n hn
    refine ⟨(may_form n).2 ⟨hf n hn, fun x hx => (hl x ((h x).2 ⟨n, hn, hx⟩)).1⟩, ?_⟩
    rw [deep_kids]
    have := (deepL_iff n.kids d).2 fun x hx => (hl x ((h x).2 ⟨n, hn, hx⟩)).2
    omega
theorem kids_one_new {w : World} {n : Nd} {u : Value} (hs : OkR n.set) (hu : KidsF (fun _ => True) w n.kids u) : KidsF (fun _ => True) (w.alloc (.cells #[.int .i64 n.kind, .int .u64 (n.set.1 : Int), .int .u64 (n.set.2.1 : Int), .int .u64 (n.set.2.2.1 : Int), .int .u64 (n.set.2.2.2 : Int), u] 26)) [n] (.slice (some ⟨w.heap.size, 0, none⟩) 1 1) := by
  have h1 := OutF.kids (T := 26) (N := 0) (w := w.alloc (.cells #[.int .i64 n.kind, .int .u64 (n.set.1 : Int), .int .u64 (n.set.2.1 : Int), .int .u64 (n.set.2.2.1 : Int), .int .u64 (n.set.2.2.2 : Int), u] 26)) (OutF.one (N := 0) (Nat.zero_le _) hs (hu.mono fun k _ _ => Nat.zero_le _)) (by show 1 ≤ 1000000; decide)
  exact h1.mono fun k _ _ => trivial
set_option maxRecDepth 4000 in
set_option maxHeartbeats 8000000 in
theorem pmay_any (n : Nd) (x : Value) (w : World) (hx : NodeF (fun _ => True) w n x) (hw : wtR n ≤ 100000) :
    Calls Tryd.prog 30 #[x] w fun e w' => e = .returned (.bool (mayR n && decide (deepR n ≤ 200))) ∧ Below w.heap.size w w' := by
  obtain ⟨hs, u, rfl, hu⟩ := hx
  obtain ⟨uo, uc, rfl, hul, _⟩ := hu.form
  obtain ⟨B, hB⟩ : ∃ B, (mayR n && decide (deepR n ≤ 200)) = B := ⟨_, rfl⟩
  have hBI : B = true ↔ LevR 200 [n] := by
    rw [← hB, Bool.and_eq_true, decide_eq_true_iff]
    constructor
    · intro h y hy; rw [List.mem_singleton.1 hy]; exact h
    · intro h; exact h n (by simp)
  rw [hB]
  unfold nodeV
  have hb1 := alloc_under w (.cells #[.int .i64 n.kind, .int .u64 (n.set.1 : Int), .int .u64 (n.set.2.1 : Int), .int .u64 (n.set.2.2.1 : Int), .int .u64 (n.set.2.2.2 : Int), .slice uo n.kids.length uc] 26)
  have hk2 := kids_one_new hs (hu.under hb1)
  have hb2 := hb1.trans ((alloc_under _ (.cells #[.int .i64 n.kind, .int .u64 (n.set.1 : Int), .int .u64 (n.set.2.1 : Int), .int .u64 (n.set.2.2.1 : Int), .int .u64 (n.set.2.2.2 : Int), .slice uo n.kids.length uc] 26)).mono hb1.size)
  rw [alloc_size] at hk2
  have HS0 := Lib.hid (show ∃ (v : Value) (l : List Nd), v = .slice (some ⟨w.heap.size + 1, 0, none⟩) 1 1 ∧ KidsF (fun _ => True) ((w.alloc (.cells #[.int .i64 n.kind, .int .u64 (n.set.1 : Int), .int .u64 (n.set.2.1 : Int), .int .u64 (n.set.2.2.1 : Int), .int .u64 (n.set.2.2.2 : Int), .slice uo n.kids.length uc] 26)).alloc (.cells #[.int .i64 n.kind, .int .u64 (n.set.1 : Int), .int .u64 (n.set.2.1 : Int), .int .u64 (n.set.2.2.1 : Int), .int .u64 (n.set.2.2.2 : Int), .slice uo n.kids.length uc] 26)) l v ∧ wtL l ≤ 100000 ∧ l ≠ [] ∧ (B = true ↔ LevR (200 - 0) l) ∧ Below w.heap.size w ((w.alloc (.cells #[.int .i64 n.kind, .int .u64 (n.set.1 : Int), .int .u64 (n.set.2.1 : Int), .int .u64 (n.set.2.2.1 : Int), .int .u64 (n.set.2.2.2 : Int), .slice uo n.kids.length uc] 26)).alloc (.cells #[.int .i64 n.kind, .int .u64 (n.set.1 : Int), .int .u64 (n.set.2.1 : Int), .int .u64 (n.set.2.2.1 : Int), .int .u64 (n.set.2.2.2 : Int), .slice uo n.kids.length uc] 26)) from
    ⟨_, [n], rfl, hk2, by rw [wtL_one]; exact hw, by simp, hBI, hb2⟩)
  clear hB hBI hb1 hk2 hb2 hs hu
  go_enter Tryd.func30, Tryd.ntmps30
  go_wp2_with fail
  obtain ⟨W1, hW1⟩ : ∃ W1, (w.alloc (.cells #[.int .i64 n.kind, .int .u64 (n.set.1 : Int), .int .u64 (n.set.2.1 : Int), .int .u64 (n.set.2.2.1 : Int), .int .u64 (n.set.2.2.2 : Int), .slice uo n.kids.length uc] 26)).alloc (.cells #[.int .i64 n.kind, .int .u64 (n.set.1 : Int), .int .u64 (n.set.2.1 : Int), .int .u64 (n.set.2.2.1 : Int), .int .u64 (n.set.2.2.2 : Int), .slice uo n.kids.length uc] 26) = W1 := ⟨_, rfl⟩
  (try rw [hW1])
  rw [hW1] at HS0
  clear hW1
  go_loopw [3, 8] (fun s3 s8 wr => ∃ i : Nat, s8 = .int .i64 (i : Int) ∧ i ≤ 200 ∧ Hid (∃ v l, v = s3 ∧ KidsF (fun _ => True) wr l v ∧ wtL l ≤ 100000 ∧ l ≠ [] ∧ (B = true ↔ LevR (200 - i) l) ∧ Below w.heap.size w wr)) (fun _ s8 _ => 200 - (intOf s8).toNat)
  case atStart => exact ⟨0, rfl, Nat.zero_le _, HS0⟩
  case round =>
    obtain ⟨i, rfl, hi, HI⟩ := hrel
    clear HS0
    obtain ⟨v, l, hvs, hkl, hwl, hne, hBI, hbl⟩ := HI.out
    subst hvs
    have HK := Lib.hid (And.intro hkl (And.intro hwl (And.intro hne (And.intro hBI hbl))))
    clear HI hkl hwl hne hBI hbl
    have i0 : (0 : Int) ≤ (i : Int) := by omega
    by_cases hlt : i < 200
    · have hli : (i : Int) < 200 := by omega
      have HC := Lib.hid (pbelow_any l v wr HK.out.1 HK.out.2.1)
      go_wp2_with fail
      go_fit HC.out
      rintro e w3 ⟨hb3, ⟨v2, l2, rfl, hk2, hmem, hwt, hfo⟩ | ⟨rfl, hno⟩⟩
      · have hst := lev_step (d := 200 - (i + 1)) hmem
        rw [show 200 - (i + 1) + 1 = 200 - i by omega] at hst
        have hsz := HK.out.2.2.2.2.size
        have HN := Lib.hid (show KidsF (fun _ => True) w3 l2 v2 ∧ wtL l2 ≤ 100000 ∧ (B = true ↔ LevR (200 - (i + 1)) l2) ∧ Below w.heap.size w w3 from
          ⟨hk2, Nat.le_trans hwt HK.out.2.1, (HK.out.2.2.2.1.trans hst).trans ⟨fun h => h.2, fun h => ⟨hfo, h⟩⟩, HK.out.2.2.2.2.trans (hb3.mono hsz)⟩)
        obtain ⟨ao, c, rfl, _⟩ := hk2.form
        clear hb3 hk2 hmem hwt hfo hst HK HC
        by_cases h2 : l2.length = 0
        · have HR : Hid (B = true) := HN.out.2.2.1.2 (by rw [List.eq_nil_of_length_eq_zero h2]; intro y hy; cases hy)
          have HB := Lib.hid HN.out.2.2.2
          rw [h2]
          clear HN h2
          go_wp2_with fail
          go_ret
          exact ⟨by rw [HR.out]; rfl, HB.out⟩
        · have b2 : ((l2.length : Int) == 0) = false := beq_eq_false_iff_ne.2 (by omega)
          have hne2 : l2 ≠ [] := fun e => h2 (by rw [e]; rfl)
          obtain ⟨m, hm⟩ : ∃ m, l2.length = m := ⟨_, rfl⟩
          rw [hm] at b2 HN ⊢
          clear h2 hm
          go_wp2_with fail
          go_roundw
          case rel => exact ⟨i + 1, by go_num, by omega, _, l2, rfl, HN.out.1, HN.out.2.1, hne2, HN.out.2.2.1, HN.out.2.2.2⟩
          case measure => (simp [intOf]; omega)
      · have HR : Hid (B = false) := by
          refine Bool.eq_false_iff.2 fun h => ?_
          obtain ⟨y, hy, hf⟩ := hno
          have h5 := ((may_form y).1 (HK.out.2.2.2.1.1 h y hy).1).1
          rw [hf] at h5
          cases h5
        have HB := Lib.hid (HK.out.2.2.2.2.trans (hb3.mono HK.out.2.2.2.2.size))
        clear HK HC hb3 hno
        go_wp2_with fail
        go_ret
        exact ⟨by rw [HR.out]; rfl, HB.out⟩
    · have hie : i = 200 := by omega
      subst hie
      have HR : Hid (B = false) := by
        refine Bool.eq_false_iff.2 fun h => ?_
        obtain ⟨y, ys, hy⟩ := List.exists_cons_of_ne_nil HK.out.2.2.1
        have h5 := (HK.out.2.2.2.1.1 h y (by rw [hy]; simp)).2
        have := deep_pos y
        omega
      have HB := Lib.hid HK.out.2.2.2.2
      clear HK
      go_wp2_with fail
      go_ret
      exact ⟨by rw [HR.out]; rfl, HB.out⟩
end Go.Proofs.YtkopbngnhgdfhaaDoor

/-
  regs, plain: the rules of one byte, of two, of what is between them, and of the others: what they are parsed as. No call is walked here.
-/
namespace Go.Proofs.YtkopbngnhgdfhaaDoor

def hexT (b : Nat) : List Nat := [92, 120, hexC (b / 16), hexC (b % 16)]
theorem let_hex (br : Bool) (b : Nat) (hb : b < 256) (r : List Nat) : letR br (hexT b ++ r) = some (b, r) := by
  show letR br (92 :: 120 :: (hexC (b / 16) :: hexC (b % 16) :: r)) = _
  rw [letR, if_pos rfl, escR, if_neg (by decide), if_neg (by decide), if_neg (by decide), if_pos rfl]
  exact hex_back b hb r
theorem parse_one {l : List Nat} {n : Nd} (hh : HeadR l) (hp : atR l = some (n, [])) : parseR l = some n := by
  rw [parse_eq, rw_piece hh (q := []) (n := n) (by unfold pieceR; rw [hp]; rfl), rw_next (.inl rfl)]
  rfl
theorem head_c (c : Nat) (t : List Nat) (h : c ≠ 41 ∧ c ≠ 124 ∧ c ≠ 42 ∧ c ≠ 43 ∧ c ≠ 63) : HeadR (c :: t) := ⟨c, t, rfl, h⟩
theorem parse_byte (a : Nat) (ha : a < 256) : parseR (hexT a) = some (.mk 1 (withR noR a 1) []) := by
  refine parse_one (head_c _ _ (by decide)) ?_
  have h := let_hex false a ha []
  rw [List.append_nil] at h
  rw [at_eq, if_neg (by show ¬ some 92 = some 40; decide), if_neg (by show ¬ some 92 = some 91; decide), if_neg (by show ¬ some 92 = some 46; decide), h]
  rfl
theorem spans_end (f : Nat) (s : St4) : spansR (f + 1) false s [93] = some (s, []) := by
  rw [spansR, if_pos ⟨rfl, rfl⟩]
  rfl
theorem spans_two (f : Nat) (first : Bool) (s : St4) (a b : Nat) (ha : a < 256) (hb : b < 256) (hab : a ≤ b) : spansR (f + 2) first s (hexT a ++ 45 :: (hexT b ++ [93])) = some (withR s a (b + 1 - a), []) := by
  rw [spansR, if_neg (by rintro ⟨_, h⟩; exact absurd (show some 92 = some 93 from h) (by decide)), let_hex true a ha]
  simp only [List.head?_cons, if_true, List.tail_cons]
  rw [let_hex true b hb]
  simp only
  rw [if_neg (by omega)]
  exact spans_end f _
theorem spans_pair (f : Nat) (s : St4) (a b : Nat) (ha : a < 256) (hb : b < 256) : spansR (f + 3) true s (hexT a ++ (hexT b ++ [93])) = some (withR (withR s a 1) b 1, []) := by
  rw [spansR, if_neg (by rintro ⟨h, _⟩; cases h), let_hex true a ha]
  simp only
  rw [if_neg (by show ¬ some 92 = some 45; decide), spansR, if_neg (by rintro ⟨_, h⟩; exact absurd (show some 92 = some 93 from h) (by decide)), let_hex true b hb]
  simp only
  rw [if_neg (by show ¬ some 93 = some 45; decide)]
  exact spans_end f _
theorem at_bracket (l : List Nat) : atR (91 :: l) = bracketR l := by
  rw [at_eq, if_neg (by show ¬ some 91 = some 40; decide)]
  exact if_pos (show (91 :: l : List Nat).head? = some 91 from rfl)
theorem parse_pair (a b : Nat) (ha : a < 256) (hb : b < 256) : parseR (91 :: (hexT a ++ (hexT b ++ [93]))) = some (.mk 1 (withR (withR noR a 1) b 1) []) := by
  refine parse_one (head_c _ _ (by decide)) ?_
  rw [at_bracket, bracketR, if_neg (by show ¬ some 92 = some 94; decide)]
  show (spansR (7 + 3) true noR _).map _ = _
  rw [spans_pair 7 noR a b ha hb]
  rfl
theorem parse_range (a b : Nat) (ha : a < 256) (hb : b < 256) (hab : a ≤ b) : parseR (91 :: (hexT a ++ 45 :: (hexT b ++ [93]))) = some (.mk 1 (withR noR a (b + 1 - a)) []) := by
  refine parse_one (head_c _ _ (by decide)) ?_
  rw [at_bracket, bracketR, if_neg (by show ¬ some 92 = some 94; decide)]
  show (spansR (9 + 2) true noR _).map _ = _
  rw [spans_two 9 true noR a b ha hb hab]
  rfl
theorem parse_not (a b : Nat) (ha : a < 256) (hb : b < 256) (hab : a ≤ b) : parseR (91 :: 94 :: (hexT a ++ 45 :: (hexT b ++ [93]))) = some (.mk 1 (notR (withR noR a (b + 1 - a)) 256) []) := by
  refine parse_one (head_c _ _ (by decide)) ?_
  rw [at_bracket, bracketR, if_pos (show (94 :: (hexT a ++ 45 :: (hexT b ++ [93])) : List Nat).head? = some 94 from rfl)]
  show (spansR (10 + 2) true noR _).map _ = _
  rw [List.tail_cons, spans_two 10 true noR a b ha hb hab]
  rfl
theorem hexC_lt2 (d : Nat) (h : d < 16) : hexC d < 256 := by unfold hexC; split <;> omega
theorem hexT_lt (a : Nat) (ha : a < 256) : ∀ x, x ∈ hexT a → x < 256 := by
  have h1 := hexC_lt2 (a / 16) (by omega)
  have h2 := hexC_lt2 (a % 16) (by omega)
  intro x hx
  simp only [hexT, List.mem_cons, List.not_mem_nil, or_false] at hx
  omega
theorem parseP_of {l : List Nat} {n : Nd} (hl : ∀ x, x ∈ l → x < 256) (h2 : l.length ≤ 200) (h : parseR l = some n) : parseP (strR l) = (n, 0) := by
  unfold parseP
  rw [if_neg (by rw [strR_size]; omega), strR_bytes l hl, h]
theorem lt_app {l m : List Nat} (h1 : ∀ x, x ∈ l → x < 256) (h2 : ∀ x, x ∈ m → x < 256) : ∀ x, x ∈ l ++ m → x < 256 := fun x hx => by
  rcases List.mem_append.1 hx with hx | hx
  · exact h1 x hx
  · exact h2 x hx
theorem lt_cons {c : Nat} {l : List Nat} (hc : c < 256) (h1 : ∀ x, x ∈ l → x < 256) : ∀ x, x ∈ c :: l → x < 256 := fun x hx => by
  rcases List.mem_cons.1 hx with rfl | hx
  · exact hc
  · exact h1 x hx
theorem lt_one : ∀ x, x ∈ [93] → x < 256 := by decide
theorem has_one (a c : Nat) (ha : a < 256) (hc : c < 256) : hasR (withR noR a 1) c = decide (c = a) := by
  rw [has_with noR a c hc 1 (by omega), has_no, Bool.false_or]
  exact decide_eq_decide.2 (by omega)
theorem has_two (a b c : Nat) (ha : a < 256) (hb : b < 256) (hc : c < 256) : hasR (withR (withR noR a 1) b 1) c = (decide (c = a) || decide (c = b)) := by
  rw [has_with _ b c hc 1 (by omega), has_one a c ha hc]
  congr 1
  exact decide_eq_decide.2 (by omega)
theorem has_range (a b c : Nat) (hb : b < 256) (hab : a ≤ b) (hc : c < 256) : hasR (withR noR a (b + 1 - a)) c = decide (a ≤ c ∧ c ≤ b) := by
  rw [has_with noR a c hc _ (by omega), has_no, Bool.false_or]
  exact decide_eq_decide.2 (by omega)
theorem has_others (a b c : Nat) (hb : b < 256) (hab : a ≤ b) (hc : c < 256) : hasR (notR (withR noR a (b + 1 - a)) 256) c = !decide (a ≤ c ∧ c ≤ b) := by
  rw [has_not _ c hc 256 (Nat.le_refl _), has_range a b c hb hab hc, decide_eq_true hc, Bool.true_and]
/-- The four rules, as Parse has them. -/
theorem set_rules (a b : Nat) (ha : a < 256) (hb : b < 256) (hab : a ≤ b) :
    parseP (strR (hexT a)) = (.mk 1 (withR noR a 1) [], 0) ∧ parseP (strR (91 :: (hexT a ++ (hexT b ++ [93])))) = (.mk 1 (withR (withR noR a 1) b 1) [], 0) ∧
    parseP (strR (91 :: (hexT a ++ 45 :: (hexT b ++ [93])))) = (.mk 1 (withR noR a (b + 1 - a)) [], 0) ∧ parseP (strR (91 :: 94 :: (hexT a ++ 45 :: (hexT b ++ [93])))) = (.mk 1 (notR (withR noR a (b + 1 - a)) 256) [], 0) := by
  have h1 := hexT_lt a ha
  have h2 := hexT_lt b hb
  exact ⟨parseP_of h1 (by show 4 ≤ 200; decide) (parse_byte a ha),
    parseP_of (lt_cons (by decide) (lt_app h1 (lt_app h2 lt_one))) (by show 10 ≤ 200; decide) (parse_pair a b ha hb),
    parseP_of (lt_cons (by decide) (lt_app h1 (lt_cons (by decide) (lt_app h2 lt_one)))) (by show 11 ≤ 200; decide) (parse_range a b ha hb hab),
    parseP_of (lt_cons (by decide) (lt_cons (by decide) (lt_app h1 (lt_cons (by decide) (lt_app h2 lt_one))))) (by show 12 ≤ 200; decide) (parse_not a b ha hb hab)⟩
end Go.Proofs.YtkopbngnhgdfhaaDoor
