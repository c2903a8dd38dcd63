/-
  Texts of this proof, one behind the other; each begins with its own remark.
-/
import Derived.Test.YtjeomlickkpebaaGreatDoorCards
import Derived.Test.YtjeomlickkpebaaGreatDoorTie
import Derived.ProofKit
import Derived.OpenShut
import Derived.ChangeSame
import Derived.Carry
import Derived.LaidLaws
import Derived.Deep.DeepHandedRow
import Derived.Lib.LaidTab
import Derived.Lib.SmallJoins
import Derived.SliceStrings
import Derived.Deep.Slices
import Derived.Deep.CutRange
import Derived.Deep.RegionLaw
import Derived.Deep.CutBlock
import Derived.Test.YtjeomlickkpebaaGreatDoorBe19
import Derived.Test.YtjeomlickkpebaaGreatDoorBe25
import Derived.Test.YtjeomlickkpebaaGreatDoorBe26
import Derived.Test.YtjeomlickkpebaaGreatDoorBe31
import Derived.Test.YtjeomlickkpebaaGreatDoorBe5
import Derived.Test.YtjeomlickkpebaaGreatDoorBe14
import Derived.Test.YtjeomlickkpebaaGreatDoorBe41
import Derived.Test.YtjeomlickkpebaaGreatDoorBe34
import Derived.Test.YtjeomlickkpebaaGreatDoorBe15
import Derived.Test.YtjeomlickkpebaaGreatDoorBe24
import Derived.Test.YtjeomlickkpebaaGreatDoorBe30
import Derived.Test.YtjeomlickkpebaaGreatDoorBe4
import Derived.Test.YtjeomlickkpebaaGreatDoorBe3
/-
  What the rows' list of five variables gives: the sentinel of a fault of a number; a world for the witness.
-/
namespace Go.Proofs.YtjeomlickkpebaaGreatDoor
open Go.ChangeShapes Go.WideShapes Go.ChangeAt Go.RowKit

theorem Tryz.laidOut : laidOutB Tryz.prog = true := by kernel_rfl
theorem Tryz.gSyn : Tryz.prog.globalNamed "strconv.ErrSyntax" = some 4 := by kernel_rfl
theorem Tryz.gSynType : (Tryz.prog.globals[4]?).map (·.type) = some 196 := by kernel_rfl
/-- WHAT THE ROWS' LIST GIVES. -/
theorem errW_of_laid {W : World} (h : laidMet Tryz.prog [("math/bits.deBruijn32tab", Rows.laid_math_bits_deBruijn32tab), ("math/bits.deBruijn64tab", Rows.laid_math_bits_deBruijn64tab), ("internal/strconv.uint64pow10", Rows.laid_internal_strconv_uint64pow10), ("strconv.ErrRange", Rows.laid_strconv_ErrRange), ("strconv.ErrSyntax", Rows.laid_strconv_ErrSyntax)] W) : ErrW W := by
  obtain ⟨ps, ⟨_, _, _, _, _, _, _, _, _, _, ⟨_, _, _, _, _, _, _, _, _, _, ⟨_, _, _, _, _, _, _, _, _, _, ⟨_, _, _, _, _, _, _, _, _, _, ⟨g5, t5, cs5, f5, p5, q5, hg5, ht5, hv5, hd5, _, _⟩, _⟩, _⟩, _⟩, _⟩, _⟩ := h
  obtain rfl := Option.some.inj (Tryz.gSyn.symm.trans hg5)
  obtain rfl := Option.some.inj (Tryz.gSynType.symm.trans ht5)
  obtain ⟨_, u, v, hcs, _⟩ := iface_of_trod Tryz.underlying196 hd5
  have h0 := World.var?_cell Tryz.gSyn hv5 0
  refine ⟨.iface u v, ?_, .inr ⟨u, v, rfl⟩⟩
  rw [h0, ← Array.getElem?_toList, hcs]
  rfl
/-- A WORLD FOR THE WITNESS: each of the five holds what its initialiser lays. -/
def refill (cs : Array Value) : Obj → Obj
  | .cells _ t frozen => .cells cs t frozen
  | o => o
def rowU8 (l : List Nat) : Array Value := (l.map fun (n : Nat) => Value.int .u8 (n : Int)).toArray
def rowU64 (l : List Nat) : Array Value := (l.map fun (n : Nat) => Value.int .u64 (n : Int)).toArray
def d32C : Array Value := rowU8 [0, 1, 28, 2, 29, 14, 24, 3, 30, 22, 20, 15, 25, 17, 4, 8, 31, 27, 13, 23, 21, 19, 16, 7, 26, 12, 18, 6, 11, 5, 10, 9]
def d64C : Array Value := rowU8 [0, 1, 56, 2, 57, 49, 28, 3, 61, 58, 42, 50, 38, 29, 17, 4, 62, 47, 59, 36, 45, 43, 51, 22, 53, 39, 33, 30, 24, 18, 12, 5, 63, 55, 48, 27, 60, 41, 37, 16, 46, 35, 44, 21, 52, 32, 23, 11, 54, 26, 40, 15, 34, 20, 31, 10, 25, 14, 19, 9, 13, 8, 7, 6]
def powC : Array Value := rowU64 [1, 10, 100, 1000, 10000, 100000, 1000000, 10000000, 100000000, 1000000000, 10000000000, 100000000000, 1000000000000, 10000000000000, 100000000000000, 1000000000000000, 10000000000000000, 100000000000000000, 1000000000000000000, 10000000000000000000]
noncomputable def low : Nat := (World.holding Tryz.prog default ⟨#[], #[], []⟩).heap.size
noncomputable def laidWorld (os : Os) : World :=
  let w0 := World.holding Tryz.prog os ⟨#[.cells #[.string ⟨#[118, 97, 108, 117, 101, 32, 111, 117, 116, 32, 111, 102, 32, 114, 97, 110, 103, 101]⟩] 212, .cells #[.string ⟨#[105, 110, 118, 97, 108, 105, 100, 32, 115, 121, 110, 116, 97, 120]⟩] 212], #[], []⟩
  { w0 with heap := ((((w0.heap.modify 0 (refill powC)).modify 1 (refill d32C)).modify 2 (refill d64C)).modify 5 (refill #[.iface 210 (.pointer (some ⟨low, 0, none⟩))])).modify 4 (refill #[.iface 210 (.pointer (some ⟨low + 1, 0, none⟩))]) }
theorem own : ownKnob Tryz.prog.godebug = none := by kernel_rfl
end Go.Proofs.YtjeomlickkpebaaGreatDoor

/-
  What a law's input reads as that is a row of strings. No call is walked here.
-/
namespace Go.Proofs.YtjeomlickkpebaaGreatDoor
open Go.ChangeShapes Go.WideShapes Go.ChangeAt Go.RowKit

theorem Tryz.cellsStr : Tryz.prog.cellsOf 9 = 1 := by kernel_rfl

section
variable {H : Type} {enc : TypeId × Value → H} {w : World} {base b0 : Nat} {spare : Nat → Bool} {held : Bool} {v : Value} {d : DataW H} {p : List MemPlace} {r : Reach}

set_option maxRecDepth 100000 in
theorem open_strsW (hv : Value.okWide Tryz.prog w r b0 22 v) (h : DataW.Trod enc Tryz.prog w base spare held 22 v d p) : ∃ xs, StrsW w v xs := by
  obtain ⟨a0, len, cap, rfl⟩ := okWide_slice Tryz.underlying22 hv
  obtain ⟨fuel, hf⟩ := h
  rcases open_strings Tryz.underlying22 Tryz.underlying9 Tryz.cellsStr hf with ⟨hcs, _⟩ | ⟨a, len', cap', ss, hcs, _, hl, hm, hz, _, hcell, _⟩
  · simp [Value.cells] at hcs
    obtain ⟨rfl, rfl, rfl⟩ := hcs
    exact ⟨[], StrsW.nil w⟩
  · simp [Value.cells] at hcs
    obtain ⟨rfl, rfl, rfl⟩ := hcs
    have hlen : len ≤ ss.length := by rw [hz]; split <;> omega
    have hl2 : (ss.take len).length = len := by rw [List.length_take]; omega
    refine ⟨ss.take len, some a, cap, by rw [hl2], by omega, fun i x hx => ?_⟩
    rw [List.getElem?_take] at hx
    split at hx
    · rename_i hi
      have hc := hcell i (by omega)
      obtain ⟨b, off, spot⟩ := a
      have h0 := hcell 0 (by omega)
      have hspot : spot = none := by simpa [Addr.add] using World.cell?_spot h0
      subst hspot
      refine ⟨b, off, rfl, ?_⟩
      rw [← Go.WideShapes.add_plain, hc, List.getD_eq_getElem?_getD, hx]
      rfl
    · cases hx
end
end Go.Proofs.YtjeomlickkpebaaGreatDoor

/-
  dfas, plain: what Match of a table tells, beside what Match of rules tells. No call is walked here.
-/
namespace Go.Proofs.YtjeomlickkpebaaGreatDoor

theorem by_rest (s : ByteArray) (i : Nat) : ByL (restR s i) := fun b hb => rest_lt s i b hb
theorem says_tab {L : List ByteArray} {k : Nat} (h : (goL L k).1.length = k) : ∀ w, (tabL L k).says 0 w = sayR (nodesP L) w := (tabL_says h).2
/-- What a table that says what the rules say tells of a text, from any place on. -/
theorem mda_facts (L : List ByteArray) {d : Dfa} (hd : OkD d) (hs : ∀ w, d.says 0 w = sayR (nodesP L) w) (s : ByteArray) (a : Int) :
    ∃ x y st : Int, matchDA d s a = (x, y, st) ∧ matchGA (rsE L) s a = (x, y) ∧ 0 ≤ x ∧ x ≤ st ∧ (0 ≤ a → a ≤ (s.size : Int) → st ≤ (s.size : Int) - a) ∧
      ((a < 0 ∨ (s.size : Int) < a) ∧ st = 0 ∨ 0 ≤ a ∧ a ≤ (s.size : Int) ∧ ∃ k : Nat, st = k ∧ FarI (fun u => 0 ≤ d.run 0 u) (restR s a.toNat) k) := by
  unfold matchDA matchGA
  by_cases h : a < 0 ∨ (s.size : Int) < a
  · rw [if_pos h, if_pos h]
    exact ⟨0, -1, 0, rfl, rfl, Int.le_refl _, Int.le_refl _, fun h1 h2 => by omega, .inl ⟨h, rfl⟩⟩
  · rw [if_neg h, if_neg h]
    obtain ⟨h1, k, h2, h3, h4, h5⟩ := table_match (nodes_good L) hd hs (restR s a.toNat) (by_rest s _)
    generalize matchD d (restR s a.toNat) = R at h1 h2 h3 h4 ⊢
    obtain ⟨x, y, st⟩ := R
    dsimp only at h1 h2 h3 h4
    refine ⟨x, y, st, rfl, h1.symm, h4, by rw [h2]; exact h3, fun _ _ => ?_, .inr ⟨by omega, by omega, k, h2, h5⟩⟩
    have := h5.le
    rw [rest_len] at this
    omega
/-- Of the least table: no more steps. -/
theorem mda_least (L : List ByteArray) {d m : Dfa} (hd : OkD d) (hs : ∀ w, d.says 0 w = sayR (nodesP L) w) (hm : IsMin (d.says 0) m) (s : ByteArray) (a : Int) :
    ∃ x y c z : Int, matchDA d s a = (x, y, c) ∧ matchDA m s a = (x, y, z) ∧ matchGA (rsE L) s a = (x, y) ∧ 0 ≤ x ∧ x ≤ z ∧ z ≤ c := by
  obtain ⟨x, y, c, e1, e2, h0, _, _, hc⟩ := mda_facts L hd hs s a
  obtain ⟨x2, y2, z, f1, f2, _, h3, _, hz⟩ := mda_facts L hm.ok (fun w => (hm.says w).trans (hs w)) s a
  rw [e2] at f2
  cases f2
  refine ⟨x, y, c, z, e1, f1, e2, h0, h3, ?_⟩
  rcases hz with ⟨g1, rfl⟩ | ⟨g1, g2, k, rfl, hk⟩
  · rcases hc with ⟨_, rfl⟩ | ⟨q1, q2, _⟩
    · exact Int.le_refl _
    · omega
  · rcases hc with ⟨q1, _⟩ | ⟨_, _, j, rfl, hj⟩
    · omega
    · have := min_steps hm (fun _ => rfl) hk hj
      omega
end Go.Proofs.YtjeomlickkpebaaGreatDoor

/-
  limnerref11.Rules: what it returns.
-/
namespace Go.Proofs.YtjeomlickkpebaaGreatDoor
open Go.RowKit

/-- Rules as they are gathered. -/
structure RwW (w0 w : World) (v : Value) (rs : List RuN) : Prop where
  r : ∃ us : List Value, us.length = rs.length ∧ w.ownsRow 0 49 1 v rs.length us ∧ ∀ (i : Nat) (r : RuN) (u : Value), rs[i]? = some r → us[i]? = some u → ∃ p, u = .pointer p ∧ RuO (fun k => v.ownBlock = some k) w u r
  b : Below w0.heap.size w0 w
  f : ∀ k, v.ownBlock = some k → w0.heap.size ≤ k
section
variable {w0 w w' : World} {v : Value} {rs : List RuN}
theorem RwW.under (h : RwW w0 w v rs) (hb : Below w.heap.size w w') : RwW w0 w' v rs := by
  obtain ⟨us, h1, h2, h3⟩ := h.r
  refine ⟨⟨us, h1, ownRow_keep h2 (keep_below (fun _ => True) hb) fun _ _ => trivial, fun i r u hr hu => ?_⟩, h.b.trans (hb.mono h.b.size), h.f⟩
  obtain ⟨p, h4, h5⟩ := h3 i r u hr hu
  exact ⟨p, h4, h5.below hb⟩
theorem RwW.lt (h : RwW w0 w v rs) : ∀ k, v.ownBlock = some k → k < w.heap.size := by
  obtain ⟨us, _, h2, _⟩ := h.r
  exact fun k e => (World.ownsRow.lt h2 k e).2
theorem RwW.read (h : RwW w0 w v rs) : RusW w v rs := by
  obtain ⟨us, h1, h2, h3⟩ := h.r
  refine ⟨us, h1, (ownZ h2).mono fun _ _ _ => trivial, fun i r u hr hu => ?_⟩
  obtain ⟨p, h4, h5⟩ := h3 i r u hr hu
  exact ⟨p, h4, h5.read⟩
end
section
variable {w : World} {v : Value} {L : List ByteArray}
end
end Go.Proofs.YtjeomlickkpebaaGreatDoor

/-
  What the program's states tell and what the document's positions tell of a text is one. No call is walked here.
-/
namespace Go.Proofs.YtjeomlickkpebaaGreatDoor

theorem matchA_same (L : List ByteArray) (s : ByteArray) (a : Int) : matchA (quE L) (fiE L) s a = matchGA (rsE L) s a := by
  unfold matchA matchGA
  split
  · rfl
  · exact match_same _ (nodes_good L) _
end Go.Proofs.YtjeomlickkpebaaGreatDoor

/-
  limnerlaw12.DfasSame, plain: a rule in brackets, twice, or again and again, is a rule, and takes the same texts. No call is walked here.
-/
namespace Go.Proofs.YtjeomlickkpebaaGreatDoor

theorem bytesR_app (s t : ByteArray) : bytesR (s ++ t) = bytesR s ++ bytesR t := by
  unfold bytesR
  rw [show (s ++ t).data = s.data ++ t.data from ByteArray.data_append]
  simp
theorem make_one {s : ByteArray} (h : makeE [s] = 0) : (parseP s).2 = 0 := (make_good h).2.2.2 s (by simp)
theorem one_make {s : ByteArray} (h : (parseP s).2 = 0) : makeE [s] = 0 := by
  have hs := ((parse_ok s).2.2.2 h).1
  unfold makeE
  rw [if_neg (by simp), errsP, if_pos h, errsP, if_neg (fun h => h rfl), sizeP, sizeP, if_neg (by omega)]
theorem parse_some {s : ByteArray} (h : (parseP s).2 = 0) : parseR (bytesR s) = some (parseP s).1 := by
  rcases parse_cases s with ⟨_, _, h3⟩ | ⟨h1, _⟩
  · exact h3
  · omega
theorem parse_is {s : ByteArray} {n : Nd} (hs : s.size ≤ 200) (h : parseR (bytesR s) = some n) : parseP s = (n, 0) := by
  unfold parseP
  rw [if_neg (by omega), h]
def parB (s : ByteArray) : ByteArray := ⟨#[40]⟩ ++ s ++ ⟨#[41]⟩
def twoB (s : ByteArray) : ByteArray := parB s ++ ⟨#[124]⟩ ++ parB s
def starB (s : ByteArray) : ByteArray := parB s ++ ⟨#[42]⟩
def maybeB (s : ByteArray) : ByteArray := ⟨#[40]⟩ ++ parB s ++ ⟨#[43, 41, 63]⟩
theorem parB_bytes (s : ByteArray) : bytesR (parB s) = parT (bytesR s) := by
  unfold parB parT
  rw [bytesR_app, bytesR_app]
  rfl
theorem parB_size (s : ByteArray) : (parB s).size = s.size + 2 := by
  have := congrArg List.length (parB_bytes s)
  rw [bytesR_len] at this
  rw [this]
  unfold parT
  simp [bytesR_len]
section
variable {s : ByteArray}
theorem two_rule (h : makeE [s] = 0) (hs : s.size ≤ 20) : makeE [twoB s] = 0 ∧ sayR (nodesP [twoB s]) = sayR (nodesP [s]) := by
  have hp := make_one h
  have hq := parse_some hp
  have hb : bytesR (twoB s) = parT (bytesR s) ++ 124 :: parT (bytesR s) := by
    unfold twoB
    rw [bytesR_app, bytesR_app, parB_bytes, List.append_assoc]
    rfl
  have hz : (twoB s).size ≤ 200 := by
    rw [← bytesR_len, hb]
    unfold parT
    simp [bytesR_len]
    omega
  have hP := parse_is hz (by rw [hb]; exact parse_two hq)
  refine ⟨one_make (by rw [hP]), sayR_same (nodes_good _) (nodes_good _) fun w _ j => ?_⟩
  show LangR [(parseP (twoB s)).1] w j ↔ LangR [(parseP s).1] w j
  rw [hP]
  exact langR_one (fun w => lang_two _ w) w j
theorem star_rule (h : makeE [s] = 0) (hs : s.size ≤ 20) : makeE [starB s] = 0 ∧ makeE [maybeB s] = 0 ∧ sayR (nodesP [maybeB s]) = sayR (nodesP [starB s]) := by
  have hp := make_one h
  have hq := parse_some hp
  have hb : bytesR (starB s) = parT (bytesR s) ++ [42] := by
    unfold starB
    rw [bytesR_app, parB_bytes]
    rfl
  have hb2 : bytesR (maybeB s) = 40 :: (parT (bytesR s) ++ [43]) ++ [41, 63] := by
    unfold maybeB
    rw [bytesR_app, bytesR_app, parB_bytes]
    show [40] ++ parT (bytesR s) ++ [43, 41, 63] = _
    simp
  have hz : (starB s).size ≤ 200 := by
    rw [← bytesR_len, hb]
    unfold parT
    simp [bytesR_len]
    omega
  have hz2 : (maybeB s).size ≤ 200 := by
    rw [← bytesR_len, hb2]
    unfold parT
    simp [bytesR_len]
    omega
  have hP := parse_is hz (by rw [hb]; exact parse_star hq)
  have hP2 := parse_is hz2 (by rw [hb2]; exact parse_maybe hq)
  refine ⟨one_make (by rw [hP]), one_make (by rw [hP2]), sayR_same (nodes_good _) (nodes_good _) fun w _ j => ?_⟩
  show LangR [(parseP (maybeB s)).1] w j ↔ LangR [(parseP (starB s)).1] w j
  rw [hP, hP2]
  exact langR_one (fun w => lang_maybe _ w) w j
end
end Go.Proofs.YtjeomlickkpebaaGreatDoor
