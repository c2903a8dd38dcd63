/-
  (Part).bytes: a sequence: what the call returns.
-/
import Derived.Test.YtbpnnnjbddjboaaDoorPsBytes1
import Derived.BigRegion
namespace Go.Proofs.YtbpnnnjbddjboaaDoor
open Go.RowKit

def intsZ (l : List Int) : List Value := l.map fun z => .int .i64 z
/-- The bytes of a sequence so far: k of its numbers. -/
def accB (l : List Nat) : ByteArray := ⟨(27 :: 91 :: midL l).toArray⟩
theorem accB_zero : accB [] = ⟨#[27, 91]⟩ := rfl
theorem accB_first (n : Nat) : accB [] ++ ⟨(Lib.decDigits n).toArray⟩ = accB [n] := by
  apply ByteArray.ext
  apply Array.toList_inj.1
  rw [app_data]
  rfl
theorem accB_next (l : List Nat) (n : Nat) (h : l ≠ []) : accB l ++ ⟨#[59]⟩ ++ ⟨(Lib.decDigits n).toArray⟩ = accB (l ++ [n]) := by
  apply ByteArray.ext
  apply Array.toList_inj.1
  rw [app_data, app_data]
  show (27 :: 91 :: midL l) ++ [59] ++ Lib.decDigits n = 27 :: 91 :: midL (l ++ [n])
  rw [midL_snoc l n h]
  simp
theorem accB_last (l : List Nat) (F : Nat) : accB l ++ oneB F = ⟨(27 :: 91 :: (midL l ++ [UInt8.ofNat F])).toArray⟩ := by
  apply ByteArray.ext
  apply Array.toList_inj.1
  rw [app_data]
  rfl
theorem midL_len : ∀ l : List Nat, (∀ n ∈ l, n ≤ 9999) → (midL l).length ≤ 5 * l.length
  | [], _ => Nat.zero_le _
  | [n], h => by have := digit_len n (h n (List.mem_singleton.2 rfl)); show (Lib.decDigits n).length ≤ 5; omega
  | n :: m :: l, h => by
    have a := digit_len n (h n (List.mem_cons_self ..))
    have b := midL_len (m :: l) (fun k hk => h k (List.mem_cons_of_mem _ hk))
    rw [midL_cons _ _ (by simp), List.length_append, List.length_cons, List.length_cons]
    omega
theorem i64_and8191 (n : Int) : bits .and .i64 n 8191 = n % 8192 := by
  have h : (BitVec.ofInt 64 8191).toNat = 2 ^ 13 - 1 := by decide
  have key : (BitVec.ofInt 64 n &&& BitVec.ofInt 64 8191).toNat = (n % ((2 ^ 64 : Nat) : Int)).toNat % 2 ^ 13 := by
    rw [BitVec.toNat_and, BitVec.toNat_ofInt, h, Nat.and_two_pow_sub_one_eq_mod]
  show IntKind.i64.wrap ((BitVec.ofInt 64 n &&& BitVec.ofInt 64 8191).toNat : Nat) = n % 8192
  rw [key, IntKind.wrap_i64]
  omega
theorem convP_drew (b : Nat) (w : World) : (convert 46 9 (.slice (some ⟨w.heap.size, 0, none⟩) 1 1)).run Tryd.prog (w.alloc (.cells #[.int .u8 (b : Int)] 5)).drew = .ok (.string (oneB b)) (w.alloc (.cells #[.int .u8 (b : Int)] 5)).drew :=
  run_convert_bytes_arg (P := Tryd.prog) _ 46 5 Tryd.underlying46 Tryd.underlying5 w.heap.size 0 1 1 [(b : Int)] rfl
    (fun i hi => by
      show (w.alloc (.cells #[.int .u8 (b : Int)] 5)).cell? _ = _
      rw [cell_of_row _ _ _ #[.int .u8 (b : Int)] 5 (0, 0) (heap_alloc_new w _)]
      obtain rfl : i = 0 := by simpa using hi
      rfl) 9 Tryd.underlying9
/-- A block of four cells, known whole. -/
def blk4 (w : World) (B : Nat) (x0 x1 x2 x3 : Value) (T : TypeId) : Prop := w.heap[B]? = some (.cells #[x0, x1, x2, x3] T (0, 0))
theorem blk4.cells {w : World} {B : Nat} {x0 x1 x2 x3 : Value} {T : TypeId} (h : blk4 w B x0 x1 x2 x3 T) : (w.cell? ⟨B, 0, none⟩ = some x0 ∧ w.cell? ⟨B, 1, none⟩ = some x1 ∧ w.cell? ⟨B, 2, none⟩ = some x2 ∧ w.cell? ⟨B, 3, none⟩ = some x3) ∧ (w.frozen? ⟨B, 0, none⟩ = false ∧ w.frozen? ⟨B, 1, none⟩ = false ∧ w.frozen? ⟨B, 2, none⟩ = false ∧ w.frozen? ⟨B, 3, none⟩ = false) := by
  unfold blk4 at h
  refine ⟨⟨?_, ?_, ?_, ?_⟩, ?_, ?_, ?_, ?_⟩ <;> first | (unfold World.cell?; rw [h]; rfl) | (unfold World.frozen?; rw [h]; simp)
theorem blk4.lt {w : World} {B : Nat} {x0 x1 x2 x3 : Value} {T : TypeId} (h : blk4 w B x0 x1 x2 x3 T) : B < w.heap.size := (Array.getElem?_eq_some_iff.1 h).1
theorem blk4.below {w w' : World} {B : Nat} {x0 x1 x2 x3 : Value} {T : TypeId} (h : blk4 w B x0 x1 x2 x3 T) (hb : Below w.heap.size w w') : blk4 w' B x0 x1 x2 x3 T := (hb.block B h.lt).trans h
theorem blk4.set {w : World} {B : Nat} {x0 x1 x2 x3 : Value} {T : TypeId} (h : blk4 w B x0 x1 x2 x3 T) (i : Nat) (v : Value) : (w.setCell ⟨B, i, none⟩ v).heap[B]? = some (.cells (#[x0, x1, x2, x3].setIfInBounds i v) T (0, 0)) := by
  unfold blk4 at h
  show (w.heap.modify B _)[B]? = _
  have hlt := (Array.getElem?_eq_some_iff.1 h).1
  obtain ⟨_, he⟩ := Array.getElem?_eq_some_iff.1 h
  rw [Array.getElem?_eq_getElem (by rw [Array.size_modify]; exact hlt), Array.getElem_modify_self, he]
  rfl
theorem blk4.set2 {w : World} {B : Nat} {x0 x1 x2 x3 : Value} {T : TypeId} (h : blk4 w B x0 x1 x2 x3 T) (v : Value) : blk4 (w.setCell ⟨B, 2, none⟩ v) B x0 x1 v x3 T := h.set 2 v
theorem blk4.all {w : World} {B : Nat} {x0 x1 x2 x3 : Value} {T : TypeId} (h : blk4 w B x0 x1 x2 x3 T) (a b c d : Value) : blk4 ((((w.setCell ⟨B, 0, none⟩ a).setCell ⟨B, 1, none⟩ b).setCell ⟨B, 2, none⟩ c).setCell ⟨B, 3, none⟩ d) B a b c d T := by
  have h0 : blk4 (w.setCell ⟨B, 0, none⟩ a) B a x1 x2 x3 T := h.set 0 a
  have h1 : blk4 ((w.setCell ⟨B, 0, none⟩ a).setCell ⟨B, 1, none⟩ b) B a b x2 x3 T := h0.set 1 b
  have h2 : blk4 (((w.setCell ⟨B, 0, none⟩ a).setCell ⟨B, 1, none⟩ b).setCell ⟨B, 2, none⟩ c) B a b c x3 T := h1.set 2 c
  exact h2.set 3 d
theorem blk4.far {w : World} {B C i : Nat} {x0 x1 x2 x3 v : Value} {T : TypeId} (h : blk4 w B x0 x1 x2 x3 T) (hne : B ≠ C) : blk4 (w.setCell ⟨C, i, none⟩ v) B x0 x1 x2 x3 T := ((keep_set (ok := fun k => k ≠ C) C i none v w (fun h => h rfl)).same B h.lt hne).trans h

set_option maxRecDepth 20000 in
set_option maxHeartbeats 8000000 in
theorem bytes_seq (k r n : Int) (pv : Value) (ps : List Int) (w : World) (k0 : 0 ≤ k) (n0 : 0 ≤ n) (h : k % 4 = 2) (hp : RowV AnyP w pv ps.length (intsZ ps)) (hz : ∀ z ∈ ps, -9223372036854775808 ≤ z ∧ z ≤ 9223372036854775807) :
    Calls Tryd.prog 12 #[.agg #[.int .u8 k, .int .i32 r, .int .u8 n, pv]] w fun e w' => ∃ v, e = .returned (.tuple #[.string (seqB (k, r, n, ps)), .agg #[.int .i64 3, .int .i32 0, v, .int .u8 (finP (k, r, n, ps) : Int)]]) ∧ NumsW (FromP w.heap.size) w' v (numsP (k, r, n, ps)) ∧ Below w.heap.size w w' := by
  have v1 : Int.tmod k 4 = 2 := by rw [Int.tmod_eq_emod_of_nonneg k0]; exact h
  obtain ⟨D, hD⟩ : ∃ D : Nat, n % 63 = (D : Int) := ⟨(n % 63).toNat, by omega⟩
  have v2 : Int.tmod n 63 = (D : Int) := by rw [Int.tmod_eq_emod_of_nonneg n0]; exact hD
  have hD62 : D ≤ 62 := by omega
  have HFP : Hid (finP (k, r, n, ps) = 64 + D) := by
    show 64 + (n % 63).toNat = 64 + D
    omega
  obtain ⟨pa, pc, rfl, hpc, _, hcell⟩ := hp
  have HCE : Hid (∀ i z, ps[i]? = some z → ∃ g o, pa = some ⟨g, o, none⟩ ∧ w.cell? ⟨g, o + i, none⟩ = some (.int .i64 z)) := fun i z hi => hcell i _ (by unfold intsZ; rw [List.getElem?_map, hi]; rfl)
  obtain ⟨m, hm⟩ : ∃ m, ps.length = m := ⟨_, rfl⟩
  rw [hm] at hpc ⊢
  have HM := Lib.hid hm
  have HZ := Lib.hid hz
  have hcast : ((64 + D : Nat) : Int) = 64 + (D : Int) := by omega
  have hNP1 : numsP (k, r, n, ps) = (ps.take 16).map low13 := rfl
  have hSB1 : seqB (k, r, n, ps) = ⟨(27 :: 91 :: (midL (numsP (k, r, n, ps)) ++ [UInt8.ofNat (finP (k, r, n, ps))])).toArray⟩ := rfl
  rw [HFP.out] at hSB1
  rw [HFP.out, hcast]
  obtain ⟨NP, hNP⟩ : ∃ NP, numsP (k, r, n, ps) = NP := ⟨_, rfl⟩
  rw [hNP] at hSB1 hNP1 ⊢
  obtain ⟨SB, hSB⟩ : ∃ SB, seqB (k, r, n, ps) = SB := ⟨_, rfl⟩
  rw [hSB] at hSB1 ⊢
  have HNP := Lib.hid hNP1
  have HSB0 := Lib.hid hSB1
  clear hcell hm hz hD hNP hSB hNP1 hSB1
  have HB0 : Hid (∀ W0, (((w.alloc (.cells #[.int .u8 k, .int .i32 r, .int .u8 n, .slice pa m pc] 40)).alloc (.cells #[.int .i64 0, .int .i32 0, .slice none 0 0, .int .u8 0] 34)).alloc (.cells #[.int .i64 3, .int .i32 0, .slice none 0 0, .int .u8 (64 + (D : Int))] 34)) = W0 → W0.heap.size = w.heap.size + 3 ∧ Below w.heap.size w W0 ∧ blk4 W0 w.heap.size (.int .u8 k) (.int .i32 r) (.int .u8 n) (.slice pa m pc) 40 ∧ blk4 W0 (w.heap.size + 1) (.int .i64 0) (.int .i32 0) (.slice none 0 0) (.int .u8 0) 34 ∧ blk4 W0 (w.heap.size + 1 + 1) (.int .i64 3) (.int .i32 0) (.slice none 0 0) (.int .u8 (64 + (D : Int))) 34) := fun W0 h0 => by
    have a1 := heap_alloc_new w (.cells #[.int .u8 k, .int .i32 r, .int .u8 n, .slice pa m pc] 40)
    have a2 := heap_alloc_new (w.alloc (.cells #[.int .u8 k, .int .i32 r, .int .u8 n, .slice pa m pc] 40)) (.cells #[.int .i64 0, .int .i32 0, .slice none 0 0, .int .u8 0] 34)
    have a3 := heap_alloc_new ((w.alloc (.cells #[.int .u8 k, .int .i32 r, .int .u8 n, .slice pa m pc] 40)).alloc (.cells #[.int .i64 0, .int .i32 0, .slice none 0 0, .int .u8 0] 34)) (.cells #[.int .i64 3, .int .i32 0, .slice none 0 0, .int .u8 (64 + (D : Int))] 34)
    rw [World.size_alloc] at a2
    rw [World.size_alloc, World.size_alloc] at a3
    have b1 : blk4 (w.alloc (.cells #[.int .u8 k, .int .i32 r, .int .u8 n, .slice pa m pc] 40)) w.heap.size (.int .u8 k) (.int .i32 r) (.int .u8 n) (.slice pa m pc) 40 := a1
    have c2 := (Below.refl (w.alloc (.cells #[.int .u8 k, .int .i32 r, .int .u8 n, .slice pa m pc] 40)).heap.size (w.alloc (.cells #[.int .u8 k, .int .i32 r, .int .u8 n, .slice pa m pc] 40))).alloc (Nat.le_refl _) (.cells #[.int .i64 0, .int .i32 0, .slice none 0 0, .int .u8 0] 34)
    have c3 := (Below.refl ((w.alloc (.cells #[.int .u8 k, .int .i32 r, .int .u8 n, .slice pa m pc] 40)).alloc (.cells #[.int .i64 0, .int .i32 0, .slice none 0 0, .int .u8 0] 34)).heap.size ((w.alloc (.cells #[.int .u8 k, .int .i32 r, .int .u8 n, .slice pa m pc] 40)).alloc (.cells #[.int .i64 0, .int .i32 0, .slice none 0 0, .int .u8 0] 34))).alloc (Nat.le_refl _) (.cells #[.int .i64 3, .int .i32 0, .slice none 0 0, .int .u8 (64 + (D : Int))] 34)
    have b2 : blk4 ((w.alloc (.cells #[.int .u8 k, .int .i32 r, .int .u8 n, .slice pa m pc] 40)).alloc (.cells #[.int .i64 0, .int .i32 0, .slice none 0 0, .int .u8 0] 34)) (w.heap.size + 1) (.int .i64 0) (.int .i32 0) (.slice none 0 0) (.int .u8 0) 34 := a2
    subst h0
    exact ⟨by rw [World.size_alloc, World.size_alloc, World.size_alloc], (((Below.refl _ w).alloc (Nat.le_refl _) _).alloc (by rw [World.size_alloc]; omega) _).alloc (by rw [World.size_alloc, World.size_alloc]; omega) _, (b1.below c2).below c3, b2.below c3, a3⟩
  obtain ⟨i0, hi0, hz0, hz1, hz2⟩ := info_parts Tryd.infoInt
  have HDG := Lib.hid (fun (q : Nat) W (hq : q ≤ 1000000) => digits_any q q W (Nat.le_refl _) hq)
  go_enter Tryd.func12, Tryd.ntmps12
  go_wp2_with fail
  obtain ⟨W0, hW0⟩ : ∃ W0, ((w.alloc (.cells #[.int .u8 k, .int .i32 r, .int .u8 n, .slice pa m pc] 40)).alloc (.cells #[.int .i64 0, .int .i32 0, .slice none 0 0, .int .u8 0] 34)).alloc (.cells #[.int .i64 3, .int .i32 0, .slice none 0 0, .int .u8 (64 + (D : Int))] 34) = W0 := ⟨_, rfl⟩
  obtain ⟨hs0, hb0, hp0, hr0, hq0⟩ := HB0.out W0 hW0
  rw [hW0]
  clear HB0 hW0
  have HTK : Hid (∀ j z, ps[j]? = some z → (ps.take (j + 1)).map low13 = (ps.take j).map low13 ++ [low13 z]) := fun j z hj => by rw [List.take_add_one, hj, List.map_append]; rfl
  go_loopw [6, 8] (fun t i wr => ∃ (j : Nat) (ns : List Nat) (v : Value), i = .int .i64 (j : Int) ∧ j ≤ m ∧ j ≤ 16 ∧ ns.length = j ∧ Hid (ns = (ps.take j).map low13) ∧ t = .string (accB ns) ∧ (accB ns).size ≤ 2 + 5 * j ∧ blk4 wr w.heap.size (.int .u8 k) (.int .i32 r) (.int .u8 n) (.slice pa m pc) 40 ∧ blk4 wr (w.heap.size + 1) (.int .i64 0) (.int .i32 0) (.slice none 0 0) (.int .u8 0) 34 ∧ blk4 wr (w.heap.size + 1 + 1) (.int .i64 3) (.int .i32 0) v (.int .u8 (64 + (D : Int))) 34 ∧ wr.ownsRow (w.heap.size + 3) 3 1 v ns.length (ints ns) ∧ (ns = [] → v = .slice none 0 0) ∧ Below w.heap.size w wr) (fun _ i _ => 16 - (intOf i).toNat)
  case atStart => exact ⟨0, [], _, rfl, Nat.zero_le _, Nat.zero_le _, rfl, rfl, rfl, Nat.le_refl _, hp0, hr0, hq0, World.ownsRow_nil _ _ _ _, fun _ => rfl, hb0⟩
  case round =>
    clear hs0 hb0 hp0 hr0 hq0
    obtain ⟨j, ns, v, rfl, hj, hj16, hnl, HNS, rfl, hsz, hP, hR, hQ, hown, hnil, hbr⟩ := hrel
    by_cases hlt : j < m ∧ j < 16
    · obtain ⟨z, hz⟩ : ∃ z, ps[j]? = some z := ⟨_, List.getElem?_eq_getElem (by rw [HM.out]; exact hlt.1)⟩
      obtain ⟨g, o, rfl, hc⟩ := HCE.out j z hz
      have hc2 : wr.cell? ⟨g, o + j, none⟩ = some (.int .i64 z) := by rw [hbr.cell (p := ⟨g, o + j, none⟩) (rlt hc)]; exact hc
      have HNS2 : Hid (ns ++ [low13 z] = (ps.take (j + 1)).map low13) := by show _ = _; rw [HTK.out j z hz, ← HNS.out]
      have w1 : bits BinOp.and IntKind.i64 z 8191 = (low13 z : Int) := by rw [i64_and8191]; unfold low13; omega
      have w2 : z % 8192 = (low13 z : Int) := by unfold low13; omega
      have hlow := low13_le z
      obtain ⟨N, hN⟩ : ∃ N, low13 z = N := ⟨_, rfl⟩
      rw [hN] at HNS2 w1 w2 hlow
      have HD1 := Lib.hid (fun W => HDG.out N W (by omega))
      have hdl := digit_len N (by omega)
      obtain ⟨S, hS⟩ : ∃ S, (⟨(Lib.decDigits N).toArray⟩ : ByteArray) = S := ⟨_, rfl⟩
      have hSs : S.size ≤ 4 := by rw [← hS]; exact hdl
      obtain ⟨A, hA⟩ : ∃ A, accB ns = A := ⟨_, rfl⟩
      have HAC : Hid (accB (ns ++ [N]) = if j = 0 then A ++ S else A ++ ⟨#[59]⟩ ++ S) := by
        show _ = _
        rw [← hA, ← hS]
        by_cases h0 : ns = []
        · subst h0
          rw [if_pos (by rw [← hnl]; rfl), accB_first]
          rfl
        · rw [if_neg (fun e => h0 (List.eq_nil_of_length_eq_zero (hnl.trans e))), accB_next ns N h0]
      rw [hA] at hsz ⊢
      rw [hS] at HD1
      obtain ⟨⟨_, _, _, p3⟩, _⟩ := hP.cells
      obtain ⟨⟨q0, q1, q2, q3⟩, _, _, u2, _⟩ := hQ.cells
      have j1 : (j : Int) < (m : Int) := by omega
      have j2 : (j : Int) < 16 := by omega
      have j3 : (0 : Int) ≤ (j : Int) := by omega
      clear hz hN hdl hS hA HDG HCE hc w2
      by_cases hj0 : j = 0
      · subst hj0
        rw [if_pos rfl] at HAC
        have hc0 : wr.cell? ⟨g, o, none⟩ = some (.int .i64 z) := hc2
        have hsz2 : (A ++ S).size ≤ 2 + 5 * (0 + 1) := by rw [app_size]; omega
        go_wp2_with fail
        go_fit (HD1.out _)
        rintro e w1 ⟨rfl, hb1⟩
        have hP1 := hP.below hb1
        have hR1 := hR.below hb1
        have hQ1 := hQ.below hb1
        have hown1 := ownsRow_below hown hb1
        have hbw1 := hbr.trans (hb1.mono hbr.size)
        have hsz1 : w.heap.size + 3 ≤ w1.heap.size := by have := hQ1.lt; omega
        obtain ⟨⟨q0, q1, q2, q3⟩, _, _, u2, _⟩ := hQ1.cells
        have hbA := (Below.refl w1.heap.size w1).alloc (Nat.le_refl _) (.cells #[.int .i64 (N : Int)] 3)
        have HG : Hid (∀ w3, (w1.alloc (.cells #[.int .i64 (N : Int)] 3)).grownBy w3 v.ownBlock → ∀ k, k < w.heap.size + 3 → k < w1.heap.size → w3.heap[k]? = w1.heap[k]?) := fun w3 hg k hk hk1 => by
          rw [hg.block k (by rw [World.size_alloc]; omega) (fun e => by have := (hown1.lt k e.symm).1; omega)]
          exact hbA.block k hk1
        have HQB : Hid (∀ w3, (w1.alloc (.cells #[.int .i64 (N : Int)] 3)).grownBy w3 v.ownBlock → blk4 w3 (w.heap.size + 1 + 1) (.int .i64 3) (.int .i32 0) v (.int .u8 (64 + (D : Int))) 34) := fun w3 hg => (HG.out w3 hg _ (by omega) hQ1.lt).trans hQ1
        clear hP hR hQ hown hb1 HD1 p3
        go_wp2_with (at_builtin; (refine wpList_append_own _ rfl _ _ 32 rfl (w.heap.size + 3) 3 i0 (.int .i64 0) 1 8 Tryd.underlying32 hi0 hz0 hz1 hz2 rfl (by decide) _ _ _ rfl (hown1.alloc _) ⟨w1.heap.size, 0, none⟩ 1 1 [.int .i64 (N : Int)] rfl rfl (cell_one_new _ _ _) (fun x hx => by simp at hx; subst hx; rfl) (by unfold maxLen; omega) (by omega) (by rw [World.size_alloc]; omega) ?_; intro v' w3 hown' hgrow3 hnil3; obtain ⟨na', nc', hv', _⟩ := own_row hown'; subst hv'; obtain ⟨⟨b0, b1, b2, b3⟩, _, _, c2, _⟩ := (HQB.out w3 hgrow3).cells))
        have hlt3 := HG.out w3 hgrow3
        have hP3 : blk4 w3 _ _ _ _ _ _ := (hlt3 _ (by omega) hP1.lt).trans hP1
        have hR3 : blk4 w3 _ _ _ _ _ _ := (hlt3 _ (by omega) hR1.lt).trans hR1
        have hQ3 : blk4 w3 _ _ _ _ _ _ := (hlt3 _ (by omega) hQ1.lt).trans hQ1
        have hbw3 : Below w.heap.size w w3 := Below.grown (hbw1.alloc hbw1.size _) hgrow3 (by rw [World.size_alloc]; omega) (fun k hk => by have := (hown1.lt k hk).1; omega)
        have hown3 : w3.ownsRow (w.heap.size + 3) 3 1 (.slice na' 1 nc') (ns ++ [N]).length (ints (ns ++ [N])) := by
          have h9 := hown'
          rw [hnl] at h9
          unfold ints
          rw [List.length_append, List.map_append, hnl]
          exact h9
        have hP4 := hP3.far (C := w.heap.size + 1 + 1) (i := 2) (v := (.slice na' 1 nc')) (by omega)
        have hR4 := hR3.far (C := w.heap.size + 1 + 1) (i := 2) (v := (.slice na' 1 nc')) (by omega)
        have hQ4 := hQ3.set2 (.slice na' 1 nc')
        have hown4 := ownsRow_setCell_below hown3 (a := ⟨w.heap.size + 1 + 1, 2, none⟩) (by show w.heap.size + 1 + 1 < _; omega) (.slice na' 1 nc')
        have hbw4 : Below w.heap.size w (w3.setCell ⟨w.heap.size + 1 + 1, 2, none⟩ (.slice na' 1 nc')) := KeepW.below hbw3 (keep_set (ok := fun k => k ≠ w.heap.size + 1 + 1) _ 2 none (.slice na' 1 nc') w3 (fun h => h rfl)) hbw3.size (fun k hk => by omega)
        clear hP1 hR1 hQ1 hown1 hbw1 hP3 hR3 hQ3 hbw3 hown3 hown' hgrow3 hbA hlt3 hnil3
        go_roundw
        case rel => exact ⟨0 + 1, ns ++ [N], (.slice na' 1 nc'), by go_num, by omega, by omega, by rw [List.length_append, hnl]; rfl, HNS2, by rw [HAC.out], by rw [HAC.out]; exact hsz2, hP4, hR4, hQ4, hown4, fun e => by simp at e, hbw4⟩
        case measure => first | (simp [intOf]; omega) | simp [intOf]
      · have j4 : (0 : Int) < (j : Int) := by omega
        rw [if_neg hj0] at HAC
        have e59 : (A ++ ⟨#[59]⟩).size = A.size + 1 := by rw [app_size]; rfl
        have hsz2 : (A ++ ⟨#[59]⟩ ++ S).size ≤ 2 + 5 * (j + 1) := by rw [app_size, e59]; omega
        go_wp2_with fail
        go_fit (HD1.out _)
        rintro e w1 ⟨rfl, hb1⟩
        have hP1 := hP.below hb1
        have hR1 := hR.below hb1
        have hQ1 := hQ.below hb1
        have hown1 := ownsRow_below hown hb1
        have hbw1 := hbr.trans (hb1.mono hbr.size)
        have hsz1 : w.heap.size + 3 ≤ w1.heap.size := by have := hQ1.lt; omega
        obtain ⟨⟨q0, q1, q2, q3⟩, _, _, u2, _⟩ := hQ1.cells
        have hbA := (Below.refl w1.heap.size w1).alloc (Nat.le_refl _) (.cells #[.int .i64 (N : Int)] 3)
        have HG : Hid (∀ w3, (w1.alloc (.cells #[.int .i64 (N : Int)] 3)).grownBy w3 v.ownBlock → ∀ k, k < w.heap.size + 3 → k < w1.heap.size → w3.heap[k]? = w1.heap[k]?) := fun w3 hg k hk hk1 => by
          rw [hg.block k (by rw [World.size_alloc]; omega) (fun e => by have := (hown1.lt k e.symm).1; omega)]
          exact hbA.block k hk1
        have HQB : Hid (∀ w3, (w1.alloc (.cells #[.int .i64 (N : Int)] 3)).grownBy w3 v.ownBlock → blk4 w3 (w.heap.size + 1 + 1) (.int .i64 3) (.int .i32 0) v (.int .u8 (64 + (D : Int))) 34) := fun w3 hg => (HG.out w3 hg _ (by omega) hQ1.lt).trans hQ1
        clear hP hR hQ hown hb1 HD1 p3
        go_wp2_with (at_builtin; (refine wpList_append_own _ rfl _ _ 32 rfl (w.heap.size + 3) 3 i0 (.int .i64 0) 1 8 Tryd.underlying32 hi0 hz0 hz1 hz2 rfl (by decide) _ _ _ rfl (hown1.alloc _) ⟨w1.heap.size, 0, none⟩ 1 1 [.int .i64 (N : Int)] rfl rfl (cell_one_new _ _ _) (fun x hx => by simp at hx; subst hx; rfl) (by unfold maxLen; omega) (by omega) (by rw [World.size_alloc]; omega) ?_; intro v' w3 hown' hgrow3 hnil3; obtain ⟨na', nc', hv', _⟩ := own_row hown'; subst hv'; obtain ⟨⟨b0, b1, b2, b3⟩, _, _, c2, _⟩ := (HQB.out w3 hgrow3).cells))
        have hlt3 := HG.out w3 hgrow3
        have hP3 : blk4 w3 _ _ _ _ _ _ := (hlt3 _ (by omega) hP1.lt).trans hP1
        have hR3 : blk4 w3 _ _ _ _ _ _ := (hlt3 _ (by omega) hR1.lt).trans hR1
        have hQ3 : blk4 w3 _ _ _ _ _ _ := (hlt3 _ (by omega) hQ1.lt).trans hQ1
        have hbw3 : Below w.heap.size w w3 := Below.grown (hbw1.alloc hbw1.size _) hgrow3 (by rw [World.size_alloc]; omega) (fun k hk => by have := (hown1.lt k hk).1; omega)
        have hown3 : w3.ownsRow (w.heap.size + 3) 3 1 (.slice na' (j + 1) nc') (ns ++ [N]).length (ints (ns ++ [N])) := by
          have h9 := hown'
          rw [hnl] at h9
          unfold ints
          rw [List.length_append, List.map_append, hnl]
          exact h9
        have hP4 := hP3.far (C := w.heap.size + 1 + 1) (i := 2) (v := (.slice na' (j + 1) nc')) (by omega)
        have hR4 := hR3.far (C := w.heap.size + 1 + 1) (i := 2) (v := (.slice na' (j + 1) nc')) (by omega)
        have hQ4 := hQ3.set2 (.slice na' (j + 1) nc')
        have hown4 := ownsRow_setCell_below hown3 (a := ⟨w.heap.size + 1 + 1, 2, none⟩) (by show w.heap.size + 1 + 1 < _; omega) (.slice na' (j + 1) nc')
        have hbw4 : Below w.heap.size w (w3.setCell ⟨w.heap.size + 1 + 1, 2, none⟩ (.slice na' (j + 1) nc')) := KeepW.below hbw3 (keep_set (ok := fun k => k ≠ w.heap.size + 1 + 1) _ 2 none (.slice na' (j + 1) nc') w3 (fun h => h rfl)) hbw3.size (fun k hk => by omega)
        clear hP1 hR1 hQ1 hown1 hbw1 hP3 hR3 hQ3 hbw3 hown3 hown' hgrow3 hbA hlt3 hnil3
        go_roundw
        case rel => exact ⟨j + 1, ns ++ [N], (.slice na' (j + 1) nc'), by go_num, by omega, by omega, by rw [List.length_append, hnl]; rfl, HNS2, by rw [HAC.out], by rw [HAC.out]; exact hsz2, hP4, hR4, hQ4, hown4, fun e => by simp at e, hbw4⟩
        case measure => first | (simp [intOf]; omega) | simp [intOf]
    · have HNE : Hid (ns = NP) := by
        show _ = _
        rw [HNP.out, HNS.out]
        congr 1
        by_cases hjm : j < m
        · rw [show j = 16 by omega]
        · rw [show j = m by omega, ← HM.out, List.take_of_length_le (Nat.le_refl _), List.take_of_length_le (by rw [HM.out]; omega)]
      have HSB : Hid (SB = accB ns ++ oneB (64 + D)) := by
        show _ = _
        rw [accB_last, HNE.out]
        exact HSB0.out
      have hnum : NumsW (FromP (w.heap.size + 3)) wr v ns := ⟨own_row hown, hnil⟩
      obtain ⟨va, vc, hv, _⟩ := hnum.1
      subst hv
      obtain ⟨⟨_, _, _, p3⟩, _⟩ := hP.cells
      obtain ⟨⟨q0, q1, q2, q3⟩, _⟩ := hQ.cells
      obtain ⟨⟨r0, r1, r2, r3⟩, t0, t1, t2, t3⟩ := hR.cells
      have e4 : (oneB (64 + D)).size = 1 := rfl
      obtain ⟨A, hA⟩ : ∃ A, accB ns = A := ⟨_, rfl⟩
      rw [hA] at hsz HSB ⊢
      have hsl : ∀ W, (Op.stringOp .add A (oneB (64 + D))).run Tryd.prog W = .ok (.string (A ++ oneB (64 + D))) W := fun W => run_string_add_sum W _ _ (by rw [e4]; omega)
      have cv := convP_new [64 + (D : Int)] wr
      simp only [List.map_cons, List.map_nil, List.length_cons, List.length_nil, Nat.zero_add] at cv
      rw [show strOfNums [64 + (D : Int)] = oneB (64 + D) from rfl] at cv
      have cv2 : (convert 46 9 (.slice (some ⟨wr.heap.size, 0, none⟩) 1 1)).run Tryd.prog (wr.alloc (.cells #[.int .u8 (64 + (D : Int))] 5)).drew = .ok (.string (oneB (64 + D))) (wr.alloc (.cells #[.int .u8 (64 + (D : Int))] 5)).drew := by
        have := convP_drew (64 + D) wr
        rwa [hcast] at this
      have hbx := (Below.refl wr.heap.size wr).alloc (Nat.le_refl _) (.cells #[.int .u8 (64 + (D : Int))] 5)
      obtain ⟨⟨f0, f1, f2, f3⟩, g0, g1, g2, g3⟩ := (hR.below hbx).cells
      obtain ⟨⟨d0, d1, d2, d3⟩, _⟩ := (hQ.below hbx).cells
      have hnum2 : NumsW (FromP (w.heap.size + 3)) wr (.slice va j vc) ns := by rw [← hnl]; exact hnum
      obtain ⟨⟨y0, y1, y2, y3⟩, _⟩ := ((hR.below hbx).all (.int .i64 3) (.int .i32 0) (.slice va j vc) (.int .u8 (64 + (D : Int)))).cells
      have kp : KeepW (fun k => k ≠ w.heap.size + 1) (wr.alloc (.cells #[.int .u8 (64 + (D : Int))] 5)) ((((((wr.alloc (.cells #[.int .u8 (64 + (D : Int))] 5)).setCell ⟨w.heap.size + 1, 0, none⟩ (.int .i64 3)).setCell ⟨w.heap.size + 1, 1, none⟩ (.int .i32 0)).setCell ⟨w.heap.size + 1, 2, none⟩ (.slice va j vc)).setCell ⟨w.heap.size + 1, 3, none⟩ (.int .u8 (64 + (D : Int)))).drew) :=
        ((((keep_set _ 0 none _ _ (fun h => h rfl)).trans (keep_set _ 1 none _ _ (fun h => h rfl))).trans (keep_set _ 2 none _ _ (fun h => h rfl))).trans (keep_set _ 3 none _ _ (fun h => h rfl))).trans (keep_drew _ _)
      have HX : Hid (NumsW (FromP w.heap.size) ((((((wr.alloc (.cells #[.int .u8 (64 + (D : Int))] 5)).setCell ⟨w.heap.size + 1, 0, none⟩ (.int .i64 3)).setCell ⟨w.heap.size + 1, 1, none⟩ (.int .i32 0)).setCell ⟨w.heap.size + 1, 2, none⟩ (.slice va j vc)).setCell ⟨w.heap.size + 1, 3, none⟩ (.int .u8 (64 + (D : Int)))).drew) (.slice va j vc) NP ∧ Below w.heap.size w ((((((wr.alloc (.cells #[.int .u8 (64 + (D : Int))] 5)).setCell ⟨w.heap.size + 1, 0, none⟩ (.int .i64 3)).setCell ⟨w.heap.size + 1, 1, none⟩ (.int .i32 0)).setCell ⟨w.heap.size + 1, 2, none⟩ (.slice va j vc)).setCell ⟨w.heap.size + 1, 3, none⟩ (.int .u8 (64 + (D : Int)))).drew)) := by
        have hbwx := hbr.trans (hbx.mono hbr.size)
        refine ⟨?_, KeepW.below hbwx kp hbwx.size (fun k hk => by omega)⟩
        rw [← HNE.out]
        exact (((hnum2.keep (keep_below _ hbx)).keep (kp.mono fun k _ hk => by have h : w.heap.size + 3 ≤ k := hk; show k ≠ w.heap.size + 1; omega))).mono fun k _ hk => by have h : w.heap.size + 3 ≤ k := hk; show w.heap.size ≤ k; omega
      by_cases hjm : j < m
      · have j1 : (j : Int) < (m : Int) := by omega
        have j2 : (16 : Int) ≤ (j : Int) := by omega
        clear kp
        clear hA HNS HTK HCE HDG HFP
        go_wp2_with fail
        go_region
        all_goals
          clear f0 f1 f2 f3 g0 g1 g2 g3 d0 d1 d2 d3 cv cv2 hsl
          go_wp2_with fail
          exact bodyPost_ret (v := .tuple #[.string (A ++ oneB (64 + D)), .agg #[.int .i64 3, .int .i32 0, .slice va j vc, .int .u8 (64 + (D : Int))]]) (by simp [results, Tryd.results12, go_sem, y0, y1, y2, y3]) rfl ⟨_, by rw [HSB.out], HX.out⟩
      · have j1 : (m : Int) ≤ (j : Int) := by omega
        clear kp
        clear hA HNS HTK HCE HDG HFP
        go_wp2_with fail
        go_region
        all_goals
          clear f0 f1 f2 f3 g0 g1 g2 g3 d0 d1 d2 d3 cv cv2 hsl
          go_wp2_with fail
          exact bodyPost_ret (v := .tuple #[.string (A ++ oneB (64 + D)), .agg #[.int .i64 3, .int .i32 0, .slice va j vc, .int .u8 (64 + (D : Int))]]) (by simp [results, Tryd.results12, go_sem, y0, y1, y2, y3]) rfl ⟨_, by rw [HSB.out], HX.out⟩
end Go.Proofs.YtbpnnnjbddjboaaDoor
