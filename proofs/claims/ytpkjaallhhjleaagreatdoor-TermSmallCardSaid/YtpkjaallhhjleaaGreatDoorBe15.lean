/-
  Texts of this proof, one behind the other; each begins with its own remark.
-/
import Derived.Laws.CopyOwn
import Derived.Deep.RegionLaw
import Derived.IntWalk
import Derived.Test.YtpkjaallhhjleaaGreatDoorBe14
import Derived.Test.YtpkjaallhhjleaaGreatDoorBe6
import Derived.Test.YtpkjaallhhjleaaGreatDoorBe13
/-
  copy of cells into a block known whole, as a law of the walk: in a plain region; at a step of a region that draws its order. No call is walked here.
-/
namespace Go.Proofs.YtpkjaallhhjleaaGreatDoor
open Go.RowKit

theorem splice6 (M : List Cel) (zs : List Value) (l : List Cel) (p : Nat) (h : p + l.length ≤ M.length) : (celC M ++ zs).take (p * 6) ++ celC l ++ (celC M ++ zs).drop (p * 6 + (celC l).length) = celC (M.take p ++ l ++ M.drop (p + l.length)) ++ zs := by
  have hl := celC_len M
  rw [List.take_append_of_le_length (by omega), celC_take, celC_len, show p * 6 + l.length * 6 = (p + l.length) * 6 by omega, List.drop_append_of_le_length (by omega), celC_drop, celC_app, celC_app]
  simp [List.append_assoc]
theorem run_copy6 {ok : Nat → Prop} {w : World} {B p dLen dCap sLen sCap k : Nat} {so : Option Addr} {M l : List Cel} {zs : List Value} (ty : TypeId) (hM : blkL w B M zs) (hS : CelsW ok w (.slice so sLen sCap) l) (hl : l.length = sLen) (hk : Nat.min sLen dLen = k) (h0 : 0 < k) (hfit : p + k ≤ M.length) :
    ∃ w', (Builtin.copy_ #[33, 33] ty #[.slice (some ⟨B, p * 6, none⟩) dLen dCap, .slice so sLen sCap]).run Tryz.prog w = .ok (goInt k) w' ∧ blkL w' B (M.take p ++ l.take k ++ M.drop (p + k)) zs ∧ KeepW (fun j => j ≠ B) w w' := by
  obtain ⟨i, hi, _, hz1, _⟩ := info_parts Tryz.infoCell
  have hkl : (l.take k).length = k := by
    have : k ≤ sLen := by rw [← hk]; exact Nat.min_le_left _ _
    rw [List.length_take]; omega
  have hkc : (celC (l.take k)).length = k * i.size := by rw [celC_len, hkl, hz1]
  obtain ⟨c, hc⟩ : ∃ c, l[0]? = some c := ⟨_, List.getElem?_eq_getElem (by rw [List.length_take] at hkl; omega)⟩
  obtain ⟨g, o, _, he, _, _, hcell⟩ := RowV.at_ hS ((celC_at l 0 c hc 0 (by omega)).trans rfl)
  injection he with e1 e2 e3
  subst e1
  have hf : (Builtin.firstCells i.size k (.slice (some ⟨g, o, none⟩) sLen sCap)).run Tryz.prog w = .ok (celC (l.take k)).toArray w := by
    refine run_firstCells_some w i.size k ⟨g, o, none⟩ sLen sCap (celC (l.take k)) hkc fun j x hx => ?_
    rw [rlit]
    refine hcell j x ?_
    rw [← celC_take, List.getElem?_take] at hx
    split at hx
    · exact hx
    · cases hx
  have hst := run_storeCells_at Tryz.prog B (p * 6) 82 (celC (l.take k)) 0 _ w hM (by simp only [List.size_toArray, List.length_append, celC_len, hkl]; omega) (celC_cell _)
  rw [show (celC M ++ zs).toArray.toList = celC M ++ zs by simp, Nat.add_zero, splice6 M zs (l.take k) p (by rw [hkl]; exact hfit), hkl] at hst
  refine ⟨_, ?_, setRow_heap w B _ _ _ _ hM, rfl, rfl, rfl, by simp [World.setRow], fun j _ hj => setRow_other w B j _ hj⟩
  have hmin : min sLen dLen = k := hk
  simp [Builtin.copy_, run_underlying Tryz.underlying33, Builtin.lenOf, sizeOf, typeInfo, hi, hmin, hf, hst]

theorem wpList_copy6 {ok : Nat → Prop} {w : World} {ops : Array Oper} {rest : List Oper} {o : Oper} {a : Act} {Q : Exit → Act → World → Prop} {B p dLen dCap sLen sCap k : Nat} {so : Option Addr} {M l : List Cel} {zs : List Value} (hgd : o.guard = none) (d s : Operand)
    (ho : o.op = .call { callee := .builtin .copy, args := #[d, s], argTypes := #[33, 33] }) (hd : a.eval d = .slice (some ⟨B, p * 6, none⟩) dLen dCap) (hs : a.eval s = .slice so sLen sCap)
    (hM : blkL w B M zs) (hS : CelsW ok w (.slice so sLen sCap) l) (hl : l.length = sLen) (hk : Nat.min sLen dLen = k) (h0 : 0 < k) (hfit : p + k ≤ M.length)
    (h : ∀ w', Hid (blkL w' B (M.take p ++ l.take k ++ M.drop (p + k)) zs) → Hid (KeepW (fun j => j ≠ B) w w') → wpList Tryz.prog ops Q rest (a.put o.dst (goInt k)) w') :
    wpList Tryz.prog ops Q (o :: rest) a w := by
  obtain ⟨w', hr, h1, h2⟩ := run_copy6 o.type hM hS hl hk h0 hfit
  refine wpList_plain hgd fun K hK => ?_
  unfold Oper.wp
  unfold execOp
  simp only [ho, resolve, invoke, builtin, Sem.run_bind, Sem.run_pure, Result.andThen_ok, List.map_toArray, List.map_cons, List.map_nil, hd, hs]
  erw [hr]
  exact hK _ _ (h w' h1 h2)
theorem step_copy6 {ok : Nat → Prop} {w : World} {ops : Array Oper} {o : Oper} {a : Act} {K : Act → World → Prop} {Q : Exit → Act → World → Prop} {E : Prop} {B p dLen dCap sLen sCap k : Nat} {so : Option Addr} {M l : List Cel} {zs : List Value} (hgd : o.guard = none) (d s : Operand)
    (ho : o.op = .call { callee := .builtin .copy, args := #[d, s], argTypes := #[33, 33] }) (hd : a.eval d = .slice (some ⟨B, p * 6, none⟩) dLen dCap) (hs : a.eval s = .slice so sLen sCap)
    (hM : blkL w B M zs) (hS : CelsW ok w (.slice so sLen sCap) l) (hl : l.length = sLen) (hk : Nat.min sLen dLen = k) (h0 : 0 < k) (hfit : p + k ≤ M.length)
    (h : ∀ w', Hid (blkL w' B (M.take p ++ l.take k ++ M.drop (p + k)) zs) → Hid (KeepW (fun j => j ≠ B) w w') → K (a.put o.dst (goInt k)) w') :
    if Region.wanted o (yielded ops a.tmps) = true then Oper.wp Tryz.prog o a w K Q else E := by
  have hw : Region.wanted o (yielded ops a.tmps) = true := by simp [Region.wanted, hgd]
  rw [if_pos hw]
  obtain ⟨w', hr, h1, h2⟩ := run_copy6 o.type hM hS hl hk h0 hfit
  unfold Oper.wp
  unfold execOp
  simp only [ho, resolve, invoke, builtin, Sem.run_bind, Sem.run_pure, Result.andThen_ok, List.map_toArray, List.map_cons, List.map_nil, hd, hs]
  erw [hr]
  exact h w' h1 h2
end Go.Proofs.YtpkjaallhhjleaaGreatDoor

/-
  slices.Repeat of one cell: what it returns, and lays.
-/
namespace Go.Proofs.YtpkjaallhhjleaaGreatDoor
open Go.RowKit

def zeroC : Cel := (0, 0, 0, false, false, false)
/-- k cells of one kind, then zeros. -/
def fillL (c : Cel) (N k : Nat) : List Cel := List.replicate k c ++ List.replicate (N - k) zeroC
theorem fill_len (c : Cel) (N k : Nat) (h : k ≤ N) : (fillL c N k).length = N := by unfold fillL; simp; omega
theorem fill_step (c : Cel) (N k j : Nat) (h : k + j ≤ N) : (fillL c N k).take k ++ List.replicate j c ++ (fillL c N k).drop (k + j) = fillL c N (k + j) := by
  unfold fillL
  rw [List.take_append_of_le_length (by simp), List.drop_append, List.take_of_length_le (by simp), List.drop_of_length_le (by simp), List.nil_append, List.length_replicate, List.drop_replicate, List.replicate_append_replicate]
  congr 2; omega

def AnyD (W : World) : Prop := W.drawn = W.drawn
theorem AnyD.mk (W : World) : AnyD W := rfl
theorem made_cells (N : Nat) : madeCells (.agg #[.int .i32 0, .int .i64 0, .int .i64 0, .bool false, .bool false, .bool false] : Value).cells (N * 6) = (celC (List.replicate N zeroC)).toArray := by
  apply Array.ext'
  apply List.ext_getElem?
  intro j
  unfold madeCells
  rw [Array.toList_map, Array.toList_range, List.getElem?_map]
  by_cases hj : j < N * 6
  · rw [List.getElem?_range hj, Option.map_some]
    have hi : j / 6 < N := by omega
    have hc : (List.replicate N zeroC)[j / 6]? = some zeroC := by rw [List.getElem?_replicate, if_pos hi]
    have := celC_at _ _ _ hc (j % 6) (by omega)
    rw [show j / 6 * 6 + j % 6 = j by omega] at this
    rw [this]
    have h6 : j % 6 = 0 ∨ j % 6 = 1 ∨ j % 6 = 2 ∨ j % 6 = 3 ∨ j % 6 = 4 ∨ j % 6 = 5 := by omega
    have hsz : (Value.agg #[.int .i32 0, .int .i64 0, .int .i64 0, .bool false, .bool false, .bool false] : Value).cells.size = 6 := rfl
    rw [hsz]
    rcases h6 with h | h | h | h | h | h <;> (rw [h]; rfl)
  · rw [List.getElem?_eq_none (by simp; omega), List.getElem?_eq_none (by simp [celC_len]; omega)]; rfl
theorem make_cells (N : Nat) (hN : N ≤ 20000) (w : World) : (Instr.makeSlice 33 (.int .i64 (N : Int)) (.int .i64 (N : Int))).run Tryz.prog w = .ok (.slice (some ⟨w.heap.size, 0, none⟩) N N) (w.alloc (.cells (celC (List.replicate N zeroC)).toArray 82)) := by
  obtain ⟨i, hi, hz0, hz1, hz2⟩ := info_parts Tryz.infoCell
  have hr := run_make (P := Tryz.prog) w 33 82 i _ Tryz.underlying33 hi hz0 .i64 .i64 (N : Int) (N : Int) (by omega) (Int.le_refl _) (by rw [hz2]; omega) (by omega)
  simp only [Int.toNat_natCast, hz1] at hr
  rw [made_cells] at hr
  exact hr

set_option maxRecDepth 100000 in
set_option maxHeartbeats 4000000 in
theorem repeat_any {ok : Nat → Prop} {so : Option Addr} {cap : Nat} (c : Cel) (N : Nat) (w : World) (hS : CelsW ok w (.slice so 1 cap) [c]) (h0 : 0 < N) (hN : N ≤ 20000) :
    Calls Tryz.prog 50 #[.slice so 1 cap, .int .i64 (N : Int)] w fun e w' => e = .returned (.slice (some ⟨w.heap.size, 0, none⟩) N N) ∧ blkL w' w.heap.size (List.replicate N c) [] ∧ Below w.heap.size w w' := by
  have HM := Lib.hid (fun w => mul_one N w (by omega))
  have hmk := make_cells N hN
  obtain ⟨Z, hZ⟩ : ∃ Z, (celC (List.replicate N zeroC)).toArray = Z := ⟨_, rfl⟩
  rw [hZ] at hmk
  have H1 : Hid (blkL (w.alloc (.cells Z 82)) w.heap.size (fillL c N 0) [] ∧ CelsW ok (w.alloc (.cells Z 82)) (.slice so 1 cap) [c]) := by
    refine ⟨?_, hS.below ((Below.refl _ _).alloc (Nat.le_refl _) _)⟩
    rw [← hZ]
    have := heap_alloc_new w (.cells (celC (List.replicate N zeroC)).toArray 82)
    unfold blkL fillL
    rw [List.append_nil, List.replicate_zero, List.nil_append, Nat.sub_zero]
    exact this
  have hbA : Below w.heap.size w (w.alloc (.cells Z 82)) := (Below.refl _ _).alloc (Nat.le_refl _) _
  have HL0 := Lib.hid (fill_len c N 0 (Nat.zero_le _))
  have i1 : (N : Int) ≤ 20000 := by omega
  have i2 : (0 : Int) < (N : Int) := by omega
  have HF := Lib.hid (fun k j h => fill_step c N k j h)
  clear hS hZ
  go_enter Tryz.func50, Tryz.ntmps50
  go_wp2_with fail
  go_fit (HM.out _)
  rintro e w2 ⟨rfl, rfl⟩
  go_wp2_with (refine wpList_copy6 (o := ⟨some 33, _, _, _, _, _⟩) (p := 0) (k := 1) rfl (.tmp 31) (.tmp 32) rfl (by rfl) (by rfl) H1.out.1 H1.out.2 rfl (show min 1 N = 1 by omega) (by omega) (by rw [HL0.out]; omega) ?_; intro w3 hg3 hk3)
  rw [show ([c] : List Cel).take 1 = List.replicate 1 c from rfl, fill_step c N 0 1 (by omega)] at hg3
  have hb3 : Below w.heap.size w w3 := KeepW.below hbA hk3.out (by rw [World.size_alloc]; omega) (fun k hk => by omega)
  clear H1 hk3 hmk
  go_loopw [8] (fun s8 wr => ∃ k : Nat, s8 = .int .i64 (k : Int) ∧ 1 ≤ k ∧ k ≤ N ∧ Hid (blkL wr w.heap.size (fillL c N k) []) ∧ Below w.heap.size w wr) (fun s8 _ => N - (intOf s8).toNat)
  case atStart => exact ⟨1, rfl, Nat.le_refl _, by omega, hg3, hb3⟩
  case round =>
    obtain ⟨k, rfl, hk1, hk, HB, hbw⟩ := hrel
    clear hg3 hb3
    by_cases hlt : k < N
    · obtain ⟨j, hj⟩ : ∃ j, min k (N - k) = j := ⟨_, rfl⟩
      have hT : Hid ((fillL c N k).take k = List.replicate k c) := by
        show _ = _
        unfold fillL
        rw [List.take_append_of_le_length (by simp), List.take_of_length_le (by simp)]
      have hlen := Lib.hid (fill_len c N k hk)
      have HS : Hid (CelsW AnyB wr (.slice (some ⟨w.heap.size, 0, none⟩) k N) (List.replicate k c)) := by
        have := HB.out.part (ok := AnyB) (a := 0) (n := k) (cap := N) trivial (by rw [hlen.out]; omega) hk
        rw [List.drop_zero, hT.out] at this
        show CelsW _ _ _ _
        simpa using this
      have HJ := Lib.hid hj
      obtain ⟨z, hz⟩ : ∃ z, k + j = z := ⟨_, rfl⟩
      have HF2 : Hid ((fillL c N k).take k ++ (List.replicate k c).take j ++ (fillL c N k).drop (k + j) = fillL c N z) := by
        show _ = _
        rw [List.take_replicate, Nat.min_eq_left (by omega), HF.out k j (by omega), hz]
      have hz1 : 1 ≤ z := by omega
      have hzN : z ≤ N := by omega
      have HZ : Hid (N - z < N - k) := by show _ < _; omega
      have hj0 : 0 < j := by omega
      have hjk : k + j ≤ N := by omega
      have j1 : (k : Int) ≤ (N : Int) := by omega
      have j2 : (0 : Int) ≤ (k : Int) := by omega
      have j3 : (k : Int) < (N : Int) := by omega
      have j5 : ¬ N = k := by omega
      have j4 : IntKind.i64.wrap ((k : Int) + (j : Int)) = (z : Int) := by
        rw [IntWalk.i64_in _ (by omega)]; omega
      clear hj HF hz
      go_wp2
      go_region_held3 AnyD (first | exact AnyD.mk _ | go_keep)
        ((refine step_copy6 (w := wr.drew) (p := k) (k := j) (by rfl) (.tmp 41) (.tmp 44) (by rfl) (by rfl) (by rfl) (M := fillL c N k) (zs := []) HB.out HS.out (by simp) (show min k (N - k) = j from HJ.out) hj0 (by rw [hlen.out]; omega) ?_; intro w4 hg4 hk4))
      all_goals
        rw [HF2.out] at hg4
        have hb4 : Below w.heap.size w w4 := KeepW.below (b := wr) hbw ((keep_drew _ wr).trans hk4.out) hbw.size (fun k hk => by show k ≠ w.heap.size; omega)
        clear hk4 HB HS
        go_wp2
        go_roundw
        case rel => exact ⟨z, rfl, hz1, hzN, hg4, hb4⟩
        case measure => simp [intOf]; exact HZ.out
    · obtain rfl : k = N := by omega
      have HE : Hid (blkL wr w.heap.size (List.replicate k c) []) := by
        have := HB.out
        unfold fillL at this
        rw [Nat.sub_self, List.replicate_zero, List.append_nil] at this
        exact this
      go_wp2
      go_ret
      exact ⟨rfl, HE.out, hbw⟩

end Go.Proofs.YtpkjaallhhjleaaGreatDoor

/-
  grids.New: what it returns, and lays.
-/
namespace Go.Proofs.YtpkjaallhhjleaaGreatDoor
open Go.RowKit

/-- A row of one cell that a literal lays. -/
theorem one_cell {w : World} (c : Cel) : CelsW AnyB (w.alloc (.cells #[.int .i32 c.1, .int .i64 c.2.1, .int .i64 c.2.2.1, .bool c.2.2.2.1, .bool c.2.2.2.2.1, .bool c.2.2.2.2.2] 82)) (.slice (some ⟨w.heap.size, 0, none⟩) 1 1) [c] := by
  refine ⟨_, 1, rfl, Nat.le_refl _, fun _ _ => trivial, fun j u hu => ⟨_, 0, rfl, ?_⟩⟩
  rw [celC_one] at hu
  rw [cell_of_row _ _ _ _ _ _ (heap_alloc_new w _), Nat.zero_add, ← Array.getElem?_toList]
  exact hu
set_option maxHeartbeats 1000000 in
theorem gnew_bad (r c : Int) (w : World) (hb : sizedB r c = false) :
    Calls Tryz.prog 26 #[.int .i64 r, .int .i64 c] w fun e w' => e = .returned (.tuple #[.agg #[.int .i64 0, .int .i64 0, .slice none 0 0, .int .i64 0, .int .i64 0], .int .i64 2]) ∧ Below w.heap.size w w' := by
  have H := Lib.hid (fun w => sized_any r c w)
  rw [hb] at H
  clear hb
  go_enter Tryz.func26, Tryz.ntmps26
  go_wp2_with fail
  go_fit (H.out _)
  rintro e w2 ⟨rfl, rfl⟩
  go_wp2
  exact bodyPost_ret (v := .tuple #[.agg #[.int .i64 0, .int .i64 0, .slice none 0 0, .int .i64 0, .int .i64 0], .int .i64 2]) (by simp [results, Tryz.results26, go_sem]) rfl ⟨rfl, (Below.refl _ w).alloc (Nat.le_refl _) _⟩
set_option maxHeartbeats 2000000 in
theorem gnew_any (m n : Nat) (w : World) (hm : 2 ≤ m ∧ m ≤ 100) (hn : 8 ≤ n ∧ n ≤ 200) (hL : BlankW w) :
    Calls Tryz.prog 26 #[.int .i64 (m : Int), .int .i64 (n : Int)] w fun e w' => ∃ g, e = .returned (.tuple #[.agg #[.int .i64 (m : Int), .int .i64 (n : Int), .slice (some ⟨g, 0, none⟩) (m * n) (m * n), .int .i64 0, .int .i64 0], .int .i64 0]) ∧ NewL w w' g (List.replicate (m * n) blkC) ∧ Below w.heap.size w w' := by
  have H := Lib.hid (fun w => sized_any (m : Int) (n : Int) w)
  rw [(sizedB_iff _ _).2 (by omega)] at H
  have hmul : (m : Int) * (n : Int) = ((m * n : Nat) : Int) := by rw [Int.natCast_mul]
  have hle : m * n ≤ 20000 := Nat.mul_le_mul hm.2 hn.2
  have hpos : 0 < m * n := Nat.mul_pos (by omega) (by omega)
  obtain ⟨N, hN⟩ : ∃ N, m * n = N := ⟨_, rfl⟩
  rw [hN] at hmul hle hpos ⊢
  obtain ⟨b0, b1, b2, b3, b4, b5⟩ := hL.2
  simp only [blkC, Nat.zero_add] at b0 b1 b2 b3 b4 b5
  have hg := hL.1
  have HR : Hid (∀ W g, W.heap.size = g → Calls Tryz.prog 50 #[.slice (some ⟨g, 0, none⟩) 1 1, .int .i64 (N : Int)] (W.alloc (.cells #[.int .i32 32, .int .i64 1, .int .i64 0, .bool false, .bool false, .bool false] 82)) fun e w' => e = .returned (.slice (some ⟨g + 1, 0, none⟩) N N) ∧ blkL w' (g + 1) (List.replicate N blkC) [] ∧ Below W.heap.size W w') := fun W g hW => by
    subst hW
    have := repeat_any blkC N (W.alloc (.cells #[.int .i32 32, .int .i64 1, .int .i64 0, .bool false, .bool false, .bool false] 82)) (one_cell (w := W) blkC) hpos hle
    rw [World.size_alloc] at this
    exact this.mono fun e w' ⟨k1, k2, k3⟩ => ⟨k1, k2, ((Below.refl _ W).alloc (Nat.le_refl _) _).trans (k3.mono (by omega))⟩
  have i1 : (m : Int) ≤ 100 := by omega
  have i2 : (n : Int) ≤ 200 := by omega
  have i3 : (0 : Int) ≤ (m : Int) := by omega
  have i4 : (0 : Int) ≤ (n : Int) := by omega
  have i5 : (N : Int) ≤ 20000 := by omega
  clear hL hN
  go_enter Tryz.func26, Tryz.ntmps26
  go_wp2_with fail
  go_fit (H.out _)
  rintro e w2 ⟨rfl, rfl⟩
  go_wp2_with fail
  go_fit (HR.out _ (w.heap.size + 1) (size_alloc _ _))
  rintro e w3 ⟨rfl, hg3, hb3⟩
  have hB := (frB.new (r := 0) (c := 0) (v := .slice none 0 0) (a := 0) (b := 0) w).below hb3 (by rw [World.size_alloc]; omega)
  obtain ⟨⟨d0, d1, d2, d3, d4⟩, f0, f1, f2, f3, f4⟩ := hB.cells
  have HE := Lib.hid (hB.all (r' := (m : Int)) (c' := (n : Int)) (v' := .slice (some ⟨w.heap.size + 1 + 1, 0, none⟩) N N) (a' := 0) (b' := 0))
  have HK : Hid (NewL w (set5 w3 w.heap.size (m : Int) (n : Int) (.slice (some ⟨w.heap.size + 1 + 1, 0, none⟩) N N) 0 0) (w.heap.size + 1 + 1) (List.replicate N blkC) ∧ Below w.heap.size w (set5 w3 w.heap.size (m : Int) (n : Int) (.slice (some ⟨w.heap.size + 1 + 1, 0, none⟩) N N) 0 0)) := by
    have b1 : Below w.heap.size w w3 := ((Below.refl _ w).alloc (Nat.le_refl _) _).trans (hb3.mono (by rw [World.size_alloc]; omega))
    exact ⟨⟨[], by omega, hg3.keep (set5_keep (ok := fun k => k ≠ w.heap.size) _ _ _ _ _ _ _ fun k => k rfl) (by show _ ≠ _; omega)⟩, KeepW.below b1 (set5_keep (ok := fun k => k ≠ w.heap.size) _ _ _ _ _ _ _ fun k => k rfl) b1.size (fun k hk => by omega)⟩
  have hlt : w.heap.size < w3.heap.size := hB.lt
  clear hB hg3 hb3 HR H b0 b1 b2 b3 b4 b5
  go_wp2
  obtain ⟨⟨y0, y1, y2, y3, y4⟩, _⟩ := HE.out.cells
  exact bodyPost_ret (v := .tuple #[.agg #[.int .i64 (m : Int), .int .i64 (n : Int), .slice (some ⟨w.heap.size + 1 + 1, 0, none⟩) N N, .int .i64 0, .int .i64 0], .int .i64 0]) (by unfold set5 at y0 y1 y2 y3 y4; simp [results, Tryz.results26, go_sem, y0, y1, y2, y3, y4]) rfl ⟨_, rfl, HK.out.1, HK.out.2⟩
end Go.Proofs.YtpkjaallhhjleaaGreatDoor
