/-
  Texts of this proof, one behind the other; each begins with its own remark.
-/
import Derived.Deep.DeepFit
import Derived.Deep.AppendLies
import Derived.Deep.RegionLaw
import Derived.Test.YtpkjaallhhjleaaGreatDoorBe14
import Derived.Test.YtpkjaallhhjleaaGreatDoorBe13
/-
  limnerref06.New: what it returns, and lays.
-/
namespace Go.Proofs.YtpkjaallhhjleaaGreatDoor
open Go.RowKit

set_option maxHeartbeats 1000000 in
theorem rnew_bad (r c : Int) (w : World) (hb : sizedB r c = false) :
    Calls Tryz.prog 27 #[.int .i64 r, .int .i64 c] w fun e w' => e = .returned (.tuple #[.agg #[.int .i64 0, .int .i64 0, .slice none 0 0, .int .i64 0, .int .i64 0], .int .i64 2]) ∧ Below w.heap.size w w' := by
  have H := Lib.hid (fun w => may_any r c w)
  rw [hb] at H
  clear hb
  go_enter Tryz.func27, Tryz.ntmps27
  go_wp2_with fail
  go_fit (H.out _)
  rintro e w2 ⟨rfl, rfl⟩
  go_wp2
  exact bodyPost_ret (v := .tuple #[.agg #[.int .i64 0, .int .i64 0, .slice none 0 0, .int .i64 0, .int .i64 0], .int .i64 2]) (by simp [results, Tryz.results27, go_sem]) rfl ⟨rfl, (Below.refl _ w).alloc (Nat.le_refl _) _⟩

/-- Between two rounds: the frame's box, its cells so far. -/
structure RnI (w : World) (m n : Nat) (i : Nat) (v : Value) (W : World) : Prop where
  below : Below w.heap.size w W
  res : frB W w.heap.size 0 0 (.slice none 0 0) 0 0
  fr : frB W (w.heap.size + 1) (m : Int) (n : Int) v 0 0
  row : W.ownsRow (w.heap.size + 2) 82 6 v i (celC (List.replicate i blkC))

theorem own_below {w w' : World} {B e size n : Nat} {v : Value} {xs : List Value} (h : w.ownsRow B e size v n xs) (hb : Below w.heap.size w w') : w'.ownsRow B e size v n xs := by
  refine ⟨h.1, ?_⟩
  rcases h.2 with h0 | ⟨g, cap, cur, hv, hg0, hg, rest⟩
  · exact .inl h0
  · exact .inr ⟨g, cap, cur, hv, hg0, (hb.block g (Array.getElem?_eq_some_iff.1 hg).1).trans hg, rest⟩
/-- A row of cells of the call's own: its block known whole. -/
theorem own_blk {w : World} {base n : Nat} {v : Value} {L : List Cel} (h : w.ownsRow base 82 6 v n (celC L)) (h0 : 0 < n) : ∃ g c zs, v = .slice (some ⟨g, 0, none⟩) n c ∧ n ≤ c ∧ base ≤ g ∧ blkL w g L zs := by
  rcases h.2 with h1 | ⟨g, cap, cur, hv, hg0, hg, hn, _, _, ht⟩
  · omega
  · refine ⟨g, cap, cur.toList.drop (n * 6), hv, hn, hg0, ?_⟩
    unfold blkL
    rw [← ht, List.take_append_drop]
    exact hg
theorem own_keep {W W' : World} {ok : Nat → Prop} {B e size n : Nat} {v : Value} {xs : List Value} (h : W.ownsRow B e size v n xs) (hk : KeepW ok W W') (hok : ∀ k, v.ownBlock = some k → ok k) : W'.ownsRow B e size v n xs := by
  refine ⟨h.1, ?_⟩
  rcases h.2 with h0 | ⟨g, cap, cur, hv, hg0, hg, rest⟩
  · exact .inl h0
  · subst hv
    exact .inr ⟨g, cap, cur, rfl, hg0, (hk.same g (Array.getElem?_eq_some_iff.1 hg).1 (hok g rfl)).trans hg, rest⟩

set_option maxRecDepth 100000 in
set_option maxHeartbeats 4000000 in
theorem rnew_any (m n : Nat) (w : World) (hm : 2 ≤ m ∧ m ≤ 100) (hn : 8 ≤ n ∧ n ≤ 200) :
    Calls Tryz.prog 27 #[.int .i64 (m : Int), .int .i64 (n : Int)] w fun e w' => ∃ g c, e = .returned (.tuple #[.agg #[.int .i64 (m : Int), .int .i64 (n : Int), .slice (some ⟨g, 0, none⟩) (m * n) c, .int .i64 0, .int .i64 0], .int .i64 0]) ∧ m * n ≤ c ∧ NewL w w' g (List.replicate (m * n) blkC) ∧ Below w.heap.size w w' := by
  have H := Lib.hid (fun w => may_any (m : Int) (n : Int) w)
  rw [(sizedB_iff _ _).2 (by omega)] at H
  have hmul : (m : Int) * (n : Int) = ((m * n : Nat) : Int) := by rw [Int.natCast_mul]
  have hle : m * n ≤ 20000 := Nat.mul_le_mul hm.2 hn.2
  obtain ⟨N, hN⟩ : ∃ N, m * n = N := ⟨_, rfl⟩
  rw [hN] at hmul hle ⊢
  have i1 : (m : Int) ≤ 100 := by omega
  have i2 : (n : Int) ≤ 200 := by omega
  have i3 : (0 : Int) ≤ (m : Int) := by omega
  have i4 : (0 : Int) ≤ (n : Int) := by omega
  have i5 : (N : Int) ≤ 20000 := by omega
  have h0N : 0 < N := by rw [← hN]; exact Nat.mul_pos (by omega) (by omega)
  have HB := Lib.hid (fun w => blank_any w)
  obtain ⟨i0, hi0, hz0, hz1, hz2⟩ := info_parts Tryz.infoCell
  have HI0 := Lib.hid hi0
  have HZ0 := Lib.hid hz0
  have HZ1 := Lib.hid hz1
  have HZ2 := Lib.hid hz2
  have H0 : Hid (RnI w m n 0 (.slice none 0 0) ((w.alloc (.cells #[.int .i64 0, .int .i64 0, .slice none 0 0, .int .i64 0, .int .i64 0] 35)).alloc (.cells #[.int .i64 (m : Int), .int .i64 (n : Int), .slice none 0 0, .int .i64 0, .int .i64 0] 35))) := by
    refine ⟨((Below.refl _ w).alloc (Nat.le_refl _) _).alloc (by simp) _, ?_, ?_, World.ownsRow_nil _ _ _ _⟩
    · exact (Below.heap_alloc _ _ _ (by rw [World.size_alloc]; omega)).trans (heap_alloc_new w _)
    · have := heap_alloc_new (w.alloc (.cells #[.int .i64 0, .int .i64 0, .slice none 0 0, .int .i64 0, .int .i64 0] 35)) (.cells #[.int .i64 (m : Int), .int .i64 (n : Int), .slice none 0 0, .int .i64 0, .int .i64 0] 35)
      rwa [World.size_alloc] at this
  clear hN hm hn hi0 hz0 hz1 hz2
  go_enter Tryz.func27, Tryz.ntmps27
  go_wp2_with fail
  go_fit (H.out _)
  rintro e w2 ⟨rfl, rfl⟩
  go_wp2
  go_loopw [7] (fun s7 wr => ∃ (i : Nat) (v : Value), s7 = .int .i64 (i : Int) ∧ i ≤ N ∧ Hid (RnI w m n i v wr)) (fun s7 _ => N - (intOf s7).toNat)
  case atStart => exact ⟨0, _, rfl, Nat.zero_le _, H0⟩
  case round =>
    obtain ⟨i, v, rfl, hi, HI⟩ := hrel
    obtain ⟨⟨x0, x1, x2, x3, x4⟩, z0, z1, z2, z3, z4⟩ := HI.out.fr.cells
    clear H0
    by_cases hlt : i < N
    · have j1 : (i : Int) < (N : Int) := by omega
      obtain ⟨x, hx⟩ : ∃ x, i + 1 = x := ⟨_, rfl⟩
      have hx1 : (i : Int) + 1 = (x : Int) := by omega
      have hxN : x ≤ N := by omega
      have HX := Lib.hid hx
      have HA : Hid (∀ (w3 W : World) H, Below wr.heap.size wr w3 → W = w3.alloc (.cells #[.int .i32 32, .int .i64 1, .int .i64 0, .bool false, .bool false, .bool false] 82) → w3.heap.size = H → W.ownsRow (w.heap.size + 2) 82 6 v i (celC (List.replicate i blkC)) ∧ Hid (∀ j u, (celV blkC)[j]? = some u → W.cell? ((⟨H, 0, none⟩ : Addr).add j) = some u) ∧ w.heap.size + 2 ≤ W.heap.size ∧ w.heap.size + 1 < W.heap.size ∧ w.heap.size + 1 < w3.heap.size ∧
          (W.cell? ⟨w.heap.size + 1, 2, none⟩ = some v ∧ w3.cell? ⟨w.heap.size + 1, 2, none⟩ = some v) ∧
          Hid (∀ V g3 cap3, V.ownsRow (w.heap.size + 2) 82 6 (.slice (some ⟨g3, 0, none⟩) (i + 1) cap3) (i + 1) (celC (List.replicate i blkC) ++ celV blkC) → W.grownBy V v.ownBlock → frB V (w.heap.size + 1) (m : Int) (n : Int) v 0 0 ∧ RnI w m n x (.slice (some ⟨g3, 0, none⟩) (i + 1) cap3) (V.setCell ⟨w.heap.size + 1, 2, none⟩ (.slice (some ⟨g3, 0, none⟩) (i + 1) cap3)))) := fun w3 W H hb3 hW hH => by
        subst hW
        have hlt3 := HI.out.fr.lt
        have hs := hb3.size
        have hb : Below wr.heap.size wr (w3.alloc (.cells #[.int .i32 32, .int .i64 1, .int .i64 0, .bool false, .bool false, .bool false] 82)) := hb3.alloc hs _
        have o1 := own_below HI.out.row hb
        have f1 := HI.out.fr.below hb hlt3
        have f3 := HI.out.fr.below hb3 hlt3
        refine ⟨o1, fun j u hu => ?_, by rw [World.size_alloc]; omega, by rw [World.size_alloc]; omega, by omega, ⟨f1.cells.1.2.2.1, f3.cells.1.2.2.1⟩, fun V g3 cap3 hV hg => ?_⟩
        · subst hH
          have e : (⟨w3.heap.size, 0, none⟩ : Addr).add j = ⟨w3.heap.size, j, none⟩ := by unfold Addr.add; split <;> simp_all
          rw [e, cell_of_row _ _ _ _ _ (0, 0) (heap_alloc_new w3 _), ← Array.getElem?_toList]
          exact hu
        · have hown : ∀ k, v.ownBlock = some k → w.heap.size + 2 ≤ k := fun k hk => (HI.out.row.lt k hk).1
          have hv1 : some (w.heap.size + 1) ≠ v.ownBlock := fun e => by have := hown _ e.symm; omega
          have hv0 : some w.heap.size ≠ v.ownBlock := fun e => by have := hown _ e.symm; omega
          have fV : frB V (w.heap.size + 1) (m : Int) (n : Int) v 0 0 := (hg.block _ (by rw [World.size_alloc]; omega) hv1).trans f1
          have rV : frB V w.heap.size 0 0 (.slice none 0 0) 0 0 := (hg.block _ (by rw [World.size_alloc]; omega) hv0).trans (HI.out.res.below hb (by omega))
          have hg3 := hV.lt g3 rfl
          have hk := keep_set (ok := fun k => k ≠ w.heap.size + 1) (w.heap.size + 1) 2 none (.slice (some ⟨g3, 0, none⟩) (i + 1) cap3) V (fun k => k rfl)
          have hbV := (HI.out.below.trans (hb.mono HI.out.below.size)).grown hg (HI.out.below.trans (hb.mono HI.out.below.size)).size (fun k e => by have := hown k e; omega)
          refine ⟨fV, ⟨KeepW.below hbV hk hbV.size (fun k hk => by show _ ≠ _; omega), rV.keep hk (by show _ ≠ _; omega), fV.set2 _, ?_⟩⟩
          rw [← hx, show (List.replicate (i + 1) blkC) = List.replicate i blkC ++ [blkC] from List.replicate_succ', celC_app, celC_one]
          exact own_keep hV hk (fun k hk => by have h3 := hg3.1; cases hk; show g3 ≠ w.heap.size + 1; omega)
      have HCL := Lib.hid (celC_cell [blkC])
      have hIJ : i + 1 ≤ 20000 := by omega
      have HY := Lib.hid (fun w3 (hb3 : Below wr.heap.size wr w3) => (HA.out w3 _ _ hb3 rfl rfl))
      clear HI hx x0 x1 x3 x4 z0 z1 z3 z4
      go_wp2
      go_region_law
        (first
          | (refine step_append_lies _ (by rfl) _ _ _ (by rfl) (w.heap.size + 2) 82 i0 _ 6 32 Tryz.underlying33 HI0.out HZ0.out HZ1.out HZ2.out (by rfl) (by omega) v i (celC (List.replicate i blkC)) (by rfl) o1 ⟨w3.heap.size, 0, none⟩ 1 1 (celV blkC) (by rfl) (by rfl) n1.out (fun u hu => HCL.out u (by rw [celC_one]; exact hu)) (by omega) (by unfold maxLen; omega) (by omega) l1 _ rfl ?_; intro g3 cap3 w4 hown4 hgr4 _ hlt4; obtain ⟨f4, R4⟩ := o2.out w4 g3 cap3 hown4 hgr4; obtain ⟨⟨y0, y1, y2, y3, y4⟩, z0, z1, z2, z3, z4⟩ := f4.cells; have HR4 := Lib.hid R4; have hlt5 := f4.lt; clear R4 f4 hown4 hgr4 hlt4)
          | (go_simp; go_at_call 52; go_must (go_fit (HB.out _)); rintro e w3 ⟨rfl, hb3⟩; obtain ⟨o1, n1, l1, l2, l3, ⟨c1, c3⟩, o2⟩ := HY.out w3 ⟨hb3.os, hb3.tape, hb3.output, hb3.size, hb3.block⟩))
      all_goals clear HA HY HB HCL
      all_goals go_wp2
      all_goals exact ⟨⟨x, _, rfl, hxN, HR4.out⟩, by simp [intOf]; have := HX.out; omega⟩
    · obtain rfl : N = i := by omega
      obtain ⟨g, c, zs, rfl, hc, hgl, hbk⟩ := own_blk HI.out.row h0N
      obtain ⟨⟨r0, r1, r2, r3, r4⟩, q0, q1, q2, q3, q4⟩ := HI.out.res.cells
      have hlt2 := HI.out.res.lt
      have hk := set5_keep (ok := fun k => k ≠ w.heap.size) wr w.heap.size (m : Int) (n : Int) (.slice (some ⟨g, 0, none⟩) N c) 0 0 (fun k => k rfl)
      have HD := Lib.hid (And.intro (HI.out.res.all (r' := (m : Int)) (c' := (n : Int)) (v' := .slice (some ⟨g, 0, none⟩) N c) (a' := 0) (b' := 0)) (And.intro (KeepW.below HI.out.below hk HI.out.below.size (fun k hk => by show _ ≠ _; omega)) (hbk.keep hk (by show _ ≠ _; omega))))
      have HG : Hid (w.heap.size ≤ g) := by show _ ≤ _; omega
      have HC := Lib.hid hc
      clear hbk hk HI HB hgl hc
      go_wp2
      obtain ⟨⟨y0, y1, y2, y3, y4⟩, _⟩ := HD.out.1.cells
      unfold set5 at y0 y1 y2 y3 y4
      exact bodyPost_ret (v := .tuple #[.agg #[.int .i64 (m : Int), .int .i64 (n : Int), .slice (some ⟨g, 0, none⟩) N c, .int .i64 0, .int .i64 0], .int .i64 0]) (by simp [results, Tryz.results27, go_sem, y0, y1, y2, y3, y4]) rfl ⟨g, c, rfl, HC.out, ⟨zs, HG.out, HD.out.2.2⟩, HD.out.2.1⟩
end Go.Proofs.YtpkjaallhhjleaaGreatDoor

/-
  Rows of strings in memory; limnerlaw06.Strings: what it returns.
-/
namespace Go.Proofs.YtpkjaallhhjleaaGreatDoor
open Go.RowKit

theorem Tryz.infoStrG : (Tryz.prog.info? 9).map (fun i => (i.zero, i.size, i.bytes)) = some (some (.string ⟨#[]⟩), 1, 16) := by kernel_rfl
def strC (xs : List ByteArray) : List Value := xs.map Value.string
theorem strC_len (xs : List ByteArray) : (strC xs).length = xs.length := by unfold strC; rw [List.length_map]
theorem strC_at {xs : List ByteArray} {i : Nat} {x : ByteArray} (h : xs[i]? = some x) : (strC xs)[i]? = some (.string x) := by unfold strC; rw [List.getElem?_map, h]; rfl
theorem strC_app (xs ys : List ByteArray) : strC (xs ++ ys) = strC xs ++ strC ys := by unfold strC; rw [List.map_append]
def StrsV (ok : Nat → Prop) (w : World) (v : Value) (xs : List ByteArray) : Prop := RowV ok w v xs.length (strC xs)
theorem StrsV.below {ok : Nat → Prop} {w w' : World} {v : Value} {xs : List ByteArray} (h : StrsV ok w v xs) (hb : Below w.heap.size w w') : StrsV ok w' v xs := RowV.keep h (keep_below ok hb)
/-- A row of the call's own, as it is handed back. -/
theorem own_row {w : World} {B n : Nat} {e : TypeId} {v : Value} {xs : List ByteArray} (h : w.ownsRow B e 1 v n (strC xs)) (hn : n = xs.length) : StrsV AnyB w v xs := by
  subst hn
  rcases h.2 with ⟨rfl, h0⟩ | ⟨g, cap, cur, rfl, hB, hg, hc, _⟩
  · obtain rfl := List.eq_nil_of_length_eq_zero h0
    exact RowV.nil _ _
  · refine ⟨_, cap, rfl, hc, fun _ _ => trivial, fun j u hu => ⟨g, 0, rfl, ?_⟩⟩
    have := h.cells (g := g) rfl j u hu
    rwa [rlit] at this

theorem toList_inj {x y : ByteArray} (h : x.toList = y.toList) : x = y := by
  rw [Lib.toList_data, Lib.toList_data] at h
  exact ByteArray.ext (Array.toList_inj.1 h)
theorem strings_no {ok ok2 : Nat → Prop} {v1 v2 : Value} {xs ys : List ByteArray} (w : World) (h1 : StrsV ok w v1 xs) (h2 : StrsV ok2 w v2 ys) (hl : xs.length ≠ ys.length) :
    Calls Tryz.prog 49 #[v1, v2] w fun e w' => e = .returned (.bool false) ∧ Below w.heap.size w w' := by
  obtain ⟨a1, c1, rfl, _⟩ := h1
  obtain ⟨a2, c2, rfl, _⟩ := h2
  have b1 : ((xs.length : Int) != (ys.length : Int)) = true := by simp; omega
  clear hl
  go_enter Tryz.func49, Tryz.ntmps49
  go_wp2
  go_ret
  exact ⟨rfl, Below.refl _ _⟩
theorem strings_eq {ok ok2 : Nat → Prop} {v1 v2 : Value} {xs ys : List ByteArray} (w : World) (h1 : StrsV ok w v1 xs) (h2 : StrsV ok2 w v2 ys) (hl : xs.length = ys.length) (hn : xs.length ≤ 1000000) :
    Calls Tryz.prog 49 #[v1, v2] w fun e w' => e = .returned (.bool (decide (xs = ys))) ∧ Below w.heap.size w w' := by
  have H1 : Hid (∀ i x, xs[i]? = some x → ∃ g o cap, v1 = .slice (some ⟨g, o, none⟩) xs.length cap ∧ ∀ W, Below w.heap.size w W → W.cell? ⟨g, o + i, none⟩ = some (.string x)) := fun i x hx => by
    obtain ⟨g, o, cap, hv, _, _, hc⟩ := RowV.at_ h1 (strC_at hx)
    refine ⟨g, o, cap, hv, fun W hW => ?_⟩
    have := hc i _ (strC_at hx)
    rw [hW.cell (p := ⟨g, o + i, none⟩) (rlt this)]; exact this
  have H2 : Hid (∀ i y, ys[i]? = some y → ∃ g o cap, v2 = .slice (some ⟨g, o, none⟩) ys.length cap ∧ ∀ W, Below w.heap.size w W → W.cell? ⟨g, o + i, none⟩ = some (.string y)) := fun i x hx => by
    obtain ⟨g, o, cap, hv, _, _, hc⟩ := RowV.at_ h2 (strC_at hx)
    refine ⟨g, o, cap, hv, fun W hW => ?_⟩
    have := hc i _ (strC_at hx)
    rw [hW.cell (p := ⟨g, o + i, none⟩) (rlt this)]; exact this
  obtain ⟨a1, c1, rfl, _⟩ := h1
  obtain ⟨a2, c2, rfl, _⟩ := h2
  rw [← hl] at H2 ⊢
  obtain ⟨n, hnn⟩ : ∃ n, xs.length = n := ⟨_, rfl⟩
  rw [hnn] at H1 H2 hn ⊢
  have hly : ys.length = n := by omega
  have HL := Lib.hid (And.intro hnn hly)
  have b1 : ((n : Int) != (n : Int)) = false := by simp
  have i1 : (n : Int) ≤ 1000000 := by omega
  obtain ⟨r, hr⟩ : ∃ r, decide (xs = ys) = r := ⟨_, rfl⟩
  rw [hr]
  have HR := Lib.hid hr
  clear hl hnn hly hr
  go_enter Tryz.func49, Tryz.ntmps49
  go_wp2
  go_loopw [5] (fun s5 wr => ∃ i : Nat, s5 = .int .i64 (i : Int) ∧ i ≤ n ∧ Hid (Below w.heap.size w wr ∧ xs.take i = ys.take i)) (fun s5 _ => n - (intOf s5).toNat)
  case atStart => exact ⟨0, rfl, Nat.zero_le _, Below.refl _ _, rfl⟩
  case round =>
    obtain ⟨i, rfl, hi, HI⟩ := hrel
    by_cases hlt : i < n
    · obtain ⟨x, hx⟩ : ∃ x, xs[i]? = some x := ⟨_, List.getElem?_eq_getElem (by rw [HL.out.1]; exact hlt)⟩
      obtain ⟨y, hy⟩ : ∃ y, ys[i]? = some y := ⟨_, List.getElem?_eq_getElem (by rw [HL.out.2]; exact hlt)⟩
      obtain ⟨g1, o1, k1, e1, hc1⟩ := H1.out i x hx
      obtain ⟨g2, o2, k2, e2, hc2⟩ := H2.out i y hy
      injection e1 with e11 e12 e13
      injection e2 with e21 e22 e23
      subst e11 e13 e21 e23
      have q1 := hc1 wr HI.out.1
      have q2 := hc2 wr HI.out.1
      have j1 : (i : Int) < (n : Int) := by omega
      have j2 : (0 : Int) ≤ (i : Int) := by omega
      obtain ⟨k, hk⟩ : ∃ k, i + 1 = k := ⟨_, rfl⟩
      have j3 : (i : Int) + 1 = (k : Int) := by omega
      have hkn : k ≤ n := by omega
      have HK := Lib.hid hk
      by_cases hxy : x = y
      · have bx : (x.toList == y.toList) = true := by rw [hxy]; exact beq_self_eq_true _
        have hst : xs.take k = ys.take k := by
          rw [← hk, List.take_succ_eq_append_getElem (List.getElem?_eq_some_iff.1 hx).1, List.take_succ_eq_append_getElem (List.getElem?_eq_some_iff.1 hy).1, (List.getElem?_eq_some_iff.1 hx).2, (List.getElem?_eq_some_iff.1 hy).2, HI.out.2, hxy]
        have HS := Lib.hid hst
        clear hx hy hc1 hc2 e12 e22 hk hst hxy
        go_wp2
        go_quiet (fail)
        go_wp2
        go_roundw
        case rel => exact ⟨k, rfl, hkn, HI.out.1.trans ⟨rfl, rfl, rfl, Nat.le_refl _, fun _ _ => rfl⟩, HS.out⟩
        case measure => simp [intOf]; have := HK.out; omega
      · have bx : (x.toList == y.toList) = false := beq_eq_false_iff_ne.2 fun e => hxy (toList_inj e)
        have hf : Hid (r = false) := by
          show _ = _
          rw [← HR.out, decide_eq_false]
          intro e
          rw [e, hy] at hx
          exact hxy (Option.some.inj hx).symm
        clear hx hy hc1 hc2 e12 e22 hk hxy
        go_wp2
        go_quiet (fail)
        go_wp2
        go_ret
        exact ⟨by rw [hf.out]; rfl, HI.out.1.trans ⟨rfl, rfl, rfl, Nat.le_refl _, fun _ _ => rfl⟩⟩
    · obtain rfl : n = i := by omega
      have hf : Hid (r = true) := by
        show _ = _
        have := HI.out.2
        rw [List.take_of_length_le (by rw [HL.out.1]; exact Nat.le_refl _), List.take_of_length_le (by rw [HL.out.2]; exact Nat.le_refl _)] at this
        rw [← HR.out, decide_eq_true this]
      go_wp2
      go_ret
      exact ⟨by rw [hf.out]; rfl, HI.out.1⟩
theorem strings_any {ok ok2 : Nat → Prop} {v1 v2 : Value} {xs ys : List ByteArray} (w : World) (h1 : StrsV ok w v1 xs) (h2 : StrsV ok2 w v2 ys) (hn : xs.length ≤ 1000000) :
    Calls Tryz.prog 49 #[v1, v2] w fun e w' => e = .returned (.bool (decide (xs = ys))) ∧ Below w.heap.size w w' := by
  by_cases hl : xs.length = ys.length
  · exact strings_eq w h1 h2 hl hn
  · rw [decide_eq_false (fun e => hl (by rw [e]))]
    exact strings_no w h1 h2 hl
end Go.Proofs.YtpkjaallhhjleaaGreatDoor
