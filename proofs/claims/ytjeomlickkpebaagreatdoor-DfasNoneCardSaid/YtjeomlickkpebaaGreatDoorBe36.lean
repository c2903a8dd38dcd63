/-
  dfas.Make: what it returns.
-/
import Derived.Deep.RegionLaw
import Derived.Test.YtjeomlickkpebaaGreatDoorBe34
import Derived.Test.YtjeomlickkpebaaGreatDoorBe31
import Derived.Test.YtjeomlickkpebaaGreatDoorBe30
namespace Go.Proofs.YtjeomlickkpebaaGreatDoor
open Go.RowKit

def MkOut (L : List ByteArray) (w' : World) (e : Ending) : Prop :=
  (∃ dp k, e = .returned (.tuple #[.pointer dp, .int .i64 0]) ∧ DfW w' (.pointer dp) (tabL L k) ∧ (goL L k).1.length = k) ∨
  (e = .returned (.tuple #[.pointer none, .int .i64 70]) ∧ ∃ ls : List (List Int), (∀ l, l ∈ ls → ListG (quE L) (reachP (quE L) (fiE L)) l) ∧ (∀ (i j : Nat) a b, i < j → ls[i]? = some a → ls[j]? = some b → a ≠ b) ∧ 2000 < ls.length)
/-- The states after so many rounds. -/
def rowsQ (L : List ByteArray) (k : Nat) : List (List Int × Int) := (goL L k).2.zip (((goL L k).1.take k).map fun l => accP (quE L) l (-1))
theorem StepC.under0 {S : Nat → Prop} {c' : Col} {w w' : World} (h : StepC S (fun _ => 0) c' w w') (h0 : ¬ S 0) : Below w.heap.size w w' := h.under (Below.refl _ _) (Nat.le_refl _) fun _ _ => h0
/-- What lies while a table is made. -/
def MakeI (L : List ByteArray) (w wr : World) (M D : Nat) (nv : Value) (mb k : Nat) : Prop :=
  ∃ c lv us sv, StepC (fun a => a ≠ 0) (fun _ => 0) c w wr ∧ MkC c wr M nv (goL L k).1 lv mb us ∧ DfC c wr D sv (rowsQ L k) ∧ (∀ i, c i ≠ 3) ∧ c D = 2
section
variable {w w' : World} {M mb : Nat} {nv lv : Value} {xs : List (List Int)} {us : List Value} {c c' : Col}
theorem MkC.pale (h : MkC c w M nv xs lv mb us) : MkC (Go.Proofs.YtjeomlickkpebaaGreatDoor.pale c 3) w M nv xs lv mb us :=
  ⟨h.box, pale_other h.cM (by decide), h.row.pale (by decide), h.map, pale_other h.cmb (by decide), h.ne1, h.ne2, h.ne3, ⟨h.el.1, fun i u l hu hl => ⟨(h.el.2 i u l hu hl).1.pale, (h.el.2 i u l hu hl).2⟩⟩, h.fresh.pale⟩
theorem StepC.paler {S : Nat → Prop} (h : StepC S c c' w w') (h3 : ∀ i, c i ≠ 3) : StepC S c (Go.Proofs.YtjeomlickkpebaaGreatDoor.pale c' 3) w w' :=
  ⟨h.keep, fun k hk => by
    unfold Go.Proofs.YtjeomlickkpebaaGreatDoor.pale
    rw [h.same k hk, if_neg (h3 k)], h.fresh.pale⟩
theorem pale_no3 (c : Col) : ∀ i, Go.Proofs.YtjeomlickkpebaaGreatDoor.pale c 3 i ≠ 3 := fun i => by
  unfold Go.Proofs.YtjeomlickkpebaaGreatDoor.pale
  split
  · decide
  · rename_i h; exact h
end
theorem inq_non {q : List Sta} {l : List Int} (h : InQ q l) (hq : q.length ≤ 100000) : NonN l := fun a ha => by
  have := h a ha
  omega
section
variable {L : List ByteArray}
theorem lists_good {k : Nat} (h : k ≤ (goL L k).1.length) : ∀ l, l ∈ (goL L k).1 → ListG (quE L) (reachP (quE L) (fiE L)) l := (goL_GoI L h).good
theorem leastG_high (w : List Nat) : ∀ (l : List RuN) (j : Nat), leastG l w j ≤ ((j + l.length : Nat) : Int)
  | [], j => by rw [leastG]; omega
  | r :: l, j => by
    rw [leastG]
    have := leastG_high w l (j + 1)
    rw [List.length_cons]
    split <;> omega
/-- The rules' numbers are few. -/
theorem tabL_high (hE : makeE L = 0) {k : Nat} (hk : (goL L k).1.length = k) : ∀ x, x ∈ (tabL L k).rule → x ≤ 100000 := fun x hx => by
  have hx2 : x ∈ (goL L k).1.map (fun l => accP (quE L) l (-1)) := hx
  obtain ⟨l, hl, rfl⟩ := List.mem_map.1 hx2
  obtain ⟨u, _, rfl, _⟩ := lists_good (by omega) l hl
  have h1 := least_same (nodesP L) (nodes_good L) u
  have h2 := leastG_high u ((nodesP L).map ruleN) 0
  have h3 := (make_good hE).2.1
  have h4 : ((nodesP L).map ruleN).length = L.length := by unfold nodesP; rw [List.length_map, List.length_map]
  show accP (makeQ (nodesP L)).1 (stepsP (makeQ (nodesP L)).1 u (reachP (makeQ (nodesP L)).1 (makeQ (nodesP L)).2)) (-1) ≤ 100000
  rw [h1]
  omega
theorem listG_in (hE : makeE L = 0) {l : List Int} (h : ListG (quE L) (reachP (quE L) (fiE L)) l) : InQ (quE L) l ∧ NoFork (quE L) l := by
  obtain ⟨hm, _⟩ := make_good hE
  obtain ⟨u, _, rfl, _⟩ := h
  have hr := reach_ok (quE L) hm.ok (fiE L) hm.in_
  have := steps_ok hm.ok u _ hr.1 hr.2.1
  exact ⟨this.1, this.2.1⟩
theorem row_pre {step : List Int → Nat → List Int} (x : List Int) (xs : List (List Int)) : ∀ b, ∃ t, (rowX step nilL sameL x xs b).1 = xs ++ t
  | 0 => ⟨[], by rw [List.append_nil]; rfl⟩
  | b + 1 => by
    obtain ⟨t, ht⟩ := row_pre (step := step) x xs b
    rw [rowX, one_num]
    show ∃ t, numX _ _ = _
    unfold numX
    split
    · exact ⟨t, ht⟩
    · split
      · exact ⟨t ++ [step x b], by rw [ht, List.append_assoc]⟩
      · exact ⟨t, ht⟩
/-- One round more. -/
theorem rows_next {k : Nat} {x : List Int} (hx : (goL L k).1[k]? = some x) (hk : k ≤ (goL L k).1.length) :
    rowsQ L (k + 1) = rowsQ L k ++ [((rowL (quE L) x (goL L k).1 256).2, accP (quE L) x (-1))] ∧ (goL L (k + 1)).1 = (rowL (quE L) x (goL L k).1 256).1 := by
  have hl := goX_len k hk
  have hkl := (List.getElem?_eq_some_iff.1 hx).1
  have hnx : goL L (k + 1) = ((rowL (quE L) x (goL L k).1 256).1, (goL L k).2 ++ [(rowL (quE L) x (goL L k).1 256).2]) := goX_next hx
  unfold rowsQ
  rw [hnx]
  dsimp only
  obtain ⟨t, ht⟩ := (row_pre (step := fun l b => stepP (quE L) b l) x (goL L k).1 256)
  have hto : (rowL (quE L) x (goL L k).1 256).1.take (k + 1) = (goL L k).1.take k ++ [x] := by
    show (rowX (fun l b => stepP (quE L) b l) nilL sameL x (goL L k).1 256).1.take (k + 1) = _
    rw [ht, List.take_append_of_le_length (by omega), List.take_add_one, hx]
    rfl
  refine ⟨?_, rfl⟩
  show ((goL L k).2 ++ [_]).zip (((rowX (fun l b => stepP (quE L) b l) nilL sameL x (goL L k).1 256).1.take (k + 1)).map _) = _
  rw [show (rowX (fun l b => stepP (quE L) b l) nilL sameL x (goL L k).1 256).1.take (k + 1) = (goL L k).1.take k ++ [x] from hto, List.map_append, List.zip_append (by rw [List.length_map, List.length_take, hl]; omega)]
  rfl
theorem rowsQ_len {k : Nat} (hk : k ≤ (goL L k).1.length) : (rowsQ L k).length = k := by
  unfold rowsQ
  rw [List.length_zip, goX_len k hk, List.length_map, List.length_take]
  omega
theorem rows_tab {k : Nat} (hk : (goL L k).1.length = k) : (⟨(rowsQ L k).map (·.1), (rowsQ L k).map (·.2)⟩ : Dfa) = tabL L k := by
  have hl := goX_len k (show k ≤ (goL L k).1.length by omega)
  unfold tabL rowsQ
  rw [List.take_of_length_le (by omega)]
  congr 1
  · exact List.map_fst_zip (by rw [List.length_map, hl]; omega)
  · exact List.map_snd_zip (by rw [List.length_map, hl]; omega)
set_option maxRecDepth 8000 in
set_option maxHeartbeats 8000000 in
theorem pmake_any {w : World} {nv : Value} (h : NfaR w nv (quE L) (fiE L)) (hE : makeE L = 0) (hp : PowW w) :
    Calls Tryz.prog 26 #[nv] w fun e w' => MkOut L w' e ∧ Below w.heap.size w w' := by
  obtain ⟨hm, _, hq, _⟩ := make_good hE
  have hne := start_ne hE
  obtain ⟨B, _, _, _, _, rfl, _⟩ := h.form
  have HN := Lib.hid (fun (W : World) (hb : Below w.heap.size w W) => (And.intro (h.below hb) (hp.below hb) : NfaR W (.pointer (some ⟨B, 0, none⟩)) (quE L) (fiE L) ∧ PowW W))
  have HS := Lib.hid (nstart_new h hm.ok hm.in_)
  have HIN := Lib.hid (fun (k : Nat) (hk : k ≤ (goL L k).1.length) l (hl : l ∈ (goL L k).1) => listG_in hE (lists_good hk l hl))
  have HOK := Lib.hid (And.intro hm.ok hq)
  obtain ⟨r1, r2, r3⟩ := reach_ok (quE L) hm.ok (fiE L) hm.in_
  have HR := Lib.hid (And.intro hne (And.intro (inq_non r1 hq) (show (reachP (quE L) (fiE L)).length ≤ 100000 from Nat.le_trans (reach_few _ _) hq)))
  clear h hp hm hne hq r1 r2 r3
  go_enter Tryz.func26, Tryz.ntmps26
  go_wp2_with fail
  go_fit HS.out
  rintro e w1 ⟨r, rfl, hr, hb⟩
  have HI := Lib.hid (And.intro hr hb)
  obtain ⟨ro, rc, rfl, hrc⟩ := hr.ints.form
  clear hr hb HS
  obtain ⟨st, hst⟩ : ∃ st, reachP (quE L) (fiE L) = st := ⟨_, rfl⟩
  have HST := Lib.hid hst
  rw [hst] at HI HR hrc
  (try rw [hst])
  obtain ⟨n, hn⟩ : ∃ n, st.length = n := ⟨_, rfl⟩
  have HNN := Lib.hid hn
  rw [hn] at hrc HI
  (try rw [hn])
  have hni : ((n : Int) == 0) = false := beq_eq_false_iff_ne.2 (by
    have := List.length_pos_iff.2 HR.out.1
    omega)
  clear hst hn
  have hmm := @run_makeMap Tryz.prog
  have hbA := alloc_under w1 (.map #[] 0)
  have hsA := alloc_size w1 (.map #[] 0)
  have hmA := MapT.new w1
  have hbB := alloc_under (w1.alloc (.map #[] 0)) (.cells #[.pointer (some ⟨B, 0, none⟩), .slice none 0 0, .map (some w1.heap.size)] 103)
  have hsB := alloc_size (w1.alloc (.map #[] 0)) (.cells #[.pointer (some ⟨B, 0, none⟩), .slice none 0 0, .map (some w1.heap.size)] 103)
  have hxB := box3.new 103 (w1.alloc (.map #[] 0)) (.pointer (some ⟨B, 0, none⟩)) (.slice none 0 0) (.map (some w1.heap.size))
  rw [hsA] at hxB
  obtain ⟨W2, hW2⟩ : ∃ W, (w1.alloc (.map #[] 0)).alloc (.cells #[.pointer (some ⟨B, 0, none⟩), .slice none 0 0, .map (some w1.heap.size)] 103) = W := ⟨_, rfl⟩
  rw [hW2] at hbB hsB hxB
  obtain ⟨c1, hc1⟩ : ∃ c1 : Col, c1 = fun k => if k = w1.heap.size ∨ k = w1.heap.size + 1 then 1 else 0 := ⟨_, rfl⟩
  have hb12 : Below w1.heap.size w1 W2 := hbA.trans (hbB.mono (by omega))
  have hcold : ∀ k, k < w1.heap.size → c1 k = 0 := fun k hk => by rw [hc1]; exact if_neg (by omega)
  have hsz := HI.out.2.size
  have hfr1 : Fresh0 c1 W2 := fun k hk => by rw [hc1]; exact if_neg (by omega)
  have HM0 : Hid (MkC c1 W2 (w1.heap.size + 1) (.pointer (some ⟨B, 0, none⟩)) [] (.slice none 0 0) w1.heap.size []) := Lib.hid
    ⟨hxB, by rw [hc1]; exact if_pos (.inr rfl), RowC.nil _ _ _ _, hmA.keep (keep_below (fun _ => True) (hbB.mono (by omega))) trivial, by rw [hc1]; exact if_pos (.inl rfl), by omega, (fun e => by cases e), (fun e => by cases e), ⟨rfl, fun i u l hu => by simp at hu⟩, hfr1⟩
  have HC0 : Hid (CelC c1 W2 (.slice ro n rc) (numC st)) := Lib.hid (by
    have h1 := HI.out.1.1
    rw [show st.length = (numC st).length from (numC_len st).symm] at h1
    exact (h1.mono fun k hk _ => hcold k hk).keep (keep_below (fun _ => True) hb12) fun _ _ _ => trivial)
  have HS0 : Hid (StepC (fun a => a ≠ 0) (fun _ => 0) c1 w W2) := Lib.hid
    ⟨keep_below _ (HI.out.2.trans (hb12.mono hsz)), fun k hk => hcold k (by omega), hfr1⟩
  have HNU := Lib.hid (pnum_any HM0.out ((HN.out _ (HS0.out.under0 (fun e => e rfl))).2) HC0.out HR.out.2.2 HR.out.2.1 (fun x hx => by cases hx) (by decide))
  clear hbA hsA hmA hbB hsB hxB hc1 hb12 hcold hfr1 HM0 HC0 HI hrc
  go_wp2_with fail
  (try rw [hW2])
  go_fit HNU.out
  rintro e w2 ⟨rfl, c2, lv2, us2, z1, z2⟩
  have hba := alloc_under w2 (.cells #[.slice none 0 0] 63)
  have hsa := alloc_size w2 (.cells #[.slice none 0 0] 63)
  have hnw := heap_alloc_new w2 (.cells #[.slice none 0 0] 63)
  have HX0 : Hid (MakeI L w (w2.alloc (.cells #[.slice none 0 0] 63)) (w1.heap.size + 1) w2.heap.size (.pointer (some ⟨B, 0, none⟩)) w1.heap.size 0) := Lib.hid (by
    have z3 := z2.pale
    have sA : StepC (fun a => a ≠ 0) (pale c2 3) (colAt (pale c2 3) 2 w2.heap.size) w2 (w2.alloc (.cells #[.slice none 0 0] 63)) := StepC.colAt z3.fresh _
    have sF : StepC (fun _ => False) (pale c2 3) (colAt (pale c2 3) 2 w2.heap.size) w2 (w2.alloc (.cells #[.slice none 0 0] 63)) := StepC.colAt z3.fresh _
    have s0 : StepC (fun a => a ≠ 0) (fun _ => 0) (pale c2 3) w w2 := by
      have := HS0.out.trans (z1.mono fun a e => (by rw [e]; decide : a ≠ 0))
      exact StepC.paler this (fun i => by decide)
    have z4 := z3.step sF (fun e => e) (fun e => e)
    refine ⟨_, lv2, us2, .slice none 0 0, s0.trans sA, ?_, ⟨hnw, if_pos rfl, World.ownsRow_nil _ _ _ _, (fun k e => by cases e), (fun e => by cases e), fun s hs => by cases hs⟩, fun i => ?_, if_pos rfl⟩
    · have e : numX [] st = (goL L 0).1 := by
        show numX [] st = [reachP (quE L) (fiE L)]
        rw [HST.out]
        unfold numX
        have hnl : ¬ nilL st = true := fun e => HR.out.1 (List.isEmpty_iff.1 e)
        have e9 : findX sameL [] st 0 = -1 := rfl
        rw [if_neg hnl, e9, if_pos (by decide)]
        rfl
      rw [← e]
      exact z4
    · unfold colAt
      split
      · decide
      · exact pale_no3 c2 i)
  clear z1 z2 hba hsa hnw HNU HS0 hW2
  obtain ⟨W3, hW3⟩ : ∃ W, w2.alloc (.cells #[.slice none 0 0] 63) = W := ⟨_, rfl⟩
  rw [hW3] at HX0
  obtain ⟨M, hM⟩ : ∃ M, w1.heap.size + 1 = M := ⟨_, rfl⟩
  rw [hM] at HX0
  (try rw [hM])
  obtain ⟨D, hD⟩ : ∃ D, w2.heap.size = D := ⟨_, rfl⟩
  rw [hD] at HX0
  obtain ⟨mb, hmb⟩ : ∃ mb, w1.heap.size = mb := ⟨_, rfl⟩
  rw [hmb] at HX0
  go_wp2_with fail
  (try rw [hW3])
  (try rw [hD])
  (try rw [hM])
  clear hW3 hM hD
  go_loopw [2, 6] (fun s2 s6 wr => ∃ k : Nat, s2 = .pointer (some ⟨D, 0, none⟩) ∧ s6 = .int .i64 (k : Int) ∧ k ≤ (goL L k).1.length ∧ (goL L k).1.length ≤ 2000 ∧ Hid (MakeI L w wr M D (.pointer (some ⟨B, 0, none⟩)) mb k)) (fun _ s6 _ => 2001 - (intOf s6).toNat)
  case atStart => exact ⟨0, rfl, rfl, Nat.zero_le _, (show 1 ≤ 2000 by decide), HX0⟩
  case round =>
    clear HX0
    obtain ⟨k, rfl, rfl, hk, hx2, HX⟩ := hrel
    obtain ⟨c, lv, us, sv, x1, x2, x3, x4, x5⟩ := HX.out
    obtain ⟨⟨b0, b1, b2⟩, f0, f1, f2⟩ := x2.box.cells
    obtain ⟨lo, lc, rfl, hlc⟩ := x2.row.form
    have hul := x2.el.1
    have i0 : (0 : Int) ≤ (k : Int) := by omega
    by_cases hlt : k < (goL L k).1.length
    · obtain ⟨x, hx⟩ : ∃ x, (goL L k).1[k]? = some x := ⟨_, List.getElem?_eq_getElem hlt⟩
      have hmem := List.mem_of_getElem? hx
      obtain ⟨hq1, hq2⟩ := HIN.out k hk x hmem
      obtain ⟨u, hu⟩ : ∃ u, us[k]? = some u := ⟨_, List.getElem?_eq_getElem (by omega)⟩
      obtain ⟨hcu, hlu⟩ := x2.el.2 k u x hu hx
      obtain ⟨go, gcap, hlv, _, hgc⟩ := x2.row.rowZ
      injection hlv with hlv1 hlv2 hlv3
      subst hlv1
      obtain ⟨lg, lof, rfl, _, hcell⟩ := hgc k u hu
      clear hlv2 hlv3
      obtain ⟨row, hrow⟩ : ∃ row, (rowL (quE L) x (goL L k).1 256).2 = row := ⟨_, rfl⟩
      obtain ⟨xs2, hxs2⟩ : ∃ xs2, (rowL (quE L) x (goL L k).1 256).1 = xs2 := ⟨_, rfl⟩
      obtain ⟨ru, hru⟩ : ∃ ru, accP (quE L) x (-1) = ru := ⟨_, rfl⟩
      obtain ⟨hrn1, hrn2⟩ := rows_next hx hk
      rw [hrow, hru] at hrn1
      rw [hxs2] at hrn2
      have hrl : row.length = 256 := by rw [← hrow]; exact (row_few _ x _ 256).2
      have hxl2 : xs2.length ≤ (goL L k).1.length + 256 := by rw [← hxs2]; exact (row_few _ x _ 256).1
      have hkx : k + 1 ≤ xs2.length := by
        obtain ⟨t, ht⟩ := row_pre (step := fun l b => stepP (quE L) b l) x (goL L k).1 256
        rw [← hxs2]
        show _ ≤ (rowX (fun l b => stepP (quE L) b l) nilL sameL x (goL L k).1 256).1.length
        rw [ht, List.length_append]; omega
      obtain ⟨arr, harr⟩ : ∃ arr, (staD (row, ru)).toArray = arr := ⟨_, rfl⟩
      have hfresh := x2.fresh
      have has : arr.size = 257 := by rw [← harr, List.size_toArray, staD_len hrl]
      have hcall : ∀ W, Below wr.heap.size wr W → Calls Tryz.prog 46 #[.pointer (some ⟨M, 0, none⟩), u] W fun e w' => e = .returned (.agg arr) ∧ Hid (∃ c2 lv2 us2, StepC (fun a => a = 1) c c2 wr w' ∧ MkC c2 w' M (.pointer (some ⟨B, 0, none⟩)) xs2 lv2 mb us2 ∧ ∀ i, c2 i ≠ 3) := fun W hW => by
        have sW := StepC.below (S := fun a => a = 1) hfresh hW
        have key := pstate_any (q := quE L) (first := fiE L) (x2.under hW) (HN.out W ((x1.trans (StepC.below hfresh hW)).under0 (fun e => e rfl))).1 (fun k _ => x4 k) HOK.out.1
          (fun c' W' hs => HN.out W' ((x1.trans ((StepC.below hfresh hW).trans (hs.mono fun a e => (by rw [e]; decide : a ≠ 0)))).under0 (fun e => e rfl)))
          (hcu.step sW (by decide)) (l := x) (by
            have := (HIN.out k hk x hmem).1
            exact Nat.le_trans (show x.length ≤ 100000 from by
              obtain ⟨w0, _, e, _⟩ := lists_good hk x hmem
              have h9 := HOK.out.2
              rw [e]
              cases hw0 : w0.reverse with
              | nil =>
                have : w0 = [] := by simpa using hw0
                subst this
                exact Nat.le_trans (reach_few _ _) h9
              | cons b t =>
                have : w0 = t.reverse ++ [b] := by
                  have := congrArg List.reverse hw0
                  simpa using this
                subst this
                rw [steps_snoc]
                exact Nat.le_trans (step_few _ _ _) h9) (Nat.le_refl _)) (fun b => ⟨inq_non (step_ok _ HOK.out.1 b x hq2).1 HOK.out.2, Nat.le_trans (step_few _ _ _) HOK.out.2⟩)
          (fun y hy => inq_non (HIN.out k hk y hy).1 HOK.out.2) (by omega)
        rw [hrow, hxs2, hru] at key
        refine key.mono ?_
        rintro e w' ⟨rfl, c2, lv2, us2, y1, y2⟩
        exact ⟨by rw [harr], Lib.hid ⟨pale c2 3, lv2, us2, (sW.trans y1).paler x4, y2.pale, pale_no3 c2⟩⟩
      have hadd : ∀ w', (∃ c2 lv2 us2, StepC (fun a => a = 1) c c2 wr w' ∧ MkC c2 w' M (.pointer (some ⟨B, 0, none⟩)) xs2 lv2 mb us2 ∧ ∀ i, c2 i ≠ 3) →
          w'.cell? ⟨D, 0, none⟩ = some sv ∧ D < w'.heap.size ∧ w'.frozen? ⟨D, 0, none⟩ = false ∧ ∃ ao cap w8, (Builtin.append_ #[61, 61] 61 #[sv, .slice (some ⟨w'.heap.size, 0, none⟩) 1 1]).run Tryz.prog (w'.alloc (.cells arr 92)) = .ok (.slice ao (k + 1) cap) w8 ∧ D < w8.heap.size ∧ w8.frozen? ⟨D, 0, none⟩ = false ∧ w8.cell? ⟨D, 0, none⟩ = some sv ∧
            Hid (MakeI L w (w8.setCell ⟨D, 0, none⟩ (.slice ao (k + 1) cap)) M D (.pointer (some ⟨B, 0, none⟩)) mb (k + 1)) := fun w' ⟨c2, lv2, us2, y1, y2, y3⟩ => by
        have z1 := x3.step y1 (by decide)
        obtain ⟨ao, cap, w8, p1, p2, p3, p4, c3, p5, p6⟩ := z1.push (s := (row, ru)) y2.fresh hrl (by rw [rowsQ_len hk]; omega)
        rw [rowsQ_len hk, harr] at p1
        rw [rowsQ_len hk] at p5 p6
        refine ⟨z1.cell.1, z1.lt, z1.cell.2, ao, cap, w8, p1, p2, p3, p4, Lib.hid ?_⟩
        have q2 := (y2.step p5 (by decide) (by decide)).pale
        rw [← hrn2] at q2
        rw [← hrn1] at p6
        refine ⟨pale c3 3, lv2, us2, .slice ao (k + 1) cap, ((x1.trans (y1.mono fun a e => (by rw [e]; decide : a ≠ 0))).trans ((p5.paler y3).mono fun a e => (by rw [e]; decide : a ≠ 0))), q2, ?_, pale_no3 c3, ?_⟩
        · exact ⟨p6.box, pale_other p6.cD (by decide), p6.own, fun k e => pale_other (p6.col k e) (by decide), p6.ne, p6.wide⟩
        · exact pale_other p6.cD (by decide)
      obtain ⟨so, sc, rfl, hsc⟩ := x3.form
      rw [rowsQ_len hk] at hsc hadd
      have d0 := x3.cell
      rw [rowsQ_len hk] at d0
      obtain ⟨d1, d2⟩ := d0
      have hDl := x3.lt
      have HCALL := Lib.hid hcall
      have HADD := Lib.hid hadd
      have kb := Below.refl wr.heap.size wr
      have kd := kb.drew
      have hbs := run_buildD has
      obtain ⟨BS, hBS⟩ : ∃ BS, Instr.buildSlice 61 1 #[(0, Value.agg arr)] = BS := ⟨_, rfl⟩
      rw [hBS] at hbs
      obtain ⟨m, hm⟩ : ∃ m, (goL L k).1.length = m := ⟨_, rfl⟩
      rw [hul, hm] at hlc b1
      rw [hm] at hlt hx2 hxl2
      have hkm : k < m := hlt
      have HN2 := Lib.hid (And.intro hrn2 (And.intro hxl2 hkx))
      clear x1 x2 x3 x4 x5 HX hcall hadd hcu hq1 hq2 hmem hx hu hgc hrn1 hrow hxs2 hru hfresh hul hm harr hrl hlu
      go_wp2_with fail
      refine wp_region_any (by kernel_rfl) ?_
      (try (change wpAny _ _ _ _ _ _ _ (World.drew _)))
      refine wpAny_take (i := 0) (oi := { dst := some 26, op := Op.move (Operand.tmp 2), type := 30, pos := _, after := #[], guard := none }) (v := ?v1000) rfl (by kernel_rfl) (by kernel_rfl) (by kernel_rfl) (fun _ _ _ h => h) (Or.inl ⟨by rfl, ?h1000⟩) ?r1000
      case h1000 => (intro w; go_simp; (try with_reducible rfl))
      case r1000 =>
        (try simp only [Act.put, List.setIfInBounds_toArray, List.set_cons_zero, List.set_cons_succ])
        refine wpAny_take (i := 1) (oi := { dst := some 27, op := Op.move (Operand.tmp 2), type := 30, pos := _, after := #[], guard := none }) (v := ?v1001) rfl (by kernel_rfl) (by kernel_rfl) (by kernel_rfl) (fun _ _ _ h => h) (Or.inl ⟨by rfl, ?h1001⟩) ?r1001
        case h1001 => (intro w; go_simp; (try with_reducible rfl))
        case r1001 =>
          (try simp only [Act.put, List.setIfInBounds_toArray, List.set_cons_zero, List.set_cons_succ])
          refine wpAny_take (i := 2) (oi := { dst := some 28, op := Op.nilCheck (Operand.tmp 27), type := 0, pos := _, after := #[{ on := 1, ground := Ground.data }], guard := none }) (v := ?v1002) rfl (by kernel_rfl) (by kernel_rfl) (by kernel_rfl) (fun _ _ _ h => h) (Or.inl ⟨by rfl, ?h1002⟩) ?r1002
          case h1002 => (intro w; go_simp; (try with_reducible rfl))
          case r1002 =>
            (try simp only [Act.put, List.setIfInBounds_toArray, List.set_cons_zero, List.set_cons_succ])
            refine wpAny_take (i := 3) (oi := { dst := some 29, op := Op.fieldAddr 63 (Operand.tmp 28) 0, type := 0, pos := _, after := #[{ on := 2, ground := Ground.data }], guard := none }) (v := ?v1003) rfl (by kernel_rfl) (by kernel_rfl) (by kernel_rfl) (fun _ _ _ h => h) (Or.inl ⟨by rfl, ?h1003⟩) ?r1003
            case h1003 => (intro w; go_simp; (try with_reducible rfl))
            case r1003 =>
              (try simp only [Act.put, List.setIfInBounds_toArray, List.set_cons_zero, List.set_cons_succ])
              refine wpAny_take (i := 5) (oi := { dst := some 31, op := Op.fieldAddr 103 (Operand.tmp 5) 1, type := 0, pos := _, after := #[], guard := none }) (v := ?v1004) rfl (by kernel_rfl) (by kernel_rfl) (by kernel_rfl) (fun _ _ _ h => h) (Or.inl ⟨by rfl, ?h1004⟩) ?r1004
              case h1004 => (intro w; go_simp; (try with_reducible rfl))
              case r1004 =>
                (try simp only [Act.put, List.setIfInBounds_toArray, List.set_cons_zero, List.set_cons_succ])
                refine wpAny_take (i := 7) (oi := { dst := some 33, op := Op.move (Operand.tmp 6), type := 3, pos := _, after := #[], guard := none }) (v := ?v1005) rfl (by kernel_rfl) (by kernel_rfl) (by kernel_rfl) (fun _ _ _ h => h) (Or.inl ⟨by rfl, ?h1005⟩) ?r1005
                case h1005 => (intro w; go_simp; (try with_reducible rfl))
                case r1005 =>
                  (try simp only [Act.put, List.setIfInBounds_toArray, List.set_cons_zero, List.set_cons_succ])
                  refine wpAny_ready (rs := [4, 6]) (by kernel_rfl) (by simp) ?_
                  refine AllReady.cons (o := { dst := some 30, op := Op.load 61 (Operand.tmp 29), type := 61, pos := _, after := #[{ on := 3, ground := Ground.data }], guard := none }) rfl (fun K hK => ?_) (AllReady.cons (o := { dst := some 32, op := Op.load 38 (Operand.tmp 31), type := 38, pos := _, after := #[{ on := 5, ground := Ground.data }], guard := none }) rfl (fun K hK => ?_) AllReady.nil)
                  · skip
                    go_simp
                    refine hK _ _ ?_
                    clear hK K
                    (try simp only [Act.put, List.setIfInBounds_toArray, List.set_cons_zero, List.set_cons_succ])
                    refine wpAny_ready (rs := [6]) (by kernel_rfl) (by simp) ?_
                    refine AllReady.cons (o := { dst := some 32, op := Op.load 38 (Operand.tmp 31), type := 38, pos := _, after := #[{ on := 5, ground := Ground.data }], guard := none }) rfl (fun K hK => ?_) AllReady.nil
                    go_simp
                    refine hK _ _ ?_
                    clear hK K
                    (try simp only [Act.put, List.setIfInBounds_toArray, List.set_cons_zero, List.set_cons_succ])
                    refine wpAny_take (i := 8) (oi := { dst := some 34, op := Op.indexAddr 38 (Operand.tmp 32) (Operand.tmp 33), type := 0, pos := _, after := #[{ on := 6, ground := Ground.data }, { on := 7, ground := Ground.data }], guard := none }) (v := ?v1006) rfl (by kernel_rfl) (by kernel_rfl) (by kernel_rfl) (fun _ _ _ h => h) (Or.inl ⟨by rfl, ?h1006⟩) ?r1006
                    case h1006 => (intro w; go_simp; (try with_reducible rfl))
                    case r1006 =>
                      (try simp only [Act.put, List.setIfInBounds_toArray, List.set_cons_zero, List.set_cons_succ])
                      refine wpAny_ready (rs := [9]) (by kernel_rfl) (by simp) ?_
                      refine AllReady.cons (o := { dst := some 35, op := Op.load 39 (Operand.tmp 34), type := 39, pos := _, after := #[{ on := 8, ground := Ground.data }], guard := none }) rfl (fun K hK => ?_) AllReady.nil
                      go_simp
                      refine hK _ _ ?_
                      clear hK K
                      (try simp only [Act.put, List.setIfInBounds_toArray, List.set_cons_zero, List.set_cons_succ])
                      refine wpAny_ready (rs := [10]) (by kernel_rfl) (by simp) ?_
                      refine AllReady.cons (o := { dst := some 36, op := Op.call { callee := Callee.value (Operand.func 46), args := #[Operand.tmp 5, Operand.tmp 35], argTypes := #[103, 39] }, type := 92, pos := _, after := #[{ on := 9, ground := Ground.data }], guard := none }) rfl (fun K hK => ?_) AllReady.nil
                      go_simp
                      go_at_call 46
                      go_fit (HCALL.out _ kd)
                      rintro e w5 ⟨rfl, HJ⟩
                      obtain ⟨d1, hDl, d2, ao, cap, w8, hrun, p2, p3, p4, HK⟩ := HADD.out _ HJ.out
                      (try dsimp only)
                      refine hK _ _ ?_
                      clear hK K
                      (try simp only [Act.put, List.setIfInBounds_toArray, List.set_cons_zero, List.set_cons_succ])
                      refine wpAny_ready (rs := [11]) (by kernel_rfl) (by simp) ?_
                      refine AllReady.cons (o := { dst := some 37, op := Op.buildSlice 61 1 #[(0, Operand.tmp 36)], type := 61, pos := _, after := #[{ on := 10, ground := Ground.data }], guard := none }) rfl (fun K hK => ?_) AllReady.nil
                      refine dbuild_step has (by rfl) (.tmp 36) (by rfl) (by rfl) ?_
                      refine hK _ _ ?_
                      clear hK K
                      (try simp only [Act.put, List.setIfInBounds_toArray, List.set_cons_zero, List.set_cons_succ])
                      refine wpAny_ready (rs := [12]) (by kernel_rfl) (by simp) ?_
                      refine AllReady.cons (o := { dst := some 38, op := Op.call { callee := Callee.builtin Builtin.append, args := #[Operand.tmp 30, Operand.tmp 37], argTypes := #[61, 61] }, type := 61, pos := _, after := #[{ on := 4, ground := Ground.data }, { on := 11, ground := Ground.data }, { on := 10, ground := Ground.chain }], guard := none }) rfl (fun K hK => ?_) AllReady.nil
                      refine dapp_step (by rfl) (.tmp 30) (.tmp 37) 61 (by rfl) (by rfl) (by rfl) hrun ?_
                      refine hK _ _ ?_
                      clear hK K
                      (try simp only [Act.put, List.setIfInBounds_toArray, List.set_cons_zero, List.set_cons_succ])
                      refine wpAny_take (i := 13) (oi := { dst := some 39, op := Op.nilCheck (Operand.tmp 26), type := 0, pos := _, after := #[{ on := 0, ground := Ground.data }, { on := 0, ground := Ground.phase }, { on := 1, ground := Ground.phase }, { on := 2, ground := Ground.phase }, { on := 3, ground := Ground.phase }, { on := 4, ground := Ground.phase }, { on := 5, ground := Ground.phase }, { on := 6, ground := Ground.phase }, { on := 7, ground := Ground.phase }, { on := 8, ground := Ground.phase }, { on := 9, ground := Ground.phase }, { on := 10, ground := Ground.phase }, { on := 11, ground := Ground.phase }, { on := 12, ground := Ground.phase }], guard := none }) (v := ?v1007) rfl (by kernel_rfl) (by kernel_rfl) (by kernel_rfl) (fun _ _ _ h => h) (Or.inl ⟨by rfl, ?h1007⟩) ?r1007
                      case h1007 => (intro w; go_simp; (try with_reducible rfl))
                      case r1007 =>
                        (try simp only [Act.put, List.setIfInBounds_toArray, List.set_cons_zero, List.set_cons_succ])
                        refine wpAny_take (i := 14) (oi := { dst := some 40, op := Op.fieldAddr 63 (Operand.tmp 39) 0, type := 0, pos := _, after := #[{ on := 13, ground := Ground.data }, { on := 0, ground := Ground.phase }, { on := 1, ground := Ground.phase }, { on := 2, ground := Ground.phase }, { on := 3, ground := Ground.phase }, { on := 4, ground := Ground.phase }, { on := 5, ground := Ground.phase }, { on := 6, ground := Ground.phase }, { on := 7, ground := Ground.phase }, { on := 8, ground := Ground.phase }, { on := 9, ground := Ground.phase }, { on := 10, ground := Ground.phase }, { on := 11, ground := Ground.phase }, { on := 12, ground := Ground.phase }], guard := none }) (v := ?v1008) rfl (by kernel_rfl) (by kernel_rfl) (by kernel_rfl) (fun _ _ _ h => h) (Or.inl ⟨by rfl, ?h1008⟩) ?r1008
                        case h1008 => (intro w; go_simp; (try with_reducible rfl))
                        case r1008 =>
                          (try simp only [Act.put, List.setIfInBounds_toArray, List.set_cons_zero, List.set_cons_succ])
                          refine wpAny_ready (rs := [15]) (by kernel_rfl) (by simp) ?_
                          refine AllReady.cons (o := { dst := none, op := Op.store 61 (Operand.tmp 40) (Operand.tmp 38), type := 0, pos := _, after := #[{ on := 14, ground := Ground.data }, { on := 12, ground := Ground.data }, { on := 12, ground := Ground.chain }, { on := 0, ground := Ground.phase }, { on := 1, ground := Ground.phase }, { on := 2, ground := Ground.phase }, { on := 3, ground := Ground.phase }, { on := 4, ground := Ground.phase }, { on := 5, ground := Ground.phase }, { on := 6, ground := Ground.phase }, { on := 7, ground := Ground.phase }, { on := 8, ground := Ground.phase }, { on := 9, ground := Ground.phase }, { on := 10, ground := Ground.phase }, { on := 11, ground := Ground.phase }, { on := 12, ground := Ground.phase }], guard := none }) rfl (fun K hK => ?_) AllReady.nil
                          go_simp
                          refine hK _ _ ?_
                          clear hK K
                          (try simp only [Act.put, List.setIfInBounds_toArray, List.set_cons_zero, List.set_cons_succ])
                          refine wpAny_done (by kernel_rfl) ?_ _
                          clear HCALL HADD hbs
                          obtain ⟨WF, hWF⟩ : ∃ W, w8.setCell ⟨D, 0, none⟩ (.slice ao (k + 1) cap) = W := ⟨_, rfl⟩
                          rw [hWF] at HK
                          (try rw [hWF])
                          clear hWF hrun p2 p3 p4 d1 d2 hDl kb kd
                          obtain ⟨c9, lv9, us9, sv9, t1, t2, t3, t4, t5⟩ := HK.out
                          obtain ⟨⟨r0, r1, r2⟩, g0, g1, g2⟩ := t2.box.cells
                          obtain ⟨ro9, rc9, rfl, hrc9⟩ := t2.row.form
                          have hul9 := t2.el.1
                          rw [HN2.out.1] at hul9
                          obtain ⟨m9, hm9⟩ : ∃ m9, xs2.length = m9 := ⟨_, rfl⟩
                          have HM9 := Lib.hid hm9
                          rw [hul9, hm9] at r1 hrc9
                          have hx29 := HN2.out.2.1
                          rw [hm9] at hx29
                          clear t1 t2 t3 t4 t5 hul9 hm9
                          by_cases hbig : 2000 < m9
                          · have hbi : (m9 : Int) > 2000 := by omega
                            have hF : Hid (MkOut L WF (.returned (.tuple #[.pointer none, .int .i64 70])) ∧ Below w.heap.size w WF) := Lib.hid (by
                              obtain ⟨c9, lv9, us9, sv9, t1, t2, t3, t4, t5⟩ := HK.out
                              have hle : k + 1 ≤ (goL L (k + 1)).1.length := by rw [HN2.out.1, HM9.out]; omega
                              have hgi := goL_GoI L hle
                              refine ⟨.inr ⟨rfl, (goL L (k + 1)).1, hgi.good, fun i j a b hij hi hj e => ?_, by rw [HN2.out.1, HM9.out]; exact hbig⟩, t1.under0 (fun e => e rfl)⟩
                              have := hgi.unlike i j a b hij hi hj
                              rw [e] at this
                              exact absurd (show sameL b b = true from decide_eq_true rfl) (by rw [this]; decide))
                            go_wp2_with fail
                            go_ret2
                            exact hF.out
                          · have hbi : ¬ (m9 : Int) > 2000 := by omega
                            go_wp2_with fail
                            go_roundw
                            case rel => exact ⟨k + 1, rfl, by go_num, by rw [HN2.out.1, HM9.out]; have := HN2.out.2.2; rw [HM9.out] at this; omega, by rw [HN2.out.1, HM9.out]; omega, HK⟩
                            case measure => simp [intOf] <;> omega
                  · skip
                    go_simp
                    refine hK _ _ ?_
                    clear hK K
                    (try simp only [Act.put, List.setIfInBounds_toArray, List.set_cons_zero, List.set_cons_succ])
                    refine wpAny_take (i := 8) (oi := { dst := some 34, op := Op.indexAddr 38 (Operand.tmp 32) (Operand.tmp 33), type := 0, pos := _, after := #[{ on := 6, ground := Ground.data }, { on := 7, ground := Ground.data }], guard := none }) (v := ?v1009) rfl (by kernel_rfl) (by kernel_rfl) (by kernel_rfl) (fun _ _ _ h => h) (Or.inl ⟨by rfl, ?h1009⟩) ?r1009
                    case h1009 => (intro w; go_simp; (try with_reducible rfl))
                    case r1009 =>
                      (try simp only [Act.put, List.setIfInBounds_toArray, List.set_cons_zero, List.set_cons_succ])
                      refine wpAny_ready (rs := [4, 9]) (by kernel_rfl) (by simp) ?_
                      refine AllReady.cons (o := { dst := some 30, op := Op.load 61 (Operand.tmp 29), type := 61, pos := _, after := #[{ on := 3, ground := Ground.data }], guard := none }) rfl (fun K hK => ?_) (AllReady.cons (o := { dst := some 35, op := Op.load 39 (Operand.tmp 34), type := 39, pos := _, after := #[{ on := 8, ground := Ground.data }], guard := none }) rfl (fun K hK => ?_) AllReady.nil)
                      · skip
                        go_simp
                        refine hK _ _ ?_
                        clear hK K
                        (try simp only [Act.put, List.setIfInBounds_toArray, List.set_cons_zero, List.set_cons_succ])
                        refine wpAny_ready (rs := [9]) (by kernel_rfl) (by simp) ?_
                        refine AllReady.cons (o := { dst := some 35, op := Op.load 39 (Operand.tmp 34), type := 39, pos := _, after := #[{ on := 8, ground := Ground.data }], guard := none }) rfl (fun K hK => ?_) AllReady.nil
                        go_simp
                        refine hK _ _ ?_
                        clear hK K
                        (try simp only [Act.put, List.setIfInBounds_toArray, List.set_cons_zero, List.set_cons_succ])
                        refine wpAny_ready (rs := [10]) (by kernel_rfl) (by simp) ?_
                        refine AllReady.cons (o := { dst := some 36, op := Op.call { callee := Callee.value (Operand.func 46), args := #[Operand.tmp 5, Operand.tmp 35], argTypes := #[103, 39] }, type := 92, pos := _, after := #[{ on := 9, ground := Ground.data }], guard := none }) rfl (fun K hK => ?_) AllReady.nil
                        go_simp
                        go_at_call 46
                        go_fit (HCALL.out _ kd)
                        rintro e w5 ⟨rfl, HJ⟩
                        obtain ⟨d1, hDl, d2, ao, cap, w8, hrun, p2, p3, p4, HK⟩ := HADD.out _ HJ.out
                        (try dsimp only)
                        refine hK _ _ ?_
                        clear hK K
                        (try simp only [Act.put, List.setIfInBounds_toArray, List.set_cons_zero, List.set_cons_succ])
                        refine wpAny_ready (rs := [11]) (by kernel_rfl) (by simp) ?_
                        refine AllReady.cons (o := { dst := some 37, op := Op.buildSlice 61 1 #[(0, Operand.tmp 36)], type := 61, pos := _, after := #[{ on := 10, ground := Ground.data }], guard := none }) rfl (fun K hK => ?_) AllReady.nil
                        refine dbuild_step has (by rfl) (.tmp 36) (by rfl) (by rfl) ?_
                        refine hK _ _ ?_
                        clear hK K
                        (try simp only [Act.put, List.setIfInBounds_toArray, List.set_cons_zero, List.set_cons_succ])
                        refine wpAny_ready (rs := [12]) (by kernel_rfl) (by simp) ?_
                        refine AllReady.cons (o := { dst := some 38, op := Op.call { callee := Callee.builtin Builtin.append, args := #[Operand.tmp 30, Operand.tmp 37], argTypes := #[61, 61] }, type := 61, pos := _, after := #[{ on := 4, ground := Ground.data }, { on := 11, ground := Ground.data }, { on := 10, ground := Ground.chain }], guard := none }) rfl (fun K hK => ?_) AllReady.nil
                        refine dapp_step (by rfl) (.tmp 30) (.tmp 37) 61 (by rfl) (by rfl) (by rfl) hrun ?_
                        refine hK _ _ ?_
                        clear hK K
                        (try simp only [Act.put, List.setIfInBounds_toArray, List.set_cons_zero, List.set_cons_succ])
                        refine wpAny_take (i := 13) (oi := { dst := some 39, op := Op.nilCheck (Operand.tmp 26), type := 0, pos := _, after := #[{ on := 0, ground := Ground.data }, { on := 0, ground := Ground.phase }, { on := 1, ground := Ground.phase }, { on := 2, ground := Ground.phase }, { on := 3, ground := Ground.phase }, { on := 4, ground := Ground.phase }, { on := 5, ground := Ground.phase }, { on := 6, ground := Ground.phase }, { on := 7, ground := Ground.phase }, { on := 8, ground := Ground.phase }, { on := 9, ground := Ground.phase }, { on := 10, ground := Ground.phase }, { on := 11, ground := Ground.phase }, { on := 12, ground := Ground.phase }], guard := none }) (v := ?v1010) rfl (by kernel_rfl) (by kernel_rfl) (by kernel_rfl) (fun _ _ _ h => h) (Or.inl ⟨by rfl, ?h1010⟩) ?r1010
                        case h1010 => (intro w; go_simp; (try with_reducible rfl))
                        case r1010 =>
                          (try simp only [Act.put, List.setIfInBounds_toArray, List.set_cons_zero, List.set_cons_succ])
                          refine wpAny_take (i := 14) (oi := { dst := some 40, op := Op.fieldAddr 63 (Operand.tmp 39) 0, type := 0, pos := _, after := #[{ on := 13, ground := Ground.data }, { on := 0, ground := Ground.phase }, { on := 1, ground := Ground.phase }, { on := 2, ground := Ground.phase }, { on := 3, ground := Ground.phase }, { on := 4, ground := Ground.phase }, { on := 5, ground := Ground.phase }, { on := 6, ground := Ground.phase }, { on := 7, ground := Ground.phase }, { on := 8, ground := Ground.phase }, { on := 9, ground := Ground.phase }, { on := 10, ground := Ground.phase }, { on := 11, ground := Ground.phase }, { on := 12, ground := Ground.phase }], guard := none }) (v := ?v1011) rfl (by kernel_rfl) (by kernel_rfl) (by kernel_rfl) (fun _ _ _ h => h) (Or.inl ⟨by rfl, ?h1011⟩) ?r1011
                          case h1011 => (intro w; go_simp; (try with_reducible rfl))
                          case r1011 =>
                            (try simp only [Act.put, List.setIfInBounds_toArray, List.set_cons_zero, List.set_cons_succ])
                            refine wpAny_ready (rs := [15]) (by kernel_rfl) (by simp) ?_
                            refine AllReady.cons (o := { dst := none, op := Op.store 61 (Operand.tmp 40) (Operand.tmp 38), type := 0, pos := _, after := #[{ on := 14, ground := Ground.data }, { on := 12, ground := Ground.data }, { on := 12, ground := Ground.chain }, { on := 0, ground := Ground.phase }, { on := 1, ground := Ground.phase }, { on := 2, ground := Ground.phase }, { on := 3, ground := Ground.phase }, { on := 4, ground := Ground.phase }, { on := 5, ground := Ground.phase }, { on := 6, ground := Ground.phase }, { on := 7, ground := Ground.phase }, { on := 8, ground := Ground.phase }, { on := 9, ground := Ground.phase }, { on := 10, ground := Ground.phase }, { on := 11, ground := Ground.phase }, { on := 12, ground := Ground.phase }], guard := none }) rfl (fun K hK => ?_) AllReady.nil
                            go_simp
                            refine hK _ _ ?_
                            clear hK K
                            (try simp only [Act.put, List.setIfInBounds_toArray, List.set_cons_zero, List.set_cons_succ])
                            refine wpAny_done (by kernel_rfl) ?_ _
                            clear HCALL HADD hbs
                            obtain ⟨WF, hWF⟩ : ∃ W, w8.setCell ⟨D, 0, none⟩ (.slice ao (k + 1) cap) = W := ⟨_, rfl⟩
                            rw [hWF] at HK
                            (try rw [hWF])
                            clear hWF hrun p2 p3 p4 d1 d2 hDl kb kd
                            obtain ⟨c9, lv9, us9, sv9, t1, t2, t3, t4, t5⟩ := HK.out
                            obtain ⟨⟨r0, r1, r2⟩, g0, g1, g2⟩ := t2.box.cells
                            obtain ⟨ro9, rc9, rfl, hrc9⟩ := t2.row.form
                            have hul9 := t2.el.1
                            rw [HN2.out.1] at hul9
                            obtain ⟨m9, hm9⟩ : ∃ m9, xs2.length = m9 := ⟨_, rfl⟩
                            have HM9 := Lib.hid hm9
                            rw [hul9, hm9] at r1 hrc9
                            have hx29 := HN2.out.2.1
                            rw [hm9] at hx29
                            clear t1 t2 t3 t4 t5 hul9 hm9
                            by_cases hbig : 2000 < m9
                            · have hbi : (m9 : Int) > 2000 := by omega
                              have hF : Hid (MkOut L WF (.returned (.tuple #[.pointer none, .int .i64 70])) ∧ Below w.heap.size w WF) := Lib.hid (by
                                obtain ⟨c9, lv9, us9, sv9, t1, t2, t3, t4, t5⟩ := HK.out
                                have hle : k + 1 ≤ (goL L (k + 1)).1.length := by rw [HN2.out.1, HM9.out]; omega
                                have hgi := goL_GoI L hle
                                refine ⟨.inr ⟨rfl, (goL L (k + 1)).1, hgi.good, fun i j a b hij hi hj e => ?_, by rw [HN2.out.1, HM9.out]; exact hbig⟩, t1.under0 (fun e => e rfl)⟩
                                have := hgi.unlike i j a b hij hi hj
                                rw [e] at this
                                exact absurd (show sameL b b = true from decide_eq_true rfl) (by rw [this]; decide))
                              go_wp2_with fail
                              go_ret2
                              exact hF.out
                            · have hbi : ¬ (m9 : Int) > 2000 := by omega
                              go_wp2_with fail
                              go_roundw
                              case rel => exact ⟨k + 1, rfl, by go_num, by rw [HN2.out.1, HM9.out]; have := HN2.out.2.2; rw [HM9.out] at this; omega, by rw [HN2.out.1, HM9.out]; omega, HK⟩
                              case measure => simp [intOf] <;> omega
                      · skip
                        go_simp
                        refine hK _ _ ?_
                        clear hK K
                        (try simp only [Act.put, List.setIfInBounds_toArray, List.set_cons_zero, List.set_cons_succ])
                        refine wpAny_ready (rs := [4, 10]) (by kernel_rfl) (by simp) ?_
                        refine AllReady.cons (o := { dst := some 30, op := Op.load 61 (Operand.tmp 29), type := 61, pos := _, after := #[{ on := 3, ground := Ground.data }], guard := none }) rfl (fun K hK => ?_) (AllReady.cons (o := { dst := some 36, op := Op.call { callee := Callee.value (Operand.func 46), args := #[Operand.tmp 5, Operand.tmp 35], argTypes := #[103, 39] }, type := 92, pos := _, after := #[{ on := 9, ground := Ground.data }], guard := none }) rfl (fun K hK => ?_) AllReady.nil)
                        · skip
                          go_simp
                          refine hK _ _ ?_
                          clear hK K
                          (try simp only [Act.put, List.setIfInBounds_toArray, List.set_cons_zero, List.set_cons_succ])
                          refine wpAny_ready (rs := [10]) (by kernel_rfl) (by simp) ?_
                          refine AllReady.cons (o := { dst := some 36, op := Op.call { callee := Callee.value (Operand.func 46), args := #[Operand.tmp 5, Operand.tmp 35], argTypes := #[103, 39] }, type := 92, pos := _, after := #[{ on := 9, ground := Ground.data }], guard := none }) rfl (fun K hK => ?_) AllReady.nil
                          go_simp
                          go_at_call 46
                          go_fit (HCALL.out _ kd)
                          rintro e w5 ⟨rfl, HJ⟩
                          obtain ⟨d1, hDl, d2, ao, cap, w8, hrun, p2, p3, p4, HK⟩ := HADD.out _ HJ.out
                          (try dsimp only)
                          refine hK _ _ ?_
                          clear hK K
                          (try simp only [Act.put, List.setIfInBounds_toArray, List.set_cons_zero, List.set_cons_succ])
                          refine wpAny_ready (rs := [11]) (by kernel_rfl) (by simp) ?_
                          refine AllReady.cons (o := { dst := some 37, op := Op.buildSlice 61 1 #[(0, Operand.tmp 36)], type := 61, pos := _, after := #[{ on := 10, ground := Ground.data }], guard := none }) rfl (fun K hK => ?_) AllReady.nil
                          refine dbuild_step has (by rfl) (.tmp 36) (by rfl) (by rfl) ?_
                          refine hK _ _ ?_
                          clear hK K
                          (try simp only [Act.put, List.setIfInBounds_toArray, List.set_cons_zero, List.set_cons_succ])
                          refine wpAny_ready (rs := [12]) (by kernel_rfl) (by simp) ?_
                          refine AllReady.cons (o := { dst := some 38, op := Op.call { callee := Callee.builtin Builtin.append, args := #[Operand.tmp 30, Operand.tmp 37], argTypes := #[61, 61] }, type := 61, pos := _, after := #[{ on := 4, ground := Ground.data }, { on := 11, ground := Ground.data }, { on := 10, ground := Ground.chain }], guard := none }) rfl (fun K hK => ?_) AllReady.nil
                          refine dapp_step (by rfl) (.tmp 30) (.tmp 37) 61 (by rfl) (by rfl) (by rfl) hrun ?_
                          refine hK _ _ ?_
                          clear hK K
                          (try simp only [Act.put, List.setIfInBounds_toArray, List.set_cons_zero, List.set_cons_succ])
                          refine wpAny_take (i := 13) (oi := { dst := some 39, op := Op.nilCheck (Operand.tmp 26), type := 0, pos := _, after := #[{ on := 0, ground := Ground.data }, { on := 0, ground := Ground.phase }, { on := 1, ground := Ground.phase }, { on := 2, ground := Ground.phase }, { on := 3, ground := Ground.phase }, { on := 4, ground := Ground.phase }, { on := 5, ground := Ground.phase }, { on := 6, ground := Ground.phase }, { on := 7, ground := Ground.phase }, { on := 8, ground := Ground.phase }, { on := 9, ground := Ground.phase }, { on := 10, ground := Ground.phase }, { on := 11, ground := Ground.phase }, { on := 12, ground := Ground.phase }], guard := none }) (v := ?v1012) rfl (by kernel_rfl) (by kernel_rfl) (by kernel_rfl) (fun _ _ _ h => h) (Or.inl ⟨by rfl, ?h1012⟩) ?r1012
                          case h1012 => (intro w; go_simp; (try with_reducible rfl))
                          case r1012 =>
                            (try simp only [Act.put, List.setIfInBounds_toArray, List.set_cons_zero, List.set_cons_succ])
                            refine wpAny_take (i := 14) (oi := { dst := some 40, op := Op.fieldAddr 63 (Operand.tmp 39) 0, type := 0, pos := _, after := #[{ on := 13, ground := Ground.data }, { on := 0, ground := Ground.phase }, { on := 1, ground := Ground.phase }, { on := 2, ground := Ground.phase }, { on := 3, ground := Ground.phase }, { on := 4, ground := Ground.phase }, { on := 5, ground := Ground.phase }, { on := 6, ground := Ground.phase }, { on := 7, ground := Ground.phase }, { on := 8, ground := Ground.phase }, { on := 9, ground := Ground.phase }, { on := 10, ground := Ground.phase }, { on := 11, ground := Ground.phase }, { on := 12, ground := Ground.phase }], guard := none }) (v := ?v1013) rfl (by kernel_rfl) (by kernel_rfl) (by kernel_rfl) (fun _ _ _ h => h) (Or.inl ⟨by rfl, ?h1013⟩) ?r1013
                            case h1013 => (intro w; go_simp; (try with_reducible rfl))
                            case r1013 =>
                              (try simp only [Act.put, List.setIfInBounds_toArray, List.set_cons_zero, List.set_cons_succ])
                              refine wpAny_ready (rs := [15]) (by kernel_rfl) (by simp) ?_
                              refine AllReady.cons (o := { dst := none, op := Op.store 61 (Operand.tmp 40) (Operand.tmp 38), type := 0, pos := _, after := #[{ on := 14, ground := Ground.data }, { on := 12, ground := Ground.data }, { on := 12, ground := Ground.chain }, { on := 0, ground := Ground.phase }, { on := 1, ground := Ground.phase }, { on := 2, ground := Ground.phase }, { on := 3, ground := Ground.phase }, { on := 4, ground := Ground.phase }, { on := 5, ground := Ground.phase }, { on := 6, ground := Ground.phase }, { on := 7, ground := Ground.phase }, { on := 8, ground := Ground.phase }, { on := 9, ground := Ground.phase }, { on := 10, ground := Ground.phase }, { on := 11, ground := Ground.phase }, { on := 12, ground := Ground.phase }], guard := none }) rfl (fun K hK => ?_) AllReady.nil
                              go_simp
                              refine hK _ _ ?_
                              clear hK K
                              (try simp only [Act.put, List.setIfInBounds_toArray, List.set_cons_zero, List.set_cons_succ])
                              refine wpAny_done (by kernel_rfl) ?_ _
                              clear HCALL HADD hbs
                              obtain ⟨WF, hWF⟩ : ∃ W, w8.setCell ⟨D, 0, none⟩ (.slice ao (k + 1) cap) = W := ⟨_, rfl⟩
                              rw [hWF] at HK
                              (try rw [hWF])
                              clear hWF hrun p2 p3 p4 d1 d2 hDl kb kd
                              obtain ⟨c9, lv9, us9, sv9, t1, t2, t3, t4, t5⟩ := HK.out
                              obtain ⟨⟨r0, r1, r2⟩, g0, g1, g2⟩ := t2.box.cells
                              obtain ⟨ro9, rc9, rfl, hrc9⟩ := t2.row.form
                              have hul9 := t2.el.1
                              rw [HN2.out.1] at hul9
                              obtain ⟨m9, hm9⟩ : ∃ m9, xs2.length = m9 := ⟨_, rfl⟩
                              have HM9 := Lib.hid hm9
                              rw [hul9, hm9] at r1 hrc9
                              have hx29 := HN2.out.2.1
                              rw [hm9] at hx29
                              clear t1 t2 t3 t4 t5 hul9 hm9
                              by_cases hbig : 2000 < m9
                              · have hbi : (m9 : Int) > 2000 := by omega
                                have hF : Hid (MkOut L WF (.returned (.tuple #[.pointer none, .int .i64 70])) ∧ Below w.heap.size w WF) := Lib.hid (by
                                  obtain ⟨c9, lv9, us9, sv9, t1, t2, t3, t4, t5⟩ := HK.out
                                  have hle : k + 1 ≤ (goL L (k + 1)).1.length := by rw [HN2.out.1, HM9.out]; omega
                                  have hgi := goL_GoI L hle
                                  refine ⟨.inr ⟨rfl, (goL L (k + 1)).1, hgi.good, fun i j a b hij hi hj e => ?_, by rw [HN2.out.1, HM9.out]; exact hbig⟩, t1.under0 (fun e => e rfl)⟩
                                  have := hgi.unlike i j a b hij hi hj
                                  rw [e] at this
                                  exact absurd (show sameL b b = true from decide_eq_true rfl) (by rw [this]; decide))
                                go_wp2_with fail
                                go_ret2
                                exact hF.out
                              · have hbi : ¬ (m9 : Int) > 2000 := by omega
                                go_wp2_with fail
                                go_roundw
                                case rel => exact ⟨k + 1, rfl, by go_num, by rw [HN2.out.1, HM9.out]; have := HN2.out.2.2; rw [HM9.out] at this; omega, by rw [HN2.out.1, HM9.out]; omega, HK⟩
                                case measure => simp [intOf] <;> omega
                        · skip
                          go_simp
                          go_at_call 46
                          go_fit (HCALL.out _ kd)
                          rintro e w5 ⟨rfl, HJ⟩
                          obtain ⟨d1, hDl, d2, ao, cap, w8, hrun, p2, p3, p4, HK⟩ := HADD.out _ HJ.out
                          (try dsimp only)
                          refine hK _ _ ?_
                          clear hK K
                          (try simp only [Act.put, List.setIfInBounds_toArray, List.set_cons_zero, List.set_cons_succ])
                          refine wpAny_ready (rs := [4, 11]) (by kernel_rfl) (by simp) ?_
                          refine AllReady.cons (o := { dst := some 30, op := Op.load 61 (Operand.tmp 29), type := 61, pos := _, after := #[{ on := 3, ground := Ground.data }], guard := none }) rfl (fun K hK => ?_) (AllReady.cons (o := { dst := some 37, op := Op.buildSlice 61 1 #[(0, Operand.tmp 36)], type := 61, pos := _, after := #[{ on := 10, ground := Ground.data }], guard := none }) rfl (fun K hK => ?_) AllReady.nil)
                          · skip
                            go_simp
                            refine hK _ _ ?_
                            clear hK K
                            (try simp only [Act.put, List.setIfInBounds_toArray, List.set_cons_zero, List.set_cons_succ])
                            refine wpAny_ready (rs := [11]) (by kernel_rfl) (by simp) ?_
                            refine AllReady.cons (o := { dst := some 37, op := Op.buildSlice 61 1 #[(0, Operand.tmp 36)], type := 61, pos := _, after := #[{ on := 10, ground := Ground.data }], guard := none }) rfl (fun K hK => ?_) AllReady.nil
                            refine dbuild_step has (by rfl) (.tmp 36) (by rfl) (by rfl) ?_
                            refine hK _ _ ?_
                            clear hK K
                            (try simp only [Act.put, List.setIfInBounds_toArray, List.set_cons_zero, List.set_cons_succ])
                            refine wpAny_ready (rs := [12]) (by kernel_rfl) (by simp) ?_
                            refine AllReady.cons (o := { dst := some 38, op := Op.call { callee := Callee.builtin Builtin.append, args := #[Operand.tmp 30, Operand.tmp 37], argTypes := #[61, 61] }, type := 61, pos := _, after := #[{ on := 4, ground := Ground.data }, { on := 11, ground := Ground.data }, { on := 10, ground := Ground.chain }], guard := none }) rfl (fun K hK => ?_) AllReady.nil
                            refine dapp_step (by rfl) (.tmp 30) (.tmp 37) 61 (by rfl) (by rfl) (by rfl) hrun ?_
                            refine hK _ _ ?_
                            clear hK K
                            (try simp only [Act.put, List.setIfInBounds_toArray, List.set_cons_zero, List.set_cons_succ])
                            refine wpAny_take (i := 13) (oi := { dst := some 39, op := Op.nilCheck (Operand.tmp 26), type := 0, pos := _, after := #[{ on := 0, ground := Ground.data }, { on := 0, ground := Ground.phase }, { on := 1, ground := Ground.phase }, { on := 2, ground := Ground.phase }, { on := 3, ground := Ground.phase }, { on := 4, ground := Ground.phase }, { on := 5, ground := Ground.phase }, { on := 6, ground := Ground.phase }, { on := 7, ground := Ground.phase }, { on := 8, ground := Ground.phase }, { on := 9, ground := Ground.phase }, { on := 10, ground := Ground.phase }, { on := 11, ground := Ground.phase }, { on := 12, ground := Ground.phase }], guard := none }) (v := ?v1014) rfl (by kernel_rfl) (by kernel_rfl) (by kernel_rfl) (fun _ _ _ h => h) (Or.inl ⟨by rfl, ?h1014⟩) ?r1014
                            case h1014 => (intro w; go_simp; (try with_reducible rfl))
                            case r1014 =>
                              (try simp only [Act.put, List.setIfInBounds_toArray, List.set_cons_zero, List.set_cons_succ])
                              refine wpAny_take (i := 14) (oi := { dst := some 40, op := Op.fieldAddr 63 (Operand.tmp 39) 0, type := 0, pos := _, after := #[{ on := 13, ground := Ground.data }, { on := 0, ground := Ground.phase }, { on := 1, ground := Ground.phase }, { on := 2, ground := Ground.phase }, { on := 3, ground := Ground.phase }, { on := 4, ground := Ground.phase }, { on := 5, ground := Ground.phase }, { on := 6, ground := Ground.phase }, { on := 7, ground := Ground.phase }, { on := 8, ground := Ground.phase }, { on := 9, ground := Ground.phase }, { on := 10, ground := Ground.phase }, { on := 11, ground := Ground.phase }, { on := 12, ground := Ground.phase }], guard := none }) (v := ?v1015) rfl (by kernel_rfl) (by kernel_rfl) (by kernel_rfl) (fun _ _ _ h => h) (Or.inl ⟨by rfl, ?h1015⟩) ?r1015
                              case h1015 => (intro w; go_simp; (try with_reducible rfl))
                              case r1015 =>
                                (try simp only [Act.put, List.setIfInBounds_toArray, List.set_cons_zero, List.set_cons_succ])
                                refine wpAny_ready (rs := [15]) (by kernel_rfl) (by simp) ?_
                                refine AllReady.cons (o := { dst := none, op := Op.store 61 (Operand.tmp 40) (Operand.tmp 38), type := 0, pos := _, after := #[{ on := 14, ground := Ground.data }, { on := 12, ground := Ground.data }, { on := 12, ground := Ground.chain }, { on := 0, ground := Ground.phase }, { on := 1, ground := Ground.phase }, { on := 2, ground := Ground.phase }, { on := 3, ground := Ground.phase }, { on := 4, ground := Ground.phase }, { on := 5, ground := Ground.phase }, { on := 6, ground := Ground.phase }, { on := 7, ground := Ground.phase }, { on := 8, ground := Ground.phase }, { on := 9, ground := Ground.phase }, { on := 10, ground := Ground.phase }, { on := 11, ground := Ground.phase }, { on := 12, ground := Ground.phase }], guard := none }) rfl (fun K hK => ?_) AllReady.nil
                                go_simp
                                refine hK _ _ ?_
                                clear hK K
                                (try simp only [Act.put, List.setIfInBounds_toArray, List.set_cons_zero, List.set_cons_succ])
                                refine wpAny_done (by kernel_rfl) ?_ _
                                clear HCALL HADD hbs
                                obtain ⟨WF, hWF⟩ : ∃ W, w8.setCell ⟨D, 0, none⟩ (.slice ao (k + 1) cap) = W := ⟨_, rfl⟩
                                rw [hWF] at HK
                                (try rw [hWF])
                                clear hWF hrun p2 p3 p4 d1 d2 hDl kb kd
                                obtain ⟨c9, lv9, us9, sv9, t1, t2, t3, t4, t5⟩ := HK.out
                                obtain ⟨⟨r0, r1, r2⟩, g0, g1, g2⟩ := t2.box.cells
                                obtain ⟨ro9, rc9, rfl, hrc9⟩ := t2.row.form
                                have hul9 := t2.el.1
                                rw [HN2.out.1] at hul9
                                obtain ⟨m9, hm9⟩ : ∃ m9, xs2.length = m9 := ⟨_, rfl⟩
                                have HM9 := Lib.hid hm9
                                rw [hul9, hm9] at r1 hrc9
                                have hx29 := HN2.out.2.1
                                rw [hm9] at hx29
                                clear t1 t2 t3 t4 t5 hul9 hm9
                                by_cases hbig : 2000 < m9
                                · have hbi : (m9 : Int) > 2000 := by omega
                                  have hF : Hid (MkOut L WF (.returned (.tuple #[.pointer none, .int .i64 70])) ∧ Below w.heap.size w WF) := Lib.hid (by
                                    obtain ⟨c9, lv9, us9, sv9, t1, t2, t3, t4, t5⟩ := HK.out
                                    have hle : k + 1 ≤ (goL L (k + 1)).1.length := by rw [HN2.out.1, HM9.out]; omega
                                    have hgi := goL_GoI L hle
                                    refine ⟨.inr ⟨rfl, (goL L (k + 1)).1, hgi.good, fun i j a b hij hi hj e => ?_, by rw [HN2.out.1, HM9.out]; exact hbig⟩, t1.under0 (fun e => e rfl)⟩
                                    have := hgi.unlike i j a b hij hi hj
                                    rw [e] at this
                                    exact absurd (show sameL b b = true from decide_eq_true rfl) (by rw [this]; decide))
                                  go_wp2_with fail
                                  go_ret2
                                  exact hF.out
                                · have hbi : ¬ (m9 : Int) > 2000 := by omega
                                  go_wp2_with fail
                                  go_roundw
                                  case rel => exact ⟨k + 1, rfl, by go_num, by rw [HN2.out.1, HM9.out]; have := HN2.out.2.2; rw [HM9.out] at this; omega, by rw [HN2.out.1, HM9.out]; omega, HK⟩
                                  case measure => simp [intOf] <;> omega
                          · skip
                            refine dbuild_step has (by rfl) (.tmp 36) (by rfl) (by rfl) ?_
                            refine hK _ _ ?_
                            clear hK K
                            (try simp only [Act.put, List.setIfInBounds_toArray, List.set_cons_zero, List.set_cons_succ])
                            refine wpAny_ready (rs := [4]) (by kernel_rfl) (by simp) ?_
                            refine AllReady.cons (o := { dst := some 30, op := Op.load 61 (Operand.tmp 29), type := 61, pos := _, after := #[{ on := 3, ground := Ground.data }], guard := none }) rfl (fun K hK => ?_) AllReady.nil
                            go_simp
                            refine hK _ _ ?_
                            clear hK K
                            (try simp only [Act.put, List.setIfInBounds_toArray, List.set_cons_zero, List.set_cons_succ])
                            refine wpAny_ready (rs := [12]) (by kernel_rfl) (by simp) ?_
                            refine AllReady.cons (o := { dst := some 38, op := Op.call { callee := Callee.builtin Builtin.append, args := #[Operand.tmp 30, Operand.tmp 37], argTypes := #[61, 61] }, type := 61, pos := _, after := #[{ on := 4, ground := Ground.data }, { on := 11, ground := Ground.data }, { on := 10, ground := Ground.chain }], guard := none }) rfl (fun K hK => ?_) AllReady.nil
                            refine dapp_step (by rfl) (.tmp 30) (.tmp 37) 61 (by rfl) (by rfl) (by rfl) hrun ?_
                            refine hK _ _ ?_
                            clear hK K
                            (try simp only [Act.put, List.setIfInBounds_toArray, List.set_cons_zero, List.set_cons_succ])
                            refine wpAny_take (i := 13) (oi := { dst := some 39, op := Op.nilCheck (Operand.tmp 26), type := 0, pos := _, after := #[{ on := 0, ground := Ground.data }, { on := 0, ground := Ground.phase }, { on := 1, ground := Ground.phase }, { on := 2, ground := Ground.phase }, { on := 3, ground := Ground.phase }, { on := 4, ground := Ground.phase }, { on := 5, ground := Ground.phase }, { on := 6, ground := Ground.phase }, { on := 7, ground := Ground.phase }, { on := 8, ground := Ground.phase }, { on := 9, ground := Ground.phase }, { on := 10, ground := Ground.phase }, { on := 11, ground := Ground.phase }, { on := 12, ground := Ground.phase }], guard := none }) (v := ?v1016) rfl (by kernel_rfl) (by kernel_rfl) (by kernel_rfl) (fun _ _ _ h => h) (Or.inl ⟨by rfl, ?h1016⟩) ?r1016
                            case h1016 => (intro w; go_simp; (try with_reducible rfl))
                            case r1016 =>
                              (try simp only [Act.put, List.setIfInBounds_toArray, List.set_cons_zero, List.set_cons_succ])
                              refine wpAny_take (i := 14) (oi := { dst := some 40, op := Op.fieldAddr 63 (Operand.tmp 39) 0, type := 0, pos := _, after := #[{ on := 13, ground := Ground.data }, { on := 0, ground := Ground.phase }, { on := 1, ground := Ground.phase }, { on := 2, ground := Ground.phase }, { on := 3, ground := Ground.phase }, { on := 4, ground := Ground.phase }, { on := 5, ground := Ground.phase }, { on := 6, ground := Ground.phase }, { on := 7, ground := Ground.phase }, { on := 8, ground := Ground.phase }, { on := 9, ground := Ground.phase }, { on := 10, ground := Ground.phase }, { on := 11, ground := Ground.phase }, { on := 12, ground := Ground.phase }], guard := none }) (v := ?v1017) rfl (by kernel_rfl) (by kernel_rfl) (by kernel_rfl) (fun _ _ _ h => h) (Or.inl ⟨by rfl, ?h1017⟩) ?r1017
                              case h1017 => (intro w; go_simp; (try with_reducible rfl))
                              case r1017 =>
                                (try simp only [Act.put, List.setIfInBounds_toArray, List.set_cons_zero, List.set_cons_succ])
                                refine wpAny_ready (rs := [15]) (by kernel_rfl) (by simp) ?_
                                refine AllReady.cons (o := { dst := none, op := Op.store 61 (Operand.tmp 40) (Operand.tmp 38), type := 0, pos := _, after := #[{ on := 14, ground := Ground.data }, { on := 12, ground := Ground.data }, { on := 12, ground := Ground.chain }, { on := 0, ground := Ground.phase }, { on := 1, ground := Ground.phase }, { on := 2, ground := Ground.phase }, { on := 3, ground := Ground.phase }, { on := 4, ground := Ground.phase }, { on := 5, ground := Ground.phase }, { on := 6, ground := Ground.phase }, { on := 7, ground := Ground.phase }, { on := 8, ground := Ground.phase }, { on := 9, ground := Ground.phase }, { on := 10, ground := Ground.phase }, { on := 11, ground := Ground.phase }, { on := 12, ground := Ground.phase }], guard := none }) rfl (fun K hK => ?_) AllReady.nil
                                go_simp
                                refine hK _ _ ?_
                                clear hK K
                                (try simp only [Act.put, List.setIfInBounds_toArray, List.set_cons_zero, List.set_cons_succ])
                                refine wpAny_done (by kernel_rfl) ?_ _
                                clear HCALL HADD hbs
                                obtain ⟨WF, hWF⟩ : ∃ W, w8.setCell ⟨D, 0, none⟩ (.slice ao (k + 1) cap) = W := ⟨_, rfl⟩
                                rw [hWF] at HK
                                (try rw [hWF])
                                clear hWF hrun p2 p3 p4 d1 d2 hDl kb kd
                                obtain ⟨c9, lv9, us9, sv9, t1, t2, t3, t4, t5⟩ := HK.out
                                obtain ⟨⟨r0, r1, r2⟩, g0, g1, g2⟩ := t2.box.cells
                                obtain ⟨ro9, rc9, rfl, hrc9⟩ := t2.row.form
                                have hul9 := t2.el.1
                                rw [HN2.out.1] at hul9
                                obtain ⟨m9, hm9⟩ : ∃ m9, xs2.length = m9 := ⟨_, rfl⟩
                                have HM9 := Lib.hid hm9
                                rw [hul9, hm9] at r1 hrc9
                                have hx29 := HN2.out.2.1
                                rw [hm9] at hx29
                                clear t1 t2 t3 t4 t5 hul9 hm9
                                by_cases hbig : 2000 < m9
                                · have hbi : (m9 : Int) > 2000 := by omega
                                  have hF : Hid (MkOut L WF (.returned (.tuple #[.pointer none, .int .i64 70])) ∧ Below w.heap.size w WF) := Lib.hid (by
                                    obtain ⟨c9, lv9, us9, sv9, t1, t2, t3, t4, t5⟩ := HK.out
                                    have hle : k + 1 ≤ (goL L (k + 1)).1.length := by rw [HN2.out.1, HM9.out]; omega
                                    have hgi := goL_GoI L hle
                                    refine ⟨.inr ⟨rfl, (goL L (k + 1)).1, hgi.good, fun i j a b hij hi hj e => ?_, by rw [HN2.out.1, HM9.out]; exact hbig⟩, t1.under0 (fun e => e rfl)⟩
                                    have := hgi.unlike i j a b hij hi hj
                                    rw [e] at this
                                    exact absurd (show sameL b b = true from decide_eq_true rfl) (by rw [this]; decide))
                                  go_wp2_with fail
                                  go_ret2
                                  exact hF.out
                                · have hbi : ¬ (m9 : Int) > 2000 := by omega
                                  go_wp2_with fail
                                  go_roundw
                                  case rel => exact ⟨k + 1, rfl, by go_num, by rw [HN2.out.1, HM9.out]; have := HN2.out.2.2; rw [HM9.out] at this; omega, by rw [HN2.out.1, HM9.out]; omega, HK⟩
                                  case measure => simp [intOf] <;> omega
    · have hkk : (goL L k).1.length = k := by omega
      have hF : Hid (MkOut L wr (.returned (.tuple #[.pointer (some ⟨D, 0, none⟩), .int .i64 0])) ∧ Below w.heap.size w wr) := Lib.hid (by
        refine ⟨.inl ⟨_, k, rfl, ⟨?_, (tabL_says hkk).1, tabL_high hE hkk⟩, hkk⟩, x1.under0 (fun e => e rfl)⟩
        have h1 := x3.read (by rw [rowsQ_len hk]; omega) (fun s hs => by
          have hok := (tabL_says (L := L) hkk).1
          have e := rows_tab hkk
          have hs1 : s.1 ∈ (tabL L k).next := by rw [← e]; exact List.mem_map.2 ⟨s, hs, rfl⟩
          have hs2 : s.2 ∈ (tabL L k).rule := by rw [← e]; exact List.mem_map.2 ⟨s, hs, rfl⟩
          exact ⟨fun x hx => (hok.into _ hs1 x hx).1, hok.low _ hs2⟩)
        rw [rows_tab hkk] at h1
        exact h1)
      have hub : us.length = k := by omega
      rw [hub] at hlc b1
      clear x1 x2 x3 x4 x5 HX
      go_wp2_with fail
      go_ret2
      exact hF.out
end
end Go.Proofs.YtjeomlickkpebaaGreatDoor
