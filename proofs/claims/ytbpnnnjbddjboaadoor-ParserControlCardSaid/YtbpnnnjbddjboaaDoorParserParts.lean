/-
  ParserParts: runes' bytes, controls, escapes and sequences, one behind the other, ask for just these, in order: the law's walk: it returns true.
-/
import Derived.Test.YtbpnnnjbddjboaaDoorPsAsked
import Derived.Test.YtbpnnnjbddjboaaDoorPsPart
namespace Go.Proofs.YtbpnnnjbddjboaaDoor
open Go.RowKit

/-- A slice of parts. -/
def PrtsW (w : World) (v : Value) (l : List Prt) : Prop :=
  ∃ ao cap, v = .slice ao l.length cap ∧ l.length ≤ cap ∧ ∀ (i : Nat) x, l[i]? = some x → ∃ g o pv, ao = some ⟨g, o, none⟩ ∧ w.cell? ⟨g, o + i * 4, none⟩ = some (.int .u8 x.1) ∧ w.cell? ⟨g, o + i * 4 + 1, none⟩ = some (.int .i32 x.2.1) ∧
    w.cell? ⟨g, o + i * 4 + 2, none⟩ = some (.int .u8 x.2.2.1) ∧ w.cell? ⟨g, o + i * 4 + 3, none⟩ = some pv ∧ PrtW w pv x

theorem part_size (x : Prt) : (prtB x).size ≤ 100 := by
  unfold prtB
  split
  · rw [one_size]; omega
  · split
    · have h := midL_len (numsP x) (numsP_facts x).2
      have h2 := (numsP_facts x).1
      have h3 : (seqB x).size = (midL (numsP x)).length + 3 := by
        rw [Lib.size_eq]
        show (27 :: 91 :: (midL (numsP x) ++ [UInt8.ofNat (finP x)])).length = _
        rw [List.length_cons, List.length_cons, List.length_append]
        rfl
      omega
    · split
      · show 2 ≤ 100
        omega
      · obtain ⟨a, _⟩ := runeP_facts x
        have := (dec_put (runeP x) a).2.2.1
        omega

set_option maxHeartbeats 2000000 in
theorem parserParts_far (v : Value) (l : List Prt) (w : World) (hP : LaidP w) (hW : PrtsW w v l) (h : 60 < l.length) :
    Calls Tryd.prog 5 #[v] w fun e w' => e = .returned (.bool true) ∧ Below w.heap.size w w' := by
  have H := Lib.hid (asked_any w hP)
  obtain ⟨ao, cap, rfl, _⟩ := hW
  have hi : (60 : Int) < (l.length : Int) := by omega
  clear hP
  go_enter Tryd.func5, Tryd.ntmps5
  go_wp2_with fail
  go_fit H.out
  rintro e w1 ⟨rfl, hb⟩
  go_wp2_with fail
  go_ret
  exact ⟨rfl, hb⟩

set_option maxRecDepth 20000 in
set_option maxHeartbeats 8000000 in
theorem parserParts_near (v : Value) (l : List Prt) (w : World) (hP : LaidP w) (hW : PrtsW w v l) (h : l.length ≤ 60) :
    Calls Tryd.prog 5 #[v] w fun e w' => e = .returned (.bool true) ∧ Below w.heap.size w w' := by
  obtain ⟨ao, cap, rfl, hcap, hcell⟩ := hW
  have HCE := Lib.hid hcell
  have HASK := Lib.hid (fun W (hW : Below w.heap.size w W) => asked_any W (hP.below hW))
  have HIS := Lib.hid (fun (s : ByteArray) v want W (hs : s.size ≤ 100000) (hW : Below w.heap.size w W) (hA : ActsW (FromP w.heap.size) W v want) => is_any s v want W (hP.below hW) hs hA)
  have HRP := Lib.hid (run_parts l)
  obtain ⟨m, hm⟩ : ∃ m, l.length = m := ⟨_, rfl⟩
  rw [hm] at hcap h ⊢
  have HM := Lib.hid hm
  have hmi : (m : Int) ≤ 60 := by omega
  clear hcell hm hP
  go_enter Tryd.func5, Tryd.ntmps5
  go_wp2_with fail
  go_loopw [3, 4, 5] (fun t o i wr => ∃ (j : Nat) (A : ByteArray), i = .int .i64 (j : Int) ∧ t = .string A ∧ j ≤ m ∧ A.size ≤ 100 * j ∧ Hid (bytesN A = ((l.take j).map fun x => bytesN (prtB x)).flatten) ∧ OutW w.heap.size 34 wr o ((l.take j).map prtA) ∧ Below w.heap.size w wr) (fun _ _ i _ => m - (intOf i).toNat)
  case atStart => exact ⟨0, ⟨#[]⟩, rfl, rfl, Nat.zero_le _, Nat.le_refl _, rfl, OutW.nil _ _ _, Below.refl _ _⟩
  case round =>
    obtain ⟨j, A, rfl, rfl, hj, hA, HBY, hO, hbr⟩ := hrel
    by_cases hlt : j < m
    · obtain ⟨x, hx⟩ : ∃ x, l[j]? = some x := ⟨_, List.getElem?_eq_getElem (by rw [HM.out]; exact hlt)⟩
      obtain ⟨g, o, pv, rfl, c0, c1, c2, c3, hX⟩ := HCE.out j x hx
      have C0 := hbr.cell (p := ⟨g, o + j * 4, none⟩) (rlt c0)
      have C1 := hbr.cell (p := ⟨g, o + j * 4 + 1, none⟩) (rlt c1)
      have C2 := hbr.cell (p := ⟨g, o + j * 4 + 2, none⟩) (rlt c2)
      have C3 := hbr.cell (p := ⟨g, o + j * 4 + 3, none⟩) (rlt c3)
      rw [c0] at C0
      rw [c1] at C1
      rw [c2] at C2
      rw [c3] at C3
      have HPA := Lib.hid (part_any x pv wr (hX.below hbr))
      have hps := part_size x
      have HBY2 : Hid (bytesN (A ++ prtB x) = ((l.take (j + 1)).map fun x => bytesN (prtB x)).flatten) := by
        show _ = _
        rw [List.take_add_one, hx, List.map_append, List.flatten_append, ← HBY.out]
        show (A ++ prtB x).data.toList.map UInt8.toNat = _
        rw [app_data, List.map_append]
        simp [bytesN]
      have HTA : Hid ((l.take (j + 1)).map prtA = (l.take j).map prtA ++ [prtA x]) := by show _ = _; rw [List.take_add_one, hx, List.map_append]; rfl
      have hLl : ((l.take j).map prtA).length ≤ 60 := by rw [List.length_map, List.length_take]; omega
      obtain ⟨pa, pn, pc, rfl⟩ : ∃ a b c, pv = .slice a b c := by obtain ⟨a, c, e, _⟩ := hX.row; exact ⟨a, _, c, e⟩
      obtain ⟨x1, hx1⟩ : ∃ z, x.1 = z := ⟨_, rfl⟩
      obtain ⟨x2, hx2⟩ : ∃ z, x.2.1 = z := ⟨_, rfl⟩
      obtain ⟨x3, hx3⟩ : ∃ z, x.2.2.1 = z := ⟨_, rfl⟩
      rw [hx1, hx2, hx3] at HPA
      rw [hx1] at C0
      rw [hx2] at C1
      rw [hx3] at C2
      obtain ⟨S, hS⟩ : ∃ S, prtB x = S := ⟨_, rfl⟩
      rw [hS] at HPA hps HBY2
      obtain ⟨y, hy⟩ : ∃ y, prtA x = y := ⟨_, rfl⟩
      rw [hy] at HPA HTA
      have hji : (j : Int) < (m : Int) := by omega
      have hj0 : (0 : Int) ≤ (j : Int) := by omega
      have hsz2 : (A ++ S).size ≤ 100 * (j + 1) := by rw [app_size]; omega
      clear hx hX hx1 hx2 hx3 hS hy c0 c1 c2 c3 HBY
      go_wp2_with fail
      go_fit HPA.out
      rintro e w1 ⟨v1, rfl, hN1, hb1⟩
      obtain ⟨va, vn, vc, rfl⟩ : ∃ a b c, v1 = .slice a b c := by obtain ⟨a, c, e, _⟩ := hN1.1; exact ⟨a, _, c, e⟩
      obtain ⟨y1, y2, y3, y4⟩ := y
      dsimp only at hN1 ⊢
      have hsA := hb1.size
      have hbB := (Below.refl w1.heap.size w1).alloc (Nat.le_refl _) (.cells #[.int .i64 (y1 : Int), .int .i32 (y2 : Int), .slice va vn vc, .int .u8 (y4 : Int)] 34)
      have hN2 : NumsW (FromP wr.heap.size) (w1.alloc (.cells #[.int .i64 (y1 : Int), .int .i32 (y2 : Int), .slice va vn vc, .int .u8 (y4 : Int)] 34)) (.slice va vn vc) y3 := hN1.keep (keep_below _ hbB)
      have hs1 : (w1.alloc (.cells #[.int .i64 (y1 : Int), .int .i32 (y2 : Int), .slice va vn vc, .int .u8 (y4 : Int)] 34)).heap.size = w1.heap.size + 1 := World.size_alloc _ _
      have hA2 : ActsW (FromP wr.heap.size) ((w1.alloc (.cells #[.int .i64 (y1 : Int), .int .i32 (y2 : Int), .slice va vn vc, .int .u8 (y4 : Int)] 34)).alloc (.cells #[.int .i64 (y1 : Int), .int .i32 (y2 : Int), .slice va vn vc, .int .u8 (y4 : Int)] 34)) (.slice (some ⟨(w1.alloc (.cells #[.int .i64 (y1 : Int), .int .i32 (y2 : Int), .slice va vn vc, .int .u8 (y4 : Int)] 34)).heap.size, 0, none⟩) 1 1) [(y1, y2, y3, y4)] := acts_one (by omega) hN2
      have hbC := (Below.refl (w1.alloc (.cells #[.int .i64 (y1 : Int), .int .i32 (y2 : Int), .slice va vn vc, .int .u8 (y4 : Int)] 34)).heap.size (w1.alloc (.cells #[.int .i64 (y1 : Int), .int .i32 (y2 : Int), .slice va vn vc, .int .u8 (y4 : Int)] 34))).alloc (Nat.le_refl _) (.cells #[.int .i64 (y1 : Int), .int .i32 (y2 : Int), .slice va vn vc, .int .u8 (y4 : Int)] 34)
      have hO2 := ((hO.below hb1).below hbB).below hbC
      have hbr2 : Below w.heap.size w ((w1.alloc (.cells #[.int .i64 (y1 : Int), .int .i32 (y2 : Int), .slice va vn vc, .int .u8 (y4 : Int)] 34)).alloc (.cells #[.int .i64 (y1 : Int), .int .i32 (y2 : Int), .slice va vn vc, .int .u8 (y4 : Int)] 34)) := ((hbr.trans (hb1.mono hbr.size)).alloc (Nat.le_trans hbr.size hsA) _).alloc (by rw [World.size_alloc]; have := hbr.size; omega) _
      rw [hs1] at hA2
      obtain ⟨v', w', hr, hO', hb'⟩ := run_out (n := wr.heap.size) (l2 := [(y1, y2, y3, y4)]) 25 25 34 Tryd.underlying25 Tryd.infoAct hO2 hA2 hbr2.size hbr.size (fun k hk => (hO.lt k hk).2) (by show _ + 1 ≤ _; omega)
      have hbw' := hbr2.trans hb'
      rw [← HTA.out] at hO'
      clear hO hO2 hA2 hN1 hN2 hb1 hbr hbB hbC hbr2 hs1 hsA hb' HPA C0 C1 C2 C3
      go_wp2_with (at_builtin; refine wpList_run (by rfl) _ _ 25 (by rfl) (by rfl) (by rfl) hr ?_)
      go_roundw
      case rel => exact ⟨j + 1, A ++ S, by go_num, rfl, by omega, hsz2, HBY2, hO', hbw'⟩
      case measure => simp [intOf]; omega
    · obtain rfl : j = m := by omega
      have hac := hO.acts
      have ht : l.take j = l := List.take_of_length_le (by rw [HM.out]; exact Nat.le_refl _)
      have hby := HBY.out
      rw [ht] at hac hby
      have hI := HIS.out A u4 _ wr (by omega) hbr hac
      rw [hby, HRP.out, decide_eq_true rfl] at hI
      have HI := Lib.hid hI
      clear hI hac ht hby HBY hO HIS
      go_wp2_with fail
      go_fit HI.out
      rintro e w1 ⟨rfl, hb1⟩
      have hbr1 := hbr.trans (hb1.mono hbr.size)
      go_wp2_with fail
      go_fit (HASK.out w1 hbr1)
      rintro e w2 ⟨rfl, hb2⟩
      go_wp2_with fail
      go_ret
      exact ⟨rfl, hbr1.trans (hb2.mono hbr1.size)⟩

theorem prts_any (v : Value) (l : List Prt) (w : World) (hP : LaidP w) (hW : PrtsW w v l) :
    Calls Tryd.prog 5 #[v] w fun e w' => e = .returned (.bool true) ∧ Below w.heap.size w w' := by
  by_cases h : 60 < l.length
  · exact parserParts_far v l w hP hW h
  · exact parserParts_near v l w hP hW (by omega)
end Go.Proofs.YtbpnnnjbddjboaaDoor
