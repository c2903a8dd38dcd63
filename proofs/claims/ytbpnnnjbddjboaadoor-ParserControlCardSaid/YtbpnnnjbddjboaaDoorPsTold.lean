/-
  limnerlaw07.told: what it returns: for every text of at most a hundred thousand bytes.
-/
import Derived.Test.YtbpnnnjbddjboaaDoorPsFeed
import Derived.Deep.Cut
namespace Go.Proofs.YtbpnnnjbddjboaaDoor
open Go.RowKit

def bytesN (s : ByteArray) : List Nat := s.data.toList.map UInt8.toNat
theorem bytesN_len (s : ByteArray) : (bytesN s).length = s.size := by unfold bytesN; rw [List.length_map, Lib.size_eq]
theorem bytesN_at (s : ByteArray) (k : Nat) (h : k < s.size) : (bytesN s)[k]? = some (bt s k) := by
  have h1 : k < s.data.toList.length := by rw [← Lib.size_eq]; exact h
  unfold bytesN
  rw [List.getElem?_map, List.getElem?_eq_getElem h1, bt_data, List.getD_eq_getElem?_getD, List.getElem?_eq_getElem h1]
  rfl
theorem run_take (p : Ps) (s : ByteArray) (k : Nat) (h : k < s.size) : runN p ((bytesN s).take (k + 1)) = ((feedN (runN p ((bytesN s).take k)).1 (bt s k)).1, (runN p ((bytesN s).take k)).2 ++ (feedN (runN p ((bytesN s).take k)).1 (bt s k)).2) := by
  rw [List.take_add_one, bytesN_at s k h, runN_app]
  rw [Option.toList_some, runN_cons]
  show (_, _ ++ (_ ++ [])) = _
  rw [List.append_nil]
  rfl
theorem run_len (p : Ps) : ∀ l : List Nat, (runN p l).2.length ≤ 2 * l.length := fun l => by
  induction l generalizing p with
  | nil => exact Nat.zero_le _
  | cons b l ih =>
    rw [runN_cons, List.length_append, List.length_cons]
    have h1 := feed_two p b
    have h2 := ih (feedN p b).1
    omega

theorem below_alloc {w W : World} {o : Obj} (h : Below w.heap.size w W) : Below w.heap.size w (W.alloc o) := h.alloc h.size _
theorem below_drew2 (W : World) (o : Obj) : Below W.heap.size W (W.alloc o).drew := ((Below.refl _ W).alloc (Nat.le_refl _) _).drew
theorem blk2_drew (W : World) (x0 x1 : Value) : blk2 (W.alloc (.cells #[x0, x1] 24)).drew W.heap.size x0 x1 := blk2.new W x0 x1

set_option maxRecDepth 20000 in
set_option maxHeartbeats 8000000 in
theorem told_any (s : ByteArray) (w : World) (hP : LaidP w) (hs : s.size ≤ 100000) :
    Calls Tryd.prog 14 #[.string s] w fun e w' => ∃ v, e = .returned v ∧ ActsW (FromP w.heap.size) w' v (runN .zero (bytesN s)).2 ∧ Below w.heap.size w w' := by
  have HRT := Lib.hid (fun k hk => run_take .zero s k hk)
  have HEN : Hid ((bytesN s).take s.size = bytesN s) := List.take_of_length_le (by rw [bytesN_len]; exact Nat.le_refl _)
  have HLE : Hid (∀ k, k ≤ s.size → (runN .zero ((bytesN s).take k)).2.length ≤ 200000) := fun k hk => by
    have := run_len .zero ((bytesN s).take k)
    rw [List.length_take, bytesN_len] at this
    omega
  have HBT := Lib.hid (fun k (hk : k < s.size) => (show (s[k].toNat : Int) = (bt s k : Int) by unfold bt; rw [show s.get! k = s[k] from get_at s k hk]))
  have HFD := Lib.hid (fun p b W (hb : b < 256) (hk : OkP p) (hW : Below w.heap.size w W) => fed_letters (feed_any p b W hb (hP.below hW) hk) rfl rfl rfl)
  have HW0 : Hid (Below w.heap.size w (w.alloc (.cells #[.int .i64 0, .string ⟨#[]⟩] 24)) ∧ (w.alloc (.cells #[.int .i64 0, .string ⟨#[]⟩] 24)).heap.size = w.heap.size + 1 ∧ blk2 (w.alloc (.cells #[.int .i64 0, .string ⟨#[]⟩] 24)) w.heap.size (.int .i64 0) (.string ⟨#[]⟩)) := box_new w _ _
  clear hP
  go_enter Tryd.func14, Tryd.ntmps14
  go_wp2_with fail
  obtain ⟨a1, a2, a3⟩ := HW0.out
  go_loopw [4, 5] (fun v i wr => ∃ (k : Nat) (p : Ps) (l : List Ac), i = .int .i64 (k : Int) ∧ k ≤ s.size ∧ Hid (runN .zero ((bytesN s).take k) = (p, l)) ∧ OkP p ∧ blk2 wr w.heap.size (.int .i64 (stN p)) (.string (stB p)) ∧ OutW (w.heap.size + 1) 34 wr v l ∧ Below w.heap.size w wr) (fun _ i _ => s.size - (intOf i).toNat)
  case atStart => exact ⟨0, .zero, [], rfl, Nat.zero_le _, rfl, trivial, a3, OutW.nil _ _ _, a1⟩
  case round =>
    clear a1 a2 a3 HW0
    obtain ⟨k, p, l, rfl, hk, HQ, hok, hB, hO, hbr⟩ := hrel
    by_cases hlt : k < s.size
    · have hrt := HRT.out k hlt
      have hbt := HBT.out k hlt
      have hb256 := bt_lt s k
      have hle := HLE.out k hk
      rw [HQ.out] at hrt hle
      obtain ⟨b, hb⟩ : ∃ b, bt s k = b := ⟨_, rfl⟩
      rw [hb] at hrt hbt hb256
      have hok2 := ok_feed p b hok
      have hl2 := feed_two p b
      have HF := Lib.hid (fun W hW => HFD.out p b W hb256 hok hW)
      obtain ⟨G, hG⟩ : ∃ G, feedN p b = G := ⟨_, rfl⟩
      rw [hG] at hrt HF hok2 hl2
      obtain ⟨n1, hn1⟩ : ∃ n, stN p = n := ⟨_, rfl⟩
      obtain ⟨z1, hz1⟩ : ∃ z, stB p = z := ⟨_, rfl⟩
      have HF1 : Hid (∀ W, Below w.heap.size w W → Calls Tryd.prog 9 #[.agg #[.int .i64 n1, .string z1], .int .u8 (b : Int)] W fun e u => ∃ v, e = .returned (.tuple #[.agg #[.int .i64 (stN G.1), .string (stB G.1)], v]) ∧ ActsW (FromP W.heap.size) u v G.2 ∧ Below W.heap.size W u) := by rw [← hn1, ← hz1]; exact HF.out
      rw [hn1, hz1] at hB
      obtain ⟨n2, hn2⟩ : ∃ n, stN G.1 = n := ⟨_, rfl⟩
      obtain ⟨z2, hz2⟩ : ∃ z, stB G.1 = z := ⟨_, rfl⟩
      rw [hn2, hz2] at HF1
      have hki : (k : Int) < (s.size : Int) := by omega
      have hk0 : (0 : Int) ≤ (k : Int) := by omega
      have HC : Hid (∀ V, Below wr.heap.size wr V → V.cell? ⟨w.heap.size, 0, none⟩ = some (.int .i64 n1) ∧ V.cell? ⟨w.heap.size, 1, none⟩ = some (.string z1)) := fun V hV => (hB.below hV).cells.1
      have hlt0 := hB.lt
      have HCS := Lib.hid (fun V (hV : Below wr.heap.size wr V) x y => held_set (Q := wr.heap.size) x y (HC.out V hV) (by omega))
      have kk := Below.refl wr.heap.size wr
      have k0 : Below wr.heap.size wr wr.drew := kk.drew
      obtain ⟨p0, p1⟩ := HC.out wr kk
      have HF2 : Hid (∀ V, Below wr.heap.size wr V → Calls Tryd.prog 9 #[.agg #[.int .i64 n1, .string z1], .int .u8 (b : Int)] V fun e u => ∃ v, e = .returned (.tuple #[.agg #[.int .i64 n2, .string z2], v]) ∧ ActsW (FromP wr.heap.size) u v G.2 ∧ Below wr.heap.size wr u) := fun V hV => (HF1.out V (hbr.trans (hV.mono hbr.size))).mono fun e u ⟨v, h1, h2, h3⟩ => ⟨v, h1, acts_from h2 hV.size, hV.trans (h3.mono hV.size)⟩
      have HFa : Hid (∀ V, blk2 V wr.heap.size (.int .i64 0) (.string ⟨#[]⟩) → Below wr.heap.size wr V → Calls Tryd.prog 9 #[.agg #[.int .i64 n1, .string z1], .int .u8 (b : Int)] V fun e u => ∃ v, e = .returned (.tuple #[.agg #[.int .i64 n2, .string z2], v]) ∧ ActsW (FromP (wr.heap.size + 1)) u v G.2 ∧ Below wr.heap.size wr u ∧ (u.cell? ⟨wr.heap.size, 0, none⟩ = some (.int .i64 0) ∧ u.cell? ⟨wr.heap.size, 1, none⟩ = some (.string ⟨#[]⟩)) ∧ u.frozen? ⟨wr.heap.size, 0, none⟩ = false ∧ u.frozen? ⟨wr.heap.size, 1, none⟩ = false ∧ Hid (blk2 u wr.heap.size (.int .i64 0) (.string ⟨#[]⟩))) := fun V hq hV => (HF1.out V (hbr.trans (hV.mono hbr.size))).mono fun e u ⟨v, h1, h2, h3⟩ => ⟨v, h1, acts_from h2 hq.lt, hV.trans (h3.mono hV.size), (hq.below h3).cells.1, (hq.below h3).cells.2.1, (hq.below h3).cells.2.2, hq.below h3⟩
      clear HF HF1 HFD HRT HLE hb hG hn1 hz1
      go_wp2_with fail
      go_region_held3 (fun V => V.cell? ⟨w.heap.size, 0, none⟩ = some (.int .i64 n1) ∧ V.cell? ⟨w.heap.size, 1, none⟩ = some (.string z1))
        (first | with_reducible exact HC.out _ kk | with_reducible exact HC.out _ k0 | with_reducible exact HC.out _ (below_alloc kk) | with_reducible exact HC.out _ (below_drew2 _ _) | with_reducible exact HCS.out _ kk _ _)
        (first
          | (go_at_call 9; go_fit (HFa.out _ ?_ ?_); (first | with_reducible exact blk2.new _ _ _ | with_reducible exact blk2_drew _ _ _); (first | with_reducible exact kk | with_reducible exact below_alloc kk | with_reducible exact k0 | with_reducible exact below_drew2 _ _); rintro e vv ⟨v, rfl, hA, kk, ⟨c0, c1⟩, z0, z1, HQ2⟩)
          | (go_at_call 9; go_fit (HF2.out _ ?_); (first | with_reducible exact kk | with_reducible exact k0); rintro e vv ⟨v, rfl, hA, kk⟩))
      · have F1 : blk2 (vv.alloc (.cells #[.int .i64 n2, .string z2] 24)) vv.heap.size (.int .i64 n2) (.string z2) := blk2.new vv _ _
        have F3 : Below wr.heap.size wr (vv.alloc (.cells #[.int .i64 n2, .string z2] 24)) := below_alloc kk
        have F4 : ActsW (FromP wr.heap.size) (vv.alloc (.cells #[.int .i64 n2, .string z2] 24)) v G.2 := hA.below ((Below.refl _ _).alloc (Nat.le_refl _) _)
        have F2 := hB.below F3
        have hO5 := hO.below F3
        have hbw5 : Below w.heap.size w (vv.alloc (.cells #[.int .i64 n2, .string z2] 24)) := hbr.trans (F3.mono hbr.size)
        have hs5 : wr.heap.size ≤ ((vv.alloc (.cells #[.int .i64 n2, .string z2] 24))).heap.size := F3.size
        obtain ⟨W5, hW5⟩ : ∃ W5, (vv.alloc (.cells #[.int .i64 n2, .string z2] 24)) = W5 := ⟨_, rfl⟩
        rw [hW5] at F1 F2 F3 F4 hO5 hbw5 hs5 ⊢
        obtain ⟨⟨c0, c1⟩, _⟩ := F1.cells
        obtain ⟨_, z0, z1⟩ := F2.cells
        obtain ⟨⟨x0, x1⟩, _⟩ := F2.cells
        have kp : KeepW (fun k => k ≠ w.heap.size) W5 ((W5.setCell ⟨w.heap.size, 0, none⟩ (.int .i64 n2)).setCell ⟨w.heap.size, 1, none⟩ (.string z2)) := (keep_set w.heap.size 0 none _ W5 (fun h => h rfl)).trans (keep_set w.heap.size 1 none _ _ (fun h => h rfl))
        have hO6 := hO5.ahead (kp.mono fun k _ hk => by have h : w.heap.size + 1 ≤ k := hk; show k ≠ w.heap.size; omega)
        have hA6 := F4.keep (kp.mono fun k _ hk => by have h : wr.heap.size ≤ k := hk; show k ≠ w.heap.size; omega)
        have F6 := ((F2.set0 (.int .i64 n2)).set1 (.string z2))
        have hb6 : Below w.heap.size w _ := KeepW.below hbw5 kp hbw5.size (fun k hk => by omega)
        have hs6 := kp.size
        obtain ⟨v', w', hr, hO', hb'⟩ := run_out (n := wr.heap.size) (l2 := G.2) 25 25 34 Tryd.underlying25 Tryd.infoAct hO6 hA6 (by omega) (by omega) (fun k hk => (hO.lt k hk).2) (by omega)
        have hB' : blk2 w' w.heap.size (.int .i64 n2) (.string z2) := (hb'.block w.heap.size (Nat.lt_succ_self _)).trans F6
        have hbw' := hb6.trans (hb'.mono (Nat.le_succ w.heap.size))
        clear HC HCS HFa HF2 hW5 F1 F2 F3 F4 hO5 hbw5 kp hO6 hA6 F6 hb6 kk k0 p0 p1 hO hB
        go_wp2_with (at_builtin; refine wpList_run (by rfl) _ _ 25 (by rfl) (by rfl) (by rfl) hr ?_)
        go_roundw
        case rel => exact ⟨k + 1, G.1, l ++ G.2, by go_num, by omega, hrt, hok2, by rw [hn2, hz2]; exact hB', hO', hbw'⟩
        case measure => simp [intOf]; omega
      · obtain ⟨F1, F3, F4'⟩ := box_mid (w := wr) (w1 := vv) (Q := wr.heap.size) (.int .i64 n2) (.string z2) HQ2.out (Nat.le_refl _) kk hA
        have F4 := acts_from F4' (Nat.le_succ wr.heap.size)
        clear F4' c0 c1 z0 z1 HQ2
        have F2 := hB.below F3
        have hO5 := hO.below F3
        have hbw5 : Below w.heap.size w ((vv.setCell ⟨wr.heap.size, 0, none⟩ (.int .i64 n2)).setCell ⟨wr.heap.size, 1, none⟩ (.string z2)) := hbr.trans (F3.mono hbr.size)
        have hs5 : wr.heap.size ≤ (((vv.setCell ⟨wr.heap.size, 0, none⟩ (.int .i64 n2)).setCell ⟨wr.heap.size, 1, none⟩ (.string z2))).heap.size := F3.size
        obtain ⟨W5, hW5⟩ : ∃ W5, ((vv.setCell ⟨wr.heap.size, 0, none⟩ (.int .i64 n2)).setCell ⟨wr.heap.size, 1, none⟩ (.string z2)) = W5 := ⟨_, rfl⟩
        rw [hW5] at F1 F2 F3 F4 hO5 hbw5 hs5 ⊢
        obtain ⟨⟨c0, c1⟩, _⟩ := F1.cells
        obtain ⟨_, z0, z1⟩ := F2.cells
        obtain ⟨⟨x0, x1⟩, _⟩ := F2.cells
        have kp : KeepW (fun k => k ≠ w.heap.size) W5 ((W5.setCell ⟨w.heap.size, 0, none⟩ (.int .i64 n2)).setCell ⟨w.heap.size, 1, none⟩ (.string z2)) := (keep_set w.heap.size 0 none _ W5 (fun h => h rfl)).trans (keep_set w.heap.size 1 none _ _ (fun h => h rfl))
        have hO6 := hO5.ahead (kp.mono fun k _ hk => by have h : w.heap.size + 1 ≤ k := hk; show k ≠ w.heap.size; omega)
        have hA6 := F4.keep (kp.mono fun k _ hk => by have h : wr.heap.size ≤ k := hk; show k ≠ w.heap.size; omega)
        have F6 := ((F2.set0 (.int .i64 n2)).set1 (.string z2))
        have hb6 : Below w.heap.size w _ := KeepW.below hbw5 kp hbw5.size (fun k hk => by omega)
        have hs6 := kp.size
        obtain ⟨v', w', hr, hO', hb'⟩ := run_out (n := wr.heap.size) (l2 := G.2) 25 25 34 Tryd.underlying25 Tryd.infoAct hO6 hA6 (by omega) (by omega) (fun k hk => (hO.lt k hk).2) (by omega)
        have hB' : blk2 w' w.heap.size (.int .i64 n2) (.string z2) := (hb'.block w.heap.size (Nat.lt_succ_self _)).trans F6
        have hbw' := hb6.trans (hb'.mono (Nat.le_succ w.heap.size))
        clear HC HCS HFa HF2 hW5 F1 F2 F3 F4 hO5 hbw5 kp hO6 hA6 F6 hb6 kk k0 p0 p1 hO hB
        go_wp2_with (at_builtin; refine wpList_run (by rfl) _ _ 25 (by rfl) (by rfl) (by rfl) hr ?_)
        go_roundw
        case rel => exact ⟨k + 1, G.1, l ++ G.2, by go_num, by omega, hrt, hok2, by rw [hn2, hz2]; exact hB', hO', hbw'⟩
        case measure => simp [intOf]; omega
      · obtain ⟨F1, F3, F4'⟩ := box_mid (w := wr) (w1 := vv) (Q := wr.heap.size) (.int .i64 n2) (.string z2) HQ2.out (Nat.le_refl _) kk hA
        have F4 := acts_from F4' (Nat.le_succ wr.heap.size)
        clear F4' c0 c1 z0 z1 HQ2
        have F2 := hB.below F3
        have hO5 := hO.below F3
        have hbw5 : Below w.heap.size w ((vv.setCell ⟨wr.heap.size, 0, none⟩ (.int .i64 n2)).setCell ⟨wr.heap.size, 1, none⟩ (.string z2)) := hbr.trans (F3.mono hbr.size)
        have hs5 : wr.heap.size ≤ (((vv.setCell ⟨wr.heap.size, 0, none⟩ (.int .i64 n2)).setCell ⟨wr.heap.size, 1, none⟩ (.string z2))).heap.size := F3.size
        obtain ⟨W5, hW5⟩ : ∃ W5, ((vv.setCell ⟨wr.heap.size, 0, none⟩ (.int .i64 n2)).setCell ⟨wr.heap.size, 1, none⟩ (.string z2)) = W5 := ⟨_, rfl⟩
        rw [hW5] at F1 F2 F3 F4 hO5 hbw5 hs5 ⊢
        obtain ⟨⟨c0, c1⟩, _⟩ := F1.cells
        obtain ⟨_, z0, z1⟩ := F2.cells
        obtain ⟨⟨x0, x1⟩, _⟩ := F2.cells
        have kp : KeepW (fun k => k ≠ w.heap.size) W5 ((W5.setCell ⟨w.heap.size, 0, none⟩ (.int .i64 n2)).setCell ⟨w.heap.size, 1, none⟩ (.string z2)) := (keep_set w.heap.size 0 none _ W5 (fun h => h rfl)).trans (keep_set w.heap.size 1 none _ _ (fun h => h rfl))
        have hO6 := hO5.ahead (kp.mono fun k _ hk => by have h : w.heap.size + 1 ≤ k := hk; show k ≠ w.heap.size; omega)
        have hA6 := F4.keep (kp.mono fun k _ hk => by have h : wr.heap.size ≤ k := hk; show k ≠ w.heap.size; omega)
        have F6 := ((F2.set0 (.int .i64 n2)).set1 (.string z2))
        have hb6 : Below w.heap.size w _ := KeepW.below hbw5 kp hbw5.size (fun k hk => by omega)
        have hs6 := kp.size
        obtain ⟨v', w', hr, hO', hb'⟩ := run_out (n := wr.heap.size) (l2 := G.2) 25 25 34 Tryd.underlying25 Tryd.infoAct hO6 hA6 (by omega) (by omega) (fun k hk => (hO.lt k hk).2) (by omega)
        have hB' : blk2 w' w.heap.size (.int .i64 n2) (.string z2) := (hb'.block w.heap.size (Nat.lt_succ_self _)).trans F6
        have hbw' := hb6.trans (hb'.mono (Nat.le_succ w.heap.size))
        clear HC HCS HFa HF2 hW5 F1 F2 F3 F4 hO5 hbw5 kp hO6 hA6 F6 hb6 kk k0 p0 p1 hO hB
        go_wp2_with (at_builtin; refine wpList_run (by rfl) _ _ 25 (by rfl) (by rfl) (by rfl) hr ?_)
        go_roundw
        case rel => exact ⟨k + 1, G.1, l ++ G.2, by go_num, by omega, hrt, hok2, by rw [hn2, hz2]; exact hB', hO', hbw'⟩
        case measure => simp [intOf]; omega
    · obtain rfl : k = s.size := by omega
      have HE : Hid (l = (runN .zero (bytesN s)).2) := by
        have := HQ.out
        rw [HEN.out] at this
        rw [this]
        exact rfl
      have hac := acts_from hO.acts (Nat.le_succ w.heap.size)
      clear HQ HRT HFD HLE hO hB
      go_wp2_with fail
      go_ret
      exact ⟨_, rfl, by rw [← HE.out]; exact hac, hbr⟩
end Go.Proofs.YtbpnnnjbddjboaaDoor
