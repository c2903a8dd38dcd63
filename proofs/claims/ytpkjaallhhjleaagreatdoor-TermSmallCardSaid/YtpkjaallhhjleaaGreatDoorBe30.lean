/-
  Texts of this proof, one behind the other; each begins with its own remark.
-/
import Derived.Deep.RegionHeld3
import Derived.Test.YtpkjaallhhjleaaGreatDoorBe29
import Derived.Test.YtpkjaallhhjleaaGreatDoorBe9
import Derived.Test.YtpkjaallhhjleaaGreatDoorBe10
import Derived.Test.YtpkjaallhhjleaaGreatDoorBe15
/-
  term: Write: what it leaves, of every text.
-/
namespace Go.Proofs.YtpkjaallhhjleaaGreatDoor
open Go.RowKit

/-- All that the program's text lays ahead of the call. -/
structure LaidT (w : World) : Prop where
  fr : LaidW w
  ps : LaidP w
  bl : TBlankW w
theorem LaidT.below {w w' : World} (h : LaidT w) (hb : Below w.heap.size w w') : LaidT w' := ⟨h.fr.below hb, h.ps.below hb, h.bl.below hb⟩
section
variable {w0 : World} {B G N cap : Nat} {t : Tm}
theorem write_take (t : Tm) (s : ByteArray) (k : Nat) (hk : k < s.size) : writeT t (s.data.toList.take (k + 1)) = byteT (writeT t (s.data.toList.take k)) (bt s k) := by
  have hl : k < s.data.toList.length := by rw [← Lib.size_eq]; exact hk
  rw [List.take_succ_eq_append_getElem hl, write_app]
  have e : s.data.toList[k].toNat = bt s k := by unfold bt; rw [show s.get! k = s[k] from get_at s k hk]; rfl
  rw [← e]
  rfl
set_option maxRecDepth 20000 in
set_option maxHeartbeats 8000000 in
theorem twrite_any {m n : Nat} (s : ByteArray) (w : World) (h : TmS w0 w B G N cap t) (hok : OkT t m n) (hL : LaidT w0) (hsz : s.size ≤ 1000000) :
    Calls Tryz.prog 11 #[.pointer (some ⟨B, 0, none⟩), .string s] w (TmD w0 w B G N cap (writeT t s.data.toList)) := by
  have hsi : (s.size : Int) ≤ 1000000 := by omega
  have HBT := Lib.hid (fun k (hk : k < s.size) => (show (s[k].toNat : Int) = (bt s k : Int) by unfold bt; rw [show s.get! k = s[k] from get_at s k hk]))
  have HWT := Lib.hid (fun k (hk : k < s.size) => write_take t s k hk)
  have HEN : Hid (s.data.toList.take s.size = s.data.toList) := List.take_of_length_le (by rw [Lib.size_eq]; exact Nat.le_refl _)
  have HOK := Lib.hid (fun k => write_ok hok (s.data.toList.take k))
  have HLD := Lib.hid hL
  have HN := Lib.hid (fun W h2 => tnone_no B G N cap W h2)
  have x2 := h.box.cells.1.2.2.1
  have H0 : Hid (TmS w0 w B G N cap (writeT t (s.data.toList.take 0)) ∧ KeepW (NotBG B G) w w) := ⟨h, KeepW.refl _ _⟩
  obtain ⟨L, hLs⟩ : ∃ L, s.data.toList = L := ⟨_, rfl⟩
  rw [hLs] at HWT HEN HOK H0 ⊢
  clear h hok hL hLs hsz
  go_enter Tryz.func11, Tryz.ntmps11
  go_wp2_with fail
  go_fit (HN.out _ x2)
  rintro e w1 ⟨rfl, rfl⟩
  go_wp2_with fail
  go_loopw [13] (fun s13 wr => ∃ k : Nat, s13 = .int .i64 (k : Int) ∧ k ≤ s.size ∧ Hid (TmS w0 wr B G N cap (writeT t (L.take k)) ∧ KeepW (NotBG B G) w1 wr)) (fun s13 _ => s.size - (intOf s13).toNat)
  case atStart => exact ⟨0, rfl, Nat.zero_le _, H0⟩
  case round =>
    clear H0 HN x2
    obtain ⟨k, rfl, hk, HI⟩ := hrel
    by_cases hlt : k < s.size
    · have hbt := HBT.out k hlt
      have hb256 := bt_lt s k
      have hwt := HWT.out k hlt
      have hok1 := HOK.out k
      obtain ⟨T1, hT1⟩ : ∃ T1, writeT t (L.take k) = T1 := ⟨_, rfl⟩
      obtain ⟨b, hb⟩ : ∃ b, bt s k = b := ⟨_, rfl⟩
      rw [hT1] at hwt hok1 HI
      rw [hb] at hbt hb256 hwt
      obtain ⟨hS, hK⟩ := HI.out
      have hacts := feed_acts T1.p b hok1.ps
      have hf2 := feed_two T1.p b
      have HF0 := Lib.hid (fun W (hW : Below w0.heap.size w0 W) => feed_any T1.p b W hb256 (HLD.out.ps.below hW) hok1.ps)
      unfold byteT at hwt
      obtain ⟨A, hA⟩ : ∃ A, feedN T1.p b = A := ⟨_, rfl⟩
      rw [hA] at hacts hf2 hwt HF0
      obtain ⟨n1, hn1⟩ : ∃ n, stN T1.p = n := ⟨_, rfl⟩
      obtain ⟨z1, hz1⟩ : ∃ z, stB T1.p = z := ⟨_, rfl⟩
      obtain ⟨n2, hn2⟩ : ∃ n, stN A.1 = n := ⟨_, rfl⟩
      obtain ⟨z2, hz2⟩ : ∃ z, stB A.1 = z := ⟨_, rfl⟩
      have HF1 : Hid (∀ W, Below w0.heap.size w0 W → Calls Tryz.prog 29 #[.agg #[.int .i64 n1, .string z1], .int .u8 (b : Int)] W fun e u => ∃ v, e = .returned (.tuple #[.agg #[.int .i64 n2, .string z2], v]) ∧ ActsW (FromP W.heap.size) u v A.2 ∧ Below W.heap.size W u) := by rw [← hn1, ← hz1, ← hn2, ← hz2]; exact fun W hW => HF0.out W hW
      obtain ⟨_, _, ⟨_, _, p0, p1⟩, _⟩ := hS.box.cells
      rw [hn1] at p0
      rw [hz1] at p1
      have HC : Hid (∀ V, Below wr.heap.size wr V → V.cell? ⟨B, 11, none⟩ = some (.int .i64 n1) ∧ V.cell? ⟨B, 12, none⟩ = some (.string z1)) := fun V hV => by
        have := (hS.next hV).box.cells.2.2.1
        rw [hn1, hz1] at this
        exact this.2.2
      have hlt0 := hS.box.lt
      have hgt0 := hS.gt
      have HCS := Lib.hid (fun V (hV : Below wr.heap.size wr V) x y => (⟨(((keep_set (ok := fun k => k ≠ wr.heap.size) wr.heap.size 0 none x V (fun k => k rfl)).trans (keep_set wr.heap.size 1 none y _ (fun k => k rfl))).cell (HC.out V hV).1 (by show B ≠ _; omega)), (((keep_set (ok := fun k => k ≠ wr.heap.size) wr.heap.size 0 none x V (fun k => k rfl)).trans (keep_set wr.heap.size 1 none y _ (fun k => k rfl))).cell (HC.out V hV).2 (by show B ≠ _; omega))⟩ : _ ∧ _))
      have kk := Below.refl wr.heap.size wr
      have k0 : Below wr.heap.size wr wr.drew := kk.drew
      have hb0 := hS.below
      have HF2 : Hid (∀ V, Below wr.heap.size wr V → Calls Tryz.prog 29 #[.agg #[.int .i64 n1, .string z1], .int .u8 (b : Int)] V fun e u => ∃ v, e = .returned (.tuple #[.agg #[.int .i64 n2, .string z2], v]) ∧ ActsW (FromP wr.heap.size) u v A.2 ∧ Below wr.heap.size wr u) := fun V hV => (HF1.out V (hb0.trans (hV.mono hb0.size))).mono fun e u ⟨v, h1, h2, h3⟩ => ⟨v, h1, acts_from h2 hV.size, hV.trans (h3.mono hV.size)⟩
      have HFa : Hid (∀ V, blk2 V wr.heap.size (.int .i64 0) (.string ⟨#[]⟩) → Below wr.heap.size wr V → Calls Tryz.prog 29 #[.agg #[.int .i64 n1, .string z1], .int .u8 (b : Int)] V fun e u => ∃ v, e = .returned (.tuple #[.agg #[.int .i64 n2, .string z2], v]) ∧ ActsW (FromP (wr.heap.size + 1)) u v A.2 ∧ Below wr.heap.size wr u ∧ (u.cell? ⟨wr.heap.size, 0, none⟩ = some (.int .i64 0) ∧ u.cell? ⟨wr.heap.size, 1, none⟩ = some (.string ⟨#[]⟩)) ∧ u.frozen? ⟨wr.heap.size, 0, none⟩ = false ∧ u.frozen? ⟨wr.heap.size, 1, none⟩ = false ∧ Hid (blk2 u wr.heap.size (.int .i64 0) (.string ⟨#[]⟩))) := fun V hq hV => (HF1.out V (hb0.trans (hV.mono hb0.size))).mono fun e u ⟨v, h1, h2, h3⟩ => ⟨v, h1, acts_from h2 hq.lt, hV.trans (h3.mono hV.size), (hq.below h3).cells.1, (hq.below h3).cells.2.1, (hq.below h3).cells.2.2, hq.below h3⟩
      -- the parser's new state is laid into the box
      have HPS : Hid (∀ W5 Q v, Below wr.heap.size wr W5 → blk2 W5 Q (.int .i64 n2) (.string z2) → ActsW (FromP wr.heap.size) W5 v A.2 → (B < W5.heap.size ∧ (W5.cell? ⟨B, 11, none⟩ = some (.int .i64 n1) ∧ W5.cell? ⟨B, 12, none⟩ = some (.string z1)) ∧ W5.frozen? ⟨B, 11, none⟩ = false ∧ W5.frozen? ⟨B, 12, none⟩ = false) ∧ ∀ W6, (W5.setCell ⟨B, 11, none⟩ (.int .i64 n2)).setCell ⟨B, 12, none⟩ (.string z2) = W6 → TmS w0 W6 B G N cap { T1 with p := A.1 } ∧ KeepW (NotBG B G) w1 W6 ∧ ActsW (NotBG B G) W6 v A.2) := fun W5 Q v h5 _ hA5 => by
        have hS5 := hS.next h5
        have hf := hS5.box.cells.2.2.2
        refine ⟨⟨hS5.box.lt, HC.out W5 h5, hf 11, hf 12⟩, fun W6 h6 => ?_⟩
        obtain ⟨a1, a2⟩ := hS5.ps_ A.1
        unfold setPs at a1 a2
        rw [hn2, hz2, h6] at a1 a2
        refine ⟨a1, (hK.trans (keep_below _ h5)).trans a2, (hA5.any fun k hk => ?_).keep a2⟩
        have hk : wr.heap.size ≤ k := hk
        show k ≠ B ∧ k ≠ G
        omega
      obtain ⟨T2, hT2⟩ : ∃ T2, { T1 with p := A.1 } = T2 := ⟨_, rfl⟩
      rw [hT2] at HPS hwt
      have hok2 : OkT T2 m n := by rw [← hT2, ← hA]; exact ⟨hok1.fr, hok1.st, ok_feed _ b hok1.ps⟩
      obtain ⟨L2, hL2⟩ : ∃ L2, A.2 = L2 := ⟨_, rfl⟩
      rw [hL2] at HF1 HF2 HFa HPS hacts hf2 hwt
      have HDO : Hid (∀ W j a pv, j < L2.length → L2[j]? = some a → TmS w0 W B G N cap ((L2.take j).foldl doT T2) → NumsW (NotBG B G) W pv a.2.2.1 → Calls Tryz.prog 30 #[.pointer (some ⟨B, 0, none⟩), .agg #[.int .i64 (a.1 : Int), .int .i32 (a.2.1 : Int), pv, .int .u8 (a.2.2.2 : Int)]] W (TmD w0 W B G N cap ((L2.take (j + 1)).foldl doT T2))) := fun W j a pv hj ha hW hN => by
        have hm := hacts a (List.mem_of_getElem? ha)
        have := tdo_any a W hW (dos_ok hok2 _).fr HLD.out.fr HLD.out.bl hN (by omega) hm.2
        rw [List.take_succ_eq_append_getElem hj, (List.getElem?_eq_some_iff.1 ha).2, List.foldl_append]
        exact this
      have HEND : Hid ((L2.take L2.length).foldl doT T2 = writeT t (L.take (k + 1))) := by show _ = _; rw [List.take_length, hwt]
      obtain ⟨q, hq⟩ : ∃ q, L2.length = q := ⟨_, rfl⟩
      rw [hq] at HDO HEND hf2
      have HQ := Lib.hid hq
      have hki : (k : Int) < (s.size : Int) := by omega
      have hk0 : (0 : Int) ≤ (k : Int) := by omega
      clear hq hL2 hT2 hok2 hA hn1 hz1 hn2 hz2 HF0 HF1 hb hT1 hwt hacts hok1 hS hK hb0 HI
      go_wp2_with fail
      go_region_held3 (fun V => V.cell? ⟨B, 11, none⟩ = some (.int .i64 n1) ∧ V.cell? ⟨B, 12, none⟩ = some (.string z1))
        (first | with_reducible exact HC.out _ kk | with_reducible exact HC.out _ k0 | with_reducible exact HC.out _ (blw_alloc kk) | with_reducible exact HC.out _ (blw_drew2 _ _) | with_reducible exact HCS.out _ kk _ _)
        (first
          | (go_at_call 29; go_fit (HFa.out _ ?_ ?_); (first | with_reducible exact blk2.new _ _ _ | with_reducible exact blk2_drawn _ _ _); (first | with_reducible exact kk | with_reducible exact blw_alloc kk | with_reducible exact k0 | with_reducible exact blw_drew2 _ _); rintro e vv ⟨v, rfl, hA, kk, ⟨c0, c1⟩, z0, z1', HQ2⟩)
          | (go_at_call 29; go_fit (HF2.out _ ?_); (first | with_reducible exact kk | with_reducible exact k0); rintro e vv ⟨v, rfl, hA, kk⟩))
      all_goals
        first
          | (obtain ⟨W5, hW5⟩ : ∃ W5, (vv.setCell ⟨wr.heap.size, 0, none⟩ (.int .i64 n2)).setCell ⟨wr.heap.size, 1, none⟩ (.string z2) = W5 := ⟨_, rfl⟩
             rw [hW5]
             obtain ⟨F1, F3, F4'⟩ := box_mid (w := wr) (Q := wr.heap.size) (.int .i64 n2) (.string z2) HQ2.out (Nat.le_refl _) kk hA
             rw [hW5] at F1 F3 F4'
             have F4 : ActsW (FromP wr.heap.size) W5 v L2 := acts_from F4' (Nat.le_succ _)
             clear F4' HQ2 c0 c1 z0 z1')
          | (obtain ⟨W5, hW5⟩ : ∃ W5, vv.alloc (.cells #[.int .i64 n2, .string z2] 45) = W5 := ⟨_, rfl⟩
             rw [hW5]
             have F1 : blk2 W5 vv.heap.size (.int .i64 n2) (.string z2) := by rw [← hW5]; exact blk2.new vv _ _
             have F3 : Below wr.heap.size wr W5 := by rw [← hW5]; exact blw_alloc kk
             have F4 : ActsW (FromP wr.heap.size) W5 v L2 := by rw [← hW5]; exact hA.below ((Below.refl _ _).alloc (Nat.le_refl _) _))
        obtain ⟨ao, ac, rfl, hac⟩ := F4.form
        obtain ⟨⟨hl5, ⟨u0, u1⟩, uf0, uf1⟩, H6⟩ := HPS.out W5 _ _ F3 F1 F4
        rw [HQ.out] at H6 hac ⊢
        have H6 := Lib.hid H6
        obtain ⟨⟨g0, g1⟩, _⟩ := F1.cells
        clear hW5 F1 F3 F4 HC HCS HFa HF2 HPS hA kk k0 p0 p1
        go_wp2_with fail
        obtain ⟨W6, hW6⟩ : ∃ W6, (W5.setCell ⟨B, 11, none⟩ (.int .i64 n2)).setCell ⟨B, 12, none⟩ (.string z2) = W6 := ⟨_, rfl⟩
        obtain ⟨hS6, hK6, hA6⟩ := H6.out W6 hW6
        try rw [hW6]
        have HS6 : Hid (TmS w0 W6 B G N cap ((L2.take 0).foldl doT T2) ∧ KeepW (NotBG B G) W6 W6) := ⟨hS6, KeepW.refl _ _⟩
        have HA6 := Lib.hid hA6
        have HK6 := Lib.hid hK6
        clear hW6 hS6 hK6 hA6 H6 hl5 u0 u1 uf0 uf1 g0 g1
        go_wp2_with fail
        go_loopw [33] (fun s33 wi => ∃ j : Nat, s33 = .int .i64 (j : Int) ∧ j ≤ q ∧ Hid (TmS w0 wi B G N cap ((L2.take j).foldl doT T2) ∧ KeepW (NotBG B G) W6 wi)) (fun s33 _ => q - (intOf s33).toNat)
        case atStart => exact ⟨0, rfl, Nat.zero_le _, HS6⟩
        case round =>
          clear HS6
          obtain ⟨j, rfl, hj, HJ⟩ := hrel
          by_cases hjq : j < q
          · obtain ⟨a, ha⟩ : ∃ a, L2[j]? = some a := ⟨_, List.getElem?_eq_getElem (by rw [HQ.out]; exact hjq)⟩
            obtain ⟨g, o, _, pv, e1, _, a0, a1, a2, a3, hNa⟩ := acts_at4 (HA6.out.keep HJ.out.2) ha
            rw [HQ.out] at e1
            cases e1
            have HD : Hid (∀ V, Below wr.heap.size wr V → Calls Tryz.prog 30 #[.pointer (some ⟨B, 0, none⟩), .agg #[.int .i64 (a.1 : Int), .int .i32 (a.2.1 : Int), pv, .int .u8 (a.2.2.2 : Int)]] V (TmD w0 wr B G N cap ((L2.take (j + 1)).foldl doT T2))) := fun V hV => (HDO.out V j a pv hjq ha (HJ.out.1.next hV) (hNa.keep (keep_below _ hV))).mono fun e u ⟨h1, h2, h3⟩ => ⟨h1, h2, (keep_below _ hV).trans h3⟩
            obtain ⟨na, va, ca, rfl⟩ : ∃ x y z, pv = .slice x y z := by obtain ⟨x, z, e, _⟩ := hNa.1; exact ⟨x, _, z, e⟩
            have j0 : (j : Int) < (q : Int) := by omega
            have j1 : (0 : Int) ≤ (j : Int) := by omega
            have HKJ := Lib.hid HJ.out.2
            obtain ⟨a1', ha1⟩ : ∃ x : Int, (a.1 : Int) = x := ⟨_, rfl⟩
            obtain ⟨a2', ha2⟩ : ∃ x : Int, (a.2.1 : Int) = x := ⟨_, rfl⟩
            obtain ⟨a3', ha3⟩ : ∃ x : Int, (a.2.2.2 : Int) = x := ⟨_, rfl⟩
            rw [ha1] at a0 HD
            rw [ha2] at a1 HD
            rw [ha3] at a3 HD
            have HAB := Lib.hid (fun x0 x1 x2 x3 => act_box wr x0 x1 x2 x3)
            clear hNa HJ ha ha1 ha2 ha3
            go_wp2_with fail
            go_fit (HD.out _ (HAB.out _ _ _ _).1)
            rintro e w8 ⟨rfl, hS8, hK8⟩
            have H8 : Hid (TmS w0 w8 B G N cap ((L2.take (j + 1)).foldl doT T2) ∧ KeepW (NotBG B G) W6 w8) := ⟨hS8, HKJ.out.trans hK8⟩
            clear hS8 hK8 HKJ HD HAB a0 a1 a2 a3
            go_wp2_with fail
            go_roundw
            case rel => exact ⟨j + 1, by rw [Int.natCast_add]; rfl, by omega, H8⟩
            case measure => simp only [intOf]; omega
          · obtain rfl : j = q := by omega
            have j0 : ¬ (j : Int) < (j : Int) := by omega
            have H9 : Hid (TmS w0 wr B G N cap (writeT t (L.take (k + 1))) ∧ KeepW (NotBG B G) w1 wr) := ⟨by rw [← HEND.out]; exact HJ.out.1, HK6.out.trans HJ.out.2⟩
            clear HJ
            go_wp2_with fail
            go_roundw
            case rel => exact ⟨k + 1, by rw [Int.natCast_add]; rfl, by omega, H9⟩
            case measure => simp only [intOf]; omega
    · obtain rfl : k = s.size := by omega
      have hki : ¬ (s.size : Int) < (s.size : Int) := by omega
      have HI2 := HI
      rw [HEN.out] at HI2
      go_wp2_with fail
      go_end0
      exact ⟨rfl, HI2.out.1, HI2.out.2⟩
end
end Go.Proofs.YtpkjaallhhjleaaGreatDoor

/-
  term: New, Frame, Bells: what each returns, and lays.
-/
namespace Go.Proofs.YtpkjaallhhjleaaGreatDoor
open Go.RowKit

section
variable {w0 : World} {B G N cap : Nat} {t : Tm}
set_option maxRecDepth 20000 in
set_option maxHeartbeats 4000000 in
theorem tnew_bad (r c : Int) (w : World) (hb : sizedB r c = false) :
    Calls Tryz.prog 9 #[.int .i64 r, .int .i64 c] w fun e w' => e = .returned (.tuple #[.pointer none, .int .i64 2]) ∧ Below w.heap.size w w' := by
  have H := Lib.hid (gnew_bad r c w hb)
  go_enter Tryz.func9, Tryz.ntmps9
  go_wp2_with fail
  go_fit H.out
  rintro e w1 ⟨rfl, hb1⟩
  go_wp2_with fail
  exact bodyPost_ret (v := .tuple #[.pointer none, .int .i64 2]) (by simp [results, Tryz.results9, go_sem]) rfl ⟨rfl, hb1.alloc hb1.size _⟩
set_option maxRecDepth 20000 in
set_option maxHeartbeats 4000000 in
theorem tnew_any (m n : Nat) (w : World) (hm : 2 ≤ m ∧ m ≤ 100) (hn : 8 ≤ n ∧ n ≤ 200) (hL : LaidW w) (hw : Below w0.heap.size w0 w) :
    Calls Tryz.prog 9 #[.int .i64 (m : Int), .int .i64 (n : Int)] w fun e w' => ∃ B G, e = .returned (.tuple #[.pointer (some ⟨B, 0, none⟩), .int .i64 0]) ∧ TmS w0 w' B G (m * n) (m * n) (newT m n) ∧ Below w.heap.size w w' ∧ w.heap.size ≤ B ∧ w.heap.size ≤ G := by
  have H := Lib.hid (gnew_any m n w hm hn hL.2)
  have HN : Hid (newT (m : Int) (n : Int) = ⟨⟨(m : Int), (n : Int), List.replicate (m * n) blkC, 0, 0⟩, sty0, 0, false, .zero⟩) := by
    show _ = _
    unfold newT newF
    rw [if_pos ((sizedB_iff _ _).2 (by omega)), ← Int.natCast_mul, Int.toNat_natCast]
  have HW := Lib.hid hw
  obtain ⟨P, hP⟩ : ∃ P, m * n = P := ⟨_, rfl⟩
  rw [hP] at H HN ⊢
  clear hL hw hP
  go_enter Tryz.func9, Tryz.ntmps9
  go_wp2_with fail
  go_fit H.out
  rintro e w1 ⟨g, rfl, ⟨zs, hg, hz⟩, hb1⟩
  go_wp2_with fail
  refine bodyPost_ret (v := .tuple #[.pointer (some ⟨w1.heap.size + 1, 0, none⟩), .int .i64 0]) (by simp [results, Tryz.results9, go_sem]) rfl ⟨w1.heap.size + 1, g, rfl, ?_, ?_, ?_, hg⟩
  · rw [HN.out]
    have hw := HW.out
    have h1 := hb1.size
    have h2 := hw.size
    have hgl := hz.lt
    have hbA := blw_alloc (o := .cells #[.int .i64 (m : Int), .int .i64 (n : Int), .slice (some ⟨g, 0, none⟩) P P, .int .i64 0, .int .i64 0] 35) hb1
    have hbB := hbA.alloc (o := .cells #[.int .i64 (m : Int), .int .i64 (n : Int), .slice (some ⟨g, 0, none⟩) P P, .int .i64 0, .int .i64 0, .int .i64 0, .bool false, .bool false, .bool false, .int .i64 0, .bool false, .int .i64 0, .string ⟨#[]⟩] 47) hbA.size
    refine ⟨hw.trans (hbB.mono h2), by omega, by omega, by omega, ?_, ⟨zs, ?_⟩, by simp, Nat.le_refl _⟩
    · have := heap_alloc_new (w1.alloc (.cells #[.int .i64 (m : Int), .int .i64 (n : Int), .slice (some ⟨g, 0, none⟩) P P, .int .i64 0, .int .i64 0] 35)) (.cells #[.int .i64 (m : Int), .int .i64 (n : Int), .slice (some ⟨g, 0, none⟩) P P, .int .i64 0, .int .i64 0, .int .i64 0, .bool false, .bool false, .bool false, .int .i64 0, .bool false, .int .i64 0, .string ⟨#[]⟩] 47)
      rw [World.size_alloc] at this
      exact this
    · unfold blkL
      rw [Below.heap_alloc _ _ _ (by rw [World.size_alloc]; omega), Below.heap_alloc _ _ _ hgl]
      exact hz
  · exact (blw_alloc hb1).alloc (blw_alloc hb1).size _
  · have := hb1.size
    omega
set_option maxRecDepth 20000 in
set_option maxHeartbeats 4000000 in
theorem tbells_nil (w : World) : Calls Tryz.prog 15 #[.pointer none] w fun e w' => e = .returned (.int .i64 0) ∧ w' = w := by
  have H := Lib.hid (fun w => tnone_nil w)
  go_enter Tryz.func15, Tryz.ntmps15
  go_wp2_with fail
  go_fit (H.out _)
  rintro e w1 ⟨rfl, rfl⟩
  go_wp2_with fail
  go_ret
  exact ⟨rfl, rfl⟩
set_option maxRecDepth 20000 in
set_option maxHeartbeats 4000000 in
theorem tbells_zero (B : Nat) (w : World) (h : w.cell? ⟨B, 2, none⟩ = some (.slice none 0 0)) : Calls Tryz.prog 15 #[.pointer (some ⟨B, 0, none⟩)] w fun e w' => e = .returned (.int .i64 0) ∧ w' = w := by
  have H := Lib.hid (tnone_zero B w h)
  clear h
  go_enter Tryz.func15, Tryz.ntmps15
  go_wp2_with fail
  go_fit H.out
  rintro e w1 ⟨rfl, rfl⟩
  go_wp2_with fail
  go_ret
  exact ⟨rfl, rfl⟩
set_option maxRecDepth 20000 in
set_option maxHeartbeats 4000000 in
theorem tbells_any (w : World) (h : TmS w0 w B G N cap t) : Calls Tryz.prog 15 #[.pointer (some ⟨B, 0, none⟩)] w fun e w' => e = .returned (.int .i64 t.bells) ∧ w' = w := by
  obtain ⟨⟨_, _, x2, _, _⟩, _, ⟨x9, _⟩, _⟩ := h.box.cells
  have H := Lib.hid (tnone_no B G N cap w x2)
  clear h x2
  go_enter Tryz.func15, Tryz.ntmps15
  go_wp2_with fail
  go_fit H.out
  rintro e w1 ⟨rfl, rfl⟩
  go_wp2_with fail
  go_ret
  exact ⟨rfl, rfl⟩
/-- The zero frame is told of none. -/
theorem zero_box (w : World) : Below w.heap.size w (w.alloc (.cells #[.int .i64 0, .int .i64 0, .slice none 0 0, .int .i64 0, .int .i64 0] 35)) := (Below.refl _ _).alloc (Nat.le_refl _) _
set_option maxRecDepth 20000 in
set_option maxHeartbeats 4000000 in
theorem tframe_nil (w : World) : Calls Tryz.prog 14 #[.pointer none] w fun e w' => e = .returned (.agg #[.int .i64 0, .int .i64 0, .slice none 0 0, .int .i64 0, .int .i64 0]) ∧ Below w.heap.size w w' := by
  have H := Lib.hid (fun w => tnone_nil w)
  go_enter Tryz.func14, Tryz.ntmps14
  go_wp2_with fail
  go_fit (H.out _)
  rintro e w1 ⟨rfl, rfl⟩
  go_wp2_with fail
  exact bodyPost_ret (v := .agg #[.int .i64 0, .int .i64 0, .slice none 0 0, .int .i64 0, .int .i64 0]) (by simp [results, Tryz.results14, go_sem]) rfl ⟨rfl, zero_box _⟩
set_option maxRecDepth 20000 in
set_option maxHeartbeats 4000000 in
theorem tframe_zero (B : Nat) (w : World) (h : w.cell? ⟨B, 2, none⟩ = some (.slice none 0 0)) : Calls Tryz.prog 14 #[.pointer (some ⟨B, 0, none⟩)] w fun e w' => e = .returned (.agg #[.int .i64 0, .int .i64 0, .slice none 0 0, .int .i64 0, .int .i64 0]) ∧ Below w.heap.size w w' := by
  have H := Lib.hid (fun w h => tnone_zero B w h)
  have HC : Hid ((w.alloc (.cells #[.int .i64 0, .int .i64 0, .slice none 0 0, .int .i64 0, .int .i64 0] 35)).cell? ⟨B, 2, none⟩ = some (.slice none 0 0)) := by
    show _ = _
    rw [(zero_box w).cell (p := ⟨B, 2, none⟩) (rlt (p := ⟨B, 2, none⟩) h)]
    exact h
  have HB := Lib.hid (zero_box w)
  go_enter Tryz.func14, Tryz.ntmps14
  go_wp2_with fail
  go_fit (H.out _ HC.out)
  rintro e w1 ⟨rfl, rfl⟩
  go_wp2_with fail
  exact bodyPost_ret (v := .agg #[.int .i64 0, .int .i64 0, .slice none 0 0, .int .i64 0, .int .i64 0]) (by simp [results, Tryz.results14, go_sem]) rfl ⟨rfl, HB.out⟩
set_option maxRecDepth 20000 in
set_option maxHeartbeats 4000000 in
theorem tframe_any {m n : Nat} (w : World) (h : TmS w0 w B G N cap t) (hok : OkF t.f m n) : Calls Tryz.prog 14 #[.pointer (some ⟨B, 0, none⟩)] w fun e w' => ∃ v', e = .returned v' ∧ FrameW AnyB w' v' t.f ∧ Below w.heap.size w w' := by
  have hN : t.f.cells.length = N := h.len
  have hroom : N ≤ 20000 := by rw [← hN]; exact hok.room
  have hpos : 0 < N := by rw [← hN, hok.len]; exact Nat.mul_pos (by have := hok.hm; omega) (by have := hok.hn; omega)
  have HS := Lib.hid h
  have HB := Lib.hid (zero_box w)
  have H := Lib.hid (fun w h => tnone_no B G N cap w h)
  have HC : Hid (∀ W, Below w.heap.size w W → Calls Tryz.prog 36 #[.slice (some ⟨G, 0, none⟩) N cap] W fun e w' => ∃ g' c', e = .returned (.slice (some ⟨g', 0, none⟩) N c') ∧ N ≤ c' ∧ NewL W w' g' t.f.cells ∧ Below W.heap.size W w') := fun W hW => clone_any G 0 cap N W (h.next hW).cels hN hpos (by omega)
  obtain ⟨W1, hW1⟩ : ∃ W1, w.alloc (.cells #[.int .i64 0, .int .i64 0, .slice none 0 0, .int .i64 0, .int .i64 0] 35) = W1 := ⟨_, rfl⟩
  have hb1 : Below w.heap.size w W1 := by rw [← hW1]; exact HB.out
  have hf1 : frB W1 w.heap.size 0 0 (.slice none 0 0) 0 0 := by rw [← hW1]; exact frB.new w
  have HL : Hid (t.f.cells.length = N) := hN
  obtain ⟨⟨x0, x1, x2, x3, x4⟩, _⟩ := (h.next hb1).box.cells
  obtain ⟨⟨z0, z1, z2, z3, z4⟩, y0, y1, y2, y3, y4⟩ := hf1.cells
  have hlt := hf1.lt
  have HF := Lib.hid (hf1.all (r' := t.f.rows) (c' := t.f.cols) (v' := .slice (some ⟨G, 0, none⟩) N cap) (a' := t.f.row) (b' := t.f.col))
  have HK := Lib.hid (set5_keep (ok := fun k => k ≠ w.heap.size) W1 w.heap.size t.f.rows t.f.cols (.slice (some ⟨G, 0, none⟩) N cap) t.f.row t.f.col (fun k => k rfl))
  have HB1 := Lib.hid hb1
  unfold set5 at HF HK
  clear h hok hN HB hb1 hf1
  go_enter Tryz.func14, Tryz.ntmps14
  go_wp2_with fail
  try rw [hW1]
  go_fit (H.out _ x2)
  rintro e w2 ⟨rfl, rfl⟩
  go_wp2_with fail
  obtain ⟨W3, hW3⟩ : ∃ W3, ((((w2.setCell ⟨w.heap.size, 0, none⟩ (.int .i64 t.f.rows)).setCell ⟨w.heap.size, 1, none⟩ (.int .i64 t.f.cols)).setCell ⟨w.heap.size, 2, none⟩ (.slice (some ⟨G, 0, none⟩) N cap)).setCell ⟨w.heap.size, 3, none⟩ (.int .i64 t.f.row)).setCell ⟨w.heap.size, 4, none⟩ (.int .i64 t.f.col) = W3 := ⟨_, rfl⟩
  rw [hW3] at HF HK ⊢
  have hb3 : Below w.heap.size w W3 := KeepW.below HB1.out HK.out HB1.out.size fun k hk => by omega
  clear x0 x1 x2 x3 x4 z0 z1 z2 z3 z4 y0 y1 y2 y3 y4 hlt hW3 hW1
  go_fit (HC.out _ hb3)
  rintro e w4 ⟨g', c', rfl, hc, ⟨zs, hg, hz⟩, hb4⟩
  have hf4 := HF.out.below hb4 HF.out.lt
  have hb04 := hb3.trans (hb4.mono hb3.size)
  have hlt := hf4.lt
  have hne : g' ≠ w.heap.size := by have := HF.out.lt; omega
  have hf5 := hf4.set2 (.slice (some ⟨g', 0, none⟩) N c')
  have k5 := keep_set (ok := fun k => k ≠ w.heap.size) w.heap.size 2 none (.slice (some ⟨g', 0, none⟩) N c') w4 (fun k => k rfl)
  obtain ⟨W5, hW5⟩ : ∃ W5, w4.setCell ⟨w.heap.size, 2, none⟩ (.slice (some ⟨g', 0, none⟩) N c') = W5 := ⟨_, rfl⟩
  rw [hW5] at hf5 k5
  have hf6 := hf5.all (r' := t.f.rows) (c' := t.f.cols) (v' := .slice (some ⟨g', 0, none⟩) N c') (a' := t.f.row) (b' := t.f.col)
  have k6 := k5.trans (set5_keep (ok := fun k => k ≠ w.heap.size) W5 w.heap.size t.f.rows t.f.cols (.slice (some ⟨g', 0, none⟩) N c') t.f.row t.f.col (fun k => k rfl))
  have hz6 := hz.keep k6 hne
  have HFr : Hid (FrameW AnyB (set5 W5 w.heap.size t.f.rows t.f.cols (.slice (some ⟨g', 0, none⟩) N c') t.f.row t.f.col) (.agg #[.int .i64 t.f.rows, .int .i64 t.f.cols, .slice (some ⟨g', 0, none⟩) N c', .int .i64 t.f.row, .int .i64 t.f.col]) t.f) := ⟨_, N, c', rfl, HL.out.symm, hc, hz6.slice trivial HL.out hc⟩
  have HB6 : Hid (Below w.heap.size w (set5 W5 w.heap.size t.f.rows t.f.cols (.slice (some ⟨g', 0, none⟩) N c') t.f.row t.f.col)) := KeepW.below hb04 k6 hb04.size fun k hk => by omega
  have HF6 := Lib.hid hf6
  obtain ⟨⟨z0, z1, z2, z3, z4⟩, y0, y1, y2, y3, y4⟩ := hf4.cells
  obtain ⟨⟨v0, v1, v2, v3, v4⟩, q0, q1, q2, q3, q4⟩ := hf5.cells
  have hlt5 := hf5.lt
  clear hf4 hf5 hf6 hz6 k5 k6 hb04 hb3 hb4 hz HC HF HK
  go_wp2_with fail
  try rw [hW5]
  obtain ⟨⟨t0, t1, t2, t3, t4⟩, _⟩ := HF6.out.cells
  unfold set5 at t0 t1 t2 t3 t4
  exact bodyPost_ret (v := .agg #[.int .i64 t.f.rows, .int .i64 t.f.cols, .slice (some ⟨g', 0, none⟩) N c', .int .i64 t.f.row, .int .i64 t.f.col]) (by simp [results, Tryz.results14, go_sem, t0, t1, t2, t3, t4]) rfl ⟨_, rfl, HFr.out, HB6.out⟩
end
end Go.Proofs.YtpkjaallhhjleaaGreatDoor
