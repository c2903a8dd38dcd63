/-
  TermText: a text of runes that are shown stands in the rows, as many in each as there is room for: the law's walk: it returns true.
-/
import Derived.Lib.SmallJoins
import Derived.Deep.AppendLies
import Derived.StillTailTactics
import Derived.Test.YtpkjaallhhjleaaGreatDoorBa29
import Derived.Test.YtpkjaallhhjleaaGreatDoorLTmTextN
import Derived.Test.YtpkjaallhhjleaaGreatDoorLTmTextM
import Derived.Test.YtpkjaallhhjleaaGreatDoorBa25
namespace Go.Proofs.YtpkjaallhhjleaaGreatDoor
open Go.RowKit

theorem Tryz.infoStr8 : (Tryz.prog.info? 9).map (fun i => (i.zero, i.size, i.bytes)) = some (some (.string ⟨#[]⟩), 1, 16) := by kernel_rfl
set_option maxRecDepth 20000 in
set_option maxHeartbeats 4000000 in
theorem termText_far (s : ByteArray) (z0 z1 : Int) (w : World) (hL : LaidT w) (h : 300 < s.size) :
    Calls Tryz.prog 7 #[.string s, .agg #[.int .u8 z0, .int .u8 z1]] w fun e w' => e = .returned (.bool true) ∧ Below w.heap.size w w' := by
  have H := Lib.hid (fun W (hW : Below w.heap.size w W) => wrapped_any W (hL.below hW))
  have HB : Hid (Below w.heap.size w (w.alloc (.cells #[.int .u8 z0, .int .u8 z1] 22))) := (Below.refl _ _).alloc (Nat.le_refl _) _
  have hi : (300 : Int) < (s.size : Int) := by omega
  clear hL h
  go_enter Tryz.func7, Tryz.ntmps7
  go_wp2_with fail
  go_fit (H.out _ HB.out)
  rintro e w1 ⟨rfl, hb⟩
  go_wp2_with fail
  go_ret
  exact ⟨rfl, HB.out.trans (hb.mono HB.out.size)⟩
/-- What the first loop keeps. -/
def TxL (w w4 wr : World) (B G P n : Nat) (T0 : Tm) (v : Value) (V : List ByteArray) (x X : ByteArray) (used gs : Nat) (S : List Nat) : Prop :=
  TxI (writeT T0 X.data.toList) n V x used ∧ TxM w4 wr v (V ++ [x]) gs S ∧ TmS w w4 B G P P T0
set_option maxRecDepth 20000 in
set_option maxHeartbeats 16000000 in
theorem termText_near (s : ByteArray) (z0 z1 : Int) (w : World) (hL : LaidT w) (hz1 : 0 ≤ z1 ∧ z1 ≤ 255) (hs : s.size ≤ 300) :
    Calls Tryz.prog 7 #[.string s, .agg #[.int .u8 z0, .int .u8 z1]] w fun e w' => e = .returned (.bool true) ∧ Below w.heap.size w w' := by
  obtain ⟨i0, hi0, hiz0, hiz1, hiz2⟩ := info_parts Tryz.infoStr8
  have HI := Lib.hid hi0
  have HI0 := Lib.hid hiz0
  have HI1 := Lib.hid hiz1
  have HI2 := Lib.hid hiz2
  have hsi : (s.size : Int) ≤ 300 := by omega
  obtain ⟨u1, hu1⟩ : ∃ t, z1.tmod 9 = t := ⟨_, rfl⟩
  have q1 : 0 ≤ u1 ∧ u1 < 9 := by rw [← hu1]; exact ⟨Int.tmod_nonneg _ hz1.1, Int.tmod_lt_of_pos _ (by omega)⟩
  obtain ⟨n, hn⟩ : ∃ n : Nat, 8 + u1 = (n : Int) := ⟨(8 + u1).toNat, by omega⟩
  have k5 : IntKind.i64.wrap z1 = z1 := IntWalk.i64_in _ (by omega)
  have k7 : IntKind.i64.wrap u1 = u1 := IntWalk.i64_in _ (by omega)
  have k9 : IntKind.i64.wrap (n : Int) = (n : Int) := IntWalk.i64_in _ (by omega)
  have hn2 : 8 ≤ n ∧ n ≤ 16 := by omega
  have HE := Lib.hid (fun W (hW : Below w.heap.size w W) => wrapped_any W (hL.below hW))
  have HNw : Hid (∀ W, Below w.heap.size w W → Calls Tryz.prog 9 #[.int .i64 40, .int .i64 (n : Int)] W fun e w' => ∃ B G, e = .returned (.tuple #[.pointer (some ⟨B, 0, none⟩), .int .i64 0]) ∧ TmS w w' B G (40 * n) (40 * n) (newT ((40 : Nat) : Int) (n : Int)) ∧ Below W.heap.size W w' ∧ W.heap.size ≤ B ∧ W.heap.size ≤ G) := fun W hW => tnew_any 40 n W (by omega) (by omega) (hL.below hW).fr hW
  have HX0 := Lib.hid (txI_new n (by omega))
  have hTk := newT_ok 40 n (by omega) (by omega)
  obtain ⟨P, hP⟩ : ∃ P, 40 * n = P := ⟨_, rfl⟩
  rw [hP] at HNw
  obtain ⟨T0, hT0⟩ : ∃ T, newT ((40 : Nat) : Int) (n : Int) = T := ⟨_, rfl⟩
  rw [hT0] at HNw HX0 hTk
  have HWr : Hid (∀ W B G X, X.size ≤ 10000 → TmS w W B G P P T0 → Calls Tryz.prog 11 #[.pointer (some ⟨B, 0, none⟩), .string X] W (TmD w W B G P P (writeT T0 X.data.toList))) := fun W B G X hX hS => twrite_any X W hS hTk hL (by omega)
  have HFr : Hid (∀ W B G T, OkT T 40 n → TmS w W B G P P T → Calls Tryz.prog 14 #[.pointer (some ⟨B, 0, none⟩)] W fun e w' => ∃ v', e = .returned v' ∧ FrameW AnyB w' v' T.f ∧ Below W.heap.size W w') := fun W B G T hT hS => tframe_any W hS hT.fr
  have HRo : Hid (∀ W v f, Below w.heap.size w W → FrameW AnyB W v f → Calls Tryz.prog 24 #[v] W fun e w' => ∃ u, e = .returned u ∧ StrsV AnyB w' u (rowsF f) ∧ Below W.heap.size W w') := fun W v f hW hv => grows_any W hv (hL.below hW).fr
  have HSt := Lib.hid (fun W => cstarts_any s W (by omega))
  have HNx : Hid (∀ W (p : Nat), p < s.size → Calls Tryz.prog 21 #[.string s, .int .i64 (p : Int)] W fun e w' => e = .returned (.tuple #[.int .i32 ((Utf8.decode s p).1 : Int), .int .i64 ((Utf8.decode s p).2 : Int), .bool (okAt s p)]) ∧ Below W.heap.size W w') := fun W p hp => by
    have := next_in s (p : Int) W (by omega) (by omega) (by unfold maxLen; omega)
    rwa [Int.toNat_natCast] at this
  have HOf : Hid (∀ W r, Below w.heap.size w W → Calls Tryz.prog 22 #[.int .i32 r] W fun e w' => e = .returned (.int .i64 (ofN r : Int)) ∧ Below W.heap.size W w') := fun W r hW => of_any r W (hL.below hW).fr.1
  have HPu : Hid (∀ r W, Calls Tryz.prog 23 #[.int .i32 r] W fun e w' => e = .returned (.string (putB r)) ∧ w' = W) := fun r W => putB_any r W
  have hSl := stA_length s
  have hSb : ∀ p ∈ stA s, p < s.size := fun p hp => stL_lt' s _ _ p hp
  obtain ⟨S, hS⟩ : ∃ S, stA s = S := ⟨_, rfl⟩
  rw [hS] at HSt hSl hSb
  have HSB := Lib.hid hSb
  have HB : Hid (∀ W1, w.alloc (.cells #[.int .u8 z0, .int .u8 z1] 22) = W1 → Below w.heap.size w W1 ∧ W1.cell? ⟨w.heap.size, 1, none⟩ = some (.int .u8 z1)) := fun W1 h1 => by
    rw [← h1]
    refine ⟨(Below.refl _ _).alloc (Nat.le_refl _) _, ?_⟩
    rw [cell_of_row _ _ _ _ _ _ (heap_alloc_new w _)]; rfl
  obtain ⟨hz10, hz11⟩ := hz1
  clear hL hTk hP hT0 q1 hS hSb hi0 hiz0 hiz1 hiz2
  go_enter Tryz.func7, Tryz.ntmps7
  go_wp2_with fail
  obtain ⟨W1, hW1⟩ : ∃ W1, w.alloc (.cells #[.int .u8 z0, .int .u8 z1] 22) = W1 := ⟨_, rfl⟩
  obtain ⟨hb1, x1⟩ := HB.out W1 hW1
  try rw [hW1]
  go_wp2_with fail
  go_quiet (fail)
  obtain ⟨W2, hW2⟩ : ∃ W2, W1.drewN nq = W2 := ⟨_, rfl⟩
  have hb2 : Below w.heap.size w W2 := by rw [← hW2]; exact below_drewN hb1 nq
  try rw [hW2]
  clear hW1 hW2 x1 k5 k7 hu1 hn hb1 HB
  go_wp2_with fail
  go_fit (HNw.out _ hb2)
  rintro e w4 ⟨B, G, rfl, hS4, hb4, _, _⟩
  have HS4 := Lib.hid hS4
  clear hS4 hb4 hb2 HNw
  go_wp2_with fail
  obtain ⟨W5, hW5⟩ : ∃ W5, w4.alloc (.cells #[.string ⟨#[]⟩] 9) = W5 := ⟨_, rfl⟩
  have ho5 : W5.ownsRow w4.heap.size 9 1 (.slice (some ⟨w4.heap.size, 0, none⟩) 1 1) 1 [.string ⟨#[]⟩] := by
    rw [← hW5]
    exact World.ownsRow_lit w4 #[.string ⟨#[]⟩] 1 (Nat.le_refl _) (by unfold maxLen; omega) rfl
  have hb5 : Below w4.heap.size w4 W5 := by rw [← hW5]; exact (Below.refl _ _).alloc (Nat.le_refl _) _
  have hg5 : W5.heap.size = w4.heap.size + 1 := by rw [← hW5, World.size_alloc]
  try rw [hW5]
  clear hW5
  go_fit (HSt.out W5)
  rintro e w6 ⟨v6, rfl, ho6, hb6⟩
  obtain ⟨gs, ao, cs, rfl, hpl, hgs, hgl⟩ : ∃ (gs : Nat) (ao : Option Addr) (cs : Nat), v6 = .slice ao S.length cs ∧ (∀ k p : Nat, S[k]? = some p → ao = some ⟨gs, 0, none⟩ ∧ w6.cell? ⟨gs, k, none⟩ = some (.int .i64 (p : Int))) ∧ w4.heap.size < gs ∧ (S ≠ [] → gs < w6.heap.size) := by
    rcases Joins.ownsRow_forms ho6 with ⟨rfl, h0⟩ | ⟨gs, cs, rfl⟩
    · refine ⟨w4.heap.size + 1, none, 0, by rw [h0], fun k p hk => ?_, by omega, fun h => absurd (List.eq_nil_of_length_eq_zero h0) h⟩
      rw [List.eq_nil_of_length_eq_zero h0] at hk
      cases hk
    · have hl := ho6.lt gs rfl
      refine ⟨gs, _, cs, rfl, fun k p hk => ⟨rfl, ?_⟩, by omega, fun _ => hl.2⟩
      rw [ho6.cellAt k (by rw [Nat.mul_one]; exact (List.getElem?_eq_some_iff.1 hk).1)]
      unfold ints
      rw [List.getElem?_map, hk]
      rfl
  have HPL : Hid (∀ k p : Nat, S[k]? = some p → ao = some ⟨gs, 0, none⟩) := fun k p hk => (hpl k p hk).1
  have HR0 : Hid (TxL w w4 w6 B G P n T0 (.slice (some ⟨w4.heap.size, 0, none⟩) 1 1) [] ⟨#[]⟩ ⟨#[]⟩ 0 gs S) := by
    have hne : (Value.slice (some ⟨w4.heap.size, 0, none⟩) 1 1).ownBlock ≠ some gs := by show some w4.heap.size ≠ some gs; intro e; injection e with e; omega
    have h6 := (TxM.mk (w4 := w4) (wr := W5) (v := .slice (some ⟨w4.heap.size, 0, none⟩) 1 1) (W := [⟨#[]⟩]) (gs := gs) (P := []) hb5 ho5 (fun k p h => by simp at h) hne (fun h => absurd rfl h)).next hb6
    exact ⟨HX0.out, ⟨h6.below, h6.own, fun k p hp => (hpl k p hp).2, hne, hgl⟩, HS4.out⟩
  obtain ⟨N, hN⟩ : ∃ N, S.length = N := ⟨_, rfl⟩
  rw [hN] at hSl
  have hNi : (N : Int) ≤ 300 := by omega
  have HSl := Lib.hid hN
  have H46 : Hid (w4.heap.size ≤ w6.heap.size) := by show _ ≤ _; have := hb6.size; omega
  try rw [hN]
  clear hpl hgs hgl ho6 hb6 ho5 hb5 hg5 HX0 hN hSl HSt
  go_wp2_with fail
  go_loopw [9, 10, 11, 13] (fun s9 s10 s11 s13 wr => ∃ (v : Value) (i used : Nat) (V : List ByteArray) (x X : ByteArray), v = s9 ∧ s10 = .int .i64 (used : Int) ∧ s11 = .string X ∧ s13 = .int .i64 (i : Int) ∧ i ≤ N ∧ used ≤ n ∧ V.length + 1 ≤ 40 ∧ X.size ≤ 4 * i ∧ x.size ≤ 4 * i ∧ Hid (TxL w w4 wr B G P n T0 v V x X used gs S)) (fun _ _ _ s13 _ => N - (intOf s13).toNat)
  case atStart => exact ⟨_, 0, 0, [], ⟨#[]⟩, ⟨#[]⟩, rfl, rfl, rfl, rfl, Nat.zero_le _, Nat.zero_le _, by simp, Nat.zero_le _, Nat.zero_le _, HR0⟩
  case round =>
    obtain ⟨v, i, used, V, x, X, rfl, rfl, rfl, rfl, hi, hun, hV, hX, hx, HR⟩ := hrel
    clear HR0
    obtain ⟨g, cap, m, k, rfl, ⟨hm1, hm2, hmL⟩, hk, hcap, hcl, hfr, hg1, hg2⟩ : ∃ (g cap m k : Nat), v = .slice (some ⟨g, 0, none⟩) m cap ∧ (m ≤ k + 1 ∧ k + 1 ≤ m ∧ m = (V ++ [x]).length) ∧ V.length = k ∧ m ≤ cap ∧ (∀ i y, (V ++ [x])[i]? = some y → wr.cell? ⟨g, i, none⟩ = some (.string y)) ∧ (∀ i, wr.frozen? ⟨g, i, none⟩ = false) ∧ g < wr.heap.size ∧ w4.heap.size ≤ g := by
      obtain ⟨g, cap, h1, h2, h3, h4, h5, h6⟩ := TxM.cell HR.out.2.1 (by simp)
      exact ⟨g, cap, (V ++ [x]).length, V.length, h1, ⟨by simp, by simp, rfl⟩, rfl, h2, h3, h4, h5, h6⟩
    have hb0r : Below w.heap.size w wr := HS4.out.below.trans (HR.out.2.1.below.mono HS4.out.below.size)
    have hVk : (V ++ [x])[k]? = some x := by rw [← hk]; simp
    have hm40 : m ≤ 40 := by omega
    have HVk := Lib.hid (And.intro hk hmL)
    have hk1 : V.length ≤ k := by omega
    have hk2 : k ≤ V.length := by omega
    clear hk hmL
    by_cases hlt : i < N
    · obtain ⟨p, hp⟩ : ∃ p, S[i]? = some p := ⟨_, List.getElem?_eq_getElem (by rw [HSl.out]; exact hlt)⟩
      obtain rfl := HPL.out i p hp
      have hc0 := HR.out.2.1.pl i p hp
      have hp2 : p < s.size := HSB.out p (List.mem_of_getElem? hp)
      have hN1 := HNx.out wr p hp2
      have HSn : Hid (S ≠ []) := by show _ ≠ _; intro e; rw [e] at hp; cases hp
      obtain ⟨R, hR⟩ : ∃ R : Int, ((Utf8.decode s p).1 : Int) = R := ⟨_, rfl⟩
      obtain ⟨D, hD⟩ : ∃ R : Int, ((Utf8.decode s p).2 : Int) = R := ⟨_, rfl⟩
      obtain ⟨ok, hok⟩ : ∃ b, okAt s p = b := ⟨_, rfl⟩
      rw [hR, hD, hok] at hN1
      obtain ⟨n0, hn0⟩ : ∃ b, ofN R = b := ⟨_, rfl⟩
      have hN0 : Hid (∀ W, Below w.heap.size w W → Calls Tryz.prog 22 #[.int .i32 R] W fun e w' => e = .returned (.int .i64 (n0 : Int)) ∧ Below W.heap.size W w') := fun W hW => by
        have := HOf.out W R hW
        rwa [hn0] at this
      have hN1 := Lib.hid hN1
      have hq := hb0r
      have hn2' : n0 ≤ 2 := by rw [← hn0]; have := ofN_le R; omega
      have HN0 := Lib.hid hn0
      have j1 : (i : Int) < (N : Int) := by omega
      have j2 : (0 : Int) ≤ (i : Int) := by omega
      obtain ⟨y, hy⟩ : ∃ k, i + 1 = k := ⟨_, rfl⟩
      have j3 : (i : Int) + 1 = (y : Int) := by omega
      have hyN : y ≤ N := by omega
      have HYI : Hid (i < y) := by show _ < _; omega
      have hgi : 0 ≤ p := Nat.zero_le _
      clear hp hp2 hR hD hok hn0 hb0r
      go_wp2_with fail
      go_fit hN1.out
      rintro e w7 ⟨rfl, hb7⟩
      have hb07 := hq.trans (hb7.mono hq.size)
      have HR7 := Lib.hid hb7
      clear hb7 hc0
      go_wp2_with fail
      go_fit (hN0.out w7 hb07)
      rintro e w8 ⟨rfl, hb8⟩
      have hbr8 : Below wr.heap.size wr w8 := HR7.out.trans (hb8.mono HR7.out.size)
      have HR8 : Hid (TxL w w4 w8 B G P n T0 (.slice (some ⟨g, 0, none⟩) m cap) V x X used gs S) := ⟨HR.out.1, HR.out.2.1.next hbr8, HR.out.2.2⟩
      have hck : w8.cell? ⟨g, k, none⟩ = some (.string x) := by
        have := hcl k x hVk
        rw [hbr8.cell (p := ⟨g, k, none⟩) (rlt this)]
        exact this
      clear hb8 hb07 hbr8 hcl hfr HR hVk hg1
      cases ok with
      | false =>
        clear HR7 hq hN1 hN0
        go_wp2_with fail
        go_roundw
        case rel => exact ⟨_, y, used, V, x, X, rfl, rfl, rfl, rfl, hyN, hun, hV, by omega, by omega, HR8⟩
        case measure => simp [intOf]; have := HYI.out; omega
      | true =>
        by_cases hz : n0 = 0
        · have bz : ((n0 : Int) == 0) = true := by rw [hz]; rfl
          clear hz
          clear HR7 hq hN1 hN0
          go_wp2_with fail
          go_roundw
          case rel => exact ⟨_, y, used, V, x, X, rfl, rfl, rfl, rfl, hyN, hun, hV, by omega, by omega, HR8⟩
          case measure => simp [intOf]; have := HYI.out; omega
        · have bz : ((n0 : Int) == 0) = false := by simp; omega
          by_cases hm4 : m = 40
          · have bm : ((m : Int) == 40) = true := by rw [hm4]; rfl
            clear hz hm4
            clear HR7 hq hN1 hN0
            go_wp2_with fail
            go_roundw
            case rel => exact ⟨_, y, used, V, x, X, rfl, rfl, rfl, rfl, hyN, hun, hV, by omega, by omega, HR8⟩
            case measure => simp [intOf]; have := HYI.out; omega
          · have bm : ((m : Int) == 40) = false := by simp; omega
            obtain ⟨T, hT⟩ : ∃ T, putB R = T := ⟨_, rfl⟩
            have hTl : T.size ≤ 4 := by rw [← hT]; exact putB_len _
            have hPT := fun W => HPu.out R W
            rw [hT] at hPT
            have HPT := Lib.hid hPT
            have HT := Lib.hid hT
            have hmlt : m < 40 := by omega
            have hn0p : 0 < n0 := by omega
            obtain ⟨XT, hXT⟩ : ∃ c, X ++ T = c := ⟨_, rfl⟩
            have hadd2 : ∀ W, (Op.stringOp .add X T).run Tryz.prog W = .ok (.string XT) W := fun W => by rw [← hXT]; exact run_string_add_sum W X T (by omega)
            have hXTl : XT.size ≤ 4 * y := by rw [← hXT, app_size]; omega
            have HXT := Lib.hid hXT
            clear hT hPT hXT hz hm4 HR7 hq hN1 hN0
            by_cases hov : used + n0 ≤ n
            · have ho : ¬ (n : Int) < (used : Int) + (n0 : Int) := by omega
              obtain ⟨xT, hxT⟩ : ∃ c, x ++ T = c := ⟨_, rfl⟩
              have hadd1 : ∀ W, (Op.stringOp .add x T).run Tryz.prog W = .ok (.string xT) W := fun W => by rw [← hxT]; exact run_string_add_sum W x T (by omega)
              have hxTl : xT.size ≤ 4 * y := by rw [← hxT, app_size]; omega
              obtain ⟨u2, hu⟩ : ∃ u, used + n0 = u := ⟨_, rfl⟩
              have hui : (used : Int) + (n0 : Int) = (u2 : Int) := by omega
              have hu2 : u2 ≤ n := by omega
              have hwm : IntKind.i64.wrap ((m : Int) - 1) = (k : Int) := by rw [show (m : Int) - 1 = (k : Int) by omega]; exact IntWalk.i64_in _ (by omega)
              have hkm : (k : Int) < (m : Int) := by omega
              have hk0 : (0 : Int) ≤ (k : Int) := by omega
              have HSt3 : Hid (∀ Wd, w8.drew = Wd → Wd.cell? ⟨g, k, none⟩ = some (.string x) ∧ Wd.frozen? ⟨g, k, none⟩ = false ∧ ∀ W3, Wd.setCell ⟨g, k, none⟩ (.string xT) = W3 → Hid (TxL w w4 W3 B G P n T0 (.slice (some ⟨g, 0, none⟩) m cap) V xT XT u2 gs S)) := by
                intro Wd hWd
                have hM := HR8.out.2.1.next (w' := Wd) (by rw [← hWd]; exact (Below.refl _ _).drew)
                refine ⟨by rw [← hWd]; exact hck, ?_, fun W3 hW3 => ⟨?_, ?_, HR8.out.2.2⟩⟩
                · obtain ⟨g', cap', h1, _, _, h4, _, _⟩ := TxM.cell hM (by simp)
                  injection h1 with h1 _ _
                  injection h1 with h1
                  injection h1 with h1 _ _
                  rw [h1]
                  exact h4 k
                · rw [← HXT.out, app_data, write_app, ← hxT, ← hu, ← HT.out, ← HN0.out]
                  exact txI_same HR8.out.1 (by rw [HN0.out]; omega) (by rw [HN0.out]; omega)
                · rw [← hW3, ← HVk.out.1]
                  exact hM.stored
              clear HR8 hxT hu hov HVk HT HXT HN0
              go_wp2_with fail
              go_still_tail 14, (by kernel_rfl)
              still_call (HPT.out _)
              repeat still_step
              try refine wpStill_nil ?_
              obtain ⟨Wd, hWd⟩ : ∃ Wd, w8.drew = Wd := ⟨_, rfl⟩
              change wpList _ _ _ _ _ w8.drew
              rw [hWd]
              obtain ⟨d1, d2, HS3⟩ := HSt3.out Wd hWd
              have HS3 := Lib.hid HS3
              obtain ⟨W3, hW3⟩ : ∃ W3, Wd.setCell ⟨g, k, none⟩ (.string xT) = W3 := ⟨_, rfl⟩
              have HR9 := Lib.hid (HS3.out W3 hW3)
              clear HSt3 HS3
              go_wp2_with fail
              try rw [hW3]
              go_fit (HPT.out W3)
              rintro e w9 ⟨rfl, rfl⟩
              clear d1 d2 hW3 hWd
              go_wp2_with fail
              go_roundw
              case rel => exact ⟨_, y, u2, V, xT, XT, rfl, by go_num, rfl, rfl, hyN, hu2, hV, by omega, by omega, HR9.out⟩
              case measure => simp [intOf]; have := HYI.out; omega
            · have ho : (n : Int) < (used : Int) + (n0 : Int) := by omega
              obtain ⟨WA, hWA⟩ : ∃ WA, w8.alloc (.cells #[.string ⟨#[]⟩] 9) = WA := ⟨_, rfl⟩
              have hbA : Below w8.heap.size w8 WA := by rw [← hWA]; exact (Below.refl _ _).alloc (Nat.le_refl _) _
              have hMA := HR8.out.2.1.next hbA
              have HO : Hid (WA.ownsRow w4.heap.size 9 1 (.slice (some ⟨g, 0, none⟩) m cap) m (strC (V ++ [x]))) := by
                have := hMA.own
                rwa [← HVk.out.2] at this
              have HNw2 : Hid (∀ j u, [Value.string ⟨#[]⟩][j]? = some u → WA.cell? ((⟨w8.heap.size, 0, none⟩ : Addr).add j) = some u) := fun j u hu => by
                match j, hu with
                | 0, hu =>
                  injection hu with hu
                  subst hu
                  show WA.cell? ⟨w8.heap.size, 0, none⟩ = _
                  rw [← hWA, cell_of_row _ _ _ _ _ _ (heap_alloc_new w8 _)]
                  rfl
                | j + 1, hu => simp at hu
              have H1c : Hid (∀ u ∈ [Value.string ⟨#[]⟩], u.oneCell' = true) := fun u hu => by
                rw [List.mem_singleton] at hu
                subst hu
                rfl
              obtain ⟨m1, hm1e⟩ : ∃ m1, m + 1 = m1 := ⟨_, rfl⟩
              have hlen2 : ((V ++ [x]) ++ ([⟨#[]⟩] : List ByteArray)).length = m1 := by rw [List.length_append, ← HVk.out.2]; exact hm1e
              have HG2 : Hid (∀ g2 cap2 w9, w9.ownsRow w4.heap.size 9 1 (.slice (some ⟨g2, 0, none⟩) m1 cap2) m1 (strC (V ++ [x]) ++ [.string ⟨#[]⟩]) → WA.grownBy w9 (some g) → (some g = some g2 ∨ g2 = WA.heap.size) → TxM w4 w9 (.slice (some ⟨g2, 0, none⟩) m1 cap2) ((V ++ [x]) ++ [⟨#[]⟩]) gs S) := fun g2 cap2 w9 ho hg ha => by
                refine hMA.grown hg ?_ ?_
                · rw [hlen2, strC_app]
                  exact ho
                · show some g2 ≠ some gs
                  intro e
                  injection e with e
                  rcases ha with h | h
                  · injection h with h
                    exact hMA.ne (by show some g = some gs; rw [h, e])
                  · have := hMA.lt HSn.out
                    omega
              obtain ⟨xT, hxT⟩ : ∃ c, (⟨#[]⟩ : ByteArray) ++ T = c := ⟨_, rfl⟩
              have hxT2 : xT = T := by
                rw [← hxT]
                apply ByteArray.ext
                apply Array.toList_inj.1
                rw [app_data]
                rfl
              have hadd1 : ∀ W, (Op.stringOp .add ⟨#[]⟩ T).run Tryz.prog W = .ok (.string xT) W := fun W => by rw [← hxT]; exact run_string_add_sum W ⟨#[]⟩ T (by rw [show (⟨#[]⟩ : ByteArray).size = 0 from rfl]; omega)
              have hxTl : xT.size ≤ 4 * y := by rw [hxT2]; omega
              have hu2 : n0 ≤ n := by omega
              have hwm : IntKind.i64.wrap ((m1 : Int) - 1) = (m : Int) := by rw [show (m1 : Int) - 1 = (m : Int) by omega]; exact IntWalk.i64_in _ (by omega)
              have hkm : (m : Int) < (m1 : Int) := by omega
              have hk0 : (0 : Int) ≤ (m : Int) := by omega
              have hm1x : m1 ≤ 40 := by omega
              have hV2 : (V ++ [x]).length + 1 ≤ 40 := by rw [← HVk.out.2]; omega
              have HSt4 : Hid (∀ g2 cap2 w10, TxM w4 w10 (.slice (some ⟨g2, 0, none⟩) m1 cap2) ((V ++ [x]) ++ [⟨#[]⟩]) gs S → w10.cell? ⟨g2, m, none⟩ = some (.string ⟨#[]⟩) ∧ ∀ Wd, w10.drew = Wd → Wd.cell? ⟨g2, m, none⟩ = some (.string ⟨#[]⟩) ∧ Wd.frozen? ⟨g2, m, none⟩ = false ∧ ∀ W3, Wd.setCell ⟨g2, m, none⟩ (.string xT) = W3 → Hid (TxL w w4 W3 B G P n T0 (.slice (some ⟨g2, 0, none⟩) m1 cap2) (V ++ [x]) xT XT n0 gs S)) := by
                intro g2 cap2 w10 hM10
                have hcx : w10.cell? ⟨g2, m, none⟩ = some (.string ⟨#[]⟩) := by
                  obtain ⟨g', cap', h1, _, h3, h4, _, _⟩ := TxM.cell hM10 (by simp)
                  injection h1 with h1 _ _
                  injection h1 with h1
                  injection h1 with h1 _ _
                  rw [h1]
                  refine h3 m _ ?_
                  rw [HVk.out.2, List.getElem?_append_right (Nat.le_refl _), Nat.sub_self]
                  rfl
                refine ⟨hcx, fun Wd hWd => ?_⟩
                have hM := hM10.next (w' := Wd) (by rw [← hWd]; exact (Below.refl _ _).drew)
                refine ⟨by rw [← hWd]; exact hcx, ?_, fun W3 hW3 => ⟨?_, ?_, HR8.out.2.2⟩⟩
                · obtain ⟨g', cap', h1, _, _, h4, _, _⟩ := TxM.cell hM (by simp)
                  injection h1 with h1 _ _
                  injection h1 with h1
                  injection h1 with h1 _ _
                  rw [h1]
                  exact h4 m
                · rw [← HXT.out, app_data, write_app, hxT2, ← HT.out, ← HN0.out]
                  exact txI_next HR8.out.1 (by rw [HN0.out]; omega) (by rw [HN0.out]; omega) (by omega)
                · have := hM.stored (y := xT)
                  rw [← HVk.out.2] at this
                  rw [← hW3]
                  exact this
              have HM1 := Lib.hid hm1e
              have HBs : Hid (w4.heap.size ≤ WA.heap.size) := hMA.below.size
              have hm1u : m + 1 ≤ m1 ∧ m1 ≤ m + 1 := by omega
              clear HR8 hxT hxT2 hov HVk HT HXT HN0 hlen2 hm1e hMA
              go_wp2_with (at_builtin; refine wpList_append_lies _ rfl _ _ _ rfl w4.heap.size 9 i0 _ 1 16 Tryz.underlying57 HI.out HI0.out HI1.out HI2.out rfl (by omega) (.slice (some ⟨g, 0, none⟩) m cap) m (strC (V ++ [x])) (by rfl) HO.out ⟨w8.heap.size, 0, none⟩ 1 1 [.string ⟨#[]⟩] (by rfl) (by rfl) HNw2.out H1c.out (by omega) (by unfold maxLen; omega) (by omega) HBs.out _ rfl ?_; rw [HM1.out]; intro g2 cap2 w10 hown hgr hat hlt2; have HM10 := Lib.hid (HG2.out g2 cap2 w10 hown hgr hat); clear hown hgr hat hlt2)
              obtain ⟨hck2, HSt3⟩ := HSt4.out g2 cap2 w10 HM10.out
              have HSt3 := Lib.hid HSt3
              clear hWA HO HNw2 H1c HG2 HSt4 hck
              go_still_tail 14, (by kernel_rfl)
              still_call (HPT.out _)
              repeat still_step
              try refine wpStill_nil ?_
              obtain ⟨Wd, hWd⟩ : ∃ Wd, w10.drew = Wd := ⟨_, rfl⟩
              change wpList _ _ _ _ _ w10.drew
              rw [hWd]
              obtain ⟨d1, d2, HS3⟩ := HSt3.out Wd hWd
              have HS3 := Lib.hid HS3
              obtain ⟨W3, hW3⟩ : ∃ W3, Wd.setCell ⟨g2, m, none⟩ (.string xT) = W3 := ⟨_, rfl⟩
              have HR9 := Lib.hid (HS3.out W3 hW3)
              clear HSt3 HS3
              go_wp2_with fail
              try rw [hW3]
              go_fit (HPT.out W3)
              rintro e w9 ⟨rfl, rfl⟩
              clear d1 d2 hW3 hWd
              go_wp2_with fail
              go_roundw
              case rel => exact ⟨_, y, n0, (V ++ [x]), xT, XT, rfl, by go_num, rfl, rfl, hyN, hu2, hV2, by omega, by omega, HR9.out⟩
              case measure => simp [intOf]; have := HYI.out; omega
    · have hiN : ¬ (i : Int) < (N : Int) := by omega
      have hXw : X.size ≤ 10000 := by omega
      have HT6 := Lib.hid (HS4.out.next HR.out.2.1.below)
      have HTx := Lib.hid HR.out.1
      have HNB : Hid (NotBG B G g) := by
        have l1 := HS4.out.box.lt
        have l2 := HS4.out.gt
        show _ ∧ _
        omega
      obtain ⟨L, hL⟩ : ∃ L, V ++ [x] = L := ⟨_, rfl⟩
      have HRw : Hid (∀ (T : Tm), T = writeT T0 X.data.toList → OkT T 40 n ∧ ∀ (i : Nat) (y : ByteArray), L[i]? = some y → ∃ z : ByteArray, (rowsF T.f)[i]? = some z ∧ y.size ≤ z.size ∧ z.extract 0 y.size = y) := fun T hT => by
        rw [hT]
        exact ⟨HTx.out.ok, fun i y hy => txI_rows HTx.out i y (by rw [hL]; exact hy)⟩
      rw [hL] at hcl
      have HCl := Lib.hid hcl
      have HLm : Hid (L.length = m) := by show _ = _; rw [← hL]; exact HVk.out.2.symm
      obtain ⟨TF, hTF⟩ : ∃ T, writeT T0 X.data.toList = T := ⟨_, rfl⟩
      obtain ⟨hok, hrw⟩ := HRw.out TF hTF.symm
      have hW := HWr.out wr B G X hXw HT6.out
      rw [hTF] at hW
      have HW := Lib.hid hW
      have HOk := Lib.hid hok
      have HRW := Lib.hid hrw
      have hrl : (rowsF TF.f).length = 40 := by
        unfold rowsF
        rw [if_pos hok.fr.valid, hok.fr.nat.1, List.length_map, List.length_range]
      have HRL := Lib.hid hrl
      clear hW hok hrw hrl hTF HRw hcl hVk hfr hL HR HTx HT6 HVk hb0r hg1
      go_wp2_with fail
      go_fit HW.out
      rintro e w5 ⟨rfl, hS5, hK5⟩
      have HS5 := Lib.hid hS5
      have HC5 : Hid (∀ i y, L[i]? = some y → w5.cell? ⟨g, i, none⟩ = some (.string y)) := fun i y hy => hK5.cell (HCl.out i y hy) HNB.out
      clear hS5 hK5 HW HCl
      go_wp2_with fail
      go_fit (HFr.out _ _ _ _ HOk.out HS5.out)
      rintro e w6' ⟨v7, rfl, hf6, hb6⟩
      have hb06 := HS5.out.below.trans (hb6.mono HS5.out.below.size)
      have HF6 := Lib.hid hf6
      have HC6 : Hid (∀ i y, L[i]? = some y → w6'.cell? ⟨g, i, none⟩ = some (.string y)) := fun i y hy => by
        have := HC5.out i y hy
        rw [hb6.cell (p := ⟨g, i, none⟩) (rlt this)]
        exact this
      clear hf6 hb6 HC5 HS5
      go_wp2_with fail
      go_fit (HRo.out _ _ _ hb06 HF6.out)
      rintro e w7 ⟨u7, rfl, hs7, hb7⟩
      have hb07 := hb06.trans (hb7.mono hb06.size)
      have HC7 : Hid (∀ i y, L[i]? = some y → w7.cell? ⟨g, i, none⟩ = some (.string y)) := fun i y hy => by
        have := HC6.out i y hy
        rw [hb7.cell (p := ⟨g, i, none⟩) (rlt this)]
        exact this
      obtain ⟨r7, hr7⟩ : ∃ r, (rowsF TF.f).length = r := ⟨_, rfl⟩
      have HZ7 : Hid (∀ i z, (rowsF TF.f)[i]? = some z → ∃ g o cap, u7 = .slice (some ⟨g, o, none⟩) r7 cap ∧ ∀ W, Below w7.heap.size w7 W → W.cell? ⟨g, o + i, none⟩ = some (.string z)) := fun i x hx => by
        obtain ⟨g, o, cap, hv, _, _, hc⟩ := RowV.at_ hs7 (strC_at hx)
        rw [hr7] at hv
        refine ⟨g, o, cap, hv, fun W hW => ?_⟩
        have := hc i _ (strC_at hx)
        rw [hW.cell (p := ⟨g, o + i, none⟩) (rlt this)]
        exact this
      obtain ⟨a7, c7, rfl, _⟩ := hs7
      try rw [hr7]
      have hr1 : r7 ≤ 40 ∧ 40 ≤ r7 := by have := HRL.out; omega
      have b7 : ((r7 : Int) != 40) = false := by simp; omega
      have HB7 := Lib.hid hb07
      clear hb7 hb06 hb07 hr7 HF6 HC6
      go_wp2_with fail
      go_loopw [19] (fun s19 wr2 => ∃ i2 : Nat, s19 = .int .i64 (i2 : Int) ∧ i2 ≤ m ∧ Hid (Below w7.heap.size w7 wr2)) (fun s19 _ => m - (intOf s19).toNat)
      case atStart => exact ⟨0, rfl, Nat.zero_le _, Below.refl _ _⟩
      case round =>
        obtain ⟨i2, rfl, hi2, HQ⟩ := hrel
        by_cases hl2 : i2 < m
        · obtain ⟨y, hy⟩ : ∃ y, L[i2]? = some y := ⟨_, List.getElem?_eq_getElem (by rw [HLm.out]; exact hl2)⟩
          obtain ⟨z, hz, hzs, hze⟩ := HRW.out i2 y hy
          obtain ⟨g3, o3, k3, e3, hc3⟩ := HZ7.out i2 z hz
          injection e3 with e31 e32 e33
          subst e31 e33
          have q3 := hc3 wr HQ.out
          have q4 : wr.cell? ⟨g, i2, none⟩ = some (.string y) := by
            have := HC7.out i2 y hy
            rw [HQ.out.cell (p := ⟨g, i2, none⟩) (rlt this)]
            exact this
          have j1 : (i2 : Int) < (m : Int) := by omega
          have j2 : (0 : Int) ≤ (i2 : Int) := by omega
          have j4 : (i2 : Int) < (r7 : Int) := by omega
          obtain ⟨k, hk⟩ : ∃ k, i2 + 1 = k := ⟨_, rfl⟩
          have j3 : (i2 : Int) + 1 = (k : Int) := by omega
          have hkn : k ≤ m := by omega
          have HK := Lib.hid hk
          have hzi : ¬ (z.size : Int) < (y.size : Int) := by omega
          have hzj : (y.size : Int) ≤ (z.size : Int) := by omega
          have HZE := Lib.hid hze
          clear hy hz hc3 hk hze
          go_wp2_with fail
          go_quiet (fail)
          go_wp2_with fail
          · rename_i h
            exfalso
            rcases h with h | h
            · omega
            · rw [HZE.out] at h
              simp at h
          · go_roundw
            case rel => exact ⟨k, rfl, hkn, below_drewN HQ.out nq⟩
            case measure => simp [intOf]; have := HK.out; omega
        · have j9 : ¬ (i2 : Int) < (m : Int) := by omega
          have hq9 : Below w.heap.size w wr := HB7.out.trans (HQ.out.mono HB7.out.size)
          go_wp2_with fail
          go_fit (HE.out _ hq9)
          rintro e w10 ⟨rfl, hb10⟩
          go_wp2_with fail
          go_ret
          exact ⟨rfl, hq9.trans (hb10.mono hq9.size)⟩
theorem termText_any (s : ByteArray) (z0 z1 : Int) (w : World) (hL : LaidT w) (_hz0 : 0 ≤ z0 ∧ z0 ≤ 255) (hz1 : 0 ≤ z1 ∧ z1 ≤ 255) :
    Calls Tryz.prog 7 #[.string s, .agg #[.int .u8 z0, .int .u8 z1]] w fun e w' => e = .returned (.bool true) ∧ Below w.heap.size w w' := by
  by_cases h : 300 < s.size
  · exact termText_far s z0 z1 w hL h
  · exact termText_near s z0 z1 w hL hz1 (by omega)
end Go.Proofs.YtpkjaallhhjleaaGreatDoor
