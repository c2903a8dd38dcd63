/-
  Texts of this proof, one behind the other; each begins with its own remark.
-/
import Derived.Deep.CutRange
import Derived.Deep.RegionLaw
import Derived.Test.YtpkjaallhhjleaaGreatDoorBe39
import Derived.Test.YtpkjaallhhjleaaGreatDoorBe40
import Derived.Test.YtpkjaallhhjleaaGreatDoorBe43
import Derived.Test.YtpkjaallhhjleaaGreatDoorBe44
import Derived.Test.YtpkjaallhhjleaaGreatDoorBe47
import Derived.Test.YtpkjaallhhjleaaGreatDoorBe49
import Derived.Test.YtpkjaallhhjleaaGreatDoorBe9
import Derived.Test.YtpkjaallhhjleaaGreatDoorBe29
import Derived.Test.YtpkjaallhhjleaaGreatDoorBe30
import Derived.Test.YtpkjaallhhjleaaGreatDoorBe51
import Derived.Test.YtpkjaallhhjleaaGreatDoorBe16
/-
  limnerref08: sequence: what it leaves, whatever the sequence.
-/
namespace Go.Proofs.YtpkjaallhhjleaaGreatDoor
open Go.RowKit

section
variable {w0 : World} {B G N cap : Nat} {T : ByteArray} {t : Tm}
theorem rtseq_any {m n : Nat} {v : Value} {l : List Nat} (b : Nat) (w : World) (h : RtS w0 w B G N cap T t) (hok : OkF t.f m n) (hN : NumsW (NotBG B G) w v l) (hl : l.length ≤ 1000) (h9 : ∀ x ∈ l, x ≤ 9999) :
    Calls Tryz.prog 35 #[.pointer (some ⟨B, 0, none⟩), v, .int .u8 (b : Int)] w (RtD w0 w B G N T (seqT t l b)) := by
  by_cases h65 : b = 65
  · subst h65; exact rtseq_65 w h hok hN hl h9
  by_cases h66 : b = 66
  · subst h66; exact rtseq_66 w h hok hN hl h9
  by_cases h67 : b = 67
  · subst h67; exact rtseq_67 w h hok hN hl h9
  by_cases h68 : b = 68
  · subst h68; exact rtseq_68 w h hok hN hl h9
  by_cases h72 : b = 72
  · subst h72; exact rtseq_72 w h hok hN hl h9
  by_cases h74 : b = 74
  · subst h74
    by_cases k0 : l.getD 0 0 = 0
    · exact rtseq_740 w h hok hN hl h9 k0
    by_cases k1 : l.getD 0 0 = 1
    · exact rtseq_741 w h hok hN hl h9 k1
    by_cases k2 : l.getD 0 0 = 2
    · exact rtseq_742 w h hok hN hl h9 k2
    exact rtseq_743 w h hok hN hl h9 (by omega)
  by_cases h75 : b = 75
  · subst h75
    by_cases k0 : l.getD 0 0 = 0
    · exact rtseq_750 w h hok hN hl h9 k0
    by_cases k1 : l.getD 0 0 = 1
    · exact rtseq_751 w h hok hN hl h9 k1
    by_cases k2 : l.getD 0 0 = 2
    · exact rtseq_752 w h hok hN hl h9 k2
    exact rtseq_753 w h hok hN hl h9 (by omega)
  by_cases h109 : b = 109
  · subst h109
    by_cases k0 : l = []
    · exact rtseq_109e w h hok hN hl h9 k0
    · exact rtseq_109s w h hok hN hl h9 k0
  exact rtseq_no b w h hok hN hl h9 ⟨h65, h66, h67, h68, h72, h74, h75, h109⟩
end
end Go.Proofs.YtpkjaallhhjleaaGreatDoor

/-
  limnerref08: show: what it leaves, whatever the rune.
-/
namespace Go.Proofs.YtpkjaallhhjleaaGreatDoor
open Go.RowKit

section
variable {w0 : World} {B G N cap : Nat} {T : ByteArray} {t : Tm}
theorem rtshow_any {m n : Nat} (r : Int) (w : World) (h : RtS w0 w B G N cap T t) (hok : OkF t.f m n) :
    Calls Tryz.prog 32 #[.pointer (some ⟨B, 0, none⟩), .int .i32 r] w (RtD w0 w B G N T (showT t r)) := by
  cases hw : t.waits with
  | true => exact rtshow_W r w h hok hw
  | false =>
    by_cases hd : (ofN r : Int) = 2
    · by_cases hc : t.f.col + 1 = t.f.cols
      · exact rtshow_G r w h hok hw hd hc
      · exact rtshow_N r w h hok hw hd hc
    · exact rtshow_M r w h hok hw hd
end
end Go.Proofs.YtpkjaallhhjleaaGreatDoor

/-
  limnerref08: Write: what it needs of plain facts; what holds between two bytes, and between two things that a byte asks for.
-/
namespace Go.Proofs.YtpkjaallhhjleaaGreatDoor
open Go.RowKit

theorem do_1 {u : Tm} {a : Ac} (h : a.1 = 1) : doT u a = showT u (shI (a.2.1 : Int)) := by unfold doT; rw [if_pos h]
theorem do_2 {u : Tm} {a : Ac} (h : a.1 = 2) : doT u a = controlT u (a.2.1 : Int) := by unfold doT; rw [if_neg (by omega), if_pos h]
theorem do_3 {u : Tm} {a : Ac} (h : a.1 = 3) : doT u a = seqT u a.2.2.1 a.2.2.2 := by unfold doT; rw [if_neg (by omega), if_neg (by omega), if_pos h]
theorem do_o {u : Tm} {a : Ac} (h1 : a.1 ≠ 1) (h2 : a.1 ≠ 2) (h3 : a.1 ≠ 3) : doT u a = u := by unfold doT; rw [if_neg h1, if_neg h2, if_neg h3]
theorem ctl_o {u : Tm} {r : Int} (h7 : r ≠ 7) (h8 : r ≠ 8) (h10 : r ≠ 10) (h13 : r ≠ 13) : controlT u r = u := by unfold controlT; rw [if_neg h7, if_neg h8, if_neg h10, if_neg h13]
theorem ctl_7 (u : Tm) : controlT u 7 = { u with bells := wrap64 (u.bells + 1) } := by unfold controlT; rw [if_pos rfl]
theorem ctl_8 (u : Tm) : controlT u 8 = { u with f := goF u.f u.f.row (u.f.col - 1), waits := false } := by unfold controlT; rw [if_neg (by decide), if_pos rfl]
theorem ctl_10 (u : Tm) : controlT u 10 = { u with f := feedF u.f, waits := false } := by unfold controlT; rw [if_neg (by decide), if_neg (by decide), if_pos rfl]
theorem ctl_13 (u : Tm) : controlT u 13 = { u with f := { u.f with col := 0 }, waits := false } := by unfold controlT; rw [if_neg (by decide), if_neg (by decide), if_neg (by decide), if_pos rfl]
theorem do_p (u : Tm) (a : Ac) : (doT u a).p = u.p := by
  unfold doT
  split
  · rfl
  split
  · unfold controlT
    repeat' split
    all_goals rfl
  split
  · unfold seqT
    dsimp only
    repeat' split
    all_goals rfl
  · rfl
theorem dos_p (l : List Ac) : ∀ u : Tm, (l.foldl doT u).p = u.p := by
  induction l with
  | nil => exact fun _ => rfl
  | cons a l ih => exact fun u => (ih (doT u a)).trans (do_p u a)
/-- What lies in an actions' row lies in blocks that there are. -/
theorem ActsW.in_ {ok : Nat → Prop} {w : World} {v : Value} {l : List Ac} (h : ActsW ok w v l) (hl : 0 < l.length) : ActsW (fun k => ok k ∧ k < w.heap.size) w v l := by
  obtain ⟨xs, h1, h2, h3⟩ := h
  have hx : xs.length = l.length := by rw [← h1, List.length_map]
  exact ⟨xs, h1, h2.mono (fun k hk ho => ⟨ho, hk⟩) (by rw [flat4_len]; omega), fun x hx => (h3 x hx).mono fun k hk ho => ⟨ho, hk⟩⟩

theorem ract_box (w : World) (x0 x1 x2 x3 : Value) : Below w.heap.size w (w.alloc (.cells #[x0, x1, x2, x3] 77)) ∧
    (w.alloc (.cells #[x0, x1, x2, x3] 77)).heap[w.heap.size]? = some (.cells #[x0, x1, x2, x3] 77 (0, 0)) := ⟨(Below.refl _ _).alloc (Nat.le_refl _) _, heap_alloc_new w _⟩
/-- Between two things that one byte asks for. -/
def WjI (w0 W6 wi : World) (B G6 N : Nat) (T : ByteArray) (u : Tm) : Prop := ∃ G2 c2, (G2 = G6 ∨ W6.heap.size ≤ G2) ∧ RtS w0 wi B G2 N c2 T u ∧ KeepW (NotBG B G6) W6 wi
/-- Between two bytes. -/
def WkI (w0 w wi : World) (B G N M : Nat) (u : Tm) : Prop := ∃ G2 c2 T, (G2 = G ∨ w.heap.size ≤ G2) ∧ RtS w0 wi B G2 N c2 T u ∧ KeepW (NotBG B G) w wi ∧ RelT u.p T ∧ T.size ≤ M
end Go.Proofs.YtpkjaallhhjleaaGreatDoor

/-
  limnerref08: Write: what it leaves, of every text.
-/
namespace Go.Proofs.YtpkjaallhhjleaaGreatDoor
open Go.RowKit

section
variable {w0 : World} {B G N cap : Nat} {T : ByteArray} {t : Tm}
set_option maxRecDepth 20000 in
set_option maxHeartbeats 16000000 in
theorem rtwrite_any {m n : Nat} (s : ByteArray) (w : World) (h : RtS w0 w B G N cap T t) (hok : OkT t m n) (hR : RelT t.p T) (hsz : T.size + s.size ≤ 9000) :
    Calls Tryz.prog 12 #[.pointer (some ⟨B, 0, none⟩), .string s] w fun e w' => e = .returned (.tuple #[]) ∧ Hid (WkI w0 w w' B G N 9000 (writeT t s.data.toList)) := by
  have hsi : (s.size : Int) ≤ 9000 := by omega
  have HBT := Lib.hid (fun k (hk : k < s.size) => (show (s[k].toNat : Int) = (bt s k : Int) by unfold bt; rw [show s.get! k = s[k] from get_at s k hk]))
  have HWT := Lib.hid (fun k (hk : k < s.size) => write_take t s k hk)
  have HEN : Hid (s.data.toList.take s.size = s.data.toList) := List.take_of_length_le (by rw [Lib.size_eq]; exact Nat.le_refl _)
  have HOK := Lib.hid (fun k => write_ok hok (s.data.toList.take k))
  have H0 : Hid (WkI w0 w w B G N (T.size + 0) (writeT t (s.data.toList.take 0))) := ⟨G, cap, T, .inl rfl, h, KeepW.refl _ _, hR, Nat.le_refl _⟩
  obtain ⟨L, hLs⟩ : ∃ L, s.data.toList = L := ⟨_, rfl⟩
  obtain ⟨Z, hZ⟩ : ∃ Z, T.size = Z := ⟨_, rfl⟩
  rw [hLs] at HWT HEN HOK H0 ⊢
  rw [hZ] at H0 hsz
  clear h hok hLs hR hZ
  go_enter Tryz.func12, Tryz.ntmps12
  go_wp2_with fail
  go_loopw [4] (fun s4 wr => ∃ k : Nat, s4 = .int .i64 (k : Int) ∧ k ≤ s.size ∧ Hid (WkI w0 w wr B G N (Z + k) (writeT t (L.take k)))) (fun s4 _ => s.size - (intOf s4).toNat)
  case atStart => exact ⟨0, rfl, Nat.zero_le _, H0⟩
  case round =>
    clear H0
    obtain ⟨k, rfl, hk, HI⟩ := hrel
    by_cases hlt : k < s.size
    · have hbt := HBT.out k hlt
      have hb256 := bt_lt s k
      have hwt := HWT.out k hlt
      have hok1 := HOK.out k
      obtain ⟨T1, hT1⟩ : ∃ T1, writeT t (L.take k) = T1 := ⟨_, rfl⟩
      obtain ⟨b, hb⟩ : ∃ b, bt s k = b := ⟨_, rfl⟩
      rw [hT1] at hwt hok1 HI
      rw [hb] at hbt hb256 hwt
      obtain ⟨G1, c1, X1, hg1, hS, hK, hRel, hXs⟩ := HI.out
      have hacts := feed_acts T1.p b hok1.ps
      have hf2 := feed_two T1.p b
      have HF0 := Lib.hid (fun W => rfeed_any T1.p X1 b W hb256 hok1.ps hRel (by omega))
      unfold byteT at hwt
      obtain ⟨A, hA⟩ : ∃ A, feedN T1.p b = A := ⟨_, rfl⟩
      rw [hA] at hacts hf2 hwt HF0
      obtain ⟨T2, hT2⟩ : ∃ T2, { T1 with p := A.1 } = T2 := ⟨_, rfl⟩
      rw [hT2] at hwt
      have hp2 : T2.p = A.1 := by rw [← hT2]
      have hok2 : OkT T2 m n := by rw [← hT2, ← hA]; exact ⟨hok1.fr, hok1.st, ok_feed _ b hok1.ps⟩
      obtain ⟨L2, hL2⟩ : ∃ L2, A.2 = L2 := ⟨_, rfl⟩
      rw [hL2] at hacts hf2 hwt
      have HFD : Hid (∀ V, Below wr.heap.size wr V → Calls Tryz.prog 31 #[.string X1, .int .u8 (b : Int)] V fun e u => ∃ X2 ao ac, e = .returned (.tuple #[.string X2, .slice ao L2.length ac]) ∧ L2.length ≤ ac ∧ (u.cell? ⟨B, 5, none⟩ = some (.string X1) ∧ u.frozen? ⟨B, 5, none⟩ = false ∧ B < u.heap.size) ∧
          Hid (RelT A.1 X2 ∧ X2.size ≤ Z + k + 1 ∧ WjI w0 (u.setCell ⟨B, 5, none⟩ (.string X2)) (u.setCell ⟨B, 5, none⟩ (.string X2)) B G1 N X2 (([] : List Ac).foldl doT T2) ∧ KeepW (NotBG B G) w (u.setCell ⟨B, 5, none⟩ (.string X2)) ∧ wr.heap.size ≤ (u.setCell ⟨B, 5, none⟩ (.string X2)).heap.size ∧ ActsW (NotBG B G1) (u.setCell ⟨B, 5, none⟩ (.string X2)) (.slice ao L2.length ac) L2)) := fun V hV => by
        refine (HF0.out V).mono ?_
        rintro e u ⟨X2, v, he, h1, h2, h3, h4⟩
        have h5 : Below wr.heap.size wr u := hV.trans (h4.mono hV.size)
        have hS5 := hS.next h5
        rw [hL2] at h3
        have h3' := h3
        obtain ⟨ao, ac, rfl, hac⟩ := h3.form
        obtain ⟨a1, a2⟩ := hS5.text_ X2 A.1
        rw [hT2] at a1
        have hG1 := hS.gt
        have hB1 := hS.box.lt
        refine ⟨X2, ao, ac, he, hac, ⟨hS5.box.cells.2.1.1, hS5.box.cells.2.2.2 5, hS5.box.lt⟩, h1, by omega, ⟨G1, c1, .inl rfl, a1, KeepW.refl _ _⟩, rt_trans hK hg1 ((keep_below _ h5).trans a2), Nat.le_trans h5.size a2.size, (h3'.any fun q hq => ?_).keep a2⟩
        have hq : V.heap.size ≤ q := hq
        have := hV.size
        show q ≠ B ∧ q ≠ G1
        omega
      have HDO : Hid (∀ j a, L2[j]? = some a → (a.2.2.1.length ≤ 16 ∧ ∀ x ∈ a.2.2.1, x ≤ 9999) ∧ OkT ((L2.take j).foldl doT T2) m n ∧ (L2.take (j + 1)).foldl doT T2 = doT ((L2.take j).foldl doT T2) a) := fun j a ha => by
        have hj := (List.getElem?_eq_some_iff.1 ha).1
        refine ⟨hacts a (List.mem_of_getElem? ha), dos_ok hok2 _, ?_⟩
        rw [List.take_succ_eq_append_getElem hj, (List.getElem?_eq_some_iff.1 ha).2, List.foldl_append]
        rfl
      have HEND : Hid ((L2.take L2.length).foldl doT T2 = writeT t (L.take (k + 1)) ∧ (writeT t (L.take (k + 1))).p = A.1) := by
        show _ ∧ _
        rw [List.take_length, hwt]
        exact ⟨rfl, (dos_p L2 T2).trans hp2⟩
      have x5 := hS.box.cells.2.1.1
      have hlB := hS.box.lt
      have HG1 := Lib.hid hg1
      obtain ⟨q, hq⟩ : ∃ q, L2.length = q := ⟨_, rfl⟩
      rw [hq] at HFD HEND hf2
      have HQ := Lib.hid hq
      have hki : (k : Int) < (s.size : Int) := by omega
      have hk0 : (0 : Int) ≤ (k : Int) := by omega
      clear hq hL2 hT2 hok2 hp2 hA HF0 hb hT1 hwt hacts hok1 hS hK hRel hXs hg1 HI
      go_wp2_with fail
      go_cut [5, 6] from 9 to 103 (fun s5 s6 W => ∃ X2 ao ac, s5 = .string X2 ∧ s6 = .slice ao q ac ∧ q ≤ ac ∧ (W.cell? ⟨B, 5, none⟩ = some (.string X1) ∧ W.frozen? ⟨B, 5, none⟩ = false ∧ B < W.heap.size) ∧ Hid (RelT A.1 X2 ∧ X2.size ≤ Z + k + 1 ∧ WjI w0 (W.setCell ⟨B, 5, none⟩ (.string X2)) (W.setCell ⟨B, 5, none⟩ (.string X2)) B G1 N X2 (([] : List Ac).foldl doT T2) ∧ KeepW (NotBG B G) w (W.setCell ⟨B, 5, none⟩ (.string X2)) ∧ wr.heap.size ≤ (W.setCell ⟨B, 5, none⟩ (.string X2)).heap.size ∧ ActsW (NotBG B G1) (W.setCell ⟨B, 5, none⟩ (.string X2)) (.slice ao q ac) L2))
      case first =>
        go_region_law (first | (go_simp; go_at_call 31; go_must (go_fit (HFD.out _ (Below.refl _ _).drew)); rintro e u ⟨X2, ao, ac, rfl, hac, ⟨z5, zf, zl⟩, HR⟩))
        all_goals (go_wp2_with fail; go_meet; exact ⟨X2, ao, ac, rfl, rfl, hac, ⟨z5, zf, zl⟩, HR⟩)
      case rest =>
        obtain ⟨X2, ao, ac, rfl, rfl, hac, ⟨z5, zf, zl⟩, HR⟩ := hcut
        clear HFD x5 hlB
        go_wp2_with fail
        obtain ⟨W6, hW6⟩ : ∃ W6, wc.setCell ⟨B, 5, none⟩ (.string X2) = W6 := ⟨_, rfl⟩
        rw [hW6] at HR
        try rw [hW6]
        have HA6 := Lib.hid HR.out.2.2.2.2.2
        have HS6 := Lib.hid HR.out.2.2.1
        have HK6 := Lib.hid HR.out.2.2.2.1
        have HX6 := Lib.hid (And.intro HR.out.1 HR.out.2.1)
        have HZ6 := Lib.hid HR.out.2.2.2.2.1
        clear hW6 HR z5 zf zl
        go_loopw [7] (fun s7 wi => ∃ j : Nat, s7 = .int .i64 (j : Int) ∧ j ≤ q ∧ Hid (WjI w0 W6 wi B G1 N X2 ((L2.take j).foldl doT T2))) (fun s7 _ => q - (intOf s7).toNat)
        case atStart => exact ⟨0, rfl, Nat.zero_le _, HS6⟩
        case round =>
          clear HS6
          obtain ⟨j, rfl, hj, HJ⟩ := hrel
          by_cases hjq : j < q
          · obtain ⟨a, ha⟩ : ∃ a, L2[j]? = some a := ⟨_, List.getElem?_eq_getElem (by rw [HQ.out]; exact hjq)⟩
            obtain ⟨hD1, hD2, hD3⟩ := HDO.out j a ha
            obtain ⟨G2, c2, hg2, hS2, hK2⟩ := HJ.out
            obtain ⟨g, o, _, pv, e1, _, a0, a1, a2, a3, hNa⟩ := acts_at4 ((HA6.out.in_ (by rw [HQ.out]; omega)).keep (hK2.mono fun _ _ hk => hk.1)) ha
            rw [HQ.out] at e1
            cases e1
            obtain ⟨U, hU⟩ : ∃ U, (L2.take j).foldl doT T2 = U := ⟨_, rfl⟩
            obtain ⟨U', hU'⟩ : ∃ U', (L2.take (j + 1)).foldl doT T2 = U' := ⟨_, rfl⟩
            rw [hU] at hD2 hD3 hS2
            rw [hU'] at hD3
            have HU := Lib.hid hU'
            have HN2 : Hid (NumsW (NotBG B G2) wr pv a.2.2.1) := hNa.mono fun q hq ho => by
              obtain ⟨⟨h1, h2⟩, h3⟩ := ho
              show q ≠ B ∧ q ≠ G2
              omega
            have HADV : Hid (∀ V w8 G8 c8, Below wr.heap.size wr V → (G8 = G2 ∨ V.heap.size ≤ G8) → RtS w0 w8 B G8 N c8 X2 U' → KeepW (NotBG B G2) V w8 → WjI w0 W6 w8 B G1 N X2 ((L2.take (j + 1)).foldl doT T2)) := fun V w8 G8 c8 hV hg8 hS8 hK8 => by
              have := hV.size
              rw [HU.out]
              exact ⟨G8, c8, rt_new hK2 hg2 (by omega), hS8, rt_trans hK2 hg2 ((keep_below _ hV).trans hK8)⟩
            have HSV : Hid (∀ V, Below wr.heap.size wr V → RtS w0 V B G2 N c2 X2 U) := fun V hV => hS2.next hV
            obtain ⟨na, va, ca, rfl⟩ : ∃ x y z, pv = .slice x y z := by obtain ⟨x, z, e, _⟩ := hNa.1; exact ⟨x, _, z, e⟩
            have j0 : (j : Int) < (q : Int) := by omega
            have j1 : (0 : Int) ≤ (j : Int) := by omega
            obtain ⟨x1, hx1⟩ : ∃ x : Int, (a.1 : Int) = x := ⟨_, rfl⟩
            obtain ⟨x2, hx2⟩ : ∃ x : Int, (a.2.1 : Int) = x := ⟨_, rfl⟩
            obtain ⟨x3, hx3⟩ : ∃ x : Int, (a.2.2.2 : Int) = x := ⟨_, rfl⟩
            rw [hx1] at a0
            rw [hx2] at a1
            rw [hx3] at a3
            have HAB := Lib.hid (fun x0 x1 x2 x3 => ract_box wr x0 x1 x2 x3)
            have HOU := Lib.hid hD2
            have hlB := hS2.box.lt
            clear hNa HJ ha hU hU' hD2 hg2 hK2
            by_cases h1 : a.1 = 1
            · clear hS2
              obtain rfl : x1 = 1 := by omega
              have HSh : Hid (∀ V, Below wr.heap.size wr V → Calls Tryz.prog 33 #[.int .i32 x2] V fun e w' => e = .returned (.int .i32 (shI x2)) ∧ Below wr.heap.size wr w') := fun V hV => (refShown_any x2 V).mono fun e w' ⟨k1, k2⟩ => ⟨k1, hV.trans (k2.mono hV.size)⟩
              have HS1 : Hid (∀ V, Below wr.heap.size wr V → Calls Tryz.prog 32 #[.pointer (some ⟨B, 0, none⟩), .int .i32 (shI x2)] V fun e w' => e = .returned (.tuple #[]) ∧ Hid (WjI w0 W6 w' B G1 N X2 ((L2.take (j + 1)).foldl doT T2))) := fun V hV => (rtshow_any (shI x2) V (HSV.out V hV) HOU.out.fr).mono fun e w' ⟨k1, G8, c8, k2, k3, k4⟩ => ⟨k1, HADV.out V w' G8 c8 hV k2 (by rw [hD3, do_1 h1, hx2]; exact k3) k4⟩
              obtain ⟨y, hy⟩ : ∃ y, shI x2 = y := ⟨_, rfl⟩
              rw [hy] at HSh HS1
              clear hD3 h1 hx1 hx2 hx3 hy HADV HSV HN2 hD1 HU
              go_wp2_with fail
              go_fit (HSh.out _ (HAB.out _ _ _ _).1)
              rintro e w7 ⟨rfl, hb7⟩
              go_wp2_with fail
              go_fit (HS1.out _ hb7)
              rintro e w8 ⟨rfl, H8⟩
              clear HSh HS1 a0 a1 a2 a3 HAB hb7
              go_wp2_with fail
              go_roundw
              case rel => exact ⟨j + 1, by rw [Int.natCast_add]; rfl, by omega, H8⟩
              case measure => simp only [intOf]; omega
            by_cases h3 : a.1 = 3
            · clear hS2
              obtain rfl : x1 = 3 := by omega
              have HS1 : Hid (∀ V, Below wr.heap.size wr V → Calls Tryz.prog 35 #[.pointer (some ⟨B, 0, none⟩), .slice na va ca, .int .u8 x3] V fun e w' => e = .returned (.tuple #[]) ∧ Hid (WjI w0 W6 w' B G1 N X2 ((L2.take (j + 1)).foldl doT T2))) := fun V hV => by
                rw [← hx3]
                exact (rtseq_any a.2.2.2 V (HSV.out V hV) HOU.out.fr (HN2.out.keep (keep_below _ hV)) (by omega) hD1.2).mono fun e w' ⟨k1, G8, c8, k2, k3, k4⟩ => ⟨k1, HADV.out V w' G8 c8 hV k2 (by rw [hD3, do_3 h3]; exact k3) k4⟩
              clear hD3 h3 hx1 hx2 hx3 HADV HSV HN2 hD1 HU
              go_wp2_with fail
              go_fit (HS1.out _ (HAB.out _ _ _ _).1)
              rintro e w8 ⟨rfl, H8⟩
              clear HS1 a0 a1 a2 a3 HAB
              go_wp2_with fail
              go_roundw
              case rel => exact ⟨j + 1, by rw [Int.natCast_add]; rfl, by omega, H8⟩
              case measure => simp only [intOf]; omega
            by_cases h2 : a.1 = 2
            · obtain rfl : x1 = 2 := by omega
              by_cases h7 : x2 = 7
              · have hxx : x2 = 7 := h7
                subst hxx
                have H8 : Hid (WjI w0 W6 ((wr.setCell ⟨B, 11, none⟩ (.int .i64 (wrap64 (U.bells + 1)))).alloc (.cells #[.int .i64 2, .int .i32 7, .slice na va ca, .int .u8 x3] 77)) B G1 N X2 ((L2.take (j + 1)).foldl doT T2)) := by
                  have p1 := (HSV.out _ (Below.refl _ _)).bells_ (wrap64 (U.bells + 1))
                  have hb : Below (wr.setCell ⟨B, 11, none⟩ (.int .i64 (wrap64 (U.bells + 1)))).heap.size (wr.setCell ⟨B, 11, none⟩ (.int .i64 (wrap64 (U.bells + 1)))) ((wr.setCell ⟨B, 11, none⟩ (.int .i64 (wrap64 (U.bells + 1)))).alloc (.cells #[.int .i64 2, .int .i32 7, .slice na va ca, .int .u8 x3] 77)) := (Below.refl _ _).alloc (Nat.le_refl _) _
                  exact HADV.out wr _ G2 c2 (Below.refl _ _) (.inl rfl) (by rw [hD3, do_2 h2, hx2, ctl_7]; exact p1.1.next hb) (p1.2.trans (keep_below _ hb))
                have c11 := hS2.box.cells.2.1.2.2
                have f11 := hS2.box.cells.2.2.2 11
                clear hD3 h2 hx1 hx2 hx3 HADV HSV HN2 hD1 HU hS2
                go_wp2_with fail
                go_roundw
                case rel => exact ⟨j + 1, by rw [Int.natCast_add]; rfl, by omega, H8⟩
                case measure => simp only [intOf]; omega
              by_cases h13 : x2 = 13
              · have hxx : x2 = 13 := h13
                subst hxx
                have H8 : Hid (WjI w0 W6 (((wr.setCell ⟨B, 4, none⟩ (.int .i64 0)).setCell ⟨B, 10, none⟩ (.bool false)).alloc (.cells #[.int .i64 2, .int .i32 13, .slice na va ca, .int .u8 x3] 77)) B G1 N X2 ((L2.take (j + 1)).foldl doT T2)) := by
                  have p1 := (HSV.out _ (Below.refl _ _)).col_ 0
                  have p2 := p1.1.waits_ false
                  have hb : Below ((wr.setCell ⟨B, 4, none⟩ (.int .i64 0)).setCell ⟨B, 10, none⟩ (.bool false)).heap.size ((wr.setCell ⟨B, 4, none⟩ (.int .i64 0)).setCell ⟨B, 10, none⟩ (.bool false)) (((wr.setCell ⟨B, 4, none⟩ (.int .i64 0)).setCell ⟨B, 10, none⟩ (.bool false)).alloc (.cells #[.int .i64 2, .int .i32 13, .slice na va ca, .int .u8 x3] 77)) := (Below.refl _ _).alloc (Nat.le_refl _) _
                  exact HADV.out wr _ G2 c2 (Below.refl _ _) (.inl rfl) (by rw [hD3, do_2 h2, hx2, ctl_13]; exact p2.1.next hb) ((p1.2.trans p2.2).trans (keep_below _ hb))
                have c4 := hS2.box.cells.1.2.2.2.2
                have f4 := hS2.box.cells.2.2.2 4
                have c10 := hS2.box.cells.2.1.2.1
                have f10 := hS2.box.cells.2.2.2 10
                clear hD3 h2 hx1 hx2 hx3 HADV HSV HN2 hD1 HU hS2
                go_wp2_with fail
                go_roundw
                case rel => exact ⟨j + 1, by rw [Int.natCast_add]; rfl, by omega, H8⟩
                case measure => simp only [intOf]; omega
              by_cases h8 : x2 = 8
              · have hxx : x2 = 8 := h8
                subst hxx
                have hcl := HOU.out.fr.col
                have hcc := HOU.out.fr.cols
                obtain ⟨c4, hc4⟩ : ∃ c4, U.f.col = c4 := ⟨_, rfl⟩
                have hcn := HOU.out.fr.hn
                have he : goF U.f U.f.row (U.f.col - 1) = { U.f with col := max 0 (c4 - 1) } := by
                  have hmm : min (max 0 (U.f.col - 1)) (U.f.cols - 1) = max 0 (c4 - 1) := by omega
                  rw [go_col HOU.out.fr, hmm]
                have H8 : Hid (WjI w0 W6 (((wr.setCell ⟨B, 4, none⟩ (.int .i64 (max 0 (c4 - 1)))).setCell ⟨B, 10, none⟩ (.bool false)).alloc (.cells #[.int .i64 2, .int .i32 8, .slice na va ca, .int .u8 x3] 77)) B G1 N X2 ((L2.take (j + 1)).foldl doT T2)) := by
                  have p1 := (HSV.out _ (Below.refl _ _)).col_ (max 0 (c4 - 1))
                  have p2 := p1.1.waits_ false
                  have hb : Below ((wr.setCell ⟨B, 4, none⟩ (.int .i64 (max 0 (c4 - 1)))).setCell ⟨B, 10, none⟩ (.bool false)).heap.size ((wr.setCell ⟨B, 4, none⟩ (.int .i64 (max 0 (c4 - 1)))).setCell ⟨B, 10, none⟩ (.bool false)) (((wr.setCell ⟨B, 4, none⟩ (.int .i64 (max 0 (c4 - 1)))).setCell ⟨B, 10, none⟩ (.bool false)).alloc (.cells #[.int .i64 2, .int .i32 8, .slice na va ca, .int .u8 x3] 77)) := (Below.refl _ _).alloc (Nat.le_refl _) _
                  exact HADV.out wr _ G2 c2 (Below.refl _ _) (.inl rfl) (by rw [hD3, do_2 h2, hx2, ctl_8, he]; exact p2.1.next hb) ((p1.2.trans p2.2).trans (keep_below _ hb))
                have c4' := hS2.box.cells.1.2.2.2.2
                rw [hc4] at c4' hcl
                have f4 := hS2.box.cells.2.2.2 4
                have c10 := hS2.box.cells.2.1.2.1
                have f10 := hS2.box.cells.2.2.2 10
                have wcc : IntKind.i64.wrap (c4 - 1) = c4 - 1 := IntWalk.i64_in _ (by omega)
                clear he hcl hcc hc4 hcn
                clear hD3 h2 hx1 hx2 hx3 HADV HSV HN2 hD1 HU hS2
                go_wp2_with fail
                go_roundw
                case rel => exact ⟨j + 1, by rw [Int.natCast_add]; rfl, by omega, H8⟩
                case measure => simp only [intOf]; omega
              by_cases h10 : x2 = 10
              · have hxx : x2 = 10 := h10
                subst hxx
                have HF : Hid (∀ V, Below wr.heap.size wr V → Calls Tryz.prog 34 #[.pointer (some ⟨B, 0, none⟩)] V fun e w' => e = .returned (.tuple #[]) ∧ (w'.cell? ⟨B, 10, none⟩ = some (.bool U.waits) ∧ w'.frozen? ⟨B, 10, none⟩ = false ∧ B < w'.heap.size) ∧ Hid (WjI w0 W6 (w'.setCell ⟨B, 10, none⟩ (.bool false)) B G1 N X2 ((L2.take (j + 1)).foldl doT T2))) := fun V hV => (rtfeed_any V (HSV.out V hV) HOU.out.fr).mono fun e w' ⟨k1, G8, c8, k2, k3, k4⟩ => ⟨k1, ⟨k3.box.cells.2.1.2.1, k3.box.cells.2.2.2 10, k3.box.lt⟩, HADV.out V _ G8 c8 hV k2 (by rw [hD3, do_2 h2, hx2, ctl_10]; exact (k3.waits_ false).1) (rt_trans k4 k2 (k3.waits_ false).2)⟩
                clear hD3 h2 hx1 hx2 hx3 HADV HSV HN2 hD1 HU hS2
                go_wp2_with fail
                go_fit (HF.out _ (HAB.out _ _ _ _).1)
                rintro e w8 ⟨rfl, ⟨c10, f10, l10⟩, H8⟩
                clear HF a0 a1 a2 a3 HAB
                go_wp2_with fail
                go_roundw
                case rel => exact ⟨j + 1, by rw [Int.natCast_add]; rfl, by omega, H8⟩
                case measure => simp only [intOf]; omega
              have HV := Lib.hid (fun V hV => HADV.out V V G2 c2 hV (.inl rfl) (by rw [hD3, do_2 h2, hx2, ctl_o h7 h8 h10 h13]; exact HSV.out V hV) (KeepW.refl _ _))
              have H8 := Lib.hid (HV.out _ (HAB.out (.int .i64 2) (.int .i32 x2) (.slice na va ca) (.int .u8 x3)).1)
              have e7 : (x2 == 7) = false := by rw [beq_eq_false_iff_ne]; exact h7
              have e8 : (x2 == 8) = false := by rw [beq_eq_false_iff_ne]; exact h8
              have e10 : (x2 == 10) = false := by rw [beq_eq_false_iff_ne]; exact h10
              have e13 : (x2 == 13) = false := by rw [beq_eq_false_iff_ne]; exact h13
              clear hD3 h2 hx1 hx2 hx3 HADV HSV HN2 hD1 HU hS2 HV
              go_wp2_with fail
              go_roundw
              case rel => exact ⟨j + 1, by rw [Int.natCast_add]; rfl, by omega, H8⟩
              case measure => simp only [intOf]; omega
            have HV := Lib.hid (fun V hV => HADV.out V V G2 c2 hV (.inl rfl) (by rw [hD3, do_o h1 h2 h3]; exact HSV.out V hV) (KeepW.refl _ _))
            have H8 := Lib.hid (HV.out _ (HAB.out (.int .i64 x1) (.int .i32 x2) (.slice na va ca) (.int .u8 x3)).1)
            have e1 : (x1 == 1) = false := by rw [beq_eq_false_iff_ne]; omega
            have e2 : (x1 == 2) = false := by rw [beq_eq_false_iff_ne]; omega
            have e3 : (x1 == 3) = false := by rw [beq_eq_false_iff_ne]; omega
            clear hD3 h1 h2 h3 hx1 hx2 hx3 HADV HSV HN2 hD1 HU hS2 HV
            go_wp2_with fail
            go_roundw
            case rel => exact ⟨j + 1, by rw [Int.natCast_add]; rfl, by omega, H8⟩
            case measure => simp only [intOf]; omega
          · obtain rfl : j = q := by omega
            have j0 : ¬ (j : Int) < (j : Int) := by omega
            have H9 : Hid (WkI w0 w wr B G N (Z + (k + 1)) (writeT t (L.take (k + 1)))) := by
              obtain ⟨G2, c2, hg2, hS2, hK2⟩ := HJ.out
              rw [HEND.out.1] at hS2
              have hk6 := HZ6.out
              have hk7 := HK6.out
              have hs7 := hk7.size
              exact ⟨G2, c2, X2, rt_new hk7 HG1.out hg2, hS2, rt_trans hk7 HG1.out hK2, by rw [HEND.out.2]; exact HX6.out.1, HX6.out.2⟩
            clear HJ
            go_wp2_with fail
            go_roundw
            case rel => exact ⟨k + 1, by rw [Int.natCast_add]; rfl, by omega, H9⟩
            case measure => simp only [intOf]; omega
    · obtain rfl : k = s.size := by omega
      have hki : ¬ (s.size : Int) < (s.size : Int) := by omega
      have H9 : Hid (WkI w0 w wr B G N 9000 (writeT t L)) := by
        obtain ⟨G2, c2, X, h1, h2, h3, h4, h5⟩ := HI.out
        rw [HEN.out] at h2 h4
        exact ⟨G2, c2, X, h1, h2, h3, h4, by omega⟩
      clear HI
      go_wp2_with fail
      go_end0
      exact ⟨rfl, H9⟩
end
end Go.Proofs.YtpkjaallhhjleaaGreatDoor
