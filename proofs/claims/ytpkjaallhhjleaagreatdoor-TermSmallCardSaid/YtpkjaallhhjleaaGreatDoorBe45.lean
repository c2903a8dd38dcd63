/-
  limnerref08: feed: what it lays.
-/
import Derived.StillTailTactics
import Derived.Deep.RegionHeld3
import Derived.Test.YtpkjaallhhjleaaGreatDoorBe18
import Derived.Test.YtpkjaallhhjleaaGreatDoorBe32
namespace Go.Proofs.YtpkjaallhhjleaaGreatDoor
open Go.RowKit

/-- The new frame that the old one's cells are moved to: its box F, its cells in g. -/
structure FsI (w W : World) (m n P c F g : Nat) (L : List Cel) : Prop where
  below : Below w.heap.size w W
  fr : frB W F (m : Int) (n : Int) (.slice (some ⟨g, 0, none⟩) P c) 0 0
  blk : ∃ zs, blkL W g L zs
  len : L.length = P
  hF : w.heap.size ≤ F
  hg : w.heap.size ≤ g
  ne : F ≠ g
  cap : P ≤ c
theorem FsI.set {w W : World} {m n P c F g : Nat} {L : List Cel} (h : FsI w W m n P c F g L) (j : Nat) (x : Cel) (hj : j < P) : FsI w (set6 W g (j * 6) x) m n P c F g (L.set j x) := by
  have hg := h.hg
  have hk := set6_keep (ok := fun k => k ≠ g) W g (j * 6) x (fun k => k rfl)
  obtain ⟨zs, hz⟩ := h.blk
  exact ⟨KeepW.below h.below hk h.below.size (fun k hk => by omega), h.fr.keep hk h.ne, ⟨zs, hz.set j x (by rw [h.len]; exact hj)⟩, by rw [List.length_set]; exact h.len, h.hF, h.hg, h.ne, h.cap⟩
theorem FsI.drew {w W : World} {m n P c F g : Nat} {L : List Cel} (h : FsI w W m n P c F g L) : FsI w W.drew m n P c F g L := by
  obtain ⟨zs, hz⟩ := h.blk
  exact ⟨h.below.drew, h.fr, ⟨zs, hz⟩, h.len, h.hF, h.hg, h.ne, h.cap⟩
/-- Moved so far. -/
def movL (L : List Cel) (n P j : Nat) : List Cel := (L.drop n).take j ++ List.replicate (P - j) blkC
theorem mov_len {L : List Cel} {n P j : Nat} (hl : L.length = P) (hj : n + j ≤ P) : (movL L n P j).length = P := by
  unfold movL
  rw [List.length_append, List.length_take, List.length_drop, List.length_replicate]
  omega
theorem mov_step {L : List Cel} {n P j : Nat} {x : Cel} (hl : L.length = P) (hj : n + j < P) (hx : L[n + j]? = some x) : (movL L n P j).set j x = movL L n P (j + 1) := by
  have e : ((L.drop n).take j).length = j := by rw [List.length_take, List.length_drop]; omega
  unfold movL
  rw [List.set_append_right _ _ (by omega), e, Nat.sub_self, show P - j = (P - (j + 1)) + 1 by omega, List.replicate_succ, List.set_cons_zero, List.take_add_one, List.getElem?_drop, hx, List.append_assoc]
  rfl
theorem mov_end {L : List Cel} {n P : Nat} (hl : L.length = P) (hn : n ≤ P) : movL L n P (P - n) = scrollL L n := by
  unfold movL scrollL
  rw [List.take_of_length_le (by rw [List.length_drop]; omega), show P - (P - n) = n by omega]

section
variable {w0 : World} {B G N cap : Nat} {T : ByteArray} {t : Tm}
set_option maxRecDepth 20000 in
set_option maxHeartbeats 2000000 in
theorem rtfeed_lt (w : World) (h : RtS w0 w B G N cap T t) (h1 : 2 ≤ t.f.rows ∧ t.f.rows ≤ 100) (h2 : 0 ≤ t.f.row ∧ t.f.row < t.f.rows - 1) :
    Calls Tryz.prog 34 #[.pointer (some ⟨B, 0, none⟩)] w (RtD w0 w B G N T { t with f := { t.f with row := t.f.row + 1 } }) := by
  obtain ⟨⟨x0, _, _, x3, _⟩, _, _, hf⟩ := h.box.cells
  have hlt := h.box.lt
  have f3 := hf 3
  have HZ : Hid (∀ W, Below w.heap.size w W → W.cell? ⟨B, 3, none⟩ = some (.int .i64 t.f.row) ∧ W.frozen? ⟨B, 3, none⟩ = false ∧ B < W.heap.size ∧ RtD w0 w B G N T { t with f := { t.f with row := t.f.row + 1 } } (.returned (.tuple #[])) (W.setCell ⟨B, 3, none⟩ (.int .i64 (t.f.row + 1)))) := fun W hW => by
    have hS := h.next hW
    obtain ⟨⟨_, _, _, y3, _⟩, _, _, g⟩ := hS.box.cells
    obtain ⟨a1, a2⟩ := hS.row_ (t.f.row + 1)
    exact ⟨y3, g 3, hS.box.lt, rfl, G, cap, .inl rfl, a1, (keep_below _ hW).trans a2⟩
  obtain ⟨t', ht'⟩ : ∃ t', ({ t with f := { t.f with row := t.f.row + 1 } } : Tm) = t' := ⟨_, rfl⟩
  rw [ht'] at HZ ⊢
  obtain ⟨R, hR⟩ : ∃ R, t.f.rows = R := ⟨_, rfl⟩
  obtain ⟨r, hr⟩ : ∃ R, t.f.row = R := ⟨_, rfl⟩
  rw [hR] at x0 h1 h2
  rw [hr] at x3 h2 HZ
  obtain ⟨h1, h3⟩ := h1
  obtain ⟨h2, h4⟩ := h2
  have h5 : r + 1 < R := by omega
  clear h hf hR hr h4
  go_enter Tryz.func34, Tryz.ntmps34
  go_wp2_with fail
  go_quiet (fail)
  obtain ⟨W2, hW2⟩ : ∃ W2, w.drewN nq = W2 := ⟨_, rfl⟩
  have hb2 : Below w.heap.size w W2 := by rw [← hW2]; exact below_drewN (Below.refl _ _) nq
  try rw [hW2]
  obtain ⟨y3, g3, hl2, HD⟩ := HZ.out W2 hb2
  have HD := Lib.hid HD
  clear x0 x3 f3 hlt HZ hW2
  go_wp2_with fail
  go_end0
  exact HD.out
set_option maxRecDepth 20000 in
set_option maxHeartbeats 4000000 in
theorem rtfeed_scroll {m n : Nat} (w : World) (h : RtS w0 w B G N cap T t) (hok : OkF t.f m n) (h2 : ¬ t.f.row < t.f.rows - 1) :
    Calls Tryz.prog 34 #[.pointer (some ⟨B, 0, none⟩)] w (RtD w0 w B G N T { t with f := { t.f with cells := scrollL t.f.cells n } }) := by
  obtain ⟨⟨x0, x1, _, x3, _⟩, _, _, hf⟩ := h.box.cells
  have hlt := h.box.lt
  have h5 : ¬ t.f.row + 1 < t.f.rows := by omega
  obtain ⟨h1, h3⟩ := hok.hm
  have hr1 := hok.rows
  have hr2 := hok.row
  rw [hr1] at x0 h5
  rw [hok.cols] at x1
  obtain ⟨r, hr⟩ : ∃ R, t.f.row = R := ⟨_, rfl⟩
  rw [hr] at x3 hr2 h5
  obtain ⟨r1, r2⟩ := hr2
  have H := Lib.hid (fun W => rnew_any m n W hok.hm hok.hn)
  have hP : m * n = N := by rw [← hok.len, h.len]
  rw [hP] at H
  have hnN : n ≤ N := by rw [← hP]; exact Nat.le_mul_of_pos_left n (by omega)
  have hN2 : N ≤ 20000 := by rw [← h.len]; exact hok.room
  have HLN : Hid (t.f.cells.length = N) := h.len
  obtain ⟨hn8, hn200⟩ := hok.hn
  have HC : Hid (∀ W, Below w.heap.size w W → W.cell? ⟨B, 0, none⟩ = some (.int .i64 (m : Int)) ∧ W.cell? ⟨B, 1, none⟩ = some (.int .i64 (n : Int))) := fun W hW => by
    obtain ⟨⟨y0, y1, _, _, _⟩, _⟩ := (h.next hW).box.cells
    rw [hok.rows] at y0
    rw [hok.cols] at y1
    exact ⟨y0, y1⟩
  have HS := Lib.hid h
  have HOK := Lib.hid hok
  clear h2 h hok hr1 hf hr hP
  go_enter Tryz.func34, Tryz.ntmps34
  go_wp2_with fail
  go_quiet (fail)
  obtain ⟨W2, hW2⟩ : ∃ W2, w.drewN nq = W2 := ⟨_, rfl⟩
  have hb2 : Below w.heap.size w W2 := by rw [← hW2]; exact below_drewN (Below.refl _ _) nq
  try rw [hW2]
  obtain ⟨y0, y1⟩ := HC.out W2 hb2
  have HC5 : Hid (∀ W r c v a b, Below w.heap.size w W → (set5 W W2.heap.size r c v a b).cell? ⟨B, 0, none⟩ = some (.int .i64 (m : Int)) ∧ (set5 W W2.heap.size r c v a b).cell? ⟨B, 1, none⟩ = some (.int .i64 (n : Int))) := fun W r c v a b hW => by
    obtain ⟨z0, z1⟩ := HC.out W hW
    have hk := set5_keep (ok := fun k => k ≠ W2.heap.size) W W2.heap.size r c v a b (fun k => k rfl)
    have hBB : B ≠ W2.heap.size := by have := hb2.size; omega
    exact ⟨hk.cell z0 hBB, hk.cell z1 hBB⟩
  unfold set5 at HC5
  clear x0 x1 x3 hlt hW2
  go_wp2_with fail
  go_region_held3 (fun W => W.cell? ⟨B, 0, none⟩ = some (.int .i64 (m : Int)) ∧ W.cell? ⟨B, 1, none⟩ = some (.int .i64 (n : Int))) (first | exact HC.out _ (hb2.drew.trans (hb5.mono hb2.drew.size)) | exact HC.out _ ((hb2.drew.alloc hb2.drew.size _).trans (hb5.mono (hb2.drew.alloc hb2.drew.size _).size)) | exact HC.out _ (hb2.drew.alloc hb2.drew.size _) | exact HC.out _ ((hb2.drew.trans (hb5.mono hb2.drew.size)).alloc (hb2.drew.trans (hb5.mono hb2.drew.size)).size _) | exact HC5.out w5 _ _ _ _ _ ((hb2.drew.alloc hb2.drew.size _).trans (hb5.mono (hb2.drew.alloc hb2.drew.size _).size)) | go_keep) (first | (go_at_call 27; go_must (go_fit (H.out _)); rintro e w5 ⟨g, c, rfl, hc5, hz5, hb5⟩; try (have fr5 : frB w5 W2.heap.size 0 0 (.slice none 0 0) 0 0 := (frB.new (r := 0) (c := 0) (v := .slice none 0 0) (a := 0) (b := 0) W2.drew).below hb5 (frB.new W2.drew).lt; obtain ⟨⟨v0, v1, v2, v3, v4⟩, f0, f1, f2, f3, f4⟩ := fr5.cells; have hl5 := fr5.lt)))
  · obtain ⟨zs5, hg5, hz6⟩ := hz5
    have hbw5 : Below w.heap.size w w5 := hb2.drew.trans (hb5.mono hb2.drew.size)
    have hl6 := hz6.lt
    have hg6 : W2.heap.size ≤ g := hg5
    have HF6 : FsI w (w5.alloc (.cells #[.int .i64 (m : Int), .int .i64 (n : Int), .slice (some ⟨g, 0, none⟩) N c, .int .i64 0, .int .i64 0] 35)) m n N c w5.heap.size g (movL t.f.cells n N 0) := by
      have hs := hb2.size
      have hs5 := hbw5.size
      refine ⟨hbw5.alloc hbw5.size _, frB.new w5, ⟨zs5, ?_⟩, mov_len HLN.out (by omega), by omega, by omega, by omega, hc5⟩
      unfold blkL
      rw [Below.heap_alloc _ _ _ hl6]
      exact hz6
    obtain ⟨W6, hW6⟩ : ∃ W6, w5.alloc (.cells #[.int .i64 (m : Int), .int .i64 (n : Int), .slice (some ⟨g, 0, none⟩) N c, .int .i64 0, .int .i64 0] 35) = W6 := ⟨_, rfl⟩
    rw [hW6] at HF6 ⊢
    clear hW6 hz6 hbw5 hl6 hg5 hg6 hb5 hc5 HC5 HC y0 y1
    obtain ⟨F, hF⟩ : ∃ F, w5.heap.size = F := ⟨_, rfl⟩
    rw [hF] at HF6 ⊢
    have HF6 := Lib.hid HF6
    clear hF
    obtain ⟨⟨_, x1, _, _, _⟩, _⟩ := (HS.out.next HF6.out.below).box.cells
    rw [HOK.out.cols] at x1
    go_wp2_with fail
    go_loopw [4] (fun s4 wr => ∃ i : Nat, s4 = .int .i64 (i : Int) ∧ n ≤ i ∧ i ≤ N ∧ Hid (FsI w wr m n N c F g (movL t.f.cells n N (i - n)))) (fun s4 _ => N - (intOf s4).toNat)
    case atStart => exact ⟨n, rfl, Nat.le_refl _, hnN, by rw [Nat.sub_self]; exact HF6⟩
    case round =>
      obtain ⟨i, rfl, hin, hiN, HI⟩ := hrel
      clear x1 HF6
      have hSr := HS.out.next HI.out.below
      obtain ⟨⟨_, x1, x2, _, _⟩, _, _, hfz⟩ := hSr.box.cells
      rw [HOK.out.cols] at x1
      have hbl := hSr.box.lt
      by_cases hlt : i < N
      · obtain ⟨j, hj⟩ : ∃ j, i - n = j := ⟨_, rfl⟩
        rw [hj] at HI
        have hij : IntKind.i64.wrap ((i : Int) - (n : Int)) = (j : Int) := by rw [show (i : Int) - (n : Int) = (j : Int) by omega]; exact IntWalk.i64_in _ (by omega)
        obtain ⟨c0, hc0⟩ : ∃ c0, t.f.cells[i]? = some c0 := ⟨_, List.getElem?_eq_getElem (by rw [HLN.out]; exact hlt)⟩
        obtain ⟨zsG, hzG⟩ := hSr.blk
        obtain ⟨e0, e1, e2, e3, e4, e5⟩ := hzG.cells hc0
        obtain ⟨⟨_, _, v2, _, _⟩, _⟩ := HI.out.fr.cells
        obtain ⟨d, hd⟩ : ∃ d, (movL t.f.cells n N j)[j]? = some d := ⟨_, List.getElem?_eq_getElem (by rw [mov_len HLN.out (by omega)]; omega)⟩
        have HZd : Hid (∀ Wd, wr.drew = Wd → (Wd.cell? ⟨g, j * 6, none⟩ = some (.int .i32 d.1) ∧ Wd.cell? ⟨g, j * 6 + 1, none⟩ = some (.int .i64 d.2.1) ∧ Wd.cell? ⟨g, j * 6 + 2, none⟩ = some (.int .i64 d.2.2.1) ∧ Wd.cell? ⟨g, j * 6 + 3, none⟩ = some (.bool d.2.2.2.1) ∧ Wd.cell? ⟨g, j * 6 + 4, none⟩ = some (.bool d.2.2.2.2.1) ∧ Wd.cell? ⟨g, j * 6 + 5, none⟩ = some (.bool d.2.2.2.2.2)) ∧ (∀ k, Wd.frozen? ⟨g, k, none⟩ = false) ∧ g < Wd.heap.size ∧ FsI w (set6 Wd g (j * 6) c0) m n N c F g (movL t.f.cells n N (j + 1))) := fun Wd hWd => by
          have hI := HI.out.drew
          rw [hWd] at hI
          obtain ⟨zs, hz⟩ := hI.blk
          have hst := hI.set j c0 (by omega)
          rw [mov_step HLN.out (by omega) (by rw [show n + j = i by omega]; exact hc0)] at hst
          exact ⟨hz.cells hd, hz.frozen, hz.lt, hst⟩
        have j1 : (i : Int) < (N : Int) := by omega
        have j2 : (0 : Int) ≤ (i : Int) := by omega
        have j4 : (j : Int) < (N : Int) := by omega
        have j5 : (0 : Int) ≤ (j : Int) := by omega
        obtain ⟨y, hy⟩ : ∃ y, i + 1 = y := ⟨_, rfl⟩
        have j3 : (i : Int) + 1 = (y : Int) := by omega
        have hyN : y ≤ N := by omega
        have hny : n ≤ y := by omega
        have HYI : Hid (i < y ∧ y - n = j + 1) := by show _ ∧ _; omega
        clear hSr hfz hzG hc0 hd hy hj HI
        go_wp2_with fail
        go_still_tail 18, (by kernel_rfl)
        change wpList _ _ _ _ _ wr.drew
        obtain ⟨Wd, hWd⟩ : ∃ Wd, wr.drew = Wd := ⟨_, rfl⟩
        rw [hWd]
        obtain ⟨⟨d0, d1, d2, d3, d4, d5⟩, hf, hgl, hI3⟩ := HZd.out Wd hWd
        have f0 := hf (j * 6)
        have f1 := hf (j * 6 + 1)
        have f2 := hf (j * 6 + 2)
        have f3 := hf (j * 6 + 3)
        have f4 := hf (j * 6 + 4)
        have f5 := hf (j * 6 + 5)
        unfold set6 at hI3
        have HI3 := Lib.hid hI3
        clear hI3 hf HZd hWd e0 e1 e2 e3 e4 e5 x1 x2 v2 hbl
        go_wp2_with fail
        go_roundw
        case rel => exact ⟨y, rfl, hny, hyN, by show FsI _ _ _ _ _ _ _ _ _; rw [HYI.out.2]; exact HI3.out⟩
        case measure => simp [intOf]; have := HYI.out; omega
      · obtain ⟨⟨_, _, v2, _, _⟩, _⟩ := HI.out.fr.cells
        have j9 : ¬ (i : Int) < (N : Int) := by omega
        have fz2 := hfz 2
        have HE : Hid (∀ W', wr.setCell ⟨B, 2, none⟩ (.slice (some ⟨g, 0, none⟩) N c) = W' → RtD w0 w B G N T { t with f := { t.f with cells := scrollL t.f.cells n } } (.returned (.tuple #[])) W') := fun W' hW' => by
          have hI := HI.out
          rw [show i - n = N - n by omega, mov_end HLN.out hnN] at hI
          obtain ⟨zs, hz⟩ := hI.blk
          have hk := keep_set (ok := fun k => k ≠ B) B 2 none (.slice (some ⟨g, 0, none⟩) N c) wr (fun k => k rfl)
          have hBw := HS.out.box.lt
          have hg := hI.hg
          have hs0 := HS.out.below.size
          have hBg : B ≠ g := by omega
          have hB0 := HS.out.hB
          rw [hW'] at hk
          refine ⟨rfl, g, c, .inr hg, ⟨KeepW.below hSr.below hk hSr.below.size (fun k hk => by omega), hB0, by omega, hBg, ?_, ⟨zs, hz.keep hk (by show g ≠ B; exact fun e => hBg e.symm)⟩, hI.len, hI.cap⟩, (keep_below _ hI.below).trans (hk.mono fun k _ q => q.1)⟩
          have hbx := hSr.box.set 2 (.slice (some ⟨g, 0, none⟩) N c)
          rw [hW'] at hbx
          exact hbx
        clear hSr hfz HI
        go_wp2_with fail
        go_end0
        exact HE.out _ rfl
  · obtain ⟨zs5, hg5, hz6⟩ := hz5
    have hbw5 : Below w.heap.size w w5 := (hb2.drew.alloc hb2.drew.size _).trans (hb5.mono (hb2.drew.alloc hb2.drew.size _).size)
    have hg6 : W2.heap.size + 1 ≤ g := by
      have h := hg5
      change (W2.alloc _).heap.size ≤ g at h
      rwa [World.size_alloc] at h
    have HF6 : FsI w (((((w5.setCell ⟨W2.heap.size, 0, none⟩ (.int .i64 (m : Int))).setCell ⟨W2.heap.size, 1, none⟩ (.int .i64 (n : Int))).setCell ⟨W2.heap.size, 2, none⟩ (.slice (some ⟨g, 0, none⟩) N c)).setCell ⟨W2.heap.size, 3, none⟩ (.int .i64 0)).setCell ⟨W2.heap.size, 4, none⟩ (.int .i64 0)) m n N c W2.heap.size g (movL t.f.cells n N 0) := by
      have hs := hb2.size
      have hk := set5_keep (ok := fun k => k ≠ W2.heap.size) w5 W2.heap.size (m : Int) (n : Int) (.slice (some ⟨g, 0, none⟩) N c) 0 0 (fun k => k rfl)
      exact ⟨KeepW.below hbw5 hk hbw5.size (fun k hk => by omega), fr5.all, ⟨zs5, hz6.keep hk (by show _ ≠ _; omega)⟩, mov_len HLN.out (by omega), hs, by omega, by omega, hc5⟩
    obtain ⟨W6, hW6⟩ : ∃ W6, ((((w5.setCell ⟨W2.heap.size, 0, none⟩ (.int .i64 (m : Int))).setCell ⟨W2.heap.size, 1, none⟩ (.int .i64 (n : Int))).setCell ⟨W2.heap.size, 2, none⟩ (.slice (some ⟨g, 0, none⟩) N c)).setCell ⟨W2.heap.size, 3, none⟩ (.int .i64 0)).setCell ⟨W2.heap.size, 4, none⟩ (.int .i64 0) = W6 := ⟨_, rfl⟩
    rw [hW6] at HF6 ⊢
    clear hW6 hz6 hbw5 hg5 hg6 hb5 hc5 HC5 HC y0 y1 fr5 v0 v1 v2 v3 v4 f0 f1 f2 f3 f4 hl5
    obtain ⟨F, hF⟩ : ∃ F, W2.heap.size = F := ⟨_, rfl⟩
    rw [hF] at HF6 ⊢
    have HF6 := Lib.hid HF6
    clear hF
    obtain ⟨⟨_, x1, _, _, _⟩, _⟩ := (HS.out.next HF6.out.below).box.cells
    rw [HOK.out.cols] at x1
    go_wp2_with fail
    go_loopw [4] (fun s4 wr => ∃ i : Nat, s4 = .int .i64 (i : Int) ∧ n ≤ i ∧ i ≤ N ∧ Hid (FsI w wr m n N c F g (movL t.f.cells n N (i - n)))) (fun s4 _ => N - (intOf s4).toNat)
    case atStart => exact ⟨n, rfl, Nat.le_refl _, hnN, by rw [Nat.sub_self]; exact HF6⟩
    case round =>
      obtain ⟨i, rfl, hin, hiN, HI⟩ := hrel
      clear x1 HF6
      have hSr := HS.out.next HI.out.below
      obtain ⟨⟨_, x1, x2, _, _⟩, _, _, hfz⟩ := hSr.box.cells
      rw [HOK.out.cols] at x1
      have hbl := hSr.box.lt
      by_cases hlt : i < N
      · obtain ⟨j, hj⟩ : ∃ j, i - n = j := ⟨_, rfl⟩
        rw [hj] at HI
        have hij : IntKind.i64.wrap ((i : Int) - (n : Int)) = (j : Int) := by rw [show (i : Int) - (n : Int) = (j : Int) by omega]; exact IntWalk.i64_in _ (by omega)
        obtain ⟨c0, hc0⟩ : ∃ c0, t.f.cells[i]? = some c0 := ⟨_, List.getElem?_eq_getElem (by rw [HLN.out]; exact hlt)⟩
        obtain ⟨zsG, hzG⟩ := hSr.blk
        obtain ⟨e0, e1, e2, e3, e4, e5⟩ := hzG.cells hc0
        obtain ⟨⟨_, _, v2, _, _⟩, _⟩ := HI.out.fr.cells
        obtain ⟨d, hd⟩ : ∃ d, (movL t.f.cells n N j)[j]? = some d := ⟨_, List.getElem?_eq_getElem (by rw [mov_len HLN.out (by omega)]; omega)⟩
        have HZd : Hid (∀ Wd, wr.drew = Wd → (Wd.cell? ⟨g, j * 6, none⟩ = some (.int .i32 d.1) ∧ Wd.cell? ⟨g, j * 6 + 1, none⟩ = some (.int .i64 d.2.1) ∧ Wd.cell? ⟨g, j * 6 + 2, none⟩ = some (.int .i64 d.2.2.1) ∧ Wd.cell? ⟨g, j * 6 + 3, none⟩ = some (.bool d.2.2.2.1) ∧ Wd.cell? ⟨g, j * 6 + 4, none⟩ = some (.bool d.2.2.2.2.1) ∧ Wd.cell? ⟨g, j * 6 + 5, none⟩ = some (.bool d.2.2.2.2.2)) ∧ (∀ k, Wd.frozen? ⟨g, k, none⟩ = false) ∧ g < Wd.heap.size ∧ FsI w (set6 Wd g (j * 6) c0) m n N c F g (movL t.f.cells n N (j + 1))) := fun Wd hWd => by
          have hI := HI.out.drew
          rw [hWd] at hI
          obtain ⟨zs, hz⟩ := hI.blk
          have hst := hI.set j c0 (by omega)
          rw [mov_step HLN.out (by omega) (by rw [show n + j = i by omega]; exact hc0)] at hst
          exact ⟨hz.cells hd, hz.frozen, hz.lt, hst⟩
        have j1 : (i : Int) < (N : Int) := by omega
        have j2 : (0 : Int) ≤ (i : Int) := by omega
        have j4 : (j : Int) < (N : Int) := by omega
        have j5 : (0 : Int) ≤ (j : Int) := by omega
        obtain ⟨y, hy⟩ : ∃ y, i + 1 = y := ⟨_, rfl⟩
        have j3 : (i : Int) + 1 = (y : Int) := by omega
        have hyN : y ≤ N := by omega
        have hny : n ≤ y := by omega
        have HYI : Hid (i < y ∧ y - n = j + 1) := by show _ ∧ _; omega
        clear hSr hfz hzG hc0 hd hy hj HI
        go_wp2_with fail
        go_still_tail 18, (by kernel_rfl)
        change wpList _ _ _ _ _ wr.drew
        obtain ⟨Wd, hWd⟩ : ∃ Wd, wr.drew = Wd := ⟨_, rfl⟩
        rw [hWd]
        obtain ⟨⟨d0, d1, d2, d3, d4, d5⟩, hf, hgl, hI3⟩ := HZd.out Wd hWd
        have f0 := hf (j * 6)
        have f1 := hf (j * 6 + 1)
        have f2 := hf (j * 6 + 2)
        have f3 := hf (j * 6 + 3)
        have f4 := hf (j * 6 + 4)
        have f5 := hf (j * 6 + 5)
        unfold set6 at hI3
        have HI3 := Lib.hid hI3
        clear hI3 hf HZd hWd e0 e1 e2 e3 e4 e5 x1 x2 v2 hbl
        go_wp2_with fail
        go_roundw
        case rel => exact ⟨y, rfl, hny, hyN, by show FsI _ _ _ _ _ _ _ _ _; rw [HYI.out.2]; exact HI3.out⟩
        case measure => simp [intOf]; have := HYI.out; omega
      · obtain ⟨⟨_, _, v2, _, _⟩, _⟩ := HI.out.fr.cells
        have j9 : ¬ (i : Int) < (N : Int) := by omega
        have fz2 := hfz 2
        have HE : Hid (∀ W', wr.setCell ⟨B, 2, none⟩ (.slice (some ⟨g, 0, none⟩) N c) = W' → RtD w0 w B G N T { t with f := { t.f with cells := scrollL t.f.cells n } } (.returned (.tuple #[])) W') := fun W' hW' => by
          have hI := HI.out
          rw [show i - n = N - n by omega, mov_end HLN.out hnN] at hI
          obtain ⟨zs, hz⟩ := hI.blk
          have hk := keep_set (ok := fun k => k ≠ B) B 2 none (.slice (some ⟨g, 0, none⟩) N c) wr (fun k => k rfl)
          have hBw := HS.out.box.lt
          have hg := hI.hg
          have hs0 := HS.out.below.size
          have hBg : B ≠ g := by omega
          have hB0 := HS.out.hB
          rw [hW'] at hk
          refine ⟨rfl, g, c, .inr hg, ⟨KeepW.below hSr.below hk hSr.below.size (fun k hk => by omega), hB0, by omega, hBg, ?_, ⟨zs, hz.keep hk (by show g ≠ B; exact fun e => hBg e.symm)⟩, hI.len, hI.cap⟩, (keep_below _ hI.below).trans (hk.mono fun k _ q => q.1)⟩
          have hbx := hSr.box.set 2 (.slice (some ⟨g, 0, none⟩) N c)
          rw [hW'] at hbx
          exact hbx
        clear hSr hfz HI
        go_wp2_with fail
        go_end0
        exact HE.out _ rfl
theorem rtfeed_any {m n : Nat} (w : World) (h : RtS w0 w B G N cap T t) (hok : OkF t.f m n) :
    Calls Tryz.prog 34 #[.pointer (some ⟨B, 0, none⟩)] w (RtD w0 w B G N T { t with f := feedF t.f }) := by
  have h1 := hok.rows; have h2 := hok.hm; have h3 := hok.row
  unfold feedF
  split
  · exact rtfeed_lt w h (by omega) (by omega)
  · rw [hok.nat.2]
    exact rtfeed_scroll w h hok (by assumption)
end
end Go.Proofs.YtpkjaallhhjleaaGreatDoor
