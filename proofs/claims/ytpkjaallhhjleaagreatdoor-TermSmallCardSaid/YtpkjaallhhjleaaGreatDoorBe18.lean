/-
  Texts of this proof, one behind the other; each begins with its own remark.
-/
import Derived.Deep.DeepFit
import Derived.Test.YtpkjaallhhjleaaGreatDoorBe14
import Derived.Test.YtpkjaallhhjleaaGreatDoorBe8
import Derived.Test.YtpkjaallhhjleaaGreatDoorBe17
import Derived.Test.YtpkjaallhhjleaaGreatDoorBe7
import Derived.Test.YtpkjaallhhjleaaGreatDoorBe4
import Derived.Test.YtpkjaallhhjleaaGreatDoorBe16
/-
  What lies in memory where a terminal lies: its box, its cells; what a store makes of them. No call is walked here.
-/
namespace Go.Proofs.YtpkjaallhhjleaaGreatDoor
open Go.RowKit

/-- The box of a terminal. -/
def tmA (t : Tm) (v : Value) : Array Value := #[.int .i64 t.f.rows, .int .i64 t.f.cols, v, .int .i64 t.f.row, .int .i64 t.f.col, .int .i64 t.sty.1, .bool t.sty.2.1, .bool t.sty.2.2.1, .bool t.sty.2.2.2, .int .i64 t.bells, .bool t.waits, .int .i64 (stN t.p), .string (stB t.p)]
def tmB (W : World) (B : Nat) (t : Tm) (v : Value) : Prop := W.heap[B]? = some (.cells (tmA t v) 47 (0, 0))
theorem tmB.lt {W : World} {B : Nat} {t : Tm} {v : Value} (h : tmB W B t v) : B < W.heap.size := (Array.getElem?_eq_some_iff.1 h).1
theorem tmB.set {W : World} {B : Nat} {t : Tm} {v : Value} (h : tmB W B t v) (i : Nat) (u : Value) : (W.setCell ⟨B, i, none⟩ u).heap[B]? = some (.cells ((tmA t v).modify i fun _ => u) 47 (0, 0)) := by
  unfold tmB at h
  show (W.heap.modify B _)[B]? = _
  have hlt := (Array.getElem?_eq_some_iff.1 h).1
  obtain ⟨_, he⟩ := Array.getElem?_eq_some_iff.1 h
  rw [Array.getElem?_eq_getElem (by rw [Array.size_modify]; exact hlt), Array.getElem_modify_self, he]
  rfl
theorem tmB.keep {W W' : World} {ok : Nat → Prop} {B : Nat} {t : Tm} {v : Value} (h : tmB W B t v) (hk : KeepW ok W W') (hB : ok B) : tmB W' B t v := (hk.same B h.lt hB).trans h
theorem tmB.cells {W : World} {B : Nat} {t : Tm} {v : Value} (h : tmB W B t v) :
    (W.cell? ⟨B, 0, none⟩ = some (.int .i64 t.f.rows) ∧ W.cell? ⟨B, 1, none⟩ = some (.int .i64 t.f.cols) ∧ W.cell? ⟨B, 2, none⟩ = some v ∧ W.cell? ⟨B, 3, none⟩ = some (.int .i64 t.f.row) ∧ W.cell? ⟨B, 4, none⟩ = some (.int .i64 t.f.col)) ∧
    (W.cell? ⟨B, 5, none⟩ = some (.int .i64 t.sty.1) ∧ W.cell? ⟨B, 6, none⟩ = some (.bool t.sty.2.1) ∧ W.cell? ⟨B, 7, none⟩ = some (.bool t.sty.2.2.1) ∧ W.cell? ⟨B, 8, none⟩ = some (.bool t.sty.2.2.2)) ∧
    (W.cell? ⟨B, 9, none⟩ = some (.int .i64 t.bells) ∧ W.cell? ⟨B, 10, none⟩ = some (.bool t.waits) ∧ W.cell? ⟨B, 11, none⟩ = some (.int .i64 (stN t.p)) ∧ W.cell? ⟨B, 12, none⟩ = some (.string (stB t.p))) ∧ ∀ i, W.frozen? ⟨B, i, none⟩ = false := by
  unfold tmB at h
  refine ⟨⟨?_, ?_, ?_, ?_, ?_⟩, ⟨?_, ?_, ?_, ?_⟩, ⟨?_, ?_, ?_, ?_⟩, fun i => ?_⟩ <;> first | (unfold World.cell?; rw [h]; rfl) | (unfold World.frozen?; rw [h]; simp)

/-- A terminal: its box B, its cells in G; w0: the world ahead of it. -/
structure TmS (w0 w : World) (B G N c : Nat) (t : Tm) : Prop where
  below : Below w0.heap.size w0 w
  hB : w0.heap.size ≤ B
  hG : w0.heap.size ≤ G
  ne : B ≠ G
  box : tmB w B t (.slice (some ⟨G, 0, none⟩) N c)
  blk : ∃ zs, blkL w G t.f.cells zs
  len : t.f.cells.length = N
  cap : N ≤ c
/-- All blocks but these two. -/
abbrev NotBG (B G : Nat) : Nat → Prop := fun k => k ≠ B ∧ k ≠ G
/-- What a method without results leaves. -/
def TmD (w0 w : World) (B G N c : Nat) (t : Tm) (e : Ending) (w' : World) : Prop := e = .returned (.tuple #[]) ∧ TmS w0 w' B G N c t ∧ KeepW (NotBG B G) w w'
section
variable {w0 w : World} {B G N c : Nat} {t : Tm}
theorem TmS.gt (h : TmS w0 w B G N c t) : G < w.heap.size := by obtain ⟨zs, hz⟩ := h.blk; exact hz.lt
theorem TmS.next {w' : World} (h : TmS w0 w B G N c t) (hb : Below w.heap.size w w') : TmS w0 w' B G N c t := by
  obtain ⟨zs, hz⟩ := h.blk
  exact ⟨h.below.trans (hb.mono h.below.size), h.hB, h.hG, h.ne, (hb.block B h.box.lt).trans h.box, ⟨zs, hz.below hb hz.lt⟩, h.len, h.cap⟩
theorem TmS.keep {w' : World} {ok : Nat → Prop} (h : TmS w0 w B G N c t) (hk : KeepW ok w w') (h0 : ∀ k, k < w0.heap.size → ok k) (hB : ok B) (hG : ok G) : TmS w0 w' B G N c t := by
  obtain ⟨zs, hz⟩ := h.blk
  exact ⟨KeepW.below h.below hk h.below.size h0, h.hB, h.hG, h.ne, h.box.keep hk hB, ⟨zs, hz.keep hk hG⟩, h.len, h.cap⟩
/-- The box turns, the cells stay. -/
theorem TmS.boxed {w' : World} {t' : Tm} (h : TmS w0 w B G N c t) (hk : KeepW (fun k => k ≠ B) w w') (hb : tmB w' B t' (.slice (some ⟨G, 0, none⟩) N c)) (hc : t'.f.cells = t.f.cells) : TmS w0 w' B G N c t' := by
  obtain ⟨zs, hz⟩ := h.blk
  have := h.hB
  exact ⟨KeepW.below h.below hk h.below.size fun k hk => by omega, h.hB, h.hG, h.ne, hb, ⟨zs, by rw [hc]; exact hz.keep hk (by show G ≠ B; exact fun e => h.ne e.symm)⟩, by rw [hc]; exact h.len, h.cap⟩
/-- The cells turn, the box stays. -/
theorem TmS.celled {w' : World} {L : List Cel} {zs : List Value} (h : TmS w0 w B G N c t) (hk : KeepW (fun k => k ≠ G) w w') (hb : blkL w' G L zs) (hl : L.length = N) : TmS w0 w' B G N c { t with f := { t.f with cells := L } } := by
  have := h.hG
  exact ⟨KeepW.below h.below hk h.below.size fun k hk => by omega, h.hB, h.hG, h.ne, h.box.keep hk (by show B ≠ G; exact h.ne), ⟨zs, hb⟩, hl, h.cap⟩
/-- One store into the box. -/
theorem TmS.store {t' : Tm} (h : TmS w0 w B G N c t) (i : Nat) (u : Value) (ht : (tmA t (.slice (some ⟨G, 0, none⟩) N c)).modify i (fun _ => u) = tmA t' (.slice (some ⟨G, 0, none⟩) N c)) (hc : t'.f.cells = t.f.cells) :
    TmS w0 (w.setCell ⟨B, i, none⟩ u) B G N c t' ∧ KeepW (NotBG B G) w (w.setCell ⟨B, i, none⟩ u) := by
  have hk := keep_set (ok := fun k => k ≠ B) B i none u w (fun k => k rfl)
  refine ⟨h.boxed hk ?_ hc, hk.mono fun k _ hk => hk.1⟩
  unfold tmB
  rw [h.box.set i u, ht]
theorem TmS.row_ (h : TmS w0 w B G N c t) (x : Int) : TmS w0 (w.setCell ⟨B, 3, none⟩ (.int .i64 x)) B G N c { t with f := { t.f with row := x } } ∧ KeepW (NotBG B G) w (w.setCell ⟨B, 3, none⟩ (.int .i64 x)) := h.store 3 _ rfl rfl
theorem TmS.col_ (h : TmS w0 w B G N c t) (x : Int) : TmS w0 (w.setCell ⟨B, 4, none⟩ (.int .i64 x)) B G N c { t with f := { t.f with col := x } } ∧ KeepW (NotBG B G) w (w.setCell ⟨B, 4, none⟩ (.int .i64 x)) := h.store 4 _ rfl rfl
theorem TmS.bells_ (h : TmS w0 w B G N c t) (x : Int) : TmS w0 (w.setCell ⟨B, 9, none⟩ (.int .i64 x)) B G N c { t with bells := x } ∧ KeepW (NotBG B G) w (w.setCell ⟨B, 9, none⟩ (.int .i64 x)) := h.store 9 _ rfl rfl
theorem TmS.waits_ (h : TmS w0 w B G N c t) (x : Bool) : TmS w0 (w.setCell ⟨B, 10, none⟩ (.bool x)) B G N c { t with waits := x } ∧ KeepW (NotBG B G) w (w.setCell ⟨B, 10, none⟩ (.bool x)) := h.store 10 _ rfl rfl
def setSty (w : World) (B : Nat) (s : Sty) : World := (((w.setCell ⟨B, 5, none⟩ (.int .i64 s.1)).setCell ⟨B, 6, none⟩ (.bool s.2.1)).setCell ⟨B, 7, none⟩ (.bool s.2.2.1)).setCell ⟨B, 8, none⟩ (.bool s.2.2.2)
theorem TmS.sty_ (h : TmS w0 w B G N c t) (s : Sty) : TmS w0 (setSty w B s) B G N c { t with sty := s } ∧ KeepW (NotBG B G) w (setSty w B s) := by
  obtain ⟨a1, a2⟩ := h.store (t' := { t with sty := (s.1, t.sty.2) }) 5 (.int .i64 s.1) rfl rfl
  obtain ⟨b1, b2⟩ := a1.store (t' := { t with sty := (s.1, s.2.1, t.sty.2.2) }) 6 (.bool s.2.1) rfl rfl
  obtain ⟨c1, c2⟩ := b1.store (t' := { t with sty := (s.1, s.2.1, s.2.2.1, t.sty.2.2.2) }) 7 (.bool s.2.2.1) rfl rfl
  obtain ⟨d1, d2⟩ := c1.store (t' := { t with sty := s }) 8 (.bool s.2.2.2) rfl rfl
  exact ⟨d1, ((a2.trans b2).trans c2).trans d2⟩
def setPs (w : World) (B : Nat) (p : Ps) : World := (w.setCell ⟨B, 11, none⟩ (.int .i64 (stN p))).setCell ⟨B, 12, none⟩ (.string (stB p))
theorem TmS.ps_ (h : TmS w0 w B G N c t) (p : Ps) : TmS w0 (setPs w B p) B G N c { t with p := p } ∧ KeepW (NotBG B G) w (setPs w B p) := by
  have hk := (keep_set (ok := fun k => k ≠ B) B 11 none (.int .i64 (stN p)) w (fun k => k rfl)).trans (keep_set (ok := fun k => k ≠ B) B 12 none (.string (stB p)) _ (fun k => k rfl))
  refine ⟨h.boxed hk ?_ rfl, hk.mono fun k _ hk => hk.1⟩
  have h1 := h.box.set 11 (.int .i64 (stN p))
  unfold tmB setPs
  show ((w.setCell ⟨B, 11, none⟩ (.int .i64 (stN p))).heap.modify B _)[B]? = _
  obtain ⟨hlt, he⟩ := Array.getElem?_eq_some_iff.1 h1
  rw [Array.getElem?_eq_getElem (by rw [Array.size_modify]; exact hlt), Array.getElem_modify_self, he]
  rfl
/-- The frame of it, as a value. -/
theorem TmS.frame (h : TmS w0 w B G N c t) : FrameW AnyB w (.agg #[.int .i64 t.f.rows, .int .i64 t.f.cols, .slice (some ⟨G, 0, none⟩) N c, .int .i64 t.f.row, .int .i64 t.f.col]) t.f := by
  obtain ⟨zs, hz⟩ := h.blk
  exact ⟨_, N, c, rfl, h.len.symm, h.cap, hz.slice trivial h.len h.cap⟩
/-- The cells of it, as a slice. -/
theorem TmS.cels (h : TmS w0 w B G N c t) : CelsW AnyB w (.slice (some ⟨G, 0, none⟩) N c) t.f.cells := by
  obtain ⟨zs, hz⟩ := h.blk
  exact hz.slice trivial h.len h.cap
end
end Go.Proofs.YtpkjaallhhjleaaGreatDoor

/-
  Plain facts: the chapter's terminal: what its five texts show. Nothing of the program is run here.
-/
namespace Go.Proofs.YtpkjaallhhjleaaGreatDoor
open Go.RowKit

def exT (L : List UInt8) : Frm := (writeT (newT 2 8) L).f
def spB (n : Nat) : ByteArray := ⟨(List.replicate n (32 : UInt8)).toArray⟩
theorem exT_1 : rowsF (exT [49, 50, 51, 52, 53, 54, 55, 56]) = [⟨#[49, 50, 51, 52, 53, 54, 55, 56]⟩, ⟨#[32, 32, 32, 32, 32, 32, 32, 32]⟩] ∧ (exT [49, 50, 51, 52, 53, 54, 55, 56]).row = 0 ∧ (exT [49, 50, 51, 52, 53, 54, 55, 56]).col = 7 := by decide +kernel
theorem exT_2 : rowsF (exT [49, 50, 51, 52, 53, 54, 55, 56, 57]) = [⟨#[49, 50, 51, 52, 53, 54, 55, 56]⟩, ⟨#[57, 32, 32, 32, 32, 32, 32, 32]⟩] ∧ (exT [49, 50, 51, 52, 53, 54, 55, 56, 57]).row = 1 ∧ (exT [49, 50, 51, 52, 53, 54, 55, 56, 57]).col = 1 := by decide +kernel
theorem exT_3 : rowsF (exT [97, 98, 27, 91, 49, 59, 49, 72, 120]) = [⟨#[120, 98, 32, 32, 32, 32, 32, 32]⟩, ⟨#[32, 32, 32, 32, 32, 32, 32, 32]⟩] ∧ (exT [97, 98, 27, 91, 49, 59, 49, 72, 120]).row = 0 ∧ (exT [97, 98, 27, 91, 49, 59, 49, 72, 120]).col = 1 := by decide +kernel
theorem exT_4 : rowsF (exT [49, 50, 51, 52, 53, 54, 55, 230, 151, 165]) = [⟨#[49, 50, 51, 52, 53, 54, 55, 32]⟩, ⟨#[230, 151, 165, 32, 32, 32, 32, 32, 32]⟩] ∧ (exT [49, 50, 51, 52, 53, 54, 55, 230, 151, 165]).row = 1 ∧ (exT [49, 50, 51, 52, 53, 54, 55, 230, 151, 165]).col = 2 := by decide +kernel
theorem exT_5 : rowsF (exT [97, 10, 10, 10]) = [⟨#[32, 32, 32, 32, 32, 32, 32, 32]⟩, ⟨#[32, 32, 32, 32, 32, 32, 32, 32]⟩] ∧ (exT [97, 10, 10, 10]).row = 1 ∧ (exT [97, 10, 10, 10]).col = 1 := by decide +kernel
end Go.Proofs.YtpkjaallhhjleaaGreatDoor

/-
  term: goTo: what it returns, and lays.
-/
namespace Go.Proofs.YtpkjaallhhjleaaGreatDoor
open Go.RowKit

section
variable {w0 : World} {B G N cap : Nat} {t : Tm}
set_option maxHeartbeats 1000000 in
theorem goto_any (r c : Int) (w : World) (h : TmS w0 w B G N cap t) (h1 : 2 ≤ t.f.rows ∧ t.f.rows ≤ 100) (h2 : 8 ≤ t.f.cols ∧ t.f.cols ≤ 200) :
    Calls Tryz.prog 93 #[.pointer (some ⟨B, 0, none⟩), .int .i64 r, .int .i64 c] w (TmD w0 w B G N cap { t with f := goF t.f r c }) := by
  obtain ⟨⟨x0, x1, _, _, _⟩, _, _, hf⟩ := h.box.cells
  have hlt := h.box.lt
  have f3 := hf 3
  have f4 := hf 4
  have HZ : Hid (∀ a b, a = min (max 0 r) (t.f.rows - 1) → b = min (max 0 c) (t.f.cols - 1) → TmS w0 ((w.setCell ⟨B, 3, none⟩ (.int .i64 a)).setCell ⟨B, 4, none⟩ (.int .i64 b)) B G N cap { t with f := goF t.f r c } ∧ KeepW (NotBG B G) w ((w.setCell ⟨B, 3, none⟩ (.int .i64 a)).setCell ⟨B, 4, none⟩ (.int .i64 b))) := fun a b ha hb => by
    obtain ⟨a1, a2⟩ := h.row_ a
    obtain ⟨b1, b2⟩ := a1.col_ b
    subst ha hb
    exact ⟨b1, a2.trans b2⟩
  obtain ⟨R, hR⟩ : ∃ R, t.f.rows = R := ⟨_, rfl⟩
  obtain ⟨C, hC⟩ : ∃ C, t.f.cols = C := ⟨_, rfl⟩
  rw [hR] at x0 h1 HZ
  rw [hC] at x1 h2 HZ
  clear h hf hR hC
  obtain ⟨h1, h3⟩ := h1
  obtain ⟨h2, h4⟩ := h2
  go_enter Tryz.func93, Tryz.ntmps93
  go_wp2_with fail
  all_goals (go_end0; exact ⟨rfl, HZ.out _ _ (by omega) (by omega)⟩)
end
end Go.Proofs.YtpkjaallhhjleaaGreatDoor

/-
  What lies in memory where the document's terminal (limnerref08.Term) lies: its box, its cells; what a store makes of them. No call is walked here.
-/
namespace Go.Proofs.YtpkjaallhhjleaaGreatDoor
open Go.RowKit

/-- The box of the document's terminal: T: the bytes behind which its parser stands. -/
def rmA (t : Tm) (v : Value) (T : ByteArray) : Array Value := #[.int .i64 t.f.rows, .int .i64 t.f.cols, v, .int .i64 t.f.row, .int .i64 t.f.col, .string T, .int .i64 t.sty.1, .bool t.sty.2.1, .bool t.sty.2.2.1, .bool t.sty.2.2.2, .bool t.waits, .int .i64 t.bells]
def rmB (W : World) (B : Nat) (t : Tm) (v : Value) (T : ByteArray) : Prop := W.heap[B]? = some (.cells (rmA t v T) 40 (0, 0))
theorem rmB.lt {W : World} {B : Nat} {t : Tm} {v : Value} {T : ByteArray} (h : rmB W B t v T) : B < W.heap.size := (Array.getElem?_eq_some_iff.1 h).1
theorem rmB.set {W : World} {B : Nat} {t : Tm} {v : Value} {T : ByteArray} (h : rmB W B t v T) (i : Nat) (u : Value) : (W.setCell ⟨B, i, none⟩ u).heap[B]? = some (.cells ((rmA t v T).modify i fun _ => u) 40 (0, 0)) := by
  unfold rmB at h
  show (W.heap.modify B _)[B]? = _
  have hlt := (Array.getElem?_eq_some_iff.1 h).1
  obtain ⟨_, he⟩ := Array.getElem?_eq_some_iff.1 h
  rw [Array.getElem?_eq_getElem (by rw [Array.size_modify]; exact hlt), Array.getElem_modify_self, he]
  rfl
theorem rmB.keep {W W' : World} {ok : Nat → Prop} {B : Nat} {t : Tm} {v : Value} {T : ByteArray} (h : rmB W B t v T) (hk : KeepW ok W W') (hB : ok B) : rmB W' B t v T := (hk.same B h.lt hB).trans h
theorem rmB.cells {W : World} {B : Nat} {t : Tm} {v : Value} {T : ByteArray} (h : rmB W B t v T) :
    (W.cell? ⟨B, 0, none⟩ = some (.int .i64 t.f.rows) ∧ W.cell? ⟨B, 1, none⟩ = some (.int .i64 t.f.cols) ∧ W.cell? ⟨B, 2, none⟩ = some v ∧ W.cell? ⟨B, 3, none⟩ = some (.int .i64 t.f.row) ∧ W.cell? ⟨B, 4, none⟩ = some (.int .i64 t.f.col)) ∧
    (W.cell? ⟨B, 5, none⟩ = some (.string T) ∧ W.cell? ⟨B, 10, none⟩ = some (.bool t.waits) ∧ W.cell? ⟨B, 11, none⟩ = some (.int .i64 t.bells)) ∧
    (W.cell? ⟨B, 6, none⟩ = some (.int .i64 t.sty.1) ∧ W.cell? ⟨B, 7, none⟩ = some (.bool t.sty.2.1) ∧ W.cell? ⟨B, 8, none⟩ = some (.bool t.sty.2.2.1) ∧ W.cell? ⟨B, 9, none⟩ = some (.bool t.sty.2.2.2)) ∧ ∀ i, W.frozen? ⟨B, i, none⟩ = false := by
  unfold rmB at h
  refine ⟨⟨?_, ?_, ?_, ?_, ?_⟩, ⟨?_, ?_, ?_⟩, ⟨?_, ?_, ?_, ?_⟩, fun i => ?_⟩ <;> first | (unfold World.cell?; rw [h]; rfl) | (unfold World.frozen?; rw [h]; simp)

/-- The document's terminal: its box B, its cells in G; w0: the world ahead of it. -/
structure RtS (w0 w : World) (B G N c : Nat) (T : ByteArray) (t : Tm) : Prop where
  below : Below w0.heap.size w0 w
  hB : w0.heap.size ≤ B
  hG : w0.heap.size ≤ G
  ne : B ≠ G
  box : rmB w B t (.slice (some ⟨G, 0, none⟩) N c) T
  blk : ∃ zs, blkL w G t.f.cells zs
  len : t.f.cells.length = N
  cap : N ≤ c
/-- What a method without results leaves: the cells may lie in another block, which is new. -/
def RtD (w0 w : World) (B G N : Nat) (T : ByteArray) (t : Tm) (e : Ending) (w' : World) : Prop := e = .returned (.tuple #[]) ∧ ∃ G' c', (G' = G ∨ w.heap.size ≤ G') ∧ RtS w0 w' B G' N c' T t ∧ KeepW (NotBG B G) w w'
section
variable {w0 w : World} {B G N c : Nat} {T : ByteArray} {t : Tm}
theorem RtS.gt (h : RtS w0 w B G N c T t) : G < w.heap.size := by obtain ⟨zs, hz⟩ := h.blk; exact hz.lt
theorem RtS.next {w' : World} (h : RtS w0 w B G N c T t) (hb : Below w.heap.size w w') : RtS w0 w' B G N c T t := by
  obtain ⟨zs, hz⟩ := h.blk
  exact ⟨h.below.trans (hb.mono h.below.size), h.hB, h.hG, h.ne, (hb.block B h.box.lt).trans h.box, ⟨zs, hz.below hb hz.lt⟩, h.len, h.cap⟩
theorem RtS.keep {w' : World} {ok : Nat → Prop} (h : RtS w0 w B G N c T t) (hk : KeepW ok w w') (h0 : ∀ k, k < w0.heap.size → ok k) (hB : ok B) (hG : ok G) : RtS w0 w' B G N c T t := by
  obtain ⟨zs, hz⟩ := h.blk
  exact ⟨KeepW.below h.below hk h.below.size h0, h.hB, h.hG, h.ne, h.box.keep hk hB, ⟨zs, hz.keep hk hG⟩, h.len, h.cap⟩
/-- The box turns, the cells stay. -/
theorem RtS.boxed {w' : World} {t' : Tm} {T' : ByteArray} (h : RtS w0 w B G N c T t) (hk : KeepW (fun k => k ≠ B) w w') (hb : rmB w' B t' (.slice (some ⟨G, 0, none⟩) N c) T') (hc : t'.f.cells = t.f.cells) : RtS w0 w' B G N c T' t' := by
  obtain ⟨zs, hz⟩ := h.blk
  have := h.hB
  exact ⟨KeepW.below h.below hk h.below.size fun k hk => by omega, h.hB, h.hG, h.ne, hb, ⟨zs, by rw [hc]; exact hz.keep hk (by show G ≠ B; exact fun e => h.ne e.symm)⟩, by rw [hc]; exact h.len, h.cap⟩
/-- The cells turn, the box stays. -/
theorem RtS.celled {w' : World} {L : List Cel} {zs : List Value} (h : RtS w0 w B G N c T t) (hk : KeepW (fun k => k ≠ G) w w') (hb : blkL w' G L zs) (hl : L.length = N) : RtS w0 w' B G N c T { t with f := { t.f with cells := L } } := by
  have := h.hG
  exact ⟨KeepW.below h.below hk h.below.size fun k hk => by omega, h.hB, h.hG, h.ne, h.box.keep hk (by show B ≠ G; exact h.ne), ⟨zs, hb⟩, hl, h.cap⟩
/-- One store into the box. -/
theorem RtS.store {t' : Tm} {T' : ByteArray} (h : RtS w0 w B G N c T t) (i : Nat) (u : Value) (ht : (rmA t (.slice (some ⟨G, 0, none⟩) N c) T).modify i (fun _ => u) = rmA t' (.slice (some ⟨G, 0, none⟩) N c) T') (hc : t'.f.cells = t.f.cells) :
    RtS w0 (w.setCell ⟨B, i, none⟩ u) B G N c T' t' ∧ KeepW (NotBG B G) w (w.setCell ⟨B, i, none⟩ u) := by
  have hk := keep_set (ok := fun k => k ≠ B) B i none u w (fun k => k rfl)
  refine ⟨h.boxed hk ?_ hc, hk.mono fun k _ hk => hk.1⟩
  unfold rmB
  rw [h.box.set i u, ht]
theorem RtS.row_ (h : RtS w0 w B G N c T t) (x : Int) : RtS w0 (w.setCell ⟨B, 3, none⟩ (.int .i64 x)) B G N c T { t with f := { t.f with row := x } } ∧ KeepW (NotBG B G) w (w.setCell ⟨B, 3, none⟩ (.int .i64 x)) := h.store 3 _ rfl rfl
theorem RtS.col_ (h : RtS w0 w B G N c T t) (x : Int) : RtS w0 (w.setCell ⟨B, 4, none⟩ (.int .i64 x)) B G N c T { t with f := { t.f with col := x } } ∧ KeepW (NotBG B G) w (w.setCell ⟨B, 4, none⟩ (.int .i64 x)) := h.store 4 _ rfl rfl
theorem RtS.text_ (h : RtS w0 w B G N c T t) (T' : ByteArray) (p : Ps) : RtS w0 (w.setCell ⟨B, 5, none⟩ (.string T')) B G N c T' { t with p := p } ∧ KeepW (NotBG B G) w (w.setCell ⟨B, 5, none⟩ (.string T')) := h.store 5 _ rfl rfl
theorem RtS.bells_ (h : RtS w0 w B G N c T t) (x : Int) : RtS w0 (w.setCell ⟨B, 11, none⟩ (.int .i64 x)) B G N c T { t with bells := x } ∧ KeepW (NotBG B G) w (w.setCell ⟨B, 11, none⟩ (.int .i64 x)) := h.store 11 _ rfl rfl
theorem RtS.waits_ (h : RtS w0 w B G N c T t) (x : Bool) : RtS w0 (w.setCell ⟨B, 10, none⟩ (.bool x)) B G N c T { t with waits := x } ∧ KeepW (NotBG B G) w (w.setCell ⟨B, 10, none⟩ (.bool x)) := h.store 10 _ rfl rfl
def setStyR (w : World) (B : Nat) (s : Sty) : World := (((w.setCell ⟨B, 6, none⟩ (.int .i64 s.1)).setCell ⟨B, 7, none⟩ (.bool s.2.1)).setCell ⟨B, 8, none⟩ (.bool s.2.2.1)).setCell ⟨B, 9, none⟩ (.bool s.2.2.2)
theorem RtS.sty_ (h : RtS w0 w B G N c T t) (s : Sty) : RtS w0 (setStyR w B s) B G N c T { t with sty := s } ∧ KeepW (NotBG B G) w (setStyR w B s) := by
  obtain ⟨a1, a2⟩ := h.store (t' := { t with sty := (s.1, t.sty.2) }) 6 (.int .i64 s.1) rfl rfl
  obtain ⟨b1, b2⟩ := a1.store (t' := { t with sty := (s.1, s.2.1, t.sty.2.2) }) 7 (.bool s.2.1) rfl rfl
  obtain ⟨c1, c2⟩ := b1.store (t' := { t with sty := (s.1, s.2.1, s.2.2.1, t.sty.2.2.2) }) 8 (.bool s.2.2.1) rfl rfl
  obtain ⟨d1, d2⟩ := c1.store (t' := { t with sty := s }) 9 (.bool s.2.2.2) rfl rfl
  exact ⟨d1, ((a2.trans b2).trans c2).trans d2⟩
/-- The frame of it, as a value. -/
theorem RtS.frame (h : RtS w0 w B G N c T t) : FrameW AnyB w (.agg #[.int .i64 t.f.rows, .int .i64 t.f.cols, .slice (some ⟨G, 0, none⟩) N c, .int .i64 t.f.row, .int .i64 t.f.col]) t.f := by
  obtain ⟨zs, hz⟩ := h.blk
  exact ⟨_, N, c, rfl, h.len.symm, h.cap, hz.slice trivial h.len h.cap⟩
/-- One method behind another one. -/
theorem rt_trans {w1 w2 : World} {G' : Nat} (h1 : KeepW (NotBG B G) w w1) (hg : G' = G ∨ w.heap.size ≤ G') (h2 : KeepW (NotBG B G') w1 w2) : KeepW (NotBG B G) w w2 :=
  ⟨h2.os.trans h1.os, h2.tape.trans h1.tape, h2.output.trans h1.output, Nat.le_trans h1.size h2.size, fun k hk hn => (h2.same k (Nat.lt_of_lt_of_le hk h1.size) ⟨hn.1, fun e => by
    rcases hg with g | g
    · exact hn.2 (e.trans g)
    · omega⟩).trans (h1.same k hk hn)⟩
theorem rt_new {w1 : World} {G' G2 : Nat} (h1 : KeepW (NotBG B G) w w1) (hg : G' = G ∨ w.heap.size ≤ G') (h2 : G2 = G' ∨ w1.heap.size ≤ G2) : G2 = G ∨ w.heap.size ≤ G2 := by
  have := h1.size
  omega
end
end Go.Proofs.YtpkjaallhhjleaaGreatDoor

/-
  Plain facts on the other reckoning of a beginning: one rune's bytes, what is made as long as a rune by the least and the greatest bytes that go on. Nothing of the program.
-/
namespace Go.Proofs.YtpkjaallhhjleaaGreatDoor
open Go.RowKit

/-- One rune's bytes, all of them. -/
def wholeB (s : ByteArray) : Bool := okAt s 0 && decide ((Utf8.decode s 0).2 = s.size)
/-- Made so long. -/
def padB (s : ByteArray) (c n : Nat) : ByteArray := s ++ ⟨(List.replicate (n - s.size) (UInt8.ofNat c)).toArray⟩
theorem pad_size (s : ByteArray) (c n : Nat) (h : s.size ≤ n) : (padB s c n).size = n := by
  unfold padB
  rw [app_size]
  show s.size + (List.replicate (n - s.size) (UInt8.ofNat c)).toArray.size = n
  simp
  omega
theorem pad_bt (s : ByteArray) (c n i : Nat) (hc : c < 256) : bt (padB s c n) i = if i < s.size then bt s i else if i < n then c else 0 := by
  unfold padB
  by_cases h : i < s.size
  · rw [if_pos h, bt_appL _ _ _ h]
  · rw [if_neg h]
    obtain ⟨k, rfl⟩ : ∃ k, i = s.size + k := ⟨i - s.size, by omega⟩
    rw [bt_appR, bt_data]
    show ((List.replicate (n - s.size) (UInt8.ofNat c)).toArray.toList.getD k 0).toNat = _
    by_cases hk : k < n - s.size
    · rw [if_pos (by omega)]
      simp [List.getD, hk]
      omega
    · rw [if_neg (by omega)]
      simp [List.getD, hk]
theorem pad_zero (s : ByteArray) (c n : Nat) (h : n ≤ s.size) : padB s c n = s := by
  unfold padB
  rw [show n - s.size = 0 by omega]
  apply ByteArray.ext
  apply Array.toList_inj.1
  rw [app_data]
  simp
theorem pad_step (s t : ByteArray) (c n : Nat) (_h : t.size < n) (ht : t = padB s c t.size) (hs : s.size ≤ t.size) : t ++ ⟨#[UInt8.ofNat c]⟩ = padB s c (t.size + 1) := by
  have e : padB s c (t.size + 1) = padB s c t.size ++ ⟨#[UInt8.ofNat c]⟩ := by
    unfold padB
    apply ByteArray.ext
    apply Array.toList_inj.1
    rw [app_data, app_data, app_data, show t.size + 1 - s.size = (t.size - s.size) + 1 by omega, List.append_assoc]
    congr 1
    show (List.replicate ((t.size - s.size) + 1) (UInt8.ofNat c)).toArray.toList = (List.replicate (t.size - s.size) (UInt8.ofNat c)).toArray.toList ++ [UInt8.ofNat c]
    rw [List.replicate_succ']
  rw [e, ← ht]

def wholeN (n b0 b1 b2 b3 : Nat) : Prop := Lib.decodeN n b0 b1 b2 b3 ≠ (65533, 1) ∧ (Lib.decodeN n b0 b1 b2 b3).2 = n
theorem whole_iff (s : ByteArray) : wholeB s = true ↔ wholeN s.size (bt s 0) (bt s 1) (bt s 2) (bt s 3) := by
  unfold wholeB wholeN okAt
  rw [dec_bt, Nat.sub_zero]
  generalize Lib.decodeN s.size (bt s 0) (bt s (0 + 1)) (bt s (0 + 2)) (bt s (0 + 3)) = d at *
  obtain ⟨d1, d2⟩ := d
  by_cases e1 : d1 = 65533 <;> by_cases e2 : d2 = 1 <;> simp [e1, e2]
theorem whole2 (b0 b1 b2 b3 : Nat) (h : 194 ≤ b0 ∧ b0 < 224) : wholeN 2 b0 b1 b2 b3 ↔ b1 / 64 = 2 := by
  unfold wholeN
  by_cases hc : b1 / 64 = 2 ∧ 128 ≤ (b0 - 192) * 64 + b1 % 64
  · rw [nat2y 2 b0 b1 b2 b3 ⟨by omega, h.2⟩ (by omega) hc.1 hc.2]
    simp [hc.1]
  · rw [nat2n 2 b0 b1 b2 b3 ⟨by omega, h.2⟩ (by omega)]
    simp
    omega
theorem whole3 (b0 b1 b2 b3 : Nat) (h : 224 ≤ b0 ∧ b0 < 240) : wholeN 3 b0 b1 b2 b3 ↔ (b1 / 64 = 2 ∧ b2 / 64 = 2 ∧ 2048 ≤ ((b0 - 224) * 64 + b1 % 64) * 64 + b2 % 64 ∧ (((b0 - 224) * 64 + b1 % 64) * 64 + b2 % 64 < 55296 ∨ 57344 ≤ ((b0 - 224) * 64 + b1 % 64) * 64 + b2 % 64)) := by
  unfold wholeN
  by_cases hc : b1 / 64 = 2 ∧ b2 / 64 = 2 ∧ 2048 ≤ ((b0 - 224) * 64 + b1 % 64) * 64 + b2 % 64 ∧ (((b0 - 224) * 64 + b1 % 64) * 64 + b2 % 64 < 55296 ∨ 57344 ≤ ((b0 - 224) * 64 + b1 % 64) * 64 + b2 % 64)
  · rw [nat3y 3 b0 b1 b2 b3 h (by omega) hc.1 hc.2.1 hc.2.2.1 hc.2.2.2]
    exact ⟨fun _ => hc, fun _ => ⟨by simp, rfl⟩⟩
  · rw [nat3n 3 b0 b1 b2 b3 h (fun k => hc k.2)]
    exact ⟨fun k => absurd rfl k.1, fun k => absurd k hc⟩
theorem whole4 (b0 b1 b2 b3 : Nat) (h : 240 ≤ b0 ∧ b0 < 248) : wholeN 4 b0 b1 b2 b3 ↔ (b1 / 64 = 2 ∧ b2 / 64 = 2 ∧ b3 / 64 = 2 ∧ 65536 ≤ (((b0 - 240) * 64 + b1 % 64) * 64 + b2 % 64) * 64 + b3 % 64 ∧ (((b0 - 240) * 64 + b1 % 64) * 64 + b2 % 64) * 64 + b3 % 64 ≤ 1114111) := by
  unfold wholeN
  by_cases hc : b1 / 64 = 2 ∧ b2 / 64 = 2 ∧ b3 / 64 = 2 ∧ 65536 ≤ (((b0 - 240) * 64 + b1 % 64) * 64 + b2 % 64) * 64 + b3 % 64 ∧ (((b0 - 240) * 64 + b1 % 64) * 64 + b2 % 64) * 64 + b3 % 64 ≤ 1114111
  · rw [nat4y 4 b0 b1 b2 b3 h (by omega) hc.1 hc.2.1 hc.2.2.1 hc.2.2.2.1 hc.2.2.2.2]
    exact ⟨fun _ => hc, fun _ => ⟨by simp, rfl⟩⟩
  · rw [nat4n 4 b0 b1 b2 b3 h (fun k => hc k.2)]
    exact ⟨fun k => absurd rfl k.1, fun k => absurd k hc⟩
def lenN (b : Nat) : Nat := if b < 224 then 2 else if b < 240 then 3 else 4
/-- The two reckonings of a beginning are one. -/
theorem beg_pad (s : ByteArray) (h0 : 194 ≤ bt s 0) (h1 : bt s 0 ≤ 244) (hs : 0 < s.size) (hn : s.size < lenN (bt s 0)) :
    (wholeB (padB s 128 (lenN (bt s 0))) = true ∨ wholeB (padB s 191 (lenN (bt s 0))) = true ∨ (2 < lenN (bt s 0) ∧ s.size = 1)) ↔ Beg s := by
  have hl1 := bt_lt s 1
  have hl2 := bt_lt s 2
  have z : ∀ c, c < 256 → bt (padB s c (lenN (bt s 0))) 0 = bt s 0 := fun c hc => by rw [pad_bt _ _ _ _ hc, if_pos hs]
  have hn2 : 2 ≤ lenN (bt s 0) := by omega
  rw [whole_iff, whole_iff, pad_size _ _ _ (by omega), pad_size _ _ _ (by omega), z 128 (by omega), z 191 (by omega)]
  rw [pad_bt _ _ _ 1 (by omega), pad_bt _ _ _ 2 (by omega), pad_bt _ _ _ 3 (by omega), pad_bt _ _ _ 1 (by omega), pad_bt _ _ _ 2 (by omega), pad_bt _ _ _ 3 (by omega)]
  unfold Beg
  generalize bt s 0 = b0 at *
  generalize bt s 1 = b1 at *
  generalize bt s 2 = b2 at *
  generalize bt s 3 = b3 at *
  generalize s.size = m at *
  by_cases a1 : b0 < 224
  · have e : lenN b0 = 2 := by unfold lenN; rw [if_pos a1]
    rw [e] at hn ⊢
    obtain rfl : m = 1 := by omega
    rw [whole2 _ _ _ _ ⟨h0, a1⟩, whole2 _ _ _ _ ⟨h0, a1⟩]
    simp
    omega
  · by_cases a2 : b0 < 240
    · have e : lenN b0 = 3 := by unfold lenN; rw [if_neg a1, if_pos a2]
      rw [e] at hn ⊢
      rw [whole3 _ _ _ _ ⟨by omega, a2⟩, whole3 _ _ _ _ ⟨by omega, a2⟩]
      by_cases m1 : m = 1
      · subst m1
        simp
        omega
      · obtain rfl : m = 2 := by omega
        simp only [Nat.lt_irrefl, if_true, if_false, show (1 : Nat) < 2 from by decide, show (2 : Nat) < 3 from by decide, show ¬ (2 : Nat) = 1 from by decide, and_false, or_false, false_and, false_or]
        unfold loB hiB
        by_cases q1 : b0 = 224
        · subst q1; simp; omega
        · by_cases q2 : b0 = 237
          · subst q2; simp; omega
          · rw [if_neg q1, if_neg q2]
            simp only [show ¬ b0 = 240 from by omega, show ¬ b0 = 244 from by omega, if_false]
            constructor
            · intro h
              rcases h with h | h <;> exact .inl ⟨trivial, by omega, by omega, by omega, by omega⟩
            · intro h
              have hq : b1 / 64 = 2 := by omega
              have h3 : b0 < 237 ∨ 238 ≤ b0 := by omega
              refine .inl ⟨hq, trivial, by omega, ?_⟩
              rcases h3 with h3 | h3
              · left; omega
              · right; omega
    · have e : lenN b0 = 4 := by unfold lenN; rw [if_neg a1, if_neg a2]
      rw [e] at hn ⊢
      rw [whole4 _ _ _ _ ⟨by omega, by omega⟩, whole4 _ _ _ _ ⟨by omega, by omega⟩]
      by_cases m1 : m = 1
      · subst m1
        simp
        omega
      · by_cases m2 : m = 2
        · subst m2
          simp
          unfold loB hiB
          by_cases q1 : b0 = 240
          · subst q1; simp; omega
          · by_cases q2 : b0 = 244
            · subst q2; simp; omega
            · simp only [show ¬ b0 = 224 from by omega, show ¬ b0 = 237 from by omega, q1, q2, if_false]
              omega
        · obtain rfl : m = 3 := by omega
          simp
          unfold loB hiB
          by_cases q1 : b0 = 240
          · subst q1; simp; omega
          · by_cases q2 : b0 = 244
            · subst q2; simp; omega
            · simp only [show ¬ b0 = 224 from by omega, show ¬ b0 = 237 from by omega, q1, q2, if_false]
              omega
theorem beg_first (s : ByteArray) (h : Beg s) : 0 < s.size ∧ 194 ≤ bt s 0 ∧ bt s 0 ≤ 244 ∧ s.size < lenN (bt s 0) := by
  unfold lenN
  rcases h with h | h | h
  all_goals
    refine ⟨by omega, by omega, by omega, ?_⟩
    repeat' split
    all_goals omega
end Go.Proofs.YtpkjaallhhjleaaGreatDoor

/-
  Plain facts: how the document's terminal erases (a blank put at both ends, then all between) is how ours does. Nothing of the program is run here.
-/
namespace Go.Proofs.YtpkjaallhhjleaaGreatDoor
open Go.RowKit

theorem setK_out {L R : List Cel} {n k i : Nat} (hl : k * n + n ≤ L.length) (hR : R.length = n) (hi : i < k * n ∨ k * n + n ≤ i) : (setK L n k R)[i]? = L[i]? := by
  unfold setK
  rcases hi with hi | hi
  · rw [List.append_assoc, List.getElem?_append_left (by rw [List.length_take]; omega), List.getElem?_take, if_pos hi]
  · rw [List.getElem?_append_right (by rw [List.length_append, List.length_take]; omega), List.getElem?_drop, List.length_append, List.length_take]
    congr 1
    omega
/-- A blank put at a place: what stands where. -/
theorem put_flat {f : Frm} {m n p : Nat} (h : OkF f m n) (hp : p < f.cells.length) :
    OkF (putF f ((p / n : Nat) : Int) ((p % n : Nat) : Int) 32 sty0) m n ∧
    ((putF f ((p / n : Nat) : Int) ((p % n : Nat) : Int) 32 sty0).row = f.row ∧ (putF f ((p / n : Nat) : Int) ((p % n : Nat) : Int) 32 sty0).col = f.col) ∧
    ∀ i, (putF f ((p / n : Nat) : Int) ((p % n : Nat) : Int) 32 sty0).cells[i]? = if i = p then some blkC else if i + 1 = p ∧ w0_ f.cells p = true then some blkC else if i = p + 1 ∧ w0_ f.cells (p + 1) = true then some blkC else f.cells[i]? := by
  have hn := h.hn
  have hL := okF_all h
  have hj : p % n < n := Nat.mod_lt _ (by omega)
  have hk : p / n < m := by rw [Nat.div_lt_iff_lt_mul (by omega), ← h.len]; exact hp
  have he : p = p / n * n + p % n := by have := Nat.div_add_mod p n; rw [Nat.mul_comm] at this; omega
  obtain ⟨k, hk'⟩ : ∃ k, p / n = k := ⟨_, rfl⟩
  obtain ⟨j, hj'⟩ : ∃ j, p % n = j := ⟨_, rfl⟩
  rw [hk', hj'] at he
  rw [hk'] at hk ⊢
  rw [hj'] at hj ⊢
  refine ⟨put_okF h _ _ _ _, put_curs h _ _ _ _, fun i => ?_⟩
  have hlen := rowK_len h.len hk
  have hc : canB f (k : Int) (j : Int) 32 sty0 = true := by
    rw [canB_iff]
    have h1 := h.rows; have h2 := h.cols
    exact ⟨by rw [of_blank]; omega, by omega, by rw [of_blank]; omega, by decide⟩
  have hcells : (putF f (k : Int) (j : Int) 32 sty0).cells = setK f.cells n k (putL (rowK f.cells n k) j 32 1 sty0) := by
    unfold putF
    rw [h.valid, hc, if_pos rfl, if_pos rfl]
    unfold layF
    rw [h.nat.2, Int.toNat_natCast, Int.toNat_natCast, of_blank]
  have hpl : (putL (rowK f.cells n k) j 32 1 sty0).length = n := by rw [put_len, hlen]
  have hroom : k * n + n ≤ f.cells.length := by rw [h.len]; exact row_room hk
  rw [hcells]
  by_cases hi : k * n ≤ i ∧ i < k * n + n
  · obtain ⟨x, rfl⟩ : ∃ x, i = k * n + x := ⟨i - k * n, by omega⟩
    have hx : x < n := by omega
    rw [setK_at h.len hk hpl hx, put_at (h.each k hk) j 32 1 sty0 (.inl rfl) (by rw [hlen]; omega) x, rowK_at, rowK_at, if_pos hj, if_pos hx, ← he]
    by_cases e1 : x = j
    · rw [if_pos e1, if_pos (by omega)]
      rfl
    rw [if_neg e1, if_neg (c := x = j + 1 ∧ 1 = 2) (by omega), if_neg (c := k * n + x = p) (by omega)]
    by_cases e2 : x + 1 = j
    · have e3 : k * n + x + 1 = p := by omega
      rw [if_neg (c := x = j + 1 ∧ _) (by omega), if_neg (c := k * n + x = p + 1 ∧ _) (by omega)]
      by_cases e4 : w0_ f.cells p = true
      · rw [if_pos ⟨e2, e4⟩, if_pos ⟨e3, e4⟩]
      · rw [if_neg (fun q => e4 q.2), if_neg (fun q => e4 q.2)]
    · rw [if_neg (c := x + 1 = j ∧ _) (fun q => e2 q.1), if_neg (c := k * n + x + 1 = p ∧ _) (by omega)]
      by_cases e5 : x = j + 1
      · have e6 : k * n + x = p + 1 := by omega
        by_cases e4 : w0_ f.cells (p + 1) = true
        · rw [if_pos ⟨e5, by rw [e6]; exact e4⟩, if_pos ⟨e6, e4⟩]
        · rw [if_neg (fun q => e4 (by have := q.2; rw [e6] at this; exact this)), if_neg (fun q => e4 q.2)]
      · rw [if_neg (fun q => e5 q.1), if_neg (by omega)]
  · rw [setK_out hroom hpl (by omega), if_neg (by omega), if_neg, if_neg]
    · rintro ⟨e, q⟩
      have e2 : p + 1 = (k + 1) * n := by rw [Nat.add_mul]; omega
      rw [e2, w0_front hL] at q
      cases q
    · rintro ⟨e, q⟩
      have e2 : p = k * n := by omega
      rw [e2, w0_front hL] at q
      cases q
/-- So it erases. -/
theorem erase_ref {f : Frm} {m n a b : Nat} (h : OkF f m n) (hab : a < b) (hb : b ≤ f.cells.length) :
    fillB (putF (putF f ((a / n : Nat) : Int) ((a % n : Nat) : Int) 32 sty0) (((b - 1) / n : Nat) : Int) (((b - 1) % n : Nat) : Int) 32 sty0).cells a b = eraseL f.cells a b := by
  obtain ⟨h1, _, P1⟩ := put_flat (p := a) h (by omega)
  have l1 : (putF f ((a / n : Nat) : Int) ((a % n : Nat) : Int) 32 sty0).cells.length = f.cells.length := by rw [h1.len, h.len]
  obtain ⟨F1, hF1⟩ : ∃ F, putF f ((a / n : Nat) : Int) ((a % n : Nat) : Int) 32 sty0 = F := ⟨_, rfl⟩
  rw [hF1] at h1 P1 l1 ⊢
  obtain ⟨h2, _, P2⟩ := put_flat (p := b - 1) h1 (by omega)
  have l2 : (putF F1 (((b - 1) / n : Nat) : Int) (((b - 1) % n : Nat) : Int) 32 sty0).cells.length = f.cells.length := by rw [h2.len, h.len]
  obtain ⟨F2, hF2⟩ : ∃ F, putF F1 (((b - 1) / n : Nat) : Int) (((b - 1) % n : Nat) : Int) 32 sty0 = F := ⟨_, rfl⟩
  rw [hF2] at h2 P2 l2 ⊢
  obtain ⟨g1, g2, g3, _, _⟩ := erase_ends (okF_all h) hab hb
  have hwa : a = b - 1 → w0_ F1.cells (b - 1) = false := fun e => by
    unfold w0_
    rw [P1, if_pos e.symm]
    rfl
  have hwb : b ≠ a + 1 → w0_ F1.cells b = w0_ f.cells b := fun e => by
    unfold w0_
    rw [P1, if_neg (by omega), if_neg (by omega), if_neg (by omega)]
  apply List.ext_getElem?
  intro i
  unfold eraseL
  rw [fill_at (by omega) (by omega), fill_at (by omega) g3, P2, P1]
  have hf : fromN f.cells a b = if w0_ f.cells a = true then a - 1 else a := by
    unfold fromN
    by_cases e : w0_ f.cells a = true
    · rw [if_pos ⟨hab, e⟩, if_pos e]
    · rw [if_neg (fun q => e q.2), if_neg e]
  have ht : toN f.cells b = if w0_ f.cells b = true then b + 1 else b := rfl
  have hb1 : b - 1 + 1 = b := by omega
  rw [hb1]
  by_cases hi : a ≤ i ∧ i < b
  · rw [if_pos hi, if_pos (by omega)]
  rw [if_neg hi, if_neg (by omega)]
  rw [if_neg (c := i + 1 = b - 1 ∧ _) (fun q => by rw [hwa (by omega)] at q; exact Bool.false_ne_true q.2)]
  by_cases e1 : i = b
  · by_cases hw : w0_ f.cells b = true
    · rw [hw, if_pos rfl] at ht
      rw [if_pos (c := fromN f.cells a b ≤ i ∧ _) (by omega)]
      by_cases e2 : b = a + 1
      · by_cases e3 : w0_ F1.cells b = true
        · rw [if_pos ⟨e1, e3⟩]
        · rw [if_neg (fun q => e3 q.2), if_neg (by omega), if_neg (by omega), if_pos ⟨by omega, by rw [← e2]; exact hw⟩]
      · rw [if_pos ⟨e1, by rw [hwb e2]; exact hw⟩]
    · rw [if_neg hw] at ht
      have hF : ¬ w0_ F1.cells b = true := fun q => by
        by_cases e2 : b = a + 1
        · have : w0_ F1.cells b = w0_ f.cells b := by
            unfold w0_
            rw [P1, if_neg (by omega), if_neg (by omega), if_neg (fun q => hw (by rw [e2]; exact q.2))]
          rw [this] at q
          exact hw q
        · rw [hwb e2] at q
          exact hw q
      rw [if_neg (c := i = b ∧ _) (fun q => hF q.2), if_neg (c := i = a) (by omega), if_neg (c := i + 1 = a ∧ _) (by omega), if_neg (c := i = a + 1 ∧ _) (fun q => hw (by rw [show b = a + 1 by omega]; exact q.2)), if_neg (c := fromN f.cells a b ≤ i ∧ _) (by omega)]
  · rw [if_neg (c := i = b ∧ _) (fun q => e1 q.1), if_neg (by omega : ¬ i = a)]
    rw [if_neg (c := i = a + 1 ∧ _) (fun q => by omega)]
    by_cases hw : w0_ f.cells a = true
    · rw [hw, if_pos rfl] at hf
      have ha0 : 0 < a := by
        rcases Nat.eq_zero_or_pos a with e | e
        · have := w0_front (k := 0) (okF_all h)
          rw [Nat.zero_mul, ← e, hw] at this
          cases this
        · exact e
      by_cases e2 : i + 1 = a
      · rw [if_pos ⟨e2, hw⟩, if_pos (by omega)]
      · rw [if_neg (fun q => e2 q.1), if_neg]
        split at ht <;> omega
    · rw [if_neg hw] at hf
      rw [if_neg (fun q => hw q.2), if_neg]
      split at ht <;> omega
/-- Rows erased in parts, as ours does, or at once. -/
theorem rows_zero {f : Frm} {m n : Nat} (h : OkF f m n) : (rowE (rowsE f 0) 0).cells = eraseL f.cells (f.row.toNat * n + f.col.toNat) f.cells.length := by
  have hn := h.hn
  have hL := okF_all h
  obtain ⟨r, hr⟩ : ∃ r, f.row.toNat = r := ⟨_, rfl⟩
  obtain ⟨c, hc⟩ : ∃ c, f.col.toNat = c := ⟨_, rfl⟩
  have hrm : r < m := by have := h.row; omega
  have hcn : c < n := by have := h.col; omega
  have hroom : r * n + n ≤ f.cells.length := by rw [h.len]; exact row_room hrm
  have e1 : (r + 1) * n = r * n + n := by rw [Nat.add_mul, Nat.one_mul]
  have f1 : fromN f.cells (r * n + n) f.cells.length = r * n + n := by
    unfold fromN
    rw [← e1, w0_front hL, if_neg (by simp)]
  have f2 : toN f.cells f.cells.length = f.cells.length := by
    unfold toN
    rw [w0_out (Nat.le_refl _), if_neg (by decide)]
  have hM : (rowsE f 0).cells = fillB f.cells (r * n + n) f.cells.length := by
    unfold rowsE
    dsimp only
    rw [hr, h.nat.2, if_neg (c := 0 = 1 ∨ 0 = 2) (by decide), if_pos (c := 0 = 0 ∨ 0 = 2) (.inl rfl), e1]
    unfold eraseL
    rw [f1, f2]
  have hX : (rowE (rowsE f 0) 0).cells = eraseL (rowsE f 0).cells (r * n + c) (r * n + n) := by
    unfold rowE
    dsimp only
    rw [show (rowsE f 0).row = f.row from rfl, show (rowsE f 0).col = f.col from rfl, show (rowsE f 0).cols = f.cols from rfl, h.nat.2, hr, hc, if_pos rfl]
  rw [hX, hM, hr, hc]
  obtain ⟨M, hM2⟩ : ∃ M, fillB f.cells (r * n + n) f.cells.length = M := ⟨_, rfl⟩
  have hat : ∀ i, M[i]? = if r * n + n ≤ i ∧ i < f.cells.length then some blkC else f.cells[i]? := fun i => by rw [← hM2, fill_at hroom (Nat.le_refl _)]
  have hMl : M.length = f.cells.length := by rw [← hM2]; exact fillLen hroom (Nat.le_refl _)
  rw [hM2]
  have g1 : fromN M (r * n + c) (r * n + n) = fromN f.cells (r * n + c) f.cells.length := by
    unfold fromN
    have e : w0_ M (r * n + c) = w0_ f.cells (r * n + c) := by
      unfold w0_
      rw [hat, if_neg (by omega)]
    rw [e]
    by_cases hw : w0_ f.cells (r * n + c) = true
    · rw [if_pos ⟨by omega, hw⟩, if_pos ⟨by omega, hw⟩]
    · rw [if_neg (fun q => hw q.2), if_neg (fun q => hw q.2)]
  have g2 : toN M (r * n + n) = r * n + n := by
    unfold toN
    rw [if_neg]
    intro q
    unfold w0_ at q
    rw [hat] at q
    by_cases hlt : r * n + n < f.cells.length
    · rw [if_pos ⟨Nat.le_refl _, hlt⟩] at q
      cases q
    · rw [if_neg (by omega), List.getElem?_eq_none (by omega)] at q
      cases q
  have hfle : fromN f.cells (r * n + c) f.cells.length ≤ r * n + c := by unfold fromN; split <;> omega
  apply List.ext_getElem?
  intro i
  unfold eraseL
  rw [g1, g2, f2, fill_at (by omega) (by omega), fill_at (by omega) (Nat.le_refl _), hat]
  by_cases h1 : fromN f.cells (r * n + c) f.cells.length ≤ i ∧ i < r * n + n
  · rw [if_pos h1, if_pos (by omega)]
  · rw [if_neg h1]
    by_cases h2 : r * n + n ≤ i ∧ i < f.cells.length
    · rw [if_pos h2, if_pos (by omega)]
    · rw [if_neg h2, if_neg (by omega)]
theorem rows_one {f : Frm} {m n : Nat} (h : OkF f m n) : (rowE (rowsE f 1) 1).cells = eraseL f.cells 0 (f.row.toNat * n + f.col.toNat + 1) := by
  have hn := h.hn
  have hL := okF_all h
  obtain ⟨r, hr⟩ : ∃ r, f.row.toNat = r := ⟨_, rfl⟩
  obtain ⟨c, hc⟩ : ∃ c, f.col.toNat = c := ⟨_, rfl⟩
  have hrm : r < m := by have := h.row; omega
  have hcn : c < n := by have := h.col; omega
  have hroom : r * n + n ≤ f.cells.length := by rw [h.len]; exact row_room hrm
  have z0 : w0_ f.cells 0 = false := by have := w0_front (k := 0) hL; rwa [Nat.zero_mul] at this
  have zr : w0_ f.cells (r * n) = false := w0_front hL
  have f0 : ∀ b, fromN f.cells 0 b = 0 := fun b => by unfold fromN; rw [z0, if_neg (by simp)]
  have f1 : toN f.cells (r * n) = r * n := by unfold toN; rw [zr, if_neg (by decide)]
  have hM : (rowsE f 1).cells = fillB f.cells 0 (r * n) := by
    unfold rowsE
    dsimp only
    rw [hr, h.nat.2, if_pos (c := 1 = 1 ∨ 1 = 2) (.inl rfl), if_neg (c := 1 = 0 ∨ 1 = 2) (by decide)]
    unfold eraseL
    rw [f0, f1]
  have hX : (rowE (rowsE f 1) 1).cells = eraseL (rowsE f 1).cells (r * n) (r * n + c + 1) := by
    unfold rowE
    dsimp only
    rw [show (rowsE f 1).row = f.row from rfl, show (rowsE f 1).col = f.col from rfl, show (rowsE f 1).cols = f.cols from rfl, h.nat.2, hr, hc, if_neg (by decide), if_pos rfl]
  rw [hX, hM, hr, hc]
  obtain ⟨M, hM2⟩ : ∃ M, fillB f.cells 0 (r * n) = M := ⟨_, rfl⟩
  have hat : ∀ i, M[i]? = if 0 ≤ i ∧ i < r * n then some blkC else f.cells[i]? := fun i => by rw [← hM2, fill_at (Nat.zero_le _) (by omega)]
  have hMl : M.length = f.cells.length := by rw [← hM2]; exact fillLen (Nat.zero_le _) (by omega)
  rw [hM2]
  have hw : ∀ i, r * n ≤ i → w0_ M i = w0_ f.cells i := fun i hi => by unfold w0_; rw [hat, if_neg (by omega)]
  have g1 : fromN M (r * n) (r * n + c + 1) = r * n := by
    unfold fromN
    rw [hw _ (Nat.le_refl _), zr, if_neg (by simp)]
  have g2 : toN M (r * n + c + 1) = toN f.cells (r * n + c + 1) := by
    unfold toN
    rw [hw _ (by omega)]
  obtain ⟨_, g3, g4, _, _⟩ := erase_ends (a := 0) (b := r * n + c + 1) hL (by omega) (by omega)
  apply List.ext_getElem?
  intro i
  unfold eraseL
  rw [g1, g2, f0, fill_at (by omega) (by omega), fill_at (by omega) g4, hat]
  by_cases h1 : r * n ≤ i ∧ i < toN f.cells (r * n + c + 1)
  · rw [if_pos h1, if_pos (by omega)]
  · rw [if_neg h1]
    by_cases h2 : 0 ≤ i ∧ i < r * n
    · rw [if_pos h2, if_pos (by omega)]
    · rw [if_neg h2, if_neg (by omega)]
theorem rows_two {f : Frm} {m n : Nat} (h : OkF f m n) : (rowE (rowsE f 2) 2).cells = eraseL f.cells 0 f.cells.length := by
  have hn := h.hn
  have hL := okF_all h
  obtain ⟨r, hr⟩ : ∃ r, f.row.toNat = r := ⟨_, rfl⟩
  have hrm : r < m := by have := h.row; omega
  have hroom : r * n + n ≤ f.cells.length := by rw [h.len]; exact row_room hrm
  have e1 : (r + 1) * n = r * n + n := by rw [Nat.add_mul, Nat.one_mul]
  have z0 : w0_ f.cells 0 = false := by have := w0_front (k := 0) hL; rwa [Nat.zero_mul] at this
  have zr : w0_ f.cells (r * n) = false := w0_front hL
  have zn : w0_ f.cells (r * n + n) = false := by rw [← e1]; exact w0_front hL
  have f2 : toN f.cells f.cells.length = f.cells.length := by
    unfold toN
    rw [w0_out (Nat.le_refl _), if_neg (by decide)]
  obtain ⟨L1, hL1⟩ : ∃ L1, eraseL f.cells (r * n + n) f.cells.length = L1 := ⟨_, rfl⟩
  have a1 : ∀ i, L1[i]? = if r * n + n ≤ i ∧ i < f.cells.length then some blkC else f.cells[i]? := fun i => by
    have e : fromN f.cells (r * n + n) f.cells.length = r * n + n := by unfold fromN; rw [zn, if_neg (by simp)]
    rw [← hL1]
    unfold eraseL
    rw [e, f2, fill_at hroom (Nat.le_refl _)]
  have l1 : L1.length = f.cells.length := by
    have e : fromN f.cells (r * n + n) f.cells.length = r * n + n := by unfold fromN; rw [zn, if_neg (by simp)]
    rw [← hL1]
    unfold eraseL
    rw [e, f2, fillLen hroom (Nat.le_refl _)]
  have w1 : ∀ i, i < r * n + n → w0_ L1 i = w0_ f.cells i := fun i hi => by unfold w0_; rw [a1, if_neg (by omega)]
  obtain ⟨L2, hL2⟩ : ∃ L2, eraseL L1 0 (r * n) = L2 := ⟨_, rfl⟩
  have e2 : eraseL L1 0 (r * n) = fillB L1 0 (r * n) := by
    unfold eraseL fromN toN
    rw [w1 _ (by omega), w1 _ (by omega), z0, zr, if_neg (by simp), if_neg (by decide)]
  have a2 : ∀ i, L2[i]? = if 0 ≤ i ∧ i < r * n then some blkC else L1[i]? := fun i => by rw [← hL2, e2, fill_at (Nat.zero_le _) (by omega)]
  have l2 : L2.length = f.cells.length := by rw [← hL2, e2, fillLen (Nat.zero_le _) (by omega), l1]
  have hM : (rowsE f 2).cells = L2 := by
    unfold rowsE
    dsimp only
    rw [hr, h.nat.2, if_pos (.inr rfl), if_pos (.inr rfl), e1, hL1, hL2]
  have hX : (rowE (rowsE f 2) 2).cells = eraseL (rowsE f 2).cells (r * n) (r * n + n) := by
    unfold rowE
    dsimp only
    rw [show (rowsE f 2).row = f.row from rfl, show (rowsE f 2).cols = f.cols from rfl, h.nat.2, hr, if_neg (by decide), if_neg (by decide), if_pos rfl]
  rw [hX, hM]
  have g1 : fromN L2 (r * n) (r * n + n) = r * n := by
    have e : w0_ L2 (r * n) = false := by
      have : w0_ L2 (r * n) = w0_ f.cells (r * n) := by
        rw [← w1 _ (by omega)]
        unfold w0_
        rw [a2, if_neg (by omega)]
      rw [this, zr]
    unfold fromN
    rw [e, if_neg (by simp)]
  have g2 : toN L2 (r * n + n) = r * n + n := by
    unfold toN
    rw [if_neg]
    intro q
    unfold w0_ at q
    rw [a2, if_neg (by omega), a1] at q
    by_cases hlt : r * n + n < f.cells.length
    · rw [if_pos ⟨Nat.le_refl _, hlt⟩] at q
      cases q
    · rw [if_neg (by omega), List.getElem?_eq_none (by omega)] at q
      cases q
  have g3 : fromN f.cells 0 f.cells.length = 0 := by unfold fromN; rw [z0, if_neg (by simp)]
  apply List.ext_getElem?
  intro i
  unfold eraseL
  rw [g1, g2, g3, f2, fill_at (by omega) (by omega), fill_at (Nat.zero_le _) (Nat.le_refl _), a2, a1]
  by_cases h1 : r * n ≤ i ∧ i < r * n + n
  · rw [if_pos h1, if_pos (by omega)]
  · rw [if_neg h1]
    by_cases h2 : 0 ≤ i ∧ i < r * n
    · rw [if_pos h2, if_pos (by omega)]
    · rw [if_neg h2]
      by_cases h3 : r * n + n ≤ i ∧ i < f.cells.length
      · rw [if_pos h3, if_pos (by omega)]
      · rw [if_neg h3, if_neg (by omega)]
theorem rows_else (f : Frm) (n : Nat) (h : 2 < n) : rowE (rowsE f n) n = f := by
  unfold rowE rowsE
  dsimp only
  rw [if_neg (c := n = 0 ∨ n = 2) (by omega), if_neg (c := n = 1 ∨ n = 2) (by omega), if_neg (c := n = 0) (by omega), if_neg (c := n = 1) (by omega), if_neg (c := n = 2) (by omega)]
/-- The document's words for a wrap, and for where it waits. -/
theorem wrap_ref {f : Frm} {m n : Nat} (h : OkF f m n) (r : Int) : (f.cols < f.col + (ofN r : Int)) ↔ (ofN r : Int) = 2 ∧ f.col + 1 = f.cols := by
  have h1 := h.cols
  have h2 := h.col
  have h3 := ofN_le r
  omega
theorem show_end {f : Frm} {m n : Nat} (h : OkF f m n) (w : Int) (h0 : 0 ≤ w) (h1 : f.col + w ≤ f.cols) : decide (f.cols ≤ f.col + w) = decide (f.col + w = f.cols) ∧ goF f f.row (f.col + w) = { f with col := min (f.col + w) (f.cols - 1) } := by
  have h2 := h.col
  have h3 := h.row
  have h4 := h.rows
  refine ⟨decide_eq_decide.2 (by omega), ?_⟩
  unfold goF
  rw [show min (max 0 f.row) (f.rows - 1) = f.row by omega, show max 0 (f.col + w) = f.col + w by omega]
end Go.Proofs.YtpkjaallhhjleaaGreatDoor

/-
  term: erase: what it leaves of the cells.
-/
namespace Go.Proofs.YtpkjaallhhjleaaGreatDoor
open Go.RowKit

/-- The blank that the terminal keeps. -/
def TBlankW (w : World) : Prop := 5 < w.heap.size ∧ cell6 w 5 0 blkC
theorem TBlankW.below {w w' : World} (h : TBlankW w) (hb : Below w.heap.size w w') : TBlankW w' := ⟨Nat.lt_of_lt_of_le h.1 hb.size, h.2.below hb h.1⟩
theorem fill_step' {L : List Cel} {a i : Nat} (hi : i < L.length) (ha : a ≤ i) : (fillB L a i).set i blkC = fillB L a (i + 1) := by
  apply List.ext_getElem?
  intro j
  rw [List.getElem?_set, fillLen ha (by omega), fill_at ha (by omega), fill_at (by omega) (by omega)]
  by_cases e : i = j
  · subst e
    rw [if_pos rfl, if_pos hi, if_pos (by omega)]
  · rw [if_neg e]
    by_cases h : a ≤ j ∧ j < i
    · rw [if_pos h, if_pos (by omega)]
    · rw [if_neg h, if_neg (by omega)]

section
variable {w0 : World} {B G N cap : Nat} {t : Tm}

set_option maxRecDepth 20000 in
set_option maxHeartbeats 4000000 in
theorem erase_ww (a b : Nat) (c : Cel) (d : Cel) (w : World) (h : TmS w0 w B G N cap t) (hL : TBlankW w0) (hab : a < b) (hc : t.f.cells[a]? = some c) (hc0 : c.2.1 = 0) (ha0 : 0 < a) (hbN : b < N) (hd : t.f.cells[b]? = some d) (hd0 : d.2.1 = 0) (hN : N ≤ 20000) :
    Calls Tryz.prog 116 #[.pointer (some ⟨B, 0, none⟩), .int .i64 (a : Int), .int .i64 (b : Int)] w (TmD w0 w B G N cap { t with f := { t.f with cells := fillB t.f.cells (a - 1) (b + 1) } }) := by
  obtain ⟨⟨_, _, x2, _, _⟩, _, _, _⟩ := h.box.cells
  obtain ⟨b0, b1, b2, b3, b4, b5⟩ := hL.2.below h.below hL.1
  simp only [blkC, Nat.zero_add] at b0 b1 b2 b3 b4 b5
  obtain ⟨_, p1, _⟩ : cell6 w G (a * 6) c := by obtain ⟨zs, hz⟩ := h.blk; exact hz.cells hc
  obtain ⟨_, q1, _⟩ : cell6 w G (b * 6) d := by obtain ⟨zs, hz⟩ := h.blk; exact hz.cells hd
  have e1 : (c.2.1 == 0) = true := by rw [beq_iff_eq]; exact hc0
  have e2 : (d.2.1 == 0) = true := by rw [beq_iff_eq]; exact hd0
  have hbN2 : b ≤ N := by omega
  have k1 : (a : Int) < (b : Int) := by omega
  have k2 : (b : Int) < (N : Int) := by omega
  have HL : Hid (t.f.cells.length = N) := h.len
  have HA : Hid (∃ A, A = a - 1 ∧ ((A : Nat) : Int) = (a : Int) - 1) := ⟨_, rfl, by omega⟩
  obtain ⟨A, hA, hA2⟩ := HA.out
  rw [← hA]
  have HB : Hid (∃ D, D = b + 1 ∧ ((D : Nat) : Int) = (b : Int) + 1) := ⟨_, rfl, by omega⟩
  obtain ⟨D, hD, hD2⟩ := HB.out
  rw [← hD]
  have hAD : A ≤ D := by omega
  have hDN : D ≤ N := by omega
  have HA2 := Lib.hid hA2
  clear hA hA2 HA
  have HD2 := Lib.hid hD2
  clear hD hD2 HB
  have HT : Hid (∀ i wr, i < D → A ≤ i → TmS w0 wr B G N cap { t with f := { t.f with cells := fillB t.f.cells A i } } → KeepW (NotBG B G) w wr →
      (∃ e, cell6 wr G (i * 6) e) ∧ cell6 wr 5 0 blkC ∧ (∀ p, wr.frozen? ⟨G, p, none⟩ = false) ∧ TmS w0 (set6 wr G (i * 6) blkC) B G N cap { t with f := { t.f with cells := fillB t.f.cells A (i + 1) } } ∧ KeepW (NotBG B G) w (set6 wr G (i * 6) blkC)) := fun i wr hi hAi hS hK => by
    obtain ⟨zs, hz⟩ := hS.blk
    have hz : blkL wr G (fillB t.f.cells A i) zs := hz
    have hl := h.len
    have hfl : (fillB t.f.cells A i).length = N := by rw [fillLen hAi (by omega)]; exact hl
    have hst := hz.set i blkC (by omega)
    rw [fill_step' (by omega) hAi] at hst
    have hk6 := set6_keep (ok := fun k => k ≠ G) wr G (i * 6) blkC (fun k => k rfl)
    exact ⟨⟨_, hz.cells (List.getElem?_eq_getElem (by omega))⟩, hL.2.below hS.below hL.1, hz.frozen, hS.celled hk6 hst (by rw [fillLen (by omega) (by omega)]; exact hl), hK.trans (hk6.mono fun k _ hk => hk.2)⟩
  have H0 : Hid (TmS w0 w B G N cap { t with f := { t.f with cells := fillB t.f.cells A A } } ∧ KeepW (NotBG B G) w w) := by
    rw [fill_none]
    exact ⟨h, KeepW.refl _ _⟩
  clear h hL HL hc hd
  go_enter Tryz.func116, Tryz.ntmps116
  go_wp2_with fail
  go_loopw [7] (fun s7 wr => ∃ i : Nat, s7 = .int .i64 (i : Int) ∧ A ≤ i ∧ i ≤ D ∧ Hid (TmS w0 wr B G N cap { t with f := { t.f with cells := fillB t.f.cells A i } } ∧ KeepW (NotBG B G) w wr)) (fun s7 _ => D - (intOf s7).toNat)
  case atStart => exact ⟨A, by rw [HA2.out], Nat.le_refl _, hAD, H0⟩
  case round =>
    obtain ⟨i, rfl, hAi, hiD, HI⟩ := hrel
    rcases Nat.lt_or_ge i D with hlt | hge
    · obtain ⟨⟨e, HE⟩, HBk, hfz, HS, HK⟩ := HT.out i wr hlt hAi HI.out.1 HI.out.2
      obtain ⟨g0, g1, g2, g3, g4, g5⟩ := HE
      obtain ⟨y0, y1, y2, y3, y4, y5⟩ := HBk
      simp only [blkC, Nat.zero_add] at y0 y1 y2 y3 y4 y5
      have z0 := hfz (i * 6)
      have z1 := hfz (i * 6 + 1)
      have z2 := hfz (i * 6 + 2)
      have z3 := hfz (i * 6 + 3)
      have z4 := hfz (i * 6 + 4)
      have z5 := hfz (i * 6 + 5)
      have HX := Lib.hid (And.intro HS HK)
      have hlG := HI.out.1.gt
      have j0 : (i : Int) < (b : Int) + 1 := by have := HD2.out; omega
      have j1 : (i : Int) < (N : Int) := by omega
      have j2 : (0 : Int) ≤ (i : Int) := by omega
      clear HI HT hfz HS HK
      go_wp2_with fail
      refine ⟨⟨i + 1, by rw [Int.natCast_add]; rfl, by omega, by omega, HX⟩, ?_⟩
      simp only [intOf]
      omega
    · have j0 : ¬ (i : Int) < (b : Int) + 1 := by have := HD2.out; omega
      obtain rfl : i = D := by omega
      go_wp2_with fail
      go_end0
      exact ⟨rfl, HI.out.1, HI.out.2⟩

set_option maxRecDepth 20000 in
set_option maxHeartbeats 4000000 in
theorem erase_wn (a b : Nat) (c : Cel) (d : Cel) (w : World) (h : TmS w0 w B G N cap t) (hL : TBlankW w0) (hab : a < b) (hc : t.f.cells[a]? = some c) (hc0 : c.2.1 = 0) (ha0 : 0 < a) (hbN : b < N) (hd : t.f.cells[b]? = some d) (hd0 : d.2.1 ≠ 0) (hN : N ≤ 20000) :
    Calls Tryz.prog 116 #[.pointer (some ⟨B, 0, none⟩), .int .i64 (a : Int), .int .i64 (b : Int)] w (TmD w0 w B G N cap { t with f := { t.f with cells := fillB t.f.cells (a - 1) (b) } }) := by
  obtain ⟨⟨_, _, x2, _, _⟩, _, _, _⟩ := h.box.cells
  obtain ⟨b0, b1, b2, b3, b4, b5⟩ := hL.2.below h.below hL.1
  simp only [blkC, Nat.zero_add] at b0 b1 b2 b3 b4 b5
  obtain ⟨_, p1, _⟩ : cell6 w G (a * 6) c := by obtain ⟨zs, hz⟩ := h.blk; exact hz.cells hc
  obtain ⟨_, q1, _⟩ : cell6 w G (b * 6) d := by obtain ⟨zs, hz⟩ := h.blk; exact hz.cells hd
  have e1 : (c.2.1 == 0) = true := by rw [beq_iff_eq]; exact hc0
  have e2 : (d.2.1 == 0) = false := by rw [beq_eq_false_iff_ne]; exact hd0
  have hbN2 : b ≤ N := by omega
  have k1 : (a : Int) < (b : Int) := by omega
  have k2 : (b : Int) < (N : Int) := by omega
  have HL : Hid (t.f.cells.length = N) := h.len
  have HA : Hid (∃ A, A = a - 1 ∧ ((A : Nat) : Int) = (a : Int) - 1) := ⟨_, rfl, by omega⟩
  obtain ⟨A, hA, hA2⟩ := HA.out
  rw [← hA]
  have hAD : A ≤ b := by omega
  have hDN : b ≤ N := by omega
  have HA2 := Lib.hid hA2
  clear hA hA2 HA
  have HT : Hid (∀ i wr, i < b → A ≤ i → TmS w0 wr B G N cap { t with f := { t.f with cells := fillB t.f.cells A i } } → KeepW (NotBG B G) w wr →
      (∃ e, cell6 wr G (i * 6) e) ∧ cell6 wr 5 0 blkC ∧ (∀ p, wr.frozen? ⟨G, p, none⟩ = false) ∧ TmS w0 (set6 wr G (i * 6) blkC) B G N cap { t with f := { t.f with cells := fillB t.f.cells A (i + 1) } } ∧ KeepW (NotBG B G) w (set6 wr G (i * 6) blkC)) := fun i wr hi hAi hS hK => by
    obtain ⟨zs, hz⟩ := hS.blk
    have hz : blkL wr G (fillB t.f.cells A i) zs := hz
    have hl := h.len
    have hfl : (fillB t.f.cells A i).length = N := by rw [fillLen hAi (by omega)]; exact hl
    have hst := hz.set i blkC (by omega)
    rw [fill_step' (by omega) hAi] at hst
    have hk6 := set6_keep (ok := fun k => k ≠ G) wr G (i * 6) blkC (fun k => k rfl)
    exact ⟨⟨_, hz.cells (List.getElem?_eq_getElem (by omega))⟩, hL.2.below hS.below hL.1, hz.frozen, hS.celled hk6 hst (by rw [fillLen (by omega) (by omega)]; exact hl), hK.trans (hk6.mono fun k _ hk => hk.2)⟩
  have H0 : Hid (TmS w0 w B G N cap { t with f := { t.f with cells := fillB t.f.cells A A } } ∧ KeepW (NotBG B G) w w) := by
    rw [fill_none]
    exact ⟨h, KeepW.refl _ _⟩
  clear h hL HL hc hd
  go_enter Tryz.func116, Tryz.ntmps116
  go_wp2_with fail
  go_loopw [7] (fun s7 wr => ∃ i : Nat, s7 = .int .i64 (i : Int) ∧ A ≤ i ∧ i ≤ b ∧ Hid (TmS w0 wr B G N cap { t with f := { t.f with cells := fillB t.f.cells A i } } ∧ KeepW (NotBG B G) w wr)) (fun s7 _ => b - (intOf s7).toNat)
  case atStart => exact ⟨A, by rw [HA2.out], Nat.le_refl _, hAD, H0⟩
  case round =>
    obtain ⟨i, rfl, hAi, hiD, HI⟩ := hrel
    rcases Nat.lt_or_ge i b with hlt | hge
    · obtain ⟨⟨e, HE⟩, HBk, hfz, HS, HK⟩ := HT.out i wr hlt hAi HI.out.1 HI.out.2
      obtain ⟨g0, g1, g2, g3, g4, g5⟩ := HE
      obtain ⟨y0, y1, y2, y3, y4, y5⟩ := HBk
      simp only [blkC, Nat.zero_add] at y0 y1 y2 y3 y4 y5
      have z0 := hfz (i * 6)
      have z1 := hfz (i * 6 + 1)
      have z2 := hfz (i * 6 + 2)
      have z3 := hfz (i * 6 + 3)
      have z4 := hfz (i * 6 + 4)
      have z5 := hfz (i * 6 + 5)
      have HX := Lib.hid (And.intro HS HK)
      have hlG := HI.out.1.gt
      have j0 : (i : Int) < (b : Int) := by omega
      have j1 : (i : Int) < (N : Int) := by omega
      have j2 : (0 : Int) ≤ (i : Int) := by omega
      clear HI HT hfz HS HK
      go_wp2_with fail
      refine ⟨⟨i + 1, by rw [Int.natCast_add]; rfl, by omega, by omega, HX⟩, ?_⟩
      simp only [intOf]
      omega
    · have j0 : ¬ (i : Int) < (b : Int) := by omega
      obtain rfl : i = b := by omega
      go_wp2_with fail
      go_end0
      exact ⟨rfl, HI.out.1, HI.out.2⟩

set_option maxRecDepth 20000 in
set_option maxHeartbeats 4000000 in
theorem erase_wx (a b : Nat) (c : Cel) (w : World) (h : TmS w0 w B G N cap t) (hL : TBlankW w0) (hab : a < b) (hc : t.f.cells[a]? = some c) (hc0 : c.2.1 = 0) (ha0 : 0 < a) (hbN : b ≤ N) (hNb : N ≤ b) (hN : N ≤ 20000) :
    Calls Tryz.prog 116 #[.pointer (some ⟨B, 0, none⟩), .int .i64 (a : Int), .int .i64 (b : Int)] w (TmD w0 w B G N cap { t with f := { t.f with cells := fillB t.f.cells (a - 1) (b) } }) := by
  obtain ⟨⟨_, _, x2, _, _⟩, _, _, _⟩ := h.box.cells
  obtain ⟨b0, b1, b2, b3, b4, b5⟩ := hL.2.below h.below hL.1
  simp only [blkC, Nat.zero_add] at b0 b1 b2 b3 b4 b5
  obtain ⟨_, p1, _⟩ : cell6 w G (a * 6) c := by obtain ⟨zs, hz⟩ := h.blk; exact hz.cells hc
  have e1 : (c.2.1 == 0) = true := by rw [beq_iff_eq]; exact hc0
  have hbN2 : b ≤ N := by omega
  have k1 : (a : Int) < (b : Int) := by omega
  have k2 : ¬ (b : Int) < (N : Int) := by omega
  have HL : Hid (t.f.cells.length = N) := h.len
  have HA : Hid (∃ A, A = a - 1 ∧ ((A : Nat) : Int) = (a : Int) - 1) := ⟨_, rfl, by omega⟩
  obtain ⟨A, hA, hA2⟩ := HA.out
  rw [← hA]
  have hAD : A ≤ b := by omega
  have hDN : b ≤ N := by omega
  have HA2 := Lib.hid hA2
  clear hA hA2 HA
  have HT : Hid (∀ i wr, i < b → A ≤ i → TmS w0 wr B G N cap { t with f := { t.f with cells := fillB t.f.cells A i } } → KeepW (NotBG B G) w wr →
      (∃ e, cell6 wr G (i * 6) e) ∧ cell6 wr 5 0 blkC ∧ (∀ p, wr.frozen? ⟨G, p, none⟩ = false) ∧ TmS w0 (set6 wr G (i * 6) blkC) B G N cap { t with f := { t.f with cells := fillB t.f.cells A (i + 1) } } ∧ KeepW (NotBG B G) w (set6 wr G (i * 6) blkC)) := fun i wr hi hAi hS hK => by
    obtain ⟨zs, hz⟩ := hS.blk
    have hz : blkL wr G (fillB t.f.cells A i) zs := hz
    have hl := h.len
    have hfl : (fillB t.f.cells A i).length = N := by rw [fillLen hAi (by omega)]; exact hl
    have hst := hz.set i blkC (by omega)
    rw [fill_step' (by omega) hAi] at hst
    have hk6 := set6_keep (ok := fun k => k ≠ G) wr G (i * 6) blkC (fun k => k rfl)
    exact ⟨⟨_, hz.cells (List.getElem?_eq_getElem (by omega))⟩, hL.2.below hS.below hL.1, hz.frozen, hS.celled hk6 hst (by rw [fillLen (by omega) (by omega)]; exact hl), hK.trans (hk6.mono fun k _ hk => hk.2)⟩
  have H0 : Hid (TmS w0 w B G N cap { t with f := { t.f with cells := fillB t.f.cells A A } } ∧ KeepW (NotBG B G) w w) := by
    rw [fill_none]
    exact ⟨h, KeepW.refl _ _⟩
  clear h hL HL hc
  go_enter Tryz.func116, Tryz.ntmps116
  go_wp2_with fail
  go_loopw [7] (fun s7 wr => ∃ i : Nat, s7 = .int .i64 (i : Int) ∧ A ≤ i ∧ i ≤ b ∧ Hid (TmS w0 wr B G N cap { t with f := { t.f with cells := fillB t.f.cells A i } } ∧ KeepW (NotBG B G) w wr)) (fun s7 _ => b - (intOf s7).toNat)
  case atStart => exact ⟨A, by rw [HA2.out], Nat.le_refl _, hAD, H0⟩
  case round =>
    obtain ⟨i, rfl, hAi, hiD, HI⟩ := hrel
    rcases Nat.lt_or_ge i b with hlt | hge
    · obtain ⟨⟨e, HE⟩, HBk, hfz, HS, HK⟩ := HT.out i wr hlt hAi HI.out.1 HI.out.2
      obtain ⟨g0, g1, g2, g3, g4, g5⟩ := HE
      obtain ⟨y0, y1, y2, y3, y4, y5⟩ := HBk
      simp only [blkC, Nat.zero_add] at y0 y1 y2 y3 y4 y5
      have z0 := hfz (i * 6)
      have z1 := hfz (i * 6 + 1)
      have z2 := hfz (i * 6 + 2)
      have z3 := hfz (i * 6 + 3)
      have z4 := hfz (i * 6 + 4)
      have z5 := hfz (i * 6 + 5)
      have HX := Lib.hid (And.intro HS HK)
      have hlG := HI.out.1.gt
      have j0 : (i : Int) < (b : Int) := by omega
      have j1 : (i : Int) < (N : Int) := by omega
      have j2 : (0 : Int) ≤ (i : Int) := by omega
      clear HI HT hfz HS HK
      go_wp2_with fail
      refine ⟨⟨i + 1, by rw [Int.natCast_add]; rfl, by omega, by omega, HX⟩, ?_⟩
      simp only [intOf]
      omega
    · have j0 : ¬ (i : Int) < (b : Int) := by omega
      obtain rfl : i = b := by omega
      go_wp2_with fail
      go_end0
      exact ⟨rfl, HI.out.1, HI.out.2⟩

set_option maxRecDepth 20000 in
set_option maxHeartbeats 4000000 in
theorem erase_nw (a b : Nat) (c : Cel) (d : Cel) (w : World) (h : TmS w0 w B G N cap t) (hL : TBlankW w0) (hab : a < b) (hc : t.f.cells[a]? = some c) (hc0 : c.2.1 ≠ 0) (hbN : b < N) (hd : t.f.cells[b]? = some d) (hd0 : d.2.1 = 0) (hN : N ≤ 20000) :
    Calls Tryz.prog 116 #[.pointer (some ⟨B, 0, none⟩), .int .i64 (a : Int), .int .i64 (b : Int)] w (TmD w0 w B G N cap { t with f := { t.f with cells := fillB t.f.cells (a) (b + 1) } }) := by
  obtain ⟨⟨_, _, x2, _, _⟩, _, _, _⟩ := h.box.cells
  obtain ⟨b0, b1, b2, b3, b4, b5⟩ := hL.2.below h.below hL.1
  simp only [blkC, Nat.zero_add] at b0 b1 b2 b3 b4 b5
  obtain ⟨_, p1, _⟩ : cell6 w G (a * 6) c := by obtain ⟨zs, hz⟩ := h.blk; exact hz.cells hc
  obtain ⟨_, q1, _⟩ : cell6 w G (b * 6) d := by obtain ⟨zs, hz⟩ := h.blk; exact hz.cells hd
  have e1 : (c.2.1 == 0) = false := by rw [beq_eq_false_iff_ne]; exact hc0
  have e2 : (d.2.1 == 0) = true := by rw [beq_iff_eq]; exact hd0
  have hbN2 : b ≤ N := by omega
  have k1 : (a : Int) < (b : Int) := by omega
  have k2 : (b : Int) < (N : Int) := by omega
  have HL : Hid (t.f.cells.length = N) := h.len
  have HB : Hid (∃ D, D = b + 1 ∧ ((D : Nat) : Int) = (b : Int) + 1) := ⟨_, rfl, by omega⟩
  obtain ⟨D, hD, hD2⟩ := HB.out
  rw [← hD]
  have hAD : a ≤ D := by omega
  have hDN : D ≤ N := by omega
  have HD2 := Lib.hid hD2
  clear hD hD2 HB
  have HT : Hid (∀ i wr, i < D → a ≤ i → TmS w0 wr B G N cap { t with f := { t.f with cells := fillB t.f.cells a i } } → KeepW (NotBG B G) w wr →
      (∃ e, cell6 wr G (i * 6) e) ∧ cell6 wr 5 0 blkC ∧ (∀ p, wr.frozen? ⟨G, p, none⟩ = false) ∧ TmS w0 (set6 wr G (i * 6) blkC) B G N cap { t with f := { t.f with cells := fillB t.f.cells a (i + 1) } } ∧ KeepW (NotBG B G) w (set6 wr G (i * 6) blkC)) := fun i wr hi hAi hS hK => by
    obtain ⟨zs, hz⟩ := hS.blk
    have hz : blkL wr G (fillB t.f.cells a i) zs := hz
    have hl := h.len
    have hfl : (fillB t.f.cells a i).length = N := by rw [fillLen hAi (by omega)]; exact hl
    have hst := hz.set i blkC (by omega)
    rw [fill_step' (by omega) hAi] at hst
    have hk6 := set6_keep (ok := fun k => k ≠ G) wr G (i * 6) blkC (fun k => k rfl)
    exact ⟨⟨_, hz.cells (List.getElem?_eq_getElem (by omega))⟩, hL.2.below hS.below hL.1, hz.frozen, hS.celled hk6 hst (by rw [fillLen (by omega) (by omega)]; exact hl), hK.trans (hk6.mono fun k _ hk => hk.2)⟩
  have H0 : Hid (TmS w0 w B G N cap { t with f := { t.f with cells := fillB t.f.cells a a } } ∧ KeepW (NotBG B G) w w) := by
    rw [fill_none]
    exact ⟨h, KeepW.refl _ _⟩
  clear h hL HL hc hd
  go_enter Tryz.func116, Tryz.ntmps116
  go_wp2_with fail
  go_loopw [7] (fun s7 wr => ∃ i : Nat, s7 = .int .i64 (i : Int) ∧ a ≤ i ∧ i ≤ D ∧ Hid (TmS w0 wr B G N cap { t with f := { t.f with cells := fillB t.f.cells a i } } ∧ KeepW (NotBG B G) w wr)) (fun s7 _ => D - (intOf s7).toNat)
  case atStart => exact ⟨a, by rfl, Nat.le_refl _, hAD, H0⟩
  case round =>
    obtain ⟨i, rfl, hAi, hiD, HI⟩ := hrel
    rcases Nat.lt_or_ge i D with hlt | hge
    · obtain ⟨⟨e, HE⟩, HBk, hfz, HS, HK⟩ := HT.out i wr hlt hAi HI.out.1 HI.out.2
      obtain ⟨g0, g1, g2, g3, g4, g5⟩ := HE
      obtain ⟨y0, y1, y2, y3, y4, y5⟩ := HBk
      simp only [blkC, Nat.zero_add] at y0 y1 y2 y3 y4 y5
      have z0 := hfz (i * 6)
      have z1 := hfz (i * 6 + 1)
      have z2 := hfz (i * 6 + 2)
      have z3 := hfz (i * 6 + 3)
      have z4 := hfz (i * 6 + 4)
      have z5 := hfz (i * 6 + 5)
      have HX := Lib.hid (And.intro HS HK)
      have hlG := HI.out.1.gt
      have j0 : (i : Int) < (b : Int) + 1 := by have := HD2.out; omega
      have j1 : (i : Int) < (N : Int) := by omega
      have j2 : (0 : Int) ≤ (i : Int) := by omega
      clear HI HT hfz HS HK
      go_wp2_with fail
      refine ⟨⟨i + 1, by rw [Int.natCast_add]; rfl, by omega, by omega, HX⟩, ?_⟩
      simp only [intOf]
      omega
    · have j0 : ¬ (i : Int) < (b : Int) + 1 := by have := HD2.out; omega
      obtain rfl : i = D := by omega
      go_wp2_with fail
      go_end0
      exact ⟨rfl, HI.out.1, HI.out.2⟩

set_option maxRecDepth 20000 in
set_option maxHeartbeats 4000000 in
theorem erase_nn (a b : Nat) (c : Cel) (d : Cel) (w : World) (h : TmS w0 w B G N cap t) (hL : TBlankW w0) (hab : a < b) (hc : t.f.cells[a]? = some c) (hc0 : c.2.1 ≠ 0) (hbN : b < N) (hd : t.f.cells[b]? = some d) (hd0 : d.2.1 ≠ 0) (hN : N ≤ 20000) :
    Calls Tryz.prog 116 #[.pointer (some ⟨B, 0, none⟩), .int .i64 (a : Int), .int .i64 (b : Int)] w (TmD w0 w B G N cap { t with f := { t.f with cells := fillB t.f.cells (a) (b) } }) := by
  obtain ⟨⟨_, _, x2, _, _⟩, _, _, _⟩ := h.box.cells
  obtain ⟨b0, b1, b2, b3, b4, b5⟩ := hL.2.below h.below hL.1
  simp only [blkC, Nat.zero_add] at b0 b1 b2 b3 b4 b5
  obtain ⟨_, p1, _⟩ : cell6 w G (a * 6) c := by obtain ⟨zs, hz⟩ := h.blk; exact hz.cells hc
  obtain ⟨_, q1, _⟩ : cell6 w G (b * 6) d := by obtain ⟨zs, hz⟩ := h.blk; exact hz.cells hd
  have e1 : (c.2.1 == 0) = false := by rw [beq_eq_false_iff_ne]; exact hc0
  have e2 : (d.2.1 == 0) = false := by rw [beq_eq_false_iff_ne]; exact hd0
  have hbN2 : b ≤ N := by omega
  have k1 : (a : Int) < (b : Int) := by omega
  have k2 : (b : Int) < (N : Int) := by omega
  have HL : Hid (t.f.cells.length = N) := h.len
  have hAD : a ≤ b := by omega
  have hDN : b ≤ N := by omega
  have HT : Hid (∀ i wr, i < b → a ≤ i → TmS w0 wr B G N cap { t with f := { t.f with cells := fillB t.f.cells a i } } → KeepW (NotBG B G) w wr →
      (∃ e, cell6 wr G (i * 6) e) ∧ cell6 wr 5 0 blkC ∧ (∀ p, wr.frozen? ⟨G, p, none⟩ = false) ∧ TmS w0 (set6 wr G (i * 6) blkC) B G N cap { t with f := { t.f with cells := fillB t.f.cells a (i + 1) } } ∧ KeepW (NotBG B G) w (set6 wr G (i * 6) blkC)) := fun i wr hi hAi hS hK => by
    obtain ⟨zs, hz⟩ := hS.blk
    have hz : blkL wr G (fillB t.f.cells a i) zs := hz
    have hl := h.len
    have hfl : (fillB t.f.cells a i).length = N := by rw [fillLen hAi (by omega)]; exact hl
    have hst := hz.set i blkC (by omega)
    rw [fill_step' (by omega) hAi] at hst
    have hk6 := set6_keep (ok := fun k => k ≠ G) wr G (i * 6) blkC (fun k => k rfl)
    exact ⟨⟨_, hz.cells (List.getElem?_eq_getElem (by omega))⟩, hL.2.below hS.below hL.1, hz.frozen, hS.celled hk6 hst (by rw [fillLen (by omega) (by omega)]; exact hl), hK.trans (hk6.mono fun k _ hk => hk.2)⟩
  have H0 : Hid (TmS w0 w B G N cap { t with f := { t.f with cells := fillB t.f.cells a a } } ∧ KeepW (NotBG B G) w w) := by
    rw [fill_none]
    exact ⟨h, KeepW.refl _ _⟩
  clear h hL HL hc hd
  go_enter Tryz.func116, Tryz.ntmps116
  go_wp2_with fail
  go_loopw [7] (fun s7 wr => ∃ i : Nat, s7 = .int .i64 (i : Int) ∧ a ≤ i ∧ i ≤ b ∧ Hid (TmS w0 wr B G N cap { t with f := { t.f with cells := fillB t.f.cells a i } } ∧ KeepW (NotBG B G) w wr)) (fun s7 _ => b - (intOf s7).toNat)
  case atStart => exact ⟨a, by rfl, Nat.le_refl _, hAD, H0⟩
  case round =>
    obtain ⟨i, rfl, hAi, hiD, HI⟩ := hrel
    rcases Nat.lt_or_ge i b with hlt | hge
    · obtain ⟨⟨e, HE⟩, HBk, hfz, HS, HK⟩ := HT.out i wr hlt hAi HI.out.1 HI.out.2
      obtain ⟨g0, g1, g2, g3, g4, g5⟩ := HE
      obtain ⟨y0, y1, y2, y3, y4, y5⟩ := HBk
      simp only [blkC, Nat.zero_add] at y0 y1 y2 y3 y4 y5
      have z0 := hfz (i * 6)
      have z1 := hfz (i * 6 + 1)
      have z2 := hfz (i * 6 + 2)
      have z3 := hfz (i * 6 + 3)
      have z4 := hfz (i * 6 + 4)
      have z5 := hfz (i * 6 + 5)
      have HX := Lib.hid (And.intro HS HK)
      have hlG := HI.out.1.gt
      have j0 : (i : Int) < (b : Int) := by omega
      have j1 : (i : Int) < (N : Int) := by omega
      have j2 : (0 : Int) ≤ (i : Int) := by omega
      clear HI HT hfz HS HK
      go_wp2_with fail
      refine ⟨⟨i + 1, by rw [Int.natCast_add]; rfl, by omega, by omega, HX⟩, ?_⟩
      simp only [intOf]
      omega
    · have j0 : ¬ (i : Int) < (b : Int) := by omega
      obtain rfl : i = b := by omega
      go_wp2_with fail
      go_end0
      exact ⟨rfl, HI.out.1, HI.out.2⟩

set_option maxRecDepth 20000 in
set_option maxHeartbeats 4000000 in
theorem erase_nx (a b : Nat) (c : Cel) (w : World) (h : TmS w0 w B G N cap t) (hL : TBlankW w0) (hab : a < b) (hc : t.f.cells[a]? = some c) (hc0 : c.2.1 ≠ 0) (hbN : b ≤ N) (hNb : N ≤ b) (hN : N ≤ 20000) :
    Calls Tryz.prog 116 #[.pointer (some ⟨B, 0, none⟩), .int .i64 (a : Int), .int .i64 (b : Int)] w (TmD w0 w B G N cap { t with f := { t.f with cells := fillB t.f.cells (a) (b) } }) := by
  obtain ⟨⟨_, _, x2, _, _⟩, _, _, _⟩ := h.box.cells
  obtain ⟨b0, b1, b2, b3, b4, b5⟩ := hL.2.below h.below hL.1
  simp only [blkC, Nat.zero_add] at b0 b1 b2 b3 b4 b5
  obtain ⟨_, p1, _⟩ : cell6 w G (a * 6) c := by obtain ⟨zs, hz⟩ := h.blk; exact hz.cells hc
  have e1 : (c.2.1 == 0) = false := by rw [beq_eq_false_iff_ne]; exact hc0
  have hbN2 : b ≤ N := by omega
  have k1 : (a : Int) < (b : Int) := by omega
  have k2 : ¬ (b : Int) < (N : Int) := by omega
  have HL : Hid (t.f.cells.length = N) := h.len
  have hAD : a ≤ b := by omega
  have hDN : b ≤ N := by omega
  have HT : Hid (∀ i wr, i < b → a ≤ i → TmS w0 wr B G N cap { t with f := { t.f with cells := fillB t.f.cells a i } } → KeepW (NotBG B G) w wr →
      (∃ e, cell6 wr G (i * 6) e) ∧ cell6 wr 5 0 blkC ∧ (∀ p, wr.frozen? ⟨G, p, none⟩ = false) ∧ TmS w0 (set6 wr G (i * 6) blkC) B G N cap { t with f := { t.f with cells := fillB t.f.cells a (i + 1) } } ∧ KeepW (NotBG B G) w (set6 wr G (i * 6) blkC)) := fun i wr hi hAi hS hK => by
    obtain ⟨zs, hz⟩ := hS.blk
    have hz : blkL wr G (fillB t.f.cells a i) zs := hz
    have hl := h.len
    have hfl : (fillB t.f.cells a i).length = N := by rw [fillLen hAi (by omega)]; exact hl
    have hst := hz.set i blkC (by omega)
    rw [fill_step' (by omega) hAi] at hst
    have hk6 := set6_keep (ok := fun k => k ≠ G) wr G (i * 6) blkC (fun k => k rfl)
    exact ⟨⟨_, hz.cells (List.getElem?_eq_getElem (by omega))⟩, hL.2.below hS.below hL.1, hz.frozen, hS.celled hk6 hst (by rw [fillLen (by omega) (by omega)]; exact hl), hK.trans (hk6.mono fun k _ hk => hk.2)⟩
  have H0 : Hid (TmS w0 w B G N cap { t with f := { t.f with cells := fillB t.f.cells a a } } ∧ KeepW (NotBG B G) w w) := by
    rw [fill_none]
    exact ⟨h, KeepW.refl _ _⟩
  clear h hL HL hc
  go_enter Tryz.func116, Tryz.ntmps116
  go_wp2_with fail
  go_loopw [7] (fun s7 wr => ∃ i : Nat, s7 = .int .i64 (i : Int) ∧ a ≤ i ∧ i ≤ b ∧ Hid (TmS w0 wr B G N cap { t with f := { t.f with cells := fillB t.f.cells a i } } ∧ KeepW (NotBG B G) w wr)) (fun s7 _ => b - (intOf s7).toNat)
  case atStart => exact ⟨a, by rfl, Nat.le_refl _, hAD, H0⟩
  case round =>
    obtain ⟨i, rfl, hAi, hiD, HI⟩ := hrel
    rcases Nat.lt_or_ge i b with hlt | hge
    · obtain ⟨⟨e, HE⟩, HBk, hfz, HS, HK⟩ := HT.out i wr hlt hAi HI.out.1 HI.out.2
      obtain ⟨g0, g1, g2, g3, g4, g5⟩ := HE
      obtain ⟨y0, y1, y2, y3, y4, y5⟩ := HBk
      simp only [blkC, Nat.zero_add] at y0 y1 y2 y3 y4 y5
      have z0 := hfz (i * 6)
      have z1 := hfz (i * 6 + 1)
      have z2 := hfz (i * 6 + 2)
      have z3 := hfz (i * 6 + 3)
      have z4 := hfz (i * 6 + 4)
      have z5 := hfz (i * 6 + 5)
      have HX := Lib.hid (And.intro HS HK)
      have hlG := HI.out.1.gt
      have j0 : (i : Int) < (b : Int) := by omega
      have j1 : (i : Int) < (N : Int) := by omega
      have j2 : (0 : Int) ≤ (i : Int) := by omega
      clear HI HT hfz HS HK
      go_wp2_with fail
      refine ⟨⟨i + 1, by rw [Int.natCast_add]; rfl, by omega, by omega, HX⟩, ?_⟩
      simp only [intOf]
      omega
    · have j0 : ¬ (i : Int) < (b : Int) := by omega
      obtain rfl : i = b := by omega
      go_wp2_with fail
      go_end0
      exact ⟨rfl, HI.out.1, HI.out.2⟩

set_option maxRecDepth 20000 in
set_option maxHeartbeats 4000000 in
theorem erase_xw (a b : Nat) (d : Cel) (w : World) (h : TmS w0 w B G N cap t) (hL : TBlankW w0) (hab : a ≤ b) (hba : b ≤ a) (hbN : b < N) (hd : t.f.cells[b]? = some d) (hd0 : d.2.1 = 0) (hN : N ≤ 20000) :
    Calls Tryz.prog 116 #[.pointer (some ⟨B, 0, none⟩), .int .i64 (a : Int), .int .i64 (b : Int)] w (TmD w0 w B G N cap { t with f := { t.f with cells := fillB t.f.cells (a) (b + 1) } }) := by
  obtain ⟨⟨_, _, x2, _, _⟩, _, _, _⟩ := h.box.cells
  obtain ⟨b0, b1, b2, b3, b4, b5⟩ := hL.2.below h.below hL.1
  simp only [blkC, Nat.zero_add] at b0 b1 b2 b3 b4 b5
  obtain ⟨_, q1, _⟩ : cell6 w G (b * 6) d := by obtain ⟨zs, hz⟩ := h.blk; exact hz.cells hd
  have e2 : (d.2.1 == 0) = true := by rw [beq_iff_eq]; exact hd0
  have hbN2 : b ≤ N := by omega
  have k1 : ¬ (a : Int) < (b : Int) := by omega
  have k2 : (b : Int) < (N : Int) := by omega
  have HL : Hid (t.f.cells.length = N) := h.len
  have HB : Hid (∃ D, D = b + 1 ∧ ((D : Nat) : Int) = (b : Int) + 1) := ⟨_, rfl, by omega⟩
  obtain ⟨D, hD, hD2⟩ := HB.out
  rw [← hD]
  have hAD : a ≤ D := by omega
  have hDN : D ≤ N := by omega
  have HD2 := Lib.hid hD2
  clear hD hD2 HB
  have HT : Hid (∀ i wr, i < D → a ≤ i → TmS w0 wr B G N cap { t with f := { t.f with cells := fillB t.f.cells a i } } → KeepW (NotBG B G) w wr →
      (∃ e, cell6 wr G (i * 6) e) ∧ cell6 wr 5 0 blkC ∧ (∀ p, wr.frozen? ⟨G, p, none⟩ = false) ∧ TmS w0 (set6 wr G (i * 6) blkC) B G N cap { t with f := { t.f with cells := fillB t.f.cells a (i + 1) } } ∧ KeepW (NotBG B G) w (set6 wr G (i * 6) blkC)) := fun i wr hi hAi hS hK => by
    obtain ⟨zs, hz⟩ := hS.blk
    have hz : blkL wr G (fillB t.f.cells a i) zs := hz
    have hl := h.len
    have hfl : (fillB t.f.cells a i).length = N := by rw [fillLen hAi (by omega)]; exact hl
    have hst := hz.set i blkC (by omega)
    rw [fill_step' (by omega) hAi] at hst
    have hk6 := set6_keep (ok := fun k => k ≠ G) wr G (i * 6) blkC (fun k => k rfl)
    exact ⟨⟨_, hz.cells (List.getElem?_eq_getElem (by omega))⟩, hL.2.below hS.below hL.1, hz.frozen, hS.celled hk6 hst (by rw [fillLen (by omega) (by omega)]; exact hl), hK.trans (hk6.mono fun k _ hk => hk.2)⟩
  have H0 : Hid (TmS w0 w B G N cap { t with f := { t.f with cells := fillB t.f.cells a a } } ∧ KeepW (NotBG B G) w w) := by
    rw [fill_none]
    exact ⟨h, KeepW.refl _ _⟩
  clear h hL HL hd
  go_enter Tryz.func116, Tryz.ntmps116
  go_wp2_with fail
  go_loopw [7] (fun s7 wr => ∃ i : Nat, s7 = .int .i64 (i : Int) ∧ a ≤ i ∧ i ≤ D ∧ Hid (TmS w0 wr B G N cap { t with f := { t.f with cells := fillB t.f.cells a i } } ∧ KeepW (NotBG B G) w wr)) (fun s7 _ => D - (intOf s7).toNat)
  case atStart => exact ⟨a, by rfl, Nat.le_refl _, hAD, H0⟩
  case round =>
    obtain ⟨i, rfl, hAi, hiD, HI⟩ := hrel
    rcases Nat.lt_or_ge i D with hlt | hge
    · obtain ⟨⟨e, HE⟩, HBk, hfz, HS, HK⟩ := HT.out i wr hlt hAi HI.out.1 HI.out.2
      obtain ⟨g0, g1, g2, g3, g4, g5⟩ := HE
      obtain ⟨y0, y1, y2, y3, y4, y5⟩ := HBk
      simp only [blkC, Nat.zero_add] at y0 y1 y2 y3 y4 y5
      have z0 := hfz (i * 6)
      have z1 := hfz (i * 6 + 1)
      have z2 := hfz (i * 6 + 2)
      have z3 := hfz (i * 6 + 3)
      have z4 := hfz (i * 6 + 4)
      have z5 := hfz (i * 6 + 5)
      have HX := Lib.hid (And.intro HS HK)
      have hlG := HI.out.1.gt
      have j0 : (i : Int) < (b : Int) + 1 := by have := HD2.out; omega
      have j1 : (i : Int) < (N : Int) := by omega
      have j2 : (0 : Int) ≤ (i : Int) := by omega
      clear HI HT hfz HS HK
      go_wp2_with fail
      refine ⟨⟨i + 1, by rw [Int.natCast_add]; rfl, by omega, by omega, HX⟩, ?_⟩
      simp only [intOf]
      omega
    · have j0 : ¬ (i : Int) < (b : Int) + 1 := by have := HD2.out; omega
      obtain rfl : i = D := by omega
      go_wp2_with fail
      go_end0
      exact ⟨rfl, HI.out.1, HI.out.2⟩

set_option maxRecDepth 20000 in
set_option maxHeartbeats 4000000 in
theorem erase_xn (a b : Nat) (d : Cel) (w : World) (h : TmS w0 w B G N cap t) (hL : TBlankW w0) (hab : a ≤ b) (hba : b ≤ a) (hbN : b < N) (hd : t.f.cells[b]? = some d) (hd0 : d.2.1 ≠ 0) (_hN : N ≤ 20000) :
    Calls Tryz.prog 116 #[.pointer (some ⟨B, 0, none⟩), .int .i64 (a : Int), .int .i64 (b : Int)] w (TmD w0 w B G N cap { t with f := { t.f with cells := fillB t.f.cells (a) (b) } }) := by
  obtain ⟨⟨_, _, x2, _, _⟩, _, _, _⟩ := h.box.cells
  obtain ⟨b0, b1, b2, b3, b4, b5⟩ := hL.2.below h.below hL.1
  simp only [blkC, Nat.zero_add] at b0 b1 b2 b3 b4 b5
  obtain ⟨_, q1, _⟩ : cell6 w G (b * 6) d := by obtain ⟨zs, hz⟩ := h.blk; exact hz.cells hd
  have e2 : (d.2.1 == 0) = false := by rw [beq_eq_false_iff_ne]; exact hd0
  have hbN2 : b ≤ N := by omega
  have k1 : ¬ (a : Int) < (b : Int) := by omega
  have k2 : (b : Int) < (N : Int) := by omega
  have HL : Hid (t.f.cells.length = N) := h.len
  have hAD : a ≤ b := by omega
  have hDN : b ≤ N := by omega
  have HT : Hid (∀ i wr, i < b → a ≤ i → TmS w0 wr B G N cap { t with f := { t.f with cells := fillB t.f.cells a i } } → KeepW (NotBG B G) w wr →
      (∃ e, cell6 wr G (i * 6) e) ∧ cell6 wr 5 0 blkC ∧ (∀ p, wr.frozen? ⟨G, p, none⟩ = false) ∧ TmS w0 (set6 wr G (i * 6) blkC) B G N cap { t with f := { t.f with cells := fillB t.f.cells a (i + 1) } } ∧ KeepW (NotBG B G) w (set6 wr G (i * 6) blkC)) := fun i wr hi hAi hS hK => by
    obtain ⟨zs, hz⟩ := hS.blk
    have hz : blkL wr G (fillB t.f.cells a i) zs := hz
    have hl := h.len
    have hfl : (fillB t.f.cells a i).length = N := by rw [fillLen hAi (by omega)]; exact hl
    have hst := hz.set i blkC (by omega)
    rw [fill_step' (by omega) hAi] at hst
    have hk6 := set6_keep (ok := fun k => k ≠ G) wr G (i * 6) blkC (fun k => k rfl)
    exact ⟨⟨_, hz.cells (List.getElem?_eq_getElem (by omega))⟩, hL.2.below hS.below hL.1, hz.frozen, hS.celled hk6 hst (by rw [fillLen (by omega) (by omega)]; exact hl), hK.trans (hk6.mono fun k _ hk => hk.2)⟩
  have H0 : Hid (TmS w0 w B G N cap { t with f := { t.f with cells := fillB t.f.cells a a } } ∧ KeepW (NotBG B G) w w) := by
    rw [fill_none]
    exact ⟨h, KeepW.refl _ _⟩
  clear h hL HL hd
  go_enter Tryz.func116, Tryz.ntmps116
  go_wp2_with fail
  go_loopw [7] (fun s7 wr => ∃ i : Nat, s7 = .int .i64 (i : Int) ∧ a ≤ i ∧ i ≤ b ∧ Hid (TmS w0 wr B G N cap { t with f := { t.f with cells := fillB t.f.cells a i } } ∧ KeepW (NotBG B G) w wr)) (fun s7 _ => b - (intOf s7).toNat)
  case atStart => exact ⟨a, by rfl, Nat.le_refl _, hAD, H0⟩
  case round =>
    obtain ⟨i, rfl, hAi, hiD, HI⟩ := hrel
    rcases Nat.lt_or_ge i b with hlt | hge
    · exfalso; omega
    · have j0 : ¬ (i : Int) < (b : Int) := by omega
      obtain rfl : i = b := by omega
      go_wp2_with fail
      go_end0
      exact ⟨rfl, HI.out.1, HI.out.2⟩

set_option maxRecDepth 20000 in
set_option maxHeartbeats 4000000 in
theorem erase_xx (a b : Nat) (w : World) (h : TmS w0 w B G N cap t) (hL : TBlankW w0) (hab : a ≤ b) (hba : b ≤ a) (hbN : b ≤ N) (hNb : N ≤ b) (_hN : N ≤ 20000) :
    Calls Tryz.prog 116 #[.pointer (some ⟨B, 0, none⟩), .int .i64 (a : Int), .int .i64 (b : Int)] w (TmD w0 w B G N cap { t with f := { t.f with cells := fillB t.f.cells (a) (b) } }) := by
  obtain ⟨⟨_, _, x2, _, _⟩, _, _, _⟩ := h.box.cells
  obtain ⟨b0, b1, b2, b3, b4, b5⟩ := hL.2.below h.below hL.1
  simp only [blkC, Nat.zero_add] at b0 b1 b2 b3 b4 b5
  have hbN2 : b ≤ N := by omega
  have k1 : ¬ (a : Int) < (b : Int) := by omega
  have k2 : ¬ (b : Int) < (N : Int) := by omega
  have HL : Hid (t.f.cells.length = N) := h.len
  have hAD : a ≤ b := by omega
  have hDN : b ≤ N := by omega
  have HT : Hid (∀ i wr, i < b → a ≤ i → TmS w0 wr B G N cap { t with f := { t.f with cells := fillB t.f.cells a i } } → KeepW (NotBG B G) w wr →
      (∃ e, cell6 wr G (i * 6) e) ∧ cell6 wr 5 0 blkC ∧ (∀ p, wr.frozen? ⟨G, p, none⟩ = false) ∧ TmS w0 (set6 wr G (i * 6) blkC) B G N cap { t with f := { t.f with cells := fillB t.f.cells a (i + 1) } } ∧ KeepW (NotBG B G) w (set6 wr G (i * 6) blkC)) := fun i wr hi hAi hS hK => by
    obtain ⟨zs, hz⟩ := hS.blk
    have hz : blkL wr G (fillB t.f.cells a i) zs := hz
    have hl := h.len
    have hfl : (fillB t.f.cells a i).length = N := by rw [fillLen hAi (by omega)]; exact hl
    have hst := hz.set i blkC (by omega)
    rw [fill_step' (by omega) hAi] at hst
    have hk6 := set6_keep (ok := fun k => k ≠ G) wr G (i * 6) blkC (fun k => k rfl)
    exact ⟨⟨_, hz.cells (List.getElem?_eq_getElem (by omega))⟩, hL.2.below hS.below hL.1, hz.frozen, hS.celled hk6 hst (by rw [fillLen (by omega) (by omega)]; exact hl), hK.trans (hk6.mono fun k _ hk => hk.2)⟩
  have H0 : Hid (TmS w0 w B G N cap { t with f := { t.f with cells := fillB t.f.cells a a } } ∧ KeepW (NotBG B G) w w) := by
    rw [fill_none]
    exact ⟨h, KeepW.refl _ _⟩
  clear h hL HL
  go_enter Tryz.func116, Tryz.ntmps116
  go_wp2_with fail
  go_loopw [7] (fun s7 wr => ∃ i : Nat, s7 = .int .i64 (i : Int) ∧ a ≤ i ∧ i ≤ b ∧ Hid (TmS w0 wr B G N cap { t with f := { t.f with cells := fillB t.f.cells a i } } ∧ KeepW (NotBG B G) w wr)) (fun s7 _ => b - (intOf s7).toNat)
  case atStart => exact ⟨a, by rfl, Nat.le_refl _, hAD, H0⟩
  case round =>
    obtain ⟨i, rfl, hAi, hiD, HI⟩ := hrel
    rcases Nat.lt_or_ge i b with hlt | hge
    · exfalso; omega
    · have j0 : ¬ (i : Int) < (b : Int) := by omega
      obtain rfl : i = b := by omega
      go_wp2_with fail
      go_end0
      exact ⟨rfl, HI.out.1, HI.out.2⟩

theorem erase_any (a b : Nat) (w : World) (h : TmS w0 w B G N cap t) (hL : TBlankW w0) (hab : a ≤ b) (hbN : b ≤ N) (hN : N ≤ 20000) (ha0 : a < b → w0_ t.f.cells a = true → 0 < a) :
    Calls Tryz.prog 116 #[.pointer (some ⟨B, 0, none⟩), .int .i64 (a : Int), .int .i64 (b : Int)] w (TmD w0 w B G N cap { t with f := { t.f with cells := eraseL t.f.cells a b } }) := by
  have hl := h.len
  have hout : ∀ i, i < N → ∃ c, t.f.cells[i]? = some c := fun i hi => ⟨_, List.getElem?_eq_getElem (by omega)⟩
  have hw : ∀ i c, t.f.cells[i]? = some c → w0_ t.f.cells i = decide (c.2.1 = 0) := fun i c hc => by
    unfold w0_
    rw [hc]; rfl
  unfold eraseL fromN toN
  by_cases h1 : a < b
  · obtain ⟨c, hc⟩ := hout a (by omega)
    by_cases hc0 : c.2.1 = 0
    · have e1 : w0_ t.f.cells a = true := by rw [hw a c hc]; exact decide_eq_true hc0
      rw [if_pos ⟨h1, e1⟩]
      by_cases h2 : b < N
      · obtain ⟨d, hd⟩ := hout b h2
        by_cases hd0 : d.2.1 = 0
        · rw [if_pos (by rw [hw b d hd]; exact decide_eq_true hd0)]
          exact erase_ww a b c d w h hL h1 hc hc0 (ha0 h1 e1) h2 hd hd0 hN
        · rw [if_neg (by rw [hw b d hd]; simpa using hd0)]
          exact erase_wn a b c d w h hL h1 hc hc0 (ha0 h1 e1) h2 hd hd0 hN
      · rw [if_neg (by rw [w0_out (by omega)]; decide)]
        exact erase_wx a b c w h hL h1 hc hc0 (ha0 h1 e1) hbN (by omega) hN
    · rw [if_neg (fun k => by have := k.2; rw [hw a c hc] at this; exact hc0 (of_decide_eq_true this))]
      by_cases h2 : b < N
      · obtain ⟨d, hd⟩ := hout b h2
        by_cases hd0 : d.2.1 = 0
        · rw [if_pos (by rw [hw b d hd]; exact decide_eq_true hd0)]
          exact erase_nw a b c d w h hL h1 hc hc0 h2 hd hd0 hN
        · rw [if_neg (by rw [hw b d hd]; simpa using hd0)]
          exact erase_nn a b c d w h hL h1 hc hc0 h2 hd hd0 hN
      · rw [if_neg (by rw [w0_out (by omega)]; decide)]
        exact erase_nx a b c w h hL h1 hc hc0 hbN (by omega) hN
  · rw [if_neg (fun k => h1 k.1)]
    by_cases h2 : b < N
    · obtain ⟨d, hd⟩ := hout b h2
      by_cases hd0 : d.2.1 = 0
      · rw [if_pos (by rw [hw b d hd]; exact decide_eq_true hd0)]
        exact erase_xw a b d w h hL hab (by omega) h2 hd hd0 hN
      · rw [if_neg (by rw [hw b d hd]; simpa using hd0)]
        exact erase_xn a b d w h hL hab (by omega) h2 hd hd0 hN
    · rw [if_neg (by rw [w0_out (by omega)]; decide)]
      exact erase_xx a b w h hL hab (by omega) hbN (by omega) hN
end
end Go.Proofs.YtpkjaallhhjleaaGreatDoor

/-
  term: param, none, styled: what each returns.
-/
namespace Go.Proofs.YtpkjaallhhjleaaGreatDoor
open Go.RowKit

theorem nums_at {ok : Nat → Prop} {w : World} {v : Value} {l : List Nat} {i n : Nat} (h : NumsW ok w v l) (hi : l[i]? = some n) : ∃ g o cap, v = .slice (some ⟨g, o, none⟩) l.length cap ∧ w.cell? ⟨g, o + i, none⟩ = some (.int .i64 (n : Int)) := by
  have e : (ints l)[i]? = some (.int .i64 (n : Int)) := by unfold ints; rw [List.getElem?_map, hi]; rfl
  obtain ⟨g, o, cap, hv, _, _, hc⟩ := h.1.at_ e
  exact ⟨g, o, cap, hv, hc i _ e⟩
set_option maxHeartbeats 1000000 in
theorem param_any {ok : Nat → Prop} {v : Value} {l : List Nat} (i : Nat) (w : World) (h : NumsW ok w v l) (_hl : l.length ≤ 1000000) (_hi : i ≤ 1000) :
    Calls Tryz.prog 94 #[v, .int .i64 (i : Int)] w fun e w' => e = .returned (.int .i64 ((l.getD i 0 : Nat) : Int)) ∧ w' = w := by
  by_cases hlt : i < l.length
  · obtain ⟨n, hn⟩ : ∃ n, l[i]? = some n := ⟨_, List.getElem?_eq_getElem hlt⟩
    obtain ⟨g, o, cap, rfl, hc⟩ := nums_at h hn
    have e : l.getD i 0 = n := by rw [List.getD_eq_getElem?_getD, hn]; rfl
    rw [e]
    obtain ⟨m, hm⟩ : ∃ m, l.length = m := ⟨_, rfl⟩
    rw [hm] at hlt ⊢
    have i1 : (i : Int) < (m : Int) := by omega
    have i0 : (0 : Int) ≤ (i : Int) := by omega
    clear h e hn hm
    go_enter Tryz.func94, Tryz.ntmps94
    go_wp2_with fail
    all_goals first | (exfalso; omega) | skip
    go_ret
    exact ⟨rfl, rfl⟩
  · obtain ⟨ao, cap, rfl, hc, _⟩ := h.1
    have e : l.getD i 0 = 0 := by rw [List.getD_eq_getElem?_getD, List.getElem?_eq_none (by omega)]; rfl
    rw [e]
    obtain ⟨m, hm⟩ : ∃ m, l.length = m := ⟨_, rfl⟩
    rw [hm] at hlt hc ⊢
    have i1 : ¬ (i : Int) < (m : Int) := by omega
    clear h e hm
    go_enter Tryz.func94, Tryz.ntmps94
    go_wp2_with fail
    all_goals first | (exfalso; omega) | skip
    go_ret
    exact ⟨rfl, rfl⟩

set_option maxHeartbeats 1000000 in
theorem tnone_nil (w : World) : Calls Tryz.prog 28 #[.pointer none] w fun e w' => e = .returned (.bool true) ∧ w' = w := by
  go_enter Tryz.func28, Tryz.ntmps28
  go_wp2_with fail
  go_ret
  exact ⟨rfl, rfl⟩
set_option maxRecDepth 20000 in
set_option maxHeartbeats 1000000 in
theorem tnone_zero (B : Nat) (w : World) (h : w.cell? ⟨B, 2, none⟩ = some (.slice none 0 0)) : Calls Tryz.prog 28 #[.pointer (some ⟨B, 0, none⟩)] w fun e w' => e = .returned (.bool true) ∧ w' = w := by
  have he : ∀ w : World, (binOp .eql 33 (.slice none 0 0) (.slice none 0 0)).run Tryz.prog w = .ok (.bool true) w := fun _ => rfl
  go_enter Tryz.func28, Tryz.ntmps28
  go_wp2_with fail
  go_ret
  exact ⟨rfl, rfl⟩
set_option maxRecDepth 20000 in
set_option maxHeartbeats 1000000 in
theorem tnone_no (B G N cap : Nat) (w : World) (h : w.cell? ⟨B, 2, none⟩ = some (.slice (some ⟨G, 0, none⟩) N cap)) : Calls Tryz.prog 28 #[.pointer (some ⟨B, 0, none⟩)] w fun e w' => e = .returned (.bool false) ∧ w' = w := by
  have he : ∀ w : World, (binOp .eql 33 (.slice (some ⟨G, 0, none⟩) N cap) (.slice none 0 0)).run Tryz.prog w = .ok (.bool false) w := fun _ => rfl
  go_enter Tryz.func28, Tryz.ntmps28
  go_wp2_with fail
  go_ret
  exact ⟨rfl, rfl⟩

set_option maxHeartbeats 2000000 in
theorem tstyled0 (s1 : Int) (s2 s3 s4 : Bool) (w : World) : Calls Tryz.prog 118 #[.agg #[.int .i64 s1, .bool s2, .bool s3, .bool s4], .int .i64 0] w fun e w' => e = .returned (.agg #[.int .i64 0, .bool false, .bool false, .bool false]) ∧ Below w.heap.size w w' := by
  go_enter Tryz.func118, Tryz.ntmps118
  go_wp2_with fail
  exact bodyPost_ret (v := .agg #[.int .i64 0, .bool false, .bool false, .bool false]) (by simp [results, Tryz.results118, go_sem]) rfl ⟨rfl, ((Below.refl _ w).alloc (Nat.le_refl _) _).alloc (by rw [World.size_alloc]; omega) _⟩
set_option maxHeartbeats 2000000 in
theorem tstyled1 (s1 : Int) (s2 s3 s4 : Bool) (w : World) : Calls Tryz.prog 118 #[.agg #[.int .i64 s1, .bool s2, .bool s3, .bool s4], .int .i64 1] w fun e w' => e = .returned (.agg #[.int .i64 s1, .bool true, .bool s3, .bool s4]) ∧ Below w.heap.size w w' := by
  go_enter Tryz.func118, Tryz.ntmps118
  go_wp2_with fail
  exact bodyPost_ret (v := .agg #[.int .i64 s1, .bool true, .bool s3, .bool s4]) (by simp [results, Tryz.results118, go_sem]) rfl ⟨rfl, ((Below.refl _ w).alloc (Nat.le_refl _) _).alloc (by rw [World.size_alloc]; omega) _⟩
set_option maxHeartbeats 2000000 in
theorem tstyled4 (s1 : Int) (s2 s3 s4 : Bool) (w : World) : Calls Tryz.prog 118 #[.agg #[.int .i64 s1, .bool s2, .bool s3, .bool s4], .int .i64 4] w fun e w' => e = .returned (.agg #[.int .i64 s1, .bool s2, .bool true, .bool s4]) ∧ Below w.heap.size w w' := by
  go_enter Tryz.func118, Tryz.ntmps118
  go_wp2_with fail
  exact bodyPost_ret (v := .agg #[.int .i64 s1, .bool s2, .bool true, .bool s4]) (by simp [results, Tryz.results118, go_sem]) rfl ⟨rfl, ((Below.refl _ w).alloc (Nat.le_refl _) _).alloc (by rw [World.size_alloc]; omega) _⟩
set_option maxHeartbeats 2000000 in
theorem tstyled7 (s1 : Int) (s2 s3 s4 : Bool) (w : World) : Calls Tryz.prog 118 #[.agg #[.int .i64 s1, .bool s2, .bool s3, .bool s4], .int .i64 7] w fun e w' => e = .returned (.agg #[.int .i64 s1, .bool s2, .bool s3, .bool true]) ∧ Below w.heap.size w w' := by
  go_enter Tryz.func118, Tryz.ntmps118
  go_wp2_with fail
  exact bodyPost_ret (v := .agg #[.int .i64 s1, .bool s2, .bool s3, .bool true]) (by simp [results, Tryz.results118, go_sem]) rfl ⟨rfl, ((Below.refl _ w).alloc (Nat.le_refl _) _).alloc (by rw [World.size_alloc]; omega) _⟩
set_option maxHeartbeats 2000000 in
theorem tstyled22 (s1 : Int) (s2 s3 s4 : Bool) (w : World) : Calls Tryz.prog 118 #[.agg #[.int .i64 s1, .bool s2, .bool s3, .bool s4], .int .i64 22] w fun e w' => e = .returned (.agg #[.int .i64 s1, .bool false, .bool s3, .bool s4]) ∧ Below w.heap.size w w' := by
  go_enter Tryz.func118, Tryz.ntmps118
  go_wp2_with fail
  exact bodyPost_ret (v := .agg #[.int .i64 s1, .bool false, .bool s3, .bool s4]) (by simp [results, Tryz.results118, go_sem]) rfl ⟨rfl, ((Below.refl _ w).alloc (Nat.le_refl _) _).alloc (by rw [World.size_alloc]; omega) _⟩
set_option maxHeartbeats 2000000 in
theorem tstyled24 (s1 : Int) (s2 s3 s4 : Bool) (w : World) : Calls Tryz.prog 118 #[.agg #[.int .i64 s1, .bool s2, .bool s3, .bool s4], .int .i64 24] w fun e w' => e = .returned (.agg #[.int .i64 s1, .bool s2, .bool false, .bool s4]) ∧ Below w.heap.size w w' := by
  go_enter Tryz.func118, Tryz.ntmps118
  go_wp2_with fail
  exact bodyPost_ret (v := .agg #[.int .i64 s1, .bool s2, .bool false, .bool s4]) (by simp [results, Tryz.results118, go_sem]) rfl ⟨rfl, ((Below.refl _ w).alloc (Nat.le_refl _) _).alloc (by rw [World.size_alloc]; omega) _⟩
set_option maxHeartbeats 2000000 in
theorem tstyled27 (s1 : Int) (s2 s3 s4 : Bool) (w : World) : Calls Tryz.prog 118 #[.agg #[.int .i64 s1, .bool s2, .bool s3, .bool s4], .int .i64 27] w fun e w' => e = .returned (.agg #[.int .i64 s1, .bool s2, .bool s3, .bool false]) ∧ Below w.heap.size w w' := by
  go_enter Tryz.func118, Tryz.ntmps118
  go_wp2_with fail
  exact bodyPost_ret (v := .agg #[.int .i64 s1, .bool s2, .bool s3, .bool false]) (by simp [results, Tryz.results118, go_sem]) rfl ⟨rfl, ((Below.refl _ w).alloc (Nat.le_refl _) _).alloc (by rw [World.size_alloc]; omega) _⟩
set_option maxHeartbeats 2000000 in
theorem tstyled30 (s1 : Int) (s2 s3 s4 : Bool) (w : World) : Calls Tryz.prog 118 #[.agg #[.int .i64 s1, .bool s2, .bool s3, .bool s4], .int .i64 30] w fun e w' => e = .returned (.agg #[.int .i64 1, .bool s2, .bool s3, .bool s4]) ∧ Below w.heap.size w w' := by
  go_enter Tryz.func118, Tryz.ntmps118
  go_wp2_with fail
  exact bodyPost_ret (v := .agg #[.int .i64 1, .bool s2, .bool s3, .bool s4]) (by simp [results, Tryz.results118, go_sem]) rfl ⟨rfl, ((Below.refl _ w).alloc (Nat.le_refl _) _).alloc (by rw [World.size_alloc]; omega) _⟩
set_option maxHeartbeats 2000000 in
theorem tstyled31 (s1 : Int) (s2 s3 s4 : Bool) (w : World) : Calls Tryz.prog 118 #[.agg #[.int .i64 s1, .bool s2, .bool s3, .bool s4], .int .i64 31] w fun e w' => e = .returned (.agg #[.int .i64 2, .bool s2, .bool s3, .bool s4]) ∧ Below w.heap.size w w' := by
  go_enter Tryz.func118, Tryz.ntmps118
  go_wp2_with fail
  exact bodyPost_ret (v := .agg #[.int .i64 2, .bool s2, .bool s3, .bool s4]) (by simp [results, Tryz.results118, go_sem]) rfl ⟨rfl, ((Below.refl _ w).alloc (Nat.le_refl _) _).alloc (by rw [World.size_alloc]; omega) _⟩
set_option maxHeartbeats 2000000 in
theorem tstyled32 (s1 : Int) (s2 s3 s4 : Bool) (w : World) : Calls Tryz.prog 118 #[.agg #[.int .i64 s1, .bool s2, .bool s3, .bool s4], .int .i64 32] w fun e w' => e = .returned (.agg #[.int .i64 3, .bool s2, .bool s3, .bool s4]) ∧ Below w.heap.size w w' := by
  go_enter Tryz.func118, Tryz.ntmps118
  go_wp2_with fail
  exact bodyPost_ret (v := .agg #[.int .i64 3, .bool s2, .bool s3, .bool s4]) (by simp [results, Tryz.results118, go_sem]) rfl ⟨rfl, ((Below.refl _ w).alloc (Nat.le_refl _) _).alloc (by rw [World.size_alloc]; omega) _⟩
set_option maxHeartbeats 2000000 in
theorem tstyled33 (s1 : Int) (s2 s3 s4 : Bool) (w : World) : Calls Tryz.prog 118 #[.agg #[.int .i64 s1, .bool s2, .bool s3, .bool s4], .int .i64 33] w fun e w' => e = .returned (.agg #[.int .i64 4, .bool s2, .bool s3, .bool s4]) ∧ Below w.heap.size w w' := by
  go_enter Tryz.func118, Tryz.ntmps118
  go_wp2_with fail
  exact bodyPost_ret (v := .agg #[.int .i64 4, .bool s2, .bool s3, .bool s4]) (by simp [results, Tryz.results118, go_sem]) rfl ⟨rfl, ((Below.refl _ w).alloc (Nat.le_refl _) _).alloc (by rw [World.size_alloc]; omega) _⟩
set_option maxHeartbeats 2000000 in
theorem tstyled34 (s1 : Int) (s2 s3 s4 : Bool) (w : World) : Calls Tryz.prog 118 #[.agg #[.int .i64 s1, .bool s2, .bool s3, .bool s4], .int .i64 34] w fun e w' => e = .returned (.agg #[.int .i64 5, .bool s2, .bool s3, .bool s4]) ∧ Below w.heap.size w w' := by
  go_enter Tryz.func118, Tryz.ntmps118
  go_wp2_with fail
  exact bodyPost_ret (v := .agg #[.int .i64 5, .bool s2, .bool s3, .bool s4]) (by simp [results, Tryz.results118, go_sem]) rfl ⟨rfl, ((Below.refl _ w).alloc (Nat.le_refl _) _).alloc (by rw [World.size_alloc]; omega) _⟩
set_option maxHeartbeats 2000000 in
theorem tstyled35 (s1 : Int) (s2 s3 s4 : Bool) (w : World) : Calls Tryz.prog 118 #[.agg #[.int .i64 s1, .bool s2, .bool s3, .bool s4], .int .i64 35] w fun e w' => e = .returned (.agg #[.int .i64 6, .bool s2, .bool s3, .bool s4]) ∧ Below w.heap.size w w' := by
  go_enter Tryz.func118, Tryz.ntmps118
  go_wp2_with fail
  exact bodyPost_ret (v := .agg #[.int .i64 6, .bool s2, .bool s3, .bool s4]) (by simp [results, Tryz.results118, go_sem]) rfl ⟨rfl, ((Below.refl _ w).alloc (Nat.le_refl _) _).alloc (by rw [World.size_alloc]; omega) _⟩
set_option maxHeartbeats 2000000 in
theorem tstyled36 (s1 : Int) (s2 s3 s4 : Bool) (w : World) : Calls Tryz.prog 118 #[.agg #[.int .i64 s1, .bool s2, .bool s3, .bool s4], .int .i64 36] w fun e w' => e = .returned (.agg #[.int .i64 7, .bool s2, .bool s3, .bool s4]) ∧ Below w.heap.size w w' := by
  go_enter Tryz.func118, Tryz.ntmps118
  go_wp2_with fail
  exact bodyPost_ret (v := .agg #[.int .i64 7, .bool s2, .bool s3, .bool s4]) (by simp [results, Tryz.results118, go_sem]) rfl ⟨rfl, ((Below.refl _ w).alloc (Nat.le_refl _) _).alloc (by rw [World.size_alloc]; omega) _⟩
set_option maxHeartbeats 2000000 in
theorem tstyled37 (s1 : Int) (s2 s3 s4 : Bool) (w : World) : Calls Tryz.prog 118 #[.agg #[.int .i64 s1, .bool s2, .bool s3, .bool s4], .int .i64 37] w fun e w' => e = .returned (.agg #[.int .i64 8, .bool s2, .bool s3, .bool s4]) ∧ Below w.heap.size w w' := by
  go_enter Tryz.func118, Tryz.ntmps118
  go_wp2_with fail
  exact bodyPost_ret (v := .agg #[.int .i64 8, .bool s2, .bool s3, .bool s4]) (by simp [results, Tryz.results118, go_sem]) rfl ⟨rfl, ((Below.refl _ w).alloc (Nat.le_refl _) _).alloc (by rw [World.size_alloc]; omega) _⟩
set_option maxHeartbeats 2000000 in
theorem tstyled39 (s1 : Int) (s2 s3 s4 : Bool) (w : World) : Calls Tryz.prog 118 #[.agg #[.int .i64 s1, .bool s2, .bool s3, .bool s4], .int .i64 39] w fun e w' => e = .returned (.agg #[.int .i64 0, .bool s2, .bool s3, .bool s4]) ∧ Below w.heap.size w w' := by
  go_enter Tryz.func118, Tryz.ntmps118
  go_wp2_with fail
  exact bodyPost_ret (v := .agg #[.int .i64 0, .bool s2, .bool s3, .bool s4]) (by simp [results, Tryz.results118, go_sem]) rfl ⟨rfl, ((Below.refl _ w).alloc (Nat.le_refl _) _).alloc (by rw [World.size_alloc]; omega) _⟩
set_option maxHeartbeats 2000000 in
theorem tstyled_no (s1 : Int) (s2 s3 s4 : Bool) (n : Int) (w : World) (h0 : (n == 0) = false) (h1 : (n == 1) = false) (h4 : (n == 4) = false) (h7 : (n == 7) = false) (h22 : (n == 22) = false) (h24 : (n == 24) = false) (h27 : (n == 27) = false) (h30 : (n == 30) = false) (h31 : (n == 31) = false) (h32 : (n == 32) = false) (h33 : (n == 33) = false) (h34 : (n == 34) = false) (h35 : (n == 35) = false) (h36 : (n == 36) = false) (h37 : (n == 37) = false) (h39 : (n == 39) = false) : Calls Tryz.prog 118 #[.agg #[.int .i64 s1, .bool s2, .bool s3, .bool s4], .int .i64 n] w fun e w' => e = .returned (.agg #[.int .i64 s1, .bool s2, .bool s3, .bool s4]) ∧ Below w.heap.size w w' := by
  go_enter Tryz.func118, Tryz.ntmps118
  go_wp2_with fail
  exact bodyPost_ret (v := .agg #[.int .i64 s1, .bool s2, .bool s3, .bool s4]) (by simp [results, Tryz.results118, go_sem]) rfl ⟨rfl, ((Below.refl _ w).alloc (Nat.le_refl _) _).alloc (by rw [World.size_alloc]; omega) _⟩
theorem tstyled_any (s : Sty) (n : Nat) (w : World) :
    Calls Tryz.prog 118 #[.agg #[.int .i64 s.1, .bool s.2.1, .bool s.2.2.1, .bool s.2.2.2], .int .i64 (n : Int)] w fun e w' => e = .returned (.agg #[.int .i64 (styN s n).1, .bool (styN s n).2.1, .bool (styN s n).2.2.1, .bool (styN s n).2.2.2]) ∧ Below w.heap.size w w' := by
  obtain ⟨s1, s2, s3, s4⟩ := s
  by_cases h0 : n = 0
  · subst h0; exact tstyled0 s1 s2 s3 s4 w
  by_cases h1 : n = 1
  · subst h1; exact tstyled1 s1 s2 s3 s4 w
  by_cases h4 : n = 4
  · subst h4; exact tstyled4 s1 s2 s3 s4 w
  by_cases h7 : n = 7
  · subst h7; exact tstyled7 s1 s2 s3 s4 w
  by_cases h22 : n = 22
  · subst h22; exact tstyled22 s1 s2 s3 s4 w
  by_cases h24 : n = 24
  · subst h24; exact tstyled24 s1 s2 s3 s4 w
  by_cases h27 : n = 27
  · subst h27; exact tstyled27 s1 s2 s3 s4 w
  by_cases h30 : n = 30
  · subst h30; exact tstyled30 s1 s2 s3 s4 w
  by_cases h31 : n = 31
  · subst h31; exact tstyled31 s1 s2 s3 s4 w
  by_cases h32 : n = 32
  · subst h32; exact tstyled32 s1 s2 s3 s4 w
  by_cases h33 : n = 33
  · subst h33; exact tstyled33 s1 s2 s3 s4 w
  by_cases h34 : n = 34
  · subst h34; exact tstyled34 s1 s2 s3 s4 w
  by_cases h35 : n = 35
  · subst h35; exact tstyled35 s1 s2 s3 s4 w
  by_cases h36 : n = 36
  · subst h36; exact tstyled36 s1 s2 s3 s4 w
  by_cases h37 : n = 37
  · subst h37; exact tstyled37 s1 s2 s3 s4 w
  by_cases h39 : n = 39
  · subst h39; exact tstyled39 s1 s2 s3 s4 w
  have e : styN (s1, s2, s3, s4) n = (s1, s2, s3, s4) := by
    unfold styN
    rw [if_neg h0, if_neg (by omega), if_neg (by omega), if_neg (by omega), if_neg (by omega), if_neg h39]
  rw [e]
  exact tstyled_no s1 s2 s3 s4 n w (by rw [beq_eq_false_iff_ne]; omega) (by rw [beq_eq_false_iff_ne]; omega) (by rw [beq_eq_false_iff_ne]; omega) (by rw [beq_eq_false_iff_ne]; omega) (by rw [beq_eq_false_iff_ne]; omega) (by rw [beq_eq_false_iff_ne]; omega) (by rw [beq_eq_false_iff_ne]; omega) (by rw [beq_eq_false_iff_ne]; omega) (by rw [beq_eq_false_iff_ne]; omega) (by rw [beq_eq_false_iff_ne]; omega) (by rw [beq_eq_false_iff_ne]; omega) (by rw [beq_eq_false_iff_ne]; omega) (by rw [beq_eq_false_iff_ne]; omega) (by rw [beq_eq_false_iff_ne]; omega) (by rw [beq_eq_false_iff_ne]; omega) (by rw [beq_eq_false_iff_ne]; omega)
end Go.Proofs.YtpkjaallhhjleaaGreatDoor

/-
  limnerref07.whole, Begins: what each call returns: for every text.
-/
namespace Go.Proofs.YtpkjaallhhjleaaGreatDoor
open Go.RowKit

set_option maxHeartbeats 2000000 in
theorem whole_any (s : ByteArray) (w : World) (h0 : 0 < s.size) (hs : s.size ≤ maxLen) :
    Calls Tryz.prog 62 #[.string s] w fun e w' => e = .returned (.bool (wholeB s)) ∧ Below w.heap.size w w' := by
  have H := Lib.hid (refNext_in s 0 w h0 hs)
  have HR : Hid (wholeB s = (okAt s 0 && decide ((Utf8.decode s 0).2 = s.size))) := rfl
  rw [HR.out]
  obtain ⟨R, hR⟩ : ∃ R, (Utf8.decode s 0).1 = R := ⟨_, rfl⟩
  obtain ⟨K, hK⟩ : ∃ K, (Utf8.decode s 0).2 = K := ⟨_, rfl⟩
  rw [hR, hK] at H
  rw [hK]
  clear hR hK HR
  cases hb : okAt s 0 with
  | false =>
    rw [hb] at H
    clear hb
    go_enter Tryz.func62, Tryz.ntmps62
    go_wp2_with fail
    go_fit H.out
    rintro e w1 ⟨rfl, hb1⟩
    go_wp2_with fail
    go_ret
    exact ⟨rfl, hb1⟩
  | true =>
    rw [hb] at H
    clear hb
    go_enter Tryz.func62, Tryz.ntmps62
    go_wp2_with fail
    go_fit H.out
    rintro e w1 ⟨rfl, hb1⟩
    go_wp2_with fail
    go_ret
    refine ⟨?_, hb1⟩
    congr 2
    by_cases e : K = s.size
    · rw [e]; simp
    · have e1 : ((K : Int) == (s.size : Int)) = false := beq_false_of_ne (by omega)
      rw [e1]; simp [e]

/-- How long a text is. -/
def strSz : Value → Nat
  | .string s => s.size
  | _ => 0
set_option maxRecDepth 20000 in
set_option maxHeartbeats 4000000 in
theorem begins_any (s : ByteArray) (w : World) (hs : s.size ≤ 100000) (h0 : 0 < s.size) :
    Calls Tryz.prog 65 #[.string s] w fun e w' => e = .returned (.bool (begB s)) ∧ Below w.heap.size w w' := by
  have e0 : (s[0].toNat : Int) = (bt s 0 : Int) := by unfold bt; rw [show s.get! 0 = s[0] from get_at s 0 h0]
  have hl := bt_lt s 0
  have hbf := beg_first s
  have hbp := beg_pad s
  have HX := Lib.hid (fun (r : Bool) (h : r = true ↔ Beg s) => (show begB s = r by unfold begB; cases r <;> simp_all))
  have hne : s.toList.isEmpty = false := by
    cases h : s.toList with
    | nil => rw [Lib.toList_data] at h; have h2 := Lib.size_eq s; rw [h] at h2; have h3 : s.size = 0 := h2; omega
    | cons _ _ => rfl
  have hne2 : (s.toList == []) = false := by
    cases h : s.toList with
    | nil => rw [h] at hne; cases hne
    | cons _ _ => rfl
  obtain ⟨b, hb⟩ : ∃ b, bt s 0 = b := ⟨_, rfl⟩
  rw [hb] at e0 hl hbf hbp
  have HBF := Lib.hid hbf
  have HBP := Lib.hid hbp
  clear hbf hbp hb
  by_cases h1 : b < 194
  · have i1 : (b : Int) < 194 := by omega
    have HR : Hid (begB s = false) := HX.out false ⟨(fun h => by cases h), fun h => by have := (HBF.out h).2.1; omega⟩
    clear HX HBF HBP
    go_enter Tryz.func65, Tryz.ntmps65
    go_wp2_with fail
    go_ret
    exact ⟨by rw [HR.out]; rfl, Below.refl _ _⟩
  · have i1 : (194 : Int) ≤ (b : Int) := by omega
    by_cases h2 : 244 < b
    · have i2 : (244 : Int) < (b : Int) := by omega
      have HR : Hid (begB s = false) := HX.out false ⟨(fun h => by cases h), fun h => by have := (HBF.out h).2.2.1; omega⟩
      clear HX HBF HBP
      go_enter Tryz.func65, Tryz.ntmps65
      go_wp2_with fail
      go_ret
      exact ⟨by rw [HR.out]; rfl, Below.refl _ _⟩
    · have i2 : (b : Int) ≤ 244 := by omega
      by_cases k1 : b < 224
      · have j1 : (b : Int) < 224 := by omega
        have j2 : (b : Int) < 240 := by omega
        have hlen : lenN b = 2 := by
          unfold lenN
          rw [if_pos (by omega)]
        rw [hlen] at HBP HBF
        by_cases hn : s.size < 2
        · have hni : (s.size : Int) < 2 := by omega
          have HPB := Lib.hid (HBP.out (by omega) (by omega) h0 hn)
          have WA := Lib.hid (fun c W => whole_any (padB s c 2) W (by rw [pad_size _ _ _ (by omega)]; decide) (by rw [pad_size _ _ _ (by omega)]; decide))
          have PZ := Lib.hid (fun c => pad_zero s c s.size (Nat.le_refl _))
          have PT := Lib.hid (fun t c (h1 : t = padB s c t.size) (h2 : s.size ≤ t.size) (h3 : t.size < 2) => pad_step s t c 2 h3 h1 h2)
          clear HBF HBP hlen
          go_enter Tryz.func65, Tryz.ntmps65
          go_wp2_with fail
          go_loop [4, 5] (fun lo hi => ∃ L H : ByteArray, lo = .string L ∧ hi = .string H ∧ L.size = H.size ∧ s.size ≤ L.size ∧ L.size ≤ 2 ∧ Hid (L = padB s 128 L.size) ∧ Hid (H = padB s 191 H.size)) (fun lo _ => 2 - strSz lo)
          case atStart => exact ⟨s, s, rfl, rfl, rfl, Nat.le_refl _, by omega, (PZ.out 128).symm, (PZ.out 191).symm⟩
          case round =>
            obtain ⟨L, H, rfl, rfl, hLH, hsL, hLn, HL, HH⟩ := hrel
            by_cases hr : L.size < 2
            · have hri : (L.size : Int) < 2 := by omega
              have q1 := PT.out L 128 HL.out hsL hr
              have q2 := PT.out H 191 HH.out (by omega) (by omega)
              have z1 : (L ++ ⟨#[128]⟩).size = L.size + 1 := by rw [app_size]; rfl
              have z2 : (H ++ ⟨#[191]⟩).size = H.size + 1 := by rw [app_size]; rfl
              have HL2 : Hid (L ++ ⟨#[128]⟩ = padB s 128 (L ++ ⟨#[128]⟩).size) := by show _ = _; rw [z1]; exact q1
              have HH2 : Hid (H ++ ⟨#[191]⟩ = padB s 191 (H ++ ⟨#[191]⟩).size) := by show _ = _; rw [z2]; exact q2
              clear q1 q2 PT
              go_wp2_with fail
              go_round
              case rel => exact ⟨_, _, rfl, rfl, by rw [z1, z2, hLH], by rw [z1]; omega, by rw [z1]; omega, HL2, HH2⟩
              case measure => show 2 - (L ++ _).size < 2 - L.size; rw [z1]; omega
            · have e1 : L.size = 2 := by omega
              have HL2 : Hid (L = padB s 128 2) := by show _ = _; have := HL.out; rw [e1] at this; exact this
              have HH2 : Hid (H = padB s 191 2) := by show _ = _; have := HH.out; rw [← hLH, e1] at this; exact this
              have W1 := Lib.hid (fun W => WA.out 128 W)
              have W2 := Lib.hid (fun W => WA.out 191 W)
              have P0 := HPB.out
              rw [← HL2.out] at W1 P0
              rw [← HH2.out] at W2 P0
              clear HL HH WA PT PZ HPB HL2 HH2
              cases c1 : wholeB L with
              | true =>
                have HR : Hid (begB s = true) := HX.out true ⟨fun _ => P0.1 (.inl c1), fun _ => rfl⟩
                rw [c1] at W1
                clear P0 HX c1
                go_wp2_with fail
                go_fit (W1.out _)
                rintro e w1 ⟨rfl, hb1⟩
                go_wp2_with fail
                go_ret
                exact ⟨by rw [HR.out]; rfl, hb1⟩
              | false =>
                rw [c1] at W1
                cases c2 : wholeB H with
                | true =>
                  have HR : Hid (begB s = true) := HX.out true ⟨fun _ => P0.1 (.inr (.inl c2)), fun _ => rfl⟩
                  rw [c2] at W2
                  clear P0 HX c1 c2
                  go_wp2_with fail
                  go_fit (W1.out _)
                  rintro e w1 ⟨rfl, hb1⟩
                  go_wp2_with fail
                  go_fit (W2.out _)
                  rintro e w2 ⟨rfl, hb2⟩
                  go_wp2_with fail
                  go_ret
                  exact ⟨by rw [HR.out]; rfl, hb1.trans (hb2.mono hb1.size)⟩
                | false =>
                  rw [c2] at W2
                  have HR : Hid (begB s = false) := HX.out false ⟨(fun h => by cases h), fun h => absurd (P0.2 h) (by rintro (h | h | h) <;> first | (rw [c1] at h; cases h) | (rw [c2] at h; cases h) | omega)⟩
                  clear P0 HX c1 c2
                  go_wp2_with fail
                  go_fit (W1.out _)
                  rintro e w1 ⟨rfl, hb1⟩
                  go_wp2_with fail
                  go_fit (W2.out _)
                  rintro e w2 ⟨rfl, hb2⟩
                  go_wp2_with fail
                  go_ret
                  exact ⟨by rw [HR.out]; rfl, hb1.trans (hb2.mono hb1.size)⟩
        · have hni : (2 : Int) ≤ (s.size : Int) := by omega
          have HR : Hid (begB s = false) := HX.out false ⟨(fun h => by cases h), fun h => by have := (HBF.out h).2.2.2; omega⟩
          clear HX HBF HBP hlen
          go_enter Tryz.func65, Tryz.ntmps65
          go_wp2_with fail
          go_ret
          exact ⟨by rw [HR.out]; rfl, Below.refl _ _⟩
      · by_cases k2 : b < 240
        · have j1 : (224 : Int) ≤ (b : Int) := by omega
          have j2 : (b : Int) < 240 := by omega
          have hlen : lenN b = 3 := by
            unfold lenN
            rw [if_neg (by omega), if_pos (by omega)]
          rw [hlen] at HBP HBF
          by_cases hn : s.size < 3
          · have hni : (s.size : Int) < 3 := by omega
            have HPB := Lib.hid (HBP.out (by omega) (by omega) h0 hn)
            have WA := Lib.hid (fun c W => whole_any (padB s c 3) W (by rw [pad_size _ _ _ (by omega)]; decide) (by rw [pad_size _ _ _ (by omega)]; decide))
            have PZ := Lib.hid (fun c => pad_zero s c s.size (Nat.le_refl _))
            have PT := Lib.hid (fun t c (h1 : t = padB s c t.size) (h2 : s.size ≤ t.size) (h3 : t.size < 3) => pad_step s t c 3 h3 h1 h2)
            clear HBF HBP hlen
            go_enter Tryz.func65, Tryz.ntmps65
            go_wp2_with fail
            go_loop [4, 5] (fun lo hi => ∃ L H : ByteArray, lo = .string L ∧ hi = .string H ∧ L.size = H.size ∧ s.size ≤ L.size ∧ L.size ≤ 3 ∧ Hid (L = padB s 128 L.size) ∧ Hid (H = padB s 191 H.size)) (fun lo _ => 3 - strSz lo)
            case atStart => exact ⟨s, s, rfl, rfl, rfl, Nat.le_refl _, by omega, (PZ.out 128).symm, (PZ.out 191).symm⟩
            case round =>
              obtain ⟨L, H, rfl, rfl, hLH, hsL, hLn, HL, HH⟩ := hrel
              by_cases hr : L.size < 3
              · have hri : (L.size : Int) < 3 := by omega
                have q1 := PT.out L 128 HL.out hsL hr
                have q2 := PT.out H 191 HH.out (by omega) (by omega)
                have z1 : (L ++ ⟨#[128]⟩).size = L.size + 1 := by rw [app_size]; rfl
                have z2 : (H ++ ⟨#[191]⟩).size = H.size + 1 := by rw [app_size]; rfl
                have HL2 : Hid (L ++ ⟨#[128]⟩ = padB s 128 (L ++ ⟨#[128]⟩).size) := by show _ = _; rw [z1]; exact q1
                have HH2 : Hid (H ++ ⟨#[191]⟩ = padB s 191 (H ++ ⟨#[191]⟩).size) := by show _ = _; rw [z2]; exact q2
                clear q1 q2 PT
                go_wp2_with fail
                go_round
                case rel => exact ⟨_, _, rfl, rfl, by rw [z1, z2, hLH], by rw [z1]; omega, by rw [z1]; omega, HL2, HH2⟩
                case measure => show 3 - (L ++ _).size < 3 - L.size; rw [z1]; omega
              · have e1 : L.size = 3 := by omega
                have HL2 : Hid (L = padB s 128 3) := by show _ = _; have := HL.out; rw [e1] at this; exact this
                have HH2 : Hid (H = padB s 191 3) := by show _ = _; have := HH.out; rw [← hLH, e1] at this; exact this
                have W1 := Lib.hid (fun W => WA.out 128 W)
                have W2 := Lib.hid (fun W => WA.out 191 W)
                have P0 := HPB.out
                rw [← HL2.out] at W1 P0
                rw [← HH2.out] at W2 P0
                clear HL HH WA PT PZ HPB HL2 HH2
                cases c1 : wholeB L with
                | true =>
                  have HR : Hid (begB s = true) := HX.out true ⟨fun _ => P0.1 (.inl c1), fun _ => rfl⟩
                  rw [c1] at W1
                  clear P0 HX c1
                  go_wp2_with fail
                  go_fit (W1.out _)
                  rintro e w1 ⟨rfl, hb1⟩
                  go_wp2_with fail
                  go_ret
                  exact ⟨by rw [HR.out]; rfl, hb1⟩
                | false =>
                  rw [c1] at W1
                  cases c2 : wholeB H with
                  | true =>
                    have HR : Hid (begB s = true) := HX.out true ⟨fun _ => P0.1 (.inr (.inl c2)), fun _ => rfl⟩
                    rw [c2] at W2
                    clear P0 HX c1 c2
                    go_wp2_with fail
                    go_fit (W1.out _)
                    rintro e w1 ⟨rfl, hb1⟩
                    go_wp2_with fail
                    go_fit (W2.out _)
                    rintro e w2 ⟨rfl, hb2⟩
                    go_wp2_with fail
                    go_ret
                    exact ⟨by rw [HR.out]; rfl, hb1.trans (hb2.mono hb1.size)⟩
                  | false =>
                    rw [c2] at W2
                    by_cases m1 : s.size = 1
                    · have HR : Hid (begB s = true) := HX.out true ⟨fun _ => P0.1 (.inr (.inr ⟨by omega, m1⟩)), fun _ => rfl⟩
                      clear P0 HX c1 c2
                      go_wp2_with fail
                      go_fit (W1.out _)
                      rintro e w1 ⟨rfl, hb1⟩
                      go_wp2_with fail
                      go_fit (W2.out _)
                      rintro e w2 ⟨rfl, hb2⟩
                      go_wp2_with fail
                      go_ret
                      exact ⟨by rw [HR.out]; first | rfl | (rw [m1]; rfl) | simp [m1], hb1.trans (hb2.mono hb1.size)⟩
                    · have HR : Hid (begB s = false) := HX.out false ⟨(fun h => by cases h), fun h => absurd (P0.2 h) (by rintro (h | h | h) <;> first | (rw [c1] at h; cases h) | (rw [c2] at h; cases h) | exact m1 h.2)⟩
                      have m1i : ((s.size : Int) == 1) = false := beq_false_of_ne (by omega)
                      clear P0 HX c1 c2
                      go_wp2_with fail
                      go_fit (W1.out _)
                      rintro e w1 ⟨rfl, hb1⟩
                      go_wp2_with fail
                      go_fit (W2.out _)
                      rintro e w2 ⟨rfl, hb2⟩
                      go_wp2_with fail
                      go_ret
                      exact ⟨by rw [HR.out]; first | rfl | (rw [m1i]; rfl) | simp [m1], hb1.trans (hb2.mono hb1.size)⟩
          · have hni : (3 : Int) ≤ (s.size : Int) := by omega
            have HR : Hid (begB s = false) := HX.out false ⟨(fun h => by cases h), fun h => by have := (HBF.out h).2.2.2; omega⟩
            clear HX HBF HBP hlen
            go_enter Tryz.func65, Tryz.ntmps65
            go_wp2_with fail
            go_ret
            exact ⟨by rw [HR.out]; rfl, Below.refl _ _⟩
        · have j1 : (224 : Int) ≤ (b : Int) := by omega
          have j2 : (240 : Int) ≤ (b : Int) := by omega
          have hlen : lenN b = 4 := by
            unfold lenN
            rw [if_neg (by omega), if_neg (by omega)]
          rw [hlen] at HBP HBF
          by_cases hn : s.size < 4
          · have hni : (s.size : Int) < 4 := by omega
            have HPB := Lib.hid (HBP.out (by omega) (by omega) h0 hn)
            have WA := Lib.hid (fun c W => whole_any (padB s c 4) W (by rw [pad_size _ _ _ (by omega)]; decide) (by rw [pad_size _ _ _ (by omega)]; decide))
            have PZ := Lib.hid (fun c => pad_zero s c s.size (Nat.le_refl _))
            have PT := Lib.hid (fun t c (h1 : t = padB s c t.size) (h2 : s.size ≤ t.size) (h3 : t.size < 4) => pad_step s t c 4 h3 h1 h2)
            clear HBF HBP hlen
            go_enter Tryz.func65, Tryz.ntmps65
            go_wp2_with fail
            go_loop [4, 5] (fun lo hi => ∃ L H : ByteArray, lo = .string L ∧ hi = .string H ∧ L.size = H.size ∧ s.size ≤ L.size ∧ L.size ≤ 4 ∧ Hid (L = padB s 128 L.size) ∧ Hid (H = padB s 191 H.size)) (fun lo _ => 4 - strSz lo)
            case atStart => exact ⟨s, s, rfl, rfl, rfl, Nat.le_refl _, by omega, (PZ.out 128).symm, (PZ.out 191).symm⟩
            case round =>
              obtain ⟨L, H, rfl, rfl, hLH, hsL, hLn, HL, HH⟩ := hrel
              by_cases hr : L.size < 4
              · have hri : (L.size : Int) < 4 := by omega
                have q1 := PT.out L 128 HL.out hsL hr
                have q2 := PT.out H 191 HH.out (by omega) (by omega)
                have z1 : (L ++ ⟨#[128]⟩).size = L.size + 1 := by rw [app_size]; rfl
                have z2 : (H ++ ⟨#[191]⟩).size = H.size + 1 := by rw [app_size]; rfl
                have HL2 : Hid (L ++ ⟨#[128]⟩ = padB s 128 (L ++ ⟨#[128]⟩).size) := by show _ = _; rw [z1]; exact q1
                have HH2 : Hid (H ++ ⟨#[191]⟩ = padB s 191 (H ++ ⟨#[191]⟩).size) := by show _ = _; rw [z2]; exact q2
                clear q1 q2 PT
                go_wp2_with fail
                go_round
                case rel => exact ⟨_, _, rfl, rfl, by rw [z1, z2, hLH], by rw [z1]; omega, by rw [z1]; omega, HL2, HH2⟩
                case measure => show 4 - (L ++ _).size < 4 - L.size; rw [z1]; omega
              · have e1 : L.size = 4 := by omega
                have HL2 : Hid (L = padB s 128 4) := by show _ = _; have := HL.out; rw [e1] at this; exact this
                have HH2 : Hid (H = padB s 191 4) := by show _ = _; have := HH.out; rw [← hLH, e1] at this; exact this
                have W1 := Lib.hid (fun W => WA.out 128 W)
                have W2 := Lib.hid (fun W => WA.out 191 W)
                have P0 := HPB.out
                rw [← HL2.out] at W1 P0
                rw [← HH2.out] at W2 P0
                clear HL HH WA PT PZ HPB HL2 HH2
                cases c1 : wholeB L with
                | true =>
                  have HR : Hid (begB s = true) := HX.out true ⟨fun _ => P0.1 (.inl c1), fun _ => rfl⟩
                  rw [c1] at W1
                  clear P0 HX c1
                  go_wp2_with fail
                  go_fit (W1.out _)
                  rintro e w1 ⟨rfl, hb1⟩
                  go_wp2_with fail
                  go_ret
                  exact ⟨by rw [HR.out]; rfl, hb1⟩
                | false =>
                  rw [c1] at W1
                  cases c2 : wholeB H with
                  | true =>
                    have HR : Hid (begB s = true) := HX.out true ⟨fun _ => P0.1 (.inr (.inl c2)), fun _ => rfl⟩
                    rw [c2] at W2
                    clear P0 HX c1 c2
                    go_wp2_with fail
                    go_fit (W1.out _)
                    rintro e w1 ⟨rfl, hb1⟩
                    go_wp2_with fail
                    go_fit (W2.out _)
                    rintro e w2 ⟨rfl, hb2⟩
                    go_wp2_with fail
                    go_ret
                    exact ⟨by rw [HR.out]; rfl, hb1.trans (hb2.mono hb1.size)⟩
                  | false =>
                    rw [c2] at W2
                    by_cases m1 : s.size = 1
                    · have HR : Hid (begB s = true) := HX.out true ⟨fun _ => P0.1 (.inr (.inr ⟨by omega, m1⟩)), fun _ => rfl⟩
                      clear P0 HX c1 c2
                      go_wp2_with fail
                      go_fit (W1.out _)
                      rintro e w1 ⟨rfl, hb1⟩
                      go_wp2_with fail
                      go_fit (W2.out _)
                      rintro e w2 ⟨rfl, hb2⟩
                      go_wp2_with fail
                      go_ret
                      exact ⟨by rw [HR.out]; first | rfl | (rw [m1]; rfl) | simp [m1], hb1.trans (hb2.mono hb1.size)⟩
                    · have HR : Hid (begB s = false) := HX.out false ⟨(fun h => by cases h), fun h => absurd (P0.2 h) (by rintro (h | h | h) <;> first | (rw [c1] at h; cases h) | (rw [c2] at h; cases h) | exact m1 h.2)⟩
                      have m1i : ((s.size : Int) == 1) = false := beq_false_of_ne (by omega)
                      clear P0 HX c1 c2
                      go_wp2_with fail
                      go_fit (W1.out _)
                      rintro e w1 ⟨rfl, hb1⟩
                      go_wp2_with fail
                      go_fit (W2.out _)
                      rintro e w2 ⟨rfl, hb2⟩
                      go_wp2_with fail
                      go_ret
                      exact ⟨by rw [HR.out]; first | rfl | (rw [m1i]; rfl) | simp [m1], hb1.trans (hb2.mono hb1.size)⟩
          · have hni : (4 : Int) ≤ (s.size : Int) := by omega
            have HR : Hid (begB s = false) := HX.out false ⟨(fun h => by cases h), fun h => by have := (HBF.out h).2.2.2; omega⟩
            clear HX HBF HBP hlen
            go_enter Tryz.func65, Tryz.ntmps65
            go_wp2_with fail
            go_ret
            exact ⟨by rw [HR.out]; rfl, Below.refl _ _⟩
end Go.Proofs.YtpkjaallhhjleaaGreatDoor

/-
  limnerref08: number, within, look: what each returns.
-/
namespace Go.Proofs.YtpkjaallhhjleaaGreatDoor
open Go.RowKit

set_option maxHeartbeats 1000000 in
theorem rnumber_any {ok : Nat → Prop} {v : Value} {l : List Nat} (i : Nat) (w : World) (h : NumsW ok w v l) (_hl : l.length ≤ 1000000) (_hi : i ≤ 1000) :
    Calls Tryz.prog 69 #[v, .int .i64 (i : Int)] w fun e w' => e = .returned (.int .i64 ((l.getD i 0 : Nat) : Int)) ∧ w' = w := by
  by_cases hlt : i < l.length
  · obtain ⟨n, hn⟩ : ∃ n, l[i]? = some n := ⟨_, List.getElem?_eq_getElem hlt⟩
    obtain ⟨g, o, cap, rfl, hc⟩ := nums_at h hn
    have e : l.getD i 0 = n := by rw [List.getD_eq_getElem?_getD, hn]; rfl
    rw [e]
    obtain ⟨m, hm⟩ : ∃ m, l.length = m := ⟨_, rfl⟩
    rw [hm] at hlt ⊢
    have i1 : (i : Int) < (m : Int) := by omega
    have i0 : (0 : Int) ≤ (i : Int) := by omega
    clear h e hn hm
    go_enter Tryz.func69, Tryz.ntmps69
    go_wp2_with fail
    all_goals first | (exfalso; omega) | skip
    go_ret
    exact ⟨rfl, rfl⟩
  · obtain ⟨ao, cap, rfl, hc, _⟩ := h.1
    have e : l.getD i 0 = 0 := by rw [List.getD_eq_getElem?_getD, List.getElem?_eq_none (by omega)]; rfl
    rw [e]
    obtain ⟨m, hm⟩ : ∃ m, l.length = m := ⟨_, rfl⟩
    rw [hm] at hlt hc ⊢
    have i1 : ¬ (i : Int) < (m : Int) := by omega
    clear h e hm
    go_enter Tryz.func69, Tryz.ntmps69
    go_wp2_with fail
    all_goals first | (exfalso; omega) | skip
    go_ret
    exact ⟨rfl, rfl⟩
set_option maxHeartbeats 1000000 in
theorem rwithin_any (x c : Int) (w : World) (hc : 1 ≤ c ∧ c ≤ 1000) : Calls Tryz.prog 70 #[.int .i64 x, .int .i64 c] w fun e w' => e = .returned (.int .i64 (min (max 0 x) (c - 1))) ∧ w' = w := by
  obtain ⟨h1, h2⟩ := hc
  have HZ : Hid (∀ y, y = min (max 0 x) (c - 1) → (.returned (.int .i64 y) : Ending) = .returned (.int .i64 (min (max 0 x) (c - 1)))) := fun y hy => by rw [hy]
  go_enter Tryz.func70, Tryz.ntmps70
  go_wp2_with fail
  all_goals (go_ret; exact ⟨HZ.out _ (by omega), rfl⟩)

set_option maxHeartbeats 2000000 in
theorem rlook0 (s1 : Int) (s2 s3 s4 : Bool) (w : World) : Calls Tryz.prog 72 #[.agg #[.int .i64 s1, .bool s2, .bool s3, .bool s4], .int .i64 0] w fun e w' => e = .returned (.agg #[.int .i64 0, .bool false, .bool false, .bool false]) ∧ Below w.heap.size w w' := by
  go_enter Tryz.func72, Tryz.ntmps72
  go_wp2_with fail
  exact bodyPost_ret (v := .agg #[.int .i64 0, .bool false, .bool false, .bool false]) (by simp [results, Tryz.results72, go_sem]) rfl ⟨rfl, ((Below.refl _ w).alloc (Nat.le_refl _) _).alloc (by rw [World.size_alloc]; omega) _⟩
set_option maxHeartbeats 2000000 in
theorem rlook1 (s1 : Int) (s2 s3 s4 : Bool) (w : World) : Calls Tryz.prog 72 #[.agg #[.int .i64 s1, .bool s2, .bool s3, .bool s4], .int .i64 1] w fun e w' => e = .returned (.agg #[.int .i64 s1, .bool true, .bool s3, .bool s4]) ∧ Below w.heap.size w w' := by
  go_enter Tryz.func72, Tryz.ntmps72
  go_wp2_with fail
  exact bodyPost_ret (v := .agg #[.int .i64 s1, .bool true, .bool s3, .bool s4]) (by simp [results, Tryz.results72, go_sem]) rfl ⟨rfl, ((Below.refl _ w).alloc (Nat.le_refl _) _).alloc (by rw [World.size_alloc]; omega) _⟩
set_option maxHeartbeats 2000000 in
theorem rlook4 (s1 : Int) (s2 s3 s4 : Bool) (w : World) : Calls Tryz.prog 72 #[.agg #[.int .i64 s1, .bool s2, .bool s3, .bool s4], .int .i64 4] w fun e w' => e = .returned (.agg #[.int .i64 s1, .bool s2, .bool true, .bool s4]) ∧ Below w.heap.size w w' := by
  go_enter Tryz.func72, Tryz.ntmps72
  go_wp2_with fail
  exact bodyPost_ret (v := .agg #[.int .i64 s1, .bool s2, .bool true, .bool s4]) (by simp [results, Tryz.results72, go_sem]) rfl ⟨rfl, ((Below.refl _ w).alloc (Nat.le_refl _) _).alloc (by rw [World.size_alloc]; omega) _⟩
set_option maxHeartbeats 2000000 in
theorem rlook7 (s1 : Int) (s2 s3 s4 : Bool) (w : World) : Calls Tryz.prog 72 #[.agg #[.int .i64 s1, .bool s2, .bool s3, .bool s4], .int .i64 7] w fun e w' => e = .returned (.agg #[.int .i64 s1, .bool s2, .bool s3, .bool true]) ∧ Below w.heap.size w w' := by
  go_enter Tryz.func72, Tryz.ntmps72
  go_wp2_with fail
  exact bodyPost_ret (v := .agg #[.int .i64 s1, .bool s2, .bool s3, .bool true]) (by simp [results, Tryz.results72, go_sem]) rfl ⟨rfl, ((Below.refl _ w).alloc (Nat.le_refl _) _).alloc (by rw [World.size_alloc]; omega) _⟩
set_option maxHeartbeats 2000000 in
theorem rlook22 (s1 : Int) (s2 s3 s4 : Bool) (w : World) : Calls Tryz.prog 72 #[.agg #[.int .i64 s1, .bool s2, .bool s3, .bool s4], .int .i64 22] w fun e w' => e = .returned (.agg #[.int .i64 s1, .bool false, .bool s3, .bool s4]) ∧ Below w.heap.size w w' := by
  go_enter Tryz.func72, Tryz.ntmps72
  go_wp2_with fail
  exact bodyPost_ret (v := .agg #[.int .i64 s1, .bool false, .bool s3, .bool s4]) (by simp [results, Tryz.results72, go_sem]) rfl ⟨rfl, ((Below.refl _ w).alloc (Nat.le_refl _) _).alloc (by rw [World.size_alloc]; omega) _⟩
set_option maxHeartbeats 2000000 in
theorem rlook24 (s1 : Int) (s2 s3 s4 : Bool) (w : World) : Calls Tryz.prog 72 #[.agg #[.int .i64 s1, .bool s2, .bool s3, .bool s4], .int .i64 24] w fun e w' => e = .returned (.agg #[.int .i64 s1, .bool s2, .bool false, .bool s4]) ∧ Below w.heap.size w w' := by
  go_enter Tryz.func72, Tryz.ntmps72
  go_wp2_with fail
  exact bodyPost_ret (v := .agg #[.int .i64 s1, .bool s2, .bool false, .bool s4]) (by simp [results, Tryz.results72, go_sem]) rfl ⟨rfl, ((Below.refl _ w).alloc (Nat.le_refl _) _).alloc (by rw [World.size_alloc]; omega) _⟩
set_option maxHeartbeats 2000000 in
theorem rlook27 (s1 : Int) (s2 s3 s4 : Bool) (w : World) : Calls Tryz.prog 72 #[.agg #[.int .i64 s1, .bool s2, .bool s3, .bool s4], .int .i64 27] w fun e w' => e = .returned (.agg #[.int .i64 s1, .bool s2, .bool s3, .bool false]) ∧ Below w.heap.size w w' := by
  go_enter Tryz.func72, Tryz.ntmps72
  go_wp2_with fail
  exact bodyPost_ret (v := .agg #[.int .i64 s1, .bool s2, .bool s3, .bool false]) (by simp [results, Tryz.results72, go_sem]) rfl ⟨rfl, ((Below.refl _ w).alloc (Nat.le_refl _) _).alloc (by rw [World.size_alloc]; omega) _⟩
set_option maxHeartbeats 2000000 in
theorem rlook30 (s1 : Int) (s2 s3 s4 : Bool) (w : World) : Calls Tryz.prog 72 #[.agg #[.int .i64 s1, .bool s2, .bool s3, .bool s4], .int .i64 30] w fun e w' => e = .returned (.agg #[.int .i64 1, .bool s2, .bool s3, .bool s4]) ∧ Below w.heap.size w w' := by
  go_enter Tryz.func72, Tryz.ntmps72
  go_wp2_with fail
  exact bodyPost_ret (v := .agg #[.int .i64 1, .bool s2, .bool s3, .bool s4]) (by simp [results, Tryz.results72, go_sem]) rfl ⟨rfl, ((Below.refl _ w).alloc (Nat.le_refl _) _).alloc (by rw [World.size_alloc]; omega) _⟩
set_option maxHeartbeats 2000000 in
theorem rlook31 (s1 : Int) (s2 s3 s4 : Bool) (w : World) : Calls Tryz.prog 72 #[.agg #[.int .i64 s1, .bool s2, .bool s3, .bool s4], .int .i64 31] w fun e w' => e = .returned (.agg #[.int .i64 2, .bool s2, .bool s3, .bool s4]) ∧ Below w.heap.size w w' := by
  go_enter Tryz.func72, Tryz.ntmps72
  go_wp2_with fail
  exact bodyPost_ret (v := .agg #[.int .i64 2, .bool s2, .bool s3, .bool s4]) (by simp [results, Tryz.results72, go_sem]) rfl ⟨rfl, ((Below.refl _ w).alloc (Nat.le_refl _) _).alloc (by rw [World.size_alloc]; omega) _⟩
set_option maxHeartbeats 2000000 in
theorem rlook32 (s1 : Int) (s2 s3 s4 : Bool) (w : World) : Calls Tryz.prog 72 #[.agg #[.int .i64 s1, .bool s2, .bool s3, .bool s4], .int .i64 32] w fun e w' => e = .returned (.agg #[.int .i64 3, .bool s2, .bool s3, .bool s4]) ∧ Below w.heap.size w w' := by
  go_enter Tryz.func72, Tryz.ntmps72
  go_wp2_with fail
  exact bodyPost_ret (v := .agg #[.int .i64 3, .bool s2, .bool s3, .bool s4]) (by simp [results, Tryz.results72, go_sem]) rfl ⟨rfl, ((Below.refl _ w).alloc (Nat.le_refl _) _).alloc (by rw [World.size_alloc]; omega) _⟩
set_option maxHeartbeats 2000000 in
theorem rlook33 (s1 : Int) (s2 s3 s4 : Bool) (w : World) : Calls Tryz.prog 72 #[.agg #[.int .i64 s1, .bool s2, .bool s3, .bool s4], .int .i64 33] w fun e w' => e = .returned (.agg #[.int .i64 4, .bool s2, .bool s3, .bool s4]) ∧ Below w.heap.size w w' := by
  go_enter Tryz.func72, Tryz.ntmps72
  go_wp2_with fail
  exact bodyPost_ret (v := .agg #[.int .i64 4, .bool s2, .bool s3, .bool s4]) (by simp [results, Tryz.results72, go_sem]) rfl ⟨rfl, ((Below.refl _ w).alloc (Nat.le_refl _) _).alloc (by rw [World.size_alloc]; omega) _⟩
set_option maxHeartbeats 2000000 in
theorem rlook34 (s1 : Int) (s2 s3 s4 : Bool) (w : World) : Calls Tryz.prog 72 #[.agg #[.int .i64 s1, .bool s2, .bool s3, .bool s4], .int .i64 34] w fun e w' => e = .returned (.agg #[.int .i64 5, .bool s2, .bool s3, .bool s4]) ∧ Below w.heap.size w w' := by
  go_enter Tryz.func72, Tryz.ntmps72
  go_wp2_with fail
  exact bodyPost_ret (v := .agg #[.int .i64 5, .bool s2, .bool s3, .bool s4]) (by simp [results, Tryz.results72, go_sem]) rfl ⟨rfl, ((Below.refl _ w).alloc (Nat.le_refl _) _).alloc (by rw [World.size_alloc]; omega) _⟩
set_option maxHeartbeats 2000000 in
theorem rlook35 (s1 : Int) (s2 s3 s4 : Bool) (w : World) : Calls Tryz.prog 72 #[.agg #[.int .i64 s1, .bool s2, .bool s3, .bool s4], .int .i64 35] w fun e w' => e = .returned (.agg #[.int .i64 6, .bool s2, .bool s3, .bool s4]) ∧ Below w.heap.size w w' := by
  go_enter Tryz.func72, Tryz.ntmps72
  go_wp2_with fail
  exact bodyPost_ret (v := .agg #[.int .i64 6, .bool s2, .bool s3, .bool s4]) (by simp [results, Tryz.results72, go_sem]) rfl ⟨rfl, ((Below.refl _ w).alloc (Nat.le_refl _) _).alloc (by rw [World.size_alloc]; omega) _⟩
set_option maxHeartbeats 2000000 in
theorem rlook36 (s1 : Int) (s2 s3 s4 : Bool) (w : World) : Calls Tryz.prog 72 #[.agg #[.int .i64 s1, .bool s2, .bool s3, .bool s4], .int .i64 36] w fun e w' => e = .returned (.agg #[.int .i64 7, .bool s2, .bool s3, .bool s4]) ∧ Below w.heap.size w w' := by
  go_enter Tryz.func72, Tryz.ntmps72
  go_wp2_with fail
  exact bodyPost_ret (v := .agg #[.int .i64 7, .bool s2, .bool s3, .bool s4]) (by simp [results, Tryz.results72, go_sem]) rfl ⟨rfl, ((Below.refl _ w).alloc (Nat.le_refl _) _).alloc (by rw [World.size_alloc]; omega) _⟩
set_option maxHeartbeats 2000000 in
theorem rlook37 (s1 : Int) (s2 s3 s4 : Bool) (w : World) : Calls Tryz.prog 72 #[.agg #[.int .i64 s1, .bool s2, .bool s3, .bool s4], .int .i64 37] w fun e w' => e = .returned (.agg #[.int .i64 8, .bool s2, .bool s3, .bool s4]) ∧ Below w.heap.size w w' := by
  go_enter Tryz.func72, Tryz.ntmps72
  go_wp2_with fail
  exact bodyPost_ret (v := .agg #[.int .i64 8, .bool s2, .bool s3, .bool s4]) (by simp [results, Tryz.results72, go_sem]) rfl ⟨rfl, ((Below.refl _ w).alloc (Nat.le_refl _) _).alloc (by rw [World.size_alloc]; omega) _⟩
set_option maxHeartbeats 2000000 in
theorem rlook39 (s1 : Int) (s2 s3 s4 : Bool) (w : World) : Calls Tryz.prog 72 #[.agg #[.int .i64 s1, .bool s2, .bool s3, .bool s4], .int .i64 39] w fun e w' => e = .returned (.agg #[.int .i64 0, .bool s2, .bool s3, .bool s4]) ∧ Below w.heap.size w w' := by
  go_enter Tryz.func72, Tryz.ntmps72
  go_wp2_with fail
  exact bodyPost_ret (v := .agg #[.int .i64 0, .bool s2, .bool s3, .bool s4]) (by simp [results, Tryz.results72, go_sem]) rfl ⟨rfl, ((Below.refl _ w).alloc (Nat.le_refl _) _).alloc (by rw [World.size_alloc]; omega) _⟩
set_option maxHeartbeats 2000000 in
theorem rlook_no (s1 : Int) (s2 s3 s4 : Bool) (n : Int) (w : World) (h0 : (n == 0) = false) (h1 : (n == 1) = false) (h4 : (n == 4) = false) (h7 : (n == 7) = false) (h22 : (n == 22) = false) (h24 : (n == 24) = false) (h27 : (n == 27) = false) (h30 : (n == 30) = false) (h31 : (n == 31) = false) (h32 : (n == 32) = false) (h33 : (n == 33) = false) (h34 : (n == 34) = false) (h35 : (n == 35) = false) (h36 : (n == 36) = false) (h37 : (n == 37) = false) (h39 : (n == 39) = false) : Calls Tryz.prog 72 #[.agg #[.int .i64 s1, .bool s2, .bool s3, .bool s4], .int .i64 n] w fun e w' => e = .returned (.agg #[.int .i64 s1, .bool s2, .bool s3, .bool s4]) ∧ Below w.heap.size w w' := by
  go_enter Tryz.func72, Tryz.ntmps72
  go_wp2_with fail
  exact bodyPost_ret (v := .agg #[.int .i64 s1, .bool s2, .bool s3, .bool s4]) (by simp [results, Tryz.results72, go_sem]) rfl ⟨rfl, ((Below.refl _ w).alloc (Nat.le_refl _) _).alloc (by rw [World.size_alloc]; omega) _⟩
theorem rlook_any (s : Sty) (n : Nat) (w : World) :
    Calls Tryz.prog 72 #[.agg #[.int .i64 s.1, .bool s.2.1, .bool s.2.2.1, .bool s.2.2.2], .int .i64 (n : Int)] w fun e w' => e = .returned (.agg #[.int .i64 (styN s n).1, .bool (styN s n).2.1, .bool (styN s n).2.2.1, .bool (styN s n).2.2.2]) ∧ Below w.heap.size w w' := by
  obtain ⟨s1, s2, s3, s4⟩ := s
  by_cases h0 : n = 0
  · subst h0; exact rlook0 s1 s2 s3 s4 w
  by_cases h1 : n = 1
  · subst h1; exact rlook1 s1 s2 s3 s4 w
  by_cases h4 : n = 4
  · subst h4; exact rlook4 s1 s2 s3 s4 w
  by_cases h7 : n = 7
  · subst h7; exact rlook7 s1 s2 s3 s4 w
  by_cases h22 : n = 22
  · subst h22; exact rlook22 s1 s2 s3 s4 w
  by_cases h24 : n = 24
  · subst h24; exact rlook24 s1 s2 s3 s4 w
  by_cases h27 : n = 27
  · subst h27; exact rlook27 s1 s2 s3 s4 w
  by_cases h30 : n = 30
  · subst h30; exact rlook30 s1 s2 s3 s4 w
  by_cases h31 : n = 31
  · subst h31; exact rlook31 s1 s2 s3 s4 w
  by_cases h32 : n = 32
  · subst h32; exact rlook32 s1 s2 s3 s4 w
  by_cases h33 : n = 33
  · subst h33; exact rlook33 s1 s2 s3 s4 w
  by_cases h34 : n = 34
  · subst h34; exact rlook34 s1 s2 s3 s4 w
  by_cases h35 : n = 35
  · subst h35; exact rlook35 s1 s2 s3 s4 w
  by_cases h36 : n = 36
  · subst h36; exact rlook36 s1 s2 s3 s4 w
  by_cases h37 : n = 37
  · subst h37; exact rlook37 s1 s2 s3 s4 w
  by_cases h39 : n = 39
  · subst h39; exact rlook39 s1 s2 s3 s4 w
  have e : styN (s1, s2, s3, s4) n = (s1, s2, s3, s4) := by
    unfold styN
    rw [if_neg h0, if_neg (by omega), if_neg (by omega), if_neg (by omega), if_neg (by omega), if_neg h39]
  rw [e]
  exact rlook_no s1 s2 s3 s4 n w (by rw [beq_eq_false_iff_ne]; omega) (by rw [beq_eq_false_iff_ne]; omega) (by rw [beq_eq_false_iff_ne]; omega) (by rw [beq_eq_false_iff_ne]; omega) (by rw [beq_eq_false_iff_ne]; omega) (by rw [beq_eq_false_iff_ne]; omega) (by rw [beq_eq_false_iff_ne]; omega) (by rw [beq_eq_false_iff_ne]; omega) (by rw [beq_eq_false_iff_ne]; omega) (by rw [beq_eq_false_iff_ne]; omega) (by rw [beq_eq_false_iff_ne]; omega) (by rw [beq_eq_false_iff_ne]; omega) (by rw [beq_eq_false_iff_ne]; omega) (by rw [beq_eq_false_iff_ne]; omega) (by rw [beq_eq_false_iff_ne]; omega) (by rw [beq_eq_false_iff_ne]; omega)
end Go.Proofs.YtpkjaallhhjleaaGreatDoor
