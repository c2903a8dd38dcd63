/-
  Texts of this proof, one behind the other; each begins with its own remark.
-/
import Derived.Deep.QuietTactic
import Derived.BigQuiet
import Derived.Deep.DeepFit
import Derived.Test.YtpkjaallhhjleaaGreatDoorBa11
import Derived.Test.YtpkjaallhhjleaaGreatDoorBa17
import Derived.Test.YtpkjaallhhjleaaGreatDoorBa20
import Derived.Test.YtpkjaallhhjleaaGreatDoorBa6
/-
  widths.Shown: what it returns: for every rune; the tables are as the program's text lays them.
-/
namespace Go.Proofs.YtpkjaallhhjleaaGreatDoor
open Go.RowKit

set_option maxHeartbeats 1000000 in
theorem shown_any (r : Int) (w : World) (hT : TabW w) :
    Calls Tryz.prog 58 #[.int .i32 r] w fun e w' => e = .returned (.int .i32 (shI r)) ∧ Below w.heap.size w w' := by
  have H1 := Lib.hid (fun w hT => hidden_any r w hT)
  unfold shI
  cases hh : hidB r
  all_goals
    rw [hh] at H1
    clear hh
    go_enter Tryz.func58, Tryz.ntmps58
    go_wp2_with fail
    refine (H1.out _ hT).mono ?_
    rintro e w1 ⟨rfl, hb1⟩
    go_wp2_with fail
    go_ret
    exact ⟨rfl, hb1⟩

end Go.Proofs.YtpkjaallhhjleaaGreatDoor

/-
  term: do: what it leaves, of every action.
-/
namespace Go.Proofs.YtpkjaallhhjleaaGreatDoor
open Go.RowKit

section
variable {w0 : World} {B G N cap : Nat} {t : Tm}
/-- The box of an action. -/
theorem act_box (w : World) (x0 x1 x2 x3 : Value) : Below w.heap.size w (w.alloc (.cells #[x0, x1, x2, x3] 72)) ∧
    (w.alloc (.cells #[x0, x1, x2, x3] 72)).heap[w.heap.size]? = some (.cells #[x0, x1, x2, x3] 72 (0, 0)) := ⟨(Below.refl _ _).alloc (Nat.le_refl _) _, heap_alloc_new w _⟩
set_option maxRecDepth 20000 in
set_option maxHeartbeats 8000000 in
theorem tdo_1 {m n : Nat} {pv : Value} (r : Nat) (l : List Nat) (f : Nat) (w : World) (h : TmS w0 w B G N cap t) (hok : OkF t.f m n) (hL : LaidW w0) (hT : TBlankW w0) :
    Calls Tryz.prog 30 #[.pointer (some ⟨B, 0, none⟩), .agg #[.int .i64 1, .int .i32 (r : Int), pv, .int .u8 (f : Int)]] w (TmD w0 w B G N cap (doT t (1, r, l, f))) := by
  show Calls _ _ _ _ (TmD w0 w B G N cap (showT t (shI (r : Int))))
  have HB := Lib.hid (fun x0 x1 x2 x3 => act_box w x0 x1 x2 x3)
  have HS : Hid (∀ W, Below w.heap.size w W → Calls Tryz.prog 58 #[.int .i32 (r : Int)] W fun e w' => e = .returned (.int .i32 (shI (r : Int))) ∧ Below w.heap.size w w') := fun W hW => (shown_any (r : Int) W ((hL.below (h.next hW).below).1)).mono fun e w' ⟨k1, k2⟩ => ⟨k1, hW.trans (k2.mono hW.size)⟩
  obtain ⟨u, hu⟩ : ∃ u, shI (r : Int) = u := ⟨_, rfl⟩
  rw [hu] at HS ⊢
  have HC : Hid (∀ W, Below w.heap.size w W → Calls Tryz.prog 57 #[.pointer (some ⟨B, 0, none⟩), .int .i32 u] W (TmD w0 w B G N cap (showT t u))) := fun W hW => (tshow_any u W (h.next hW) hok hL hT).mono fun e w' ⟨k1, k2, k3⟩ => ⟨k1, k2, (keep_below _ hW).trans k3⟩
  obtain ⟨R, hR⟩ : ∃ R, showT t u = R := ⟨_, rfl⟩
  rw [hR] at HC ⊢
  clear h hok hL hT hu hR
  go_enter Tryz.func30, Tryz.ntmps30
  go_wp2_with fail
  go_fit (HS.out _ (HB.out _ _ _ _).1)
  rintro e w1 ⟨rfl, hb1⟩
  go_wp2_with fail
  go_fit (HC.out _ hb1)
  rintro e w2 ⟨rfl, h2⟩
  go_wp2_with fail
  go_end0
  exact ⟨rfl, h2⟩
set_option maxRecDepth 20000 in
set_option maxHeartbeats 8000000 in
theorem tdo_2 {m n : Nat} {pv : Value} (r : Nat) (l : List Nat) (f : Nat) (w : World) (h : TmS w0 w B G N cap t) (hok : OkF t.f m n) (hT : TBlankW w0) :
    Calls Tryz.prog 30 #[.pointer (some ⟨B, 0, none⟩), .agg #[.int .i64 2, .int .i32 (r : Int), pv, .int .u8 (f : Int)]] w (TmD w0 w B G N cap (doT t (2, r, l, f))) := by
  show Calls _ _ _ _ (TmD w0 w B G N cap (controlT t (r : Int)))
  have HB := Lib.hid (fun x0 x1 x2 x3 => act_box w x0 x1 x2 x3)
  have HC : Hid (∀ W, Below w.heap.size w W → Calls Tryz.prog 59 #[.pointer (some ⟨B, 0, none⟩), .int .i32 (r : Int)] W (TmD w0 w B G N cap (controlT t (r : Int)))) := fun W hW => (tctl_any (r : Int) W (h.next hW) hok hT).mono fun e w' ⟨k1, k2, k3⟩ => ⟨k1, k2, (keep_below _ hW).trans k3⟩
  obtain ⟨R, hR⟩ : ∃ R, controlT t (r : Int) = R := ⟨_, rfl⟩
  rw [hR] at HC ⊢
  clear h hok hT hR
  go_enter Tryz.func30, Tryz.ntmps30
  go_wp2_with fail
  go_fit (HC.out _ (HB.out _ _ _ _).1)
  rintro e w2 ⟨rfl, h2⟩
  go_wp2_with fail
  go_end0
  exact ⟨rfl, h2⟩
set_option maxRecDepth 20000 in
set_option maxHeartbeats 8000000 in
theorem tdo_3 {m n : Nat} {pv : Value} (r : Nat) (l : List Nat) (f : Nat) (w : World) (h : TmS w0 w B G N cap t) (hok : OkF t.f m n) (hT : TBlankW w0) (hN : NumsW (NotBG B G) w pv l) (hl : l.length ≤ 1000) (h9 : ∀ x ∈ l, x ≤ 9999) :
    Calls Tryz.prog 30 #[.pointer (some ⟨B, 0, none⟩), .agg #[.int .i64 3, .int .i32 (r : Int), pv, .int .u8 (f : Int)]] w (TmD w0 w B G N cap (doT t (3, r, l, f))) := by
  show Calls _ _ _ _ (TmD w0 w B G N cap (seqT t l f))
  have HB := Lib.hid (fun x0 x1 x2 x3 => act_box w x0 x1 x2 x3)
  have HC : Hid (∀ W, Below w.heap.size w W → Calls Tryz.prog 60 #[.pointer (some ⟨B, 0, none⟩), .int .u8 (f : Int), pv] W (TmD w0 w B G N cap (seqT t l f))) := fun W hW => (tseq_any f W (h.next hW) hok hT (hN.keep (keep_below _ hW)) hl h9).mono fun e w' ⟨k1, k2, k3⟩ => ⟨k1, k2, (keep_below _ hW).trans k3⟩
  obtain ⟨ao, cp, rfl, _, _⟩ := hN.1
  obtain ⟨R, hR⟩ : ∃ R, seqT t l f = R := ⟨_, rfl⟩
  rw [hR] at HC ⊢
  clear h hok hT hR hN hl h9
  go_enter Tryz.func30, Tryz.ntmps30
  go_wp2_with fail
  go_fit (HC.out _ (HB.out _ _ _ _).1)
  rintro e w2 ⟨rfl, h2⟩
  go_wp2_with fail
  go_end0
  exact ⟨rfl, h2⟩
set_option maxRecDepth 20000 in
set_option maxHeartbeats 8000000 in
theorem tdo_o {pv : Value} (k r : Nat) (l : List Nat) (f : Nat) (h1 : k ≠ 1) (h2 : k ≠ 2) (h3 : k ≠ 3) (w : World) (h : TmS w0 w B G N cap t) :
    Calls Tryz.prog 30 #[.pointer (some ⟨B, 0, none⟩), .agg #[.int .i64 (k : Int), .int .i32 (r : Int), pv, .int .u8 (f : Int)]] w (TmD w0 w B G N cap (doT t (k, r, l, f))) := by
  have hE : doT t (k, r, l, f) = t := by
    unfold doT
    rw [if_neg h1, if_neg h2, if_neg h3]
  rw [hE]
  have HB := Lib.hid (fun x0 x1 x2 x3 => act_box w x0 x1 x2 x3)
  have HS := Lib.hid (fun W hb => h.next (w' := W) hb)
  have q1 : ((k : Int) == 1) = false := by rw [beq_eq_false_iff_ne]; omega
  have q2 : ((k : Int) == 2) = false := by rw [beq_eq_false_iff_ne]; omega
  have q3 : ((k : Int) == 3) = false := by rw [beq_eq_false_iff_ne]; omega
  clear h hE h1 h2 h3
  go_enter Tryz.func30, Tryz.ntmps30
  go_wp2_with fail
  go_end0
  exact ⟨rfl, HS.out _ (HB.out _ _ _ _).1, keep_below _ (HB.out _ _ _ _).1⟩
theorem tdo_any {m n : Nat} {pv : Value} (a : Ac) (w : World) (h : TmS w0 w B G N cap t) (hok : OkF t.f m n) (hL : LaidW w0) (hT : TBlankW w0) (hN : NumsW (NotBG B G) w pv a.2.2.1) (hl : a.2.2.1.length ≤ 1000) (h9 : ∀ x ∈ a.2.2.1, x ≤ 9999) :
    Calls Tryz.prog 30 #[.pointer (some ⟨B, 0, none⟩), .agg #[.int .i64 (a.1 : Int), .int .i32 (a.2.1 : Int), pv, .int .u8 (a.2.2.2 : Int)]] w (TmD w0 w B G N cap (doT t a)) := by
  obtain ⟨k, r, l, f⟩ := a
  by_cases h1 : k = 1
  · subst h1; exact tdo_1 r l f w h hok hL hT
  by_cases h2 : k = 2
  · subst h2; exact tdo_2 r l f w h hok hT
  by_cases h3 : k = 3
  · subst h3; exact tdo_3 r l f w h hok hT hN hl h9
  exact tdo_o k r l f h1 h2 h3 w h
end
end Go.Proofs.YtpkjaallhhjleaaGreatDoor

/-
  Plain facts: what is asked for at once: few numbers, each small. What stands at one place of a row of actions. No call is walked here.
-/
namespace Go.Proofs.YtpkjaallhhjleaaGreatDoor
open Go.RowKit

theorem feed_acts (p : Ps) (b : Nat) (h : OkP p) : ∀ a ∈ (feedN p b).2, a.2.2.1.length ≤ 16 ∧ ∀ x ∈ a.2.2.1, x ≤ 9999 := by
  have hf : ∀ a ∈ (firstN b).2, (a.2.2.1.length ≤ 16 ∧ ∀ x ∈ a.2.2.1, x ≤ 9999) := by
    intro a ha
    unfold firstN at ha
    repeat' split at ha
    all_goals first | (simp at ha; done) | (simp only [List.mem_singleton, badA] at ha; subst ha; exact ⟨Nat.zero_le _, fun x hx => by cases hx⟩)
  have hw : ∀ q, ∀ a ∈ (withinN q b).2, (a.2.2.1.length ≤ 16 ∧ ∀ x ∈ a.2.2.1, x ≤ 9999) := by
    intro q a ha
    unfold withinN at ha
    repeat' split at ha
    all_goals (simp only [List.mem_singleton, badA] at ha; subst ha; exact ⟨Nat.zero_le _, fun x hx => by cases hx⟩)
  cases p with
  | zero => exact hf
  | start s =>
    intro a ha
    have ha : a ∈ (startN s b).2 := ha
    unfold startN at ha
    repeat' split at ha
    · simp only [List.mem_singleton] at ha; subst ha; exact ⟨Nat.zero_le _, fun x hx => by cases hx⟩
    · simp at ha
    · rcases List.mem_cons.1 ha with ha | ha
      · subst ha; exact ⟨Nat.zero_le _, fun x hx => by cases hx⟩
      · exact hf a ha
  | esc =>
    intro a ha
    have ha : a ∈ (escN b).2 := ha
    unfold escN at ha
    repeat' split at ha
    · exact hw _ a ha
    · simp at ha
    · simp only [List.mem_singleton] at ha; subst ha; exact ⟨Nat.zero_le _, fun x hx => by cases hx⟩
    · simp only [List.mem_singleton, badA] at ha; subst ha; exact ⟨Nat.zero_le _, fun x hx => by cases hx⟩
  | seq pre x =>
    intro a ha
    have ha : a ∈ (seqN pre x b).2 := ha
    unfold seqN at ha
    repeat' split at ha
    · exact hw _ a ha
    · simp at ha
    · simp only [List.mem_singleton] at ha
      subst ha
      refine ⟨?_, ?_⟩
      · show (paramsN pre x).length ≤ 16
        unfold paramsN nums
        split
        · exact Nat.zero_le _
        · rw [List.length_map, List.length_append]
          have := h.1
          show pre.length + 1 ≤ 16
          omega
      · show ∀ y ∈ paramsN pre x, y ≤ 9999
        intro y hy
        unfold paramsN nums at hy
        split at hy
        · cases hy
        · obtain ⟨z, hz, rfl⟩ := List.mem_map.1 hy
          cases z with
          | none => exact Nat.zero_le _
          | some z =>
            rcases List.mem_append.1 hz with hz | hz
            · exact h.2.1 z hz
            · exact h.2.2 z (List.mem_singleton.1 hz).symm
    · simp only [List.mem_singleton, badA] at ha; subst ha; exact ⟨Nat.zero_le _, fun x hx => by cases hx⟩
  | bad =>
    intro a ha
    have ha : a ∈ (wrongN b).2 := ha
    unfold wrongN at ha
    repeat' split at ha
    · exact hw _ a ha
    · simp at ha
    · simp only [List.mem_singleton, badA] at ha; subst ha; exact ⟨Nat.zero_le _, fun x hx => by cases hx⟩
theorem acts_at4 {ok : Nat → Prop} {w : World} {v : Value} {l : List Ac} {i : Nat} {a : Ac} (h : ActsW ok w v l) (hi : l[i]? = some a) :
    ∃ g o cap pv, v = .slice (some ⟨g, o, none⟩) l.length cap ∧ l.length ≤ cap ∧ w.cell? ⟨g, o + i * 4, none⟩ = some (.int .i64 (a.1 : Int)) ∧ w.cell? ⟨g, o + i * 4 + 1, none⟩ = some (.int .i32 (a.2.1 : Int)) ∧
      w.cell? ⟨g, o + i * 4 + 2, none⟩ = some pv ∧ w.cell? ⟨g, o + i * 4 + 3, none⟩ = some (.int .u8 (a.2.2.2 : Int)) ∧ NumsW ok w pv a.2.2.1 := by
  have := h.at_ hi
  rw [Nat.mul_comm 4 i] at this
  exact this
theorem blw_alloc {w W : World} {o : Obj} (h : Below w.heap.size w W) : Below w.heap.size w (W.alloc o) := h.alloc h.size _
theorem blw_drew2 (W : World) (o : Obj) : Below W.heap.size W (W.alloc o).drew := ((Below.refl _ W).alloc (Nat.le_refl _) _).drew
theorem blk2_drawn (W : World) (x0 x1 : Value) : blk2 (W.alloc (.cells #[x0, x1] 45)).drew W.heap.size x0 x1 := blk2.new W x0 x1
end Go.Proofs.YtpkjaallhhjleaaGreatDoor

/-
  parser.textOf, control, shown, invalid; limnerref07.one: what each call returns: for every byte, every rune.
-/
namespace Go.Proofs.YtpkjaallhhjleaaGreatDoor
open Go.RowKit

set_option maxHeartbeats 1000000 in
theorem textOf_any (b : Nat) (w : World) :
    Calls Tryz.prog 83 #[.int .u8 (b : Int)] w fun e w' => e = .returned (.string (oneS b)) ∧ Below w.heap.size w w' := by
  have cv := convP_new [(b : Int)] w
  rw [str_one] at cv
  simp only [List.map_cons, List.map_nil, List.length_cons, List.length_nil] at cv
  go_enter Tryz.func83, Tryz.ntmps83
  go_wp2
  go_ret
  exact ⟨rfl, (Below.refl _ _).alloc (Nat.le_refl _) _⟩

set_option maxHeartbeats 1000000 in
theorem control_any (b : Nat) (w : World) (hb : b < 256) :
    Calls Tryz.prog 84 #[.int .u8 (b : Int)] w fun e w' => ∃ v, e = .returned v ∧ ActsW (FromP w.heap.size) w' v [(2, b, [], 0)] ∧ (∃ a, v = .slice (some a) 1 1) ∧ Below w.heap.size w w' := by
  go_enter Tryz.func84, Tryz.ntmps84
  go_wp2
  go_ret
  exact ⟨_, rfl, acts_one (Nat.le_refl _) (NumsW.nil _ _), ⟨_, rfl⟩, (Below.refl _ _).alloc (Nat.le_refl _) _⟩

set_option maxHeartbeats 1000000 in
theorem pshown_any (r : Nat) (w : World) :
    Calls Tryz.prog 85 #[.int .i32 (r : Int)] w fun e w' => ∃ v, e = .returned v ∧ ActsW (FromP w.heap.size) w' v [(1, r, [], 0)] ∧ (∃ a, v = .slice (some a) 1 1) ∧ Below w.heap.size w w' := by
  go_enter Tryz.func85, Tryz.ntmps85
  go_wp2
  go_ret
  exact ⟨_, rfl, acts_one (Nat.le_refl _) (NumsW.nil _ _), ⟨_, rfl⟩, (Below.refl _ _).alloc (Nat.le_refl _) _⟩

set_option maxHeartbeats 1000000 in
theorem invalid_any (w : World) :
    Calls Tryz.prog 87 #[] w fun e w' => ∃ v, e = .returned v ∧ ActsW (FromP w.heap.size) w' v [badA] ∧ (∃ a, v = .slice (some a) 1 1) ∧ Below w.heap.size w w' := by
  go_enter Tryz.func87, Tryz.ntmps87
  go_wp2
  go_ret
  exact ⟨_, rfl, acts_one (Nat.le_refl _) (NumsW.nil _ _), ⟨_, rfl⟩, (Below.refl _ _).alloc (Nat.le_refl _) _⟩

set_option maxHeartbeats 1000000 in
theorem rone_any (k r : Nat) (w : World) :
    Calls Tryz.prog 64 #[.int .i64 (k : Int), .int .i32 (r : Int)] w fun e w' => ∃ v, e = .returned v ∧ ActsW (FromP w.heap.size) w' v [(k, r, [], 0)] ∧ (∃ a, v = .slice (some a) 1 1) ∧ Below w.heap.size w w' := by
  go_enter Tryz.func64, Tryz.ntmps64
  go_wp2
  go_ret
  exact ⟨_, rfl, acts_one (Nat.le_refl _) (NumsW.nil _ _), ⟨_, rfl⟩, (Below.refl _ _).alloc (Nat.le_refl _) _⟩
end Go.Proofs.YtpkjaallhhjleaaGreatDoor

/-
  utf8.FullRuneInString, parser.starts: what each call returns: for every text of a byte or more. The two tables of the library's package are laid.
-/
namespace Go.Proofs.YtpkjaallhhjleaaGreatDoor
open Go.RowKit

def fstB (b : Nat) : Nat := if b < 128 then 240 else if b < 194 then 241 else if b < 224 then 2 else if b = 224 then 19 else if b = 237 then 35 else if b < 240 then 3 else if b = 240 then 52 else if b < 244 then 4 else if b = 244 then 68 else 241
def accLo (i : Nat) : Nat := [128, 160, 128, 144, 128].getD i 0
def accHi (i : Nat) : Nat := [191, 191, 159, 191, 143].getD i 0
/-- What the two tables hold. -/
structure TabU (w : World) : Prop where
  lt : 3 < w.heap.size ∧ 4 < w.heap.size
  fst : ∀ k, k < 256 → w.cell? ⟨3, k, none⟩ = some (.int .u8 (fstB k : Nat))
  acc : ∀ i, i < 16 → w.cell? ⟨4, i * 2, none⟩ = some (.int .u8 (accLo i : Nat)) ∧ w.cell? ⟨4, i * 2 + 1, none⟩ = some (.int .u8 (accHi i : Nat))
theorem TabU.below {w w' : World} (h : TabU w) (hb : Below w.heap.size w w') : TabU w' :=
  ⟨⟨Nat.lt_of_lt_of_le h.lt.1 hb.size, Nat.lt_of_lt_of_le h.lt.2 hb.size⟩, fun k hk => by rw [hb.cell (p := ⟨3, k, none⟩) h.lt.1]; exact h.fst k hk,
    fun i hi => ⟨by rw [hb.cell (p := ⟨4, i * 2, none⟩) h.lt.2]; exact (h.acc i hi).1, by rw [hb.cell (p := ⟨4, i * 2 + 1, none⟩) h.lt.2]; exact (h.acc i hi).2⟩⟩

def sizN (b : Nat) : Nat := if b < 128 then 0 else if b < 194 then 1 else if b < 224 then 2 else if b < 240 then 3 else if b < 245 then 4 else 1
def accN (b : Nat) : Nat := if b = 224 then 1 else if b = 237 then 2 else if b = 240 then 3 else if b = 244 then 4 else if 194 ≤ b ∧ b < 245 then 0 else 15
theorem fst_bits : ∀ b : Fin 256, wrap64 (bits BinOp.and IntKind.u8 (fstB b.val : Nat) 7) = (sizN b.val : Int) := by decide +kernel
theorem fst_mod : ∀ b : Fin 256, (fstB b.val : Int) % 8 = (sizN b.val : Int) := by decide +kernel
theorem fst_shr : ∀ b : Fin 256, fstB b.val / 16 = accN b.val := by decide +kernel
theorem acc_lo : ∀ b : Fin 256, 194 ≤ b.val → b.val < 245 → accLo (accN b.val) = loB b.val ∧ accHi (accN b.val) = hiB b.val := by decide +kernel

set_option maxRecDepth 20000 in
set_option maxHeartbeats 4000000 in
theorem full_any (s : ByteArray) (w : World) (hT : TabU w) (h0 : 0 < s.size) (hs : s.size ≤ maxLen) :
    Calls Tryz.prog 110 #[.string s] w fun e w' => e = .returned (.bool (!begB s)) ∧ Below w.heap.size w w' := by
  unfold maxLen at hs
  have hl := bt_lt s 0
  have e0 : (s[0].toNat : Int) = (bt s 0 : Int) := by unfold bt; rw [show s.get! 0 = s[0] from get_at s 0 h0]
  obtain ⟨b, hb⟩ : ∃ b, bt s 0 = b := ⟨_, rfl⟩
  rw [hb] at hl e0
  have E0 := Lib.hid e0
  have c0 := hT.fst b hl
  have f1 := fst_bits ⟨b, hl⟩
  have f2 := fst_shr ⟨b, hl⟩
  have f3 := fst_mod ⟨b, hl⟩
  simp only at f1 f2 f3
  obtain ⟨F, hF⟩ : ∃ F : Nat, fstB b = F := ⟨_, rfl⟩
  rw [hF] at c0 f1 f2 f3
  have hN4 : sizN b ≤ 4 := by
    unfold sizN
    repeat' split
    all_goals omega
  by_cases h1 : sizN b ≤ s.size
  · have hR : Hid (begB s = false) := by
      refine decide_eq_false fun h => ?_
      have hz : sizN b ≤ s.size := h1
      unfold Beg at h
      rw [hb] at h
      unfold sizN at hz
      repeat' split at hz
      all_goals omega
    obtain ⟨N, hN⟩ : ∃ N, sizN b = N := ⟨_, rfl⟩
    rw [hN] at f1 h1 hN4
    have hq : wrap64 (bits BinOp.and IntKind.u8 (F : Int) 7) ≤ (s.size : Int) := Int.le_trans (Int.le_of_eq f1) (Int.ofNat_le.2 h1)
    clear hF hb hT f1 f2 f3 hN
    go_enter Tryz.func110, Tryz.ntmps110
    go_wp2_with fail
    go_ret
    exact ⟨by rw [hR.out]; rfl, Below.refl _ _⟩
  · have hb2 : 194 ≤ b ∧ b < 245 := by
      unfold sizN at h1
      repeat' split at h1
      all_goals omega
    have hA : accN b < 5 := by
      unfold accN
      repeat' split
      all_goals omega
    obtain ⟨a1, a2⟩ := hT.acc (accN b) (by omega)
    obtain ⟨e1, e2⟩ := acc_lo ⟨b, hl⟩ hb2.1 hb2.2
    simp only at e1 e2
    rw [e1] at a1
    rw [e2] at a2
    have HB2 := Lib.hid hb2
    have HB := Lib.hid hb
    obtain ⟨N, hN⟩ : ∃ N, sizN b = N := ⟨_, rfl⟩
    obtain ⟨A, hA2⟩ : ∃ A, accN b = A := ⟨_, rfl⟩
    obtain ⟨Lo, hLo⟩ : ∃ Lo, loB b = Lo := ⟨_, rfl⟩
    obtain ⟨Hi, hHi⟩ : ∃ Hi, hiB b = Hi := ⟨_, rfl⟩
    rw [hN] at f1 f3 h1 hN4
    rw [hA2] at f2 a1 a2 hA
    rw [hLo] at a1
    rw [hHi] at a2
    have HN := Lib.hid hN
    have HLo := Lib.hid hLo
    have HHi := Lib.hid hHi
    have hq : (s.size : Int) < wrap64 (bits BinOp.and IntKind.u8 (F : Int) 7) := Int.lt_of_lt_of_le (Int.ofNat_lt.2 (Nat.lt_of_not_le h1)) (Int.le_of_eq f1.symm)
    have hq2 : (s.size : Int) < (F : Int) % 8 := Int.lt_of_lt_of_le (Int.ofNat_lt.2 (Nat.lt_of_not_le h1)) (Int.le_of_eq f3.symm)
    rw [← f2] at a1 a2
    have h16 : (F : Int) / 16 < 16 := by omega
    have h17 : (0 : Int) ≤ (F : Int) / 16 := by omega
    clear hF hb hT e1 e2 hb2 hN hA2 hLo hHi f1 f2 f3
    have HX := Lib.hid (fun (r : Bool) (h : r = true ↔ Beg s) => (show begB s = r by unfold begB; cases r <;> simp_all))
    have HS : Hid (s.size < N ∧ N ≤ 4 ∧ (N = if b < 224 then 2 else if b < 240 then 3 else 4)) := by
      have h2 := HN.out
      have h3 := HB2.out
      refine ⟨by omega, hN4, ?_⟩
      unfold sizN at h2
      rw [if_neg (by omega), if_neg (by omega)] at h2
      rw [← h2]
      repeat' split
      all_goals omega
    by_cases n1 : 1 < s.size
    · have eb : (s[1].toNat : Int) = (bt s 1 : Int) := by unfold bt; rw [show s.get! 1 = s[1] from get_at s 1 n1]
      obtain ⟨c, hc⟩ : ∃ c, bt s 1 = c := ⟨_, rfl⟩
      rw [hc] at eb
      have n1i : (1 : Int) < (s.size : Int) := by omega
      have HC := Lib.hid hc
      clear hc
      by_cases l1 : c < Lo
      · have HR : Hid (begB s = false) := HX.out false (by
          have := HC.out; have := HLo.out; have := HHi.out; have := HS.out; have := HB2.out
          unfold Beg
          rw [HB.out]
          simp only [Bool.false_eq_true, false_iff]
          omega)
        have l1i : (c : Int) < (Lo : Int) := by omega
        clear HX HS HN HLo HHi HB HC
        go_enter Tryz.func110, Tryz.ntmps110
        go_wp2_with fail
        go_quiet (fail)
        go_wp2_with fail
        go_ret
        exact ⟨by rw [HR.out]; rfl, below_drewN ((Below.refl _ w).alloc (Nat.le_refl _) _) nq⟩
      · have l1i : (Lo : Int) ≤ (c : Int) := by omega
        by_cases l2 : Hi < c
        · have HR : Hid (begB s = false) := HX.out false (by
            have := HC.out; have := HLo.out; have := HHi.out; have := HS.out; have := HB2.out
            unfold Beg
            rw [HB.out]
            simp only [Bool.false_eq_true, false_iff]
            omega)
          have l2i : (Hi : Int) < (c : Int) := by omega
          clear HX HS HN HLo HHi HB HC
          go_enter Tryz.func110, Tryz.ntmps110
          go_wp2_with fail
          go_quiet (fail)
          go_wp2_with fail
          go_ret
          exact ⟨by rw [HR.out]; rfl, below_drewN ((Below.refl _ w).alloc (Nat.le_refl _) _) nq⟩
        · have l2i : (c : Int) ≤ (Hi : Int) := by omega
          by_cases n2 : 2 < s.size
          · have ed : (s[2].toNat : Int) = (bt s 2 : Int) := by unfold bt; rw [show s.get! 2 = s[2] from get_at s 2 n2]
            obtain ⟨d, hd⟩ : ∃ d, bt s 2 = d := ⟨_, rfl⟩
            rw [hd] at ed
            have n2i : (2 : Int) < (s.size : Int) := by omega
            have HD := Lib.hid hd
            clear hd
            by_cases l3 : d < 128
            · have HR : Hid (begB s = false) := HX.out false (by
                have := HC.out; have := HLo.out; have := HHi.out; have := HS.out; have := HB2.out; have := HD.out
                unfold Beg
                rw [HB.out]
                simp only [Bool.false_eq_true, false_iff]
                omega)
              have l3i : (d : Int) < 128 := by omega
              clear HX HS HN HLo HHi HB HC HD
              go_enter Tryz.func110, Tryz.ntmps110
              go_wp2_with fail
              go_quiet (fail)
              go_wp2_with fail
              go_ret
              exact ⟨by rw [HR.out]; rfl, below_drewN ((Below.refl _ w).alloc (Nat.le_refl _) _) nq⟩
            · have l3i : (128 : Int) ≤ (d : Int) := by omega
              by_cases l4 : 191 < d
              · have HR : Hid (begB s = false) := HX.out false (by
                  have := HC.out; have := HLo.out; have := HHi.out; have := HS.out; have := HB2.out; have := HD.out
                  unfold Beg
                  rw [HB.out]
                  simp only [Bool.false_eq_true, false_iff]
                  omega)
                have l4i : (191 : Int) < (d : Int) := by omega
                clear HX HS HN HLo HHi HB HC HD
                go_enter Tryz.func110, Tryz.ntmps110
                go_wp2_with fail
                go_quiet (fail)
                go_wp2_with fail
                go_ret
                exact ⟨by rw [HR.out]; rfl, below_drewN ((Below.refl _ w).alloc (Nat.le_refl _) _) nq⟩
              · have l4i : (d : Int) ≤ 191 := by omega
                have HR : Hid (begB s = true) := HX.out true (by
                  have := HC.out; have := HLo.out; have := HHi.out; have hs := HS.out; have := HB2.out; have := HD.out
                  unfold Beg
                  rw [HB.out]
                  simp only [true_iff]
                  obtain ⟨s1, s2, s3⟩ := hs
                  split at s3 <;> try split at s3
                  all_goals omega)
                clear HX HS HN HLo HHi HB HC HD
                go_enter Tryz.func110, Tryz.ntmps110
                go_wp2_with fail
                go_quiet (fail)
                go_wp2_with fail
                go_ret
                exact ⟨by rw [HR.out]; rfl, below_drewN ((Below.refl _ w).alloc (Nat.le_refl _) _) nq⟩
          · have n2i : (s.size : Int) ≤ 2 := by omega
            have HR : Hid (begB s = true) := HX.out true (by
              have := HC.out; have := HLo.out; have := HHi.out; have hs := HS.out; have := HB2.out
              unfold Beg
              rw [HB.out]
              simp only [true_iff]
              obtain ⟨s1, s2, s3⟩ := hs
              split at s3 <;> try split at s3
              all_goals omega)
            clear HX HS HN HLo HHi HB HC
            go_enter Tryz.func110, Tryz.ntmps110
            go_wp2_with fail
            go_quiet (fail)
            go_wp2_with fail
            go_ret
            exact ⟨by rw [HR.out]; rfl, below_drewN ((Below.refl _ w).alloc (Nat.le_refl _) _) nq⟩
    · have n1i : (s.size : Int) ≤ 1 := by omega
      have n1d : decide ((1 : Int) < (s.size : Int)) = false := decide_eq_false (by omega)
      have n2i : (s.size : Int) ≤ 2 := by omega
      have HR : Hid (begB s = true) := HX.out true (by
        have := HB2.out
        unfold Beg
        rw [HB.out]
        simp only [true_iff]
        omega)
      clear HX HS HN HLo HHi HB
      go_enter Tryz.func110, Tryz.ntmps110
      go_wp2_with fail
      go_quiet (fail)
      go_wp2_with fail
      go_ret
      exact ⟨by rw [HR.out]; rfl, below_drewN ((Below.refl _ w).alloc (Nat.le_refl _) _) nq⟩
set_option maxHeartbeats 1000000 in
theorem starts_any (s : ByteArray) (w : World) (hT : TabU w) (h0 : 0 < s.size) (hs : s.size ≤ maxLen) :
    Calls Tryz.prog 86 #[.string s] w fun e w' => e = .returned (.bool (begB s)) ∧ Below w.heap.size w w' := by
  have H := Lib.hid (full_any s w hT h0 hs)
  clear hT h0 hs
  go_enter Tryz.func86, Tryz.ntmps86
  go_wp2_with fail
  go_fit (H.out)
  rintro e w' ⟨rfl, hb⟩
  go_wp2_with fail
  go_ret
  exact ⟨by cases begB s <;> rfl, hb⟩
end Go.Proofs.YtpkjaallhhjleaaGreatDoor
