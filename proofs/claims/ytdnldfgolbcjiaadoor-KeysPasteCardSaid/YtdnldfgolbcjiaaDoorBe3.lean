/-
  Plain facts on what bytes ask of a terminal: where a parser stands, what one more byte asks for. Nothing of the program.
-/
import Derived.Lib.ItoaNum
import Derived.Test.YtdnldfgolbcjiaaDoorBe1
import Derived.Test.YtdnldfgolbcjiaaDoorBe2
namespace Go.Proofs.YtdnldfgolbcjiaaDoor
open Go.RowKit

/-- What is asked for: its kind, a rune, numbers, a last byte. -/
abbrev Ac := Nat × Nat × List Nat × Nat
def badA : Ac := (5, 0, [], 0)

/-- Where one stands: a sequence has parts ahead and a last one, each with a number or none. -/
inductive Ps where
  | zero
  | start (s : ByteArray)
  | esc
  | seq (pre : List (Option Nat)) (x : Option Nat)
  | bad

def oneS (b : Nat) : ByteArray := ⟨#[UInt8.ofNat b]⟩
def loB (b : Nat) : Nat := if b = 224 then 160 else if b = 240 then 144 else 128
def hiB (b : Nat) : Nat := if b = 237 then 159 else if b = 244 then 143 else 191
/-- A beginning of a rune: so many bytes of one, and not all. -/
def Beg (s : ByteArray) : Prop :=
  (s.size = 1 ∧ 194 ≤ bt s 0 ∧ bt s 0 ≤ 244) ∨ (s.size = 2 ∧ 224 ≤ bt s 0 ∧ bt s 0 ≤ 244 ∧ loB (bt s 0) ≤ bt s 1 ∧ bt s 1 ≤ hiB (bt s 0)) ∨
  (s.size = 3 ∧ 240 ≤ bt s 0 ∧ bt s 0 ≤ 244 ∧ loB (bt s 0) ≤ bt s 1 ∧ bt s 1 ≤ hiB (bt s 0) ∧ 128 ≤ bt s 2 ∧ bt s 2 ≤ 191)
instance begDec (s : ByteArray) : Decidable (Beg s) := by unfold Beg; infer_instance
def begB (s : ByteArray) : Bool := decide (Beg s)

def firstN (b : Nat) : Ps × List Ac :=
  if b = 27 then (.esc, []) else if b < 32 ∨ b = 127 then (.zero, [(2, b, [], 0)]) else if b < 128 then (.zero, [(1, b, [], 0)]) else if begB (oneS b) = true then (.start (oneS b), []) else (.zero, [badA])
def startN (s : ByteArray) (b : Nat) : Ps × List Ac :=
  if okAt (s ++ oneS b) 0 = true then (.zero, [(1, (Utf8.decode (s ++ oneS b) 0).1, [], 0)]) else if begB (s ++ oneS b) = true then (.start (s ++ oneS b), []) else ((firstN b).1, badA :: (firstN b).2)
def withinN (p : Ps) (b : Nat) : Ps × List Ac := if b = 27 then (.esc, [badA]) else if b = 24 ∨ b = 26 then (.zero, [badA]) else (p, [(2, b, [], 0)])
def escN (b : Nat) : Ps × List Ac := if b < 32 then withinN .esc b else if b = 91 then (.seq [] none, []) else if 48 ≤ b ∧ b < 127 then (.zero, [(4, 0, [], b)]) else (.zero, [badA])
def capN (n d : Nat) : Nat := min (10 * n + d) 9999
def stepN (pre : List (Option Nat)) (x : Option Nat) (b : Nat) : Ps :=
  if b = 59 ∧ pre.length < 15 then .seq (pre ++ [x]) none else if 48 ≤ b ∧ b ≤ 57 then .seq pre (some (capN (x.getD 0) (b - 48))) else .bad
def nums (pre : List (Option Nat)) (x : Option Nat) : List Nat := (pre ++ [x]).map fun y => y.getD 0
def paramsN (pre : List (Option Nat)) (x : Option Nat) : List Nat := if pre = [] ∧ x = none then [] else nums pre x
def seqN (pre : List (Option Nat)) (x : Option Nat) (b : Nat) : Ps × List Ac :=
  if b < 32 then withinN (.seq pre x) b else if b < 64 then (stepN pre x b, []) else if b < 127 then (.zero, [(3, 0, paramsN pre x, b)]) else (.zero, [badA])
def wrongN (b : Nat) : Ps × List Ac := if b < 32 then withinN .bad b else if b < 64 then (.bad, []) else (.zero, [badA])
def feedN : Ps → Nat → Ps × List Ac
  | .zero, b => firstN b
  | .start s, b => startN s b
  | .esc, b => escN b
  | .seq pre x, b => seqN pre x b
  | .bad, b => wrongN b

/-- A state that may be. -/
def OkP : Ps → Prop
  | .start s => Beg s
  | .seq pre x => pre.length ≤ 15 ∧ (∀ n, some n ∈ pre → n ≤ 9999) ∧ ∀ n, x = some n → n ≤ 9999
  | _ => True

theorem ok_first (b : Nat) : OkP (firstN b).1 := by
  unfold firstN
  repeat' split
  all_goals first | exact trivial | (rename_i h; exact (of_decide_eq_true h : Beg _))
theorem ok_within (p : Ps) (b : Nat) (h : OkP p) : OkP (withinN p b).1 := by
  unfold withinN
  repeat' split
  all_goals first | exact trivial | exact h
theorem ok_step (pre : List (Option Nat)) (x : Option Nat) (b : Nat) (h : OkP (.seq pre x)) : OkP (stepN pre x b) := by
  obtain ⟨h1, h2, h3⟩ := h
  unfold stepN
  repeat' split
  · rename_i hb
    refine ⟨by rw [List.length_append]; simp; omega, fun n hn => ?_, fun n hn => by cases hn⟩
    rcases List.mem_append.1 hn with hn | hn
    · exact h2 n hn
    · exact h3 n (by simpa using (List.mem_singleton.1 hn).symm)
  · exact ⟨h1, h2, fun n hn => by cases hn; unfold capN; omega⟩
  · exact trivial
theorem ok_feed (p : Ps) (b : Nat) (h : OkP p) : OkP (feedN p b).1 := by
  cases p with
  | zero => exact ok_first b
  | start s =>
    show OkP (startN s b).1
    unfold startN
    repeat' split
    · exact trivial
    · rename_i h; exact (of_decide_eq_true h : Beg _)
    · exact ok_first b
  | esc =>
    show OkP (escN b).1
    unfold escN
    repeat' split
    · exact ok_within _ b trivial
    · exact ⟨Nat.zero_le _, fun n h => by simp at h, fun n h => by cases h⟩
    · exact trivial
    · exact trivial
  | seq pre x =>
    show OkP (seqN pre x b).1
    unfold seqN
    repeat' split
    · exact ok_within _ b h
    · exact ok_step pre x b h
    · exact trivial
    · exact trivial
  | bad =>
    show OkP (wrongN b).1
    unfold wrongN
    repeat' split
    · exact ok_within _ b trivial
    · exact trivial
    · exact trivial

theorem bt_one (b : Nat) (h : b < 256) : bt (oneS b) 0 = b := by
  show (UInt8.ofNat b).toNat = b
  rw [UInt8.toNat_ofNat']; omega
theorem one_size (b : Nat) : (oneS b).size = 1 := rfl
/-- Of a beginning alone no rune is read. -/
theorem beg_none (s : ByteArray) (h : Beg s) : Utf8.decode s 0 = (65533, 1) := by
  rw [dec_bt, Nat.sub_zero]
  rcases h with ⟨h0, h1, h2⟩ | ⟨h0, h1, h2, h3, h4⟩ | ⟨h0, h1, h2, h3, h4, h5, h6⟩
  all_goals
    rw [h0]
    unfold Lib.decodeN
    repeat' split
    all_goals first | rfl | (exfalso; omega)
/-- A rune that is read of a beginning and one more byte is all of it. -/
theorem beg_whole (s : ByteArray) (b : Nat) (h : Beg s) (ho : okAt (s ++ oneS b) 0 = true) : (Utf8.decode (s ++ oneS b) 0).2 = (s ++ oneS b).size := by
  have hs : 0 < s.size := by rcases h with h | h | h <;> omega
  have hsz : (s ++ oneS b).size = s.size + 1 := by rw [app_size, one_size]
  have hw := decW (s ++ oneS b) 0 (by omega)
  rw [Nat.zero_add] at hw
  by_cases e : (Utf8.decode (s ++ oneS b) 0).2 ≤ s.size
  · exfalso
    have h1 := dec_head (s ++ oneS b) 0 s.size (by omega) (by omega)
    have h2 : (s ++ oneS b).extract 0 s.size = s := by
      apply ByteArray.ext
      apply Array.toList_inj.1
      rw [Lib.extract_data, app_data, Lib.size_eq, List.drop_zero, Nat.sub_zero]
      exact List.take_left
    rw [h2, beg_none s h] at h1
    unfold okAt at ho
    rw [← h1] at ho
    simp at ho
  · omega

/-- The bytes of one part. -/
def prtL : Option Nat → List UInt8
  | none => []
  | some n => Lib.decDigits n
def preL' (pre : List (Option Nat)) : List UInt8 := pre.flatMap fun y => prtL y ++ [59]
def rendL (pre : List (Option Nat)) (x : Option Nat) : List UInt8 := preL' pre ++ prtL x
def rend (pre : List (Option Nat)) (x : Option Nat) : ByteArray := ⟨(rendL pre x).toArray⟩
theorem rend_sep (pre : List (Option Nat)) (x : Option Nat) : rendL (pre ++ [x]) none = rendL pre x ++ [59] := by
  unfold rendL preL'
  rw [List.flatMap_append]
  simp [prtL]
def numL (l : List UInt8) : Nat := l.foldl (fun n u => capN n (u.toNat - 48)) 0
def digitU (u : UInt8) : Prop := 48 ≤ u.toNat ∧ u.toNat ≤ 57
theorem digits_dig : ∀ (k n : Nat), n ≤ k → ∀ u ∈ Lib.decDigits n, digitU u
  | k, n, hk, u, hu => by
    rw [Lib.decDigits] at hu
    split at hu
    · rename_i h
      rw [List.mem_singleton] at hu
      subst hu
      unfold digitU
      rw [UInt8.toNat_ofNat']
      omega
    · rename_i h
      rcases List.mem_append.1 hu with hu | hu
      · exact digits_dig (k - 1) (n / 10) (by omega) u hu
      · rw [List.mem_singleton] at hu
        subst hu
        unfold digitU
        rw [UInt8.toNat_ofNat']
        omega
termination_by k => k
decreasing_by omega
theorem part_dig (x : Option Nat) : ∀ u ∈ prtL x, digitU u := by
  cases x with
  | none => intro u h; cases h
  | some n => exact digits_dig n n (Nat.le_refl _)
theorem numL_snoc (l : List UInt8) (u : UInt8) : numL (l ++ [u]) = capN (numL l) (u.toNat - 48) := by
  unfold numL
  rw [List.foldl_append]
  rfl
theorem numL_digits : ∀ (k n : Nat), n ≤ k → n ≤ 9999 → numL (Lib.decDigits n) = n
  | k, n, hk, hn => by
    rw [Lib.decDigits]
    split
    · rename_i h
      show capN 0 ((UInt8.ofNat (48 + n)).toNat - 48) = n
      rw [UInt8.toNat_ofNat']
      unfold capN
      omega
    · rename_i h
      rw [numL_snoc, numL_digits (k - 1) (n / 10) (by omega) (by omega), UInt8.toNat_ofNat']
      unfold capN
      omega
termination_by k => k
decreasing_by omega
theorem numL_part (x : Option Nat) (h : ∀ n, x = some n → n ≤ 9999) : numL (prtL x) = x.getD 0 := by
  cases x with
  | none => rfl
  | some n => exact numL_digits n n (Nat.le_refl _) (h n rfl)
theorem numL_le (l : List UInt8) : numL l ≤ 9999 := by
  rcases List.eq_nil_or_concat l with rfl | ⟨r, u, rfl⟩
  · exact Nat.zero_le _
  · rw [List.concat_eq_append, numL_snoc]; unfold capN; omega
theorem numL_next (x : Option Nat) (h : ∀ n, x = some n → n ≤ 9999) (b : Nat) (hb : 48 ≤ b ∧ b ≤ 57) : numL (prtL x ++ [UInt8.ofNat b]) = capN (x.getD 0) (b - 48) := by
  rw [numL_snoc, numL_part x h, UInt8.toNat_ofNat']
  congr 2
  omega

/-- All that is asked for, byte by byte. -/
def runN : Ps → List Nat → Ps × List Ac
  | p, [] => (p, [])
  | p, b :: l => ((runN (feedN p b).1 l).1, (feedN p b).2 ++ (runN (feedN p b).1 l).2)
theorem runN_cons (p : Ps) (b : Nat) (l : List Nat) : runN p (b :: l) = ((runN (feedN p b).1 l).1, (feedN p b).2 ++ (runN (feedN p b).1 l).2) := by rw [runN]
theorem runN_app : ∀ (p : Ps) (a c : List Nat), runN p (a ++ c) = ((runN (runN p a).1 c).1, (runN p a).2 ++ (runN (runN p a).1 c).2)
  | p, [], c => by simp [runN]
  | p, b :: a, c => by
    rw [List.cons_append, runN_cons, runN_cons, runN_app (feedN p b).1 a c, List.append_assoc]
theorem ok_run : ∀ (p : Ps) (l : List Nat), OkP p → OkP (runN p l).1
  | _, [], h => h
  | p, b :: l, h => ok_run (feedN p b).1 l (ok_feed p b h)
theorem feed_two (p : Ps) (b : Nat) : (feedN p b).2.length ≤ 2 := by
  have hf : (firstN b).2.length ≤ 1 := by
    unfold firstN
    repeat' split
    all_goals simp
  have hw : ∀ q, (withinN q b).2.length ≤ 2 := fun q => by
    unfold withinN
    repeat' split
    all_goals simp
  cases p with
  | zero => exact Nat.le_succ_of_le hf
  | start s =>
    show (startN s b).2.length ≤ 2
    unfold startN
    repeat' split
    all_goals first | simp | skip
    omega
  | esc =>
    show (escN b).2.length ≤ 2
    unfold escN
    repeat' split
    all_goals first | exact hw _ | simp
  | seq pre x =>
    show (seqN pre x b).2.length ≤ 2
    unfold seqN
    repeat' split
    all_goals first | exact hw _ | simp
  | bad =>
    show (wrongN b).2.length ≤ 2
    unfold wrongN
    repeat' split
    all_goals first | exact hw _ | simp
end Go.Proofs.YtdnldfgolbcjiaaDoor
