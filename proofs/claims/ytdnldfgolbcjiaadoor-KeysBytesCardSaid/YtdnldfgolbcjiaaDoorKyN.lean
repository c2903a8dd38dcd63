/-
  Plain facts on keys: which bytes wait, which keys one more byte makes, which a pause. Nothing of the program.
-/
import Derived.Test.YtdnldfgolbcjiaaDoorPsN
import Derived.Test.YtdnldfgolbcjiaaDoorJoin
import Derived.Test.YtdnldfgolbcjiaaDoorWid
namespace Go.Proofs.YtdnldfgolbcjiaaDoor
open Go.RowKit

/-- A key: its kind, its rune, its text. -/
abbrev Ke := Nat × Nat × ByteArray
/-- What waits: bytes of a key, or of a paste. -/
inductive Ky where
  | held (s : ByteArray)
  | paste (s : ByteArray)

def noB : ByteArray := ⟨#[]⟩
def endP : ByteArray := ⟨#[27, 91, 50, 48, 49, 126]⟩
def begP : ByteArray := ⟨#[50, 48, 48, 126]⟩
def badK (s : ByteArray) : Ke := (0, 0, s)
def ctlK (b : Nat) : Ke := if b = 13 ∨ b = 10 then (2, 0, noB) else if b = 9 then (3, 0, noB) else if b = 8 ∨ b = 127 then (4, 0, noB) else if b = 0 ∨ 27 < b then (6, b + 64, noB) else (6, b + 96, noB)
def oneK (b : Nat) : Ke := if b < 32 ∨ b = 127 then ctlK b else if b < 128 then (1, b, noB) else badK (oneS b)
def firstK (b : Nat) : Ky × List Ke := if b = 27 ∨ begB (oneS b) = true then (.held (oneS b), []) else (.held noB, [oneK b])
def anewK (k : Ke) (b : Nat) : Ky × List Ke := ((firstK b).1, k :: (firstK b).2)
/-- Behind a beginning of a rune, s of the bytes that wait and this one. -/
def runeK (w : ByteArray) (kind : Nat) (s : ByteArray) (b : Nat) : Ky × List Ke :=
  if okAt s 0 = true then (.held noB, [(kind, (Utf8.decode s 0).1, noB)]) else if begB s = true then (.held (w ++ oneS b), []) else anewK (badK w) b
def escK (w : ByteArray) (b : Nat) : Ky × List Ke :=
  if b = 91 ∨ b = 79 ∨ begB (oneS b) = true then (.held (w ++ oneS b), []) else if 32 ≤ b ∧ b < 127 then (.held noB, [(7, b, noB)]) else anewK (5, 0, noB) b
def tailB (s : ByteArray) (k : Nat) : ByteArray := s.extract k s.size
/-- The kind of the key that these bytes are behind an escape and a sign; 0: none. -/
def namedK (r : ByteArray) : Nat :=
  if r = oneS 65 then 8 else if r = oneS 66 then 9 else if r = oneS 67 then 11 else if r = oneS 68 then 10
  else if r = oneS 72 ∨ r = ⟨#[49, 126]⟩ ∨ r = ⟨#[55, 126]⟩ then 12 else if r = oneS 70 ∨ r = ⟨#[52, 126]⟩ ∨ r = ⟨#[56, 126]⟩ then 13 else if r = ⟨#[51, 126]⟩ then 14 else 0
def knownK (s : ByteArray) : Ke := if namedK (tailB s 2) = 0 then badK s else (namedK (tailB s 2), 0, noB)
def ss3K (w : ByteArray) (b : Nat) : Ky × List Ke := if b < 32 ∨ 127 ≤ b then anewK (badK w) b else (.held noB, [knownK (w ++ oneS b)])
def csiK (w : ByteArray) (b : Nat) : Ky × List Ke :=
  if b < 32 ∨ 127 ≤ b then anewK (badK w) b else if b < 64 then (.held (w ++ oneS b), []) else if tailB (w ++ oneS b) 2 = begP then (.paste noB, []) else (.held noB, [knownK (w ++ oneS b)])
def heldK (w : ByteArray) (b : Nat) : Ky × List Ke :=
  if w.size = 0 then firstK b else if bt w 0 ≠ 27 then runeK w 1 (w ++ oneS b) b else if w.size = 1 then escK w b else if bt w 1 = 79 then ss3K w b else if bt w 1 = 91 then csiK w b else runeK w 7 (tailB (w ++ oneS b) 1) b
/-- What one place of pasted bytes leaves. -/
def clean1 (s : ByteArray) (p : Nat) : ByteArray :=
  if (Utf8.decode s p).1 = 13 then oneS 10 else if okAt s p = true ∧ ((Utf8.decode s p).1 = 10 ∨ (Utf8.decode s p).1 = 9 ∨ 0 < ofN ((Utf8.decode s p).1 : Int)) then s.extract p (p + (Utf8.decode s p).2) else noB
def cleanL (s : ByteArray) (l : List Nat) : ByteArray := l.foldl (fun t p => t ++ clean1 s p) noB
def cleanB (s : ByteArray) : ByteArray := cleanL s (stA s)
/-- Do these bytes end so? -/
def endsP (s : ByteArray) : Prop := 6 ≤ s.size ∧ tailB s (s.size - 6) = endP
instance (s : ByteArray) : Decidable (endsP s) := by unfold endsP; infer_instance
def pasteK (s : ByteArray) : Ky × List Ke := if endsP s then (.held noB, [(15, 0, cleanB (s.extract 0 (s.size - 6)))]) else (.paste s, [])
def feedK : Ky → Nat → Ky × List Ke
  | .held w, b => heldK w b
  | .paste s, b => pasteK (s ++ oneS b)
def tickK : Ky → Ky × List Ke
  | .held w => if w.size = 0 then (.held w, []) else (.held noB, [if w = oneS 27 then (5, 0, noB) else badK w])
  | .paste s => (.paste s, [])
def waitsK : Ky → Bool
  | .held w => decide (0 < w.size)
  | .paste _ => true
/-- All keys, byte by byte. -/
def runK : Ky → List Nat → Ky × List Ke
  | p, [] => (p, [])
  | p, b :: l => ((runK (feedK p b).1 l).1, (feedK p b).2 ++ (runK (feedK p b).1 l).2)
theorem runK_cons (p : Ky) (b : Nat) (l : List Nat) : runK p (b :: l) = ((runK (feedK p b).1 l).1, (feedK p b).2 ++ (runK (feedK p b).1 l).2) := by rw [runK]
theorem runK_app : ∀ (p : Ky) (a c : List Nat), runK p (a ++ c) = ((runK (runK p a).1 c).1, (runK p a).2 ++ (runK (runK p a).1 c).2)
  | p, [], c => by simp [runK]
  | p, b :: a, c => by
    rw [List.cons_append, runK_cons, runK_cons, runK_app (feedK p b).1 a c, List.append_assoc]

def sizeK : Ky → Nat
  | .held s => s.size
  | .paste s => s.size
theorem first_size (b : Nat) : sizeK (firstK b).1 ≤ 1 := by
  unfold firstK
  split
  · exact Nat.le_refl 1
  · exact Nat.zero_le 1
theorem snoc_size (s : ByteArray) (b : Nat) : (s ++ oneS b).size = s.size + 1 := by rw [app_size, one_size]
theorem feed_size (p : Ky) (b : Nat) : sizeK (feedK p b).1 ≤ sizeK p + 1 := by
  have h1 := first_size b
  have h2 : ∀ k, sizeK (anewK k b).1 ≤ 1 := fun k => h1
  have h3 : ∀ w k s, sizeK (runeK w k s b).1 ≤ w.size + 1 := fun w k s => by
    unfold runeK
    repeat' split
    · exact Nat.zero_le _
    · exact Nat.le_of_eq (snoc_size w b)
    · have := h2 (badK w); omega
  cases p with
  | paste s =>
    show sizeK (pasteK (s ++ oneS b)).1 ≤ s.size + 1
    unfold pasteK
    split
    · exact Nat.zero_le _
    · exact Nat.le_of_eq (snoc_size s b)
  | held w =>
    show sizeK (heldK w b).1 ≤ w.size + 1
    unfold heldK
    repeat' split
    · omega
    · exact h3 _ _ _
    · unfold escK
      repeat' split
      · exact Nat.le_of_eq (snoc_size w b)
      · exact Nat.zero_le _
      · have := h2 (5, 0, noB); omega
    · unfold ss3K
      split
      · have := h2 (badK w); omega
      · exact Nat.zero_le _
    · unfold csiK
      repeat' split
      · have := h2 (badK w); omega
      · exact Nat.le_of_eq (snoc_size w b)
      · exact Nat.zero_le _
      · exact Nat.zero_le _
    · exact h3 _ _ _
theorem first_keys (b : Nat) : (firstK b).2.length ≤ 1 := by
  unfold firstK
  split <;> simp
theorem feed_keys (p : Ky) (b : Nat) : (feedK p b).2.length ≤ 2 := by
  have h1 := first_keys b
  have h2 : ∀ k, (anewK k b).2.length ≤ 2 := fun k => by show (firstK b).2.length + 1 ≤ 2; omega
  have h3 : ∀ w k s, (runeK w k s b).2.length ≤ 2 := fun w k s => by
    unfold runeK
    repeat' split
    · simp
    · simp
    · exact h2 _
  cases p with
  | paste s =>
    show (pasteK (s ++ oneS b)).2.length ≤ 2
    unfold pasteK
    split <;> simp
  | held w =>
    show (heldK w b).2.length ≤ 2
    unfold heldK
    repeat' split
    · omega
    · exact h3 _ _ _
    · unfold escK
      repeat' split
      · simp
      · simp
      · exact h2 _
    · unfold ss3K
      split
      · exact h2 _
      · simp
    · unfold csiK
      repeat' split
      · exact h2 _
      · simp
      · simp
      · simp
    · exact h3 _ _ _
end Go.Proofs.YtdnldfgolbcjiaaDoor
