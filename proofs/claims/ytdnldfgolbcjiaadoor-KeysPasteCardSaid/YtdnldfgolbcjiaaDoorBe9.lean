/-
  Texts of this proof, one behind the other; each begins with its own remark.
-/
import Derived.Laws.IdiomStrings
import Derived.Laws.BytesArg
import Derived.Test.YtdnldfgolbcjiaaDoorBe3
import Derived.Test.YtdnldfgolbcjiaaDoorBe6
import Derived.Test.YtdnldfgolbcjiaaDoorBe7
import Derived.Test.YtdnldfgolbcjiaaDoorBe8
import Derived.Test.YtdnldfgolbcjiaaDoorBe4
/-
  Plain facts on keys: which bytes wait, which keys one more byte makes, which a pause. Nothing of the program.
-/
namespace Go.Proofs.YtdnldfgolbcjiaaDoor
open Go.RowKit

/-- A key: its kind, its rune, its text. -/
abbrev Ke := Nat × Nat × ByteArray
/-- What waits: bytes of a key, or of a paste. -/
inductive Ky where
  | held (s : ByteArray)
  | paste (s : ByteArray)

def noB : ByteArray := ⟨#[]⟩
def endP : ByteArray := ⟨#[27, 91, 50, 48, 49, 126]⟩
def begP : ByteArray := ⟨#[50, 48, 48, 126]⟩
def badK (s : ByteArray) : Ke := (0, 0, s)
def ctlK (b : Nat) : Ke := if b = 13 ∨ b = 10 then (2, 0, noB) else if b = 9 then (3, 0, noB) else if b = 8 ∨ b = 127 then (4, 0, noB) else if b = 0 ∨ 27 < b then (6, b + 64, noB) else (6, b + 96, noB)
def oneK (b : Nat) : Ke := if b < 32 ∨ b = 127 then ctlK b else if b < 128 then (1, b, noB) else badK (oneS b)
def firstK (b : Nat) : Ky × List Ke := if b = 27 ∨ begB (oneS b) = true then (.held (oneS b), []) else (.held noB, [oneK b])
def anewK (k : Ke) (b : Nat) : Ky × List Ke := ((firstK b).1, k :: (firstK b).2)
/-- Behind a beginning of a rune, s of the bytes that wait and this one. -/
def runeK (w : ByteArray) (kind : Nat) (s : ByteArray) (b : Nat) : Ky × List Ke :=
  if okAt s 0 = true then (.held noB, [(kind, (Utf8.decode s 0).1, noB)]) else if begB s = true then (.held (w ++ oneS b), []) else anewK (badK w) b
def escK (w : ByteArray) (b : Nat) : Ky × List Ke :=
  if b = 91 ∨ b = 79 ∨ begB (oneS b) = true then (.held (w ++ oneS b), []) else if 32 ≤ b ∧ b < 127 then (.held noB, [(7, b, noB)]) else anewK (5, 0, noB) b
def tailB (s : ByteArray) (k : Nat) : ByteArray := s.extract k s.size
/-- The kind of the key that these bytes are behind an escape and a sign; 0: none. -/
def namedK (r : ByteArray) : Nat :=
  if r = oneS 65 then 8 else if r = oneS 66 then 9 else if r = oneS 67 then 11 else if r = oneS 68 then 10
  else if r = oneS 72 ∨ r = ⟨#[49, 126]⟩ ∨ r = ⟨#[55, 126]⟩ then 12 else if r = oneS 70 ∨ r = ⟨#[52, 126]⟩ ∨ r = ⟨#[56, 126]⟩ then 13 else if r = ⟨#[51, 126]⟩ then 14 else 0
def knownK (s : ByteArray) : Ke := if namedK (tailB s 2) = 0 then badK s else (namedK (tailB s 2), 0, noB)
def ss3K (w : ByteArray) (b : Nat) : Ky × List Ke := if b < 32 ∨ 127 ≤ b then anewK (badK w) b else (.held noB, [knownK (w ++ oneS b)])
def csiK (w : ByteArray) (b : Nat) : Ky × List Ke :=
  if b < 32 ∨ 127 ≤ b then anewK (badK w) b else if b < 64 then (.held (w ++ oneS b), []) else if tailB (w ++ oneS b) 2 = begP then (.paste noB, []) else (.held noB, [knownK (w ++ oneS b)])
def heldK (w : ByteArray) (b : Nat) : Ky × List Ke :=
  if w.size = 0 then firstK b else if bt w 0 ≠ 27 then runeK w 1 (w ++ oneS b) b else if w.size = 1 then escK w b else if bt w 1 = 79 then ss3K w b else if bt w 1 = 91 then csiK w b else runeK w 7 (tailB (w ++ oneS b) 1) b
/-- What one place of pasted bytes leaves. -/
def clean1 (s : ByteArray) (p : Nat) : ByteArray :=
  if (Utf8.decode s p).1 = 13 then oneS 10 else if okAt s p = true ∧ ((Utf8.decode s p).1 = 10 ∨ (Utf8.decode s p).1 = 9 ∨ 0 < ofN ((Utf8.decode s p).1 : Int)) then s.extract p (p + (Utf8.decode s p).2) else noB
def cleanL (s : ByteArray) (l : List Nat) : ByteArray := l.foldl (fun t p => t ++ clean1 s p) noB
def cleanB (s : ByteArray) : ByteArray := cleanL s (stA s)
/-- Do these bytes end so? -/
def endsP (s : ByteArray) : Prop := 6 ≤ s.size ∧ tailB s (s.size - 6) = endP
instance (s : ByteArray) : Decidable (endsP s) := by unfold endsP; infer_instance
def pasteK (s : ByteArray) : Ky × List Ke := if endsP s then (.held noB, [(15, 0, cleanB (s.extract 0 (s.size - 6)))]) else (.paste s, [])
def feedK : Ky → Nat → Ky × List Ke
  | .held w, b => heldK w b
  | .paste s, b => pasteK (s ++ oneS b)
def tickK : Ky → Ky × List Ke
  | .held w => if w.size = 0 then (.held w, []) else (.held noB, [if w = oneS 27 then (5, 0, noB) else badK w])
  | .paste s => (.paste s, [])
def waitsK : Ky → Bool
  | .held w => decide (0 < w.size)
  | .paste _ => true
/-- All keys, byte by byte. -/
def runK : Ky → List Nat → Ky × List Ke
  | p, [] => (p, [])
  | p, b :: l => ((runK (feedK p b).1 l).1, (feedK p b).2 ++ (runK (feedK p b).1 l).2)
theorem runK_cons (p : Ky) (b : Nat) (l : List Nat) : runK p (b :: l) = ((runK (feedK p b).1 l).1, (feedK p b).2 ++ (runK (feedK p b).1 l).2) := by rw [runK]
theorem runK_app : ∀ (p : Ky) (a c : List Nat), runK p (a ++ c) = ((runK (runK p a).1 c).1, (runK p a).2 ++ (runK (runK p a).1 c).2)
  | p, [], c => by simp [runK]
  | p, b :: a, c => by
    rw [List.cons_append, runK_cons, runK_cons, runK_app (feedK p b).1 a c, List.append_assoc]

def sizeK : Ky → Nat
  | .held s => s.size
  | .paste s => s.size
theorem first_size (b : Nat) : sizeK (firstK b).1 ≤ 1 := by
  unfold firstK
  split
  · exact Nat.le_refl 1
  · exact Nat.zero_le 1
theorem snoc_size (s : ByteArray) (b : Nat) : (s ++ oneS b).size = s.size + 1 := by rw [app_size, one_size]
theorem feed_size (p : Ky) (b : Nat) : sizeK (feedK p b).1 ≤ sizeK p + 1 := by
  have h1 := first_size b
  have h2 : ∀ k, sizeK (anewK k b).1 ≤ 1 := fun k => h1
  have h3 : ∀ w k s, sizeK (runeK w k s b).1 ≤ w.size + 1 := fun w k s => by
    unfold runeK
    repeat' split
    · exact Nat.zero_le _
    · exact Nat.le_of_eq (snoc_size w b)
    · have := h2 (badK w); omega
  cases p with
  | paste s =>
    show sizeK (pasteK (s ++ oneS b)).1 ≤ s.size + 1
    unfold pasteK
    split
    · exact Nat.zero_le _
    · exact Nat.le_of_eq (snoc_size s b)
  | held w =>
    show sizeK (heldK w b).1 ≤ w.size + 1
    unfold heldK
    repeat' split
    · omega
    · exact h3 _ _ _
    · unfold escK
      repeat' split
      · exact Nat.le_of_eq (snoc_size w b)
      · exact Nat.zero_le _
      · have := h2 (5, 0, noB); omega
    · unfold ss3K
      split
      · have := h2 (badK w); omega
      · exact Nat.zero_le _
    · unfold csiK
      repeat' split
      · have := h2 (badK w); omega
      · exact Nat.le_of_eq (snoc_size w b)
      · exact Nat.zero_le _
      · exact Nat.zero_le _
    · exact h3 _ _ _
theorem first_keys (b : Nat) : (firstK b).2.length ≤ 1 := by
  unfold firstK
  split <;> simp
theorem feed_keys (p : Ky) (b : Nat) : (feedK p b).2.length ≤ 2 := by
  have h1 := first_keys b
  have h2 : ∀ k, (anewK k b).2.length ≤ 2 := fun k => by show (firstK b).2.length + 1 ≤ 2; omega
  have h3 : ∀ w k s, (runeK w k s b).2.length ≤ 2 := fun w k s => by
    unfold runeK
    repeat' split
    · simp
    · simp
    · exact h2 _
  cases p with
  | paste s =>
    show (pasteK (s ++ oneS b)).2.length ≤ 2
    unfold pasteK
    split <;> simp
  | held w =>
    show (heldK w b).2.length ≤ 2
    unfold heldK
    repeat' split
    · omega
    · exact h3 _ _ _
    · unfold escK
      repeat' split
      · simp
      · simp
      · exact h2 _
    · unfold ss3K
      split
      · exact h2 _
      · simp
    · unfold csiK
      repeat' split
      · exact h2 _
      · simp
      · simp
      · simp
    · exact h3 _ _ _
end Go.Proofs.YtdnldfgolbcjiaaDoor

/-
  What lies in memory where a decoder's bytes and its keys lie: a row of keys, a row of bytes, the decoder's box. No call is walked here.
-/
namespace Go.Proofs.YtdnldfgolbcjiaaDoor
open Go.RowKit

abbrev FromK (n : Nat) : Nat → Prop := fun k => n ≤ k
abbrev AnyK : Nat → Prop := fun _ => True

def keC (k : Ke) : List Value := [.int .i64 (k.1 : Int), .int .i32 (k.2.1 : Int), .string k.2.2]
def keV (k : Ke) : Value := .agg #[.int .i64 (k.1 : Int), .int .i32 (k.2.1 : Int), .string k.2.2]
def kesC (l : List Ke) : List Value := l.flatMap keC
/-- A slice of these keys, in blocks of 'ok'. -/
def KeysW (ok : Nat → Prop) (w : World) (v : Value) (l : List Ke) : Prop := RowV ok w v l.length (kesC l)
/-- The bytes of a text, as cells. -/
def bytesC (s : ByteArray) : List Value := s.data.toList.map fun u => .int .u8 (u.toNat : Int)
/-- A slice that reads so. -/
def BytesW (w : World) (v : Value) (s : ByteArray) : Prop := RowV AnyK w v s.size (bytesC s)

theorem kesC_len : ∀ l : List Ke, (kesC l).length = l.length * 3
  | [] => rfl
  | x :: l => by show (keC x ++ kesC l).length = _; rw [List.length_append, kesC_len l, List.length_cons]; show 3 + _ = _; omega
theorem kesC_app (a b : List Ke) : kesC (a ++ b) = kesC a ++ kesC b := by unfold kesC; rw [List.flatMap_append]
theorem kesC_one (l : List Ke) : ∀ u ∈ kesC l, u.oneCell' = true := by
  intro u hu
  obtain ⟨x, _, hx⟩ := List.mem_flatMap.1 hu
  simp only [keC, List.mem_cons, List.not_mem_nil, or_false] at hx
  rcases hx with rfl | rfl | rfl <;> rfl
theorem kesC_at : ∀ (l : List Ke) (i j : Nat) (x : Ke), l[i]? = some x → j < 3 → (kesC l)[3 * i + j]? = (keC x)[j]?
  | [], i, j, x, h, _ => by simp at h
  | y :: l, 0, j, x, h, hj => by
    simp at h
    subst h
    show (keC y ++ kesC l)[_]? = _
    rw [Nat.mul_zero, Nat.zero_add, List.getElem?_append_left (by show j < 3; exact hj)]
  | y :: l, i + 1, j, x, h, hj => by
    show (keC y ++ kesC l)[_]? = _
    rw [List.getElem?_append_right (by show 3 ≤ _; omega), ← kesC_at l i j x (by simpa using h) hj]
    congr 1
    show 3 * (i + 1) + j - 3 = _
    omega
theorem KeysW.at_ {ok : Nat → Prop} {w : World} {v : Value} {l : List Ke} {i : Nat} {a : Ke} (h : KeysW ok w v l) (hi : l[i]? = some a) :
    ∃ g o cap, v = .slice (some ⟨g, o, none⟩) l.length cap ∧ l.length ≤ cap ∧ w.cell? ⟨g, o + 3 * i, none⟩ = some (.int .i64 (a.1 : Int)) ∧ w.cell? ⟨g, o + 3 * i + 1, none⟩ = some (.int .i32 (a.2.1 : Int)) ∧ w.cell? ⟨g, o + 3 * i + 2, none⟩ = some (.string a.2.2) := by
  have f := fun j hj => kesC_at l i j a hi hj
  obtain ⟨g, o, cap, hv, hc, _, hh⟩ := RowV.at_ h (j := 3 * i + 0) (f 0 (by decide))
  refine ⟨g, o, cap, hv, hc, ?_, ?_, ?_⟩
  · exact hh (3 * i) _ (f 0 (by decide))
  · rw [Nat.add_assoc]; exact hh (3 * i + 1) _ (f 1 (by decide))
  · rw [Nat.add_assoc]; exact hh (3 * i + 2) _ (f 2 (by decide))
theorem KeysW.keep {ok : Nat → Prop} {w w' : World} {v : Value} {l : List Ke} (h : KeysW ok w v l) (hk : KeepW ok w w') : KeysW ok w' v l := RowV.keep h hk
theorem KeysW.below {ok : Nat → Prop} {w w' : World} {v : Value} {l : List Ke} (h : KeysW ok w v l) (hb : Below w.heap.size w w') : KeysW ok w' v l := RowV.keep h (keep_below ok hb)
theorem KeysW.any {ok ok' : Nat → Prop} {w : World} {v : Value} {l : List Ke} (h : KeysW ok w v l) (hm : ∀ k, ok k → ok' k) : KeysW ok' w v l := by
  obtain ⟨ao, cap, hv, hn, ho, hc⟩ := h
  exact ⟨ao, cap, hv, hn, fun a e => hm _ (ho a e), hc⟩
theorem KeysW.form {ok : Nat → Prop} {w : World} {v : Value} {l : List Ke} (h : KeysW ok w v l) : ∃ ao cap, v = .slice ao l.length cap ∧ l.length ≤ cap := by
  obtain ⟨ao, cap, hv, hn, _⟩ := h
  exact ⟨ao, cap, hv, hn⟩
theorem KeysW.nil (ok : Nat → Prop) (w : World) : KeysW ok w (.slice none 0 0) [] := RowV.nil ok w
/-- One key alone, in a block of its own. -/
theorem keys_one {w : World} {k : Ke} {T : TypeId} : KeysW (FromK w.heap.size) (w.alloc (.cells #[.int .i64 (k.1 : Int), .int .i32 (k.2.1 : Int), .string k.2.2] T)) (.slice (some ⟨w.heap.size, 0, none⟩) 1 1) [k] := by
  obtain ⟨ao, cap, hv, hn, ho, hc⟩ := row_new (w := w) (cs := kesC [k]) (zs := []) (n := 1) (cap := 1) (e := T) (Nat.le_refl _)
  exact ⟨ao, cap, hv, hn, fun a e => Nat.le_of_eq (ho a e).symm, hc⟩

theorem bytesC_len (s : ByteArray) : (bytesC s).length = s.size := by unfold bytesC; rw [List.length_map, ← Lib.size_eq]
theorem bytesC_one (s : ByteArray) : ∀ u ∈ bytesC s, u.oneCell' = true := by
  intro u hu
  obtain ⟨x, _, rfl⟩ := List.mem_map.1 hu
  rfl
theorem bytesC_snoc (s : ByteArray) (b : Nat) (h : b < 256) : bytesC (s ++ oneS b) = bytesC s ++ [.int .u8 (b : Int)] := by
  unfold bytesC
  rw [app_data, List.map_append]
  show _ ++ [Value.int .u8 ((UInt8.ofNat b).toNat : Int)] = _
  rw [ofNat_toNat b h]
theorem bytesC_at (s : ByteArray) (i : Nat) (h : i < s.size) : (bytesC s)[i]? = some (.int .u8 (bt s i : Int)) := by
  unfold bytesC
  rw [bt_data, List.getElem?_map, List.getD, List.getElem?_eq_getElem (by rw [← Lib.size_eq]; exact h)]
  rfl
theorem tail_data (s : ByteArray) (k : Nat) : (tailB s k).data.toList = s.data.toList.drop k := by
  unfold tailB
  rw [Lib.extract_data, Lib.size_eq, List.take_of_length_le]
  rw [List.length_drop]
  exact Nat.le_refl _
theorem tailB_size (s : ByteArray) (k : Nat) : (tailB s k).size = s.size - k := by rw [Lib.size_eq, tail_data, List.length_drop, ← Lib.size_eq]
theorem bytesC_drop (s : ByteArray) (k : Nat) : (bytesC s).drop k = bytesC (tailB s k) := by unfold bytesC; rw [tail_data, List.map_drop]
theorem head_data (s : ByteArray) (k : Nat) : (s.extract 0 k).data.toList = s.data.toList.take k := by rw [Lib.extract_data, List.drop_zero, Nat.sub_zero]
theorem bytesC_take (s : ByteArray) (k : Nat) : (bytesC s).take k = bytesC (s.extract 0 k) := by unfold bytesC; rw [head_data, List.map_take]
theorem bytesC_nums (s : ByteArray) : (s.data.toList.map fun u => (u.toNat : Int)).map (Value.int .u8) = bytesC s := by unfold bytesC; rw [List.map_map]; rfl
theorem str_bytes (s : ByteArray) : strOfNums (s.data.toList.map fun u => (u.toNat : Int)) = s := by
  refine strOf_ext ?_
  rw [List.map_map]
  refine (List.map_id'' (fun u => ?_) _).symm
  show UInt8.ofNat ((u.toNat : Int).toNat) = u
  rw [Int.toNat_natCast]
  exact UInt8.ofNat_toNat

theorem BytesW.keep {w w' : World} {v : Value} {s : ByteArray} {ok : Nat → Prop} (h : BytesW w v s) (hk : KeepW ok w w') (ho : ∀ k, v.ownBlock = some k → ok k) : BytesW w' v s := by
  obtain ⟨ao, cap, rfl, hn, _, hc⟩ := h
  refine ⟨ao, cap, rfl, hn, fun _ _ => trivial, fun j u hu => ?_⟩
  obtain ⟨g, o, rfl, hg⟩ := hc j u hu
  exact ⟨g, o, rfl, hk.cell hg (ho g rfl)⟩
theorem BytesW.below {w w' : World} {v : Value} {s : ByteArray} (h : BytesW w v s) (hb : Below w.heap.size w w') : BytesW w' v s := RowV.keep h (keep_below AnyK hb)
theorem BytesW.form {w : World} {v : Value} {s : ByteArray} (h : BytesW w v s) : ∃ ao cap, v = .slice ao s.size cap ∧ s.size ≤ cap := by
  obtain ⟨ao, cap, hv, hn, _⟩ := h
  exact ⟨ao, cap, hv, hn⟩
theorem BytesW.cells {w : World} {v : Value} {s : ByteArray} (h : BytesW w v s) (h0 : 0 < s.size) : ∃ g o cap, v = .slice (some ⟨g, o, none⟩) s.size cap ∧ s.size ≤ cap ∧ ∀ i, i < s.size → w.cell? ⟨g, o + i, none⟩ = some (.int .u8 (bt s i : Int)) := by
  obtain ⟨g, o, cap, hv, hn, _, hc⟩ := RowV.at_ h (bytesC_at s 0 h0)
  exact ⟨g, o, cap, hv, hn, fun i hi => hc i _ (bytesC_at s i hi)⟩
/-- The text of a slice of bytes. -/
theorem bytes_conv {w : World} {v : Value} {s : ByteArray} (t : TypeId) (ht : Tryd.prog.underlying t = some (.slice 5)) (h : BytesW w v s) :
    (convert t 9 v).run Tryd.prog w = .ok (.string s) w := by
  obtain ⟨ao, cap, rfl, hn, _, hc⟩ := h
  cases ao with
  | none =>
    have h0 : s.size = 0 := by
      rcases Nat.eq_zero_or_pos s.size with h | h
      · exact h
      · obtain ⟨_, _, he, _⟩ := hc 0 _ (bytesC_at s 0 h); cases he
    have hs : s = ByteArray.empty := by
      apply ByteArray.ext
      exact Array.eq_empty_of_size_eq_zero h0
    rw [hs]
    exact run_convert_bytes_nil w t 5 ht Tryd.underlying5 _ _ 9 Tryd.underlying9
  | some a =>
    rw [Lib.size_eq s]
    refine run_convert_bytes_back w t 9 5 a cap s.data.toList ht Tryd.underlying5 Tryd.underlying9 (fun j hj => ?_)
    obtain ⟨g, o, he, hg⟩ := hc j _ (bytesC_at s j (by rw [Lib.size_eq]; exact hj))
    cases he
    rw [rlit, hg, bt_data, List.getD, List.getElem?_eq_getElem hj]
    rfl

/-- A decoder's box; what it holds. -/
def boxK (w : World) (D : Nat) (x : Value) : Prop := w.heap[D]? = some (.cells #[x] 43 (0, 0))
def kyI (p : Ky) (v : Value) : Value := match p with | .held _ => .iface 52 v | .paste _ => .iface 53 v
def textK : Ky → ByteArray
  | .held s => s
  | .paste s => s
/-- A row of bytes of the call's own. -/
def OwnB (N : Nat) (w : World) (v : Value) (s : ByteArray) : Prop := w.ownsRow N 5 1 v s.size (bytesC s)
structure DecW (N : Nat) (w : World) (D : Nat) (v : Value) (p : Ky) : Prop where
  box : boxK w D (kyI p v)
  row : OwnB N w v (textK p)
  ne : v.ownBlock ≠ some D
  ge : N ≤ D

theorem boxK.set {w : World} {D : Nat} {x : Value} (h : boxK w D x) (y : Value) : boxK (w.setCell ⟨D, 0, none⟩ y) D y := by
  unfold boxK at h ⊢
  show (w.heap.modify D _)[D]? = _
  have hlt := (Array.getElem?_eq_some_iff.1 h).1
  obtain ⟨_, he⟩ := Array.getElem?_eq_some_iff.1 h
  rw [Array.getElem?_eq_getElem (by rw [Array.size_modify]; exact hlt), Array.getElem_modify_self, he]
  rfl
theorem boxK.cells {w : World} {D : Nat} {x : Value} (h : boxK w D x) : w.cell? ⟨D, 0, none⟩ = some x ∧ w.frozen? ⟨D, 0, none⟩ = false := by
  unfold boxK at h
  refine ⟨?_, ?_⟩ <;> first | (unfold World.cell?; rw [h]; rfl) | (unfold World.frozen?; rw [h]; simp)
theorem boxK.lt {w : World} {D : Nat} {x : Value} (h : boxK w D x) : D < w.heap.size := (Array.getElem?_eq_some_iff.1 h).1
theorem boxK.keep {ok : Nat → Prop} {w w' : World} {D : Nat} {x : Value} (h : boxK w D x) (hk : KeepW ok w w') (ho : ok D) : boxK w' D x := (hk.same D h.lt ho).trans h
theorem boxK.below {w w' : World} {D : Nat} {x : Value} (h : boxK w D x) (hb : Below w.heap.size w w') : boxK w' D x := (hb.block D h.lt).trans h
theorem OwnB.keep {N : Nat} {ok : Nat → Prop} {w w' : World} {v : Value} {s : ByteArray} (h : OwnB N w v s) (hk : KeepW ok w w') (ho : ∀ k, v.ownBlock = some k → ok k) : OwnB N w' v s := by
  obtain ⟨h1, h2 | ⟨g, cap, cur, rfl, h3, h4, h5⟩⟩ := h
  · exact ⟨h1, .inl h2⟩
  · exact ⟨h1, .inr ⟨g, cap, cur, rfl, h3, (hk.same g (Array.getElem?_eq_some_iff.1 h4).1 (ho g rfl)).trans h4, h5⟩⟩
theorem OwnB.below {N : Nat} {w w' : World} {v : Value} {s : ByteArray} (h : OwnB N w v s) (hb : Below w.heap.size w w') : OwnB N w' v s := h.keep (keep_below AnyK hb) fun _ _ => trivial
theorem OwnB.bytes {N : Nat} {w : World} {v : Value} {s : ByteArray} (h : OwnB N w v s) : BytesW w v s := by
  rcases h.2 with ⟨rfl, h0⟩ | ⟨g, cap, cur, rfl, _, hg, hn, _, _, hx⟩
  · have hs : bytesC s = [] := List.eq_nil_of_length_eq_zero (by rw [bytesC_len]; exact h0)
    unfold BytesW
    rw [h0, hs]
    exact RowV.nil _ _
  · refine ⟨_, cap, rfl, hn, fun _ _ => trivial, fun j u hu => ⟨g, 0, rfl, ?_⟩⟩
    rw [Nat.zero_add, cell_of_row _ _ _ cur 5 (0, 0) hg]
    rw [← hx, List.getElem?_take] at hu
    split at hu
    · rw [← Array.getElem?_toList]; exact hu
    · cases hu
theorem OwnB.lt {N : Nat} {w : World} {v : Value} {s : ByteArray} (h : OwnB N w v s) : ∀ k, v.ownBlock = some k → N ≤ k ∧ k < w.heap.size := World.ownsRow.lt h
theorem DecW.keep {N : Nat} {ok : Nat → Prop} {w w' : World} {D : Nat} {v : Value} {p : Ky} (h : DecW N w D v p) (hk : KeepW ok w w') (hD : ok D) (ho : ∀ k, v.ownBlock = some k → ok k) : DecW N w' D v p :=
  ⟨h.box.keep hk hD, h.row.keep hk ho, h.ne, h.ge⟩
theorem DecW.below {N : Nat} {w w' : World} {D : Nat} {v : Value} {p : Ky} (h : DecW N w D v p) (hb : Below w.heap.size w w') : DecW N w' D v p := h.keep (keep_below AnyK hb) trivial fun _ _ => trivial
/-- One turn behind another. -/
theorem KeepW.comp {ok ok2 : Nat → Prop} {a b c : World} (h : KeepW ok a b) (g : KeepW ok2 b c) (hm : ∀ k, k < a.heap.size → ok k → ok2 k) : KeepW ok a c :=
  ⟨g.os.trans h.os, g.tape.trans h.tape, g.output.trans h.output, Nat.le_trans h.size g.size, fun k hk ho => (g.same k (Nat.lt_of_lt_of_le hk h.size) (hm k hk ho)).trans (h.same k hk ho)⟩
/-- What a turn of a decoder leaves: keys, where it stands, all else as it was. -/
def FedK (N D : Nat) (ok : Nat → Prop) (w : World) (r : Ky × List Ke) (e : Ending) (w' : World) : Prop :=
  ∃ u v', e = .returned u ∧ KeysW (FromK w.heap.size) w' u r.2 ∧ DecW N w' D v' r.1 ∧ KeepW ok w w' ∧ ∀ k, v'.ownBlock = some k → k < w.heap.size → ¬ ok k
end Go.Proofs.YtdnldfgolbcjiaaDoor
