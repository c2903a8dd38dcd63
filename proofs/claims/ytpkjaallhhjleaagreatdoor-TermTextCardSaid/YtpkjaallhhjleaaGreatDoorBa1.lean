/-
  Texts of this proof, one behind the other; each begins with its own remark.
-/
import Derived.Test.YtpkjaallhhjleaaGreatDoorRows
import Derived.WalkKit
import Derived.WalkSpells
import Derived.WalkLawsBesides
import Derived.Lib.OthersKept
import Derived.Lib.Hide
import Derived.Deep.QuietTactic
import Derived.Deep.RegionHeld3
import Derived.BigQuiet
import Derived.WalkSmall
import Derived.Deep.DeepFit
import Derived.Deep.AppendSrc
import Derived.Maps.AppendAt
import Derived.Lib.TrimU
import Derived.Lib.RuneCountTail
import Derived.Lib.QuoteLoop
import Derived.Laws.BytesArg
import Derived.Stop.FmtQuoteTie
import Derived.Lib.DecodeN
/-
  Rows of cells behind a slice, whatever their elements: what a row holds, in which blocks; that it stays while those blocks stay; append onto one without room. No call is walked here.
-/
namespace Go.Proofs.YtpkjaallhhjleaaGreatDoor
open Go.RowKit

theorem rlit (g o k : Nat) : (⟨g, o, none⟩ : Addr).add k = ⟨g, o + k, none⟩ := by unfold Addr.add; split <;> simp_all
theorem rlt {w : World} {p : Addr} {v : Value} (h : w.cell? p = some v) : p.block < w.heap.size := World.block_lt_of_cell? w p h

/-- The blocks that may stay do stay. -/
structure KeepW (ok : Nat → Prop) (w w' : World) : Prop where
  os : w'.os = w.os
  tape : w'.tape = w.tape
  output : w'.output = w.output
  size : w.heap.size ≤ w'.heap.size
  same : ∀ k, k < w.heap.size → ok k → w'.heap[k]? = w.heap[k]?
theorem KeepW.refl (ok : Nat → Prop) (w : World) : KeepW ok w w := ⟨rfl, rfl, rfl, Nat.le_refl _, fun _ _ _ => rfl⟩
theorem KeepW.trans {ok : Nat → Prop} {a b c : World} (h : KeepW ok a b) (g : KeepW ok b c) : KeepW ok a c :=
  ⟨g.os.trans h.os, g.tape.trans h.tape, g.output.trans h.output, Nat.le_trans h.size g.size, fun k hk ho => (g.same k (Nat.lt_of_lt_of_le hk h.size) ho).trans (h.same k hk ho)⟩
theorem KeepW.mono {ok ok' : Nat → Prop} {a b : World} (h : KeepW ok a b) (hm : ∀ k, k < a.heap.size → ok' k → ok k) : KeepW ok' a b :=
  ⟨h.os, h.tape, h.output, h.size, fun k hk ho => h.same k hk (hm k hk ho)⟩
theorem keep_below {w w' : World} (ok : Nat → Prop) (h : Below w.heap.size w w') : KeepW ok w w' := ⟨h.os, h.tape, h.output, h.size, fun k hk _ => h.block k hk⟩
theorem keep_drewN (ok : Nat → Prop) (w : World) (n : Nat) : KeepW ok w (w.drewN n) := ⟨rfl, rfl, rfl, Nat.le_refl _, fun _ _ _ => rfl⟩
theorem keep_drew (ok : Nat → Prop) (w : World) : KeepW ok w w.drew := ⟨rfl, rfl, rfl, Nat.le_refl _, fun _ _ _ => rfl⟩
theorem keep_set {ok : Nat → Prop} (B o : Nat) (x : Option Nat) (v : Value) (w : World) (hB : ¬ ok B) : KeepW ok w (w.setCell ⟨B, o, x⟩ v) :=
  ⟨rfl, rfl, rfl, by show _ ≤ (w.heap.modify _ _).size; rw [Array.size_modify]; exact Nat.le_refl _, fun k _ ho => Below.heap_setCell w _ v k fun e => hB (by rw [show k = B from e] at ho; exact ho)⟩
theorem KeepW.cell {ok : Nat → Prop} {w w' : World} (h : KeepW ok w w') {g o : Nat} {v : Value} (hc : w.cell? ⟨g, o, none⟩ = some v) (hg : ok g) : w'.cell? ⟨g, o, none⟩ = some v :=
  (World.cell?_of_block (a := ⟨g, o, none⟩) (h.same g (rlt hc) hg)).trans hc
/-- What was below all that may turn is as it was. -/
theorem KeepW.below {ok : Nat → Prop} {n : Nat} {a b c : World} (h : Below n a b) (g : KeepW ok b c) (hn : n ≤ b.heap.size) (ho : ∀ k, k < n → ok k) : Below n a c :=
  ⟨g.os.trans h.os, g.tape.trans h.tape, g.output.trans h.output, Nat.le_trans h.size g.size, fun k hk => (g.same k (by omega) (ho k hk)).trans (h.block k hk)⟩

/-- A slice of n elements that begins with these cells; its block is one of those. -/
def RowV (ok : Nat → Prop) (w : World) (v : Value) (n : Nat) (cs : List Value) : Prop :=
  ∃ ao cap, v = .slice ao n cap ∧ n ≤ cap ∧ (∀ a, ao = some a → ok a.block) ∧ ∀ (j : Nat) u, cs[j]? = some u → ∃ g o, ao = some ⟨g, o, none⟩ ∧ w.cell? ⟨g, o + j, none⟩ = some u
theorem RowV.keep {ok : Nat → Prop} {w w' : World} {v : Value} {n : Nat} {cs : List Value} (h : RowV ok w v n cs) (hk : KeepW ok w w') : RowV ok w' v n cs := by
  obtain ⟨ao, cap, hv, hn, ho, hc⟩ := h
  refine ⟨ao, cap, hv, hn, ho, fun j u hu => ?_⟩
  obtain ⟨g, o, ha, hg⟩ := hc j u hu
  exact ⟨g, o, ha, hk.cell hg (ho _ ha)⟩
theorem RowV.mono {ok ok' : Nat → Prop} {w : World} {v : Value} {n : Nat} {cs : List Value} (h : RowV ok w v n cs) (hm : ∀ k, k < w.heap.size → ok k → ok' k) (hn : 0 < cs.length) : RowV ok' w v n cs := by
  obtain ⟨ao, cap, hv, hnc, ho, hc⟩ := h
  obtain ⟨g, o, ha, hg⟩ := hc 0 _ (List.getElem?_eq_getElem hn)
  refine ⟨ao, cap, hv, hnc, fun a e => ?_, hc⟩
  have e2 : a = ⟨g, o, none⟩ := Option.some.inj (e.symm.trans ha)
  subst e2
  exact hm g (rlt hg) (ho _ e)
theorem RowV.cap {ok : Nat → Prop} {w : World} {a : Option Addr} {n c : Nat} {cs : List Value} (h : RowV ok w (.slice a n c) n cs) : n ≤ c := by
  obtain ⟨ao, cap, hv, hn, _⟩ := h
  cases hv; exact hn
theorem RowV.nil (ok : Nat → Prop) (w : World) : RowV ok w (.slice none 0 0) 0 [] := ⟨none, 0, rfl, Nat.le_refl _, (fun a e => by cases e), fun j u h => by simp at h⟩
theorem RowV.take {ok : Nat → Prop} {w : World} {ao : Option Addr} {n cap k c2 : Nat} {cs : List Value} (m : Nat) (h : RowV ok w (.slice ao n cap) n cs) (hk : k ≤ c2) : RowV ok w (.slice ao k c2) k (cs.take (k * m)) := by
  obtain ⟨ao', cap', he, hn, ho, hc⟩ := h
  cases he
  refine ⟨ao, c2, rfl, hk, ho, fun j u hu => ?_⟩
  rw [List.getElem?_take] at hu
  split at hu
  · exact hc j u hu
  · cases hu
theorem RowV.drop {ok : Nat → Prop} {w : World} {g o n cap i c2 : Nat} {cs : List Value} (m : Nat) (h : RowV ok w (.slice (some ⟨g, o, none⟩) n cap) n cs) (hc2 : n - i ≤ c2) : RowV ok w (.slice (some ⟨g, o + i * m, none⟩) (n - i) c2) (n - i) (cs.drop (i * m)) := by
  obtain ⟨ao', cap', he, hn, ho, hc⟩ := h
  cases he
  refine ⟨_, c2, rfl, hc2, fun a e => by cases e; exact ho ⟨g, o, none⟩ rfl, fun j u hu => ?_⟩
  rw [List.getElem?_drop] at hu
  obtain ⟨g', o', e, hg⟩ := hc _ u hu
  cases e
  exact ⟨g, o + i * m, rfl, by rw [Nat.add_assoc]; exact hg⟩
/-- What stands at one place of it. -/
theorem RowV.at_ {ok : Nat → Prop} {w : World} {v : Value} {n j : Nat} {u : Value} {cs : List Value} (h : RowV ok w v n cs) (hu : cs[j]? = some u) : ∃ g o cap, v = .slice (some ⟨g, o, none⟩) n cap ∧ n ≤ cap ∧ ok g ∧ ∀ (k : Nat) x, cs[k]? = some x → w.cell? ⟨g, o + k, none⟩ = some x := by
  obtain ⟨ao, cap, rfl, hn, ho, hc⟩ := h
  obtain ⟨g, o, rfl, _⟩ := hc j u hu
  refine ⟨g, o, cap, rfl, hn, ho _ rfl, fun k x hx => ?_⟩
  obtain ⟨g', o', e, hg⟩ := hc k x hx
  cases e
  exact hg
/-- A row that a literal lays, or an append. -/
theorem row_new {w : World} {n cap : Nat} {cs zs : List Value} {e : TypeId} (hn : n ≤ cap) : RowV (fun k => k = w.heap.size) (w.alloc (.cells (cs ++ zs).toArray e)) (.slice (some ⟨w.heap.size, 0, none⟩) n cap) n cs := by
  refine ⟨_, cap, rfl, hn, fun a h => by cases h; rfl, fun j u hu => ⟨_, 0, rfl, ?_⟩⟩
  rw [cell_of_row _ _ _ _ e (0, 0) (heap_alloc_new w _), Nat.zero_add, List.getElem?_toArray, List.getElem?_append_left (List.getElem?_eq_some_iff.1 hu).1]
  exact hu


set_option maxRecDepth 40000 in
/-- append onto a row that is full: a new row, whatever was there. -/
theorem run_app_full {ok ok2 : Nat → Prop} {w : World} {ao : Option Addr} {u : Value} {n k m : Nat} {cs ds : List Value} (t ty e : TypeId) (i : TypeInfo) (z : Value) (bytes : Nat) (ht : Tryz.prog.underlying t = some (.slice e)) (hi : Tryz.prog.info? e = some i) (hz0 : i.zero = some z) (hz1 : i.size = m) (hz2 : i.bytes = bytes)
    (hv : RowV ok w (.slice ao n n) n cs) (hl : cs.length = n * m) (hu : RowV ok2 w u k ds) (hl2 : ds.length = k * m) (hk : 0 < k) (hm : 0 < m) (h1 : ∀ x ∈ ds, x.oneCell' = true) (hb : (n + k) * bytes ≤ 140737488355328) (hn : n + k ≤ 1000000) :
    ∃ cap zs, (Builtin.append_ #[t, t] ty #[.slice ao n n, u]).run Tryz.prog w = .ok (.slice (some ⟨w.heap.size, 0, none⟩) (n + k) cap) (w.drew.alloc (.cells (cs ++ ds ++ zs).toArray e)) ∧ n + k ≤ cap := by
  obtain ⟨g2, o2, c2, rfl, hc2, _, hcell2⟩ := hu.at_ (j := 0) (u := ds[0]'(by rw [hl2]; exact Nat.mul_pos hk hm)) (List.getElem?_eq_getElem _)
  have hsrc : Src Tryz.prog i.size t (.slice (some ⟨g2, o2, none⟩) k c2) k ds w := Src.ofSlice w ht _ _ _ _ (by rw [hl2, hz1]) (fun j x hx => by rw [rlit]; exact hcell2 j x hx) h1
  have hold : (Builtin.firstCells i.size n (.slice ao n n)).run Tryz.prog w.drew = .ok cs.toArray w.drew := by
    obtain ⟨ao', cap', he, _, _, hc⟩ := hv
    cases he
    cases ao with
    | none =>
      have hx : cs = [] := by
        cases cs with
        | nil => rfl
        | cons x r => obtain ⟨_, _, hh, _⟩ := hc 0 x rfl; cases hh
      subst hx
      exact run_firstCells_none w.drew i.size n n n
    | some a =>
      refine run_firstCells_some w.drew i.size n a n n cs (by rw [hl, hz1]) (fun j x hx => ?_)
      obtain ⟨g, o, he, hg⟩ := hc j x hx
      cases he
      rw [rlit]; exact hg
  have hr := run_append_grow_src w t t ty e i z ht hi hz0 ao n n cs hold _ k ds hsrc (by omega) (by omega) (growslice_fits (by omega) (by rw [hz2]; exact hb))
  refine ⟨_, (Builtin.zeroCells z.cells (grownCap w (n + k) n e - (n + k))).toList, ?_, grownCap_ge w (n + k) n e⟩
  rw [hr]
  congr 2
  simp
end Go.Proofs.YtpkjaallhhjleaaGreatDoor

/-
  Plain facts on decoding a text, and the places where runes stand in it. Nothing of the program.
-/
namespace Go.Proofs.YtpkjaallhhjleaaGreatDoor
open Go.RowKit

theorem decW (s : ByteArray) (k : Nat) (h : k < s.size) : 1 ≤ (Utf8.decode s k).2 ∧ k + (Utf8.decode s k).2 ≤ s.size := by
  have h1 := Lib.width_pos s k
  have h2 := Lib.width_le (s.extract k s.size) (by rw [Lib.tail_size]; omega)
  rw [Lib.tail_decode, Lib.tail_size] at h2
  simp only [Nat.add_zero] at h2
  omega

theorem lt_of_block {w : World} {k : Nat} {o : Obj} (h : w.heap[k]? = some o) : k < w.heap.size := by
  rcases Nat.lt_or_ge k w.heap.size with h1 | h1
  · exact h1
  · rw [Array.getElem?_eq_none h1] at h; cases h

/-- What Next tells of a place within the text. -/
def okAt (s : ByteArray) (k : Nat) : Bool := !decide ((Utf8.decode s k).1 = 65533 ∧ (Utf8.decode s k).2 = 1)

/-- The places from p on, at most so many. -/
def stL (s : ByteArray) : Nat → Nat → List Nat
  | 0, _ => []
  | f + 1, p => if p < s.size then p :: stL s f (p + (Utf8.decode s p).2) else []

theorem stL_end (s : ByteArray) (f p : Nat) (h : ¬ p < s.size) : stL s f p = [] := by
  cases f with
  | zero => rfl
  | succ f => simp [stL, h]

theorem stL_step (s : ByteArray) (f p : Nat) (h : p < s.size) : stL s (f + 1) p = p :: stL s f (p + (Utf8.decode s p).2) := by simp [stL, h]

theorem stL_length (s : ByteArray) : ∀ f p, (stL s f p).length ≤ s.size - p
  | 0, p => by simp [stL]
  | f + 1, p => by
    by_cases h : p < s.size
    · have := decW s p h
      have ih := stL_length s f (p + (Utf8.decode s p).2)
      rw [stL_step s f p h, List.length_cons]
      omega
    · rw [stL_end s _ p h]; simp

def stA (s : ByteArray) : List Nat := stL s s.size 0

theorem stA_length (s : ByteArray) : (stA s).length ≤ s.size := by have := stL_length s s.size 0; unfold stA; omega

def allOk (s : ByteArray) (l : List Nat) : Bool := l.all (okAt s)

theorem allOk_cons (s : ByteArray) (p : Nat) (l : List Nat) : allOk s (p :: l) = (okAt s p && allOk s l) := by simp [allOk]

end Go.Proofs.YtpkjaallhhjleaaGreatDoor

/-
  Plain facts: a rune's bytes by division. Nothing of the program.
-/
namespace Go.Proofs.YtpkjaallhhjleaaGreatDoor
open Go.RowKit

/-- A rune's bytes, none of what is no rune. -/
def putB (r : Int) : ByteArray := if Lib.validRune r then Utf8.encode r else ⟨#[]⟩

theorem strOf_ext {a : ByteArray} {xs : List Int} (h : a.data.toList = xs.map fun n => UInt8.ofNat n.toNat) : strOfNums xs = a := by
  apply ByteArray.ext; apply Array.toList_inj.1; rw [strOfNums_data, h]

theorem put_1 (n : Nat) (h : n < 128) : strOfNums [(n : Int)] = putB n := by
  have hv : Lib.validRune (n : Int) = true := decide_eq_true (by omega)
  apply strOf_ext
  rw [putB, if_pos hv, Go.Extern.FmtText.enc1 n h]
  rfl

theorem put_2 (n : Nat) (h0 : 128 ≤ n) (h : n < 2048) : strOfNums [192 + (n : Int) / 64, 128 + (n : Int) % 64] = putB n := by
  have hv : Lib.validRune (n : Int) = true := decide_eq_true (by omega)
  apply strOf_ext
  rw [putB, if_pos hv, Go.Extern.FmtText.enc2 n (by omega) h, List.map_cons, List.map_cons, List.map_nil, show (192 + (n : Int) / 64).toNat = 192 + n / 64 by omega, show (128 + (n : Int) % 64).toNat = 128 + n % 64 by omega]

theorem put_3 (n : Nat) (h0 : 2048 ≤ n) (h : n < 65536) (hs : n < 55296 ∨ 57344 ≤ n) : strOfNums [224 + (n : Int) / 4096, 128 + (n : Int) / 64 % 64, 128 + (n : Int) % 64] = putB n := by
  have hv : Lib.validRune (n : Int) = true := decide_eq_true (by omega)
  apply strOf_ext
  rw [putB, if_pos hv, Go.Extern.FmtText.enc3 n (by omega) h hs, List.map_cons, List.map_cons, List.map_cons, List.map_nil, show (224 + (n : Int) / 4096).toNat = 224 + n / 4096 by omega, show (128 + (n : Int) / 64 % 64).toNat = 128 + n / 64 % 64 by omega, show (128 + (n : Int) % 64).toNat = 128 + n % 64 by omega]

theorem put_4 (n : Nat) (h0 : 65536 ≤ n) (h : n ≤ 1114111) : strOfNums [240 + (n : Int) / 262144, 128 + (n : Int) / 4096 % 64, 128 + (n : Int) / 64 % 64, 128 + (n : Int) % 64] = putB n := by
  have hv : Lib.validRune (n : Int) = true := decide_eq_true (by omega)
  apply strOf_ext
  rw [putB, if_pos hv, Go.Extern.FmtText.enc4 n (by omega) h, List.map_cons, List.map_cons, List.map_cons, List.map_cons, List.map_nil, show (240 + (n : Int) / 262144).toNat = 240 + n / 262144 by omega, show (128 + (n : Int) / 4096 % 64).toNat = 128 + n / 4096 % 64 by omega, show (128 + (n : Int) / 64 % 64).toNat = 128 + n / 64 % 64 by omega, show (128 + (n : Int) % 64).toNat = 128 + n % 64 by omega]

theorem put_no (r : Int) (h : ¬ (0 ≤ r ∧ r < 55296 ∨ 57343 < r ∧ r ≤ 1114111)) : putB r = ⟨#[]⟩ := by
  have hv : Lib.validRune r = false := decide_eq_false h
  simp [putB, hv]

theorem put1 (r : Int) (h0 : 0 ≤ r) (h : r < 128) : strOfNums [r] = putB r := by
  obtain ⟨n, rfl⟩ := Int.eq_ofNat_of_zero_le h0
  exact put_1 n (by omega)

theorem put2 (r : Int) (h0 : 128 ≤ r) (h : r < 2048) : strOfNums [192 + r / 64, 128 + r % 64] = putB r := by
  obtain ⟨n, rfl⟩ := Int.eq_ofNat_of_zero_le (a := r) (by omega)
  exact put_2 n (by omega) (by omega)

theorem put3 (r : Int) (h0 : 2048 ≤ r) (h : r < 65536) (hs : r < 55296 ∨ 57344 ≤ r) : strOfNums [224 + r / 4096, 128 + r / 64 % 64, 128 + r % 64] = putB r := by
  obtain ⟨n, rfl⟩ := Int.eq_ofNat_of_zero_le (a := r) (by omega)
  exact put_3 n (by omega) (by omega) (by omega)

theorem put4 (r : Int) (h0 : 65536 ≤ r) (h : r ≤ 1114111) : strOfNums [240 + r / 262144, 128 + r / 4096 % 64, 128 + r / 64 % 64, 128 + r % 64] = putB r := by
  obtain ⟨n, rfl⟩ := Int.eq_ofNat_of_zero_le (a := r) (by omega)
  exact put_4 n (by omega) (by omega)

end Go.Proofs.YtpkjaallhhjleaaGreatDoor

/-
  Plain facts on texts as runes: which bytes stand at a place, what is cut off, what is joined. Nothing of the program.
-/
namespace Go.Proofs.YtpkjaallhhjleaaGreatDoor
open Go.Lib

/-- Byte i, a number; 0 beyond the end. -/
def bt (s : ByteArray) (i : Nat) : Nat := (s.get! i).toNat
theorem bt_lt (s : ByteArray) (i : Nat) : bt s i < 256 := UInt8.toNat_lt _
theorem dec_bt (s : ByteArray) (i : Nat) : Utf8.decode s i = decodeN (s.size - i) (bt s i) (bt s (i + 1)) (bt s (i + 2)) (bt s (i + 3)) := decode_at s i

/-- Two bytes or more: the first one leads, the others go on. -/
theorem decN_wide (n b0 b1 b2 b3 : Nat) (h0 : b0 < 256) (h : 2 ≤ (decodeN n b0 b1 b2 b3).2) :
    192 ≤ b0 ∧ b1 / 64 = 2 ∧ (3 ≤ (decodeN n b0 b1 b2 b3).2 → b2 / 64 = 2) ∧ (4 ≤ (decodeN n b0 b1 b2 b3).2 → b3 / 64 = 2) := by
  revert h
  unfold decodeN
  repeat' split
  all_goals simp
  all_goals omega

theorem decN_le4 (n b0 b1 b2 b3 : Nat) : (decodeN n b0 b1 b2 b3).2 ≤ 4 := by
  unfold decodeN
  repeat' split
  all_goals simp

/-- Bytes beyond the end make no difference. -/
theorem decN_congr (n b0 b1 b2 b3 c1 c2 c3 : Nat) (h1 : 1 < n → c1 = b1) (h2 : 2 < n → c2 = b2) (h3 : 3 < n → c3 = b3) : decodeN n b0 c1 c2 c3 = decodeN n b0 b1 b2 b3 := by
  by_cases e1 : 1 < n
  · obtain rfl := h1 e1
    by_cases e2 : 2 < n
    · obtain rfl := h2 e2
      by_cases e3 : 3 < n
      · obtain rfl := h3 e3; rfl
      · simp only [decodeN, e3, false_and, and_false, if_false]
    · simp only [decodeN, e2, show ¬ 3 < n by omega, false_and, and_false, if_false]
  · simp only [decodeN, e1, false_and, and_false, if_false]

/-- What is read with m bytes at hand is what is read with n, if it takes no more. -/
theorem decN_cut (n m b0 b1 b2 b3 : Nat) (hm : m ≤ n) (h : (decodeN n b0 b1 b2 b3).2 ≤ m) : decodeN m b0 b1 b2 b3 = decodeN n b0 b1 b2 b3 := by
  revert h
  unfold decodeN
  repeat' split
  all_goals simp
  all_goals first | omega | (intros; omega)

/-- With fewer bytes at hand than it has, no rune is read. -/
theorem decN_short (n m b0 b1 b2 b3 : Nat) (hn : 1 ≤ n) (h : n < (decodeN m b0 b1 b2 b3).2) : decodeN n b0 b1 b2 b3 = (65533, 1) := by
  revert h
  unfold decodeN
  repeat' split
  all_goals first | (intro h; dsimp only at h; exfalso; omega) | (intro _; rfl)

/-- A rune that is read with n bytes at hand is read with more. -/
theorem decN_more (n m b0 b1 b2 b3 : Nat) (hn : 1 ≤ n) (hm : n ≤ m) (h : decodeN n b0 b1 b2 b3 ≠ (65533, 1)) : decodeN m b0 b1 b2 b3 = decodeN n b0 b1 b2 b3 := by
  by_cases e : (decodeN m b0 b1 b2 b3).2 ≤ n
  · exact (decN_cut m n b0 b1 b2 b3 hm e).symm
  · exact absurd (decN_short n m b0 b1 b2 b3 hn (by omega)) h

/-- What is read with n bytes at hand is read with more, if the one behind them can't go on. -/
theorem decN_stop (n m b0 b1 b2 b3 : Nat) (hn : 1 ≤ n) (hm : n ≤ m) (h1 : n = 1 → b1 / 64 ≠ 2) (h2 : n = 2 → b2 / 64 ≠ 2) (h3 : n = 3 → b3 / 64 ≠ 2) : decodeN m b0 b1 b2 b3 = decodeN n b0 b1 b2 b3 := by
  unfold decodeN
  repeat' split
  all_goals first | (exfalso; omega) | rfl

theorem bt_data (s : ByteArray) (i : Nat) : bt s i = (s.data.toList.getD i 0).toNat := by unfold bt; rw [getD_get!']
theorem bt_head (s : ByteArray) (k i : Nat) (h : i < k) : bt (s.extract 0 k) i = bt s i := by
  rw [bt_data, bt_data, extract_data]
  simp [List.getD, List.getElem?_take_of_lt h]
theorem app_data (a b : ByteArray) : (a ++ b).data.toList = a.data.toList ++ b.data.toList := by simp
theorem app_size (a b : ByteArray) : (a ++ b).size = a.size + b.size := by rw [size_eq, app_data, List.length_append, ← size_eq, ← size_eq]
theorem bt_appL (a b : ByteArray) (i : Nat) (h : i < a.size) : bt (a ++ b) i = bt a i := by
  rw [bt_data, bt_data, app_data]
  rw [size_eq] at h
  simp only [List.getD, List.getElem?_append_left h]
theorem bt_appR (a b : ByteArray) (i : Nat) : bt (a ++ b) (a.size + i) = bt b i := by
  rw [bt_data, bt_data, app_data, size_eq]
  simp only [List.getD]
  rw [List.getElem?_append_right (by omega), Nat.add_sub_cancel_left]
theorem head_size (s : ByteArray) (k : Nat) (h : k ≤ s.size) : (s.extract 0 k).size = k := by
  rw [size_eq, extract_data, List.length_take, List.length_drop, ← size_eq]
  omega

/-- What stands at k within the first e bytes: the same, if it ends there. -/
theorem dec_head (s : ByteArray) (k e : Nat) (he : e ≤ s.size) (hk : k + (Utf8.decode s k).2 ≤ e) : Utf8.decode (s.extract 0 e) k = Utf8.decode s k := by
  have hw := Lib.width_pos s k
  rw [dec_bt s k] at hk hw
  rw [dec_bt, dec_bt, head_size s e he, bt_head s e k (by omega), ← decN_cut (s.size - k) (e - k) _ _ _ _ (by omega) (by omega)]
  apply decN_congr
  · intro h; exact bt_head s e _ (by omega)
  · intro h; exact bt_head s e _ (by omega)
  · intro h; exact bt_head s e _ (by omega)

theorem dec_appR (a b : ByteArray) (i : Nat) : Utf8.decode (a ++ b) (a.size + i) = Utf8.decode b i := by
  rw [dec_bt, dec_bt, app_size, Nat.add_assoc, Nat.add_assoc, Nat.add_assoc, bt_appR, bt_appR, bt_appR, bt_appR]
  congr 1
  omega

theorem dec_appL (a b : ByteArray) (i : Nat) (h : i < a.size) (ho : Utf8.decode a i ≠ (65533, 1)) : Utf8.decode (a ++ b) i = Utf8.decode a i := by
  have e : Utf8.decode a i = decodeN (a.size - i) (bt (a ++ b) i) (bt (a ++ b) (i + 1)) (bt (a ++ b) (i + 2)) (bt (a ++ b) (i + 3)) := by
    rw [dec_bt, bt_appL a b i h]
    exact decN_congr _ _ _ _ _ _ _ _ (fun _ => (bt_appL a b _ (by omega)).symm) (fun _ => (bt_appL a b _ (by omega)).symm) (fun _ => (bt_appL a b _ (by omega)).symm)
  rw [e] at ho ⊢
  rw [dec_bt, app_size, decN_more (a.size - i) (a.size + b.size - i) _ _ _ _ (by omega) (by omega) ho]

/-- What stands in front of a text that does not begin with a byte that goes on. -/
theorem dec_appStop (a b : ByteArray) (i : Nat) (h : i < a.size) (hb : bt b 0 / 64 ≠ 2) : Utf8.decode (a ++ b) i = Utf8.decode a i := by
  have e : Utf8.decode a i = decodeN (a.size - i) (bt (a ++ b) i) (bt (a ++ b) (i + 1)) (bt (a ++ b) (i + 2)) (bt (a ++ b) (i + 3)) := by
    rw [dec_bt, bt_appL a b i h]
    exact decN_congr _ _ _ _ _ _ _ _ (fun _ => (bt_appL a b _ (by omega)).symm) (fun _ => (bt_appL a b _ (by omega)).symm) (fun _ => (bt_appL a b _ (by omega)).symm)
  have hr := bt_appR a b 0
  rw [Nat.add_zero] at hr
  rw [e, dec_bt, app_size]
  refine decN_stop (a.size - i) (a.size + b.size - i) _ _ _ _ (by omega) (by omega) (fun h1 => ?_) (fun h1 => ?_) (fun h1 => ?_)
  · rw [show i + 1 = a.size by omega, hr]; exact hb
  · rw [show i + 2 = a.size by omega, hr]; exact hb
  · rw [show i + 3 = a.size by omega, hr]; exact hb

/-- Two bytes or more at k: the first leads, the others go on. -/
theorem dec_lead (s : ByteArray) (k : Nat) (h : 2 ≤ (Utf8.decode s k).2) : 192 ≤ bt s k := by
  rw [dec_bt] at h
  exact (decN_wide _ _ _ _ _ (bt_lt s k) h).1
theorem dec_cont (s : ByteArray) (k j : Nat) (h1 : k < j) (h2 : j < k + (Utf8.decode s k).2) : bt s j / 64 = 2 := by
  have h4 := decN_le4 (s.size - k) (bt s k) (bt s (k + 1)) (bt s (k + 2)) (bt s (k + 3))
  rw [dec_bt] at h2
  have hw := decN_wide (s.size - k) (bt s k) (bt s (k + 1)) (bt s (k + 2)) (bt s (k + 3)) (bt_lt s k) (by omega)
  by_cases e1 : j = k + 1
  · subst e1; exact hw.2.1
  by_cases e2 : j = k + 2
  · subst e2; exact hw.2.2.1 (by omega)
  · rw [show j = k + 3 by omega]; exact hw.2.2.2 (by omega)
end Go.Proofs.YtpkjaallhhjleaaGreatDoor

/-
  Plain facts: what the first byte of a rune tells. Nothing of the program.
-/
namespace Go.Proofs.YtpkjaallhhjleaaGreatDoor
open Go.RowKit

/-- How many bytes a rune has that begins with b; what that tells of it. -/
def bgN (b : Nat) : Nat := if b < 128 then 1 else if b < 192 then 0 else if b < 224 then 2 else if b < 240 then 3 else if b < 248 then 4 else 0

def bgR (b : Nat) : Nat := if b < 128 then b else if b < 192 then 0 else if b < 224 then b - 192 else if b < 240 then b - 224 else if b < 248 then b - 240 else 0

theorem bgN_le (b : Nat) : bgN b ≤ 4 := by
  unfold bgN
  repeat' split
  all_goals omega

theorem bgR_le (b : Nat) : bgR b ≤ 127 := by
  unfold bgR
  repeat' split
  all_goals omega

theorem bgR_le2 (b : Nat) (h : 2 ≤ bgN b) : bgR b ≤ 31 := by
  revert h
  unfold bgN bgR
  repeat' split
  all_goals omega

theorem bg_ret {N R : Nat} {n r : Int} (h1 : n = (N : Int)) (h2 : r = (R : Int)) : Ending.returned (.tuple #[.int .i64 n, .int .i32 r]) = .returned (.tuple #[.int .i64 (N : Int), .int .i32 (R : Int)]) := by rw [h1, h2]

end Go.Proofs.YtpkjaallhhjleaaGreatDoor
