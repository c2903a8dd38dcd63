/-
  Texts of this proof, one behind the other; each begins with its own remark.
-/
import Derived.Laws.BytesArg
import Derived.Stop.FmtQuoteTie
import Derived.Test.YtdnldfgolbcjiaaDoorBe1
/-
  Lists of ints in memory of the call's own; the places of a text as such a list; the last of them.
-/
namespace Go.Proofs.YtdnldfgolbcjiaaDoor
open Go.RowKit

theorem Tryd.infoInt : (Tryd.prog.info? 3).map (fun i => (i.zero, i.size, i.bytes)) = some (some (.int .i64 0), 1, 8) := by kernel_rfl

def ints (l : List Nat) : List Value := l.map fun (k : Nat) => .int .i64 (k : Int)

theorem ints_getD (l : List Nat) (k : Nat) (h : k < l.length) : (ints l)[k]? = some (.int .i64 ((l.getD k 0 : Nat) : Int)) := by
  unfold ints
  rw [List.getElem?_map, List.getElem?_eq_getElem h]
  simp [List.getD, List.getElem?_eq_getElem h]

theorem ownsRow_below {w w' : World} {B e size n : Nat} {v : Value} {xs : List Value} (h : w.ownsRow B e size v n xs) (hb : Below w.heap.size w w') : w'.ownsRow B e size v n xs := by
  refine ⟨h.1, ?_⟩
  rcases h.2 with h0 | ⟨g, cap, cur, hv, hg0, hg, rest⟩
  · exact .inl h0
  · exact .inr ⟨g, cap, cur, hv, hg0, (hb.block g (lt_of_block hg)).trans hg, rest⟩

theorem stL_lt (s : ByteArray) : ∀ f p, ∀ x ∈ stL s f p, x < s.size
  | 0, p, x, h => by simp [stL] at h
  | f + 1, p, x, h => by
    by_cases hp : p < s.size
    · rw [stL_step s f p hp] at h
      rcases List.mem_cons.1 h with rfl | h
      · exact hp
      · exact stL_lt s f _ x h
    · rw [stL_end s _ p hp] at h; simp at h

theorem stA_getD_lt (s : ByteArray) (j : Nat) (h : j < (stA s).length) : (stA s).getD j 0 < s.size := by
  rw [show (stA s).getD j 0 = (stA s)[j] by simp [List.getD, List.getElem?_eq_getElem h]]
  exact stL_lt s _ _ _ (List.getElem_mem h)

theorem allOk_drop (s : ByteArray) (l : List Nat) (j : Nat) (h : j < l.length) : allOk s (l.drop j) = (okAt s (l.getD j 0) && allOk s (l.drop (j + 1))) := by
  rw [List.drop_eq_getElem_cons h, allOk_cons]
  simp [List.getD, List.getElem?_eq_getElem h]

theorem slice_of {w : World} {B : Nat} {v : Value} {xs : List Nat} (ha : w.ownsRow B 3 1 v xs.length (ints xs)) :
    ∃ A ca, v = .slice A xs.length ca ∧ (xs.length = 0 ∨ ∃ g, A = some ⟨g, 0, none⟩ ∧ g < w.heap.size ∧ xs.length ≤ ca ∧ ca ≤ maxLen ∧ ∀ k, k < xs.length → w.cell? ⟨g, k, none⟩ = some (.int .i64 ((xs.getD k 0 : Nat) : Int))) := by
  rcases ha.2 with ⟨rfl, hn⟩ | ⟨g, ca, cura, rfl, _, hg, hca, hcma, _, _⟩
  · exact ⟨_, _, by rw [hn], .inl hn⟩
  · exact ⟨_, _, rfl, .inr ⟨g, rfl, lt_of_block hg, hca, hcma, fun k hk => by rw [ha.cellAt k (by omega)]; exact ints_getD xs k hk⟩⟩

/-- The last of the places from p on. -/
def lastL (s : ByteArray) : Nat → Nat → Nat → Nat
  | 0, _, a => a
  | f + 1, p, a => if p < s.size then lastL s f (p + (Utf8.decode s p).2) p else a

theorem lastL_end (s : ByteArray) (f p a : Nat) (h : ¬ p < s.size) : lastL s f p a = a := by
  cases f with
  | zero => rfl
  | succ f => simp [lastL, h]

theorem lastL_step (s : ByteArray) (f p a : Nat) (h : p < s.size) : lastL s (f + 1) p a = lastL s f (p + (Utf8.decode s p).2) p := by simp [lastL, h]

theorem lastL_lt (s : ByteArray) : ∀ f p a, a < s.size → lastL s f p a < s.size
  | 0, p, a, h => h
  | f + 1, p, a, h => by
    by_cases hp : p < s.size
    · rw [lastL_step s f p a hp]; exact lastL_lt s f _ _ hp
    · rw [lastL_end s _ p a hp]; exact h

def lastA (s : ByteArray) : Nat := lastL s s.size 0 0

theorem lastA_lt (s : ByteArray) (h : 0 < s.size) : lastA s < s.size := lastL_lt s _ _ _ h

theorem stL_last (s : ByteArray) : ∀ f p a, (stL s f p).getLastD a = lastL s f p a
  | 0, p, a => rfl
  | f + 1, p, a => by
    by_cases hp : p < s.size
    · rw [stL_step s f p hp, lastL_step s f p a hp, ← stL_last s f _ p]
      simp only [List.getLastD_cons]
    · rw [stL_end s _ p hp, lastL_end s _ p a hp]; rfl

theorem stA_pos (s : ByteArray) (h : 0 < s.size) : 0 < (stA s).length := by
  unfold stA
  obtain ⟨m, hm⟩ : ∃ m, s.size = m + 1 := ⟨s.size - 1, by omega⟩
  rw [hm, stL_step s m 0 h]
  simp

theorem stA_last (s : ByteArray) (h : 0 < s.size) : (stA s).getD ((stA s).length - 1) 0 = lastA s := by
  have h1 := stL_last s s.size 0 0
  have h2 := stA_pos s h
  show _ = lastL s s.size 0 0
  rw [← h1]
  show _ = (stA s).getLastD 0
  rw [List.getLastD_eq_getLast?, List.getLast?_eq_getElem?]
  rfl

end Go.Proofs.YtdnldfgolbcjiaaDoor

/-
  Plain facts: a rune's bytes by division. Nothing of the program.
-/
namespace Go.Proofs.YtdnldfgolbcjiaaDoor
open Go.RowKit

/-- A rune's bytes, none of what is no rune. -/
def putB (r : Int) : ByteArray := if Lib.validRune r then Utf8.encode r else ⟨#[]⟩

theorem strOf_ext {a : ByteArray} {xs : List Int} (h : a.data.toList = xs.map fun n => UInt8.ofNat n.toNat) : strOfNums xs = a := by
  apply ByteArray.ext; apply Array.toList_inj.1; rw [strOfNums_data, h]

theorem put_1 (n : Nat) (h : n < 128) : strOfNums [(n : Int)] = putB n := by
  have hv : Lib.validRune (n : Int) = true := decide_eq_true (by omega)
  apply strOf_ext
  rw [putB, if_pos hv, Go.Extern.FmtText.enc1 n h]
  rfl

theorem put_2 (n : Nat) (h0 : 128 ≤ n) (h : n < 2048) : strOfNums [192 + (n : Int) / 64, 128 + (n : Int) % 64] = putB n := by
  have hv : Lib.validRune (n : Int) = true := decide_eq_true (by omega)
  apply strOf_ext
  rw [putB, if_pos hv, Go.Extern.FmtText.enc2 n (by omega) h, List.map_cons, List.map_cons, List.map_nil, show (192 + (n : Int) / 64).toNat = 192 + n / 64 by omega, show (128 + (n : Int) % 64).toNat = 128 + n % 64 by omega]

theorem put_3 (n : Nat) (h0 : 2048 ≤ n) (h : n < 65536) (hs : n < 55296 ∨ 57344 ≤ n) : strOfNums [224 + (n : Int) / 4096, 128 + (n : Int) / 64 % 64, 128 + (n : Int) % 64] = putB n := by
  have hv : Lib.validRune (n : Int) = true := decide_eq_true (by omega)
  apply strOf_ext
  rw [putB, if_pos hv, Go.Extern.FmtText.enc3 n (by omega) h hs, List.map_cons, List.map_cons, List.map_cons, List.map_nil, show (224 + (n : Int) / 4096).toNat = 224 + n / 4096 by omega, show (128 + (n : Int) / 64 % 64).toNat = 128 + n / 64 % 64 by omega, show (128 + (n : Int) % 64).toNat = 128 + n % 64 by omega]

theorem put_4 (n : Nat) (h0 : 65536 ≤ n) (h : n ≤ 1114111) : strOfNums [240 + (n : Int) / 262144, 128 + (n : Int) / 4096 % 64, 128 + (n : Int) / 64 % 64, 128 + (n : Int) % 64] = putB n := by
  have hv : Lib.validRune (n : Int) = true := decide_eq_true (by omega)
  apply strOf_ext
  rw [putB, if_pos hv, Go.Extern.FmtText.enc4 n (by omega) h, List.map_cons, List.map_cons, List.map_cons, List.map_cons, List.map_nil, show (240 + (n : Int) / 262144).toNat = 240 + n / 262144 by omega, show (128 + (n : Int) / 4096 % 64).toNat = 128 + n / 4096 % 64 by omega, show (128 + (n : Int) / 64 % 64).toNat = 128 + n / 64 % 64 by omega, show (128 + (n : Int) % 64).toNat = 128 + n % 64 by omega]

theorem put_no (r : Int) (h : ¬ (0 ≤ r ∧ r < 55296 ∨ 57343 < r ∧ r ≤ 1114111)) : putB r = ⟨#[]⟩ := by
  have hv : Lib.validRune r = false := decide_eq_false h
  simp [putB, hv]

theorem put1 (r : Int) (h0 : 0 ≤ r) (h : r < 128) : strOfNums [r] = putB r := by
  obtain ⟨n, rfl⟩ := Int.eq_ofNat_of_zero_le h0
  exact put_1 n (by omega)

theorem put2 (r : Int) (h0 : 128 ≤ r) (h : r < 2048) : strOfNums [192 + r / 64, 128 + r % 64] = putB r := by
  obtain ⟨n, rfl⟩ := Int.eq_ofNat_of_zero_le (a := r) (by omega)
  exact put_2 n (by omega) (by omega)

theorem put3 (r : Int) (h0 : 2048 ≤ r) (h : r < 65536) (hs : r < 55296 ∨ 57344 ≤ r) : strOfNums [224 + r / 4096, 128 + r / 64 % 64, 128 + r % 64] = putB r := by
  obtain ⟨n, rfl⟩ := Int.eq_ofNat_of_zero_le (a := r) (by omega)
  exact put_3 n (by omega) (by omega) (by omega)

theorem put4 (r : Int) (h0 : 65536 ≤ r) (h : r ≤ 1114111) : strOfNums [240 + r / 262144, 128 + r / 4096 % 64, 128 + r / 64 % 64, 128 + r % 64] = putB r := by
  obtain ⟨n, rfl⟩ := Int.eq_ofNat_of_zero_le (a := r) (by omega)
  exact put_4 n (by omega) (by omega)

end Go.Proofs.YtdnldfgolbcjiaaDoor

/-
  codes.Put and utf8.ValidRune: what each call returns: for every number. No condition.
-/
namespace Go.Proofs.YtdnldfgolbcjiaaDoor
open Go.RowKit

set_option maxHeartbeats 1000000 in
theorem validRune_any (r : Int) (w : World) :
    Calls Tryd.prog 40 #[.int .i32 r] w fun e w' => e = .returned (.bool (Lib.validRune r)) ∧ w' = w := by
  go_enter Tryd.func40, Tryd.ntmps40
  go_wp2
  all_goals (go_ret; refine ⟨?_, rfl⟩; first | (rw [show Lib.validRune r = true from decide_eq_true (by omega)]; rfl) | (rw [show Lib.validRune r = false from decide_eq_false (by omega)]; rfl))

set_option maxHeartbeats 1000000 in
theorem put_any (r : Int) (w : World) :
    Calls Tryd.prog 19 #[.int .i32 r] w fun e w' => e = .returned (.string (if Lib.validRune r then Utf8.encode r else ⟨#[]⟩)) ∧ w' = w := by
  cases hv : Lib.validRune r
  all_goals
    go_enter Tryd.func19, Tryd.ntmps19
    go_wp2_with (go_at_call 40; refine (validRune_any _ _).mono ?_; rintro e w' ⟨rfl, rfl⟩)
    go_ret
    exact ⟨rfl, rfl⟩

set_option maxHeartbeats 1000000 in
theorem putB_any (r : Int) (w : World) :
    Calls Tryd.prog 19 #[.int .i32 r] w fun e w' => e = .returned (.string (putB r)) ∧ w' = w := put_any r w

end Go.Proofs.YtdnldfgolbcjiaaDoor
