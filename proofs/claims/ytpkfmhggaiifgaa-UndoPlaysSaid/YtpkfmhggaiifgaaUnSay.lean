/-
  limnerlaw05: text, is, steps, bytes: what each call returns.
-/
import Derived.Test.YtpkfmhggaiifgaaUndo
import Derived.Test.YtpkfmhggaiifgaaPcNew
import Derived.Test.YtpkfmhggaiifgaaPcSlice
import Derived.Laws.BytesArg
namespace Go.Proofs.Ytpkfmhggaiifgaa
open Go.RowKit

section
variable {ok : Nat → Prop} {U : Nat} {u : US} {a d : Value}

theorem utext_any (s : ByteArray) (w : World) (hok : ∀ k, w.heap.size ≤ k → ok k) (hs : s.size ≤ 16384) :
    Calls Try.prog 9 #[.string s] w fun e w' => (∃ b, e = .returned (.pointer (some ⟨b, 0, none⟩)) ∧ TextP ok w' b s) ∧ Below w.heap.size w w' := by
  have H := Lib.hid (new_okO s w hok hs)
  clear hok
  go_enter Try.func9, Try.ntmps9
  go_wp2_with fail
  go_fit H.out
  rintro e w2 ⟨⟨t, rfl, hT⟩, hb⟩
  obtain ⟨b, rfl⟩ := hT.ptr
  have HT := Lib.hid hT
  clear hT
  go_wp2
  go_ret
  exact ⟨⟨b, rfl, ⟨_, HT.out⟩, hs⟩, hb⟩

theorem uis_any {b : Nat} {s : ByteArray} (c : Int) (w : World) (h : TextP ok w b s) :
    Calls Try.prog 14 #[.pointer (some ⟨b, 0, none⟩), .int .i64 c, .string s, .int .i64 c] w fun e w' => e = .returned (.bool true) ∧ Below w.heap.size w w' := by
  obtain ⟨n, hn, hs⟩ := h.text
  have H := Lib.hid (string_text w hn (by omega))
  clear h hn hs
  go_enter Try.func14, Try.ntmps14
  go_wp2_with fail
  go_fit H.out
  rintro e w2 ⟨rfl, hb⟩
  go_wp2
  go_ret
  exact ⟨by simp, hb⟩

theorem usay_any (w : World) (h : UndoW ok w U u a d) :
    Calls Try.prog 22 #[.pointer (some ⟨U, 0, none⟩), .int .i64 (u.was.length : Int), .int .i64 (u.undone.length : Int)] w fun e w' => e = .returned (.bool true) ∧ Below w.heap.size w w' := by
  have H := Lib.hid (usteps_any w h)
  generalize (u.was.length : Int) = x at *
  generalize (u.undone.length : Int) = y at *
  clear h
  go_enter Try.func22, Try.ntmps22
  go_wp2_with fail
  go_fit H.out
  rintro e w2 ⟨rfl, hb⟩
  go_wp2
  go_ret
  exact ⟨by simp, hb⟩
theorem usay_at {x y : Int} (w : World) (h : UndoW ok w U u a d) (hx : (u.was.length : Int) = x) (hy : (u.undone.length : Int) = y) :
    Calls Try.prog 22 #[.pointer (some ⟨U, 0, none⟩), .int .i64 x, .int .i64 y] w fun e w' => e = .returned (.bool true) ∧ Below w.heap.size w w' := by
  subst hx hy
  exact usay_any w h
theorem usay_none {v : Value} (w : World) (h : NoneU w v) :
    Calls Try.prog 22 #[v, .int .i64 0, .int .i64 0] w fun e w' => e = .returned (.bool true) ∧ Below w.heap.size w w' := by
  have H := Lib.hid (usteps_none w h)
  clear h
  go_enter Try.func22, Try.ntmps22
  go_wp2_with fail
  go_fit H.out
  rintro e w2 ⟨rfl, rfl⟩
  go_wp2
  go_ret
  exact ⟨rfl, Below.refl _ _⟩

/-- One of the small letters. -/
def letterB (n : Int) : ByteArray := ⟨#[UInt8.ofNat (97 + n % 26).toNat]⟩
theorem letterB_size (n : Int) : (letterB n).size = 1 := rfl
theorem ubytes_any (n : Int) (w : World) (h0 : 0 ≤ n) (h1 : n ≤ 255) :
    Calls Try.prog 18 #[.int .u8 n] w fun e w' => e = .returned (.string (letterB n)) ∧ Below w.heap.size w w' := by
  have hc : (convert 57 9 (.slice (some ⟨w.heap.size, 0, none⟩) 1 1)).run Try.prog (w.alloc (.cells #[.int .u8 (97 + n % 26)] 5)) = .ok (.string (letterB n)) (w.alloc (.cells #[.int .u8 (97 + n % 26)] 5)) :=
    run_convert_bytes_arg (P := Try.prog) _ 57 5 Try.underlying57 Try.underlying5 w.heap.size 0 1 1 [97 + n % 26] rfl (fun i hi => by
      obtain rfl : i = 0 := by omega
      rw [cell_of_row _ _ _ _ _ (0, 0) (heap_alloc_new w _)]
      rfl) 9 Try.underlying9
  go_enter Try.func18, Try.ntmps18
  go_wp2
  go_ret
  exact ⟨rfl, (Below.refl _ w).alloc (Nat.le_refl _) _⟩
end
end Go.Proofs.Ytpkfmhggaiifgaa
