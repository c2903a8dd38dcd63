/-
  pieces: New: what each call returns.
-/
import Derived.Test.YtpkfmhggaiifgaaPcChanged
import Derived.Test.YtpkfmhggaiifgaaPcNone
namespace Go.Proofs.Ytpkfmhggaiifgaa
open Go.RowKit

def insL (xs : List ByteArray) (f : Nat) (x : ByteArray) : List ByteArray := if x.size = 0 then xs else aheadL xs f ++ [x] ++ behindL xs f
def delL (xs : List ByteArray) (f t : Nat) : List ByteArray := if f = t then xs else aheadL xs f ++ behindL xs t
theorem insL_len (xs : List ByteArray) (f : Nat) (x : ByteArray) : (insL xs f x).length ≤ xs.length + 2 := by
  have := cut_len xs f f (Nat.le_refl _)
  unfold insL
  split
  · omega
  · simp only [List.length_append, List.length_cons, List.length_nil]; omega
theorem delL_len (xs : List ByteArray) (f t : Nat) (h : f ≤ t) : (delL xs f t).length ≤ xs.length + 1 := by
  have := cut_len xs f t h
  unfold delL
  split
  · omega
  · rw [List.length_append]; exact this

theorem changed_ins {ok : Nat → Prop} {v : Value} {s : ByteArray} {xs : List ByteArray} (f : Nat) (x : ByteArray) (w : World) (hok : ∀ k, w.heap.size ≤ k → ok k) (h : TextO ok w v s xs) (hts : f ≤ s.size) (hs : s.size ≤ 50000) (hx : x.size ≤ 50000) :
    Calls Try.prog 30 #[v, .int .i64 (f : Int), .int .i64 (f : Int), .string x] w fun e w' => (∃ u, e = .returned u ∧ TextO ok w' u (putS s f f x) (insL xs f x)) ∧ Below w.heap.size w w' := by
  unfold insL
  by_cases h0 : x.size = 0
  · obtain rfl := ba_empty h0
    rw [if_pos h0, putS_none]
    refine (changed_same f w hok h).mono ?_
    rintro e w' ⟨u, h1, h2, h3⟩
    exact ⟨⟨u, h1, h2⟩, h3⟩
  · rw [if_neg h0]
    exact changed_put f x w hok h hts hs hx (fun e => h0 (by rw [e]; rfl))
theorem changed_cut {ok : Nat → Prop} {v : Value} {s : ByteArray} {xs : List ByteArray} (f t : Nat) (w : World) (hok : ∀ k, w.heap.size ≤ k → ok k) (h : TextO ok w v s xs) (hft : f ≤ t) (hts : t ≤ s.size) (hs : s.size ≤ 50000) :
    Calls Try.prog 30 #[v, .int .i64 (f : Int), .int .i64 (t : Int), .string ⟨#[]⟩] w fun e w' => (∃ u, e = .returned u ∧ TextO ok w' u (putS s f t ⟨#[]⟩) (delL xs f t)) ∧ Below w.heap.size w w' := by
  unfold delL
  by_cases h0 : f = t
  · subst h0
    rw [if_pos rfl, putS_none]
    refine (changed_same f w hok h).mono ?_
    rintro e w' ⟨u, h1, h2, h3⟩
    exact ⟨⟨u, h1, h2⟩, h3⟩
  · rw [if_neg h0]
    exact changed_del f t w hok h (by omega) hts hs

theorem new_far (x : ByteArray) (w : World) (h : 16384 < x.size) :
    Calls Try.prog 23 #[.string x] w fun e w' => e = .returned (.tuple #[.pointer none, .int .i64 60]) ∧ Below w.heap.size w w' := by
  go_enter Try.func23, Try.ntmps23
  go_wp2
  go_ret2
  exact ⟨rfl, Below.refl _ _⟩
set_option maxHeartbeats 1000000 in
theorem new_okO {ok : Nat → Prop} (x : ByteArray) (w : World) (hok : ∀ k, w.heap.size ≤ k → ok k) (h : x.size ≤ 16384) :
    Calls Try.prog 23 #[.string x] w fun e w' => (∃ u, e = .returned (.tuple #[u, .int .i64 0]) ∧ TextO ok w' u x (insL [] 0 x)) ∧ Below w.heap.size w w' := by
  have hT : TextO ok (w.alloc (.cells #[.bool true, .int .i64 0, .slice none 0 0] 71)) (.pointer (some ⟨w.heap.size, 0, none⟩)) ⟨#[]⟩ [] := text_new (r := ⟨#[]⟩) (StrsW.nil w) full_nil rfl (hok _ (Nat.le_refl _)) (fun _ _ _ e _ => by cases e)
  have hp : putS ⟨#[]⟩ 0 0 x = x := by
    apply ba_ext
    rw [putS_data]
    show [] ++ _ ++ [] = _
    rw [List.nil_append, List.append_nil]
  have H := changed_ins 0 x (w.alloc (.cells #[.bool true, .int .i64 0, .slice none 0 0] 71)) (fun k hk => hok k (by simp at hk; omega)) hT (Nat.le_refl _) (by decide) (by omega)
  rw [hp] at H
  have hbA : Below w.heap.size w (w.alloc (.cells #[.bool true, .int .i64 0, .slice none 0 0] 71)) := (Below.refl _ _).alloc (Nat.le_refl _) _
  have HH := Lib.hid H
  clear H hT hp hok
  go_enter Try.func23, Try.ntmps23
  go_wp2_with fail
  refine HH.out.mono ?_
  rintro e w' ⟨⟨u, rfl, hT⟩, hb⟩
  go_wp2
  go_ret2
  exact ⟨⟨u, rfl, hT⟩, hbA.trans (hb.mono (by simp))⟩

/-- The same, whatever the blocks. -/
theorem new_ok (x : ByteArray) (w : World) (h : x.size ≤ 16384) :
    Calls Try.prog 23 #[.string x] w fun e w' => (∃ u, e = .returned (.tuple #[u, .int .i64 0]) ∧ TextX w' u x (insL [] 0 x)) ∧ Below w.heap.size w w' := new_okO x w (fun _ _ => trivial) h
end Go.Proofs.Ytpkfmhggaiifgaa
