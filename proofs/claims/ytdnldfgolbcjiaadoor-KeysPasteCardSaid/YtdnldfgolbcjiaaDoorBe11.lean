/-
  keys: none, pasting, held, New, wait, done, invalid: what each call returns and what it leaves, for every decoder that New made, and for none.
-/
import Derived.Test.YtdnldfgolbcjiaaDoorBe10
namespace Go.Proofs.YtdnldfgolbcjiaaDoor
open Go.RowKit

theorem row_empty (N : Nat) (w : World) (T : TypeId) (hT : T = 5) (hN : N ≤ w.heap.size) : OwnB N (w.alloc (.cells #[] T)) (.slice (some ⟨w.heap.size, 0, none⟩) 0 0) noB := by
  subst hT
  exact ⟨rfl, .inr ⟨w.heap.size, 0, #[], rfl, hN, heap_alloc_new w _, Nat.le_refl _, Nat.zero_le _, rfl, rfl⟩⟩
theorem row_byte (N : Nat) (w : World) (b : Nat) (hb : b < 256) (hN : N ≤ w.heap.size) : OwnB N (w.alloc (.cells #[.int .u8 (b : Int)] 5)) (.slice (some ⟨w.heap.size, 0, none⟩) 1 1) (oneS b) := by
  have e : bytesC (oneS b) = [.int .u8 (b : Int)] := bytesC_snoc noB b hb
  refine ⟨by rw [e]; rfl, .inr ⟨w.heap.size, 1, #[.int .u8 (b : Int)], rfl, hN, heap_alloc_new w _, Nat.le_refl _, by unfold maxLen; omega, rfl, ?_⟩⟩
  rw [e]; rfl

theorem as_pp (v : Value) (w : World) : (Instr.typeAssert (.iface 53 v) 20 53 true).run Tryd.prog w = .ok (.tuple #[v, .bool true]) w := by kernel_rfl
theorem as_bp (v : Value) (w : World) : (Instr.typeAssert (.iface 52 v) 20 53 true).run Tryd.prog w = .ok (.tuple #[.slice none 0 0, .bool false]) w := by kernel_rfl
theorem as_bb (v : Value) (w : World) : (Instr.typeAssert (.iface 52 v) 20 52 false).run Tryd.prog w = .ok v w := by kernel_rfl

set_option maxHeartbeats 1000000 in
theorem knew_any (N : Nat) (w : World) (hN : N ≤ w.heap.size) :
    Calls Tryd.prog 11 #[] w fun e w' => ∃ D v, e = .returned (.pointer (some ⟨D, 0, none⟩)) ∧ w.heap.size ≤ D ∧ DecW N w' D v (.held noB) ∧ (∀ k, v.ownBlock = some k → w.heap.size ≤ k) ∧ Below w.heap.size w w' := by
  go_enter Tryd.func11, Tryd.ntmps11
  go_wp2
  go_ret
  have b1 : Below w.heap.size w (w.alloc (.cells #[] 5)) := (Below.refl _ _).alloc (Nat.le_refl _) _
  have hs : (w.alloc (.cells #[] 5)).heap.size = w.heap.size + 1 := Array.size_push _
  refine ⟨_, _, rfl, by omega, ⟨?_, (row_empty N w _ rfl hN).below ((Below.refl _ _).alloc (Nat.le_refl _) _), ?_, by omega⟩, (fun k e => by cases e; exact Nat.le_refl _), b1.alloc (by rw [hs]; omega) _⟩
  · have := heap_alloc_new (w.alloc (.cells #[] 5)) (.cells #[.iface 52 (.slice (some ⟨w.heap.size, 0, none⟩) 0 0)] 43)
    rw [hs] at this
    exact this
  · intro e
    have : w.heap.size = w.heap.size + 1 := by simp [Value.ownBlock] at e
    omega

set_option maxHeartbeats 1000000 in
theorem knone_yes (w : World) (D : Nat) (x : Value) (hB : boxK w D x) (hx : ∃ T v, x = .iface T v) :
    Calls Tryd.prog 22 #[.pointer (some ⟨D, 0, none⟩)] w fun e w' => e = .returned (.bool false) ∧ w' = w := by
  obtain ⟨T, v, rfl⟩ := hx
  have c := hB.cells.1
  go_enter Tryd.func22, Tryd.ntmps22
  go_wp2
  go_ret
  exact ⟨rfl, rfl⟩
set_option maxHeartbeats 1000000 in
theorem kpast_held (w : World) (D : Nat) (s : ByteArray) (v : Value) (hB : boxK w D (kyI (.held s) v)) :
    Calls Tryd.prog 23 #[.pointer (some ⟨D, 0, none⟩)] w fun e w' => e = .returned (.tuple #[.slice none 0 0, .bool false]) ∧ w' = w := by
  have c := hB.cells.1
  unfold kyI at c
  simp only at c
  have a1 := as_bp v w
  go_enter Tryd.func23, Tryd.ntmps23
  go_wp2
  go_ret2
  exact ⟨rfl, rfl⟩
set_option maxHeartbeats 1000000 in
theorem kpast_paste (w : World) (D : Nat) (s : ByteArray) (v : Value) (hB : boxK w D (kyI (.paste s) v)) :
    Calls Tryd.prog 23 #[.pointer (some ⟨D, 0, none⟩)] w fun e w' => e = .returned (.tuple #[v, .bool true]) ∧ w' = w := by
  have c := hB.cells.1
  unfold kyI at c
  simp only at c
  have a1 := as_pp v w
  go_enter Tryd.func23, Tryd.ntmps23
  go_wp2
  go_ret2
  exact ⟨rfl, rfl⟩
set_option maxHeartbeats 1000000 in
theorem kheld_any (w : World) (D : Nat) (s : ByteArray) (v : Value) (hB : boxK w D (kyI (.held s) v)) :
    Calls Tryd.prog 26 #[.pointer (some ⟨D, 0, none⟩)] w fun e w' => e = .returned v ∧ w' = w := by
  have c := hB.cells.1
  unfold kyI at c
  simp only at c
  have a1 := as_bb v w
  go_enter Tryd.func26, Tryd.ntmps26
  go_wp2
  go_ret
  exact ⟨rfl, rfl⟩
set_option maxHeartbeats 1000000 in
theorem kwait_any (w : World) (D : Nat) (x v : Value) (hB : boxK w D x) :
    Calls Tryd.prog 59 #[.pointer (some ⟨D, 0, none⟩), v] w fun e w' => e = .returned (.slice none 0 0) ∧ boxK w' D (.iface 52 v) ∧ KeepW (fun k => k ≠ D) w w' := by
  obtain ⟨c, f⟩ := hB.cells
  go_enter Tryd.func59, Tryd.ntmps59
  go_wp2
  go_ret
  exact ⟨rfl, hB.set _, keep_set _ _ _ _ _ fun h => h rfl⟩
set_option maxHeartbeats 1000000 in
theorem kdone_any (N : Nat) (w : World) (D : Nat) (x : Value) (k : Ke) (hB : boxK w D x) (hN : N ≤ w.heap.size) (hD : N ≤ D) :
    Calls Tryd.prog 35 #[.pointer (some ⟨D, 0, none⟩), keV k] w fun e w' => (∃ u, e = .returned u ∧ OutK w.heap.size w' u [k] ∧ u.ownBlock ≠ some D) ∧ (∃ v, DecW N w' D v (.held noB) ∧ ∀ j, v.ownBlock = some j → w.heap.size ≤ j) ∧ KeepW (fun k => k ≠ D) w w' := by
  obtain ⟨c, f⟩ := hB.cells
  have hDl := hB.lt
  obtain ⟨W1, hW1⟩ : ∃ W1, w.setCell ⟨D, 0, none⟩ (.iface 52 (.slice (some ⟨w.heap.size + 1, 0, none⟩) 0 0)) = W1 := ⟨_, rfl⟩
  obtain ⟨W2, hW2⟩ : ∃ W2, W1.alloc (.cells #[.int .i64 (k.1 : Int), .int .i32 (k.2.1 : Int), .string k.2.2] 40) = W2 := ⟨_, rfl⟩
  obtain ⟨W3, hW3⟩ : ∃ W3, W2.alloc (.cells #[] 5) = W3 := ⟨_, rfl⟩
  obtain ⟨W4, hW4⟩ : ∃ W4, W3.alloc (.cells #[.int .i64 (k.1 : Int), .int .i32 (k.2.1 : Int), .string k.2.2] 40) = W4 := ⟨_, rfl⟩
  have k1 : KeepW (fun k => k ≠ D) w W1 := by rw [← hW1]; exact keep_set _ _ _ _ _ fun h => h rfl
  have hB1 : boxK W1 D (.iface 52 (.slice (some ⟨w.heap.size + 1, 0, none⟩) 0 0)) := by rw [← hW1]; exact hB.set _
  have z1 : W1.heap.size = w.heap.size := by rw [← hW1]; exact Array.size_modify ..
  have b2 : Below W1.heap.size W1 W2 := by rw [← hW2]; exact (Below.refl _ _).alloc (Nat.le_refl _) _
  have z2 : W2.heap.size = w.heap.size + 1 := by rw [← hW2, show (W1.alloc _).heap.size = W1.heap.size + 1 from Array.size_push _, z1]
  have b3 : Below W2.heap.size W2 W3 := by rw [← hW3]; exact (Below.refl _ _).alloc (Nat.le_refl _) _
  have z3 : W3.heap.size = w.heap.size + 2 := by rw [← hW3, show (W2.alloc _).heap.size = W2.heap.size + 1 from Array.size_push _, z2]
  have b4 : Below W3.heap.size W3 W4 := by rw [← hW4]; exact (Below.refl _ _).alloc (Nat.le_refl _) _
  have hR : OwnB N W3 (.slice (some ⟨w.heap.size + 1, 0, none⟩) 0 0) noB := by
    have := row_empty N W2 5 rfl (by omega)
    rw [hW3, z2] at this
    exact this
  have hk1 : OutK w.heap.size W4 (.slice (some ⟨w.heap.size + 2, 0, none⟩) 1 1) [k] := by
    have := OutK.one (N := w.heap.size) (w := W3) (k := k) (by omega)
    rw [hW4, z3] at this
    exact this
  have hne : (Value.slice (some ⟨w.heap.size + 2, 0, none⟩) 1 1).ownBlock ≠ some D := fun e => by
    have : w.heap.size + 2 = D := by simpa [Value.ownBlock] using e
    omega
  have hdec : DecW N W4 D (.slice (some ⟨w.heap.size + 1, 0, none⟩) 0 0) (.held noB) :=
    ⟨((hB1.below b2).below b3).below b4, hR.below b4, (fun e => by have : w.heap.size + 1 = D := by simpa [Value.ownBlock] using e
                                                                   omega), hD⟩
  have hkeep : KeepW (fun k => k ≠ D) w W4 := ((k1.trans (keep_below _ b2)).trans (keep_below _ b3)).trans (keep_below _ b4)
  clear k1 hB1 z1 b2 z2 b3 z3 b4 hR hB
  subst hW4
  subst hW3
  subst hW2
  subst hW1
  unfold keV
  go_enter Tryd.func35, Tryd.ntmps35
  go_wp2_with fail
  go_ret
  exact ⟨⟨_, rfl, hk1, hne⟩, ⟨_, hdec, fun j e => by cases e; exact Nat.le_succ _⟩, hkeep⟩
set_option maxHeartbeats 1000000 in
theorem kinv_any (w : World) (v : Value) (s : ByteArray) (hv : BytesW w v s) :
    Calls Tryd.prog 36 #[v] w fun e w' => e = .returned (keV (badK s)) ∧ Below w.heap.size w w' := by
  have hc := bytes_conv 28 Tryd.underlying28 (hv.below ((Below.refl _ _).alloc (Nat.le_refl _) (.cells #[.int .i64 0, .int .i32 0, .string ⟨#[]⟩] 40)))
  clear hv
  go_enter Tryd.func36, Tryd.ntmps36
  go_wp2_with fail
  exact bodyPost_ret (v := keV (badK s)) (by simp [results, Tryd.results36, go_sem, keV, badK]) rfl ⟨rfl, (Below.refl _ _).alloc (Nat.le_refl _) _⟩
end Go.Proofs.YtdnldfgolbcjiaaDoor
