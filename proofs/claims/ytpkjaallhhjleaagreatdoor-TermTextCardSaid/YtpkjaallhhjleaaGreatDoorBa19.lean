/-
  Texts of this proof, one behind the other; each begins with its own remark.
-/
import Derived.IntWalk
import Derived.Test.YtpkjaallhhjleaaGreatDoorBa7
import Derived.Test.YtpkjaallhhjleaaGreatDoorBa9
import Derived.Test.YtpkjaallhhjleaaGreatDoorBa16
/-
  term: param, none, styled: what each returns.
-/
namespace Go.Proofs.YtpkjaallhhjleaaGreatDoor
open Go.RowKit

theorem nums_at {ok : Nat → Prop} {w : World} {v : Value} {l : List Nat} {i n : Nat} (h : NumsW ok w v l) (hi : l[i]? = some n) : ∃ g o cap, v = .slice (some ⟨g, o, none⟩) l.length cap ∧ w.cell? ⟨g, o + i, none⟩ = some (.int .i64 (n : Int)) := by
  have e : (ints l)[i]? = some (.int .i64 (n : Int)) := by unfold ints; rw [List.getElem?_map, hi]; rfl
  obtain ⟨g, o, cap, hv, _, _, hc⟩ := h.1.at_ e
  exact ⟨g, o, cap, hv, hc i _ e⟩
set_option maxHeartbeats 1000000 in
theorem param_any {ok : Nat → Prop} {v : Value} {l : List Nat} (i : Nat) (w : World) (h : NumsW ok w v l) (_hl : l.length ≤ 1000000) (_hi : i ≤ 1000) :
    Calls Tryz.prog 94 #[v, .int .i64 (i : Int)] w fun e w' => e = .returned (.int .i64 ((l.getD i 0 : Nat) : Int)) ∧ w' = w := by
  by_cases hlt : i < l.length
  · obtain ⟨n, hn⟩ : ∃ n, l[i]? = some n := ⟨_, List.getElem?_eq_getElem hlt⟩
    obtain ⟨g, o, cap, rfl, hc⟩ := nums_at h hn
    have e : l.getD i 0 = n := by rw [List.getD_eq_getElem?_getD, hn]; rfl
    rw [e]
    obtain ⟨m, hm⟩ : ∃ m, l.length = m := ⟨_, rfl⟩
    rw [hm] at hlt ⊢
    have i1 : (i : Int) < (m : Int) := by omega
    have i0 : (0 : Int) ≤ (i : Int) := by omega
    clear h e hn hm
    go_enter Tryz.func94, Tryz.ntmps94
    go_wp2_with fail
    all_goals first | (exfalso; omega) | skip
    go_ret
    exact ⟨rfl, rfl⟩
  · obtain ⟨ao, cap, rfl, hc, _⟩ := h.1
    have e : l.getD i 0 = 0 := by rw [List.getD_eq_getElem?_getD, List.getElem?_eq_none (by omega)]; rfl
    rw [e]
    obtain ⟨m, hm⟩ : ∃ m, l.length = m := ⟨_, rfl⟩
    rw [hm] at hlt hc ⊢
    have i1 : ¬ (i : Int) < (m : Int) := by omega
    clear h e hm
    go_enter Tryz.func94, Tryz.ntmps94
    go_wp2_with fail
    all_goals first | (exfalso; omega) | skip
    go_ret
    exact ⟨rfl, rfl⟩

set_option maxHeartbeats 1000000 in
theorem tnone_nil (w : World) : Calls Tryz.prog 28 #[.pointer none] w fun e w' => e = .returned (.bool true) ∧ w' = w := by
  go_enter Tryz.func28, Tryz.ntmps28
  go_wp2_with fail
  go_ret
  exact ⟨rfl, rfl⟩
set_option maxRecDepth 20000 in
set_option maxHeartbeats 1000000 in
theorem tnone_zero (B : Nat) (w : World) (h : w.cell? ⟨B, 2, none⟩ = some (.slice none 0 0)) : Calls Tryz.prog 28 #[.pointer (some ⟨B, 0, none⟩)] w fun e w' => e = .returned (.bool true) ∧ w' = w := by
  have he : ∀ w : World, (binOp .eql 33 (.slice none 0 0) (.slice none 0 0)).run Tryz.prog w = .ok (.bool true) w := fun _ => rfl
  go_enter Tryz.func28, Tryz.ntmps28
  go_wp2_with fail
  go_ret
  exact ⟨rfl, rfl⟩
set_option maxRecDepth 20000 in
set_option maxHeartbeats 1000000 in
theorem tnone_no (B G N cap : Nat) (w : World) (h : w.cell? ⟨B, 2, none⟩ = some (.slice (some ⟨G, 0, none⟩) N cap)) : Calls Tryz.prog 28 #[.pointer (some ⟨B, 0, none⟩)] w fun e w' => e = .returned (.bool false) ∧ w' = w := by
  have he : ∀ w : World, (binOp .eql 33 (.slice (some ⟨G, 0, none⟩) N cap) (.slice none 0 0)).run Tryz.prog w = .ok (.bool false) w := fun _ => rfl
  go_enter Tryz.func28, Tryz.ntmps28
  go_wp2_with fail
  go_ret
  exact ⟨rfl, rfl⟩

set_option maxHeartbeats 2000000 in
theorem tstyled0 (s1 : Int) (s2 s3 s4 : Bool) (w : World) : Calls Tryz.prog 118 #[.agg #[.int .i64 s1, .bool s2, .bool s3, .bool s4], .int .i64 0] w fun e w' => e = .returned (.agg #[.int .i64 0, .bool false, .bool false, .bool false]) ∧ Below w.heap.size w w' := by
  go_enter Tryz.func118, Tryz.ntmps118
  go_wp2_with fail
  exact bodyPost_ret (v := .agg #[.int .i64 0, .bool false, .bool false, .bool false]) (by simp [results, Tryz.results118, go_sem]) rfl ⟨rfl, ((Below.refl _ w).alloc (Nat.le_refl _) _).alloc (by rw [World.size_alloc]; omega) _⟩
set_option maxHeartbeats 2000000 in
theorem tstyled1 (s1 : Int) (s2 s3 s4 : Bool) (w : World) : Calls Tryz.prog 118 #[.agg #[.int .i64 s1, .bool s2, .bool s3, .bool s4], .int .i64 1] w fun e w' => e = .returned (.agg #[.int .i64 s1, .bool true, .bool s3, .bool s4]) ∧ Below w.heap.size w w' := by
  go_enter Tryz.func118, Tryz.ntmps118
  go_wp2_with fail
  exact bodyPost_ret (v := .agg #[.int .i64 s1, .bool true, .bool s3, .bool s4]) (by simp [results, Tryz.results118, go_sem]) rfl ⟨rfl, ((Below.refl _ w).alloc (Nat.le_refl _) _).alloc (by rw [World.size_alloc]; omega) _⟩
set_option maxHeartbeats 2000000 in
theorem tstyled4 (s1 : Int) (s2 s3 s4 : Bool) (w : World) : Calls Tryz.prog 118 #[.agg #[.int .i64 s1, .bool s2, .bool s3, .bool s4], .int .i64 4] w fun e w' => e = .returned (.agg #[.int .i64 s1, .bool s2, .bool true, .bool s4]) ∧ Below w.heap.size w w' := by
  go_enter Tryz.func118, Tryz.ntmps118
  go_wp2_with fail
  exact bodyPost_ret (v := .agg #[.int .i64 s1, .bool s2, .bool true, .bool s4]) (by simp [results, Tryz.results118, go_sem]) rfl ⟨rfl, ((Below.refl _ w).alloc (Nat.le_refl _) _).alloc (by rw [World.size_alloc]; omega) _⟩
set_option maxHeartbeats 2000000 in
theorem tstyled7 (s1 : Int) (s2 s3 s4 : Bool) (w : World) : Calls Tryz.prog 118 #[.agg #[.int .i64 s1, .bool s2, .bool s3, .bool s4], .int .i64 7] w fun e w' => e = .returned (.agg #[.int .i64 s1, .bool s2, .bool s3, .bool true]) ∧ Below w.heap.size w w' := by
  go_enter Tryz.func118, Tryz.ntmps118
  go_wp2_with fail
  exact bodyPost_ret (v := .agg #[.int .i64 s1, .bool s2, .bool s3, .bool true]) (by simp [results, Tryz.results118, go_sem]) rfl ⟨rfl, ((Below.refl _ w).alloc (Nat.le_refl _) _).alloc (by rw [World.size_alloc]; omega) _⟩
set_option maxHeartbeats 2000000 in
theorem tstyled22 (s1 : Int) (s2 s3 s4 : Bool) (w : World) : Calls Tryz.prog 118 #[.agg #[.int .i64 s1, .bool s2, .bool s3, .bool s4], .int .i64 22] w fun e w' => e = .returned (.agg #[.int .i64 s1, .bool false, .bool s3, .bool s4]) ∧ Below w.heap.size w w' := by
  go_enter Tryz.func118, Tryz.ntmps118
  go_wp2_with fail
  exact bodyPost_ret (v := .agg #[.int .i64 s1, .bool false, .bool s3, .bool s4]) (by simp [results, Tryz.results118, go_sem]) rfl ⟨rfl, ((Below.refl _ w).alloc (Nat.le_refl _) _).alloc (by rw [World.size_alloc]; omega) _⟩
set_option maxHeartbeats 2000000 in
theorem tstyled24 (s1 : Int) (s2 s3 s4 : Bool) (w : World) : Calls Tryz.prog 118 #[.agg #[.int .i64 s1, .bool s2, .bool s3, .bool s4], .int .i64 24] w fun e w' => e = .returned (.agg #[.int .i64 s1, .bool s2, .bool false, .bool s4]) ∧ Below w.heap.size w w' := by
  go_enter Tryz.func118, Tryz.ntmps118
  go_wp2_with fail
  exact bodyPost_ret (v := .agg #[.int .i64 s1, .bool s2, .bool false, .bool s4]) (by simp [results, Tryz.results118, go_sem]) rfl ⟨rfl, ((Below.refl _ w).alloc (Nat.le_refl _) _).alloc (by rw [World.size_alloc]; omega) _⟩
set_option maxHeartbeats 2000000 in
theorem tstyled27 (s1 : Int) (s2 s3 s4 : Bool) (w : World) : Calls Tryz.prog 118 #[.agg #[.int .i64 s1, .bool s2, .bool s3, .bool s4], .int .i64 27] w fun e w' => e = .returned (.agg #[.int .i64 s1, .bool s2, .bool s3, .bool false]) ∧ Below w.heap.size w w' := by
  go_enter Tryz.func118, Tryz.ntmps118
  go_wp2_with fail
  exact bodyPost_ret (v := .agg #[.int .i64 s1, .bool s2, .bool s3, .bool false]) (by simp [results, Tryz.results118, go_sem]) rfl ⟨rfl, ((Below.refl _ w).alloc (Nat.le_refl _) _).alloc (by rw [World.size_alloc]; omega) _⟩
set_option maxHeartbeats 2000000 in
theorem tstyled30 (s1 : Int) (s2 s3 s4 : Bool) (w : World) : Calls Tryz.prog 118 #[.agg #[.int .i64 s1, .bool s2, .bool s3, .bool s4], .int .i64 30] w fun e w' => e = .returned (.agg #[.int .i64 1, .bool s2, .bool s3, .bool s4]) ∧ Below w.heap.size w w' := by
  go_enter Tryz.func118, Tryz.ntmps118
  go_wp2_with fail
  exact bodyPost_ret (v := .agg #[.int .i64 1, .bool s2, .bool s3, .bool s4]) (by simp [results, Tryz.results118, go_sem]) rfl ⟨rfl, ((Below.refl _ w).alloc (Nat.le_refl _) _).alloc (by rw [World.size_alloc]; omega) _⟩
set_option maxHeartbeats 2000000 in
theorem tstyled31 (s1 : Int) (s2 s3 s4 : Bool) (w : World) : Calls Tryz.prog 118 #[.agg #[.int .i64 s1, .bool s2, .bool s3, .bool s4], .int .i64 31] w fun e w' => e = .returned (.agg #[.int .i64 2, .bool s2, .bool s3, .bool s4]) ∧ Below w.heap.size w w' := by
  go_enter Tryz.func118, Tryz.ntmps118
  go_wp2_with fail
  exact bodyPost_ret (v := .agg #[.int .i64 2, .bool s2, .bool s3, .bool s4]) (by simp [results, Tryz.results118, go_sem]) rfl ⟨rfl, ((Below.refl _ w).alloc (Nat.le_refl _) _).alloc (by rw [World.size_alloc]; omega) _⟩
set_option maxHeartbeats 2000000 in
theorem tstyled32 (s1 : Int) (s2 s3 s4 : Bool) (w : World) : Calls Tryz.prog 118 #[.agg #[.int .i64 s1, .bool s2, .bool s3, .bool s4], .int .i64 32] w fun e w' => e = .returned (.agg #[.int .i64 3, .bool s2, .bool s3, .bool s4]) ∧ Below w.heap.size w w' := by
  go_enter Tryz.func118, Tryz.ntmps118
  go_wp2_with fail
  exact bodyPost_ret (v := .agg #[.int .i64 3, .bool s2, .bool s3, .bool s4]) (by simp [results, Tryz.results118, go_sem]) rfl ⟨rfl, ((Below.refl _ w).alloc (Nat.le_refl _) _).alloc (by rw [World.size_alloc]; omega) _⟩
set_option maxHeartbeats 2000000 in
theorem tstyled33 (s1 : Int) (s2 s3 s4 : Bool) (w : World) : Calls Tryz.prog 118 #[.agg #[.int .i64 s1, .bool s2, .bool s3, .bool s4], .int .i64 33] w fun e w' => e = .returned (.agg #[.int .i64 4, .bool s2, .bool s3, .bool s4]) ∧ Below w.heap.size w w' := by
  go_enter Tryz.func118, Tryz.ntmps118
  go_wp2_with fail
  exact bodyPost_ret (v := .agg #[.int .i64 4, .bool s2, .bool s3, .bool s4]) (by simp [results, Tryz.results118, go_sem]) rfl ⟨rfl, ((Below.refl _ w).alloc (Nat.le_refl _) _).alloc (by rw [World.size_alloc]; omega) _⟩
set_option maxHeartbeats 2000000 in
theorem tstyled34 (s1 : Int) (s2 s3 s4 : Bool) (w : World) : Calls Tryz.prog 118 #[.agg #[.int .i64 s1, .bool s2, .bool s3, .bool s4], .int .i64 34] w fun e w' => e = .returned (.agg #[.int .i64 5, .bool s2, .bool s3, .bool s4]) ∧ Below w.heap.size w w' := by
  go_enter Tryz.func118, Tryz.ntmps118
  go_wp2_with fail
  exact bodyPost_ret (v := .agg #[.int .i64 5, .bool s2, .bool s3, .bool s4]) (by simp [results, Tryz.results118, go_sem]) rfl ⟨rfl, ((Below.refl _ w).alloc (Nat.le_refl _) _).alloc (by rw [World.size_alloc]; omega) _⟩
set_option maxHeartbeats 2000000 in
theorem tstyled35 (s1 : Int) (s2 s3 s4 : Bool) (w : World) : Calls Tryz.prog 118 #[.agg #[.int .i64 s1, .bool s2, .bool s3, .bool s4], .int .i64 35] w fun e w' => e = .returned (.agg #[.int .i64 6, .bool s2, .bool s3, .bool s4]) ∧ Below w.heap.size w w' := by
  go_enter Tryz.func118, Tryz.ntmps118
  go_wp2_with fail
  exact bodyPost_ret (v := .agg #[.int .i64 6, .bool s2, .bool s3, .bool s4]) (by simp [results, Tryz.results118, go_sem]) rfl ⟨rfl, ((Below.refl _ w).alloc (Nat.le_refl _) _).alloc (by rw [World.size_alloc]; omega) _⟩
set_option maxHeartbeats 2000000 in
theorem tstyled36 (s1 : Int) (s2 s3 s4 : Bool) (w : World) : Calls Tryz.prog 118 #[.agg #[.int .i64 s1, .bool s2, .bool s3, .bool s4], .int .i64 36] w fun e w' => e = .returned (.agg #[.int .i64 7, .bool s2, .bool s3, .bool s4]) ∧ Below w.heap.size w w' := by
  go_enter Tryz.func118, Tryz.ntmps118
  go_wp2_with fail
  exact bodyPost_ret (v := .agg #[.int .i64 7, .bool s2, .bool s3, .bool s4]) (by simp [results, Tryz.results118, go_sem]) rfl ⟨rfl, ((Below.refl _ w).alloc (Nat.le_refl _) _).alloc (by rw [World.size_alloc]; omega) _⟩
set_option maxHeartbeats 2000000 in
theorem tstyled37 (s1 : Int) (s2 s3 s4 : Bool) (w : World) : Calls Tryz.prog 118 #[.agg #[.int .i64 s1, .bool s2, .bool s3, .bool s4], .int .i64 37] w fun e w' => e = .returned (.agg #[.int .i64 8, .bool s2, .bool s3, .bool s4]) ∧ Below w.heap.size w w' := by
  go_enter Tryz.func118, Tryz.ntmps118
  go_wp2_with fail
  exact bodyPost_ret (v := .agg #[.int .i64 8, .bool s2, .bool s3, .bool s4]) (by simp [results, Tryz.results118, go_sem]) rfl ⟨rfl, ((Below.refl _ w).alloc (Nat.le_refl _) _).alloc (by rw [World.size_alloc]; omega) _⟩
set_option maxHeartbeats 2000000 in
theorem tstyled39 (s1 : Int) (s2 s3 s4 : Bool) (w : World) : Calls Tryz.prog 118 #[.agg #[.int .i64 s1, .bool s2, .bool s3, .bool s4], .int .i64 39] w fun e w' => e = .returned (.agg #[.int .i64 0, .bool s2, .bool s3, .bool s4]) ∧ Below w.heap.size w w' := by
  go_enter Tryz.func118, Tryz.ntmps118
  go_wp2_with fail
  exact bodyPost_ret (v := .agg #[.int .i64 0, .bool s2, .bool s3, .bool s4]) (by simp [results, Tryz.results118, go_sem]) rfl ⟨rfl, ((Below.refl _ w).alloc (Nat.le_refl _) _).alloc (by rw [World.size_alloc]; omega) _⟩
set_option maxHeartbeats 2000000 in
theorem tstyled_no (s1 : Int) (s2 s3 s4 : Bool) (n : Int) (w : World) (h0 : (n == 0) = false) (h1 : (n == 1) = false) (h4 : (n == 4) = false) (h7 : (n == 7) = false) (h22 : (n == 22) = false) (h24 : (n == 24) = false) (h27 : (n == 27) = false) (h30 : (n == 30) = false) (h31 : (n == 31) = false) (h32 : (n == 32) = false) (h33 : (n == 33) = false) (h34 : (n == 34) = false) (h35 : (n == 35) = false) (h36 : (n == 36) = false) (h37 : (n == 37) = false) (h39 : (n == 39) = false) : Calls Tryz.prog 118 #[.agg #[.int .i64 s1, .bool s2, .bool s3, .bool s4], .int .i64 n] w fun e w' => e = .returned (.agg #[.int .i64 s1, .bool s2, .bool s3, .bool s4]) ∧ Below w.heap.size w w' := by
  go_enter Tryz.func118, Tryz.ntmps118
  go_wp2_with fail
  exact bodyPost_ret (v := .agg #[.int .i64 s1, .bool s2, .bool s3, .bool s4]) (by simp [results, Tryz.results118, go_sem]) rfl ⟨rfl, ((Below.refl _ w).alloc (Nat.le_refl _) _).alloc (by rw [World.size_alloc]; omega) _⟩
theorem tstyled_any (s : Sty) (n : Nat) (w : World) :
    Calls Tryz.prog 118 #[.agg #[.int .i64 s.1, .bool s.2.1, .bool s.2.2.1, .bool s.2.2.2], .int .i64 (n : Int)] w fun e w' => e = .returned (.agg #[.int .i64 (styN s n).1, .bool (styN s n).2.1, .bool (styN s n).2.2.1, .bool (styN s n).2.2.2]) ∧ Below w.heap.size w w' := by
  obtain ⟨s1, s2, s3, s4⟩ := s
  by_cases h0 : n = 0
  · subst h0; exact tstyled0 s1 s2 s3 s4 w
  by_cases h1 : n = 1
  · subst h1; exact tstyled1 s1 s2 s3 s4 w
  by_cases h4 : n = 4
  · subst h4; exact tstyled4 s1 s2 s3 s4 w
  by_cases h7 : n = 7
  · subst h7; exact tstyled7 s1 s2 s3 s4 w
  by_cases h22 : n = 22
  · subst h22; exact tstyled22 s1 s2 s3 s4 w
  by_cases h24 : n = 24
  · subst h24; exact tstyled24 s1 s2 s3 s4 w
  by_cases h27 : n = 27
  · subst h27; exact tstyled27 s1 s2 s3 s4 w
  by_cases h30 : n = 30
  · subst h30; exact tstyled30 s1 s2 s3 s4 w
  by_cases h31 : n = 31
  · subst h31; exact tstyled31 s1 s2 s3 s4 w
  by_cases h32 : n = 32
  · subst h32; exact tstyled32 s1 s2 s3 s4 w
  by_cases h33 : n = 33
  · subst h33; exact tstyled33 s1 s2 s3 s4 w
  by_cases h34 : n = 34
  · subst h34; exact tstyled34 s1 s2 s3 s4 w
  by_cases h35 : n = 35
  · subst h35; exact tstyled35 s1 s2 s3 s4 w
  by_cases h36 : n = 36
  · subst h36; exact tstyled36 s1 s2 s3 s4 w
  by_cases h37 : n = 37
  · subst h37; exact tstyled37 s1 s2 s3 s4 w
  by_cases h39 : n = 39
  · subst h39; exact tstyled39 s1 s2 s3 s4 w
  have e : styN (s1, s2, s3, s4) n = (s1, s2, s3, s4) := by
    unfold styN
    rw [if_neg h0, if_neg (by omega), if_neg (by omega), if_neg (by omega), if_neg (by omega), if_neg h39]
  rw [e]
  exact tstyled_no s1 s2 s3 s4 n w (by rw [beq_eq_false_iff_ne]; omega) (by rw [beq_eq_false_iff_ne]; omega) (by rw [beq_eq_false_iff_ne]; omega) (by rw [beq_eq_false_iff_ne]; omega) (by rw [beq_eq_false_iff_ne]; omega) (by rw [beq_eq_false_iff_ne]; omega) (by rw [beq_eq_false_iff_ne]; omega) (by rw [beq_eq_false_iff_ne]; omega) (by rw [beq_eq_false_iff_ne]; omega) (by rw [beq_eq_false_iff_ne]; omega) (by rw [beq_eq_false_iff_ne]; omega) (by rw [beq_eq_false_iff_ne]; omega) (by rw [beq_eq_false_iff_ne]; omega) (by rw [beq_eq_false_iff_ne]; omega) (by rw [beq_eq_false_iff_ne]; omega) (by rw [beq_eq_false_iff_ne]; omega)
end Go.Proofs.YtpkjaallhhjleaaGreatDoor

/-
  term: control, restyle: what each leaves.
-/
namespace Go.Proofs.YtpkjaallhhjleaaGreatDoor
open Go.RowKit

section
variable {w0 : World} {B G N cap : Nat} {t : Tm}

set_option maxRecDepth 20000 in
set_option maxHeartbeats 8000000 in
theorem tctl_7 {m n : Nat} (w : World) (h : TmS w0 w B G N cap t) (_hok : OkF t.f m n) (_hL : TBlankW w0) :
    Calls Tryz.prog 59 #[.pointer (some ⟨B, 0, none⟩), .int .i32 7] w (TmD w0 w B G N cap (controlT t 7)) := by
  show Calls _ _ _ _ (TmD w0 w B G N cap { t with bells := wrap64 (t.bells + 1) })
  obtain ⟨_, _, ⟨x9, _, _, _⟩, hf⟩ := h.box.cells
  have hlt := h.box.lt
  have f9 := hf 9
  have HZ := Lib.hid (h.bells_ (wrap64 (t.bells + 1)))
  clear h hf
  go_enter Tryz.func59, Tryz.ntmps59
  go_wp2_with fail
  go_end0
  exact ⟨rfl, HZ.out.1, HZ.out.2⟩

set_option maxRecDepth 20000 in
set_option maxHeartbeats 8000000 in
theorem tctl_8 {m n : Nat} (w : World) (h : TmS w0 w B G N cap t) (hok : OkF t.f m n) (_hL : TBlankW w0) :
    Calls Tryz.prog 59 #[.pointer (some ⟨B, 0, none⟩), .int .i32 8] w (TmD w0 w B G N cap (controlT t 8)) := by
  show Calls _ _ _ _ (TmD w0 w B G N cap { t with f := goF t.f t.f.row (t.f.col - 1), waits := false })
  have hm := hok.hm
  have hn := hok.hn
  have hb : Below w.heap.size w w.drew := (Below.refl _ _).drew
  have HF := Lib.hid (goto_any t.f.row (t.f.col - 1) w.drew (h.next hb) (by rw [hok.rows]; omega) (by rw [hok.cols]; omega))
  obtain ⟨t1, ht1⟩ : ∃ t1 : Tm, { t with f := goF t.f t.f.row (t.f.col - 1) } = t1 := ⟨_, rfl⟩
  have hE : ({ t with f := goF t.f t.f.row (t.f.col - 1), waits := false } : Tm) = { t1 with waits := false } := by rw [← ht1]
  rw [hE]
  rw [ht1] at HF
  have hc := hok.col
  obtain ⟨⟨_, _, _, x3, x4⟩, _, _, _⟩ := h.box.cells
  obtain ⟨hc1, hc2⟩ := hc
  have nb : n ≤ 200 := hn.2
  have wd : IntKind.i64.wrap (t.f.col - 1) = t.f.col - 1 := by rw [IntWalk.i64_in _ (by omega)]
  clear h hok hE ht1 hm hn
  go_enter Tryz.func59, Tryz.ntmps59
  go_wp2_with fail
  go_still_tail 12, (by kernel_rfl)
  change wpList _ _ _ _ _ w.drew
  go_wp2_with fail
  go_fit HF.out
  rintro e w2 ⟨rfl, h2, k2⟩
  obtain ⟨_, _, ⟨_, x10, _, _⟩, hf⟩ := h2.box.cells
  have hlt := h2.box.lt
  have f10 := hf 10
  obtain ⟨a1, a2⟩ := h2.waits_ false
  have HZ := Lib.hid (And.intro a1 (((keep_drew _ w).trans k2).trans a2))
  clear h2 hf a1 a2 k2 HF hb
  go_wp2_with fail
  go_end0
  exact ⟨rfl, HZ.out.1, HZ.out.2⟩

set_option maxRecDepth 20000 in
set_option maxHeartbeats 8000000 in
theorem tctl_10 {m n : Nat} (w : World) (h : TmS w0 w B G N cap t) (hok : OkF t.f m n) (hL : TBlankW w0) :
    Calls Tryz.prog 59 #[.pointer (some ⟨B, 0, none⟩), .int .i32 10] w (TmD w0 w B G N cap (controlT t 10)) := by
  show Calls _ _ _ _ (TmD w0 w B G N cap { t with f := feedF t.f, waits := false })
  have HF := Lib.hid (tfeed_any w h hok hL)
  obtain ⟨t1, ht1⟩ : ∃ t1 : Tm, { t with f := feedF t.f } = t1 := ⟨_, rfl⟩
  have hE : ({ t with f := feedF t.f, waits := false } : Tm) = { t1 with waits := false } := by rw [← ht1]
  rw [hE]
  rw [ht1] at HF
  clear h hok hL hE ht1
  go_enter Tryz.func59, Tryz.ntmps59
  go_wp2_with fail
  go_fit HF.out
  rintro e w2 ⟨rfl, h2, k2⟩
  obtain ⟨_, _, ⟨_, x10, _, _⟩, hf⟩ := h2.box.cells
  have hlt := h2.box.lt
  have f10 := hf 10
  obtain ⟨a1, a2⟩ := h2.waits_ false
  have HZ := Lib.hid (And.intro a1 (k2.trans a2))
  clear h2 hf a1 a2 k2 HF
  go_wp2_with fail
  go_end0
  exact ⟨rfl, HZ.out.1, HZ.out.2⟩

set_option maxRecDepth 20000 in
set_option maxHeartbeats 8000000 in
theorem tctl_13 {m n : Nat} (w : World) (h : TmS w0 w B G N cap t) (_hok : OkF t.f m n) (_hL : TBlankW w0) :
    Calls Tryz.prog 59 #[.pointer (some ⟨B, 0, none⟩), .int .i32 13] w (TmD w0 w B G N cap (controlT t 13)) := by
  show Calls _ _ _ _ (TmD w0 w B G N cap { t with f := { t.f with col := 0 }, waits := false })
  obtain ⟨⟨_, _, _, _, x4⟩, _, ⟨_, x10, _, _⟩, hf⟩ := h.box.cells
  have hlt := h.box.lt
  have f4 := hf 4
  have f10 := hf 10
  obtain ⟨a1, a2⟩ := h.col_ 0
  obtain ⟨b1, b2⟩ := a1.waits_ false
  have HZ := Lib.hid (And.intro b1 (a2.trans b2))
  clear h hf a1 a2 b1 b2
  go_enter Tryz.func59, Tryz.ntmps59
  go_wp2_with fail
  go_end0
  exact ⟨rfl, HZ.out.1, HZ.out.2⟩

set_option maxRecDepth 20000 in
set_option maxHeartbeats 8000000 in
theorem tctl_o {m n : Nat} (r : Int) (h7 : (r == 7) = false) (h8 : (r == 8) = false) (h10 : (r == 10) = false) (h13 : (r == 13) = false) (w : World) (h : TmS w0 w B G N cap t) (_hok : OkF t.f m n) (_hL : TBlankW w0) :
    Calls Tryz.prog 59 #[.pointer (some ⟨B, 0, none⟩), .int .i32 r] w (TmD w0 w B G N cap (controlT t r)) := by
  have hE : controlT t r = t := by
    rw [beq_eq_false_iff_ne] at h7 h8 h10 h13
    unfold controlT
    rw [if_neg h7, if_neg h8, if_neg h10, if_neg h13]
  rw [hE]
  have HS := Lib.hid h
  clear h hE
  go_enter Tryz.func59, Tryz.ntmps59
  go_wp2_with fail
  go_end0
  exact ⟨rfl, HS.out, KeepW.refl _ _⟩
theorem tctl_any {m n : Nat} (r : Int) (w : World) (h : TmS w0 w B G N cap t) (hok : OkF t.f m n) (hL : TBlankW w0) :
    Calls Tryz.prog 59 #[.pointer (some ⟨B, 0, none⟩), .int .i32 r] w (TmD w0 w B G N cap (controlT t r)) := by
  by_cases h7 : r = 7
  · subst h7; exact tctl_7 w h hok hL
  by_cases h8 : r = 8
  · subst h8; exact tctl_8 w h hok hL
  by_cases h10 : r = 10
  · subst h10; exact tctl_10 w h hok hL
  by_cases h13 : r = 13
  · subst h13; exact tctl_13 w h hok hL
  exact tctl_o r (beq_eq_false_iff_ne.2 h7) (beq_eq_false_iff_ne.2 h8) (beq_eq_false_iff_ne.2 h10) (beq_eq_false_iff_ne.2 h13) w h hok hL

theorem stys_take (s : Sty) (l : List Nat) (i x : Nat) (h : l[i]? = some x) : styN ((l.take i).foldl styN s) x = (l.take (i + 1)).foldl styN s := by
  have h1 := (List.getElem?_eq_some_iff.1 h).1
  rw [List.take_succ_eq_append_getElem h1, (List.getElem?_eq_some_iff.1 h).2, List.foldl_append]
  rfl
set_option maxRecDepth 20000 in
set_option maxHeartbeats 8000000 in
theorem trestyle_nil (w : World) (h : TmS w0 w B G N cap t) :
    Calls Tryz.prog 97 #[.pointer (some ⟨B, 0, none⟩), .slice none 0 0] w (TmD w0 w B G N cap { t with sty := sty0 }) := by
  obtain ⟨_, ⟨x5, x6, x7, x8⟩, _, hf⟩ := h.box.cells
  have hlt := h.box.lt
  have f5 := hf 5
  have f6 := hf 6
  have f7 := hf 7
  have f8 := hf 8
  have HZ := Lib.hid (h.sty_ sty0)
  unfold setSty sty0 at HZ
  unfold sty0
  clear h hf
  go_enter Tryz.func97, Tryz.ntmps97
  go_wp2_with fail
  go_loopw [15] (fun s15 wr => s15 = .int .i64 0 ∧ Hid (TmS w0 wr B G N cap { t with sty := (0, false, false, false) } ∧ KeepW (NotBG B G) w wr)) (fun _ _ => 0)
  case atStart => exact ⟨rfl, HZ⟩
  case round =>
    obtain ⟨rfl, HI⟩ := hrel
    go_wp2_with fail
    go_end0
    exact ⟨rfl, HI.out.1, HI.out.2⟩
set_option maxRecDepth 20000 in
set_option maxHeartbeats 8000000 in
theorem trestyle_some {v : Value} {l : List Nat} (w : World) (h : TmS w0 w B G N cap t) (hN : NumsW (NotBG B G) w v l) (hl : l ≠ []) (hl2 : l.length ≤ 1000000) :
    Calls Tryz.prog 97 #[.pointer (some ⟨B, 0, none⟩), v] w (TmD w0 w B G N cap { t with sty := l.foldl styN t.sty }) := by
  obtain ⟨ao, cp, rfl, hcp, _⟩ := hN.1
  obtain ⟨q, hq⟩ : ∃ q, l.length = q := ⟨_, rfl⟩
  rw [hq] at hN hcp hl2 ⊢
  have hq0 : ((q : Int) == 0) = false := by
    rw [beq_eq_false_iff_ne]
    intro e
    exact hl (List.eq_nil_of_length_eq_zero (by omega))
  have HQ := Lib.hid hq
  have H0 : Hid (TmS w0 w B G N cap { t with sty := (l.take 0).foldl styN t.sty } ∧ KeepW (NotBG B G) w w) := ⟨h, KeepW.refl _ _⟩
  have HN := Lib.hid hN
  have HT : Hid (∀ i wr, i < q → TmS w0 wr B G N cap { t with sty := (l.take i).foldl styN t.sty } → KeepW (NotBG B G) w wr → ∃ (g o x : Nat) (s : Sty), ao = some ⟨g, o, none⟩ ∧ wr.cell? ⟨g, o + i, none⟩ = some (.int .i64 (x : Int)) ∧ (wr.cell? ⟨B, 5, none⟩ = some (.int .i64 s.1) ∧ wr.cell? ⟨B, 6, none⟩ = some (.bool s.2.1) ∧ wr.cell? ⟨B, 7, none⟩ = some (.bool s.2.2.1) ∧ wr.cell? ⟨B, 8, none⟩ = some (.bool s.2.2.2)) ∧
      Calls Tryz.prog 118 #[.agg #[.int .i64 s.1, .bool s.2.1, .bool s.2.2.1, .bool s.2.2.2], .int .i64 (x : Int)] wr fun e w' => ∃ u : Sty, e = .returned (.agg #[.int .i64 u.1, .bool u.2.1, .bool u.2.2.1, .bool u.2.2.2]) ∧ (B < w'.heap.size ∧ (w'.cell? ⟨B, 5, none⟩ = some (.int .i64 s.1) ∧ w'.cell? ⟨B, 6, none⟩ = some (.bool s.2.1) ∧ w'.cell? ⟨B, 7, none⟩ = some (.bool s.2.2.1) ∧ w'.cell? ⟨B, 8, none⟩ = some (.bool s.2.2.2)) ∧ ∀ k, w'.frozen? ⟨B, k, none⟩ = false) ∧
        Hid (TmS w0 (setSty w' B u) B G N cap { t with sty := (l.take (i + 1)).foldl styN t.sty } ∧ KeepW (NotBG B G) w (setSty w' B u))) := fun i wr hi hS hK => by
    obtain ⟨x, hx⟩ : ∃ x, l[i]? = some x := ⟨_, List.getElem?_eq_getElem (by rw [HQ.out]; exact hi)⟩
    have hN2 := HN.out.keep hK
    obtain ⟨g, o, cp2, he, hc⟩ := nums_at hN2 hx
    injection he with e1 e2 e3
    have hx2 := stys_take t.sty l i x hx
    obtain ⟨s, hs⟩ : ∃ s, (l.take i).foldl styN t.sty = s := ⟨_, rfl⟩
    obtain ⟨u, hu⟩ : ∃ u, (l.take (i + 1)).foldl styN t.sty = u := ⟨_, rfl⟩
    rw [hs] at hS hx2
    rw [hu] at hx2 ⊢
    have hst := hS.box.cells.2.1
    have hC := tstyled_any s x wr
    rw [hx2] at hC
    refine ⟨g, o, x, s, e1, hc, hst, hC.mono fun e w' ⟨k1, k2⟩ => ⟨u, k1, ?_, ?_⟩⟩
    · have h2 := hS.next k2
      exact ⟨h2.box.lt, h2.box.cells.2.1, h2.box.cells.2.2.2⟩
    · have h2 := hS.next k2
      obtain ⟨a1, a2⟩ := h2.sty_ u
      exact ⟨a1, (hK.trans (keep_below _ k2)).trans a2⟩
  have HE : Hid (l.foldl styN t.sty = (l.take q).foldl styN t.sty) := by show _ = _; rw [← HQ.out, List.take_length]
  rw [HE.out]
  clear h hN hl hq HQ HN HE
  go_enter Tryz.func97, Tryz.ntmps97
  go_wp2_with fail
  go_loopw [15] (fun s15 wr => ∃ i : Nat, s15 = .int .i64 (i : Int) ∧ i ≤ q ∧ Hid (TmS w0 wr B G N cap { t with sty := (l.take i).foldl styN t.sty } ∧ KeepW (NotBG B G) w wr)) (fun s15 _ => q - (intOf s15).toNat)
  case atStart => exact ⟨0, rfl, Nat.zero_le _, H0⟩
  case round =>
    obtain ⟨i, rfl, hiq, HI⟩ := hrel
    clear H0
    rcases Nat.lt_or_ge i q with hlt | hge
    · obtain ⟨g, o, x, s, rfl, hx, ⟨y5, y6, y7, y8⟩, hC⟩ := HT.out i wr hlt HI.out.1 HI.out.2
      have HC := Lib.hid hC
      have j0 : (i : Int) < (q : Int) := by omega
      have j1 : (0 : Int) ≤ (i : Int) := by omega
      clear HT HI hC
      go_wp2_with fail
      go_fit HC.out
      rintro e w2 ⟨u, rfl, ⟨hlB, ⟨z5, z6, z7, z8⟩, hfz⟩, HX⟩
      have f5 := hfz 5
      have f6 := hfz 6
      have f7 := hfz 7
      have f8 := hfz 8
      unfold setSty at HX
      clear hfz HC y5 y6 y7 y8 hx
      go_wp2_with fail
      go_roundw
      case rel => exact ⟨i + 1, by rw [Int.natCast_add]; rfl, by omega, HX⟩
      case measure => simp only [intOf]; omega
    · obtain rfl : i = q := by omega
      have j0 : ¬ (i : Int) < (i : Int) := by omega
      go_wp2_with fail
      go_end0
      exact ⟨rfl, HI.out.1, HI.out.2⟩
theorem trestyle_any {v : Value} {l : List Nat} (w : World) (h : TmS w0 w B G N cap t) (hN : NumsW (NotBG B G) w v l) (hl2 : l.length ≤ 1000000) :
    Calls Tryz.prog 97 #[.pointer (some ⟨B, 0, none⟩), v] w (TmD w0 w B G N cap { t with sty := stysN t.sty l }) := by
  unfold stysN
  by_cases hl : l = []
  · rw [if_pos hl, hN.2 hl]
    exact trestyle_nil w h
  · rw [if_neg hl]
    exact trestyle_some w h hN hl hl2
end
end Go.Proofs.YtpkjaallhhjleaaGreatDoor
