/-
  What lies in memory where the document's decoder lies. limnerref09: key, arrow: what each returns.
-/
import Derived.Test.YtdnldfgolbcjiaaDoorBe30
import Derived.Test.YtdnldfgolbcjiaaDoorBe21
namespace Go.Proofs.YtdnldfgolbcjiaaDoor
open Go.RowKit

def heldS : Ky → ByteArray
  | .held s => s
  | .paste _ => noB
def pastS : Ky → ByteArray
  | .held _ => noB
  | .paste s => s
def isP : Ky → Bool
  | .held _ => false
  | .paste _ => true
def boxR (w : World) (R : Nat) (x0 x1 x2 : Value) : Prop := w.heap[R]? = some (.cells #[x0, x1, x2] 30 (0, 0))
section
variable {w w' : World} {R : Nat} {x0 x1 x2 : Value}
theorem boxR.cells (h : boxR w R x0 x1 x2) : (w.cell? ⟨R, 0, none⟩ = some x0 ∧ w.cell? ⟨R, 1, none⟩ = some x1 ∧ w.cell? ⟨R, 2, none⟩ = some x2) ∧ w.frozen? ⟨R, 0, none⟩ = false ∧ w.frozen? ⟨R, 1, none⟩ = false ∧ w.frozen? ⟨R, 2, none⟩ = false := by
  unfold boxR at h
  refine ⟨⟨?_, ?_, ?_⟩, ?_, ?_, ?_⟩ <;> first | (unfold World.cell?; rw [h]; rfl) | (unfold World.frozen?; rw [h]; simp)
theorem boxR.lt (h : boxR w R x0 x1 x2) : R < w.heap.size := (Array.getElem?_eq_some_iff.1 h).1
theorem boxR.keep {ok : Nat → Prop} (h : boxR w R x0 x1 x2) (hk : KeepW ok w w') (ho : ok R) : boxR w' R x0 x1 x2 := (hk.same R h.lt ho).trans h
theorem boxR.below (h : boxR w R x0 x1 x2) (hb : Below w.heap.size w w') : boxR w' R x0 x1 x2 := (hb.block R h.lt).trans h
theorem boxR.set0 (h : boxR w R x0 x1 x2) (y : Value) : boxR (w.setCell ⟨R, 0, none⟩ y) R y x1 x2 := keyB_heap h
theorem boxR.set1 (h : boxR w R x0 x1 x2) (y : Value) : boxR (w.setCell ⟨R, 1, none⟩ y) R x0 y x2 := keyB_heap h
theorem boxR.set2 (h : boxR w R x0 x1 x2) (y : Value) : boxR (w.setCell ⟨R, 2, none⟩ y) R x0 x1 y := keyB_heap h
end
theorem keep_R (w : World) (R i : Nat) (y : Value) : KeepW (fun k => k ≠ R) w (w.setCell ⟨R, i, none⟩ y) := keep_set _ _ _ _ _ fun h => h rfl
/-- Where the document's decoder stands. -/
structure RefK (N : Nat) (w : World) (R : Nat) (v : Value) (p : Ky) : Prop where
  box : boxR w R (.string (heldS p)) (.bool (isP p)) v
  row : OwnB N w v (pastS p)
  ne : v.ownBlock ≠ some R
  ge : N ≤ R
/-- What a turn of it leaves where no paste goes on. -/
def FedH (R : Nat) (v : Value) (w : World) (r : Ky × List Ke) (e : Ending) (w' : World) : Prop :=
  ∃ u, e = .returned u ∧ KeysW (FromK w.heap.size) w' u r.2 ∧ boxR w' R (.string (heldS r.1)) (.bool (isP r.1)) v ∧ KeepW (fun k => k ≠ R) w w' ∧ pastS r.1 = noB
theorem fedh_below {R : Nat} {v : Value} {w w1 w' : World} {r : Ky × List Ke} {e : Ending} (hb : KeepW (fun k => k ≠ R) w w1) (h : FedH R v w1 r e w') : FedH R v w r e w' := by
  obtain ⟨u, he, hu, hB, hk, hp⟩ := h
  exact ⟨u, he, hu.any fun j (hj : w1.heap.size ≤ j) => Nat.le_trans hb.size hj, hB, hb.trans hk, hp⟩

set_option maxHeartbeats 1000000 in
theorem rkey_any (k r : Nat) (s : ByteArray) (w : World) :
    Calls Tryd.prog 31 #[.int .i64 (k : Int), .int .i32 (r : Int), .string s] w fun e w' => ∃ u, e = .returned u ∧ OutK w.heap.size w' u [(k, r, s)] ∧ Below w.heap.size w w' := by
  go_enter Tryd.func31, Tryd.ntmps31
  go_wp2
  go_ret
  exact ⟨_, rfl, OutK.one (k := (k, r, s)) (Nat.le_refl _), alloc_below w _⟩
/-- A key alone behind a turn of the box. -/
theorem fedh_key {R : Nat} {v u : Value} {w w1 w' : World} {p : Ky} {k : Ke} (hk : KeepW (fun k => k ≠ R) w w1) (hu : OutK w1.heap.size w' u [k]) (hb : Below w1.heap.size w1 w') (hB : boxR w1 R (.string (heldS p)) (.bool (isP p)) v) (hp : pastS p = noB) : FedH R v w (p, [k]) (.returned u) w' :=
  ⟨u, rfl, hu.keys.any fun j (hj : w1.heap.size ≤ j) => Nat.le_trans hk.size hj, hB.below hb, hk.trans (keep_below _ hb), hp⟩
theorem fedh_none {R : Nat} {v : Value} {w w' : World} {p : Ky} (hk : KeepW (fun k => k ≠ R) w w') (hB : boxR w' R (.string (heldS p)) (.bool (isP p)) v) (hp : pastS p = noB) : FedH R v w (p, []) (.returned (.slice none 0 0)) w' := ⟨_, rfl, KeysW.nil _ _, hB, hk, hp⟩

def arrowN (r : ByteArray) : Nat := if r = oneS 65 then 8 else if r = oneS 66 then 9 else if r = oneS 67 then 11 else if r = oneS 68 then 10 else if r = oneS 72 then 12 else if r = oneS 70 then 13 else 0
set_option maxRecDepth 4000 in
set_option maxHeartbeats 4000000 in
theorem arrow_any (s : ByteArray) (w : World) :
    Calls Tryd.prog 32 #[.string s] w fun e w' => e = .returned (.int .i64 (arrowN s : Int)) ∧ Below w.heap.size w w' := by
  go_enter Tryd.func32, Tryd.ntmps32
  go_wp2
  go_loopw [5] (fun s5 wr => ∃ i : Nat, s5 = .int .i64 (i : Int) ∧ i ≤ 6 ∧ wr = ((w.alloc (.cells #[.string ⟨#[65]⟩, .string ⟨#[66]⟩, .string ⟨#[67]⟩, .string ⟨#[68]⟩, .string ⟨#[72]⟩, .string ⟨#[70]⟩] 73)).alloc (.cells #[.int .i64 8, .int .i64 9, .int .i64 11, .int .i64 10, .int .i64 12, .int .i64 13] 74)) ∧ Hid (∀ j c, j < i → ([65, 66, 67, 68, 72, 70] : List Nat)[j]? = some c → s ≠ oneS c)) (fun s5 _ => 6 - (intOf s5).toNat)
  case atStart => exact ⟨0, rfl, Nat.zero_le _, rfl, fun j c h => absurd h (Nat.not_lt_zero _)⟩
  case round =>
    obtain ⟨i, rfl, hi, rfl, HI⟩ := hrel
    have hb : Below w.heap.size w ((w.alloc (.cells #[.string ⟨#[65]⟩, .string ⟨#[66]⟩, .string ⟨#[67]⟩, .string ⟨#[68]⟩, .string ⟨#[72]⟩, .string ⟨#[70]⟩] 73)).alloc (.cells #[.int .i64 8, .int .i64 9, .int .i64 11, .int .i64 10, .int .i64 12, .int .i64 13] 74)) := ((Below.refl _ w).alloc (Nat.le_refl _) _).alloc (by rw [alloc_size]; omega) _
    have HB := Lib.hid hb
    clear hb
    have nx : ∀ c, s ≠ oneS c → ([65, 66, 67, 68, 72, 70] : List Nat)[i]? = some c → Hid (∀ j c, j < i + 1 → ([65, 66, 67, 68, 72, 70] : List Nat)[j]? = some c → s ≠ oneS c) := fun c hc he j d hj hd => by
      by_cases h : j < i
      · exact HI.out j d h hd
      · have e : j = i := by omega
        subst e
        rw [he] at hd
        cases hd
        exact hc
    have HNX := Lib.hid nx
    clear nx
    by_cases c0 : i = 0
    · subst c0
      by_cases e : s = oneS 65
      · have q : (s.toList == [65]) = true := by rw [ba_lit]; exact decide_eq_true e
        have HA : Hid (arrowN s = 8) := by show arrowN s = _; rw [e]; rfl
        clear e HNX HI
        go_wp2_with fail
        go_ret
        exact ⟨by rw [HA.out]; rfl, HB.out⟩
      · have q : (s.toList == [65]) = false := by rw [ba_lit]; exact decide_eq_false e
        have HN := HNX.out 65 e rfl
        clear e HNX HI
        go_wp2_with fail
        go_roundw
        case rel => exact ⟨1, by go_num, by omega, trivial, HN⟩
        case measure => simp [intOf]
    by_cases c1 : i = 1
    · subst c1
      by_cases e : s = oneS 66
      · have q : (s.toList == [66]) = true := by rw [ba_lit]; exact decide_eq_true e
        have HA : Hid (arrowN s = 9) := by show arrowN s = _; rw [e]; rfl
        clear e HNX HI
        go_wp2_with fail
        go_ret
        exact ⟨by rw [HA.out]; rfl, HB.out⟩
      · have q : (s.toList == [66]) = false := by rw [ba_lit]; exact decide_eq_false e
        have HN := HNX.out 66 e rfl
        clear e HNX HI
        go_wp2_with fail
        go_roundw
        case rel => exact ⟨2, by go_num, by omega, trivial, HN⟩
        case measure => simp [intOf]
    by_cases c2 : i = 2
    · subst c2
      by_cases e : s = oneS 67
      · have q : (s.toList == [67]) = true := by rw [ba_lit]; exact decide_eq_true e
        have HA : Hid (arrowN s = 11) := by show arrowN s = _; rw [e]; rfl
        clear e HNX HI
        go_wp2_with fail
        go_ret
        exact ⟨by rw [HA.out]; rfl, HB.out⟩
      · have q : (s.toList == [67]) = false := by rw [ba_lit]; exact decide_eq_false e
        have HN := HNX.out 67 e rfl
        clear e HNX HI
        go_wp2_with fail
        go_roundw
        case rel => exact ⟨3, by go_num, by omega, trivial, HN⟩
        case measure => simp [intOf]
    by_cases c3 : i = 3
    · subst c3
      by_cases e : s = oneS 68
      · have q : (s.toList == [68]) = true := by rw [ba_lit]; exact decide_eq_true e
        have HA : Hid (arrowN s = 10) := by show arrowN s = _; rw [e]; rfl
        clear e HNX HI
        go_wp2_with fail
        go_ret
        exact ⟨by rw [HA.out]; rfl, HB.out⟩
      · have q : (s.toList == [68]) = false := by rw [ba_lit]; exact decide_eq_false e
        have HN := HNX.out 68 e rfl
        clear e HNX HI
        go_wp2_with fail
        go_roundw
        case rel => exact ⟨4, by go_num, by omega, trivial, HN⟩
        case measure => simp [intOf]
    by_cases c4 : i = 4
    · subst c4
      by_cases e : s = oneS 72
      · have q : (s.toList == [72]) = true := by rw [ba_lit]; exact decide_eq_true e
        have HA : Hid (arrowN s = 12) := by show arrowN s = _; rw [e]; rfl
        clear e HNX HI
        go_wp2_with fail
        go_ret
        exact ⟨by rw [HA.out]; rfl, HB.out⟩
      · have q : (s.toList == [72]) = false := by rw [ba_lit]; exact decide_eq_false e
        have HN := HNX.out 72 e rfl
        clear e HNX HI
        go_wp2_with fail
        go_roundw
        case rel => exact ⟨5, by go_num, by omega, trivial, HN⟩
        case measure => simp [intOf]
    by_cases c5 : i = 5
    · subst c5
      by_cases e : s = oneS 70
      · have q : (s.toList == [70]) = true := by rw [ba_lit]; exact decide_eq_true e
        have HA : Hid (arrowN s = 13) := by show arrowN s = _; rw [e]; rfl
        clear e HNX HI
        go_wp2_with fail
        go_ret
        exact ⟨by rw [HA.out]; rfl, HB.out⟩
      · have q : (s.toList == [70]) = false := by rw [ba_lit]; exact decide_eq_false e
        have HN := HNX.out 70 e rfl
        clear e HNX HI
        go_wp2_with fail
        go_roundw
        case rel => exact ⟨6, by go_num, by omega, trivial, HN⟩
        case measure => simp [intOf]
    have c6 : i = 6 := by omega
    subst c6
    have HA : Hid (arrowN s = 0) := by
      show arrowN s = 0
      unfold arrowN
      rw [if_neg (HI.out 0 65 (by decide) rfl), if_neg (HI.out 1 66 (by decide) rfl), if_neg (HI.out 2 67 (by decide) rfl), if_neg (HI.out 3 68 (by decide) rfl), if_neg (HI.out 4 72 (by decide) rfl), if_neg (HI.out 5 70 (by decide) rfl)]
    clear HNX HI c0 c1 c2 c3 c4 c5
    go_wp2_with fail
    go_ret
    exact ⟨by rw [HA.out]; rfl, HB.out⟩
end Go.Proofs.YtdnldfgolbcjiaaDoor
