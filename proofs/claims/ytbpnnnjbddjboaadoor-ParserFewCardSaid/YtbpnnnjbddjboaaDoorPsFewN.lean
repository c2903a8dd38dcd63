/-
  Plain facts for ParserFew: 18 leads to the beginning; what stands behind a place of all that is asked for. And a row of actions without its first one.
-/
import Derived.Test.YtbpnnnjbddjboaaDoorPsIs
namespace Go.Proofs.YtbpnnnjbddjboaaDoor
open Go.RowKit

theorem feed24 (p : Ps) (h : OkP p) : (feedN p 24).1 = .zero := by
  cases p with
  | zero => rfl
  | start s =>
    show (startN s 24).1 = .zero
    unfold startN
    split
    · rfl
    · split
      · rename_i hb
        have hb : Beg (s ++ oneB 24) := of_decide_eq_true hb
        have hbt := bt_appR s (oneB 24) 0
        rw [bt_one 24 (by decide), Nat.add_zero] at hbt
        have hs : (s ++ oneB 24).size = s.size + 1 := app_size _ _
        have hs1 : 1 ≤ s.size := by rcases h with h | h | h <;> omega
        have hlo : ∀ b, 128 ≤ loB b := fun b => by
          unfold loB
          repeat' split
          all_goals omega
        rcases hb with ⟨h1, _⟩ | ⟨h1, _, _, h2, _⟩ | ⟨h1, _, _, _, _, h2, _⟩
        · omega
        · have e : s.size = 1 := by omega
          rw [e] at hbt
          have := hlo (bt (s ++ oneB 24) 0)
          omega
        · have e : s.size = 2 := by omega
          rw [e] at hbt
          omega
      · rfl
  | esc => rfl
  | seq pre x => rfl
  | bad => rfl
/-- All that is asked for: what the first bytes ask for, and the rest. -/
theorem run_split (p : Ps) (l : List Nat) (k : Nat) : ∃ r, (runN p l).2 = (runN p (l.take k)).2 ++ r := by
  have h := runN_app p (l.take k) (l.drop k)
  rw [List.take_append_drop] at h
  exact ⟨_, congrArg Prod.snd h⟩
theorem drop_at (acc q r : List Ac) (m : Nat) (hm : m < q.length) : (acc ++ (q ++ r))[acc.length + m]? = q[m]? := by
  rw [List.getElem?_append_right (by omega), Nat.add_sub_cancel_left, List.getElem?_append_left hm]
theorem drop_head (L : List Ac) (i : Nat) (a : Ac) (h : L[i]? = some a) : L.drop i = a :: L.drop (i + 1) := by
  obtain ⟨hi, rfl⟩ := List.getElem?_eq_some_iff.1 h
  exact List.drop_eq_getElem_cons hi

/-- Without its first one. -/
theorem ActsW.rest {ok : Nat → Prop} {w : World} {ao A : Option Addr} {n cap c2 : Nat} {a : Ac} {l : List Ac} (h : ActsW ok w (.slice ao n cap) (a :: l)) (hc : l.length ≤ c2)
    (hA : ∀ g o, ao = some ⟨g, o, none⟩ → (∀ b, A = some b → b.block = g) ∧ (0 < l.length → A = some ⟨g, o + 4, none⟩)) : ActsW ok w (.slice A l.length c2) l := by
  obtain ⟨xs, h1, ⟨ao', cap', hv, hn, hok, hcell⟩, h3⟩ := h
  cases hv
  cases xs with
  | nil => cases h1
  | cons x xs =>
    obtain ⟨rfl, rfl⟩ := List.cons.inj h1
    obtain ⟨g0, o0, e0, _⟩ := hcell 0 (.int .i64 (x.1.1 : Int)) rfl
    refine ⟨xs, rfl, ⟨A, c2, rfl, hc, fun b hb => by rw [(hA g0 o0 e0).1 b hb]; exact hok _ e0, fun j u hu => ?_⟩, fun y hy => h3 y (List.mem_cons_of_mem _ hy)⟩
    have hj : j < (xs.flatMap actC).length := (List.getElem?_eq_some_iff.1 hu).1
    rw [flat4_len] at hj
    obtain ⟨g, o, e, hg⟩ := hcell (4 + j) u (by
      rw [List.flatMap_cons, List.getElem?_append_right (by show 4 ≤ _; omega)]
      show (xs.flatMap actC)[4 + j - 4]? = _
      rw [Nat.add_sub_cancel_left]
      exact hu)
    exact ⟨g, o + 4, (hA g o e).2 (by rw [List.length_map]; omega), by rw [Nat.add_assoc]; exact hg⟩
end Go.Proofs.YtbpnnnjbddjboaaDoor
