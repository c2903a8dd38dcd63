/-
  Texts of this proof, one behind the other; each begins with its own remark.
-/
import Derived.Test.YtdnldfgolbcjiaaDoorBe14
import Derived.Test.YtdnldfgolbcjiaaDoorBe15
import Derived.Test.YtdnldfgolbcjiaaDoorBe9
import Derived.Test.YtdnldfgolbcjiaaDoorBe17
/-
  The four tables of the packages, as they are laid, below some place; that they stay. No call is walked here.
-/
namespace Go.Proofs.YtdnldfgolbcjiaaDoor
open Go.RowKit

structure TabK (N : Nat) (w : World) : Prop where
  u : TabU w
  t : TabW w
  l1 : 2 < N
  l2 : 3 < N
  l3 : 0 < N
  l4 : 1 < N
theorem TabK.below {N : Nat} {w w' : World} (h : TabK N w) (hb : Below w.heap.size w w') : TabK N w' := ⟨h.u.below hb, h.t.below hb, h.l1, h.l2, h.l3, h.l4⟩
theorem TabK.keep {N : Nat} {ok : Nat → Prop} {w w' : World} (h : TabK N w) (hk : KeepW ok w w') (ho : ∀ k, k < N → ok k) : TabK N w' :=
  ⟨⟨⟨Nat.lt_of_lt_of_le h.u.lt.1 hk.size, Nat.lt_of_lt_of_le h.u.lt.2 hk.size⟩, fun k hx => hk.cell (h.u.fst k hx) (ho _ h.l1), fun i hi => ⟨hk.cell (h.u.acc i hi).1 (ho _ h.l2), hk.cell (h.u.acc i hi).2 (ho _ h.l2)⟩⟩,
    ⟨⟨Nat.lt_of_lt_of_le h.t.1.1 hk.size, Nat.lt_of_lt_of_le h.t.1.2 hk.size⟩, fun k hx => hk.cell (h.t.2.1 k hx) (ho _ h.l3), fun k hx => hk.cell (h.t.2.2 k hx) (ho _ h.l4)⟩, h.l1, h.l2, h.l3, h.l4⟩
end Go.Proofs.YtdnldfgolbcjiaaDoor

/-
  Plain facts: all keys of bytes, one behind the other, and of a pause behind them. Nothing of the program.
-/
namespace Go.Proofs.YtdnldfgolbcjiaaDoor
open Go.RowKit

def toldK (s : ByteArray) (tick : Bool) : List Ke := (runK (.held noB) (bytesN s)).2 ++ if tick then (tickK (runK (.held noB) (bytesN s)).1).2 else []
theorem bytesN_len (s : ByteArray) : (bytesN s).length = s.size := by unfold bytesN; rw [List.length_map, ← Lib.size_eq]
theorem bytesN_take (s : ByteArray) (i : Nat) (h : i < s.size) : (bytesN s).take (i + 1) = (bytesN s).take i ++ [bt s i] := by
  rw [List.take_succ_eq_append_getElem (by rw [bytesN_len]; exact h)]
  congr 2
  unfold bytesN
  rw [List.getElem_map, bt_data, List.getD, List.getElem?_eq_getElem (by rw [← Lib.size_eq]; exact h)]
  rfl
theorem runK_snoc (p : Ky) (l : List Nat) (b : Nat) : runK p (l ++ [b]) = ((feedK (runK p l).1 b).1, (runK p l).2 ++ (feedK (runK p l).1 b).2) := by
  rw [runK_app, runK_cons]
  simp [runK]
theorem run_size : ∀ (l : List Nat) (p : Ky), sizeK (runK p l).1 ≤ sizeK p + l.length
  | [], p => Nat.le_refl _
  | b :: l, p => by
    have h1 := run_size l (feedK p b).1
    have h2 := feed_size p b
    rw [runK_cons, List.length_cons]
    show sizeK (runK (feedK p b).1 l).1 ≤ _
    omega
theorem run_keys : ∀ (l : List Nat) (p : Ky), (runK p l).2.length ≤ 2 * l.length
  | [], p => Nat.le_refl _
  | b :: l, p => by
    have h1 := run_keys l (feedK p b).1
    have h2 := feed_keys p b
    rw [runK_cons, List.length_cons, List.length_append]
    omega
theorem tick_keys (p : Ky) : (tickK p).2.length ≤ 1 := by
  cases p with
  | held w => show (if w.size = 0 then (Ky.held w, []) else (Ky.held noB, [if w = oneS 27 then ((5, 0, noB) : Ke) else badK w])).2.length ≤ 1; split <;> simp
  | paste s => exact Nat.zero_le _

theorem told1 : toldK ⟨#[97, 195, 169, 13, 1, 0]⟩ false = [(1, 97, noB), (1, 233, noB), (2, 0, noB), (6, 97, noB), (6, 64, noB)] := by decide +kernel
theorem told2 : toldK ⟨#[27]⟩ true = [(5, 0, noB)] := by decide +kernel
theorem told3 : toldK ⟨#[27, 120]⟩ false = [(7, 120, noB)] := by decide +kernel
theorem told4 : toldK ⟨#[27, 27]⟩ true = [(5, 0, noB), (5, 0, noB)] := by decide +kernel
theorem told5 : toldK ⟨#[27, 91, 65]⟩ false = [(8, 0, noB)] := by decide +kernel
theorem told6 : toldK ⟨#[27, 79, 72]⟩ false = [(12, 0, noB)] := by decide +kernel
theorem told7 : toldK ⟨#[27, 91, 51, 126]⟩ false = [(14, 0, noB)] := by decide +kernel
theorem told8 : toldK ⟨#[27, 91, 57, 122]⟩ false = [badK ⟨#[27, 91, 57, 122]⟩] := by decide +kernel
theorem told9 : toldK ⟨#[27, 91, 50, 48, 48, 126, 97, 13, 1, 255, 27, 91, 50, 48, 49, 126]⟩ false = [(15, 0, ⟨#[97, 10]⟩)] := by decide +kernel
theorem told10 : toldK ⟨#[195, 97]⟩ false = [badK ⟨#[195]⟩, (1, 97, noB)] := by decide +kernel
theorem told11 : toldK ⟨#[195]⟩ true = [badK ⟨#[195]⟩] := by decide +kernel
end Go.Proofs.YtdnldfgolbcjiaaDoor
