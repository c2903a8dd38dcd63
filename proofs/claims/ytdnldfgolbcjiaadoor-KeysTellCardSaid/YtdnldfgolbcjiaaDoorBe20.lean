/-
  What lies in memory once a decoder's bytes have one more behind them, ahead of its next turn. No call is walked here.
-/
import Derived.Test.YtdnldfgolbcjiaaDoorBe19
namespace Go.Proofs.YtdnldfgolbcjiaaDoor
open Go.RowKit

/-- All but a decoder's own blocks. -/
abbrev okK (D : Nat) (v : Value) : Nat → Prop := fun k => k ≠ D ∧ v.ownBlock ≠ some k
structure PrepW (N D : Nat) (w : World) (x v : Value) (s : ByteArray) (b : Nat) (v1 : Value) (w1 : World) : Prop where
  box : boxK w1 D x
  tab : TabK N w1
  n : N ≤ w1.heap.size
  row : OwnB N w1 v1 (s ++ oneS b)
  old : BytesW w1 v s
  keep : KeepW (okK D v) w w1
  own : ∀ j, v1.ownBlock = some j → j < w.heap.size → ¬ okK D v j
  ne : v1.ownBlock ≠ some D
theorem PrepW.below {N D : Nat} {w w1 w2 : World} {x v v1 : Value} {s : ByteArray} {b : Nat} (h : PrepW N D w x v s b v1 w1) (hb : Below w1.heap.size w1 w2) : PrepW N D w x v s b v1 w2 :=
  ⟨h.box.below hb, h.tab.below hb, Nat.le_trans h.n hb.size, h.row.below hb, h.old.below hb, h.keep.trans (keep_below _ hb), h.own, h.ne⟩
theorem ok_low {N D : Nat} {v : Value} (hD : N ≤ D) (hv : ∀ k, v.ownBlock = some k → N ≤ k) : ∀ k, k < N → okK D v k := fun k hk => ⟨fun e => by omega, fun e => by have := hv k e; omega⟩
theorem app_prep (N D : Nat) (w : World) (x v : Value) (s : ByteArray) (b : Nat) (t ty : TypeId) (ht : Tryd.prog.underlying t = some (.slice 5)) (hB : boxK w D x) (hR : OwnB N w v s) (hne : v.ownBlock ≠ some D) (hN : N ≤ w.heap.size) (_hD : N ≤ D) (hT : TabK N w) (hb : b < 256) (hs : s.size ≤ 100000) :
    ∃ v1 w1, (Builtin.append_ #[t, t] ty #[v, .slice (some ⟨w.heap.size, 0, none⟩) 1 1]).run Tryd.prog (w.alloc (.cells #[.int .u8 (b : Int)] 5)) = .ok v1 w1 ∧ PrepW N D w x v s b v1 w1 := by
  have b0 := alloc_below w (.cells #[.int .u8 (b : Int)] 5)
  have hX : (w.alloc (.cells #[.int .u8 (b : Int)] 5)).cell? ⟨w.heap.size, 0, none⟩ = some (.int .u8 (b : Int)) := by
    unfold World.cell?
    rw [heap_alloc_new w _]; rfl
  obtain ⟨v1, w1, hr, h1, h2, h3, h4⟩ := run_snocB (N := N) t ty ht (hR.below b0) hX hb (Nat.le_trans hN b0.size) hs
  have hDl := hB.lt
  have hz := alloc_size w (.cells #[.int .u8 (b : Int)] 5)
  have hlt := hR.lt
  refine ⟨v1, w1, hr, (hB.below b0).keep h3 hne, (hT.below b0).keep h3 (fun k hk e => by have := (hlt k e).1; omega), Nat.le_trans (Nat.le_trans hN b0.size) h3.size, h1, h2, ?_, ?_, ?_⟩
  · exact (keep_below (okK D v) b0).trans (h3.mono fun k _ h => h.2)
  · intro j e hj h
    rcases h4 j e with h5 | h5
    · exact h.2 h5
    · rw [h5, hz] at hj; omega
  · intro e
    rcases h4 D e with h5 | h5
    · exact hne h5
    · rw [hz] at h5; omega
theorem PrepW.fed {N D : Nat} {w w1 w' : World} {x v v1 : Value} {s : ByteArray} {b : Nat} {r : Ky × List Ke} {e : Ending} (h : PrepW N D w x v s b v1 w1) (hf : FedK N D (fun k => k ≠ D) w1 r e w') : FedK N D (okK D v) w r e w' := by
  obtain ⟨u, v', he, hu, hd, hk, ho⟩ := hf
  refine ⟨u, v', he, hu.any fun j (hj : w1.heap.size ≤ j) => Nat.le_trans h.keep.size hj, hd, h.keep.trans (hk.mono fun k _ hk => hk.1), fun j e hj hn => ?_⟩
  exact ho j e (Nat.lt_of_lt_of_le hj h.keep.size) hn.1
theorem PrepW.wait {N D : Nat} {w w1 w' : World} {x v v1 : Value} {s : ByteArray} {b : Nat} (p : Ky) (h : PrepW N D w x v s b v1 w1) (hB : boxK w' D (kyI p v1)) (hp : textK p = s ++ oneS b) (hk : KeepW (fun k => k ≠ D) w1 w') (hD : N ≤ D) : FedK N D (okK D v) w (p, []) (.returned (.slice none 0 0)) w' := by
  have hne : ∀ j, v1.ownBlock = some j → j ≠ D := fun j e hj => h.ne (by rw [e, hj])
  exact ⟨_, v1, rfl, KeysW.nil _ _, ⟨hB, by show OwnB N w' v1 (textK p); rw [hp]; exact h.row.keep hk hne, h.ne, hD⟩, h.keep.trans (hk.mono fun k _ hk => hk.1), h.own⟩
/-- A turn that leaves the bytes that waited as they are until its end. -/
theorem fed_lift {N D : Nat} {w w1 w' : World} {v : Value} {r : Ky × List Ke} {e : Ending} (hb : Below w.heap.size w w1) (hf : FedK N D (fun k => k ≠ D) w1 r e w') : FedK N D (okK D v) w r e w' := by
  obtain ⟨u, v', he, hu, hd, hk, ho⟩ := hf
  refine ⟨u, v', he, hu.any fun j (hj : w1.heap.size ≤ j) => Nat.le_trans hb.size hj, hd, (keep_below _ hb).trans (hk.mono fun k _ hk => hk.1), fun j e hj hn => ?_⟩
  exact ho j e (Nat.lt_of_lt_of_le hj hb.size) hn.1
theorem OwnB.form0 {N : Nat} {w : World} {v : Value} {s : ByteArray} (h : OwnB N w v s) (h0 : 0 < s.size) : ∃ g cap, v = .slice (some ⟨g, 0, none⟩) s.size cap ∧ s.size ≤ cap := by
  obtain ⟨_, ⟨_, hz⟩ | ⟨g, cap, cur, hv, _, _, hn, _⟩⟩ := h
  · omega
  · exact ⟨g, cap, hv, hn⟩
end Go.Proofs.YtdnldfgolbcjiaaDoor
