/-
  Texts of this proof, one behind the other; each begins with its own remark.
-/
import Derived.Test.YtkopbngnhgdfhaaDoorBe17
import Derived.Test.YtkopbngnhgdfhaaDoorBe18
/-
  What lies in memory while limnerref11.lay works. No call is walked here.
-/
namespace Go.Proofs.YtkopbngnhgdfhaaDoor
open Go.RowKit

theorem catG_snoc : ∀ (l : List Nd) (n : Nd) (a : Nat) (p : Gl), catG (l ++ [n]) a p = seqG (catG l a p) (glN n (a + (setsL l).length))
  | [], n, a, p => by rw [List.nil_append, catG, catG, catG, setsL]; rfl
  | m :: l, n, a, p => by
    rw [List.cons_append, catG, catG, catG_snoc l n, setsL, List.length_append, Nat.add_assoc]
theorem altG_snoc : ∀ (l : List Nd) (n : Nd) (a : Nat) (p : Gl), altG (l ++ [n]) a p = eitherG (altG l a p) (glN n (a + (setsL l).length))
  | [], n, a, p => by rw [List.nil_append, altG, altG, altG, setsL]; rfl
  | m :: l, n, a, p => by
    rw [List.cons_append, altG, altG, altG_snoc l n, setsL, List.length_append, Nat.add_assoc]
theorem setsL_snoc {l : List Nd} {i : Nat} {m : Nd} (h : l[i]? = some m) : setsL (l.take (i + 1)) = setsL (l.take i) ++ setsN m := by
  rw [List.take_add_one, h, setsL_app]
  show _ ++ setsL [m] = _
  rw [setsL, setsL, List.append_nil]
theorem setsL_take_le (l : List Nd) (i : Nat) : (setsL (l.take i)).length ≤ (setsL l).length := by
  have h := congrArg setsL (List.take_append_drop i l)
  rw [setsL_app] at h
  have := congrArg List.length h
  rw [List.length_append] at this
  omega
theorem glN_eq (n : Nd) (a : Nat) : glN n a = if n.kind = 1 then ⟨false, oneF a, oneF a, noF2⟩ else if n.kind = 2 then catG n.kids a emptyG else if n.kind = 3 then altG n.kids a failG else if n.kind = 4 then loopG true (oneG n.kids a) else if n.kind = 5 then loopG false (oneG n.kids a) else if n.kind = 6 then maybeG (oneG n.kids a) else emptyG := by
  cases n with
  | mk k s l => rw [glN]; rfl
theorem setsN_kids (n : Nd) (h : ¬ n.kind = 1) : setsN n = setsL n.kids := by rw [setsN_eq, if_neg h]

/-- A part's box. -/
abbrev boxP (w : World) (b : Nat) (a f l : Value) : Prop := box3 128 w b a f l
/-- X: what was there ahead in which nothing of the rule lies; c: a part's box, stored into. -/
structure LayF (X : Nat → Prop) (w0 w : World) (R : Nat) (sv0 sv bv lv : Value) (S : List St4) (m : Nat) (E : Nat → Nat → Bool) (b : Nat) (n : Nd) (u : Value) : Prop where
  r : RulW (fun k => X k ∨ b ≤ k ∧ k < b + 3) w R sv bv lv S m E
  x : boxN 90 w b n.kind n.set u
  p : boxP w (b + 1) (.bool false) (.slice none 0 0) (.slice none 0 0)
  nv : blkM w (b + 2) (noneB m)
  pos : 0 < m
  ks : KidsW (fun k => k < b ∧ ¬ OwnR R sv bv k) w n.kids u
  g : Gone (OwnR R sv0 bv) (OwnR R sv bv) w0 w
  at_ : b = w0.heap.size
  nb : ∀ k, b ≤ k → k < b + 3 → ¬ OwnR R sv bv k
section
variable {X : Nat → Prop} {w0 w w' : World} {R m b c : Nat} {sv0 sv bv lv sv' u a f l : Value} {S S' : List St4} {E E' : Nat → Nat → Bool} {n : Nd}
/-- A box that is not own. -/
theorem box3.go {T : TypeId} {own own' : Nat → Prop} (h : box3 T w c a f l) (ho : ¬ own c) (hg : Gone own own' w w') : box3 T w' c a f l ∧ ¬ own' c := ⟨h.keep hg.keep ho, hg.still h.lt ho⟩
theorem KidsW.goN {N : Nat} {own own' : Nat → Prop} {ks : List Nd} (h : KidsW (fun k => k < N ∧ ¬ own k) w ks u) (hN : N ≤ w.heap.size) (hg : Gone own own' w w') : KidsW (fun k => k < N ∧ ¬ own' k) w' ks u := by
  have h1 := KidsW.keep (ok' := fun k => k < N ∧ ¬ own k) h (hg.keep.mono fun _ _ ho => ho.2) fun _ _ hp => hp
  exact h1.mono fun k _ hp => ⟨hp.1, hg.still (by omega) hp.2⟩
theorem LayF.sz (h : LayF X w0 w R sv0 sv bv lv S m E b n u) : b + 3 ≤ w.heap.size := h.nv.lt
theorem LayF.go (h : LayF X w0 w R sv0 sv bv lv S m E b n u) (hr : RulW (fun k => X k ∨ b ≤ k ∧ k < b + 3) w' R sv' bv lv S' m E') (hg : Gone (OwnR R sv bv) (OwnR R sv' bv) w w') : LayF X w0 w' R sv0 sv' bv lv S' m E' b n u :=
  ⟨hr, h.x.keep hg.keep (h.nb b (Nat.le_refl _) (by omega)), (h.p.go (h.nb (b + 1) (by omega) (by omega)) hg).1, h.nv.keep hg.keep (h.nb (b + 2) (by omega) (by omega)), h.pos, h.ks.goN (by have := h.sz; omega) hg, h.g.trans hg, h.at_, fun k h1 h2 => hg.still (by have := h.sz; omega) (h.nb k h1 h2)⟩
theorem LayF.under (h : LayF X w0 w R sv0 sv bv lv S m E b n u) (hb : Below w.heap.size w w') : LayF X w0 w' R sv0 sv bv lv S m E b n u := h.go (h.r.under hb) (Gone.of_below hb)
theorem LayF.start (h : RulW X w0 R sv bv lv S m E) (hu : KidsW (fun k => ¬ OwnR R sv bv k) w0 n.kids u) (hm : 0 < m) :
    LayF X w0 (((w0.alloc (.cells #[.int .i64 n.kind, .int .u64 (n.set.1 : Int), .int .u64 (n.set.2.1 : Int), .int .u64 (n.set.2.2.1 : Int), .int .u64 (n.set.2.2.2 : Int), u] 90)).alloc (.cells #[.bool false, .slice none 0 0, .slice none 0 0] 128)).alloc (.cells (boolC (noneB m)).toArray 4)) R sv sv bv lv S m E w0.heap.size n u ∧
    w0.heap.size + 3 = (((w0.alloc (.cells #[.int .i64 n.kind, .int .u64 (n.set.1 : Int), .int .u64 (n.set.2.1 : Int), .int .u64 (n.set.2.2.1 : Int), .int .u64 (n.set.2.2.2 : Int), u] 90)).alloc (.cells #[.bool false, .slice none 0 0, .slice none 0 0] 128)).alloc (.cells (boolC (noneB m)).toArray 4)).heap.size := by
  have hb1 := alloc_under w0 (.cells #[.int .i64 n.kind, .int .u64 (n.set.1 : Int), .int .u64 (n.set.2.1 : Int), .int .u64 (n.set.2.2.1 : Int), .int .u64 (n.set.2.2.2 : Int), u] 90)
  have hx := boxN.new 90 w0 n.kind n.set u
  have hs1 := alloc_size w0 (.cells #[.int .i64 n.kind, .int .u64 (n.set.1 : Int), .int .u64 (n.set.2.1 : Int), .int .u64 (n.set.2.2.1 : Int), .int .u64 (n.set.2.2.2 : Int), u] 90)
  generalize w0.alloc (.cells #[.int .i64 n.kind, .int .u64 (n.set.1 : Int), .int .u64 (n.set.2.1 : Int), .int .u64 (n.set.2.2.1 : Int), .int .u64 (n.set.2.2.2 : Int), u] 90) = W1 at hb1 hx hs1 ⊢
  have hb2 := alloc_under W1 (.cells #[.bool false, .slice none 0 0, .slice none 0 0] 128)
  have hp := box3.new 128 W1 (.bool false) (.slice none 0 0) (.slice none 0 0)
  have hs2 := alloc_size W1 (.cells #[.bool false, .slice none 0 0, .slice none 0 0] 128)
  generalize W1.alloc (.cells #[.bool false, .slice none 0 0, .slice none 0 0] 128) = W2 at hb2 hp hs2 ⊢
  have hb3 := alloc_under W2 (.cells (boolC (noneB m)).toArray 4)
  have hs3 := alloc_size W2 (.cells (boolC (noneB m)).toArray 4)
  have hn := blkM_new W2 m
  have hbel : Below w0.heap.size w0 W2 := hb1.trans (hb2.mono hb1.size)
  have hbel3 := hbel.trans (hb3.mono hbel.size)
  have hno := h.ownlt
  refine ⟨⟨(h.mono (X' := fun k => X k ∨ w0.heap.size ≤ k ∧ k < w0.heap.size + 3) fun k hk e => e.elim id fun e => by omega).under hbel3, (hx.below hb2).below hb3, ?_, ?_, hm, ?_, Gone.of_below hbel3, rfl, fun k h1 _ => hno k h1⟩, by rw [hs3, hs2, hs1]⟩
  · rw [hs1] at hp
    exact hp.under hb3
  · rw [hs2, hs1] at hn
    exact hn
  · exact (KidsW.mono hu (ok' := fun k => k < w0.heap.size ∧ ¬ OwnR R sv bv k) fun k hk hp => ⟨hk, hp⟩).goN (Nat.le_refl _) (Gone.of_below hbel3)
/-- Where the parts' rows lie. -/
def AccO (R : Nat) (sv bv : Value) (b : Nat) : Nat → Prop := fun k => OwnR R sv bv k ∨ k ≤ b + 1 ∨ k = b + 3
theorem LayF.nrow (h : LayF X w0 w R sv0 sv bv lv S m E b n u) : BolO (AccO R sv bv b) w (.slice (some ⟨b + 1 + 1, 0, none⟩) m m) m noF :=
  BolO.of_blk h.nv (noneB_len m) h.pos (fun e => by
    rcases e with e | e | e
    · exact h.nb (b + 2) (by omega) (by omega) e
    · omega
    · omega) fun i _ => noneB_get m i
theorem BolO.acc {g : Nat → Bool} (h : BolO (AccO R sv bv b) w a m g) (hg : Gone (OwnR R sv bv) (OwnR R sv' bv) w w') : BolO (AccO R sv' bv b) w' a m g := h.go (hg.wide _)
/-- One block more in which nothing of the rule lies. -/
theorem LayF.more (h : LayF X w0 w R sv0 sv bv lv S m E b n u) (hs : w.heap.size = b + 3) (hb : Below w.heap.size w w') : LayF (fun k => X k ∨ k = b + 3) w0 w' R sv0 sv bv lv S m E b n u :=
  have h1 := h.under hb
  ⟨(h.r.mono (X' := fun k => (X k ∨ k = b + 3) ∨ b ≤ k ∧ k < b + 3) fun k hk e => by
    rcases e with (e | e) | e
    · exact .inl e
    · omega
    · exact .inr e).under hb, h1.x, h1.p, h1.nv, h1.pos, h1.ks, h1.g, h1.at_, h1.nb⟩
theorem LayF.less (h : LayF (fun k => X k ∨ k = b + 3) w0 w R sv0 sv bv lv S m E b n u) : LayF X w0 w R sv0 sv bv lv S m E b n u :=
  ⟨h.r.mono fun _ _ e => e.imp .inl id, h.x, h.p, h.nv, h.pos, h.ks, h.g, h.at_, h.nb⟩
theorem LayF.newX (h : LayF X w0 w R sv0 sv bv lv S m E b n u) (hX : ∀ k, w0.heap.size ≤ k → ¬ X k) : ∀ k, w.heap.size ≤ k → ¬ (X k ∨ b ≤ k ∧ k < b + 3) := fun k hk e => by
  have := h.sz
  have := h.at_
  rcases e with e | e
  · exact hX k (by omega) e
  · omega
theorem LayF.newX3 (h : LayF (fun k => X k ∨ k = b + 3) w0 w R sv0 sv bv lv S m E b n u) (hX : ∀ k, w0.heap.size ≤ k → ¬ X k) (hc : b + 3 < w.heap.size) : ∀ k, w.heap.size ≤ k → ¬ ((X k ∨ k = b + 3) ∨ b ≤ k ∧ k < b + 3) := fun k hk e => by
  have := h.sz
  have := h.at_
  rcases e with (e | e) | e
  · exact hX k (by omega) e
  · omega
  · omega
/-- A store into the part's box. -/
theorem LayF.store {i : Nat} {y : Value} (h : LayF (fun k => X k ∨ k = b + 3) w0 w R sv0 sv bv lv S m E b n u) : LayF (fun k => X k ∨ k = b + 3) w0 (w.setCell ⟨b + 3, i, none⟩ y) R sv0 sv bv lv S m E b n u := by
  have hk : KeepW (fun k => k ≠ b + 3) w (w.setCell ⟨b + 3, i, none⟩ y) := keep_set (b + 3) i none y w fun h => h rfl
  have h2 := h.at_
  exact ⟨h.r.aside (.inl (.inr rfl)), h.x.keep hk (by omega), h.p.keep hk (by omega), h.nv.keep hk (by omega), h.pos, KidsW.keep (ok' := fun k => k < b ∧ ¬ OwnR R sv bv k) h.ks (hk.mono fun k _ hp e => by omega) fun _ _ hp => hp,
    ⟨⟨h.g.keep.os, h.g.keep.tape, h.g.keep.output, Nat.le_trans h.g.keep.size hk.size, fun k hk1 hk2 => (hk.same k (by have := h.g.keep.size; omega) (by omega)).trans (h.g.keep.same k hk1 hk2)⟩, h.g.new⟩, h.at_, h.nb⟩
theorem BolO.store {i : Nat} {y : Value} {g : Nat → Bool} (h : BolO (AccO R sv bv b) w a m g) : BolO (AccO R sv bv b) (w.setCell ⟨b + 3, i, none⟩ y) a m g :=
  h.go ⟨(keep_set (ok := fun k => k ≠ b + 3) (b + 3) i none y w fun h => h rfl).mono fun _ _ ho e => ho (.inr (.inr e)), fun _ e => .inl e⟩
/-- The end: three stores into the result's box. -/
def setP (w : World) (c : Nat) (x f l : Value) : World := ((w.setCell ⟨c, 0, none⟩ x).setCell ⟨c, 1, none⟩ f).setCell ⟨c, 2, none⟩ l
theorem box3.setP {x y z : Value} (h : boxP w c a f l) : boxP (setP w c x y z) c x y z := ((h.set0 x).set1 y).set2 z
theorem keep_setP (w : World) (c : Nat) (x y z : Value) : KeepW (fun k => k ≠ c) w (setP w c x y z) :=
  ((keep_set c 0 none x w fun h => h rfl).trans (keep_set c 1 none y _ fun h => h rfl)).trans (keep_set c 2 none z _ fun h => h rfl)
def Acc1 (R : Nat) (sv bv : Value) (b : Nat) : Nat → Prop := fun k => OwnR R sv bv k ∨ k ≤ b + 1
theorem BolO.acc1 {g : Nat → Bool} (h : BolO (AccO R sv bv b) w a m g) : BolO (Acc1 R sv bv b) w a m g := h.mono fun _ _ e => e.imp id .inl
theorem BolO.go1 {g : Nat → Bool} (h : BolO (Acc1 R sv bv b) w a m g) (hg : Gone (OwnR R sv bv) (OwnR R sv' bv) w w') : BolO (Acc1 R sv' bv b) w' a m g := h.go (hg.wide _)
theorem LayF.fin {fV lV : Value} {gf gl : Nat → Bool} {z : Bool} (h : LayF X w0 w R sv0 sv bv lv S m E b n u) (hf : BolO (Acc1 R sv bv b) w fV m gf) (hl : BolO (Acc1 R sv bv b) w lV m gl) :
    boxP (setP w (b + 1) (.bool z) fV lV) (b + 1) (.bool z) fV lV ∧ RulW X (setP w (b + 1) (.bool z) fV lV) R sv bv lv S m E ∧ Gone (OwnR R sv0 bv) (OwnR R sv bv) w0 (setP w (b + 1) (.bool z) fV lV) ∧
    BolO (fun k => OwnR R sv bv k ∨ k < w0.heap.size) (setP w (b + 1) (.bool z) fV lV) fV m gf ∧ BolO (fun k => OwnR R sv bv k ∨ k < w0.heap.size) (setP w (b + 1) (.bool z) fV lV) lV m gl := by
  have hk := keep_setP w (b + 1) (.bool z) fV lV
  have h2 := h.at_
  have hg : Gone (Acc1 R sv bv b) (Acc1 R sv bv b) w (setP w (b + 1) (.bool z) fV lV) := ⟨hk.mono fun k _ ho e => ho (.inr (by omega)), fun _ e => .inl e⟩
  have hrow : ∀ {y : Value} {g : Nat → Bool}, BolO (Acc1 R sv bv b) w y m g → BolO (fun k => OwnR R sv bv k ∨ k < w0.heap.size) (setP w (b + 1) (.bool z) fV lV) y m g := fun hy => (hy.go hg).mono fun k _ e => e.imp id fun e => by omega
  refine ⟨h.p.setP, ?_, ⟨⟨hk.os.trans h.g.keep.os, hk.tape.trans h.g.keep.tape, hk.output.trans h.g.keep.output, Nat.le_trans h.g.keep.size hk.size, fun k hk1 hk2 => (hk.same k (by have := h.g.keep.size; omega) (by omega)).trans (h.g.keep.same k hk1 hk2)⟩, h.g.new⟩, hrow hf, hrow hl⟩
  exact (((h.r.aside (c := b + 1) (i := 0) (y := .bool z) (.inr (by omega))).aside (c := b + 1) (i := 1) (y := fV) (.inr (by omega))).aside (c := b + 1) (i := 2) (y := lV) (.inr (by omega))).mono fun k _ e => .inl e
/-- A kid: where it stands. -/
theorem LayF.kid {i : Nat} {k : Nd} (h : LayF X w0 w R sv0 sv bv lv S m E b n u) (hi : n.kids[i]? = some k) :
    ∃ g o cap ku kl kc, u = .slice (some ⟨g, o, none⟩) n.kids.length cap ∧ n.kids.length ≤ cap ∧ ku = .slice kl k.kids.length kc ∧ NodeW (fun k => ¬ OwnR R sv bv k) w k (nodeV k ku) ∧ ∀ (j : Nat) x, j < 6 → (nodeC k ku)[j]? = some x → w.cell? ⟨g, o + (i * 6 + j), none⟩ = some x := by
  obtain ⟨g, o, cap, ku, hv, hn, hs, hk, hc⟩ := h.ks.at_ hi
  obtain ⟨kl, kc, hku, _⟩ := hk.form
  exact ⟨g, o, cap, ku, kl, kc, hv, hn, hku, ⟨hs, ku, rfl, hk.mono fun k _ hp => hp.2⟩, hc⟩
theorem LayF.moreC (h : LayF X w0 w R sv0 sv bv lv S m E b n u) (hb : Below w.heap.size w w') : LayF (fun k => X k ∨ k = w.heap.size) w0 w' R sv0 sv bv lv S m E b n u :=
  have h1 := h.under hb
  ⟨(h.r.mono (X' := fun k => (X k ∨ k = w.heap.size) ∨ b ≤ k ∧ k < b + 3) fun k hk e => by
    rcases e with (e | e) | e
    · exact .inl e
    · omega
    · exact .inr e).under hb, h1.x, h1.p, h1.nv, h1.pos, h1.ks, h1.g, h1.at_, h1.nb⟩
theorem LayF.lessC (h : LayF (fun k => X k ∨ k = c) w0 w R sv0 sv bv lv S m E b n u) : LayF X w0 w R sv0 sv bv lv S m E b n u :=
  ⟨h.r.mono fun _ _ e => e.imp .inl id, h.x, h.p, h.nv, h.pos, h.ks, h.g, h.at_, h.nb⟩
theorem LayF.storeC {i : Nat} {y : Value} (h : LayF (fun k => X k ∨ k = c) w0 w R sv0 sv bv lv S m E b n u) (hc : b + 3 ≤ c) : LayF (fun k => X k ∨ k = c) w0 (w.setCell ⟨c, i, none⟩ y) R sv0 sv bv lv S m E b n u := by
  have hk : KeepW (fun k => k ≠ c) w (w.setCell ⟨c, i, none⟩ y) := keep_set c i none y w fun h => h rfl
  have h2 := h.at_
  exact ⟨h.r.aside (.inl (.inr rfl)), h.x.keep hk (by omega), h.p.keep hk (by omega), h.nv.keep hk (by omega), h.pos, KidsW.keep (ok' := fun k => k < b ∧ ¬ OwnR R sv bv k) h.ks (hk.mono fun k _ hp e => by omega) fun _ _ hp => hp,
    ⟨⟨h.g.keep.os, h.g.keep.tape, h.g.keep.output, Nat.le_trans h.g.keep.size hk.size, fun k hk1 hk2 => (hk.same k (by have := h.g.keep.size; omega) (by omega)).trans (h.g.keep.same k hk1 hk2)⟩, h.g.new⟩, h.at_, h.nb⟩
end
/-- What lay comes to. -/
def LayP (X : Nat → Prop) (R : Nat) (sv bv lv : Value) (S : List St4) (m : Nat) (E : Nat → Nat → Bool) (n : Nd) (w w' : World) (e : Ending) : Prop :=
  ∃ sv' fV lV, e = .returned (.agg #[.bool (glN n S.length).null, fV, lV]) ∧ RulW X w' R sv' bv lv (S ++ setsN n) m (orF2 E (glN n S.length).fol) ∧ Gone (OwnR R sv bv) (OwnR R sv' bv) w w' ∧
    BolO (fun k => OwnR R sv' bv k ∨ k < w.heap.size) w' fV m (glN n S.length).first ∧ BolO (fun k => OwnR R sv' bv k ∨ k < w.heap.size) w' lV m (glN n S.length).last
theorem layP_mk {X : Nat → Prop} {R m : Nat} {sv sv' bv lv fV lV : Value} {S S' : List St4} {E : Nat → Nat → Bool} {n : Nd} {w w' : World} {g : Gl} (hg : glN n S.length = g) (hS : S ++ setsN n = S') (hR : RulW X w' R sv' bv lv S' m (orF2 E g.fol)) (hG : Gone (OwnR R sv bv) (OwnR R sv' bv) w w')
    (hf : BolO (fun k => OwnR R sv' bv k ∨ k < w.heap.size) w' fV m g.first) (hl : BolO (fun k => OwnR R sv' bv k ∨ k < w.heap.size) w' lV m g.last) : LayP X R sv bv lv S m E n w w' (.returned (.agg #[.bool g.null, fV, lV])) := by
  subst hg hS
  exact ⟨_, _, _, rfl, hR, hG, hf, hl⟩
def LayW (n : Nd) : Prop := ∀ (X : Nat → Prop) (w : World) (R : Nat) (sv bv lv : Value) (S : List St4) (m : Nat) (E : Nat → Nat → Bool) (x : Value), RulW X w R sv bv lv S m E → (∀ k, w.heap.size ≤ k → ¬ X k) → NodeW (fun k => ¬ OwnR R sv bv k) w n x → 0 < S.length ∧ S.length + (setsN n).length ≤ m → m ≤ 100000 →
  Calls Tryd.prog 59 #[.pointer (some ⟨R, 0, none⟩), x, .int .i64 (m : Int)] w fun e w' => LayP X R sv bv lv S m E n w w' e
end Go.Proofs.YtkopbngnhgdfhaaDoor

/-
  What lies in memory while limnerref11.lay goes over kids: the part so far, and a kid's. No call is walked here.
-/
namespace Go.Proofs.YtkopbngnhgdfhaaDoor
open Go.RowKit

/-- The part so far, in its box. -/
structure PaI (X : Nat → Prop) (w0 w : World) (R : Nat) (sv0 sv bv lv : Value) (S : List St4) (m : Nat) (E : Nat → Nat → Bool) (b : Nat) (n : Nd) (u : Value) (z : Bool) (fV lV : Value) (gf gl : Nat → Bool) : Prop where
  l : LayF (fun k => X k ∨ k = b + 3) w0 w R sv0 sv bv lv S m E b n u
  bx : boxP w (b + 3) (.bool z) fV lV
  f : BolO (AccO R sv bv b) w fV m gf
  la : BolO (AccO R sv bv b) w lV m gl
  no : ¬ OwnR R sv bv (b + 3)
/-- A kid's part, in its box. -/
structure KiI (w : World) (R : Nat) (sv bv : Value) (b m c : Nat) (z : Bool) (fV lV : Value) (gf gl : Nat → Bool) : Prop where
  bx : boxP w c (.bool z) fV lV
  f : BolO (AccO R sv bv b) w fV m gf
  la : BolO (AccO R sv bv b) w lV m gl
  no : ¬ OwnR R sv bv c
  ne : b + 3 < c
section
variable {X : Nat → Prop} {w0 w w' : World} {R m b c : Nat} {sv0 sv sv' bv lv u fV lV kf kl : Value} {S S' : List St4} {E E' : Nat → Nat → Bool} {n : Nd} {z kz : Bool} {gf gl qf ql : Nat → Bool}
theorem PaI.go (h : PaI X w0 w R sv0 sv bv lv S m E b n u z fV lV gf gl) (hr : RulW (fun k => (X k ∨ k = b + 3) ∨ b ≤ k ∧ k < b + 3) w' R sv' bv lv S' m E') (hg : Gone (OwnR R sv bv) (OwnR R sv' bv) w w') : PaI X w0 w' R sv0 sv' bv lv S' m E' b n u z fV lV gf gl :=
  ⟨h.l.go hr hg, (h.bx.go h.no hg).1, h.f.acc hg, h.la.acc hg, (h.bx.go h.no hg).2⟩
theorem PaI.under (h : PaI X w0 w R sv0 sv bv lv S m E b n u z fV lV gf gl) (hb : Below w.heap.size w w') : PaI X w0 w' R sv0 sv bv lv S m E b n u z fV lV gf gl := h.go (h.l.r.under hb) (Gone.of_below hb)
theorem PaI.congr (h : PaI X w0 w R sv0 sv bv lv S m E b n u z fV lV gf gl) (he : ∀ i j, E i j = E' i j) : PaI X w0 w R sv0 sv bv lv S m E' b n u z fV lV gf gl := by
  have : E = E' := funext fun i => funext fun j => he i j
  rw [← this]; exact h
theorem PaI.new3 (h : PaI X w0 w R sv0 sv bv lv S m E b n u z fV lV gf gl) (hX : ∀ k, w0.heap.size ≤ k → ¬ X k) : ∀ k, w.heap.size ≤ k → ¬ ((X k ∨ k = b + 3) ∨ b ≤ k ∧ k < b + 3) := h.l.newX3 hX h.bx.lt
theorem PaI.newA (h : PaI X w0 w R sv0 sv bv lv S m E b n u z fV lV gf gl) : ∀ k, w.heap.size ≤ k → ¬ AccO R sv bv b k := fun k hk e => by
  have := h.bx.lt
  rcases e with e | e | e
  · exact h.l.r.ownlt k hk e
  · omega
  · omega
theorem PaI.set0 (h : PaI X w0 w R sv0 sv bv lv S m E b n u z fV lV gf gl) (y : Bool) : PaI X w0 (w.setCell ⟨b + 3, 0, none⟩ (.bool y)) R sv0 sv bv lv S m E b n u y fV lV gf gl :=
  ⟨h.l.store, h.bx.set0 _, h.f.store, h.la.store, h.no⟩
theorem PaI.set1 (h : PaI X w0 w R sv0 sv bv lv S m E b n u z fV lV gf gl) (hf : BolO (AccO R sv bv b) w kf m qf) : PaI X w0 (w.setCell ⟨b + 3, 1, none⟩ kf) R sv0 sv bv lv S m E b n u z kf lV qf gl :=
  ⟨h.l.store, h.bx.set1 _, hf.store, h.la.store, h.no⟩
theorem PaI.set2 (h : PaI X w0 w R sv0 sv bv lv S m E b n u z fV lV gf gl) (hl : BolO (AccO R sv bv b) w kl m ql) : PaI X w0 (w.setCell ⟨b + 3, 2, none⟩ kl) R sv0 sv bv lv S m E b n u z fV kl gf ql :=
  ⟨h.l.store, h.bx.set2 _, h.f.store, hl.store, h.no⟩
theorem KiI.go (h : KiI w R sv bv b m c z fV lV gf gl) (hg : Gone (OwnR R sv bv) (OwnR R sv' bv) w w') : KiI w' R sv' bv b m c z fV lV gf gl :=
  ⟨(h.bx.go h.no hg).1, h.f.acc hg, h.la.acc hg, (h.bx.go h.no hg).2, h.ne⟩
theorem KiI.under (h : KiI w R sv bv b m c z fV lV gf gl) (hb : Below w.heap.size w w') : KiI w' R sv bv b m c z fV lV gf gl := h.go (Gone.of_below hb)
theorem KiI.store {i : Nat} {y : Value} (h : KiI w R sv bv b m c z fV lV gf gl) : KiI (w.setCell ⟨b + 3, i, none⟩ y) R sv bv b m c z fV lV gf gl :=
  ⟨h.bx.keep (ok := fun k => k ≠ b + 3) (keep_set (b + 3) i none y w fun h => h rfl) (by have := h.ne; omega), h.f.store, h.la.store, h.no, h.ne⟩
/-- A kid's answer, as its box is laid. -/
theorem KiI.new (hw : PaI X w0 w R sv0 sv bv lv S m E b n u z fV lV gf gl) (hf : BolO (AccO R sv bv b) w kf m qf) (hl : BolO (AccO R sv bv b) w kl m ql) : KiI (w.alloc (.cells #[.bool kz, kf, kl] 128)) R sv bv b m w.heap.size kz kf kl qf ql :=
  have hb := alloc_under w (.cells #[.bool kz, kf, kl] 128)
  ⟨box3.new _ _ _ _ _, hf.under hb, hl.under hb, hw.l.r.ownlt _ (Nat.le_refl _), hw.bx.lt⟩
/-- What lay leaves of a kid, as the rows of a part. -/
theorem rows_of (hw : PaI X w0 w R sv0 sv bv lv S m E b n u z fV lV gf gl) (hf : BolO (fun k => OwnR R sv' bv k ∨ k < w.heap.size) w' kf m qf) : BolO (AccO R sv' bv b) w' kf m qf := by
  have := hw.bx.lt
  exact hf.mono fun k _ e => e.imp id fun e => by omega
theorem bol_form {own : Nat → Prop} {v : Value} {g : Nat → Bool} (h : BolO own w v m g) : ∃ ao cap, v = .slice ao m cap := by
  obtain ⟨_, gg, cc, hh, _⟩ := h
  exact ⟨_, _, hh⟩
theorem PaI.cells (h : PaI X w0 w R sv0 sv bv lv S m E b n u z fV lV gf gl) : ((w.cell? ⟨b + 3, 0, none⟩ = some (.bool z) ∧ w.cell? ⟨b + 3, 1, none⟩ = some fV ∧ w.cell? ⟨b + 3, 2, none⟩ = some lV) ∧ w.frozen? ⟨b + 3, 0, none⟩ = false ∧ w.frozen? ⟨b + 3, 1, none⟩ = false ∧ w.frozen? ⟨b + 3, 2, none⟩ = false) ∧ b + 3 < w.heap.size := ⟨h.bx.cells, h.bx.lt⟩
theorem KiI.cells (h : KiI w R sv bv b m c z fV lV gf gl) : (w.cell? ⟨c, 0, none⟩ = some (.bool z) ∧ w.cell? ⟨c, 1, none⟩ = some fV ∧ w.cell? ⟨c, 2, none⟩ = some lV) ∧ c < w.heap.size := ⟨h.bx.cells.1, h.bx.lt⟩
/-- or of two rows of parts. -/
theorem por_any (h : PaI X w0 w R sv0 sv bv lv S m E b n u z fV lV gf gl) {p q : Nat → Bool} {pv qv : Value} (hp : BolO (AccO R sv bv b) w pv m p) (hq : BolO (AccO R sv bv b) w qv m q) (hm : m ≤ 100000) :
    Calls Tryd.prog 60 #[pv, qv] w fun e w' => ∃ G, e = .returned (.slice (some ⟨G, 0, none⟩) m m) ∧ BolO (AccO R sv bv b) w' (.slice (some ⟨G, 0, none⟩) m m) m (orF p q) ∧ Below w.heap.size w w' :=
  (ror_any hp hq hm h.newA).mono fun _ _ ⟨G, h1, _, h2, h3⟩ => ⟨G, h1, h2, h3⟩
end
end Go.Proofs.YtkopbngnhgdfhaaDoor
