/-
  Texts of this proof, one behind the other; each begins with its own remark.
-/
import Derived.Deep.RegionLaw
import Derived.Deep.Cut
import Derived.Test.YtjeomlickkpebaaGreatDoorBe13
import Derived.Test.YtjeomlickkpebaaGreatDoorBe11
import Derived.Test.YtjeomlickkpebaaGreatDoorBe8
/-
  nfas.NFA: add, fork: what each returns, and leaves.
-/
namespace Go.Proofs.YtjeomlickkpebaaGreatDoor
open Go.RowKit

/-- append, in a region that draws its order, by what it comes to. -/
theorem napp_step {w w' : World} {v u v' : Value} {ops : Array Oper} {o : Oper} {a : Act} {K : Act → World → Prop} {Q : Exit → Act → World → Prop} {E : Prop} (hgd : o.guard = none) (s x : Operand) (t : TypeId)
    (ho : o.op = .call { callee := .builtin .append, args := #[s, x], argTypes := #[t, t] })
    (hs : a.eval s = v) (hx : a.eval x = u) (hr : (Builtin.append_ #[t, t] o.type #[v, u]).run Tryz.prog w = .ok v' w') (h : K (a.put o.dst v') w') :
    if Region.wanted o (yielded ops a.tmps) = true then Oper.wp Tryz.prog o a w K Q else E := by
  have hw : Region.wanted o (yielded ops a.tmps) = true := by simp [Region.wanted, hgd]
  rw [if_pos hw]
  unfold Oper.wp execOp
  simp only [ho, resolve, invoke, builtin, Sem.run_bind, Sem.run_pure, Result.andThen_ok, List.map_toArray, List.map_cons, List.map_nil, hs, hx, hr]
  exact h
def staV (s : Sta) : Value := .agg #[.int .i64 (s.kind : Int), .int .u64 (s.set.1 : Int), .int .u64 (s.set.2.1 : Int), .int .u64 (s.set.2.2.1 : Int), .int .u64 (s.set.2.2.2 : Int), .int .i64 (s.next : Int), .int .i64 (s.also : Int), .int .i64 (s.rule : Int)]
/-- An NFA that is built, with where its rows lie. -/
structure NfaC (P : Nat → Prop) (w : World) (B : Nat) (q : List Sta) (first : List Int) (sv fv : Value) : Prop where
  b : boxF w B sv fv
  s : OwnS w sv q
  f : OwnI 0 w fv first
  nb : ¬ P B
  ns : ∀ k, sv.ownBlock = some k → ¬ P k ∧ k ≠ B ∧ fv.ownBlock ≠ some k
  nf : ∀ k, fv.ownBlock = some k → ¬ P k ∧ k ≠ B
section
variable {P : Nat → Prop} {w w' : World} {B : Nat} {q : List Sta} {first : List Int} {sv fv : Value}
/-- The same, wherever the states lie. -/
def NfaE (P : Nat → Prop) (w : World) (B : Nat) (q : List Sta) (first : List Int) (fv : Value) : Prop := ∃ sv, NfaC P w B q first sv fv
theorem NfaE.asB (h : NfaE P w B q first fv) : NfaB P w B q first := by
  obtain ⟨sv, h⟩ := h
  exact ⟨sv, fv, h.b, h.s, h.f, h.nb, h.ns, h.nf⟩
theorem NfaE.lt (h : NfaE P w B q first fv) : B < w.heap.size := by
  obtain ⟨sv, h⟩ := h
  exact h.b.lt
theorem NfaE.mono {P' : Nat → Prop} (h : NfaE P w B q first fv) (hm : ∀ k, P' k → P k) : NfaE P' w B q first fv := by
  obtain ⟨sv, h⟩ := h
  exact ⟨sv, h.b, h.s, h.f, fun x => h.nb (hm _ x), fun k e => ⟨fun x => (h.ns k e).1 (hm _ x), (h.ns k e).2⟩, fun k e => ⟨fun x => (h.nf k e).1 (hm _ x), (h.nf k e).2⟩⟩
theorem NfaC.under (h : NfaC P w B q first sv fv) (hb : Below w.heap.size w w') : NfaC P w' B q first sv fv :=
  ⟨h.b.keep (keep_below (fun _ => True) hb) trivial, ownRow_keep h.s (keep_below (fun _ => True) hb) fun _ _ => trivial, h.f.below hb, h.nb, h.ns, h.nf⟩
theorem NfaE.under (h : NfaE P w B q first fv) (hb : Below w.heap.size w w') : NfaE P w' B q first fv := by
  obtain ⟨sv, h⟩ := h
  exact ⟨sv, h.under hb⟩
/-- A block more is to stay: one that is made behind. -/
theorem NfaE.also (h : NfaE P w B q first fv) (hb : Below w.heap.size w w') : NfaE (fun k => P k ∨ k = w.heap.size) w' B q first fv := by
  obtain ⟨sv, h⟩ := h
  have hlt := h.b.lt
  have l2 := World.ownsRow.lt h.s
  have l3 := World.ownsRow.lt h.f
  have h' := h.under hb
  refine ⟨sv, h'.b, h'.s, h'.f, fun x => x.elim h.nb fun e => by omega, fun k e => ⟨fun x => x.elim (h.ns k e).1 fun e2 => ?_, (h.ns k e).2⟩, fun k e => ⟨fun x => x.elim (h.nf k e).1 fun e2 => ?_, (h.nf k e).2⟩⟩
  · have := l2 k e; omega
  · have := l3 k e; omega
theorem ownS_form {w : World} {v : Value} {q : List Sta} (h : OwnS w v q) : ∃ ao cap, v = .slice ao q.length cap ∧ q.length ≤ cap := by
  obtain ⟨ao, cap, hv, hn, _⟩ := ownZ h
  exact ⟨ao, cap, hv, hn⟩
/-- One state more: append, and the store into the box. -/
theorem NfaC.push {X : Nat} {s : Sta} (h : NfaC P w B q first sv fv) (hP : ∀ k, w.heap.size ≤ k → ¬ P k) (t ty : TypeId) (ht : Tryz.prog.underlying t = some (.slice 99)) (hX : ∀ (j : Nat) x, (staC s)[j]? = some x → w.cell? ⟨X, j, none⟩ = some x) (hs : q.length ≤ 100000) :
    ∃ ao cap w', (Builtin.append_ #[t, t] ty #[sv, .slice (some ⟨X, 0, none⟩) 1 1]).run Tryz.prog w = .ok (.slice ao (q.length + 1) cap) w' ∧ w'.cell? ⟨B, 0, none⟩ = some sv ∧ w'.frozen? ⟨B, 0, none⟩ = false ∧ B < w'.heap.size ∧
      (w'.setCell ⟨B, 0, none⟩ (.slice ao (q.length + 1) cap)).cell? ⟨B, 0, none⟩ = some (.slice ao (q.length + 1) cap) ∧ NfaE P (w'.setCell ⟨B, 0, none⟩ (.slice ao (q.length + 1) cap)) B (q ++ [s]) first fv ∧ KeepW P w (w'.setCell ⟨B, 0, none⟩ (.slice ao (q.length + 1) cap)) := by
  obtain ⟨v', w', hr, h1, h2, h3⟩ := run_snocS t ty ht h.s hX hs
  obtain ⟨ao, cap, hv, _⟩ := ownS_form h1
  rw [List.length_append] at hv
  have hv : v' = .slice ao (q.length + 1) cap := hv
  subst hv
  have hBl := h.b.lt
  have hno : sv.ownBlock ≠ some B := fun e => (h.ns B e).2.1 rfl
  have hb := h.b.keep h2 hno
  have hf : OwnI 0 w' fv first := ownRow_keep h.f h2 fun k e e2 => (h.ns k e2).2.2 e
  have hk : KeepW (fun k => k ≠ B) w' (w'.setCell ⟨B, 0, none⟩ (.slice ao (q.length + 1) cap)) := keep_set B 0 none _ w' fun h => h rfl
  have hnew : ∀ k, (Value.slice ao (q.length + 1) cap).ownBlock = some k → ¬ P k ∧ k ≠ B ∧ fv.ownBlock ≠ some k := fun k e => by
    rcases h3 k e with e | e
    · exact h.ns k e
    · rw [e]
      refine ⟨hP _ (Nat.le_refl _), by omega, fun e2 => ?_⟩
      have := (World.ownsRow.lt h.f _ e2).2
      omega
  refine ⟨ao, cap, w', hr, hb.cells.1.1, hb.cells.2.1, hb.lt, (hb.set0 _).cells.1.1, ⟨_, hb.set0 _, ownRow_keep h1 hk fun k e => (hnew k e).2.1, ownRow_keep hf hk fun k e => (h.nf k e).2, h.nb, hnew, h.nf⟩, ?_⟩
  exact (h2.mono fun k _ hp e => (h.ns k e).1 hp).trans (hk.mono fun k _ hp e => h.nb (by rw [← e]; exact hp))
set_option maxRecDepth 4000 in
set_option maxHeartbeats 4000000 in
theorem nadd_any (h : NfaE P w B q first fv) (hP : ∀ k, w.heap.size ≤ k → ¬ P k) (s : Sta) (hlen : q.length ≤ 100000) :
    Calls Tryz.prog 52 #[.pointer (some ⟨B, 0, none⟩), staV s] w fun e w' => e = .returned (.int .i64 (q.length : Int)) ∧ NfaE P w' B (q ++ [s]) first fv ∧ KeepW P w w' := by
  have hlt := h.lt
  obtain ⟨sv, hc⟩ := h
  unfold staV
  obtain ⟨so, sc, hsv, _⟩ := ownS_form hc.s
  have hb1 := alloc_under w (.cells #[.int .i64 (s.kind : Int), .int .u64 (s.set.1 : Int), .int .u64 (s.set.2.1 : Int), .int .u64 (s.set.2.2.1 : Int), .int .u64 (s.set.2.2.2 : Int), .int .i64 (s.next : Int), .int .i64 (s.also : Int), .int .i64 (s.rule : Int)] 99)
  have HB := Lib.hid hb1
  have HC := Lib.hid (fun W (hb : Below w.heap.size w W) => (hc.under hb).b.cells)
  have HA := Lib.hid (fun W (X : Nat) ty (hb : Below w.heap.size w W) (hX : ∀ (j : Nat) x, (staC s)[j]? = some x → W.cell? ⟨X, j, none⟩ = some x) => (hc.under hb).push (fun k hk => hP k (Nat.le_trans hb.size hk)) 66 ty Tryz.underlying66 hX hlen)
  have HN := Lib.hid hlen
  have hnl : (q.length : Int) ≤ 100000 := by omega
  have hbox : ∀ W : World, ∀ (j : Nat) x, (staC s)[j]? = some x → (W.alloc (.cells (staC s).toArray 99)).cell? ⟨W.heap.size, j, none⟩ = some x := fun W j x hx => by
    rw [cell_of_row _ _ j _ _ (0, 0) (heap_alloc_new W _), List.getElem?_toArray]; exact hx
  have HX := Lib.hid hbox
  have HL := Lib.hid (fun W (hb : Below w.heap.size w W) => Nat.lt_of_lt_of_le hlt hb.size)
  subst hsv
  clear hc hP hlen hb1 hbox hlt
  go_enter Tryz.func52, Tryz.ntmps52
  go_upto_region 1 with (fail)
  obtain ⟨W1, hW1⟩ : ∃ W1, w.alloc (.cells #[.int .i64 (s.kind : Int), .int .u64 (s.set.1 : Int), .int .u64 (s.set.2.1 : Int), .int .u64 (s.set.2.2.1 : Int), .int .u64 (s.set.2.2.2 : Int), .int .i64 (s.next : Int), .int .i64 (s.also : Int), .int .i64 (s.rule : Int)] 99) = W1 := ⟨_, rfl⟩
  (try rw [hW1])
  have x0 := hW1 ▸ HX.out w
  rw [hW1] at HB
  have hXl : w.heap.size < W1.heap.size := by rw [← hW1]; rw [alloc_size]; omega
  obtain ⟨X, hXe⟩ : ∃ X, w.heap.size = X := ⟨_, rfl⟩
  (try rw [hXe])
  rw [hXe] at x0 hXl
  clear hW1
  obtain ⟨⟨b0, _⟩, g0, _⟩ := HC.out W1 HB.out
  have hBl := HL.out W1 HB.out
  have y0 := x0 0 _ rfl
  have y1 := x0 1 _ rfl
  have y2 := x0 2 _ rfl
  have y3 := x0 3 _ rfl
  have y4 := x0 4 _ rfl
  have y5 := x0 5 _ rfl
  have y6 := x0 6 _ rfl
  have y7 := x0 7 _ rfl
  have HAS := Lib.hid (fun (W : World) ty (hb : Below w.heap.size w W) => HA.out (W.alloc (.cells #[.int .i64 (s.kind : Int), .int .u64 (s.set.1 : Int), .int .u64 (s.set.2.1 : Int), .int .u64 (s.set.2.2.1 : Int), .int .u64 (s.set.2.2.2 : Int), .int .i64 (s.next : Int), .int .i64 (s.also : Int), .int .i64 (s.rule : Int)] 99)) W.heap.size ty (hb.alloc (Nat.le_trans (Nat.le_of_eq rfl) hb.size) _) (HX.out W))
  have kb := HB.out
  have kd := kb.drew
  have kb0 := Lib.hid (kb.alloc (by show w.heap.size ≤ W1.heap.size; omega) (.cells #[.int .i64 (s.kind : Int), .int .u64 (s.set.1 : Int), .int .u64 (s.set.2.1 : Int), .int .u64 (s.set.2.2.1 : Int), .int .u64 (s.set.2.2.2 : Int), .int .i64 (s.next : Int), .int .i64 (s.also : Int), .int .i64 (s.rule : Int)] 99))
  have kd0 := Lib.hid (kd.alloc (by show w.heap.size ≤ W1.heap.size; omega) (.cells #[.int .i64 (s.kind : Int), .int .u64 (s.set.1 : Int), .int .u64 (s.set.2.1 : Int), .int .u64 (s.set.2.2.1 : Int), .int .u64 (s.set.2.2.2 : Int), .int .i64 (s.next : Int), .int .i64 (s.also : Int), .int .i64 (s.rule : Int)] 99))
  have HE := Lib.hid (fun (W : World) (ao : Option Addr) (cp : Nat) (h1 : NfaE P (W.setCell ⟨B, 0, none⟩ (.slice ao (q.length + 1) cp)) B (q ++ [s]) first fv) (h2 : KeepW P w (W.setCell ⟨B, 0, none⟩ (.slice ao (q.length + 1) cp))) => And.intro h1 h2)
  clear x0
  go_region_law (first
    | (obtain ⟨ao, cp, w5, hr, d0, f0, hl5, d1, hN5, hk5⟩ := HAS.out _ 66 kb; (refine napp_step (by rfl) (.tmp 9) (.tmp 11) 66 (by rfl) (by rfl) (by rfl) hr ?_))
    | (obtain ⟨ao, cp, w5, hr, d0, f0, hl5, d1, hN5, hk5⟩ := HAS.out _ 66 kd; (refine napp_step (by rfl) (.tmp 9) (.tmp 11) 66 (by rfl) (by rfl) (by rfl) hr ?_)))
  all_goals
    obtain ⟨hE1, hE2⟩ := HE.out w5 ao cp hN5 (by first | exact (keep_below _ kb0.out).trans hk5 | exact (keep_below _ kd0.out).trans hk5)
    have HE3 := Lib.hid (And.intro hE1 hE2)
    clear HE hE1 hE2 hN5 hk5 HA HAS HC HX HL
    go_wp2_with fail
    go_ret
  all_goals exact ⟨rfl, HE3.out⟩
theorem nfork_any (h : NfaE P w B q first fv) (hP : ∀ k, w.heap.size ≤ k → ¬ P k) (a b : Nat) (hlen : q.length ≤ 100000) :
    Calls Tryz.prog 70 #[.pointer (some ⟨B, 0, none⟩), .int .i64 (a : Int), .int .i64 (b : Int)] w fun e w' => e = .returned (.int .i64 (q.length : Int)) ∧ NfaE P w' B (q ++ [forkS a b]) first fv ∧ KeepW P w w' := by
  have H := Lib.hid (show Calls Tryz.prog 52 #[.pointer (some ⟨B, 0, none⟩), .agg #[.int .i64 1, .int .u64 0, .int .u64 0, .int .u64 0, .int .u64 0, .int .i64 (a : Int), .int .i64 (b : Int), .int .i64 0]] w fun e w' => e = .returned (.int .i64 (q.length : Int)) ∧ NfaE P w' B (q ++ [forkS a b]) first fv ∧ KeepW P w w' from nadd_any h hP (forkS a b) hlen)
  clear h hP hlen
  go_enter Tryz.func70, Tryz.ntmps70
  go_wp2_with fail
  go_fit H.out
  rintro e w2 ⟨rfl, h1, h2⟩
  have HX := Lib.hid (And.intro h1 h2)
  clear h1 h2
  go_wp2_with fail
  go_ret
  exact ⟨rfl, HX.out⟩
end
end Go.Proofs.YtjeomlickkpebaaGreatDoor

/-
  What lies in memory while nfas.NFA.build works; nfas.NFA.loop, out of build. No loop is walked here.
-/
namespace Go.Proofs.YtjeomlickkpebaaGreatDoor
open Go.RowKit

structure BuF (P : Nat → Prop) (w0 w : World) (B b : Nat) (n : Nd) (u : Value) (q : List Sta) (first : List Int) (fv : Value) : Prop where
  e : NfaE (fun k => P k ∨ k = b) w B q first fv
  x : boxN 116 w b n.kind n.set u
  ks : KidsW P w n.kids u
  kp : KeepW P w0 w
  at_ : b = w0.heap.size
  new : ∀ k, w0.heap.size ≤ k → ¬ P k
section
variable {P : Nat → Prop} {w0 w w' : World} {B b : Nat} {n : Nd} {u : Value} {q q' : List Sta} {first : List Int} {fv : Value}
theorem BuF.start (h : NfaE P w0 B q first fv) (hP : ∀ k, w0.heap.size ≤ k → ¬ P k) (hu : KidsW P w0 n.kids u) :
    BuF P w0 (w0.alloc (.cells #[.int .i64 n.kind, .int .u64 (n.set.1 : Int), .int .u64 (n.set.2.1 : Int), .int .u64 (n.set.2.2.1 : Int), .int .u64 (n.set.2.2.2 : Int), u] 116)) B w0.heap.size n u q first fv :=
  have hb := alloc_under w0 (.cells #[.int .i64 n.kind, .int .u64 (n.set.1 : Int), .int .u64 (n.set.2.1 : Int), .int .u64 (n.set.2.2.1 : Int), .int .u64 (n.set.2.2.2 : Int), u] 116)
  ⟨h.also hb, boxN.new _ _ _ _ _, hu.under hb, keep_below _ hb, rfl, hP⟩
theorem BuF.newP (h : BuF P w0 w B b n u q first fv) : ∀ k, w.heap.size ≤ k → ¬ (P k ∨ k = b) := fun k hk hp => by
  have h1 := h.kp.size
  have h2 := h.x.lt
  rcases hp with hp | hp
  · exact h.new k (by omega) hp
  · omega
theorem BuF.go (h : BuF P w0 w B b n u q first fv) (he : NfaE (fun k => P k ∨ k = b) w' B q' first fv) (hk : KeepW (fun k => P k ∨ k = b) w w') : BuF P w0 w' B b n u q' first fv :=
  ⟨he, h.x.keep hk (.inr rfl), h.ks.keep hk fun _ _ hp => .inl hp, h.kp.trans (hk.mono fun _ _ hp => .inl hp), h.at_, h.new⟩
theorem BuF.under (h : BuF P w0 w B b n u q first fv) (hb : Below w.heap.size w w') : BuF P w0 w' B b n u q first fv := h.go (h.e.under hb) (keep_below _ hb)
theorem BuF.fin (h : BuF P w0 w B b n u q first fv) : NfaE P w B q first fv ∧ KeepW P w0 w := ⟨h.e.mono fun _ hp => .inl hp, h.kp⟩
theorem BuF.kid {i : Nat} {m : Nd} (h : BuF P w0 w B b n u q first fv) (hi : n.kids[i]? = some m) :
    ∃ g o cap ku kl kc, u = .slice (some ⟨g, o, none⟩) n.kids.length cap ∧ n.kids.length ≤ cap ∧ ku = .slice kl m.kids.length kc ∧ NodeW (fun k => P k ∨ k = b) w m (nodeV m ku) ∧ OkR m.set ∧ KidsW P w m.kids ku ∧ ∀ (j : Nat) x, j < 6 → (nodeC m ku)[j]? = some x → w.cell? ⟨g, o + (i * 6 + j), none⟩ = some x := by
  obtain ⟨g, o, cap, ku, hv, hn, hs, hk, hc⟩ := h.ks.at_ hi
  obtain ⟨kl, kc, hku, _⟩ := hk.form
  exact ⟨g, o, cap, ku, kl, kc, hv, hn, hku, ⟨hs, ku, rfl, hk.mono fun k _ hp => .inl hp⟩, hs, hk, hc⟩
/-- What build does with a node. -/
def BuildsW (n : Nd) : Prop := ∀ (P : Nat → Prop) (w : World) (B : Nat) (q : List Sta) (first : List Int) (fv : Value) (next : Nat) (x : Value), NfaE P w B q first fv → (∀ k, w.heap.size ≤ k → ¬ P k) → NodeW P w n x → q.length + 2 * wtR n ≤ 100000 →
  Calls Tryz.prog 53 #[.pointer (some ⟨B, 0, none⟩), x, .int .i64 (next : Int)] w fun e w' => e = .returned (.int .i64 ((buildT n q next).2 : Int)) ∧ NfaE P w' B (buildT n q next).1 first fv ∧ KeepW P w w'
/-- The store into the fork of a loop. -/
theorem NfaE.also6 {i v : Nat} (h : NfaE P w B q first fv) (hi : i < q.length) :
    ∃ g cap, w.cell? ⟨B, 0, none⟩ = some (.slice (some ⟨g, 0, none⟩) q.length cap) ∧ q.length ≤ cap ∧ (∃ y, w.cell? ⟨g, i * 8 + 6, none⟩ = some y) ∧ w.frozen? ⟨g, i * 8 + 6, none⟩ = false ∧ g < w.heap.size ∧ NfaE P (w.setCell ⟨g, i * 8 + 6, none⟩ (.int .i64 (v : Int))) B (alsoS q i v) first fv ∧ KeepW P w (w.setCell ⟨g, i * 8 + 6, none⟩ (.int .i64 (v : Int))) := by
  obtain ⟨sv, h⟩ := h
  have hs := h.s
  obtain ⟨h1, ⟨rfl, h0⟩ | ⟨g, cap, cur, rfl, h3, h4, hn, hm, hcs, hx⟩⟩ := hs
  · omega
  have hset := h.s.stored (i * 8 + 6) (.int .i64 (v : Int))
  have hgs := h.ns g rfl
  have hk : KeepW (fun k => k ≠ g) w (w.setCell ⟨g, i * 8 + 6, none⟩ (.int .i64 (v : Int))) := keep_set g _ none _ w fun h => h rfl
  refine ⟨g, cap, h.b.cells.1.1, hn, ⟨(stasC q)[i * 8 + 6]'(by rw [stasC_len]; omega), ?_⟩, h.s.frozenAt _, (World.ownsRow.lt h.s g rfl).2, ⟨_, ⟨h.b.keep hk fun e => hgs.2.1 e.symm, ?_, h.f.keep hk fun k e e2 => hgs.2.2 (by rw [← e2]; exact e), h.nb, h.ns, h.nf⟩⟩, hk.mono fun k _ hp e => hgs.1 (by rw [← e]; exact hp)⟩
  · rw [h.s.cellAt _ (by omega)]
    exact List.getElem?_eq_getElem _
  · unfold OwnS
    rw [also_len, stasC_also q i v hi]
    exact hset.1
set_option maxHeartbeats 2000000 in
theorem nloop_any (hB : BuildsW n) (h : NfaE P w B q first fv) (hP : ∀ k, w.heap.size ≤ k → ¬ P k) (next : Nat) (x : Value) (hx : NodeW P w n x) (hlen : q.length + 2 * wtR n + 1 ≤ 100000) :
    Calls Tryz.prog 71 #[.pointer (some ⟨B, 0, none⟩), x, .int .i64 (next : Int)] w fun e w' => e = .returned (.tuple #[.int .i64 (q.length : Int), .int .i64 ((buildT n (q ++ [forkS next next]) q.length).2 : Int)]) ∧ NfaE P w' B (alsoS (buildT n (q ++ [forkS next next]) q.length).1 q.length (buildT n (q ++ [forkS next next]) q.length).2) first fv ∧ KeepW P w w' := by
  obtain ⟨hs, u, rfl, hu⟩ := hx
  obtain ⟨uo, uc, rfl, hul, hub⟩ := hu.form
  have hlq : (q ++ [forkS next next]).length = q.length + 1 := by rw [List.length_append]; rfl
  have h0 := BuF.start h hP hu
  have H1 := Lib.hid (nfork_any h0.e h0.newP next next (by omega))
  have hge := (build_len n (q ++ [forkS next next]) q.length)
  have HS := Lib.hid (fun (W W' : World) (e : NfaE (fun k => P k ∨ k = w.heap.size) W B (q ++ [forkS next next]) first fv) (k : KeepW (fun k => P k ∨ k = w.heap.size) (w.alloc (.cells #[.int .i64 n.kind, .int .u64 (n.set.1 : Int), .int .u64 (n.set.2.1 : Int), .int .u64 (n.set.2.2.1 : Int), .int .u64 (n.set.2.2.2 : Int), .slice uo n.kids.length uc] 116)) W) => h0.go e k)
  have H2 := Lib.hid (fun (W : World) (hh : BuF P w W B w.heap.size n (.slice uo n.kids.length uc) (q ++ [forkS next next]) first fv) =>
    hB (fun k => P k ∨ k = w.heap.size) W B (q ++ [forkS next next]) first fv q.length (nodeV n (.slice uo n.kids.length uc)) hh.e hh.newP ⟨hs, _, rfl, hh.ks.mono fun k _ hp => .inl hp⟩ (by omega))
  have hlt : q.length < (buildT n (q ++ [forkS next next]) q.length).1.length := by
    have : (q ++ [forkS next next]).length ≤ (buildT n (q ++ [forkS next next]) q.length).1.length := build_ge n _ _
    omega
  unfold nodeV at H2 ⊢
  obtain ⟨⟨q2, a⟩, hq2⟩ : ∃ r, buildT n (q ++ [forkS next next]) q.length = r := ⟨_, rfl⟩
  rw [hq2] at H2 hlt ⊢
  simp only at H2 hlt ⊢
  obtain ⟨m, hm⟩ : ∃ m, q.length = m := ⟨_, rfl⟩
  have hml : (m : Int) ≤ 100000 := by omega
  have hm0 : (0 : Int) ≤ (m : Int) := by omega
  have HL := Lib.hid hlt
  rw [hm] at H1 H2 HL hlt ⊢
  have hlti : (m : Int) < (q2.length : Int) := by omega
  have hX := (boxN.new 116 w n.kind n.set (.slice uo n.kids.length uc))
  have HX := Lib.hid (fun (W : World) (hh : BuF P w W B w.heap.size n (.slice uo n.kids.length uc) (q ++ [forkS next next]) first fv) => hh.x.cells)
  have HXL := Lib.hid (fun (W : World) (hh : BuF P w W B w.heap.size n (.slice uo n.kids.length uc) (q ++ [forkS next next]) first fv) => hh.x.lt)
  clear h hP hB hu h0 hge hq2 hm hlq hX hs hlt
  go_enter Tryz.func71, Tryz.ntmps71
  go_wp2_with fail
  go_fit H1.out
  rintro e w1 ⟨rfl, he1, hk1⟩
  have H3 := Lib.hid (HS.out w1 w1 he1 hk1)
  clear he1 hk1 HS H1
  obtain ⟨⟨c0, c1, c2, c3, c4, c5⟩, _⟩ := HX.out _ H3.out
  have hxl := HXL.out _ H3.out
  go_wp2_with fail
  go_fit (H2.out _ H3.out)
  rintro e w2 ⟨rfl, he2, hk2⟩
  have H4 := Lib.hid (H3.out.go he2 hk2)
  clear he2 hk2 c0 c1 c2 c3 c4 c5 hxl
  obtain ⟨g, cap, d0, hcap, ⟨y, d1⟩, d2, d3, he5, hk5⟩ := H4.out.e.also6 (v := a) HL.out
  have H5 := Lib.hid (H4.out.go he5 hk5).fin
  have hqc : (q2.length : Int) ≤ (cap : Int) := by omega
  clear he5 hk5
  go_wp2_with fail
  go_ret2
  exact ⟨rfl, H5.out⟩
end
end Go.Proofs.YtjeomlickkpebaaGreatDoor

/-
  dfas.partingBy, plain: sorted states are put into blocks, one for each rule. No call is walked here.
-/
namespace Go.Proofs.YtjeomlickkpebaaGreatDoor

/-- The first k states stand in blocks. -/
structure GrpI (n : Nat) (ru : Nat → Int) (st : Nat → Nat) (k : Nat) (Bs : List Blk) (pl ob : Nat → Nat) : Prop where
  pl : ∀ i, i < k → pl (st i) = i
  at_ : ∀ i, i < k → ∃ f t, Bs[ob (st i)]? = some (f, t, 0) ∧ f ≤ i ∧ i < t
  inb : ∀ (j : Nat) f t m, Bs[j]? = some (f, t, m) → m = 0 ∧ f < t ∧ t ≤ k ∧ ∀ i, f ≤ i → i < t → ob (st i) = j
  rule : ∀ i j, i < k → j < k → (ob (st i) = ob (st j) ↔ ru (st i) = ru (st j))
  last : 0 < k → ∃ f, Bs[Bs.length - 1]? = some (f, k, 0) ∧ 0 < Bs.length ∧ ob (st (k - 1)) = Bs.length - 1
  few : Bs.length ≤ k
section
variable {n k : Nat} {ru : Nat → Int} {st : Nat → Nat} {Bs : List Blk} {pl ob : Nat → Nat}
theorem grp_start : GrpI n ru st 0 [] pl ob :=
  ⟨fun i hi => absurd hi (Nat.not_lt_zero _), fun i hi => absurd hi (Nat.not_lt_zero _), fun _ _ _ _ e => (by cases e), fun i _ hi => absurd hi (Nat.not_lt_zero _), fun h => absurd h (Nat.lt_irrefl _), Nat.le_refl _⟩
/-- The state in place k is of a new rule. -/
theorem GrpI.fresh (h : GrpI n ru st k Bs pl ob) (hinj : ∀ i j, i < n → j < n → st i = st j → i = j) (hk : k < n) (hno : ∀ i, i < k → ru (st i) ≠ ru (st k)) :
    GrpI n ru st (k + 1) (Bs ++ [(k, k + 1, 0)]) (updN pl (st k) k) (updN ob (st k) Bs.length) := by
  have ne : ∀ i, i < k → st i ≠ st k := fun i hi e => by have := hinj i k (by omega) hk e; omega
  have ob1 : ∀ i, i < k → updN ob (st k) Bs.length (st i) = ob (st i) := fun i hi => updN_other _ _ (ne i hi)
  have ob2 : updN ob (st k) Bs.length (st k) = Bs.length := updN_same _ _ _
  have lt : ∀ i, i < k → ob (st i) < Bs.length := fun i hi => by
    obtain ⟨f, t, e, _⟩ := h.at_ i hi
    exact (List.getElem?_eq_some_iff.1 e).1
  have g1 : ∀ (j : Nat), j < Bs.length → (Bs ++ [(k, k + 1, 0)])[j]? = Bs[j]? := fun j hj => List.getElem?_append_left hj
  have g2 : (Bs ++ [(k, k + 1, 0)])[Bs.length]? = some (k, k + 1, 0) := by rw [List.getElem?_append_right (Nat.le_refl _), Nat.sub_self]; rfl
  refine ⟨fun i hi => ?_, fun i hi => ?_, fun j f t m e => ?_, fun i j hi hj => ?_, fun _ => ⟨k, ?_, ?_, ?_⟩, ?_⟩
  · by_cases c : i = k
    · subst c; exact updN_same _ _ _
    · rw [updN_other _ _ (ne i (by omega))]; exact h.pl i (by omega)
  · by_cases c : i = k
    · subst c; rw [ob2]; exact ⟨i, i + 1, g2, Nat.le_refl _, Nat.lt_succ_self _⟩
    · rw [ob1 i (by omega), g1 _ (lt i (by omega))]; exact h.at_ i (by omega)
  · by_cases c : j < Bs.length
    · rw [g1 j c] at e
      obtain ⟨a1, a2, a3, a4⟩ := h.inb j f t m e
      exact ⟨a1, a2, by omega, fun i h1 h2 => by rw [ob1 i (by omega)]; exact a4 i h1 h2⟩
    · have hl := (List.getElem?_eq_some_iff.1 e).1
      rw [List.length_append, List.length_singleton] at hl
      have hj : j = Bs.length := by omega
      subst hj
      rw [g2] at e
      cases e
      exact ⟨rfl, by omega, Nat.le_refl _, fun i h1 h2 => by rw [show i = k by omega, ob2]⟩
  · by_cases c : i = k
    · subst c
      by_cases e : j = i
      · subst e; exact ⟨fun _ => rfl, fun _ => rfl⟩
      · rw [ob2, ob1 j (by omega)]
        have := lt j (by omega)
        exact ⟨fun q => by omega, fun q => absurd q.symm (hno j (by omega))⟩
    · by_cases e : j = k
      · subst e
        rw [ob2, ob1 i (by omega)]
        have := lt i (by omega)
        exact ⟨fun q => by omega, fun q => absurd q (hno i (by omega))⟩
      · rw [ob1 i (by omega), ob1 j (by omega)]; exact h.rule i j (by omega) (by omega)
  · rw [List.length_append, List.length_singleton, Nat.add_sub_cancel]; exact g2
  · rw [List.length_append, List.length_singleton]; omega
  · rw [Nat.add_sub_cancel, ob2, List.length_append, List.length_singleton, Nat.add_sub_cancel]
  · rw [List.length_append, List.length_singleton]; have := h.few; omega
/-- The state in place k is of the last block's rule. -/
theorem GrpI.more (h : GrpI n ru st k Bs pl ob) (hinj : ∀ i j, i < n → j < n → st i = st j → i = j) (hk : k < n) (h0 : 0 < k) (hsame : ru (st k) = ru (st (k - 1))) {f : Nat} (hf : Bs[Bs.length - 1]? = some (f, k, 0)) :
    GrpI n ru st (k + 1) (Bs.set (Bs.length - 1) (f, k + 1, 0)) (updN pl (st k) k) (updN ob (st k) (Bs.length - 1)) := by
  obtain ⟨f', e1, hl, hlast⟩ := h.last h0
  rw [hf] at e1
  cases e1
  have ne : ∀ i, i < k → st i ≠ st k := fun i hi e => by have := hinj i k (by omega) hk e; omega
  have ob1 : ∀ i, i < k → updN ob (st k) (Bs.length - 1) (st i) = ob (st i) := fun i hi => updN_other _ _ (ne i hi)
  have ob2 : updN ob (st k) (Bs.length - 1) (st k) = Bs.length - 1 := updN_same _ _ _
  have g2 : (Bs.set (Bs.length - 1) (f, k + 1, 0))[Bs.length - 1]? = some (f, k + 1, 0) := by rw [List.getElem?_set, if_pos rfl, if_pos (by omega)]
  have g1 : ∀ (j : Nat), j ≠ Bs.length - 1 → (Bs.set (Bs.length - 1) (f, k + 1, 0))[j]? = Bs[j]? := fun j hj => by rw [List.getElem?_set, if_neg (fun e => hj e.symm)]
  have hfk := h.inb _ _ _ _ hf
  refine ⟨fun i hi => ?_, fun i hi => ?_, fun j f1 t m e => ?_, fun i j hi hj => ?_, fun _ => ⟨f, ?_, ?_, ?_⟩, ?_⟩
  · by_cases c : i = k
    · subst c; exact updN_same _ _ _
    · rw [updN_other _ _ (ne i (by omega))]; exact h.pl i (by omega)
  · by_cases c : i = k
    · subst c; rw [ob2]; exact ⟨f, i + 1, g2, by omega, Nat.lt_succ_self _⟩
    · rw [ob1 i (by omega)]
      obtain ⟨f1, t1, e1, e2, e3⟩ := h.at_ i (by omega)
      by_cases d : ob (st i) = Bs.length - 1
      · rw [d] at e1 ⊢
        rw [hf] at e1
        cases e1
        exact ⟨f, k + 1, g2, e2, by omega⟩
      · rw [g1 _ d]; exact ⟨f1, t1, e1, e2, e3⟩
  · by_cases c : j = Bs.length - 1
    · subst c
      rw [g2] at e
      cases e
      refine ⟨rfl, by omega, Nat.le_refl _, fun i h1 h2 => ?_⟩
      by_cases d : i = k
      · subst d; exact ob2
      · rw [ob1 i (by omega)]; exact hfk.2.2.2 i h1 (by omega)
    · rw [g1 j c] at e
      obtain ⟨a1, a2, a3, a4⟩ := h.inb j f1 t m e
      exact ⟨a1, a2, by omega, fun i h1 h2 => by rw [ob1 i (by omega)]; exact a4 i h1 h2⟩
  · by_cases c : i = k
    · subst c
      by_cases e : j = i
      · subst e; exact ⟨fun _ => rfl, fun _ => rfl⟩
      · rw [ob2, ob1 j (by omega), hsame, ← h.rule (i - 1) j (by omega) (by omega), hlast]
    · by_cases e : j = k
      · subst e
        rw [ob2, ob1 i (by omega), hsame, ← h.rule i (j - 1) (by omega) (by omega), hlast]
      · rw [ob1 i (by omega), ob1 j (by omega)]; exact h.rule i j (by omega) (by omega)
  · rw [List.length_set]; exact g2
  · rw [List.length_set]; exact hl
  · rw [Nat.add_sub_cancel, ob2, List.length_set]
  · rw [List.length_set]; have := h.few; omega
/-- All states stand in blocks. -/
theorem GrpI.all (h : GrpI n ru st n Bs pl ob) (hst : ∀ i, i < n → st i < n) (hsur : ∀ x, x < n → ∃ i, i < n ∧ st i = x) :
    ParI n Bs st pl ob ∧ (∀ y, y < n → ¬ MkP Bs pl ob y) ∧ ∀ y z, y < n → z < n → (ob y = ob z ↔ ru y = ru z) := by
  have hp : ∀ x, x < n → ∃ i, i < n ∧ st i = x ∧ pl x = i := fun x hx => by
    obtain ⟨i, h1, h2⟩ := hsur x hx
    exact ⟨i, h1, h2, by rw [← h2]; exact h.pl i h1⟩
  refine ⟨⟨fun x hx => ?_, fun k hk => ⟨hst k hk, h.pl k hk⟩, fun x hx => ?_, fun j f t m e => ?_⟩, fun y hy hm => ?_, fun y z hy hz => ?_⟩
  · obtain ⟨i, h1, h2, h3⟩ := hp x hx
    rw [h3]; exact ⟨h1, h2⟩
  · obtain ⟨i, h1, h2, h3⟩ := hp x hx
    obtain ⟨f, t, e1, e2, e3⟩ := h.at_ i h1
    rw [h2] at e1
    rw [h3]
    exact ⟨f, t, 0, e1, e2, e3⟩
  · obtain ⟨a1, a2, a3, a4⟩ := h.inb j f t m e
    subst a1
    exact ⟨a2, a3, by omega, a4⟩
  · obtain ⟨f, t, m, e1, e2⟩ := hm
    obtain ⟨i, h1, h2, h3⟩ := hp y hy
    obtain ⟨f', t', e3, e4, e5⟩ := h.at_ i h1
    rw [h2, e1] at e3
    cases e3
    omega
  · obtain ⟨i, h1, h2, _⟩ := hp y hy
    obtain ⟨j, h3, h4, _⟩ := hp z hz
    rw [← h2, ← h4]
    exact h.rule i j h1 h3
end
end Go.Proofs.YtjeomlickkpebaaGreatDoor
