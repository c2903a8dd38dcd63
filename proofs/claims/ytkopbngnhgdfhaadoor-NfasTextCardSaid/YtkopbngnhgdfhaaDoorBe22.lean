/-
  Texts of this proof, one behind the other; each begins with its own remark.
-/
import Derived.Deep.Cut
import Derived.Deep.RegionLaw
import Derived.Test.YtkopbngnhgdfhaaDoorBe21
import Derived.Test.YtkopbngnhgdfhaaDoorBe15
import Derived.Test.YtkopbngnhgdfhaaDoorBe19
/-
  What lies in memory while nfas.NFA.build works; nfas.NFA.loop, out of build. No loop is walked here.
-/
namespace Go.Proofs.YtkopbngnhgdfhaaDoor
open Go.RowKit

structure BuF (P : Nat → Prop) (w0 w : World) (B b : Nat) (n : Nd) (u : Value) (q : List Sta) (first : List Int) (fv : Value) : Prop where
  e : NfaE (fun k => P k ∨ k = b) w B q first fv
  x : boxN 26 w b n.kind n.set u
  ks : KidsW P w n.kids u
  kp : KeepW P w0 w
  at_ : b = w0.heap.size
  new : ∀ k, w0.heap.size ≤ k → ¬ P k
section
variable {P : Nat → Prop} {w0 w w' : World} {B b : Nat} {n : Nd} {u : Value} {q q' : List Sta} {first : List Int} {fv : Value}
theorem BuF.start (h : NfaE P w0 B q first fv) (hP : ∀ k, w0.heap.size ≤ k → ¬ P k) (hu : KidsW P w0 n.kids u) :
    BuF P w0 (w0.alloc (.cells #[.int .i64 n.kind, .int .u64 (n.set.1 : Int), .int .u64 (n.set.2.1 : Int), .int .u64 (n.set.2.2.1 : Int), .int .u64 (n.set.2.2.2 : Int), u] 26)) B w0.heap.size n u q first fv :=
  have hb := alloc_under w0 (.cells #[.int .i64 n.kind, .int .u64 (n.set.1 : Int), .int .u64 (n.set.2.1 : Int), .int .u64 (n.set.2.2.1 : Int), .int .u64 (n.set.2.2.2 : Int), u] 26)
  ⟨h.also hb, boxN.new _ _ _ _ _, hu.under hb, keep_below _ hb, rfl, hP⟩
theorem BuF.newP (h : BuF P w0 w B b n u q first fv) : ∀ k, w.heap.size ≤ k → ¬ (P k ∨ k = b) := fun k hk hp => by
  have h1 := h.kp.size
  have h2 := h.x.lt
  rcases hp with hp | hp
  · exact h.new k (by omega) hp
  · omega
theorem BuF.go (h : BuF P w0 w B b n u q first fv) (he : NfaE (fun k => P k ∨ k = b) w' B q' first fv) (hk : KeepW (fun k => P k ∨ k = b) w w') : BuF P w0 w' B b n u q' first fv :=
  ⟨he, h.x.keep hk (.inr rfl), h.ks.keep hk fun _ _ hp => .inl hp, h.kp.trans (hk.mono fun _ _ hp => .inl hp), h.at_, h.new⟩
theorem BuF.under (h : BuF P w0 w B b n u q first fv) (hb : Below w.heap.size w w') : BuF P w0 w' B b n u q first fv := h.go (h.e.under hb) (keep_below _ hb)
theorem BuF.fin (h : BuF P w0 w B b n u q first fv) : NfaE P w B q first fv ∧ KeepW P w0 w := ⟨h.e.mono fun _ hp => .inl hp, h.kp⟩
theorem BuF.kid {i : Nat} {m : Nd} (h : BuF P w0 w B b n u q first fv) (hi : n.kids[i]? = some m) :
    ∃ g o cap ku kl kc, u = .slice (some ⟨g, o, none⟩) n.kids.length cap ∧ n.kids.length ≤ cap ∧ ku = .slice kl m.kids.length kc ∧ NodeW (fun k => P k ∨ k = b) w m (nodeV m ku) ∧ OkR m.set ∧ KidsW P w m.kids ku ∧ ∀ (j : Nat) x, j < 6 → (nodeC m ku)[j]? = some x → w.cell? ⟨g, o + (i * 6 + j), none⟩ = some x := by
  obtain ⟨g, o, cap, ku, hv, hn, hs, hk, hc⟩ := h.ks.at_ hi
  obtain ⟨kl, kc, hku, _⟩ := hk.form
  exact ⟨g, o, cap, ku, kl, kc, hv, hn, hku, ⟨hs, ku, rfl, hk.mono fun k _ hp => .inl hp⟩, hs, hk, hc⟩
/-- What build does with a node. -/
def BuildsW (n : Nd) : Prop := ∀ (P : Nat → Prop) (w : World) (B : Nat) (q : List Sta) (first : List Int) (fv : Value) (next : Nat) (x : Value), NfaE P w B q first fv → (∀ k, w.heap.size ≤ k → ¬ P k) → NodeW P w n x → q.length + 2 * wtR n ≤ 100000 →
  Calls Tryd.prog 36 #[.pointer (some ⟨B, 0, none⟩), x, .int .i64 (next : Int)] w fun e w' => e = .returned (.int .i64 ((buildT n q next).2 : Int)) ∧ NfaE P w' B (buildT n q next).1 first fv ∧ KeepW P w w'
/-- The store into the fork of a loop. -/
theorem NfaE.also6 {i v : Nat} (h : NfaE P w B q first fv) (hi : i < q.length) :
    ∃ g cap, w.cell? ⟨B, 0, none⟩ = some (.slice (some ⟨g, 0, none⟩) q.length cap) ∧ q.length ≤ cap ∧ (∃ y, w.cell? ⟨g, i * 8 + 6, none⟩ = some y) ∧ w.frozen? ⟨g, i * 8 + 6, none⟩ = false ∧ g < w.heap.size ∧ NfaE P (w.setCell ⟨g, i * 8 + 6, none⟩ (.int .i64 (v : Int))) B (alsoS q i v) first fv ∧ KeepW P w (w.setCell ⟨g, i * 8 + 6, none⟩ (.int .i64 (v : Int))) := by
  obtain ⟨sv, h⟩ := h
  have hs := h.s
  obtain ⟨h1, ⟨rfl, h0⟩ | ⟨g, cap, cur, rfl, h3, h4, hn, hm, hcs, hx⟩⟩ := hs
  · omega
  have hset := h.s.stored (i * 8 + 6) (.int .i64 (v : Int))
  have hgs := h.ns g rfl
  have hk : KeepW (fun k => k ≠ g) w (w.setCell ⟨g, i * 8 + 6, none⟩ (.int .i64 (v : Int))) := keep_set g _ none _ w fun h => h rfl
  refine ⟨g, cap, h.b.cells.1.1, hn, ⟨(stasC q)[i * 8 + 6]'(by rw [stasC_len]; omega), ?_⟩, h.s.frozenAt _, (World.ownsRow.lt h.s g rfl).2, ⟨_, ⟨h.b.keep hk fun e => hgs.2.1 e.symm, ?_, h.f.keep hk fun k e e2 => hgs.2.2 (by rw [← e2]; exact e), h.nb, h.ns, h.nf⟩⟩, hk.mono fun k _ hp e => hgs.1 (by rw [← e]; exact hp)⟩
  · rw [h.s.cellAt _ (by omega)]
    exact List.getElem?_eq_getElem _
  · unfold OwnS
    rw [also_len, stasC_also q i v hi]
    exact hset.1
set_option maxHeartbeats 2000000 in
theorem nloop_any (hB : BuildsW n) (h : NfaE P w B q first fv) (hP : ∀ k, w.heap.size ≤ k → ¬ P k) (next : Nat) (x : Value) (hx : NodeW P w n x) (hlen : q.length + 2 * wtR n + 1 ≤ 100000) :
    Calls Tryd.prog 56 #[.pointer (some ⟨B, 0, none⟩), x, .int .i64 (next : Int)] w fun e w' => e = .returned (.tuple #[.int .i64 (q.length : Int), .int .i64 ((buildT n (q ++ [forkS next next]) q.length).2 : Int)]) ∧ NfaE P w' B (alsoS (buildT n (q ++ [forkS next next]) q.length).1 q.length (buildT n (q ++ [forkS next next]) q.length).2) first fv ∧ KeepW P w w' := by
  obtain ⟨hs, u, rfl, hu⟩ := hx
  obtain ⟨uo, uc, rfl, hul, hub⟩ := hu.form
  have hlq : (q ++ [forkS next next]).length = q.length + 1 := by rw [List.length_append]; rfl
  have h0 := BuF.start h hP hu
  have H1 := Lib.hid (nfork_any h0.e h0.newP next next (by omega))
  have hge := (build_len n (q ++ [forkS next next]) q.length)
  have HS := Lib.hid (fun (W W' : World) (e : NfaE (fun k => P k ∨ k = w.heap.size) W B (q ++ [forkS next next]) first fv) (k : KeepW (fun k => P k ∨ k = w.heap.size) (w.alloc (.cells #[.int .i64 n.kind, .int .u64 (n.set.1 : Int), .int .u64 (n.set.2.1 : Int), .int .u64 (n.set.2.2.1 : Int), .int .u64 (n.set.2.2.2 : Int), .slice uo n.kids.length uc] 26)) W) => h0.go e k)
  have H2 := Lib.hid (fun (W : World) (hh : BuF P w W B w.heap.size n (.slice uo n.kids.length uc) (q ++ [forkS next next]) first fv) =>
    hB (fun k => P k ∨ k = w.heap.size) W B (q ++ [forkS next next]) first fv q.length (nodeV n (.slice uo n.kids.length uc)) hh.e hh.newP ⟨hs, _, rfl, hh.ks.mono fun k _ hp => .inl hp⟩ (by omega))
  have hlt : q.length < (buildT n (q ++ [forkS next next]) q.length).1.length := by
    have : (q ++ [forkS next next]).length ≤ (buildT n (q ++ [forkS next next]) q.length).1.length := build_ge n _ _
    omega
  unfold nodeV at H2 ⊢
  obtain ⟨⟨q2, a⟩, hq2⟩ : ∃ r, buildT n (q ++ [forkS next next]) q.length = r := ⟨_, rfl⟩
  rw [hq2] at H2 hlt ⊢
  simp only at H2 hlt ⊢
  obtain ⟨m, hm⟩ : ∃ m, q.length = m := ⟨_, rfl⟩
  have hml : (m : Int) ≤ 100000 := by omega
  have hm0 : (0 : Int) ≤ (m : Int) := by omega
  have HL := Lib.hid hlt
  rw [hm] at H1 H2 HL hlt ⊢
  have hlti : (m : Int) < (q2.length : Int) := by omega
  have hX := (boxN.new 26 w n.kind n.set (.slice uo n.kids.length uc))
  have HX := Lib.hid (fun (W : World) (hh : BuF P w W B w.heap.size n (.slice uo n.kids.length uc) (q ++ [forkS next next]) first fv) => hh.x.cells)
  have HXL := Lib.hid (fun (W : World) (hh : BuF P w W B w.heap.size n (.slice uo n.kids.length uc) (q ++ [forkS next next]) first fv) => hh.x.lt)
  clear h hP hB hu h0 hge hq2 hm hlq hX hs hlt
  go_enter Tryd.func56, Tryd.ntmps56
  go_wp2_with fail
  go_fit H1.out
  rintro e w1 ⟨rfl, he1, hk1⟩
  have H3 := Lib.hid (HS.out w1 w1 he1 hk1)
  clear he1 hk1 HS H1
  obtain ⟨⟨c0, c1, c2, c3, c4, c5⟩, _⟩ := HX.out _ H3.out
  have hxl := HXL.out _ H3.out
  go_wp2_with fail
  go_fit (H2.out _ H3.out)
  rintro e w2 ⟨rfl, he2, hk2⟩
  have H4 := Lib.hid (H3.out.go he2 hk2)
  clear he2 hk2 c0 c1 c2 c3 c4 c5 hxl
  obtain ⟨g, cap, d0, hcap, ⟨y, d1⟩, d2, d3, he5, hk5⟩ := H4.out.e.also6 (v := a) HL.out
  have H5 := Lib.hid (H4.out.go he5 hk5).fin
  have hqc : (q2.length : Int) ≤ (cap : Int) := by omega
  clear he5 hk5
  go_wp2_with fail
  go_ret2
  exact ⟨rfl, H5.out⟩
end
end Go.Proofs.YtkopbngnhgdfhaaDoor

/-
  limnerref11.lay: what it comes to, of a node of bytes.
-/
namespace Go.Proofs.YtkopbngnhgdfhaaDoor
open Go.RowKit

def zeroSet : Value := .agg #[.int .u64 0, .int .u64 0, .int .u64 0, .int .u64 0]
theorem Tryd.infoSetN : (Tryd.prog.info? 23).map (fun i => (i.zero, i.size, i.bytes)) = some (some zeroSet, 4, 32) := by kernel_rfl
section
variable {X : Nat → Prop} {w : World} {R m : Nat} {sv bv lv x : Value} {S : List St4} {E : Nat → Nat → Bool} {n : Nd}
/-- One set more: append, and the store into the rule's box. -/
theorem RulW.pushSet {Y : Nat} {s : St4} (h : RulW X w R sv bv lv S m E) (hX : ∀ k, w.heap.size ≤ k → ¬ X k) (t ty : TypeId) (ht : Tryd.prog.underlying t = some (.slice 23)) (hY : ∀ (j : Nat) x, (set4C s)[j]? = some x → w.cell? ⟨Y, j, none⟩ = some x) (hl : S.length ≤ 100000) :
    ∃ ao cap w', (Builtin.append_ #[t, t] ty #[sv, .slice (some ⟨Y, 0, none⟩) 1 1]).run Tryd.prog w = .ok (.slice ao (S.length + 1) cap) w' ∧ w'.cell? ⟨R, 0, none⟩ = some sv ∧ w'.frozen? ⟨R, 0, none⟩ = false ∧ R < w'.heap.size ∧
      RulW X (w'.setCell ⟨R, 0, none⟩ (.slice ao (S.length + 1) cap)) R (.slice ao (S.length + 1) cap) bv lv (S ++ [s]) m E ∧ Gone (OwnR R sv bv) (OwnR R (.slice ao (S.length + 1) cap) bv) w (w'.setCell ⟨R, 0, none⟩ (.slice ao (S.length + 1) cap)) := by
  obtain ⟨i0, hi, hz0, hz1, hz2⟩ := info_of Tryd.infoSetN
  obtain ⟨v', w', hr, hown', hgr, _, hat⟩ := run_append_own_at (P := Tryd.prog) w 0 t ty 23 i0 zeroSet 4 32 ht hi hz0 hz1 hz2 rfl (by decide) sv S.length (setsC S) h.s ⟨Y, 0, none⟩ 1 1 (set4C s) rfl (fun j x hx => by rw [rlit, Nat.zero_add]; exact hY j x hx) (fun x hx => setsC_one [s] x (by rw [setsC, setsC, List.append_nil]; exact hx)) (by unfold maxLen; omega) (by omega) (Nat.zero_le _)
  have hO : w'.ownsRow 0 23 4 v' (S ++ [s]).length (setsC (S ++ [s])) := by
    rw [List.length_append, setsC_app]
    show w'.ownsRow 0 _ 4 v' _ (setsC S ++ (set4C s ++ []))
    rw [List.append_nil]
    exact hown'
  obtain ⟨ao, cap, hv, _⟩ := ownZ hO
  rw [List.length_append] at hv
  have hv : v' = .slice ao (S.length + 1) cap := hv
  subst hv
  have hk1 : KeepW (fun k => sv.ownBlock ≠ some k) w w' := ⟨hgr.os, hgr.tape, hgr.output, hgr.size, fun k hk hne => hgr.block k hk fun e => hne e.symm⟩
  have hk2 : KeepW (fun k => k ≠ R) w' (w'.setCell ⟨R, 0, none⟩ (.slice ao (S.length + 1) cap)) := keep_set R 0 none _ w' fun h => h rfl
  have hb := h.b.keep hk1 h.sR
  have hnew : ∀ k, (Value.slice ao (S.length + 1) cap).ownBlock = some k → sv.ownBlock = some k ∨ w.heap.size ≤ k := fun k e => by
    rcases hat with hat | hat
    · exact .inl (hat ▸ e)
    · rw [hat] at e; cases e; exact .inr (Nat.le_refl _)
  have hlt := h.ownlt
  have hRlt := h.b.lt
  have hg : Gone (OwnR R sv bv) (OwnR R (.slice ao (S.length + 1) cap) bv) w (w'.setCell ⟨R, 0, none⟩ (.slice ao (S.length + 1) cap)) := by
    refine ⟨(hk1.mono fun k _ ho e => ho (.inr (.inl e))).trans (hk2.mono fun k _ ho e => ho (.inl e)), fun k e => ?_⟩
    rcases e with e | e | e
    · exact .inl (.inl e)
    · rcases hnew k e with e | e
      · exact .inl (.inr (.inl e))
      · exact .inr e
    · exact .inl (.inr (.inr e))
  obtain ⟨us, h1, h2, h3⟩ := h.r
  refine ⟨ao, cap, w', hr, hb.cells.1.1, hb.cells.2.1, hb.lt, ⟨hb.set0 _, ownRow_keep hO hk2 fun k e e2 => ?_, ⟨us, h1, ownRow_keep (ownRow_keep h2 hk1 fun k e e2 => h.sb k e2 e) hk2 fun k e e2 => h.bR (by rw [← e2]; exact e), fun k hk => ?_⟩, fun e => ?_, h.bR, fun k e e2 => ?_, fun k e => ?_⟩, hg⟩
  · rcases hnew k e with e3 | e3
    · exact h.sR (by rw [← e2]; exact e3)
    · omega
  · obtain ⟨u, h4, h5⟩ := h3 k hk
    exact ⟨u, h4, h5.go (hg.wide X)⟩
  · rcases hnew R e with e3 | e3
    · exact h.sR e3
    · omega
  · rcases hnew k e with e3 | e3
    · exact h.sb k e3 e2
    · exact hlt k e3 (.inr (.inr e2))
  · rcases hg.new k e with e3 | e3
    · exact h.aX k e3
    · exact hX k e3
set_option maxRecDepth 4000 in
set_option maxHeartbeats 8000000 in
theorem rlay_bytes (hk : n.kind = 1) (hks : n.kids = []) (hr : RulW X w R sv bv lv S m E) (hX : ∀ k, w.heap.size ≤ k → ¬ X k) (hx : NodeW (fun k => ¬ OwnR R sv bv k) w n x) (hlen : 0 < S.length ∧ S.length + (setsN n).length ≤ m) (hm : m ≤ 100000) :
    Calls Tryd.prog 59 #[.pointer (some ⟨R, 0, none⟩), x, .int .i64 (m : Int)] w fun e w' => LayP X R sv bv lv S m E n w w' e := by
  obtain ⟨hs, u, rfl, hu⟩ := hx
  obtain ⟨uo, uc, rfl, hul, hub⟩ := hu.form
  have HS0 := Lib.hid (LayF.start hr hu (by omega))
  have hmk := fun W => nmake m (by omega) W
  have HG : Hid (glN n S.length = ⟨false, oneF S.length, oneF S.length, noF2⟩ ∧ S ++ setsN n = S ++ [n.set]) := Lib.hid ⟨by rw [glN_eq, if_pos hk], by rw [setsN_eq, if_pos hk, hks, setsL]⟩
  have hk1 : (n.kind == 1) = true := by rw [hk]; rfl
  have hSm : S.length < m := by
    have h1 := congrArg List.length HG.out.2
    rw [List.length_append, List.length_append] at h1
    simp only [List.length_cons, List.length_nil] at h1
    omega
  clear hk hks hlen
  unfold nodeV
  have HX := Lib.hid hX
  clear hr hu hX
  go_enter Tryd.func59, Tryd.ntmps59
  go_upto_region 2 with (fail)
  obtain ⟨W1, hW1⟩ : ∃ W1, ((w.alloc (.cells #[.int .i64 n.kind, .int .u64 (n.set.1 : Int), .int .u64 (n.set.2.1 : Int), .int .u64 (n.set.2.2.1 : Int), .int .u64 (n.set.2.2.2 : Int), .slice uo n.kids.length uc] 90)).alloc (.cells #[.bool false, .slice none 0 0, .slice none 0 0] 128)).alloc (.cells (boolC (noneB m)).toArray 4) = W1 := ⟨_, rfl⟩
  (try rw [hW1])
  rw [hW1] at HS0
  clear hW1
  obtain ⟨b, hb⟩ : ∃ b, w.heap.size = b := ⟨_, rfl⟩
  (try rw [hb])
  rw [hb] at HS0 HX
  have HBB := Lib.hid hb
  clear hb
  obtain ⟨⟨c0, c1, c2, c3, c4, c5⟩, _⟩ := HS0.out.1.x.cells
  have hbl := HS0.out.1.x.lt
  obtain ⟨⟨p0, p1, p2⟩, p3, p4, p5⟩ := HS0.out.1.p.cells
  have hpl := HS0.out.1.p.lt
  obtain ⟨⟨s0, s1, s2⟩, s3, s4, s5⟩ := HS0.out.1.r.b.cells
  have hsl := HS0.out.1.r.b.lt
  obtain ⟨so, sc, hsv, _⟩ := HS0.out.1.r.sform
  have hPS : ∀ W : World, Below W1.heap.size W1 W → ∃ ao cp w', (Builtin.append_ #[123, 123] 123 #[sv, .slice (some ⟨W.heap.size, 0, none⟩) 1 1]).run Tryd.prog (W.alloc (.cells #[.int .u64 (n.set.1 : Int), .int .u64 (n.set.2.1 : Int), .int .u64 (n.set.2.2.1 : Int), .int .u64 (n.set.2.2.2 : Int)] 23)) = .ok (.slice ao (S.length + 1) cp) w' ∧ w'.cell? ⟨R, 0, none⟩ = some sv ∧ w'.frozen? ⟨R, 0, none⟩ = false ∧ R < w'.heap.size ∧
      LayF X w (w'.setCell ⟨R, 0, none⟩ (.slice ao (S.length + 1) cp)) R sv (.slice ao (S.length + 1) cp) bv lv (S ++ [n.set]) m E b n (.slice uo n.kids.length uc) := fun W hb => by
    have hba := alloc_under W (.cells #[.int .u64 (n.set.1 : Int), .int .u64 (n.set.2.1 : Int), .int .u64 (n.set.2.2.1 : Int), .int .u64 (n.set.2.2.2 : Int)] 23)
    have h1 := (HS0.out.1.under hb).under hba
    obtain ⟨ao, cp, w', h2, h3, h4, h5, h6, h7⟩ := h1.r.pushSet (Y := W.heap.size) (s := n.set) (h1.newX (by rw [HBB.out]; exact HX.out)) 123 123 Tryd.underlying123 (fun j x hx => by rw [cell_of_row _ _ j _ _ (0, 0) (heap_alloc_new W _), List.getElem?_toArray]; exact hx) (by omega)
    exact ⟨ao, cp, w', h2, h3, h4, h5, h1.go h6 h7⟩
  have HPS := Lib.hid hPS
  have hSmi : (S.length : Int) < (m : Int) := by omega
  have hS0 : (0 : Int) ≤ (S.length : Int) := by omega
  have hSb : (S.length : Int) ≤ 100000 := by omega
  clear hPS
  subst hsv
  go_wp2_with fail
  go_region_law (first
    | (obtain ⟨o6, c6, w6, hr6, z1, z2, z3, z4⟩ := HPS.out _ (Below.refl _ _); refine napp_step (by rfl) (.tmp 27) (.tmp 30) 123 (by rfl) (by rfl) (by rfl) hr6 ?_)
    | (obtain ⟨o6, c6, w6, hr6, z1, z2, z3, z4⟩ := HPS.out _ (Below.refl _ _).drew; refine napp_step (by rfl) (.tmp 27) (.tmp 30) 123 (by rfl) (by rfl) (by rfl) hr6 ?_))
  all_goals
    obtain ⟨W4, hW4⟩ : ∃ W4, w6.setCell ⟨R, 0, none⟩ (.slice o6 (S.length + 1) c6) = W4 := ⟨_, rfl⟩
    rw [hW4] at z4
    (try rw [hW4])
    have H4 := Lib.hid z4
    clear z4 z1 z2 z3 hr6 hW4 HPS HS0 c0 c1 c2 c3 c4 c5 hbl p0 p1 p2 p3 p4 p5 hpl s0 s1 s2 s3 s4 s5 hsl
    go_upto_region 6 with (fail)
    have hb5 := alloc_under W4 (.cells (boolC (noneB m)).toArray 4)
    have H5 := Lib.hid (And.intro (H4.out.moreC hb5) (blkM_new W4 m))
    clear hb5 hmk
    obtain ⟨W5, hW5⟩ : ∃ W5, W4.alloc (.cells (boolC (noneB m)).toArray 4) = W5 := ⟨_, rfl⟩
    rw [hW5] at H5
    (try rw [hW5])
    clear hW5
    have HCN := Lib.hid (show b + 3 ≤ W4.heap.size ∧ ¬ OwnR R (.slice o6 (S.length + 1) c6) bv W4.heap.size from ⟨H4.out.sz, H4.out.r.ownlt _ (Nat.le_refl _)⟩)
    obtain ⟨c, hc⟩ : ∃ c, W4.heap.size = c := ⟨_, rfl⟩
    rw [hc] at H5 HCN
    (try rw [hc])
    clear hc H4
    obtain ⟨⟨r0, _⟩, _⟩ := H5.out.1.r.b.cells
    have hcl := H5.out.2.lt
    have b0 := H5.out.2.at_ (i := S.length) (by rw [noneB_len]; omega) false
    have b1 := H5.out.2.frozen S.length
    have ew : IntKind.i64.wrap (((S.length + 1 : Nat) : Int) - 1) = (S.length : Int) := by
      rw [show ((S.length + 1 : Nat) : Int) - 1 = (S.length : Int) by omega]
      apply IntWalk.i64_in <;> omega
    have e1 : ((S.length + 1 : Nat) : Int) - 1 = (S.length : Int) := by omega
    have e2 : (S.length : Int) + 1 - 1 = (S.length : Int) := by omega
    have hk6 : KeepW (fun k => k ≠ c) W5 (W5.setCell ⟨c, S.length, none⟩ (.bool true)) := keep_set c _ none _ W5 fun h => h rfl
    have H6 := Lib.hid (show LayF (fun k => X k ∨ k = c) w (W5.setCell ⟨c, S.length, none⟩ (.bool true)) R _ _ bv lv _ m E b n _ ∧ BolO (Acc1 R (.slice o6 (S.length + 1) c6) bv b) (W5.setCell ⟨c, S.length, none⟩ (.bool true)) (.slice (some ⟨c, 0, none⟩) m m) m (oneF S.length) from
      ⟨H5.out.1.storeC HCN.out.1, BolO.of_blk (H5.out.2.set S.length true) (by rw [List.length_set, noneB_len]) (by omega) (fun e => e.elim HCN.out.2 fun e => by have := HCN.out.1; omega) fun i hi => by
        rw [getD_set (by rw [noneB_len]; omega), noneB_get]
        unfold oneF
        split
        · rename_i e; subst e; simp
        · rename_i e; simp [e]⟩)
    clear hk6
    go_upto_region 7 with (fail)
    obtain ⟨W6, hW6⟩ : ∃ W6, W5.setCell ⟨c, S.length, none⟩ (.bool true) = W6 := ⟨_, rfl⟩
    rw [hW6] at H6
    (try rw [hW6])
    clear hW6 H5 r0 b0 b1 ew e1 e2 hcl
    obtain ⟨⟨p0, p1, p2⟩, p3, p4, p5⟩ := H6.out.1.p.cells
    have hpl := H6.out.1.p.lt
    have HF := Lib.hid (H6.out.1.lessC.fin (z := false) H6.out.2 H6.out.2)
    obtain ⟨⟨y0, y1, y2⟩, _⟩ := HF.out.1.cells
    unfold setP at y0 y1 y2 HF
    go_wp2_with fail
    exact bodyPost_ret (v := .agg #[.bool false, .slice (some ⟨c, 0, none⟩) m m, .slice (some ⟨c, 0, none⟩) m m]) (by simp [results, Tryd.results59, go_sem, y0, y1, y2]) rfl (layP_mk (g := ⟨false, oneF S.length, oneF S.length, noF2⟩) HG.out.1 HG.out.2 (HF.out.2.1.congr fun i _ j _ => by simp [orF2, noF2]) HF.out.2.2.1 HF.out.2.2.2.1 HF.out.2.2.2.2)
end
end Go.Proofs.YtkopbngnhgdfhaaDoor
