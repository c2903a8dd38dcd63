/-
  limnerlaw10.Ref: a node as the document's: what it returns.
-/
import Derived.Deep.RegionLaw
import Derived.Test.YthokamikejnbeaaDoorBe33
import Derived.Test.YthokamikejnbeaaDoorBe19
import Derived.Test.YthokamikejnbeaaDoorBe32
namespace Go.Proofs.YthokamikejnbeaaDoor
open Go.RowKit

/-- A law of append in a region that draws. -/
theorem step_runR {w w' : World} {v u v' : Value} {ops : Array Oper} {o : Oper} {a : Act} {K : Act → World → Prop} {Q : Exit → Act → World → Prop} {E : Prop} (hgd : o.guard = none) (s x : Operand) (t : TypeId)
    (ho : o.op = .call { callee := .builtin .append, args := #[s, x], argTypes := #[t, t] })
    (hs : a.eval s = v) (hx : a.eval x = u) (hr : (Builtin.append_ #[t, t] o.type #[v, u]).run Tryd.prog w = .ok v' w') (h : K (a.put o.dst v') w') :
    if Region.wanted o (yielded ops a.tmps) = true then Oper.wp Tryd.prog o a w K Q else E := by
  have hw : Region.wanted o (yielded ops a.tmps) = true := by simp [Region.wanted, hgd]
  rw [if_pos hw]
  unfold Oper.wp execOp
  simp only [ho, resolve, invoke, builtin, Sem.run_bind, Sem.run_pure, Result.andThen_ok, List.map_toArray, List.map_cons, List.map_nil, hs, hx, hr]
  exact h
/-- What lies in memory while Ref goes over the kids. -/
structure RfW (ok : Nat → Prop) (w0 w : World) (A : Nat) (n : Nd) (u v : Value) (i : Nat) : Prop where
  p : boxN 27 w A n.kind n.set u
  r : boxN 33 w (A + 1) 0 noR (.slice none 0 0)
  m : boxN 33 w (A + 2) n.kind n.set v
  ks : KidsW ok w n.kids u
  ob : ∀ k, ok k → k < A
  out : OutN 33 (A + 3) w v (n.kids.take i)
  bel : Below A w0 w
  sz : A + 3 ≤ w.heap.size
section
variable {ok : Nat → Prop} {w0 w w' : World} {A i : Nat} {n : Nd} {u v : Value}
theorem RfW.under (h : RfW ok w0 w A n u v i) (hb : Below w.heap.size w w') : RfW ok w0 w' A n u v i :=
  ⟨h.p.below hb, h.r.below hb, h.m.below hb, h.ks.under hb, h.ob, h.out.below hb, h.bel.trans (hb.mono (by have := h.sz; omega)), Nat.le_trans h.sz hb.size⟩
theorem boxN.kid {T : TypeId} {w : World} {B : Nat} {k : Int} {s : St4} {u : Value} (h : boxN T w B k s u) (v : Value) : boxN T (w.setCell ⟨B, 5, none⟩ v) B k s v := by
  unfold boxN at h ⊢
  simp only [World.setCell, Array.getElem?_modify, if_true, h, Option.map_some]
  rfl
/-- One kid more. -/
theorem RfW.push {X m : Nat} {k : Nd} {y : Value} (h : RfW ok w0 w A n u v i) (hi : n.kids[i]? = some k) (t ty : TypeId) (ht : Tryd.prog.underlying t = some (.slice 33)) (hX : ∀ (j : Nat) x, (nodeC k y)[j]? = some x → w.cell? ⟨X, j, none⟩ = some x) (hs : OkR k.set) (hu : KidsW (fun k => m ≤ k) w k.kids y)
    (ho : ∀ k, k < w.heap.size → m ≤ k → A + 3 ≤ k ∧ v.ownBlock ≠ some k) (hl : i ≤ 100000) :
    ∃ v' w1, (Builtin.append_ #[t, t] ty #[v, .slice (some ⟨X, 0, none⟩) 1 1]).run Tryd.prog w = .ok v' w1 ∧ RfW ok w0 (w1.setCell ⟨A + 2, 5, none⟩ v') A n u v' (i + 1) ∧ (∃ ao nn cc, v' = .slice ao nn cc) ∧ boxN 33 w1 (A + 2) n.kind n.set v := by
  obtain ⟨i0, z, hi0, hz0, hzl, hz1, hz2⟩ := info10
  have hlen : (n.kids.take i).length ≤ 100000 := by rw [List.length_take]; omega
  obtain ⟨v', w1, hr, hO, hk, hor⟩ := run_outP (P := fun k => A + 3 ≤ k) t ty i0 z ht hi0 hz0 hzl hz1 hz2 h.out hX hs hu ho h.sz hlen
  have hno : ∀ k, k < A + 3 → v.ownBlock ≠ some k := fun k hk e => by have := (h.out.lt k e).1; omega
  have hsz := hk.size
  have hsz2 := h.sz
  have hq := keep_set (ok := fun k => k ≠ A + 2) (A + 2) 5 none v' w1 (by simp)
  have htk : n.kids.take i ++ [k] = n.kids.take (i + 1) := by rw [List.take_add_one, hi]; rfl
  rw [htk] at hO
  refine ⟨v', w1, hr, ⟨(h.p.keep hk (hno _ (by omega))).keep hq (by omega), (h.r.keep hk (hno _ (by omega))).keep hq (by omega), (h.m.keep hk (hno _ (by omega))).kid v', (h.ks.keep hk (fun k _ hk => hno k (by have := h.ob k hk; omega))).keep hq (fun k _ hk => by have := h.ob k hk; omega), h.ob, OutN.keep hO hq (fun k hk => by omega), ?_, by have := hq.size; omega⟩, ?_, h.m.keep hk (hno _ (by omega))⟩
  · exact KeepW.below (KeepW.below h.bel hk (by omega) (fun k hk => hno k (by omega))) hq (by omega) (fun k hk => by omega)
  · obtain ⟨us, _, ⟨_, h2⟩, _⟩ := hO
    rcases h2 with ⟨rfl, _⟩ | ⟨g, cap, cur, rfl, _⟩
    · exact ⟨_, _, _, rfl⟩
    · exact ⟨_, _, _, rfl⟩
end
theorem RfW.new {ok : Nat → Prop} {w : World} {n : Nd} {u : Value} (hok : ∀ k, ok k → k < w.heap.size) (hu : KidsW ok w n.kids u) :
    RfW ok w (((w.alloc (.cells #[.int .i64 n.kind, .int .u64 (n.set.1 : Int), .int .u64 (n.set.2.1 : Int), .int .u64 (n.set.2.2.1 : Int), .int .u64 (n.set.2.2.2 : Int), u] 27)).alloc (.cells #[.int .i64 0, .int .u64 0, .int .u64 0, .int .u64 0, .int .u64 0, .slice none 0 0] 33)).alloc (.cells #[.int .i64 n.kind, .int .u64 (n.set.1 : Int), .int .u64 (n.set.2.1 : Int), .int .u64 (n.set.2.2.1 : Int), .int .u64 (n.set.2.2.2 : Int), .slice none 0 0] 33)) w.heap.size n u (.slice none 0 0) 0 := by
  have h1 := boxN.new 27 w n.kind n.set u
  have b1 := alloc_under w (.cells #[.int .i64 n.kind, .int .u64 (n.set.1 : Int), .int .u64 (n.set.2.1 : Int), .int .u64 (n.set.2.2.1 : Int), .int .u64 (n.set.2.2.2 : Int), u] 27)
  have z1 := alloc_size w (.cells #[.int .i64 n.kind, .int .u64 (n.set.1 : Int), .int .u64 (n.set.2.1 : Int), .int .u64 (n.set.2.2.1 : Int), .int .u64 (n.set.2.2.2 : Int), u] 27)
  obtain ⟨W1, hW1⟩ : ∃ W, w.alloc (.cells #[.int .i64 n.kind, .int .u64 (n.set.1 : Int), .int .u64 (n.set.2.1 : Int), .int .u64 (n.set.2.2.1 : Int), .int .u64 (n.set.2.2.2 : Int), u] 27) = W := ⟨_, rfl⟩
  rw [hW1] at h1 b1 z1 ⊢
  have h2 : boxN 33 (W1.alloc (.cells #[.int .i64 0, .int .u64 0, .int .u64 0, .int .u64 0, .int .u64 0, .slice none 0 0] 33)) W1.heap.size 0 noR (.slice none 0 0) := boxN.new 33 W1 0 noR (.slice none 0 0)
  have b2 := alloc_under W1 (.cells #[.int .i64 0, .int .u64 0, .int .u64 0, .int .u64 0, .int .u64 0, .slice none 0 0] 33)
  have z2 := alloc_size W1 (.cells #[.int .i64 0, .int .u64 0, .int .u64 0, .int .u64 0, .int .u64 0, .slice none 0 0] 33)
  obtain ⟨W2, hW2⟩ : ∃ W, W1.alloc (.cells #[.int .i64 0, .int .u64 0, .int .u64 0, .int .u64 0, .int .u64 0, .slice none 0 0] 33) = W := ⟨_, rfl⟩
  rw [hW2] at h2 b2 z2 ⊢
  have h3 := boxN.new 33 W2 n.kind n.set (.slice none 0 0)
  have b3 := alloc_under W2 (.cells #[.int .i64 n.kind, .int .u64 (n.set.1 : Int), .int .u64 (n.set.2.1 : Int), .int .u64 (n.set.2.2.1 : Int), .int .u64 (n.set.2.2.2 : Int), .slice none 0 0] 33)
  have z3 := alloc_size W2 (.cells #[.int .i64 n.kind, .int .u64 (n.set.1 : Int), .int .u64 (n.set.2.1 : Int), .int .u64 (n.set.2.2.1 : Int), .int .u64 (n.set.2.2.2 : Int), .slice none 0 0] 33)
  rw [z1] at h2
  rw [show W2.heap.size = w.heap.size + 2 by omega] at h3
  exact ⟨(h1.below b2).below b3, h2.below b3, h3, ((hu.under b1).under b2).under b3, hok, OutN.nil _ _ _, (b1.trans (b2.mono (by omega))).trans (b3.mono (by omega)), by omega⟩
set_option maxRecDepth 4000 in
set_option maxHeartbeats 16000000 in
theorem pref_any : ∀ (d : Nat) (ok : Nat → Prop) (n : Nd) (x : Value) (w : World), wtR n ≤ d → d ≤ 100000 → (∀ k, ok k → k < w.heap.size) → NodeW ok w n x →
    Calls Tryd.prog 12 #[x] w fun e w' => ∃ y, e = .returned y ∧ NodeW (fun k => w.heap.size ≤ k) w' n y ∧ Below w.heap.size w w'
  | 0, _, n, _, _, hd, _, _, _ => by
    have := wt_pos n; omega
  | d + 1, ok, .mk ka sa la, x, w, hd, hd2, hok, ⟨hos, u, hx, hu⟩ => by
    subst hx
    have IH := Lib.hid (pref_any d)
    have HS0 := Lib.hid (RfW.new hok hu)
    obtain ⟨uo, uc, hue, hul, hub⟩ := hu.form
    subst hue
    clear hu
    unfold nodeV
    have hdk : wtL la ≤ d := by rw [wtR] at hd; omega
    have hlk := wtL_len la
    have HOS := Lib.hid hos
    have HOK := Lib.hid hok
    simp only [Nd.kind, Nd.set, Nd.kids] at HS0 hul hub ⊢
    clear hd hos hok
    obtain ⟨n, hn⟩ : ∃ n, la.length = n := ⟨_, rfl⟩
    have HL := Lib.hid hn
    rw [hn] at hul hub HS0 hlk ⊢
    clear hn
    go_enter Tryd.func12, Tryd.ntmps12
    go_wp2_with fail
    obtain ⟨W1, hW1⟩ : ∃ W1, ((w.alloc (.cells #[.int .i64 ka, .int .u64 (sa.1 : Int), .int .u64 (sa.2.1 : Int), .int .u64 (sa.2.2.1 : Int), .int .u64 (sa.2.2.2 : Int), .slice uo n uc] 27)).alloc (.cells #[.int .i64 0, .int .u64 0, .int .u64 0, .int .u64 0, .int .u64 0, .slice none 0 0] 33)).alloc (.cells #[.int .i64 ka, .int .u64 (sa.1 : Int), .int .u64 (sa.2.1 : Int), .int .u64 (sa.2.2.1 : Int), .int .u64 (sa.2.2.2 : Int), .slice none 0 0] 33) = W1 := ⟨_, rfl⟩
    (try rw [hW1])
    rw [hW1] at HS0
    clear hW1
    obtain ⟨A, hA⟩ : ∃ A, w.heap.size = A := ⟨_, rfl⟩
    (try rw [hA])
    rw [hA] at HS0 HOK
    have HAS := Lib.hid hA
    clear hA
    have HS1 : Hid (∃ ao nn cc, RfW ok w W1 A (.mk ka sa la) (.slice uo n uc) (.slice ao nn cc) 0) := ⟨_, _, _, HS0.out⟩
    clear HS0
    go_loopw [4] (fun s4 wr => ∃ i : Nat, s4 = .int .i64 (i : Int) ∧ i ≤ n ∧ Hid (∃ ao nn cc, RfW ok w wr A (.mk ka sa la) (.slice uo n uc) (.slice ao nn cc) i)) (fun s4 _ => n - (intOf s4).toNat)
    case atStart => exact ⟨0, rfl, Nat.zero_le _, HS1⟩
    case round =>
      obtain ⟨i, rfl, hi, HI⟩ := hrel
      clear HS1
      obtain ⟨ao, nn, cc, hQ⟩ := HI.out
      have HQ := Lib.hid hQ
      clear HI hQ
      have i0 : (0 : Int) ≤ (i : Int) := by omega
      have ib : (i : Int) ≤ 9223372036854775807 := by omega
      obtain ⟨⟨p0, p1, p2, p3, p4, p5⟩, _⟩ := HQ.out.p.cells
      obtain ⟨⟨m0, m1, m2, m3, m4, m5⟩, fm0, fm1, fm2, fm3, fm4, fm5⟩ := HQ.out.m.cells
      have hMlt := HQ.out.m.lt
      have hPlt := HQ.out.p.lt
      by_cases hlt : i < n
      · have hli : (i : Int) < (n : Int) := by omega
        have hla : i < la.length := by have := HL.out; omega
        obtain ⟨g, o, c1, xa, hua, hc1, hoa, hka, hga⟩ := HQ.out.ks.at_ (i := i) (n := la[i]) (List.getElem?_eq_getElem hla)
        have hdi : wtR la[i] ≤ d := Nat.le_trans (wtL_mem la _ (List.getElem_mem hla)) hdk
        have hil : la[i]? = some la[i] := List.getElem?_eq_getElem hla
        injection hua with e1 e2 e3
        subst e1 e3
        clear e2
        obtain ⟨pa, hpa⟩ : ∃ p, la[i] = p := ⟨_, rfl⟩
        rw [hpa] at hoa hka hga hdi hil
        have x0 := hga 0 _ (by decide) rfl
        have x1 := hga 1 _ (by decide) rfl
        have x2 := hga 2 _ (by decide) rfl
        have x3 := hga 3 _ (by decide) rfl
        have x4 := hga 4 _ (by decide) rfl
        have x5 := hga 5 _ (by decide) rfl
        simp only [Nat.add_zero, ← Nat.add_assoc] at x0 x1 x2 x3 x4 x5
        have hgl := rlt x0
        obtain ⟨xo, xc, rfl, hxl⟩ := hka.form
        have HC := Lib.hid (fun W (hW : Below wr.heap.size wr W) => IH.out ok pa (nodeV pa (.slice xo pa.kids.length xc)) W hdi (by omega) (fun k hk => by have := HOK.out k hk; have := HQ.out.sz; have := hW.size; omega) ⟨hoa, _, rfl, hka.under hW⟩)
        unfold nodeV at HC
        have HIL := Lib.hid hil
        have HPX : Hid (∀ W, Below wr.heap.size wr W → (W.cell? ⟨A, 5, none⟩ = some (.slice (some ⟨g, o, none⟩) n uc) ∧ W.cell? ⟨A + 2, 5, none⟩ = some (.slice ao nn cc) ∧ W.cell? ⟨g, o + i * 6, none⟩ = some (.int .i64 pa.kind) ∧ W.cell? ⟨g, o + i * 6 + 1, none⟩ = some (.int .u64 (pa.set.1 : Int)) ∧ W.cell? ⟨g, o + i * 6 + 2, none⟩ = some (.int .u64 (pa.set.2.1 : Int)) ∧ W.cell? ⟨g, o + i * 6 + 3, none⟩ = some (.int .u64 (pa.set.2.2.1 : Int)) ∧ W.cell? ⟨g, o + i * 6 + 4, none⟩ = some (.int .u64 (pa.set.2.2.2 : Int)) ∧ W.cell? ⟨g, o + i * 6 + 5, none⟩ = some (.slice xo pa.kids.length xc)) ∧ W.frozen? ⟨A + 2, 5, none⟩ = false ∧ A + 2 < W.heap.size ∧ RfW ok w W A (.mk ka sa la) (.slice (some ⟨g, o, none⟩) n uc) (.slice ao nn cc) i) := fun W hW => by
          have hk := keep_below (fun _ => True) hW
          have h2 := HQ.out.under hW
          exact ⟨⟨hk.cell p5 trivial, hk.cell m5 trivial, hk.cell x0 trivial, hk.cell x1 trivial, hk.cell x2 trivial, hk.cell x3 trivial, hk.cell x4 trivial, hk.cell x5 trivial⟩, h2.m.cells.2.2.2.2.2.2, h2.m.lt, h2⟩
        have HOW : Hid (∀ k, wr.heap.size ≤ k → A + 3 ≤ k ∧ (Value.slice ao nn cc).ownBlock ≠ some k) := fun k hk => ⟨by have := HQ.out.sz; omega, fun e => by have := (HQ.out.out.lt k e).2; omega⟩
        clear hga hoa hka hdi hla hpa hil
        go_wp2_with fail
        go_region_law
          (first
          | (refine step_runR (by rfl) _ _ 31 (by rfl) (by rfl) (by rfl) hr ?_)
          | (go_simp; go_at_call 12; go_must (go_fit (HC.out _ ?_)); (exact ⟨rfl, rfl, rfl, Nat.le_refl _, fun _ _ => rfl⟩); rintro e w3 ⟨y, rfl, ⟨hys, yu, rfl, hyk⟩, hb3⟩; obtain ⟨yo, yc, rfl, _⟩ := hyk.form; unfold nodeV; obtain ⟨⟨q5, n5, z0, z1, z2, z3, z4, z5⟩, gn5, hNlt, hQ3⟩ := HPX.out w3 ⟨hb3.os, hb3.tape, hb3.output, hb3.size, hb3.block⟩; obtain ⟨v', w5, hr, hQ6, ⟨vo, vn, vc, rfl⟩, hm5⟩ := (hQ3.under (alloc_under w3 (.cells #[.int .i64 pa.kind, .int .u64 (pa.set.1 : Int), .int .u64 (pa.set.2.1 : Int), .int .u64 (pa.set.2.2.1 : Int), .int .u64 (pa.set.2.2.2 : Int), .slice yo pa.kids.length yc] 33))).push HIL.out 31 31 Tryd.underlying31 (boxN_node (n := pa) (boxN.new 33 w3 pa.kind pa.set (.slice yo pa.kids.length yc))) hys (hyk.under (alloc_under w3 _)) (fun k _ hk => HOW.out k hk) (by omega); have HQ6 := Lib.hid hQ6; obtain ⟨⟨_, _, _, _, _, r5⟩, _, _, _, _, _, s5⟩ := hm5.cells; have hRlt := hm5.lt; clear hQ6 hm5 hQ3 hyk hys hb3))
        all_goals (go_wp2_with fail; exact ⟨⟨i + 1, by go_num, by omega, ⟨_, _, _, HQ6.out⟩⟩, by simp [intOf]; omega⟩)
      · have hie : i = n := by omega
        subst hie
        have hsz := HQ.out.sz
        have hout := HQ.out.out
        simp only [Nd.kids] at hout
        rw [List.take_of_length_le (by have := HL.out; omega)] at hout
        have hks := OutN.kids hout (by have := HL.out; omega)
        have hk6 := keep_set6N wr (A + 1) ka sa (.slice ao nn cc)
        have HF := Lib.hid (show Below A w (set6N wr (A + 1) ka sa (.slice ao nn cc)) ∧ NodeW (fun k => A ≤ k) (set6N wr (A + 1) ka sa (.slice ao nn cc)) (.mk ka sa la) (nodeV (.mk ka sa la) (.slice ao nn cc)) from
          ⟨KeepW.below HQ.out.bel hk6 (by omega) (fun k hk => by omega), HOS.out, _, rfl, (hks.keep hk6 (fun k _ hk => by omega)).mono fun k _ hk => by omega⟩)
        have hF := HQ.out.r.set6 ka sa (.slice ao nn cc)
        obtain ⟨⟨r0, r1, r2, r3, r4, r5⟩, g0, g1, g2, g3, g4, g5⟩ := HQ.out.r.cells
        have hRlt := HQ.out.r.lt
        simp only [Nd.kind, Nd.set] at m0 m1 m2 m3 m4
        obtain ⟨⟨y0, y1, y2, y3, y4, y5⟩, _⟩ := hF.cells
        have Y := Lib.hid (And.intro y0 (And.intro y1 (And.intro y2 (And.intro y3 (And.intro y4 y5)))))
        clear hF hk6 y0 y1 y2 y3 y4 y5 hks hout HQ
        go_wp2_with fail
        obtain ⟨y0, y1, y2, y3, y4, y5⟩ := Y.out
        have hf := HF.out
        unfold set6N set4N at y0 y1 y2 y3 y4 y5 hf
        exact bodyPost_ret (v := nodeV (.mk ka sa la) (.slice ao nn cc)) (by simp [results, Tryd.results12, go_sem, nodeV, Nd.kind, Nd.set, y0, y1, y2, y3, y4, y5]) rfl ⟨_, rfl, by rw [HAS.out]; exact hf.2, by rw [HAS.out]; exact hf.1⟩
end Go.Proofs.YthokamikejnbeaaDoor
