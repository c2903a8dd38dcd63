/-
  Two rows of the call's own, side by side: texts of pieces, and the strings that they are to be; what appending to both leaves. Same: what it returns. No other call is walked here.
-/
import Derived.Test.YtalngjafpohhjaaPcApp
import Derived.Test.YtalngjafpohhjaaPcSlice
import Derived.Test.YtalngjafpohhjaaPcLines
namespace Go.Proofs.Ytalngjafpohhjaa
open Go.RowKit

theorem Try.infoPtrT : (Try.prog.info? 24).map (fun i => (i.zero, i.size, i.bytes)) = some (some (.pointer none), 1, 8) := by kernel_rfl

theorem TextO.keep {ok : Nat → Prop} {w w' : World} {v : Value} {s : ByteArray} {xs : List ByteArray} (h : TextO ok w v s xs) (hk : ∀ k, k < w.heap.size → ok k → w'.heap[k]? = w.heap[k]?) : TextO ok w' v s xs := by
  obtain ⟨b, sl, hv, c0, c1, c2, hs, hf, hc, hb, ho⟩ := h
  have hlt : b < w.heap.size := cell_lt (p := ⟨b, 0, none⟩) c0
  have hbk := hk b hlt hb
  refine ⟨b, sl, hv, (World.cell?_of_block (a := ⟨b, 0, none⟩) hbk).trans c0, (World.cell?_of_block (a := ⟨b, 1, none⟩) hbk).trans c1, (World.cell?_of_block (a := ⟨b, 2, none⟩) hbk).trans c2, ?_, hf, hc, hb, ho⟩
  obtain ⟨ao, cap, he, hcap, hcell⟩ := hs
  refine ⟨ao, cap, he, hcap, fun i x hx => ?_⟩
  obtain ⟨g, o, ha, hgc⟩ := hcell i x hx
  subst ha
  have hi := (List.getElem?_eq_some_iff.1 hx).1
  exact ⟨g, o, rfl, (World.cell?_of_block (a := ⟨g, o + i, none⟩) (hk g (cell_lt (p := ⟨g, o + i, none⟩) hgc) (ho _ _ _ he (by omega)))).trans hgc⟩

def ptrV (p : Nat × ByteArray) : Value := .pointer (some ⟨p.1, 0, none⟩)
def strV (p : Nat × ByteArray) : Value := .string p.2

structure PlayW (B : Nat) (w : World) (g1 g2 : Nat) (v9 v10 : Value) (ps : List (Nat × ByteArray)) : Prop where
  b1 : v9.ownBlock = some g1
  b2 : v10.ownBlock = some g2
  ne : g1 ≠ g2
  own1 : w.ownsRow B 24 1 v9 ps.length (ps.map ptrV)
  own2 : w.ownsRow B 9 1 v10 ps.length (ps.map strV)
  texts : ∀ p ∈ ps, ∃ ys, TextO (fun k => k ≠ g1 ∧ k ≠ g2) w (ptrV p) p.2 ys ∧ p.2.size ≤ 16384

section
variable {B g1 g2 : Nat} {w w' : World} {v9 v10 : Value} {ps : List (Nat × ByteArray)}

theorem PlayW.below (h : PlayW B w g1 g2 v9 v10 ps) (hb : Below w.heap.size w w') : PlayW B w' g1 g2 v9 v10 ps :=
  ⟨h.b1, h.b2, h.ne, own_below h.own1 hb, own_below h.own2 hb, fun p hp => by
    obtain ⟨ys, ht, hs⟩ := h.texts p hp
    exact ⟨ys, ht.below hb, hs⟩⟩
theorem own_form {e size n : Nat} {v : Value} {xs : List Value} {g : Nat} (h : w.ownsRow B e size v n xs) (hb : v.ownBlock = some g) : ∃ c, v = .slice (some ⟨g, 0, none⟩) n c ∧ n ≤ c := by
  rcases h.2 with ⟨rfl, _⟩ | ⟨g', c, cur, rfl, _, _, hn, _⟩
  · cases hb
  · cases hb
    exact ⟨c, rfl, hn⟩
theorem PlayW.form1 (h : PlayW B w g1 g2 v9 v10 ps) : ∃ c, v9 = .slice (some ⟨g1, 0, none⟩) ps.length c ∧ ps.length ≤ c := own_form h.own1 h.b1
theorem PlayW.form2 (h : PlayW B w g1 g2 v9 v10 ps) : ∃ c, v10 = .slice (some ⟨g2, 0, none⟩) ps.length c ∧ ps.length ≤ c := own_form h.own2 h.b2
theorem PlayW.cell1 (h : PlayW B w g1 g2 v9 v10 ps) (i : Nat) (p : Nat × ByteArray) (hp : ps[i]? = some p) : w.cell? ⟨g1, i, none⟩ = some (.pointer (some ⟨p.1, 0, none⟩)) := by
  have := h.own1.cells h.b1 i (ptrV p) (by rw [List.getElem?_map, hp]; rfl)
  rwa [add_lit, Nat.zero_add] at this
theorem PlayW.cell2 (h : PlayW B w g1 g2 v9 v10 ps) (i : Nat) (p : Nat × ByteArray) (hp : ps[i]? = some p) : w.cell? ⟨g2, i, none⟩ = some (.string p.2) := by
  have := h.own2.cells h.b2 i (strV p) (by rw [List.getElem?_map, hp]; rfl)
  rwa [add_lit, Nat.zero_add] at this
theorem PlayW.lt1 (h : PlayW B w g1 g2 v9 v10 ps) : B ≤ g1 ∧ g1 < w.heap.size := h.own1.lt g1 h.b1
theorem PlayW.lt2 (h : PlayW B w g1 g2 v9 v10 ps) : B ≤ g2 ∧ g2 < w.heap.size := h.own2.lt g2 h.b2
theorem PlayW.text (h : PlayW B w g1 g2 v9 v10 ps) (i : Nat) (p : Nat × ByteArray) (hp : ps[i]? = some p) : ∃ ys, TextO (fun k => k ≠ g1 ∧ k ≠ g2) w (.pointer (some ⟨p.1, 0, none⟩)) p.2 ys ∧ p.2.size ≤ 16384 :=
  h.texts p (List.mem_of_getElem? hp)

/-- Both rows with one more. -/
theorem PlayW.join {v9' v10' : Value} {g1' g2' b : Nat} {s : ByteArray} {ys : List ByteArray} (h : PlayW B w g1 g2 v9 v10 ps) (ht : TextO (fun k => k ≠ g1 ∧ k ≠ g2) w (.pointer (some ⟨b, 0, none⟩)) s ys) (hs : s.size ≤ 16384)
    (o1 : w'.ownsRow B 24 1 v9' (ps.length + 1) (ps.map ptrV ++ [.pointer (some ⟨b, 0, none⟩)])) (o2 : w'.ownsRow B 9 1 v10' (ps.length + 1) (ps.map strV ++ [.string s]))
    (hb1 : v9'.ownBlock = some g1') (hb2 : v10'.ownBlock = some g2') (hne : g1' ≠ g2') (h1 : g1' = g1 ∨ w.heap.size ≤ g1') (h2 : g2' = g2 ∨ w.heap.size ≤ g2')
    (hk : ∀ k, k < w.heap.size → k ≠ g1 → k ≠ g2 → w'.heap[k]? = w.heap[k]?) : PlayW B w' g1' g2' v9' v10' (ps ++ [(b, s)]) := by
  have key : ∀ v s ys, TextO (fun k => k ≠ g1 ∧ k ≠ g2) w v s ys → TextO (fun k => k ≠ g1' ∧ k ≠ g2') w' v s ys := by
    intro v s ys ht
    have h3 : TextO (fun k => (k ≠ g1 ∧ k ≠ g2) ∧ k < w.heap.size) w v s ys := ht.mono fun k hl hk => ⟨hk, hl⟩
    have h4 := h3.keep (w' := w') fun k hl ho => hk k hl ho.1.1 ho.1.2
    exact h4.mono fun k _ ho => ⟨by rcases h1 with rfl | h1 <;> omega, by rcases h2 with rfl | h2 <;> omega⟩
  have hl : (ps ++ [(b, s)]).length = ps.length + 1 := by rw [List.length_append]; rfl
  refine ⟨hb1, hb2, hne, by rw [hl, List.map_append]; exact o1, by rw [hl, List.map_append]; exact o2, fun p hp => ?_⟩
  rcases List.mem_append.1 hp with hp | hp
  · obtain ⟨ys, ht, hs⟩ := h.texts p hp
    exact ⟨ys, key _ _ _ ht, hs⟩
  · rw [List.mem_singleton] at hp
    subst hp
    exact ⟨ys, key _ _ _ ht, hs⟩

theorem one_own (w : World) (x : Value) (t : TypeId) : ∀ j u, [x][j]? = some u → (w.alloc (.cells #[x] t)).cell? ((⟨w.heap.size, 0, none⟩ : Addr).add j) = some u := cell_one_new w x t

theorem PlayW.push {b : Nat} {s : ByteArray} {ys : List ByteArray} (h : PlayW B w g1 g2 v9 v10 ps) (hB : B ≤ w.heap.size) (hl : ps.length ≤ 1000) (ht : TextO (fun k => k ≠ g1 ∧ k ≠ g2) w (.pointer (some ⟨b, 0, none⟩)) s ys) (hs : s.size ≤ 16384) :
    ∃ v9' w1 v10' w2 g1' g2', (Builtin.append_ #[30, 30] 30 #[v9, .slice (some ⟨w.heap.size, 0, none⟩) 1 1]).run Try.prog (w.alloc (.cells #[.pointer (some ⟨b, 0, none⟩)] 24)) = .ok v9' w1 ∧
      (Builtin.append_ #[31, 31] 31 #[v10, .slice (some ⟨w1.heap.size, 0, none⟩) 1 1]).run Try.prog (w1.alloc (.cells #[.string s] 9)) = .ok v10' w2 ∧
      PlayW B w2 g1' g2' v9' v10' (ps ++ [(b, s)]) ∧ Below B w w2 := by
  obtain ⟨i1, hi1, y0, y1, y2⟩ := info_parts Try.infoPtrT
  obtain ⟨i2, hi2, z0, z1, z2⟩ := info_parts Try.infoStr
  have l1 := h.lt1
  have l2 := h.lt2
  obtain ⟨v9', w1, r1, o1, gr1, _, at1⟩ := run_append_own_at (P := Try.prog) (w.alloc (.cells #[.pointer (some ⟨b, 0, none⟩)] 24)) B 30 30 24 i1 _ 1 8 Try.underlying30 hi1 y0 y1 y2 rfl (by decide) v9 ps.length _ (h.own1.alloc _)
    ⟨w.heap.size, 0, none⟩ 1 1 [.pointer (some ⟨b, 0, none⟩)] rfl (one_own _ _ _) (fun u hu => by rw [List.mem_singleton] at hu; subst hu; rfl) (by unfold maxLen; omega) (by omega) (by simp; omega)
  have o2a : w1.ownsRow B 9 1 v10 ps.length (ps.map strV) := (h.own2.alloc _).kept gr1 (.inr (by rw [h.b1, h.b2]; exact fun e => h.ne (Option.some.inj e).symm))
  have s1 : w.heap.size + 1 ≤ w1.heap.size := by simpa using gr1.size
  obtain ⟨v10', w2, r2, o2, gr2, _, at2⟩ := run_append_own_at (P := Try.prog) (w1.alloc (.cells #[.string s] 9)) B 31 31 9 i2 _ 1 16 Try.underlying31 hi2 z0 z1 z2 rfl (by decide) v10 ps.length _ (o2a.alloc _)
    ⟨w1.heap.size, 0, none⟩ 1 1 [.string s] rfl (one_own _ _ _) (fun u hu => by rw [List.mem_singleton] at hu; subst hu; rfl) (by unfold maxLen; omega) (by omega) (by simp; omega)
  obtain ⟨g1', e1, f1⟩ : ∃ g1', v9'.ownBlock = some g1' ∧ (g1' = g1 ∨ g1' = w.heap.size + 1) := by
    rcases at1 with e | e
    · exact ⟨g1, by rw [e, h.b1], .inl rfl⟩
    · exact ⟨_, e, .inr (by simp)⟩
  obtain ⟨g2', e2, f2⟩ : ∃ g2', v10'.ownBlock = some g2' ∧ (g2' = g2 ∨ g2' = w1.heap.size + 1) := by
    rcases at2 with e | e
    · exact ⟨g2, by rw [e, h.b2], .inl rfl⟩
    · exact ⟨_, e, .inr (by simp)⟩
  have hn := h.ne
  have hlt1 := (o1.lt g1' e1).2
  have n1 : g1' ≠ g2 := by rcases f1 with rfl | rfl <;> omega
  have o1b : w2.ownsRow B 24 1 v9' (ps.length + 1) (ps.map ptrV ++ [.pointer (some ⟨b, 0, none⟩)]) := (o1.alloc _).kept gr2 (.inr (by rw [e1, h.b2]; exact fun e => n1 (Option.some.inj e)))
  refine ⟨v9', w1, v10', w2, g1', g2', r1, r2, h.join ht hs o1b o2 e1 e2 (by rcases f2 with rfl | rfl <;> omega) (by omega) (by omega) fun k hk h1 h2 => ?_, ?_⟩
  · rw [gr2.block k (by simp; omega) (by rw [h.b2]; exact fun e => h2 (Option.some.inj e)), Below.heap_alloc _ _ _ (by omega), gr1.block k (by simp; omega) (by rw [h.b1]; exact fun e => h1 (Option.some.inj e)), Below.heap_alloc _ _ _ hk]
  · refine Below.grown (Below.alloc (Below.grown ((Below.refl B w).alloc hB _) gr1 (by simp; omega) fun k hk => ?_) (by omega) _) gr2 (by simp; omega) fun k hk => ?_
    · rw [h.b1] at hk; cases hk; exact l1.1
    · rw [h.b2] at hk; cases hk; exact l2.1
end

/-- One more onto a row of the call's own: besides what the library says of it, the old places in the old block stay. -/
theorem run_own_keep {B g q n : Nat} {w : World} {v u : Value} {xs : List Value} (t ty e : TypeId) (i : TypeInfo) (z : Value) (bytes : Nat) (ht : Try.prog.underlying t = some (.slice e)) (hi : Try.prog.info? e = some i) (hz0 : i.zero = some z) (hz1 : i.size = 1) (hz2 : i.bytes = bytes) (hzs : z.cells.size = 1)
    (own : w.ownsRow B e 1 v n xs) (hb : v.ownBlock = some g) (hc : w.cell? ⟨q, 0, none⟩ = some u) (h1 : u.oneCell' = true) (hn : n ≤ 1000) (hby : bytes ≤ 100) (hB : B ≤ w.heap.size) :
    ∃ v' w' g', (Builtin.append_ #[t, t] ty #[v, .slice (some ⟨q, 0, none⟩) 1 1]).run Try.prog w = .ok v' w' ∧ w'.ownsRow B e 1 v' (n + 1) (xs ++ [u]) ∧ w.grownBy w' (some g) ∧ v'.ownBlock = some g' ∧ (g' = g ∨ w.heap.size ≤ g') ∧ ∀ j, j < n → w'.cell? ⟨g, j, none⟩ = w.cell? ⟨g, j, none⟩ := by
  have hnews : ∀ j x, [u][j]? = some x → w.cell? ((⟨q, 0, none⟩ : Addr).add j) = some x := fun j x hx => by
    match j with
    | 0 => simp at hx; subst hx; simpa [Addr.add] using hc
    | j + 1 => simp at hx
  have hone : ∀ x ∈ [u], x.oneCell' = true := fun x hx => by rw [List.mem_singleton] at hx; subst hx; exact h1
  have hbn : (n + 1) * bytes ≤ 140737488355328 := Nat.le_trans (Nat.mul_le_mul (show n + 1 ≤ 1001 by omega) hby) (by decide)
  obtain ⟨v', w', hr, o, gr, _, hat⟩ := run_append_own_at (P := Try.prog) w B t ty e i z 1 bytes ht hi hz0 hz1 hz2 hzs (by decide) v n xs own ⟨q, 0, none⟩ 1 1 [u] rfl hnews hone (by unfold maxLen; omega) hbn hB
  rw [hb] at gr hat
  have hblk : ∃ g', v'.ownBlock = some g' ∧ (g' = g ∨ w.heap.size ≤ g') := by
    rcases hat with h | h
    · exact ⟨g, h, .inl rfl⟩
    · exact ⟨_, h, .inr (Nat.le_refl _)⟩
  obtain ⟨g', e1, e2⟩ := hblk
  refine ⟨v', w', g', hr, o, gr, e1, e2, fun j hj => ?_⟩
  rcases own.2 with ⟨rfl, _⟩ | ⟨g0, cap, cur, rfl, hBg, hg, hnc, hcm, hcs, htake⟩
  · cases hb
  · cases hb
    by_cases hroom : n + 1 ≤ cap
    · have hr2 := run_append_room (P := Try.prog) w t ty e i ht hi g0 n cap cur hg ⟨q, 0, none⟩ 1 1 [u] (by rw [hz1]; rfl) hnews hone hroom (by rw [hz1]; simp; omega)
      rw [hr] at hr2
      cases hr2
      rw [cell_of_row _ g0 j _ e (0, 0) (setRow_heap w g0 cur _ e (0, 0) hg), cell_of_row w g0 j cur e (0, 0) hg, hz1]
      have hlen : j < (cur.toList.take (n * 1)).length := by rw [List.length_take, Array.length_toList]; omega
      rw [List.getElem?_toArray, List.append_assoc, List.getElem?_append_left hlen, List.getElem?_take, if_pos (by omega), Array.getElem?_toList]
    · have hold : ∀ k x, xs[k]? = some x → w.cell? ((⟨g0, 0, none⟩ : Addr).add k) = some x := own.cells (g := g0) rfl
      have hr2 := run_append_grow (P := Try.prog) w t ty e i z ht hi hz0 ⟨g0, 0, none⟩ n cap xs (by rw [hz1]; exact own.1) hold ⟨q, 0, none⟩ 1 1 [u] (by rw [hz1]; rfl) hnews (by omega) (by omega) (growslice_fits (by omega) (by rw [hz2]; exact hbn))
      rw [hr] at hr2
      cases hr2
      have hlt : g0 < w.heap.size := (Array.getElem?_eq_some_iff.1 hg).1
      exact World.cell?_of_block (Below.heap_alloc w.drew _ g0 hlt)

theorem step_own {W0 W : World} {B g q n : Nat} {v u : Value} {xs : List Value} {ops : Array Oper} {o : Oper} {a : Act} {K : Act → World → Prop} {Q : Exit → Act → World → Prop} {E : Prop} (t e : TypeId) (i : TypeInfo) (z : Value) (bytes : Nat) (ht : Try.prog.underlying t = some (.slice e)) (hi : Try.prog.info? e = some i) (hz0 : i.zero = some z) (hz1 : i.size = 1) (hz2 : i.bytes = bytes) (hzs : z.cells.size = 1) (hby : bytes ≤ 100)
    (hgd : o.guard = none) (s x : Operand) (ho : o.op = .call { callee := .builtin .append, args := #[s, x], argTypes := #[t, t] })
    (hs : a.eval s = v) (hx : a.eval x = .slice (some ⟨q, 0, none⟩) 1 1) (hbel : Below W0.heap.size W0 W) (own0 : W0.ownsRow B e 1 v n xs) (hb : v.ownBlock = some g) (hc : W.cell? ⟨q, 0, none⟩ = some u) (h1 : u.oneCell' = true) (hn : n ≤ 1000) (hB : B ≤ W0.heap.size)
    (h : ∀ v' W' g', Below W0.heap.size W0 W → W'.ownsRow B e 1 v' (n + 1) (xs ++ [u]) → W.grownBy W' (some g) → v'.ownBlock = some g' → (g' = g ∨ W.heap.size ≤ g') → (∀ j, j < n → W'.cell? ⟨g, j, none⟩ = W.cell? ⟨g, j, none⟩) → K (a.put o.dst v') W') :
    if Region.wanted o (yielded ops a.tmps) = true then Oper.wp Try.prog o a W K Q else E := by
  have hw : Region.wanted o (yielded ops a.tmps) = true := by simp [Region.wanted, hgd]
  rw [if_pos hw]
  obtain ⟨v', w', g', hr, o1, gr, e1, e2, kp⟩ := run_own_keep t o.type e i z bytes ht hi hz0 hz1 hz2 hzs (own_below own0 hbel) hb hc h1 hn hby (Nat.le_trans hB hbel.size)
  exact wp_app s x _ ho hs hx hr (h v' w' g' hbel o1 gr e1 e2 kp)

theorem same_any {v : Value} {s : ByteArray} {n : Nat} (w : World) (h : TextW w v s n) (hs : s.size ≤ 16384) :
    Calls Try.prog 18 #[v, .string s] w fun e w' => e = .returned (.bool true) ∧ Below w.heap.size w w' := by
  have H1 := len_text w h
  have H2 := Lib.hid (string_text w h (by omega))
  have H3 : Hid (∀ W, Below w.heap.size w W → Calls Try.prog 21 #[v] W fun e w' => e = .returned (.int .i64 (linesN s : Int)) ∧ w' = W) := fun W hW => lines_text W (h.below hW) (by omega)
  have H4 := Lib.hid (fun w => refLines_any s w (by omega))
  obtain ⟨L, hL⟩ : ∃ L, linesN s = L := ⟨_, rfl⟩
  rw [hL] at H3 H4
  obtain ⟨b, rfl⟩ := h.ptr
  clear h hL
  go_enter Try.func18, Try.ntmps18
  go_wp2_with fail
  go_fit H1
  rintro e w1 ⟨rfl, rfl⟩
  go_wp2_with fail
  go_fit H2.out
  rintro e w2 ⟨rfl, b2⟩
  go_wp2_with fail
  go_fit (H3.out _ b2)
  rintro e w3 ⟨rfl, rfl⟩
  go_wp2_with fail
  go_fit (H4.out _)
  rintro e w3 ⟨rfl, rfl⟩
  go_wp2
  go_ret
  exact ⟨rfl, b2⟩
end Go.Proofs.Ytalngjafpohhjaa
