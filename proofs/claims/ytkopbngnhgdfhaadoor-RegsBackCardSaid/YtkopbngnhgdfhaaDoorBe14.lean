/-
  regs.spansOf: what it returns, for every set: a row of the call's own.
-/
import Derived.Test.YtkopbngnhgdfhaaDoorBe11
import Derived.Test.YtkopbngnhgdfhaaDoorBe13
import Derived.Test.YtkopbngnhgdfhaaDoorBe10
namespace Go.Proofs.YtkopbngnhgdfhaaDoor
open Go.RowKit

def spC : List (Nat × Nat) → List Value
  | [] => []
  | p :: r => spC r ++ [.int .i64 (p.1 : Int), .int .i64 (p.2 : Int)]
theorem spC_len : ∀ (l : List (Nat × Nat)), (spC l).length = l.length * 2
  | [] => rfl
  | p :: r => by rw [spC, List.length_append, spC_len r, List.length_cons]; show r.length * 2 + 2 = (r.length + 1) * 2; omega
theorem Tryd.infoSpan : (Tryd.prog.info? 137).map (fun i => (i.zero.map fun z => z.cells.size, i.size, i.bytes)) = some (some 2, 2, 16) := by kernel_rfl
theorem infoS2 : ∃ i z, Tryd.prog.info? 137 = some i ∧ i.zero = some z ∧ z.cells.size = 2 ∧ i.size = 2 ∧ i.bytes = 16 := by
  have h := Tryd.infoSpan
  obtain ⟨i, hi⟩ : ∃ i, Tryd.prog.info? 137 = some i := by
    rcases hx : Tryd.prog.info? 137 with _ | i
    · rw [hx] at h; cases h
    · exact ⟨i, rfl⟩
  rw [hi] at h
  simp only [Option.map_some, Option.some.injEq, Prod.mk.injEq] at h
  obtain ⟨h1, h2, h3⟩ := h
  rcases hz : i.zero with _ | z
  · rw [hz] at h1; cases h1
  · rw [hz] at h1
    simp only [Option.map_some, Option.some.injEq] at h1
    exact ⟨i, z, hi, hz, h1, h2, h3⟩
/-- A row of spans of the call's own. -/
def SpnW (N : Nat) (w : World) (v : Value) (l : List (Nat × Nat)) : Prop := w.ownsRow N 137 2 v l.length (spC l)
theorem SpnW.nil (N : Nat) (w : World) : SpnW N w (.slice none 0 0) [] := World.ownsRow_nil _ _ _ _
theorem SpnW.keep {N : Nat} {ok : Nat → Prop} {w w' : World} {v : Value} {l : List (Nat × Nat)} (h : SpnW N w v l) (hk : KeepW ok w w') (ho : ∀ g, N ≤ g → (∃ c f, w.heap[g]? = some (.cells c 137 f)) → ok g) : SpnW N w' v l := by
  obtain ⟨h1, h2⟩ := h
  rcases h2 with h2 | ⟨g, cap, cur, rfl, h4, h5, h6⟩
  · exact ⟨h1, .inl h2⟩
  · exact ⟨h1, .inr ⟨g, cap, cur, rfl, h4, (hk.same g (Array.getElem?_eq_some_iff.1 h5).1 (ho g h4 ⟨cur, (0, 0), h5⟩)).trans h5, h6⟩⟩
theorem SpnW.below {N : Nat} {w w' : World} {v : Value} {l : List (Nat × Nat)} (h : SpnW N w v l) (hb : Below w.heap.size w w') : SpnW N w' v l := h.keep (keep_below (fun _ => True) hb) fun _ _ _ => trivial
theorem SpnW.form {N : Nat} {w : World} {v : Value} {l : List (Nat × Nat)} (h : SpnW N w v l) : ∃ ao cap, v = .slice ao l.length cap := by
  rcases h.2 with ⟨rfl, h0⟩ | ⟨g, cap, cur, rfl, _⟩
  · exact ⟨none, 0, by rw [h0]⟩
  · exact ⟨_, cap, rfl⟩
theorem SpnW.mono {N M : Nat} {w : World} {v : Value} {l : List (Nat × Nat)} (h : SpnW N w v l) (hm : M ≤ N) : SpnW M w v l := by
  obtain ⟨h1, h2⟩ := h
  rcases h2 with h2 | ⟨g, cap, cur, rfl, h4, h5⟩
  · exact ⟨h1, .inl h2⟩
  · exact ⟨h1, .inr ⟨g, cap, cur, rfl, Nat.le_trans hm h4, h5⟩⟩
/-- One span more. -/
theorem SpnW.push {N X : Nat} {w : World} {v : Value} {l : List (Nat × Nat)} (b : Nat) (h : SpnW N w v l) (t ty : TypeId) (ht : Tryd.prog.underlying t = some (.slice 137))
    (h0 : w.cell? ⟨X, 0, none⟩ = some (.int .i64 (b : Int))) (h1 : w.cell? ⟨X, 1, none⟩ = some (.int .i64 (b : Int))) (hN : N ≤ w.heap.size) (hl : l.length ≤ 1000) :
    ∃ v' w', (Builtin.append_ #[t, t] ty #[v, .slice (some ⟨X, 0, none⟩) 1 1]).run Tryd.prog w = .ok v' w' ∧ SpnW N w' v' ((b, b) :: l) ∧ Below N w w' := by
  obtain ⟨i0, z, hi, hz0, hzl, hz1, hz2⟩ := infoS2
  obtain ⟨v', w', hr, hown', hgr, _, _⟩ := run_append_own_at (P := Tryd.prog) w N t ty 137 i0 z 2 16 ht hi hz0 hz1 hz2 hzl (by decide) v l.length (spC l) h ⟨X, 0, none⟩ 1 1 [.int .i64 (b : Int), .int .i64 (b : Int)] rfl
    (fun j x hx => by
      rw [rlit, Nat.zero_add]
      rcases j with _ | _ | j
      · cases hx; exact h0
      · cases hx; exact h1
      · cases hx) (fun x hx => by
      rcases List.mem_cons.1 hx with rfl | hx
      · rfl
      · rw [List.mem_singleton.1 hx]; rfl) (by unfold maxLen; omega) (by omega) hN
  exact ⟨v', w', hr, hown', (Below.refl N w).grown hgr hN fun k hk => (World.ownsRow.lt h k hk).1⟩
theorem take_set {α : Type} (l : List α) (n i : Nat) (x : α) : (l.set i x).take n = (l.take n).set i x := by
  rw [List.take_set]
/-- The last one's end. -/
theorem SpnW.last {N f t : Nat} {w : World} {v : Value} {r : List (Nat × Nat)} (h : SpnW N w v ((f, t) :: r)) :
    ∃ g cap, v = .slice (some ⟨g, 0, none⟩) (r.length + 1) cap ∧ N ≤ g ∧ r.length + 1 ≤ cap ∧ w.cell? ⟨g, r.length * 2 + 1, none⟩ = some (.int .i64 (t : Int)) ∧ w.frozen? ⟨g, r.length * 2 + 1, none⟩ = false ∧ g < w.heap.size ∧
      ∀ b : Nat, SpnW N (w.setCell ⟨g, r.length * 2 + 1, none⟩ (.int .i64 (b : Int))) v ((f, b) :: r) ∧ Below N w (w.setCell ⟨g, r.length * 2 + 1, none⟩ (.int .i64 (b : Int))) := by
  have h0 := h
  obtain ⟨h1, h2⟩ := h
  rcases h2 with ⟨_, h2⟩ | ⟨g, cap, cur, rfl, h4, h5, h6, h7, h8, h9⟩
  · cases h2
  · have hc := World.ownsRow.cells h0 (g := g) rfl (r.length * 2 + 1) (.int .i64 (t : Int)) (by rw [spC, List.getElem?_append_right (by rw [spC_len]; omega), spC_len, show r.length * 2 + 1 - r.length * 2 = 1 by omega]; rfl)
    rw [rlit, Nat.zero_add] at hc
    refine ⟨g, cap, rfl, h4, h6, hc, by simp [World.frozen?, h5], (Array.getElem?_eq_some_iff.1 h5).1, fun b => ⟨⟨spC_len _, .inr ⟨g, cap, cur.setIfInBounds (r.length * 2 + 1) (.int .i64 (b : Int)), rfl, h4, ?_, h6, h7, by rw [Array.size_setIfInBounds]; exact h8, ?_⟩⟩, ?_⟩⟩
    · simp [World.setCell, Array.getElem?_modify, h5]
    · rw [Array.toList_setIfInBounds, take_set]
      have h10 : cur.toList.take ((r.length + 1) * 2) = spC r ++ [.int .i64 (f : Int), .int .i64 (t : Int)] := h9
      show (cur.toList.take ((r.length + 1) * 2)).set (r.length * 2 + 1) (.int .i64 (b : Int)) = _
      rw [h10, spC, ← spC_len r, List.set_append_right _ _ (Nat.le_succ _), show (spC r).length + 1 - (spC r).length = 1 by omega]
      rfl
    · exact ⟨rfl, rfl, rfl, by show _ ≤ (w.heap.modify _ _).size; rw [Array.size_modify]; exact Nat.le_refl _, fun k hk => Below.heap_setCell w _ _ k fun e => by have : k = g := e; omega⟩
theorem new_cell (w : World) (a : Array Value) (t : TypeId) (j : Nat) : (w.alloc (.cells a t)).cell? ⟨w.heap.size, j, none⟩ = a[j]? := cell_of_row _ _ _ _ t (0, 0) (heap_alloc_new w _)
theorem sp_len (s : St4) : ∀ n, (spS s n).length ≤ n
  | 0 => Nat.le_refl _
  | n + 1 => by
    have ih := sp_len s n
    rw [spS]
    split
    · omega
    · split
      · exact Nat.le_add_left 1 n
      · rename_i h
        rw [h, List.length_cons] at ih
        split
        · rw [List.length_cons]; omega
        · rw [List.length_cons, List.length_cons]; omega
/-- What lies in memory while spansOf works. -/
structure SpB (w0 w : World) (s : St4) (v : Value) (n : Nat) : Prop where
  box : w.heap[w0.heap.size]? = some (.cells #[.int .u64 (s.1 : Int), .int .u64 (s.2.1 : Int), .int .u64 (s.2.2.1 : Int), .int .u64 (s.2.2.2 : Int)] 23 (0, 0))
  row : SpnW (w0.heap.size + 1) w v (spS s n)
  bel : Below w0.heap.size w0 w
  sz : w0.heap.size + 1 ≤ w.heap.size
theorem SpB.below {w0 w w' : World} {s : St4} {v : Value} {n : Nat} (h : SpB w0 w s v n) (hb : Below w.heap.size w w') : SpB w0 w' s v n :=
  ⟨(hb.block _ (by have := h.sz; omega)).trans h.box, h.row.below hb, h.bel.trans (hb.mono (by have := h.sz; omega)), Nat.le_trans h.sz hb.size⟩
theorem SpB.step {w0 w w' : World} {s : St4} {v v' : Value} {n m : Nat} (h : SpB w0 w s v n) (hb : Below (w0.heap.size + 1) w w') (hr : SpnW (w0.heap.size + 1) w' v' (spS s m)) : SpB w0 w' s v' m :=
  ⟨(hb.block _ (Nat.lt_succ_self _)).trans h.box, hr, h.bel.trans (hb.mono (Nat.le_succ _)), Nat.le_trans h.sz hb.size⟩
theorem SpB.cells {w0 w : World} {s : St4} {v : Value} {n : Nat} (h : SpB w0 w s v n) : w.cell? ⟨w0.heap.size, 0, none⟩ = some (.int .u64 (s.1 : Int)) ∧ w.cell? ⟨w0.heap.size, 1, none⟩ = some (.int .u64 (s.2.1 : Int)) ∧ w.cell? ⟨w0.heap.size, 2, none⟩ = some (.int .u64 (s.2.2.1 : Int)) ∧ w.cell? ⟨w0.heap.size, 3, none⟩ = some (.int .u64 (s.2.2.2 : Int)) := by
  have hb := h.box
  refine ⟨?_, ?_, ?_, ?_⟩ <;> simp [World.cell?, hb]
set_option maxRecDepth 100000 in
set_option maxHeartbeats 4000000 in
theorem pspansOf_any (s : St4) (w : World) (hs : OkR s) :
    Calls Tryd.prog 52 #[setV s] w fun e w' => ∃ v, e = .returned v ∧ SpnW w.heap.size w' v (spS s 256) ∧ Below w.heap.size w w' := by
  unfold setV
  have hba := alloc_under w (.cells #[.int .u64 (s.1 : Int), .int .u64 (s.2.1 : Int), .int .u64 (s.2.2.1 : Int), .int .u64 (s.2.2.2 : Int)] 23)
  have H0 := Lib.hid (show SpB w (w.alloc (.cells #[.int .u64 (s.1 : Int), .int .u64 (s.2.1 : Int), .int .u64 (s.2.2.1 : Int), .int .u64 (s.2.2.2 : Int)] 23)) s (.slice none 0 0) 0 from
    ⟨heap_alloc_new w _, SpnW.nil _ _, hba, by rw [alloc_size]; exact Nat.le_refl _⟩)
  have HH := Lib.hid (fun (b : Nat) W (h : b < 256) => phas_any s b W hs h)
  unfold setV at HH
  clear hba hs
  go_enter Tryd.func52, Tryd.ntmps52
  go_wp2_with fail
  obtain ⟨W1, hW1⟩ : ∃ W1, (w.alloc (.cells #[.int .u64 (s.1 : Int), .int .u64 (s.2.1 : Int), .int .u64 (s.2.2.1 : Int), .int .u64 (s.2.2.2 : Int)] 23)) = W1 := ⟨_, rfl⟩
  rw [hW1] at H0 ⊢
  clear hW1
  go_loopw [3, 5] (fun s3 s5 wr => ∃ i : Nat, s5 = .int .i64 (i : Int) ∧ i ≤ 256 ∧ Hid (SpB w wr s s3 i)) (fun _ s5 _ => 256 - (intOf s5).toNat)
  case atStart => exact ⟨0, rfl, Nat.zero_le _, H0⟩
  case round =>
    obtain ⟨i, rfl, hi, HI⟩ := hrel
    clear H0
    have i0 : (0 : Int) ≤ (i : Int) := by omega
    by_cases hlt : i < 256
    · have hli : (i : Int) < 256 := by omega
      have hli2 : (i : Int) ≤ 255 := by omega
      obtain ⟨x0, x1, x2, x3⟩ := HI.out.cells
      have HC := Lib.hid (HH.out i wr hlt)
      rcases hb : hasR s i with _ | _
      · rw [hb] at HC
        have HN : Hid (spS s (i + 1) = spS s i) := by show _ = _; rw [spS, if_pos hb]
        clear hb
        go_wp2_with fail
        go_fit HC.out
        rintro e w3 ⟨rfl, hb3⟩
        have H3 := Lib.hid (HI.out.below hb3)
        clear hb3 x0 x1 x2 x3 HC HI
        go_wp2_with fail
        go_roundw
        case rel => exact ⟨i + 1, by go_num, by omega, by show SpB _ _ _ _ _; exact ⟨H3.out.box, by rw [HN.out]; exact H3.out.row, H3.out.bel, H3.out.sz⟩⟩
        case measure => (simp [intOf]; omega)
      · rw [hb] at HC
        go_wp2_with fail
        go_fit HC.out
        rintro e w3 ⟨rfl, hb3⟩
        have H3 := Lib.hid (HI.out.below hb3)
        clear hb3 x0 x1 x2 x3 HC HI
        rcases hl : spS s i with _ | ⟨⟨f, t⟩, r⟩
        · have HN : Hid (spS s (i + 1) = [(i, i)]) := by show _ = _; rw [spS, if_neg (by rw [hb]; decide), hl]
          have hrow := H3.out.row
          rw [hl] at hrow
          obtain ⟨ao, cap, hv⟩ := hrow.form
          subst hv
          have hb5 := alloc_under w3 (.cells #[.int .i64 (i : Int), .int .i64 (i : Int)] 137)
          have h5 := H3.out.below hb5
          have hrow5 := h5.row
          rw [hl] at hrow5
          obtain ⟨v7, w8, hr, hW8, hb8⟩ := hrow5.push (X := w3.heap.size) i 113 113 Tryd.underlying113 (new_cell _ _ _ 0) (new_cell _ _ _ 1) h5.sz (by simp)
          rw [← HN.out] at hW8
          have H8 := Lib.hid (h5.step hb8 hW8)
          clear hb5 h5 hrow5 hW8 hb8 hrow hl hb
          go_wp2_with (at_builtin; refine wpList_runR (by rfl) _ _ 113 (by rfl) (by rfl) (by rfl) hr ?_)
          clear hr
          go_roundw
          case rel => exact ⟨i + 1, by go_num, by omega, H8.out⟩
          case measure => (simp [intOf]; omega)
        · have hrow := H3.out.row
          rw [hl] at hrow
          obtain ⟨g, cap, rfl, hg, hcap, hc, hfr, hgl, hset⟩ := hrow.last
          have hrl := sp_len s i
          rw [hl, List.length_cons] at hrl
          obtain ⟨m, hm⟩ : ∃ m, r.length = m := ⟨_, rfl⟩
          rw [hm] at hc hfr hset hcap hrl ⊢
          have hml : (m : Int) ≤ 256 := by omega
          clear hrl
          have hk : ((m + 1 : Nat) : Int) - 1 = (m : Int) := by omega
          have hk0 : (0 : Int) < ((m + 1 : Nat) : Int) := by omega
          have hm0 : (0 : Int) ≤ (m : Int) := by omega
          have hmk : (m : Int) < ((m + 1 : Nat) : Int) := by omega
          by_cases e : t + 1 = i
          · have HN : Hid (spS s (i + 1) = (f, i) :: r) := by show _ = _; rw [spS, if_neg (by rw [hb]; decide), hl]; exact if_pos e
            have bt : ((t : Int) == (i : Int) - 1) = true := by rw [show (i : Int) - 1 = (t : Int) by omega]; exact beq_self_eq_true _
            obtain ⟨h5, h6⟩ := hset i
            rw [← HN.out] at h5
            have H8 := Lib.hid (H3.out.step h6 h5)
            clear h5 h6 hset hrow hl hb
            go_wp2_with fail
            go_roundw
            case rel => exact ⟨i + 1, by go_num, by omega, H8.out⟩
            case measure => (simp [intOf]; omega)
          · have HN : Hid (spS s (i + 1) = (i, i) :: (f, t) :: r) := by show _ = _; rw [spS, if_neg (by rw [hb]; decide), hl]; exact if_neg e
            have bt : ((t : Int) == (i : Int) - 1) = false := beq_eq_false_iff_ne.2 (by omega)
            have hb5 := alloc_under w3 (.cells #[.int .i64 (i : Int), .int .i64 (i : Int)] 137)
            have h5 := H3.out.below hb5
            have hrow5 := h5.row
            rw [hl] at hrow5
            obtain ⟨v7, w8, hr, hW8, hb8⟩ := hrow5.push (X := w3.heap.size) i 113 113 Tryd.underlying113 (new_cell _ _ _ 0) (new_cell _ _ _ 1) h5.sz (by rw [List.length_cons, hm]; omega)
            rw [← HN.out] at hW8
            have H8 := Lib.hid (h5.step hb8 hW8)
            rw [hm] at hr
            clear hb5 h5 hrow5 hW8 hb8 hrow hl hb hset e
            go_wp2_with (at_builtin; refine wpList_runR (by rfl) _ _ 113 (by rfl) (by rfl) (by rfl) hr ?_)
            clear hr
            go_roundw
            case rel => exact ⟨i + 1, by go_num, by omega, H8.out⟩
            case measure => (simp [intOf]; omega)
    · have hie : i = 256 := by omega
      subst hie
      go_wp2_with fail
      go_ret
      exact ⟨_, rfl, HI.out.row.mono (Nat.le_succ _), HI.out.bel⟩
end Go.Proofs.YtkopbngnhgdfhaaDoor
