/-
  Texts of this proof, one behind the other; each begins with its own remark.
-/
import Derived.Test.YtpkjaallhhjleaaGreatDoorBa23
import Derived.Test.YtpkjaallhhjleaaGreatDoorBa12
import Derived.Test.YtpkjaallhhjleaaGreatDoorBa1
import Derived.Test.YtpkjaallhhjleaaGreatDoorBa24
/-
  append of actions onto a row that is full, or the call's own: what it makes. No call is walked here.
-/
namespace Go.Proofs.YtpkjaallhhjleaaGreatDoor
open Go.RowKit

def zeroAct : Value := .agg #[.int .i64 0, .int .i32 0, .slice none 0 0, .int .u8 0]
theorem Tryz.infoAct : (Tryz.prog.info? 72).map (fun i => (i.zero, i.size, i.bytes)) = some (some zeroAct, 4, 48) := by kernel_rfl
theorem Tryz.infoActR : (Tryz.prog.info? 77).map (fun i => (i.zero, i.size, i.bytes)) = some (some zeroAct, 4, 48) := by kernel_rfl

theorem NumsW.one {ok : Nat → Prop} {w : World} {v : Value} {l : List Nat} (h : NumsW ok w v l) : v.oneCell' = true := by
  obtain ⟨ao, cap, rfl, _⟩ := h.1
  rfl
theorem acts_cells_one {ok : Nat → Prop} {w : World} {xs : List (Ac × Value)} (h : ∀ x ∈ xs, NumsW ok w x.2 x.1.2.2.1) : ∀ u ∈ xs.flatMap actC, u.oneCell' = true := by
  intro u hu
  obtain ⟨x, hx, hux⟩ := List.mem_flatMap.1 hu
  simp only [actC, List.mem_cons, List.not_mem_nil, or_false] at hux
  rcases hux with rfl | rfl | rfl | rfl
  · rfl
  · rfl
  · exact (h x hx).one
  · rfl
/-- What an append of these yields. -/
theorem acts_src {ok : Nat → Prop} {w : World} {t e : TypeId} {u : Value} {l : List Ac} {xs : List (Ac × Value)} (ht : Tryz.prog.underlying t = some (.slice e)) (h1 : xs.map Prod.fst = l) (h2 : RowV ok w u l.length (xs.flatMap actC)) (h3 : ∀ x ∈ xs, NumsW ok w x.2 x.1.2.2.1) : Src Tryz.prog 4 t u l.length (xs.flatMap actC) w := by
  obtain ⟨ao, cap, rfl, hc, ho, hcell⟩ := h2
  have hl : (xs.flatMap actC).length = l.length * 4 := by rw [flat4_len, ← h1, List.length_map]
  cases ao with
  | none =>
    have hx : xs.flatMap actC = [] := by
      cases hq : xs.flatMap actC with
      | nil => rfl
      | cons x r => obtain ⟨_, _, hh, _⟩ := hcell 0 x (by rw [hq]; rfl); cases hh
    have hl0 : l.length = 0 := by rw [hx] at hl; have : 0 = l.length * 4 := hl; omega
    rw [hx, hl0]
    exact Src.ofNil w ht cap
  | some a =>
    refine Src.ofSlice w ht a _ _ _ hl (fun j v hv => ?_) (acts_cells_one h3)
    obtain ⟨g, o, e, hg⟩ := hcell j v hv
    cases e
    rw [rlit]; exact hg

theorem join_cells {ok : Nat → Prop} {w : World} {xs ys : List (Ac × Value)} (h : ∀ x ∈ xs, NumsW ok w x.2 x.1.2.2.1) (k : ∀ x ∈ ys, NumsW ok w x.2 x.1.2.2.1) : ∀ x ∈ xs ++ ys, NumsW ok w x.2 x.1.2.2.1 := fun x hx => by
  rcases List.mem_append.1 hx with hx | hx
  · exact h x hx
  · exact k x hx

/-- append onto a full row. -/
theorem run_acts {n : Nat} {w : World} {ao : Option Addr} {u : Value} {l l2 : List Ac} (t ty e : TypeId) (ht : Tryz.prog.underlying t = some (.slice e)) (hinfo : (Tryz.prog.info? e).map (fun i => (i.zero, i.size, i.bytes)) = some (some zeroAct, 4, 48))
    (hv : ActsW (FromP n) w (.slice ao l.length l.length) l) (hu : ActsW (FromP n) w u l2) (hn : n ≤ w.heap.size) (hs : l.length + l2.length ≤ 1000000) :
    ∃ v' w', (Builtin.append_ #[t, t] ty #[.slice ao l.length l.length, u]).run Tryz.prog w = .ok v' w' ∧ ActsW (FromP n) w' v' (l ++ l2) ∧ Below w.heap.size w w' := by
  obtain ⟨i0, hi, hz0, hz1, hz2⟩ := info_parts hinfo
  obtain ⟨xs, x1, x2, x3⟩ := hv
  obtain ⟨ys, y1, y2, y3⟩ := hu
  by_cases h0 : l2 = []
  · subst h0
    refine ⟨.slice ao l.length l.length, w, ?_, by rw [List.append_nil]; exact ⟨xs, x1, x2, x3⟩, Below.refl _ _⟩
    obtain ⟨ao2, c2, rfl, _, _⟩ := y2
    cases ao <;> cases ao2 <;> simp [Builtin.append_, run_underlying ht, sizeOf, typeInfo, hi, Builtin.lenOf, Builtin.firstCells, loadCells, loadCellsFrom, storeCells]
  · have hpos : 0 < l2.length := List.length_pos_iff.2 h0
    obtain ⟨cap, zs, hr, hc⟩ := run_app_full (m := 4) t ty e i0 zeroAct 48 ht hi hz0 hz1 hz2 x2 (by rw [flat4_len, ← x1, List.length_map]) y2 (by rw [flat4_len, ← y1, List.length_map]) hpos (by decide) (acts_cells_one y3) (by omega) hs
    have hb : Below w.heap.size w (w.drew.alloc (.cells (xs.flatMap actC ++ ys.flatMap actC ++ zs).toArray e)) := ((Below.refl _ w).drew).alloc (Nat.le_refl _) _
    refine ⟨_, _, hr, ⟨xs ++ ys, by rw [List.map_append, x1, y1], ?_, fun x hx => (join_cells x3 y3 x hx).keep (keep_below _ hb)⟩, hb⟩
    rw [List.length_append, List.flatMap_append]
    exact RowV.any (row_new (w := w.drew) (cs := xs.flatMap actC ++ ys.flatMap actC) (zs := zs) (e := e) hc) fun j hj => by rw [hj]; exact hn

/-- A law of append at a step of a region that draws its order. -/
theorem step_run {w w' : World} {v u v' : Value} {ops : Array Oper} {o : Oper} {a : Act} {K : Act → World → Prop} {Q : Exit → Act → World → Prop} {E : Prop} (hgd : o.guard = none) (s x : Operand) (t : TypeId)
    (ho : o.op = .call { callee := .builtin .append, args := #[s, x], argTypes := #[t, t] })
    (hs : a.eval s = v) (hx : a.eval x = u) (hr : (Builtin.append_ #[t, t] o.type #[v, u]).run Tryz.prog w = .ok v' w') (h : K (a.put o.dst v') w') :
    if Region.wanted o (yielded ops a.tmps) = true then Oper.wp Tryz.prog o a w K Q else E := by
  have hw : Region.wanted o (yielded ops a.tmps) = true := by simp [Region.wanted, hgd]
  rw [if_pos hw]
  unfold Oper.wp execOp
  simp only [ho, resolve, invoke, builtin, Sem.run_bind, Sem.run_pure, Result.andThen_ok, List.map_toArray, List.map_cons, List.map_nil, hs, hx, hr]
  exact h
/-- The same in a plain region. -/
theorem wpList_run {w w' : World} {v u v' : Value} {ops : Array Oper} {rest : List Oper} {o : Oper} {a : Act} {Q : Exit → Act → World → Prop} (hgd : o.guard = none) (s x : Operand) (t : TypeId)
    (ho : o.op = .call { callee := .builtin .append, args := #[s, x], argTypes := #[t, t] })
    (hs : a.eval s = v) (hx : a.eval x = u) (hr : (Builtin.append_ #[t, t] o.type #[v, u]).run Tryz.prog w = .ok v' w') (h : wpList Tryz.prog ops Q rest (a.put o.dst v') w') : wpList Tryz.prog ops Q (o :: rest) a w := by
  refine wpList_plain hgd fun K hK => ?_
  unfold Oper.wp execOp
  simp only [ho, resolve, invoke, builtin, Sem.run_bind, Sem.run_pure, Result.andThen_ok, List.map_toArray, List.map_cons, List.map_nil, hs, hx, hr]
  exact hK _ _ h

/-- A row of actions that is the call's own; their numbers lie in other blocks. -/
def OutW (B : Nat) (e : TypeId) (w : World) (v : Value) (l : List Ac) : Prop :=
  ∃ xs : List (Ac × Value), xs.map Prod.fst = l ∧ w.ownsRow B e 4 v l.length (xs.flatMap actC) ∧ ∀ x ∈ xs, NumsW (fun k => B ≤ k ∧ v.ownBlock ≠ some k) w x.2 x.1.2.2.1
theorem OutW.nil (B : Nat) (e : TypeId) (w : World) : OutW B e w (.slice none 0 0) [] := ⟨[], rfl, World.ownsRow_nil _ _ _ _, fun _ h => by cases h⟩
theorem OutW.below {B : Nat} {e : TypeId} {w w' : World} {v : Value} {l : List Ac} (h : OutW B e w v l) (hb : Below w.heap.size w w') : OutW B e w' v l := by
  obtain ⟨xs, h1, h2, h3⟩ := h
  exact ⟨xs, h1, ownsRow_below h2 hb, fun x hx => (h3 x hx).keep (keep_below _ hb)⟩
theorem OutW.acts {B : Nat} {e : TypeId} {w : World} {v : Value} {l : List Ac} (h : OutW B e w v l) : ActsW (FromP B) w v l := by
  obtain ⟨xs, h1, h2, h3⟩ := h
  exact ⟨xs, h1, pown_row h2, fun x hx => (h3 x hx).mono fun _ _ h => h.1⟩
theorem OutW.lt {B : Nat} {e : TypeId} {w : World} {v : Value} {l : List Ac} (h : OutW B e w v l) : ∀ k, v.ownBlock = some k → B ≤ k ∧ k < w.heap.size := by
  obtain ⟨xs, h1, h2, h3⟩ := h
  exact h2.lt

theorem run_out {n B : Nat} {w : World} {v u : Value} {l l2 : List Ac} (t ty e : TypeId) (ht : Tryz.prog.underlying t = some (.slice e)) (hinfo : (Tryz.prog.info? e).map (fun i => (i.zero, i.size, i.bytes)) = some (some zeroAct, 4, 48))
    (hv : OutW B e w v l) (hu : ActsW (FromP n) w u l2) (hB : B ≤ w.heap.size) (hBn : B ≤ n) (hn : ∀ k, v.ownBlock = some k → k < n) (hs : l.length + l2.length ≤ 1000000) :
    ∃ v' w', (Builtin.append_ #[t, t] ty #[v, u]).run Tryz.prog w = .ok v' w' ∧ OutW B e w' v' (l ++ l2) ∧ Below B w w' := by
  obtain ⟨i0, hi, hz0, hz1, hz2⟩ := info_parts hinfo
  obtain ⟨xs, x1, x2, x3⟩ := hv
  obtain ⟨ys, y1, y2, y3⟩ := hu
  by_cases h0 : l2 = []
  · subst h0
    refine ⟨v, w, ?_, by rw [List.append_nil]; exact ⟨xs, x1, x2, x3⟩, Below.refl _ _⟩
    obtain ⟨ao, cap, rfl, hcap, _⟩ := pown_row x2
    obtain ⟨ao2, c2, rfl, _, _⟩ := y2
    cases ao <;> cases ao2 <;> simp [Builtin.append_, run_underlying ht, sizeOf, typeInfo, hi, Builtin.lenOf, Builtin.firstCells, loadCells, loadCellsFrom, storeCells, hcap]
  · have hpos : 0 < l2.length := List.length_pos_iff.2 h0
    have hyl : (ys.flatMap actC).length = l2.length * 4 := by rw [flat4_len, ← y1, List.length_map]
    obtain ⟨g2, o2, c2, rfl, hc2, ho2, hcell2⟩ := y2.at_ (j := 0) (u := (ys.flatMap actC)[0]'(by omega)) (List.getElem?_eq_getElem _)
    obtain ⟨v', w', hr, hown', hgr, _, hat⟩ := run_append_own_at (P := Tryz.prog) w B t ty e i0 zeroAct 4 48 ht hi hz0 hz1 hz2 rfl (by decide) v l.length (xs.flatMap actC) x2 ⟨g2, o2, none⟩ l2.length c2 (ys.flatMap actC) hyl (fun j x hx => by rw [rlit]; exact hcell2 j x hx) (acts_cells_one y3) (by unfold maxLen; omega) (by omega) hB
    refine ⟨v', w', hr, ⟨xs ++ ys, by rw [List.map_append, x1, y1], by rw [List.length_append, List.flatMap_append]; exact hown', fun x hx => ?_⟩, (Below.refl B w).grown hgr hB fun k hk => (x2.lt k hk).1⟩
    have hk : KeepW (fun k => v.ownBlock ≠ some k) w w' := ⟨hgr.os, hgr.tape, hgr.output, hgr.size, fun k hk hne => hgr.block k hk fun e => hne e.symm⟩
    have h1 : NumsW (fun k => (B ≤ k ∧ v.ownBlock ≠ some k) ∧ k < w.heap.size) w x.2 x.1.2.2.1 := by
      rcases List.mem_append.1 hx with hx | hx
      · exact (x3 x hx).mono fun k hl hk => ⟨hk, hl⟩
      · refine (y3 x hx).mono fun k hl hk => ⟨⟨Nat.le_trans hBn hk, fun e => ?_⟩, hl⟩
        have h5 := hn k e
        have h6 : n ≤ k := hk
        omega
    refine (h1.keep (hk.mono fun k _ h => h.1.2)).mono fun k _ h => ⟨h.1.1, ?_⟩
    rcases hat with hat | hat
    · rw [hat]; exact h.1.2
    · rw [hat]; intro e; cases e; exact absurd h.2 (Nat.lt_irrefl _)
/-- It stays while blocks ahead of it turn. -/
theorem OutW.ahead {B : Nat} {e : TypeId} {w w' : World} {v : Value} {l : List Ac} (h : OutW B e w v l) (hk : KeepW (fun k => B ≤ k) w w') : OutW B e w' v l := by
  obtain ⟨xs, h1, ⟨h2, h2'⟩, h3⟩ := h
  refine ⟨xs, h1, ⟨h2, ?_⟩, fun x hx => (h3 x hx).keep (hk.mono fun k _ h => h.1)⟩
  rcases h2' with h0 | ⟨g, cap, cur, hv, hg0, hg, rest⟩
  · exact .inl h0
  · exact .inr ⟨g, cap, cur, hv, hg0, (hk.same g (Array.getElem?_eq_some_iff.1 hg).1 hg0).trans hg, rest⟩
end Go.Proofs.YtpkjaallhhjleaaGreatDoor

/-
  codes.front and codes.Next: what each call returns and what it leaves of memory: for every text and every place. No condition but that a text's length fits an int.
-/
namespace Go.Proofs.YtpkjaallhhjleaaGreatDoor
open Go.RowKit

set_option maxHeartbeats 1000000 in
theorem front_any (s : ByteArray) (w : World) (h0 : 0 < s.size) (hs : s.size ≤ maxLen) :
    Calls Tryz.prog 44 #[.string s] w fun e w' => e = .returned (.tuple #[.int .i32 ((Utf8.decode s 0).1 : Int), .int .i64 ((Utf8.decode s 0).2 : Int)]) ∧ Below w.heap.size w w' := by
  unfold maxLen at hs
  obtain ⟨hw1, hw2⟩ := decW s 0 h0
  rw [Nat.zero_add] at hw2
  obtain ⟨R, hR⟩ : ∃ R, (Utf8.decode s 0).1 = R := ⟨_, rfl⟩
  obtain ⟨K, hK⟩ : ∃ K, (Utf8.decode s 0).2 = K := ⟨_, rfl⟩
  rw [hR, hK]
  rw [hK] at hw1 hw2
  have HR := Lib.hid hR
  have HK := Lib.hid hK
  clear hR hK
  go_enter Tryz.func44, Tryz.ntmps44
  go_wp2
  go_loopw [2] (fun v wr => Below w.heap.size w wr ∧ ((wr.heap[w.heap.size]? = some (.stringIter s 0) ∧ v = .int .i32 0) ∨ (wr.heap[w.heap.size]? = some (.stringIter s K) ∧ v = .int .i32 (R : Int)))) (fun _ wr => s.size - wr.iterPos w.heap.size)
  case atStart => exact ⟨(Below.refl _ _).alloc (Nat.le_refl _) _, .inl ⟨World.iter_heap w s 0, rfl⟩⟩
  case round =>
    obtain ⟨hbw, ⟨hit, rfl⟩ | ⟨hit, rfl⟩⟩ := hrel
    · have hpos0 := iterPos_of hit
      have hnx : ∀ ty, (Instr.next (.pointer (some ⟨w.heap.size, 0, none⟩)) true ty).run Tryz.prog wr = _ := fun ty => Lib.run_next_any_at wr w.heap.size s 0 ty hit h0
      have hit2 := Lib.iterAt_heap wr w.heap.size s 0 K hit
      have hbw2 := Lib.below_iterAt hbw (k := w.heap.size) (Nat.le_refl _) s K
      simp only [HR.out, HK.out, Nat.zero_add] at hnx
      obtain ⟨W1, hW1⟩ : ∃ W1, W1 = wr.iterAt w.heap.size s K := ⟨_, rfl⟩
      rw [← hW1] at hnx hit2 hbw2
      clear hW1 hit hbw
      go_wp2
      go_roundw
      case rel => exact ⟨hbw2, .inr ⟨hit2, rfl⟩⟩
      case measure => rw [iterPos_of hit2, hpos0]; omega
    · by_cases hp : K < s.size
      · have hnx : ∀ ty, (Instr.next (.pointer (some ⟨w.heap.size, 0, none⟩)) true ty).run Tryz.prog wr = _ := fun ty => Lib.run_next_any_at wr w.heap.size s K ty hit hp
        have hbw2 := Lib.below_iterAt hbw (k := w.heap.size) (Nat.le_refl _) s (K + (Utf8.decode s K).2)
        obtain ⟨W1, hW1⟩ : ∃ W1, W1 = wr.iterAt w.heap.size s (K + (Utf8.decode s K).2) := ⟨_, rfl⟩
        rw [← hW1] at hnx hbw2
        clear hW1 hit hbw
        go_wp2
        go_ret2
        exact ⟨rfl, hbw2⟩
      · have hnx : ∀ ty, (Instr.next (.pointer (some ⟨w.heap.size, 0, none⟩)) true ty).run Tryz.prog wr = _ := fun ty => Lib.run_next_end_at wr w.heap.size s K ty hit hp
        clear hit
        go_wp2
        go_ret2
        exact ⟨by rw [show s.size = K by omega]; rfl, hbw⟩

set_option maxHeartbeats 1000000 in
theorem next_in (s : ByteArray) (at' : Int) (w : World) (h0 : 0 ≤ at') (h1 : at' < s.size) (hs : s.size ≤ maxLen) :
    Calls Tryz.prog 21 #[.string s, .int .i64 at'] w fun e w' => e = .returned (.tuple #[.int .i32 ((Utf8.decode s at'.toNat).1 : Int), .int .i64 ((Utf8.decode s at'.toNat).2 : Int), .bool (okAt s at'.toNat)]) ∧ Below w.heap.size w w' := by
  obtain ⟨k, rfl⟩ := Int.eq_ofNat_of_zero_le h0
  rw [Int.toNat_natCast]
  have hk : k < s.size := by omega
  have hsz : (s.extract k s.size).size = s.size - k := Lib.tail_size s k
  have hfr := fun w => front_any (s.extract k s.size) w (by omega) (by omega)
  rw [Lib.tail_decode, Nat.add_zero] at hfr
  obtain ⟨hw1, hw2⟩ := decW s k hk
  have hrm := Lib.rune_le s k
  unfold okAt
  unfold maxLen at hs
  clear hsz
  obtain ⟨R, hR⟩ : ∃ R, (Utf8.decode s k).1 = R := ⟨_, rfl⟩
  obtain ⟨K, hK⟩ : ∃ K, (Utf8.decode s k).2 = K := ⟨_, rfl⟩
  rw [hR, hK] at hfr
  rw [hR, hK]
  rw [hK] at hw1 hw2
  rw [hR] at hrm
  have HF := Lib.hid hfr
  clear hR hK hfr
  by_cases e : R = 65533
  · subst e
    by_cases e1 : K = 1
    · subst e1
      go_enter Tryz.func21, Tryz.ntmps21
      go_wp2_with (go_at_call 44; refine (HF.out _).mono ?_; rintro e w' ⟨rfl, hb⟩)
      go_ret3
      exact ⟨rfl, hb⟩
    · have e2 : 1 < K := by omega
      have e3 : ((1 : Int) < (K : Int)) := by omega
      go_enter Tryz.func21, Tryz.ntmps21
      go_wp2_with (go_at_call 44; refine (HF.out _).mono ?_; rintro e w' ⟨rfl, hb⟩)
      go_ret3
      exact ⟨by simp [e1], hb⟩
  · have e1 : ((R : Int) == 65533) = false := by rw [beq_eq_false_iff_ne]; omega
    have e2 : ((R : Int) != 65533) = true := by rw [bne_iff_ne]; omega
    go_enter Tryz.func21, Tryz.ntmps21
    go_wp2_with (go_at_call 44; refine (HF.out _).mono ?_; rintro e w' ⟨rfl, hb⟩)
    go_ret3
    exact ⟨by simp [e], hb⟩

set_option maxHeartbeats 1000000 in
theorem next_out (s : ByteArray) (at' : Int) (w : World) (h : at' < 0 ∨ (s.size : Int) ≤ at') :
    Calls Tryz.prog 21 #[.string s, .int .i64 at'] w fun e w' => e = .returned (.tuple #[.int .i32 0, .int .i64 0, .bool false]) ∧ w' = w := by
  by_cases h0 : at' < 0
  · go_enter Tryz.func21, Tryz.ntmps21
    go_wp2
    go_ret3
    exact ⟨rfl, rfl⟩
  · have h1 : (s.size : Int) ≤ at' := by omega
    go_enter Tryz.func21, Tryz.ntmps21
    go_wp2
    go_ret3
    exact ⟨rfl, rfl⟩

end Go.Proofs.YtpkjaallhhjleaaGreatDoor

/-
  parser.behindStart: what it returns: behind every beginning of a rune, for every byte.
-/
namespace Go.Proofs.YtpkjaallhhjleaaGreatDoor
open Go.RowKit

set_option maxRecDepth 20000 in
set_option maxHeartbeats 8000000 in
theorem start_any (s : ByteArray) (b : Nat) (w : World) (hb : b < 256) (hS : Beg s) (hT : TabU w) :
    Calls Tryz.prog 56 #[.agg #[.int .i64 1, .string s], .int .u8 (b : Int)] w (FedW w (startN s b)) := by
  obtain ⟨R, hR⟩ : ∃ R, startN s b = R := ⟨_, rfl⟩
  rw [hR]
  have hR := Lib.hid hR
  have hs3 : s.size ≤ 3 := by rcases hS with h | h | h <;> omega
  have HTX := Lib.hid (fun W => textOf_any b W)
  have hsz : (s ++ oneS b).size ≤ 4 := by rw [app_size, one_size]; omega
  have hsp : 0 < (s ++ oneS b).size := by rw [app_size, one_size]; omega
  have g1 : ∀ W, (Op.stringOp .add s (oneS b)).run Tryz.prog W = .ok (.string (s ++ oneS b)) W := fun W => run_string_add_sum W _ _ (by rw [one_size]; omega)
  have HNX := Lib.hid (fun W => next_in (s ++ oneS b) 0 W (by decide) (by omega) (by unfold maxLen; omega))
  have HST := Lib.hid (fun W (hW : Below w.heap.size w W) => starts_any (s ++ oneS b) W (hT.below hW) hsp (by unfold maxLen; omega))
  have HFI := Lib.hid (fun W (hW : Below w.heap.size w W) => first_any b W hb (hT.below hW))
  have HN := Lib.hid (fun W => invalid_any W)
  obtain ⟨OB, hOB⟩ : ∃ OB, oneS b = OB := ⟨_, rfl⟩
  have hR2 : Hid (R = if okAt (s ++ OB) 0 = true then (.zero, [(1, (Utf8.decode (s ++ OB) 0).1, [], 0)]) else if begB (s ++ OB) = true then (.start (s ++ OB), []) else ((firstN b).1, badA :: (firstN b).2)) := by
    show _ = _
    rw [← hR.out, ← hOB]
    rfl
  rw [hOB] at HTX hsz hsp g1 HNX HST
  obtain ⟨T, hTT⟩ : ∃ T, s ++ OB = T := ⟨_, rfl⟩
  rw [hTT] at hsz hsp g1 HNX HST hR2
  rw [Int.toNat_zero] at HNX
  obtain ⟨K, hK⟩ : ∃ K, (Utf8.decode T 0).1 = K := ⟨_, rfl⟩
  obtain ⟨K2, hK2⟩ : ∃ K2, (Utf8.decode T 0).2 = K2 := ⟨_, rfl⟩
  rw [hK] at HNX hR2
  rw [hK2] at HNX
  have HSH := Lib.hid (fun W => pshown_any K W)
  clear hR hTT hOB hK hK2 hT hS
  have HW : Hid (∀ W0, (w.alloc (.cells #[.int .i64 1, .string s] 45)).alloc (.cells #[.int .i64 0, .string ⟨#[]⟩] 45) = W0 → Below w.heap.size w W0 ∧ W0.heap.size = w.heap.size + 2 ∧ blk2 W0 w.heap.size (.int .i64 1) (.string s) ∧ blk2 W0 (w.heap.size + 1) (.int .i64 0) (.string ⟨#[]⟩)) := fun W0 h => by rw [← h]; exact box_new2 w _ _ _ _
  by_cases hok : okAt T 0 = true
  · have hR : Hid (R = (.zero, [(1, K, [], 0)])) := by
      show _ = _
      rw [hR2.out, if_pos hok]
    clear hR2 HST HFI HN
    go_enter Tryz.func56, Tryz.ntmps56
    go_wp2_with fail
    obtain ⟨W0, hW0⟩ : ∃ W0, (w.alloc (.cells #[.int .i64 1, .string s] 45)).alloc (.cells #[.int .i64 0, .string ⟨#[]⟩] 45) = W0 := ⟨_, rfl⟩
    obtain ⟨hb0, hs0, hBP, hB0⟩ := HW.out W0 hW0
    rw [hW0]
    clear HW hW0
    obtain ⟨⟨p0, p1⟩, r0, r1⟩ := hBP.cells
    have kk := Below.refl W0.heap.size W0
    have k0 : Below W0.heap.size W0 W0.drew := kk.drew
    have HC : Hid (∀ V, Below W0.heap.size W0 V → V.cell? ⟨w.heap.size, 0, none⟩ = some (.int .i64 1) ∧ V.cell? ⟨w.heap.size, 1, none⟩ = some (.string s)) := fun V hV => (hBP.below hV).cells.1
    have HT2 := Lib.hid (fun (V : World) (hV : Below W0.heap.size W0 V) => later1 hV (HTX.out V))
    clear HTX
    go_region_held3 (fun V => V.cell? ⟨w.heap.size, 0, none⟩ = some (.int .i64 1) ∧ V.cell? ⟨w.heap.size, 1, none⟩ = some (.string s))
      (first | with_reducible exact HC.out _ kk | with_reducible exact HC.out _ k0)
      (first
        | (go_at_call 83; go_fit (HT2.out _ ?_); (first | with_reducible exact kk | with_reducible exact k0); rintro e vv ⟨rfl, kk⟩))
    all_goals
      have hB1 := hB0.below kk
      have hbw1 := hb0.trans (kk.mono hb0.size)
      have hs1 : w.heap.size + 2 ≤ vv.heap.size := by rw [← hs0]; exact kk.size
      clear HC HT2 hBP hB0 hb0 hs0 k0 p0 p1 r0 r1
      go_wp2_with fail
      go_fit (HNX.out _)
      rintro e w2 ⟨rfl, hb2⟩
      have hB2 := hB1.below hb2
      have hbw2 := hbw1.trans (hb2.mono hbw1.size)
      have hs2 : w.heap.size + 2 ≤ w2.heap.size := Nat.le_trans hs1 hb2.size
      clear hB1 hbw1 hs1 hb2 HNX kk
      rw [hok]
      go_wp2_with fail
      go_fit (HSH.out _)
      rintro e w3 ⟨v, rfl, hA, _, hb3⟩
      have hB3 := hB2.below hb3
      have hbw3 := hbw2.trans (hb3.mono hbw2.size)
      obtain ⟨⟨c0, c1⟩, z0, z1⟩ := hB3.cells
      go_wp2_with fail
      obtain ⟨⟨y0, y1⟩, q1, q2⟩ := box_end (w := w) (w1 := w3) (Q := w.heap.size + 1) (.int .i64 0) (.string ⟨#[]⟩) hB3 (Nat.le_succ _) hbw3 (acts_from hA hs2)
      rw [hR.out]
      exact bodyPost_ret (v := .tuple #[.agg #[.int .i64 0, .string ⟨#[]⟩], v]) (by simp [results, Tryz.results56, go_sem, y0, y1]) rfl ⟨_, rfl, q2, q1⟩
  · have hR3 : Hid (R = if begB T = true then (.start T, []) else ((firstN b).1, badA :: (firstN b).2)) := by
      show _ = _
      rw [hR2.out, if_neg hok]
    replace hok : okAt T 0 = false := by cases h : okAt T 0 <;> simp_all
    clear hR2 HSH
    by_cases hbg : begB T = true
    · have hR : Hid (R = (.start T, [])) := by
        show _ = _
        rw [hR3.out, if_pos hbg]
      clear hR3 HFI HN
      go_enter Tryz.func56, Tryz.ntmps56
      go_wp2_with fail
      obtain ⟨W0, hW0⟩ : ∃ W0, (w.alloc (.cells #[.int .i64 1, .string s] 45)).alloc (.cells #[.int .i64 0, .string ⟨#[]⟩] 45) = W0 := ⟨_, rfl⟩
      obtain ⟨hb0, hs0, hBP, hB0⟩ := HW.out W0 hW0
      rw [hW0]
      clear HW hW0
      obtain ⟨⟨p0, p1⟩, r0, r1⟩ := hBP.cells
      have kk := Below.refl W0.heap.size W0
      have k0 : Below W0.heap.size W0 W0.drew := kk.drew
      have HC : Hid (∀ V, Below W0.heap.size W0 V → V.cell? ⟨w.heap.size, 0, none⟩ = some (.int .i64 1) ∧ V.cell? ⟨w.heap.size, 1, none⟩ = some (.string s)) := fun V hV => (hBP.below hV).cells.1
      have HT2 := Lib.hid (fun (V : World) (hV : Below W0.heap.size W0 V) => later1 hV (HTX.out V))
      clear HTX
      go_region_held3 (fun V => V.cell? ⟨w.heap.size, 0, none⟩ = some (.int .i64 1) ∧ V.cell? ⟨w.heap.size, 1, none⟩ = some (.string s))
        (first | with_reducible exact HC.out _ kk | with_reducible exact HC.out _ k0)
        (first
          | (go_at_call 83; go_fit (HT2.out _ ?_); (first | with_reducible exact kk | with_reducible exact k0); rintro e vv ⟨rfl, kk⟩))
      all_goals
        have hB1 := hB0.below kk
        have hbw1 := hb0.trans (kk.mono hb0.size)
        have hs1 : w.heap.size + 2 ≤ vv.heap.size := by rw [← hs0]; exact kk.size
        clear HC HT2 hBP hB0 hb0 hs0 k0 p0 p1 r0 r1
        go_wp2_with fail
        go_fit (HNX.out _)
        rintro e w2 ⟨rfl, hb2⟩
        have hB2 := hB1.below hb2
        have hbw2 := hbw1.trans (hb2.mono hbw1.size)
        have hs2 : w.heap.size + 2 ≤ w2.heap.size := Nat.le_trans hs1 hb2.size
        clear hB1 hbw1 hs1 hb2 HNX kk
        rw [hok]
        go_wp2_with fail
        go_fit (HST.out _ hbw2)
        rintro e w3 ⟨rfl, hb3⟩
        have hB3 := hB2.below hb3
        have hbw3 := hbw2.trans (hb3.mono hbw2.size)
        have hs3' : w.heap.size + 2 ≤ w3.heap.size := Nat.le_trans hs2 hb3.size
        clear hB2 hbw2 hs2 hb3 HST
        rw [hbg]
        obtain ⟨⟨c0, c1⟩, z0, z1⟩ := hB3.cells
        go_wp2_with fail
        obtain ⟨⟨y0, y1⟩, q1, q2⟩ := box_end (w := w) (w1 := w3) (Q := w.heap.size + 1) (.int .i64 1) (.string T) hB3 (Nat.le_succ _) hbw3 (ActsW.nil _ _)
        rw [hR.out]
        exact bodyPost_ret (v := .tuple #[.agg #[.int .i64 1, .string T], .slice none 0 0]) (by simp [results, Tryz.results56, go_sem, y0, y1]) rfl ⟨_, rfl, q2, q1⟩
    · have hR : Hid (R = ((firstN b).1, badA :: (firstN b).2)) := by
        show _ = _
        rw [hR3.out, if_neg hbg]
      replace hbg : begB T = false := by cases h : begB T <;> simp_all
      obtain ⟨G, hG⟩ : ∃ G, firstN b = G := ⟨_, rfl⟩
      rw [hG] at HFI hR
      obtain ⟨n, hn⟩ : ∃ n, stN G.1 = n := ⟨_, rfl⟩
      obtain ⟨z, hz⟩ : ∃ z, stB G.1 = z := ⟨_, rfl⟩
      obtain ⟨L, hL⟩ : ∃ L, G.2 = L := ⟨_, rfl⟩
      have HF2 := Lib.hid (fun W hW => fed_letters (HFI.out W hW) hn hz hL)
      have HLL : Hid ([badA].length + L.length ≤ 1000000) := by
        have h2 := feed_two .zero b
        show 1 + L.length ≤ 1000000
        rw [show feedN .zero b = G from hG, hL] at h2
        omega
      have HV : Hid (stV G.1 = .agg #[.int .i64 n, .string z]) := by show _ = _; rw [← hn, ← hz]; rfl
      rw [hL] at hR
      clear hR3 HFI hG hn hz
      go_enter Tryz.func56, Tryz.ntmps56
      go_wp2_with fail
      obtain ⟨W0, hW0⟩ : ∃ W0, (w.alloc (.cells #[.int .i64 1, .string s] 45)).alloc (.cells #[.int .i64 0, .string ⟨#[]⟩] 45) = W0 := ⟨_, rfl⟩
      obtain ⟨hb0, hs0, hBP, hB0⟩ := HW.out W0 hW0
      rw [hW0]
      clear HW hW0
      obtain ⟨⟨p0, p1⟩, r0, r1⟩ := hBP.cells
      have kk := Below.refl W0.heap.size W0
      have k0 : Below W0.heap.size W0 W0.drew := kk.drew
      have HC : Hid (∀ V, Below W0.heap.size W0 V → V.cell? ⟨w.heap.size, 0, none⟩ = some (.int .i64 1) ∧ V.cell? ⟨w.heap.size, 1, none⟩ = some (.string s)) := fun V hV => (hBP.below hV).cells.1
      have HT2 := Lib.hid (fun (V : World) (hV : Below W0.heap.size W0 V) => later1 hV (HTX.out V))
      clear HTX
      go_region_held3 (fun V => V.cell? ⟨w.heap.size, 0, none⟩ = some (.int .i64 1) ∧ V.cell? ⟨w.heap.size, 1, none⟩ = some (.string s))
        (first | with_reducible exact HC.out _ kk | with_reducible exact HC.out _ k0)
        (first
          | (go_at_call 83; go_fit (HT2.out _ ?_); (first | with_reducible exact kk | with_reducible exact k0); rintro e vv ⟨rfl, kk⟩))
      all_goals
        have hB1 := hB0.below kk
        have hbw1 := hb0.trans (kk.mono hb0.size)
        have hs1 : w.heap.size + 2 ≤ vv.heap.size := by rw [← hs0]; exact kk.size
        clear HC HT2 hBP hB0 hb0 hs0 k0 p0 p1 r0 r1
        go_wp2_with fail
        go_fit (HNX.out _)
        rintro e w2 ⟨rfl, hb2⟩
        have hB2 := hB1.below hb2
        have hbw2 := hbw1.trans (hb2.mono hbw1.size)
        have hs2 : w.heap.size + 2 ≤ w2.heap.size := Nat.le_trans hs1 hb2.size
        clear hB1 hbw1 hs1 hb2 HNX kk
        rw [hok]
        go_wp2_with fail
        go_fit (HST.out _ hbw2)
        rintro e w3 ⟨rfl, hb3⟩
        have hB3 := hB2.below hb3
        have hbw3 := hbw2.trans (hb3.mono hbw2.size)
        have hs3' : w.heap.size + 2 ≤ w3.heap.size := Nat.le_trans hs2 hb3.size
        clear hB2 hbw2 hs2 hb3 HST
        rw [hbg]
        go_wp2_with fail
        go_fit (HF2.out _ hbw3)
        rintro e w4 ⟨v, rfl, hA, hb4⟩
        have hB4 := hB3.below hb4
        have hbw4 := hbw3.trans (hb4.mono hbw3.size)
        have hA4 : ActsW (FromP (w.heap.size + 1 + 1)) w4 v L := acts_from hA hs3'
        have hs4 : w.heap.size + 2 ≤ w4.heap.size := Nat.le_trans hs3' hb4.size
        clear hB3 hbw3 hA hb4 HF2 hs3'
        obtain ⟨⟨c0, c1⟩, z0, z1⟩ := hB4.cells
        go_wp2_with fail
        obtain ⟨hB5, hbw5, hA5⟩ := box_mid (w := w) (w1 := w4) (Q := w.heap.size + 1) (.int .i64 n) (.string z) hB4 (Nat.le_succ _) hbw4 hA4
        have hs5 : w.heap.size + 2 ≤ ((w4.setCell ⟨w.heap.size + 1, 0, none⟩ (.int .i64 n)).setCell ⟨w.heap.size + 1, 1, none⟩ (.string z)).heap.size := hB5.lt
        obtain ⟨W5, hW5⟩ : ∃ W5, (w4.setCell ⟨w.heap.size + 1, 0, none⟩ (.int .i64 n)).setCell ⟨w.heap.size + 1, 1, none⟩ (.string z) = W5 := ⟨_, rfl⟩
        rw [hW5] at hB5 hbw5 hA5 hs5 ⊢
        have HC5 : Hid (∀ V, Below W5.heap.size W5 V → V.cell? ⟨w.heap.size + 1, 0, none⟩ = some (.int .i64 n) ∧ V.cell? ⟨w.heap.size + 1, 1, none⟩ = some (.string z)) := fun V hV => (hB5.below hV).cells.1
        have HN5 : Hid (∀ V, Below W5.heap.size W5 V → Calls Tryz.prog 87 #[] V fun e u => ∃ ai, e = .returned (.slice ai 1 1) ∧ ActsW (FromP (w.heap.size + 1 + 1)) u (.slice ai 1 1) [badA] ∧ Below W5.heap.size W5 u) := fun V hV => (invalid_any V).mono fun e u ⟨vi, he, ha, ⟨ai, hai⟩, hbi⟩ => ⟨some ai, by rw [he, hai], by rw [← hai]; exact acts_from ha (Nat.le_trans hs5 hV.size), hV.trans (hbi.mono hV.size)⟩
        have HAP : Hid (∀ V ai ty, Below W5.heap.size W5 V → ActsW (FromP (w.heap.size + 1 + 1)) V (.slice ai 1 1) [badA] → ∃ v' w', (Builtin.append_ #[68, 68] ty #[.slice ai 1 1, v]).run Tryz.prog V = .ok v' w' ∧ ActsW (FromP (w.heap.size + 1 + 1)) w' v' (badA :: L) ∧ Below W5.heap.size W5 w' ∧ (w'.cell? ⟨w.heap.size + 1, 0, none⟩ = some (.int .i64 n) ∧ w'.cell? ⟨w.heap.size + 1, 1, none⟩ = some (.string z)) ∧ w'.frozen? ⟨w.heap.size + 1, 0, none⟩ = false ∧ w'.frozen? ⟨w.heap.size + 1, 1, none⟩ = false) := fun V ai ty hV hai => by
          obtain ⟨v', w', h1, h2, h3⟩ := run_acts (l := [badA]) (l2 := L) 68 ty 72 Tryz.underlying68 Tryz.infoAct hai (hA5.below hV) (Nat.le_trans hs5 hV.size) HLL.out
          have h4 := hV.trans (h3.mono hV.size)
          exact ⟨v', w', h1, h2, h4, (hB5.below h4).cells⟩
        have HE5 : Hid (∀ V, Below W5.heap.size W5 V → blk2 V (w.heap.size + 1) (.int .i64 n) (.string z) ∧ Below w.heap.size w V) := fun V hV => ⟨hB5.below hV, hbw5.trans (hV.mono hbw5.size)⟩
        have kk := Below.refl W5.heap.size W5
        have k0 : Below W5.heap.size W5 W5.drew := kk.drew
        obtain ⟨m0, m1⟩ := HC5.out W5 kk
        have HCS : Hid (∀ V, Below W5.heap.size W5 V → ((V.setCell ⟨w.heap.size + 1, 0, none⟩ (.int .i64 n)).setCell ⟨w.heap.size + 1, 1, none⟩ (.string z)).cell? ⟨w.heap.size + 1, 0, none⟩ = some (.int .i64 n) ∧ ((V.setCell ⟨w.heap.size + 1, 0, none⟩ (.int .i64 n)).setCell ⟨w.heap.size + 1, 1, none⟩ (.string z)).cell? ⟨w.heap.size + 1, 1, none⟩ = some (.string z)) := fun V hV => (((hB5.below hV).set0 _).set1 _).cells.1
        clear hW5 hB4 hbw4 hA4 hs4 c0 c1 z0 z1 hB5 hbw5 hA5 hs5 HN
        go_region_held3 (fun V => V.cell? ⟨w.heap.size + 1, 0, none⟩ = some (.int .i64 n) ∧ V.cell? ⟨w.heap.size + 1, 1, none⟩ = some (.string z))
          (first | with_reducible exact HC5.out _ kk | with_reducible exact HC5.out _ k0 | with_reducible exact HCS.out _ kk)
          (first
            | (go_at_call 87; go_fit (HN5.out _ ?_); (first | with_reducible exact kk | with_reducible exact k0); rintro e vv ⟨ai, rfl, hAi, kk⟩)
            | (obtain ⟨v5, w5, hr5, hA6, kk, ⟨c0, c1⟩, z0, z1⟩ := HAP.out _ _ _ kk hAi; refine step_run (by rfl) (.tmp 35) (.tmp 36) 68 (by rfl) (by rfl) (by rfl) hr5 ?_))
        all_goals
          obtain ⟨hBx, hbx⟩ := HE5.out _ kk
          obtain ⟨⟨y0, y1⟩, q1, q2⟩ := box_end (w := w) (w1 := w5) (Q := w.heap.size + 1) (.int .i64 n) (.string z) hBx (Nat.le_succ _) hbx hA6
          clear HC5 HN5 HAP HE5 HCS c0 c1 z0 z1 hr5
          go_wp2_with fail
          rw [hR.out]
          exact bodyPost_ret (v := .tuple #[.agg #[.int .i64 n, .string z], v5]) (by simp [results, Tryz.results56, go_sem, y0, y1]) rfl ⟨_, by rw [HV.out], q2, q1⟩
end Go.Proofs.YtpkjaallhhjleaaGreatDoor
