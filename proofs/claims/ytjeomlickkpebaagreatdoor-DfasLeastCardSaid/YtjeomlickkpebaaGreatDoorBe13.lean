/-
  nfas.NFA.reached: what it returns.
-/
import Derived.Deep.OwnRows
import Derived.Deep.CutRange
import Derived.Test.YtjeomlickkpebaaGreatDoorBe12
namespace Go.Proofs.YtjeomlickkpebaaGreatDoor
open Go.RowKit

/-- append, in a plain region, by what it comes to. -/
theorem napp_list {w w' : World} {v u v' : Value} {ops : Array Oper} {rest : List Oper} {o : Oper} {a : Act} {Q : Exit → Act → World → Prop} (hgd : o.guard = none) (s x : Operand) (t : TypeId)
    (ho : o.op = .call { callee := .builtin .append, args := #[s, x], argTypes := #[t, t] })
    (hs : a.eval s = v) (hx : a.eval x = u) (hr : (Builtin.append_ #[t, t] o.type #[v, u]).run Tryz.prog w = .ok v' w') (h : wpList Tryz.prog ops Q rest (a.put o.dst v') w') : wpList Tryz.prog ops Q (o :: rest) a w := by
  refine wpList_plain hgd fun K hK => ?_
  unfold Oper.wp execOp
  simp only [ho, resolve, invoke, builtin, Sem.run_bind, Sem.run_pure, Result.andThen_ok, List.map_toArray, List.map_cons, List.map_nil, hs, hx, hr]
  exact hK _ _ h
theorem Tryz.infoBoolN : (Tryz.prog.info? 4).map (fun i => (i.zero, i.size, i.bytes)) = some (some (.bool false), 1, 1) := by kernel_rfl
theorem none_rep : ∀ n, noneB n = List.replicate n false
  | 0 => rfl
  | n + 1 => by rw [noneB, none_rep n, List.replicate_succ]
theorem made_none (n : Nat) : madeCells #[.bool false] n = (boolC (noneB n)).toArray := by
  apply Array.ext'
  rw [toList_madeCells_one, none_rep]
  simp [boolC]
theorem nmake (n : Nat) (hn : n ≤ 1000000) (w : World) : (Instr.makeSlice 46 (.int .i64 (n : Int)) (.int .i64 (n : Int))).run Tryz.prog w = .ok (.slice (some ⟨w.heap.size, 0, none⟩) n n) (w.alloc (.cells (boolC (noneB n)).toArray 4)) := by
  rw [← made_none]
  exact run_make_row' (P := Tryz.prog) 46 4 (.bool false) 1 Tryz.underlying46 Tryz.infoBoolN rfl .i64 .i64 n (by omega) (by omega) w
theorem blkM_new (w : World) (n : Nat) : blkM (w.alloc (.cells (boolC (noneB n)).toArray 4)) w.heap.size (noneB n) := heap_alloc_new w _
theorem blkM.keep {ok : Nat → Prop} {w w' : World} {G : Nat} {l : List Bool} (h : blkM w G l) (hk : KeepW ok w w') (ho : ok G) : blkM w' G l := (hk.same G h.lt ho).trans h
/-- What lies in memory while the marked ones are gathered. -/
structure ReW (w0 w : World) (G : Nat) (M : List Bool) (v : Value) (l : List Int) : Prop where
  m : blkM w G M
  o : OwnI (G + 1) w v l
  b : Below w0.heap.size w0 w
  g : w0.heap.size ≤ G
theorem ReW.sz {w0 w : World} {G : Nat} {M : List Bool} {v : Value} {l : List Int} (h : ReW w0 w G M v l) : w0.heap.size ≤ w.heap.size := h.b.size
theorem ReW.push {w0 w : World} {G : Nat} {M : List Bool} {v : Value} {l : List Int} (h : ReW w0 w G M v l) (a : Int) (t ty : TypeId) (ht : Tryz.prog.underlying t = some (.slice 3)) (hl : l.length ≤ 100000) :
    ∃ v' w', (Builtin.append_ #[t, t] ty #[v, .slice (some ⟨w.heap.size, 0, none⟩) 1 1]).run Tryz.prog (w.alloc (.cells #[.int .i64 a] 3)) = .ok v' w' ∧ ReW w0 w' G M v' (l ++ [a]) := by
  have hG := h.m.lt
  have hg := h.g
  have hba := alloc_under w (.cells #[.int .i64 a] 3)
  have hm1 := h.m.keep (keep_below (fun _ => True) hba) trivial
  have ho1 := h.o.below hba
  have hb1 := h.b.trans (hba.mono h.b.size)
  obtain ⟨v', w', hr, h1, h2, h3⟩ := run_snocI t ty ht ho1 (by have := cell_one_new w (.int .i64 a) 3 0 _ rfl; rw [rlit] at this; exact this) (by have := hba.size; omega) hl
  have hno : ∀ k, k < G + 1 → v.ownBlock ≠ some k := fun k hk e => by have := (World.ownsRow.lt ho1 k e).1; omega
  exact ⟨v', w', hr, ⟨hm1.keep h2 (hno G (by omega)), h1, KeepW.below hb1 h2 hb1.size fun k hk => hno k (by omega), hg⟩⟩
theorem keep_len (q : List Sta) (M : List Bool) : ∀ n, (keepP q M n).length ≤ n
  | 0 => Nat.le_refl _
  | n + 1 => by
    have := keep_len q M n
    rw [keepP]
    split
    · rw [List.length_append]; simp; omega
    · omega
/-- Such a slice, in a block that is new. -/
def IntsN (N : Nat) (w : World) (v : Value) (l : List Int) : Prop := RowZ (fun k => N ≤ k) w v l.length (numC l) ∧ l.length ≤ 1000000
theorem IntsN.ints {N : Nat} {w : World} {v : Value} {l : List Int} (h : IntsN N w v l) : IntsW w v l := ⟨h.1.mono fun _ _ _ => trivial, h.2⟩
theorem IntsN.mono {M N : Nat} {w : World} {v : Value} {l : List Int} (h : IntsN N w v l) (hm : M ≤ N) : IntsN M w v l := ⟨h.1.mono fun _ _ e => Nat.le_trans hm e, h.2⟩
theorem IntsN.nil (N : Nat) (w : World) : IntsN N w (.slice none 0 0) [] := ⟨RowZ.nil _ _, Nat.zero_le _⟩
section
variable {w : World} {v fv : Value} {q : List Sta} {first l : List Int}
set_option maxRecDepth 4000 in
set_option maxHeartbeats 4000000 in
theorem nreach_new (h : NfaR w v q first) (hq : ∀ (i : Nat) (s : Sta), q[i]? = some s → StOk q.length s) (hl : IntsW w fv l) (hi : InQ q l) :
    Calls Tryz.prog 42 #[v, fv] w fun e w' => ∃ r, e = .returned r ∧ IntsN w.heap.size w' r (reachP q l) ∧ Below w.heap.size w w' := by
  obtain ⟨B, ao, cap, _, _, hv, c0, hn, _, _, _⟩ := h.form
  obtain ⟨fo, fc, rfl, hfc⟩ := hl.form
  have hfew := h.few
  have hflen := hl.2
  have hmk := nmake q.length (by omega) w
  have hml := (marks_ok q hq l (noneB q.length) hi (noneB_len _)).1
  have HM := Lib.hid (fun (k a : Nat) (W : World) (M : List Bool) (hb : Below w.heap.size w W) (hM : blkM W w.heap.size M) (hm : M.length = q.length) (ha : a < q.length) =>
    nmark_any h hq q.length w.heap.size M a W q.length (Nat.le_refl _) (Nat.le_refl _) hb hM hm ha (by have := open_le M; omega))
  have HI := Lib.hid (fun (a : Nat) (W : World) (hb : Below w.heap.size w W) => nis_any (h.below hb) (a : Int) 1)
  have HS := Lib.hid (show blkM (w.alloc (.cells (boolC (noneB q.length)).toArray 4)) w.heap.size (noneB q.length) ∧ Below w.heap.size w (w.alloc (.cells (boolC (noneB q.length)).toArray 4)) from ⟨blkM_new _ _, alloc_under _ _⟩)
  have HL := Lib.hid hl
  have HQ := Lib.hid hi
  have HQS := Lib.hid hq
  have HML := Lib.hid hml
  obtain ⟨n, hqn⟩ : ∃ n, q.length = n := ⟨_, rfl⟩
  have HN := Lib.hid hqn
  obtain ⟨m, hlm⟩ : ∃ m, l.length = m := ⟨_, rfl⟩
  have HLM := Lib.hid hlm
  rw [hqn] at hmk HS hn c0 hfew
  rw [hlm] at hfc hflen HL ⊢
  subst hv
  clear hml hi hl hq h hqn hlm
  go_enter Tryz.func42, Tryz.ntmps42
  go_wp2_with fail
  obtain ⟨W1, hW1⟩ : ∃ W1, w.alloc (.cells (boolC (noneB n)).toArray 4) = W1 := ⟨_, rfl⟩
  (try rw [hW1])
  rw [hW1] at HS
  clear hW1 hmk
  obtain ⟨G, hG⟩ : ∃ G, w.heap.size = G := ⟨_, rfl⟩
  (try rw [hG])
  rw [hG] at HS HM
  have HG := Lib.hid hG
  clear hG
  have HS1 : Hid (blkM W1 G (marksP q (l.take 0) (noneB q.length)) ∧ Below w.heap.size w W1) := by
    refine Lib.hid ⟨?_, by rw [HG.out]; exact HS.out.2⟩
    rw [List.take_zero, marksP, HN.out]; exact HS.out.1
  clear HS
  go_loopw [19] (fun s19 wr => ∃ i : Nat, s19 = .int .i64 (i : Int) ∧ i ≤ m ∧ Hid (blkM wr G (marksP q (l.take i) (noneB q.length)) ∧ Below w.heap.size w wr)) (fun s19 _ => m - (intOf s19).toNat)
  case atStart => exact ⟨0, rfl, Nat.zero_le _, HS1⟩
  case round =>
    obtain ⟨i, rfl, hi, HI1⟩ := hrel
    clear HS1
    have i0 : (0 : Int) ≤ (i : Int) := by omega
    have ib : (i : Int) ≤ 1000000 := by omega
    by_cases hlt : i < m
    · have hli : (i : Int) < (m : Int) := by omega
      have hla : i < l.length := by have := HLM.out; omega
      have hil : l[i]? = some l[i] := List.getElem?_eq_getElem hla
      obtain ⟨a, ha⟩ : ∃ a : Nat, l[i] = (a : Int) := ⟨l[i].toNat, by have := (HQ.out l[i] (List.getElem_mem hla)).1; omega⟩
      have haq := (HQ.out l[i] (List.getElem_mem hla)).2
      rw [ha] at haq hil
      obtain ⟨g, o, c2, hfv, _, hx⟩ := (HL.out.below HI1.out.2).at_ (i := i) hil
      injection hfv with e1 e2 e3
      subst e1
      clear e2 e3
      have hlen : (marksP q (l.take i) (noneB q.length)).length = q.length := (marks_ok q HQS.out (l.take i) (noneB q.length) (fun x hx => HQ.out x (List.mem_of_mem_take hx)) (noneB_len _)).1
      have H1 := Lib.hid (HM.out 0 a wr _ (by rw [← HG.out]; exact HI1.out.2) HI1.out.1 hlen (by omega))
      have HT : Hid (markF q.length q (marksP q (l.take i) (noneB q.length)) a = marksP q (l.take (i + 1)) (noneB q.length)) := by
        refine Lib.hid ?_
        rw [List.take_add_one, hil]
        show _ = marksP q (l.take i ++ [(a : Int)]) _
        rw [marks_snoc, Int.toNat_natCast]
      rw [HN.out] at H1
      clear hil ha haq hlen hla
      go_wp2_with fail
      go_fit H1.out
      rintro e w2 ⟨rfl, hM2, hb2⟩
      have H2 : Hid (blkM w2 G (marksP q (l.take (i + 1)) (noneB q.length)) ∧ Below w.heap.size w w2) := by
        refine Lib.hid ⟨?_, by rw [HG.out]; exact hb2⟩
        rw [← HT.out, HN.out]; exact hM2
      clear hM2 hb2 hx
      go_wp2_with fail
      go_roundw
      case rel => exact ⟨i + 1, by go_num, hlt, H2⟩
      case measure => simp [intOf]; omega
    · have hli : ¬ (i : Int) < (m : Int) := by omega
      have him : i = m := by omega
      have H2 : Hid (∃ vv, vv = Value.slice none 0 0 ∧ ReW w wr G (marksP q l (noneB q.length)) vv (keepP q (marksP q l (noneB q.length)) 0)) := by
        refine Lib.hid ⟨_, rfl, ?_, World.ownsRow_nil _ _ _ _, HI1.out.2, by rw [HG.out]; exact Nat.le_refl _⟩
        have := HI1.out.1
        rw [him, List.take_of_length_le (by rw [HLM.out]; exact Nat.le_refl _)] at this
        exact this
      obtain ⟨M, hM⟩ : ∃ M, marksP q l (noneB q.length) = M := ⟨_, rfl⟩
      have HR : Hid (reachP q l = keepP q M n) := Lib.hid (by unfold reachP; rw [hM, HN.out])
      rw [hM] at H2 HML
      clear him HI1 HM hM
      go_wp2_with fail
      obtain ⟨wo, hwo⟩ : ∃ wo : World, wr = wo := ⟨_, rfl⟩
      rw [hwo] at H2
      (try rw [hwo])
      clear hwo hi hlt hli i0 ib
      go_loopw [8, 30] (fun s8 s30 wr => ∃ k : Nat, s30 = .int .i64 (k : Int) ∧ k ≤ n ∧ Hid (∃ vv, vv = s8 ∧ ReW w wr G M vv (keepP q M k))) (fun _ s30 _ => n - (intOf s30).toNat)
      case atStart => exact ⟨0, rfl, Nat.zero_le _, H2⟩
      case round =>
        obtain ⟨k, rfl, hk, HK⟩ := hrel
        clear H2
        obtain ⟨vv, hvv, hK⟩ := HK.out
        subst hvv
        have H3 := Lib.hid hK
        clear HK hK
        have k0 : (0 : Int) ≤ (k : Int) := by omega
        have kb : (k : Int) ≤ 1000000 := by omega
        by_cases hlt : k < n
        · have hli : (k : Int) < (n : Int) := by omega
          have hx := H3.out.m.at_ (i := k) (by have := HML.out; have := HN.out; omega) false
          obtain ⟨b, hb⟩ : ∃ b, M.getD k false = b := ⟨_, rfl⟩
          rw [hb] at hx
          have H4 := Lib.hid (HI.out k wr H3.out.b)
          have hisP : isP q (k : Int) 1 = decide ((q[k]?.map (·.kind)) = some 1) := by
            unfold isP lookS
            rw [if_pos (by omega), Int.toNat_natCast]
            rcases q[k]? with _ | s
            · rfl
            · simp only [Option.map_some, Option.some.injEq]
              rw [Bool.eq_iff_iff]; simp
          rw [hisP] at H4
          cases b with
          | false =>
            have HE : Hid (keepP q M (k + 1) = keepP q M k) := Lib.hid (by rw [keepP, if_neg (fun h => by rw [hb] at h; exact absurd h.1 (by decide))])
            clear hb hisP H4
            go_wp2_with fail
            go_roundw
            case rel => exact ⟨k + 1, by go_num, hlt, Lib.hid ⟨_, rfl, by rw [HE.out]; exact H3.out⟩⟩
            case measure => simp [intOf]; omega
          | true =>
            obtain ⟨d, hd⟩ : ∃ d, decide ((q[k]?.map (·.kind)) = some 1) = d := ⟨_, rfl⟩
            rw [hd] at H4
            cases d with
            | true =>
              have HE : Hid (keepP q M (k + 1) = keepP q M k) := Lib.hid (by rw [keepP, if_neg (fun h => h.2 (of_decide_eq_true hd))])
              clear hb hisP hd
              go_wp2_with fail
              go_fit H4.out
              rintro e w2 ⟨rfl, rfl⟩
              go_wp2_with fail
              go_roundw
              case rel => exact ⟨k + 1, by go_num, hlt, Lib.hid ⟨_, rfl, by rw [HE.out]; exact H3.out⟩⟩
              case measure => simp [intOf]; omega
            | false =>
              have HE : Hid (keepP q M (k + 1) = keepP q M k ++ [(k : Int)]) := Lib.hid (by rw [keepP, if_pos ⟨hb, of_decide_eq_false hd⟩])
              have hkl := keep_len q M k
              obtain ⟨v', w', hr, hR⟩ := H3.out.push (k : Int) 39 39 Tryz.underlying39 (by omega)
              have H5 := Lib.hid hR
              clear hb hisP hd hkl hR
              go_wp2_with fail
              go_fit H4.out
              rintro e w2 ⟨rfl, rfl⟩
              go_wp2_with (at_builtin; refine napp_list (by rfl) _ _ 39 (by rfl) (by rfl) (by rfl) hr ?_)
              go_roundw
              case rel => exact ⟨k + 1, by go_num, hlt, Lib.hid ⟨_, rfl, by rw [HE.out]; exact H5.out⟩⟩
              case measure => simp [intOf]; omega
        · have hli : ¬ (k : Int) < (n : Int) := by omega
          have hkn : k = n := by omega
          rw [hkn] at H3
          have hkl := keep_len q M n
          have HF := Lib.hid (show IntsN w.heap.size wr vv (reachP q l) ∧ Below w.heap.size w wr from ⟨by rw [HR.out]; exact ⟨(ownZ H3.out.o).mono fun _ _ e => by have := H3.out.g; omega, by omega⟩, H3.out.b⟩)
          clear hkn hkl H3
          go_wp2_with fail
          go_ret
          exact ⟨_, rfl, HF.out⟩
end
end Go.Proofs.YtjeomlickkpebaaGreatDoor
