/-
  Texts of this proof, one behind the other; each begins with its own remark.
-/
import Derived.Deep.CutRange
import Derived.Test.YtkopbngnhgdfhaaDoorBe23
import Derived.Test.YtkopbngnhgdfhaaDoorBe34
import Derived.Test.YtkopbngnhgdfhaaDoorBe13
import Derived.Test.YtkopbngnhgdfhaaDoorBe35
/-
  nfas.NFA.build: what it does with any node that may be; nfas.size, nfas.parsed: what they return.
-/
namespace Go.Proofs.YtkopbngnhgdfhaaDoor
open Go.RowKit

theorem mayL_mem : ∀ {l : List Nd} {m : Nd}, mayL l = true → m ∈ l → mayR m = true
  | n :: l, m, h, hm => by
    rw [mayL, Bool.and_eq_true] at h
    rcases List.mem_cons.1 hm with rfl | hm
    · exact h.1
    · exact mayL_mem h.2 hm
theorem builds_any : ∀ (N : Nat) (n : Nd), wtR n ≤ N → mayR n = true → BuildsW n
  | 0, n, h, _ => absurd (wt_pos n) (by omega)
  | N + 1, n, h, hm => by
    have hf : formR n.kind n.set n.kids.length = true ∧ mayL n.kids = true := by
      cases n with
      | mk k s l => exact may_parts hm
    obtain ⟨f0, f6, f1, f4, f2, _⟩ := form_spec hf.1
    have hk := wt_kids n
    have hB : ∀ m, m ∈ n.kids → BuildsW m := fun m hmem => builds_any N m (by have := wtL_mem n.kids m hmem; omega) (mayL_mem hf.2 hmem)
    have hone : 4 ≤ n.kind → ∃ m, n.kids = [m] := fun h4 => by
      have h1 := f4 h4
      match hl : n.kids with
      | [m] => exact ⟨m, rfl⟩
      | [] => rw [hl] at h1; cases h1
      | _ :: _ :: _ => rw [hl] at h1; simp at h1
    intro P w B q first fv next x h1 h2 h3 h4
    by_cases k1 : n.kind = 1
    · exact nbuild_bytes k1 h1 h2 next x h3 h4
    by_cases k2 : n.kind = 2
    · exact nbuild_cat k2 hB h1 h2 next x h3 h4
    by_cases k3 : n.kind = 3
    · exact nbuild_alt k3 hB (f2 (.inr k3)) h1 h2 next x h3 h4
    by_cases k4 : n.kind = 4
    · obtain ⟨m, hl⟩ := hone (by omega)
      exact nbuild_star k4 m hl (hB m (by rw [hl]; simp)) h1 h2 next x h3 h4
    by_cases k5 : n.kind = 5
    · obtain ⟨m, hl⟩ := hone (by omega)
      exact nbuild_plus k5 m hl (hB m (by rw [hl]; simp)) h1 h2 next x h3 h4
    by_cases k6 : n.kind = 6
    · obtain ⟨m, hl⟩ := hone (by omega)
      exact nbuild_maybe k6 m hl (hB m (by rw [hl]; simp)) h1 h2 next x h3 h4
    exact nbuild_none ⟨k1, k2, k3, k4, k5, k6⟩ h1 h2 next x h3

/-! ### All rules' texts -/
/-- The first error; 0: there is none. -/
def errsP : List ByteArray → Int
  | [] => 0
  | s :: l => if (parseP s).2 = 0 then errsP l else (parseP s).2
def nodesP (l : List ByteArray) : List Nd := l.map fun s => (parseP s).1
def sizeP : List ByteArray → Nat
  | [] => 0
  | s :: l => s.size + sizeP l
theorem sizeP_app : ∀ (l m : List ByteArray), sizeP (l ++ m) = sizeP l + sizeP m
  | [], m => by simp [sizeP]
  | s :: l, m => by rw [List.cons_append, sizeP, sizeP, sizeP_app l m, Nat.add_assoc]
theorem errs_app : ∀ (l m : List ByteArray), errsP l = 0 → errsP (l ++ m) = errsP m
  | [], m, _ => rfl
  | s :: l, m, h => by
    rw [errsP] at h
    split at h
    · rename_i h0
      rw [List.cons_append, errsP, if_pos h0]
      exact errs_app l m h
    · rename_i h0; exact absurd h h0
theorem errs_all : ∀ (l : List ByteArray), errsP l = 0 → ∀ s, s ∈ l → (parseP s).2 = 0
  | t :: l, h, s, hs => by
    rw [errsP] at h
    split at h
    · rename_i h0
      rcases List.mem_cons.1 hs with rfl | hs
      · exact h0
      · exact errs_all l h s hs
    · rename_i h0; exact absurd h h0
theorem parse_cases (s : ByteArray) : (parseP s).2 = 0 ∧ s.size ≤ 200 ∧ parseR (bytesR s) = some (parseP s).1 ∨ ((parseP s).2 = 3 ∨ (parseP s).2 = 10) ∧ (parseP s).1 = emptyR := by
  unfold parseP
  split
  · exact .inr ⟨.inl rfl, rfl⟩
  · rename_i h
    rcases hp : parseR (bytesR s) with _ | n
    · exact .inr ⟨.inr rfl, rfl⟩
    · exact .inl ⟨rfl, by omega, rfl⟩
theorem parse_ok (s : ByteArray) : mayR (parseP s).1 = true ∧ wfR (parseP s).1 ∧ wtR (parseP s).1 ≤ 403 ∧ ((parseP s).2 = 0 → s.size ≤ 200 ∧ wtR (parseP s).1 ≤ 2 * s.size + 3) := by
  rcases parse_cases s with ⟨_, h2, h3⟩ | ⟨h1, h2⟩
  · obtain ⟨a, b, _⟩ := parse_good _ _ (fun y hy => by
      unfold bytesR at hy
      obtain ⟨x, _, rfl⟩ := List.mem_map.1 hy
      exact UInt8.toNat_lt x) h3
    have hw := wt_parse _ _ h3
    rw [bytesR_len] at hw
    exact ⟨a, b, by omega, fun _ => ⟨h2, hw⟩⟩
  · rw [h2]
    refine ⟨rfl, ⟨ok_no, trivial⟩, by decide, fun h => ?_⟩
    rcases h1 with h1 | h1 <;> rw [h1] at h <;> cases h
theorem nodes_good (l : List ByteArray) : GoodL (nodesP l) := fun n hn => by
  obtain ⟨s, _, rfl⟩ := List.mem_map.1 hn
  exact ⟨(parse_ok s).1, (parse_ok s).2.1⟩
theorem nodes_wt : ∀ (l : List ByteArray), (∀ s, s ∈ l → (parseP s).2 = 0) → wtL (nodesP l) ≤ 2 * sizeP l + 3 * l.length
  | [], _ => Nat.zero_le _
  | s :: l, h => by
    have h1 := ((parse_ok s).2.2.2 (h s (by simp))).2
    have h2 := nodes_wt l fun t ht => h t (by simp [ht])
    show wtL ((parseP s).1 :: nodesP l) ≤ _
    rw [wtL, sizeP, List.length_cons]
    omega
section
variable {w : World} {v : Value} {L : List ByteArray}
theorem StrsW.form {w : World} {v : Value} {xs : List ByteArray} (h : StrsW w v xs) : ∃ ao cap, v = .slice ao xs.length cap ∧ xs.length ≤ cap := by
  obtain ⟨ao, cap, hv, hn, _⟩ := h
  exact ⟨ao, cap, hv, hn⟩
theorem StrsW.get {w : World} {v : Value} {xs : List ByteArray} {i : Nat} {x : ByteArray} (h : StrsW w v xs) (hi : xs[i]? = some x) : ∃ g o cap, v = .slice (some ⟨g, o, none⟩) xs.length cap ∧ w.cell? ⟨g, o + i, none⟩ = some (.string x) := by
  obtain ⟨ao, cap, hv, hn, hc⟩ := h
  obtain ⟨g, o, ha, hg⟩ := hc i x hi
  exact ⟨g, o, cap, by rw [hv, ha], hg⟩
set_option maxHeartbeats 2000000 in
theorem nsize_any (h : StrsW w v L) (hL : L.length ≤ 1000) (hs : ∀ s, s ∈ L → s.size ≤ 1000) :
    Calls Tryd.prog 34 #[v] w fun e w' => e = .returned (.int .i64 (sizeP L : Int)) ∧ w' = w := by
  obtain ⟨vo, vc, rfl, hvc⟩ := h.form
  have hb : ∀ k, sizeP (L.take k) ≤ 1000 * k := fun k => by
    induction k with
    | zero => rw [List.take_zero]; exact Nat.zero_le _
    | succ k ih =>
      rw [List.take_add_one, sizeP_app]
      rcases hx : L[k]? with _ | s
      · show _ + 0 ≤ _; omega
      · have := hs s (List.mem_of_getElem? hx)
        show _ + (s.size + 0) ≤ _
        omega
  have HB := Lib.hid hb
  have HV := Lib.hid h
  obtain ⟨m, hm⟩ : ∃ m, L.length = m := ⟨_, rfl⟩
  have HM := Lib.hid hm
  rw [hm] at hvc hL HV ⊢
  clear h hm hs hb
  go_enter Tryd.func34, Tryd.ntmps34
  go_wp2_with fail
  go_loop [3, 8] (fun s3 s8 => ∃ (i z : Nat), s8 = .int .i64 (i : Int) ∧ i ≤ m ∧ s3 = .int .i64 (z : Int) ∧ Hid (z = sizeP (L.take i))) (fun _ s8 => m - (intOf s8).toNat)
  case atStart => exact ⟨0, 0, rfl, Nat.zero_le _, rfl, Lib.hid (by rw [List.take_zero, sizeP])⟩
  case round =>
    obtain ⟨i, z, rfl, hi, rfl, HZ⟩ := hrel
    have i0 : (0 : Int) ≤ (i : Int) := by omega
    have ib : (i : Int) ≤ 1000 := by omega
    by_cases hlt : i < m
    · have hli : (i : Int) < (m : Int) := by omega
      have hla : i < L.length := by have := HM.out; omega
      obtain ⟨s, hs⟩ : ∃ s, L[i] = s := ⟨_, rfl⟩
      have hil : L[i]? = some s := by rw [List.getElem?_eq_getElem hla, hs]
      obtain ⟨g, o, c, hve, hc⟩ := HV.out.get hil
      injection hve with e1 e2 e3
      subst e1
      clear e2 e3
      have HZ2 : Hid (z + s.size = sizeP (L.take (i + 1))) := Lib.hid (by rw [List.take_add_one, hil, sizeP_app, HZ.out]; show _ = _ + (s.size + 0); omega)
      have hzb := HB.out (i + 1)
      rw [← HZ2.out] at hzb
      have hz1 : (z : Int) + (s.size : Int) ≤ 1000000 := by omega
      have hz0 : (0 : Int) ≤ (z : Int) := by omega
      have hs0 : (0 : Int) ≤ (s.size : Int) := by omega
      have hzw : IntKind.i64.wrap ((z : Int) + (s.size : Int)) = (z : Int) + (s.size : Int) := by apply IntWalk.i64_in <;> omega
      clear hla hs hil hzb
      go_wp2_with fail
      go_round
      case rel => exact ⟨i + 1, z + s.size, by go_num, hlt, by go_num, HZ2⟩
      case measure => simp [intOf] <;> omega
    · have hli : ¬ (i : Int) < (m : Int) := by omega
      have HF : Hid (z = sizeP L) := Lib.hid (by rw [HZ.out, List.take_of_length_le (by have := HM.out; omega)])
      go_wp2_with fail
      go_ret
      exact ⟨by rw [← HF.out]; rfl, rfl⟩
end
end Go.Proofs.YtkopbngnhgdfhaaDoor

/-
  nfas.parsed: what it returns.
-/
namespace Go.Proofs.YtkopbngnhgdfhaaDoor
open Go.RowKit

def nodeZ : Value := .agg #[.int .i64 0, .int .u64 0, .int .u64 0, .int .u64 0, .int .u64 0, .slice none 0 0]
theorem Tryd.infoNodeN : (Tryd.prog.info? 26).map (fun i => (i.zero, i.size, i.bytes)) = some (some nodeZ, 6, 64) := by kernel_rfl
/-- What lies in memory while the nodes are gathered. -/
structure PaW (w0 w : World) (v : Value) (ns : List Nd) : Prop where
  out : OutN 26 w0.heap.size w v ns
  b : Below w0.heap.size w0 w
section
variable {w0 w w' : World} {v : Value} {ns : List Nd}
theorem PaW.under (h : PaW w0 w v ns) (hb : Below w.heap.size w w') : PaW w0 w' v ns := ⟨h.out.below hb, h.b.trans (hb.mono h.b.size)⟩
theorem PaW.push {X N : Nat} {n : Nd} {u : Value} (h : PaW w0 w v ns) (hb : Below w.heap.size w w') (t ty : TypeId) (ht : Tryd.prog.underlying t = some (.slice 26)) (hX : ∀ (j : Nat) x, (nodeC n u)[j]? = some x → w'.cell? ⟨X, j, none⟩ = some x) (hs : OkR n.set)
    (hu : KidsW (fun k => N ≤ k) w' n.kids u) (hN : N = w.heap.size) (hl : ns.length ≤ 100000) :
    ∃ v' w3, (Builtin.append_ #[t, t] ty #[v, .slice (some ⟨X, 0, none⟩) 1 1]).run Tryd.prog w' = .ok v' w3 ∧ PaW w0 w3 v' (ns ++ [n]) := by
  have hlt := h.out.lt
  have hsz := h.b.size
  have hsz2 := hb.size
  obtain ⟨i0, hi, hz0, hz1, hz2⟩ := info_of Tryd.infoNodeN
  have hout : OutP 26 w0.heap.size (fun k => w0.heap.size ≤ k) w' v ns := h.out.below hb
  obtain ⟨v', w3, hr, hO, hk, _⟩ := run_outP (P := fun k => w0.heap.size ≤ k) (ok := fun k => N ≤ k) t ty i0 nodeZ ht hi hz0 rfl hz1 hz2 hout hX hs hu (fun k _ hp => ⟨by omega, fun e => by have := (hlt k e).2; omega⟩) (by omega) hl
  have h2 := h.under hb
  exact ⟨v', w3, hr, hO, KeepW.below h2.b hk h2.b.size fun k hk e => by have := (hlt k e).1; omega⟩
end
theorem nodes_app (l m : List ByteArray) : nodesP (l ++ m) = nodesP l ++ nodesP m := List.map_append
section
variable {w : World} {v : Value} {L : List ByteArray}
set_option maxRecDepth 4000 in
set_option maxHeartbeats 4000000 in
theorem nparsed_any (h : StrsW w v L) (he : ErrW w) (hL : L.length ≤ 1000) :
    Calls Tryd.prog 33 #[v] w fun e w' => (∃ r, e = .returned (.tuple #[r, .int .i64 (errsP L)]) ∧ (errsP L = 0 → KidsW (fun k => w.heap.size ≤ k) w' (nodesP L) r)) ∧ Below w.heap.size w w' := by
  obtain ⟨vo, vc, rfl, hvc⟩ := h.form
  have HV := Lib.hid h
  have HP := Lib.hid (fun (s : ByteArray) (W : World) (hb : Below w.heap.size w W) => pparse_any s W (he.below hb))
  obtain ⟨m, hm⟩ : ∃ m, L.length = m := ⟨_, rfl⟩
  have HM := Lib.hid hm
  rw [hm] at hvc hL HV ⊢
  clear h hm he
  have H0 : Hid (∃ vv, vv = Value.slice none 0 0 ∧ PaW w w vv (nodesP (L.take 0)) ∧ errsP (L.take 0) = 0) := Lib.hid ⟨_, rfl, ⟨OutN.nil _ _ _, Below.refl _ _⟩, by rw [List.take_zero, errsP]⟩
  go_enter Tryd.func33, Tryd.ntmps33
  go_wp2_with fail
  go_loopw [4, 11] (fun s4 s11 wr => ∃ i : Nat, s11 = .int .i64 (i : Int) ∧ i ≤ m ∧ Hid (∃ vv, vv = s4 ∧ PaW w wr vv (nodesP (L.take i)) ∧ errsP (L.take i) = 0)) (fun _ s11 _ => m - (intOf s11).toNat)
  case atStart => exact ⟨0, rfl, Nat.zero_le _, H0⟩
  case round =>
    obtain ⟨i, rfl, hi, HX⟩ := hrel
    clear H0
    obtain ⟨vv, hvv, hX, hE⟩ := HX.out
    subst hvv
    have HQ := Lib.hid hX
    have HE := Lib.hid hE
    clear HX hX hE
    have i0 : (0 : Int) ≤ (i : Int) := by omega
    have ib : (i : Int) ≤ 1000 := by omega
    by_cases hlt : i < m
    · have hli : (i : Int) < (m : Int) := by omega
      have hla : i < L.length := by have := HM.out; omega
      obtain ⟨s, hs⟩ : ∃ s, L[i] = s := ⟨_, rfl⟩
      have hil : L[i]? = some s := by rw [List.getElem?_eq_getElem hla, hs]
      obtain ⟨g, o, c, hve, hc⟩ := (HV.out.below HQ.out.b).get hil
      injection hve with e1 e2 e3
      subst e1
      clear e2 e3
      have HT : Hid (L.take (i + 1) = L.take i ++ [s] ∧ L = L.take i ++ s :: L.drop (i + 1)) := Lib.hid ⟨by rw [List.take_add_one, hil]; rfl, by
        have h1 := List.drop_eq_getElem_cons hla
        rw [hs] at h1
        rw [← h1, List.take_append_drop]⟩
      have HA := Lib.hid (HP.out s wr HQ.out.b)
      have hcs : (parseP s).2 = 0 ∨ ¬ (parseP s).2 = 0 := by omega
      obtain ⟨⟨n, er⟩, hp⟩ : ∃ r, parseP s = r := ⟨_, rfl⟩
      rw [hp] at HA hcs
      simp only at HA hcs
      have HPP := Lib.hid hp
      clear hla hs hil hp
      go_wp2_with fail
      go_fit HA.out
      rintro e w2 ⟨x, rfl, ⟨hso, u, rfl, hu⟩, hb2⟩
      obtain ⟨uo, uc, rfl, _⟩ := KidsF.form hu
      have hu2 := KidsF.W hu
      have H2 := Lib.hid (And.intro hso (And.intro hu2 hb2))
      have hbox := boxN.new 26 w2 n.kind n.set (.slice uo n.kids.length uc)
      have hba := alloc_under w2 (.cells #[.int .i64 n.kind, .int .u64 (n.set.1 : Int), .int .u64 (n.set.2.1 : Int), .int .u64 (n.set.2.2.1 : Int), .int .u64 (n.set.2.2.2 : Int), .slice uo n.kids.length uc] 26)
      have H3 := Lib.hid (And.intro hbox (And.intro hba (HQ.out.b.trans ((hb2.trans (hba.mono hb2.size)).mono HQ.out.b.size))))
      clear hso hu hu2 hb2 HA hbox hba
      unfold nodeV
      rcases hcs with he0 | he0
      · subst he0
        obtain ⟨⟨c0, c1, c2, c3, c4, c5⟩, _⟩ := H3.out.1.cells
        have hbX := (H3.out.2.1.trans ((alloc_under (w2.alloc (.cells #[.int .i64 n.kind, .int .u64 (n.set.1 : Int), .int .u64 (n.set.2.1 : Int), .int .u64 (n.set.2.2.1 : Int), .int .u64 (n.set.2.2.2 : Int), .slice uo n.kids.length uc] 26)) (.cells #[.int .i64 n.kind, .int .u64 (n.set.1 : Int), .int .u64 (n.set.2.1 : Int), .int .u64 (n.set.2.2.1 : Int), .int .u64 (n.set.2.2.2 : Int), .slice uo n.kids.length uc] 26)).mono H3.out.2.1.size))
        have hlen : (nodesP (L.take i)).length ≤ 100000 := by unfold nodesP; rw [List.length_map, List.length_take]; omega
        obtain ⟨v', w5, hr, hR⟩ := HQ.out.push (X := (w2.alloc (.cells #[.int .i64 n.kind, .int .u64 (n.set.1 : Int), .int .u64 (n.set.2.1 : Int), .int .u64 (n.set.2.2.1 : Int), .int .u64 (n.set.2.2.2 : Int), .slice uo n.kids.length uc] 26)).heap.size) (H2.out.2.2.trans (hbX.mono H2.out.2.2.size)) 24 24 Tryd.underlying24
          (fun j x hx => by rw [cell_of_row _ _ j _ _ (0, 0) (heap_alloc_new _ _), List.getElem?_toArray]; exact hx) H2.out.1 (H2.out.2.1.under hbX) rfl hlen
        have HF : Hid (nodesP (L.take i) ++ [n] = nodesP (L.take (i + 1)) ∧ errsP (L.take (i + 1)) = 0) := Lib.hid ⟨by rw [HT.out.1, nodes_app]; show _ = _ ++ [(parseP s).1]; rw [HPP.out], by rw [HT.out.1, errs_app _ _ HE.out, errsP, HPP.out, if_pos rfl, errsP]⟩
        have HR := Lib.hid hR
        rw [alloc_size] at hr
        clear hbX hlen hR
        go_wp2_with (at_builtin; refine napp_list (by rfl) _ _ 24 (by rfl) (by rfl) (by rfl) hr ?_)
        go_roundw
        case rel => exact ⟨i + 1, by go_num, hlt, Lib.hid ⟨_, rfl, by rw [← HF.out.1]; exact HR.out, HF.out.2⟩⟩
        case measure => simp [intOf] <;> omega
      · have heb : (er == 0) = false := beq_eq_false_iff_ne.2 he0
        have HF : Hid (errsP L = er) := Lib.hid (by
          rw [HT.out.2, errs_app _ _ HE.out, errsP, HPP.out, if_neg he0])
        have HN := Lib.hid he0
        clear he0
        go_wp2_with fail
        go_ret2
        exact ⟨⟨_, by rw [HF.out]; rfl, fun h0 => absurd (HF.out.symm.trans h0) HN.out⟩, H3.out.2.2⟩
    · have hli : ¬ (i : Int) < (m : Int) := by omega
      have hall : L.take i = L := List.take_of_length_le (by have := HM.out; omega)
      have HF := Lib.hid (show errsP L = 0 ∧ KidsW (fun k => w.heap.size ≤ k) wr (nodesP L) vv ∧ Below w.heap.size w wr from ⟨by rw [← hall]; exact HE.out, by
        have h1 := HQ.out.out
        rw [hall] at h1
        exact h1.kids (by unfold nodesP; rw [List.length_map]; have := HM.out; omega), HQ.out.b⟩)
      clear hall
      go_wp2_with fail
      go_ret2
      exact ⟨⟨_, by rw [HF.out.1]; rfl, fun _ => HF.out.2.1⟩, HF.out.2.2⟩
end
end Go.Proofs.YtkopbngnhgdfhaaDoor
