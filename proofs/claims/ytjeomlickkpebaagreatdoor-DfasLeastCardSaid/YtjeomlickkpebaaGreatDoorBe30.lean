/-
  Texts of this proof, one behind the other; each begins with its own remark.
-/
import Derived.Test.YtjeomlickkpebaaGreatDoorBe13
import Derived.Test.YtjeomlickkpebaaGreatDoorBe17
import Derived.Test.YtjeomlickkpebaaGreatDoorBe4
/-
  nfas.NFA: Start, Accepts, Step, Match: what each returns, of one that is made; of none.
-/
namespace Go.Proofs.YtjeomlickkpebaaGreatDoor
open Go.RowKit

theorem nstart_nil (w : World) : Calls Tryz.prog 21 #[.pointer none] w fun e w' => e = .returned (.slice none 0 0) ∧ w' = w := by
  go_enter Tryz.func21, Tryz.ntmps21
  go_wp2_with fail
  go_ret
  exact ⟨rfl, rfl⟩
section
variable {w : World} {v fv : Value} {q : List Sta} {first l : List Int}
theorem nstart_new (h : NfaR w v q first) (hq : ∀ (i : Nat) (s : Sta), q[i]? = some s → StOk q.length s) (hi : InQ q first) :
    Calls Tryz.prog 21 #[v] w fun e w' => ∃ r, e = .returned r ∧ IntsN w.heap.size w' r (reachP q first) ∧ Below w.heap.size w w' := by
  obtain ⟨B, ao, cap, fo, fc, hv, c0, hn, c1, hfc, hf⟩ := h.form
  have H := Lib.hid (nreach_new h hq hf hi)
  subst hv
  clear h hq hi hf
  go_enter Tryz.func21, Tryz.ntmps21
  go_wp2_with fail
  go_fit H.out
  rintro e w2 ⟨r, rfl, h1, h2⟩
  have HX := Lib.hid (And.intro h1 h2)
  clear h1 h2
  go_wp2_with fail
  go_ret
  exact ⟨_, rfl, HX.out⟩
theorem nstart_any (h : NfaR w v q first) (hq : ∀ (i : Nat) (s : Sta), q[i]? = some s → StOk q.length s) (hi : InQ q first) :
    Calls Tryz.prog 21 #[v] w fun e w' => ∃ r, e = .returned r ∧ IntsW w' r (reachP q first) ∧ Below w.heap.size w w' :=
  (nstart_new h hq hi).mono fun _ _ ⟨r, h1, h2, h3⟩ => ⟨r, h1, h2.ints, h3⟩
/-- What is asked of an NFA that is made, or of none. -/
def NfaN (w : World) (v : Value) (q : List Sta) : Prop := v = .pointer none ∧ q = [] ∨ ∃ first, NfaR w v q first
theorem NfaN.below {w w' : World} (h : NfaN w v q) (hb : Below w.heap.size w w') : NfaN w' v q := h.imp id fun ⟨f, h⟩ => ⟨f, h.below hb⟩
theorem nis_all (h : NfaN w v q) (a : Int) (k : Nat) : Calls Tryz.prog 43 #[v, .int .i64 a, .int .i64 (k : Int)] w fun e w' => e = .returned (.bool (isP q a k)) ∧ w' = w := by
  rcases h with ⟨rfl, rfl⟩ | ⟨f, h⟩
  · have e0 : lookS [] a = none := by unfold lookS; simp
    rw [show isP [] a k = false by unfold isP; rw [e0]]
    exact nis_nil a k w
  · exact nis_any h a k
theorem isP_some {s : Sta} {a : Int} {k : Nat} (h : lookS q a = some s) : isP q a k = (s.kind == k) := by unfold isP; rw [h]
theorem isP_none {a : Int} {k : Nat} (h : lookS q a = none) : isP q a k = false := by unfold isP; rw [h]
/-- Of a state that is looked up: where its cells lie. -/
theorem NfaN.sta {s : Sta} {a : Int} (h : NfaN w v q) (hs : lookS q a = some s) :
    ∃ B g o cap, v = .pointer (some ⟨B, 0, none⟩) ∧ w.cell? ⟨B, 0, none⟩ = some (.slice (some ⟨g, o, none⟩) q.length cap) ∧ q.length ≤ cap ∧ ∀ (j : Nat) x, j < 8 → (staC s)[j]? = some x → w.cell? ⟨g, o + (a.toNat * 8 + j), none⟩ = some x := by
  obtain ⟨h0, h1, h2⟩ := look_some hs
  rcases h with ⟨rfl, rfl⟩ | ⟨f, h⟩
  · simp at h2
  · exact h.sta h2
theorem acc_step (q : List Sta) (a : Int) (r : Int) : accP q [a] r = match lookS q a with
    | none => r
    | some s => if s.kind = 2 ∧ (r = -1 ∨ (s.rule : Int) < r) then (s.rule : Int) else r := by
  rw [accP]
  rcases lookS q a with _ | s
  · rfl
  · simp only [accP]
set_option maxRecDepth 4000 in
set_option maxHeartbeats 4000000 in
theorem naccept_any (h : NfaN w v q) (hl : IntsW w fv l) :
    Calls Tryz.prog 22 #[v, fv] w fun e w' => e = .returned (.int .i64 (accP q l (-1))) ∧ w' = w := by
  obtain ⟨fo, fc, rfl, hfc⟩ := hl.form
  have hflen := hl.2
  have HI := Lib.hid (fun a => nis_all h a 2)
  have HL := Lib.hid hl
  have HV := Lib.hid h
  obtain ⟨m, hlm⟩ : ∃ m, l.length = m := ⟨_, rfl⟩
  have HLM := Lib.hid hlm
  rw [hlm] at hfc hflen HL ⊢
  clear hl h hlm
  have H0 : Hid (-1 = accP q (l.take 0) (-1)) := Lib.hid (by rw [List.take_zero, accP])
  go_enter Tryz.func22, Tryz.ntmps22
  go_wp2_with fail
  go_loop [5, 11] (fun s5 s11 => ∃ (i : Nat) (r : Int), s11 = .int .i64 (i : Int) ∧ i ≤ m ∧ s5 = .int .i64 r ∧ Hid (r = accP q (l.take i) (-1))) (fun _ s11 => m - (intOf s11).toNat)
  case atStart => exact ⟨0, -1, rfl, Nat.zero_le _, rfl, H0⟩
  case round =>
    obtain ⟨i, r, rfl, hi, rfl, HR⟩ := hrel
    clear H0
    have i0 : (0 : Int) ≤ (i : Int) := by omega
    have ib : (i : Int) ≤ 1000000 := by omega
    by_cases hlt : i < m
    · have hli : (i : Int) < (m : Int) := by omega
      have hla : i < l.length := by have := HLM.out; omega
      have hil : l[i]? = some l[i] := List.getElem?_eq_getElem hla
      obtain ⟨a, ha⟩ : ∃ a : Int, l[i] = a := ⟨_, rfl⟩
      rw [ha] at hil
      obtain ⟨g, o, c2, hfv, _, hx⟩ := HL.out.at_ (i := i) hil
      injection hfv with e1 e2 e3
      subst e1
      clear e2 e3
      have HT : Hid (accP q (l.take (i + 1)) (-1) = accP q [a] r) := Lib.hid (by rw [List.take_add_one, hil, acc_app, HR.out]; rfl)
      have H2 := Lib.hid (HI.out a)
      rw [acc_step] at HT
      rcases hs : lookS q a with _ | s
      · rw [isP_none hs] at H2
        rw [hs] at HT
        have HT2 : Hid (r = accP q (l.take (i + 1)) (-1)) := Lib.hid HT.out.symm
        clear hil ha hla hs HT
        go_wp2_with fail
        go_fit H2.out
        rintro e w2 ⟨rfl, rfl⟩
        go_wp2_with fail
        go_round
        case rel => exact ⟨i + 1, r, by go_num, hlt, rfl, HT2⟩
        case measure => simp [intOf]; omega
      · rw [isP_some hs] at H2
        rw [hs] at HT
        simp only at HT
        by_cases hk : s.kind = 2
        · rw [hk] at H2
          obtain ⟨B, g2, o2, cap, rfl, c0, hn, hc⟩ := HV.out.sta hs
          obtain ⟨h0, h1, _⟩ := look_some hs
          have c7 := hc 7 _ (by decide) rfl
          have i7 : o2 + (a.toNat * 8 + 7) = o2 + a.toNat * 8 + 7 := by omega
          rw [i7] at c7
          obtain ⟨ru, hru⟩ : ∃ ru : Nat, s.rule = ru := ⟨_, rfl⟩
          rw [hru] at c7 HT
          by_cases hcnd : r = -1 ∨ (ru : Int) < r
          · rw [if_pos ⟨hk, hcnd⟩] at HT
            have HT2 : Hid ((ru : Int) = accP q (l.take (i + 1)) (-1)) := Lib.hid HT.out.symm
            clear hil ha hla hs HT hk hc hru i7
            have hru0 : (0 : Int) ≤ (ru : Int) := by omega
            by_cases hr : r = -1
            · subst hr
              clear hcnd
              go_wp2_with fail
              go_fit H2.out
              rintro e w2 ⟨rfl, rfl⟩
              go_wp2_with fail
              go_round
              case rel => exact ⟨i + 1, _, by go_num, hlt, rfl, HT2⟩
              case measure => simp [intOf]; omega
            · have hrl := hcnd.resolve_left hr
              have hrb : (r == -1) = false := beq_eq_false_iff_ne.2 hr
              clear hcnd
              go_wp2_with fail
              go_fit H2.out
              rintro e w2 ⟨rfl, rfl⟩
              go_wp2_with fail
              go_round
              case rel => exact ⟨i + 1, _, by go_num, hlt, rfl, HT2⟩
              case measure => simp [intOf]; omega
          · rw [if_neg (fun h => hcnd h.2)] at HT
            have HT2 : Hid (r = accP q (l.take (i + 1)) (-1)) := Lib.hid HT.out.symm
            clear hil ha hla hs HT hk hc hru i7
            have hr : ¬ r = -1 := fun h => hcnd (.inl h)
            have hrl : ¬ (ru : Int) < r := fun h => hcnd (.inr h)
            have hrb : (r == -1) = false := beq_eq_false_iff_ne.2 hr
            clear hcnd
            go_wp2_with fail
            go_fit H2.out
            rintro e w2 ⟨rfl, rfl⟩
            go_wp2_with fail
            go_round
            case rel => exact ⟨i + 1, _, by go_num, hlt, rfl, HT2⟩
            case measure => simp [intOf]; omega
        · rw [show (s.kind == 2) = false from beq_eq_false_iff_ne.2 hk] at H2
          rw [if_neg (fun h => hk h.1)] at HT
          have HT2 : Hid (r = accP q (l.take (i + 1)) (-1)) := Lib.hid HT.out.symm
          clear hil ha hla hs HT hk
          go_wp2_with fail
          go_fit H2.out
          rintro e w2 ⟨rfl, rfl⟩
          go_wp2_with fail
          go_round
          case rel => exact ⟨i + 1, r, by go_num, hlt, rfl, HT2⟩
          case measure => simp [intOf]; omega
    · have hli : ¬ (i : Int) < (m : Int) := by omega
      have HF : Hid (r = accP q l (-1)) := Lib.hid (by rw [HR.out, List.take_of_length_le (by have := HLM.out; omega)])
      go_wp2_with fail
      go_ret
      exact ⟨by rw [← HF.out]; rfl, rfl⟩
end
end Go.Proofs.YtjeomlickkpebaaGreatDoor

/-
  nfas.NFA.Step: what it returns.
-/
namespace Go.Proofs.YtjeomlickkpebaaGreatDoor
open Go.RowKit

/-- What lies in memory while the states behind a byte are gathered. -/
structure NxW (w0 w : World) (v : Value) (l : List Int) : Prop where
  o : OwnI w0.heap.size w v l
  b : Below w0.heap.size w0 w
theorem NxW.push {w0 w : World} {v : Value} {l : List Int} (h : NxW w0 w v l) (a : Int) (t ty : TypeId) (ht : Tryz.prog.underlying t = some (.slice 3)) (hl : l.length ≤ 100000) :
    ∃ v' w', (Builtin.append_ #[t, t] ty #[v, .slice (some ⟨w.heap.size, 0, none⟩) 1 1]).run Tryz.prog (w.alloc (.cells #[.int .i64 a] 3)) = .ok v' w' ∧ NxW w0 w' v' (l ++ [a]) := by
  have hba := alloc_under w (.cells #[.int .i64 a] 3)
  have ho1 := h.o.below hba
  have hb1 := h.b.trans (hba.mono h.b.size)
  obtain ⟨v', w', hr, h1, h2, _⟩ := run_snocI t ty ht ho1 (by have := cell_one_new w (.int .i64 a) 3 0 _ rfl; rw [rlit] at this; exact this) (by have := hba.size; have := h.b.size; omega) hl
  exact ⟨v', w', hr, h1, KeepW.below hb1 h2 hb1.size fun k hk e => by have := (World.ownsRow.lt ho1 k e).1; omega⟩
theorem NxW.under {w0 w w' : World} {v : Value} {l : List Int} (h : NxW w0 w v l) (hb : Below w.heap.size w w') : NxW w0 w' v l := ⟨h.o.below hb, h.b.trans (hb.mono h.b.size)⟩
theorem nexts_len (q : List Sta) (b : Nat) : ∀ l, (nextsP q b l).length ≤ l.length
  | [] => Nat.le_refl _
  | a :: l => by
    have := nexts_len q b l
    rw [nextsP, List.length_cons]
    split
    · omega
    · split
      · rw [List.length_cons]; omega
      · omega
theorem next_one (q : List Sta) (b : Nat) (a : Int) : nextsP q b [a] = match lookS q a with
    | none => []
    | some s => if s.kind = 0 ∧ hasR s.set b = true then [(s.next : Int)] else [] := by
  rw [nextsP]
  rcases lookS q a with _ | s
  · rfl
  · simp only [nextsP]
section
variable {w : World} {v fv : Value} {q : List Sta} {l : List Int}
set_option maxRecDepth 4000 in
set_option maxHeartbeats 8000000 in
theorem nstep_new (h : NfaN w v q) (hq : ∀ (i : Nat) (s : Sta), q[i]? = some s → StOk q.length s) (hl : IntsW w fv l) (hlen : l.length ≤ 100000) (b : Nat) (hb : b < 256) :
    Calls Tryz.prog 23 #[v, fv, .int .u8 (b : Int)] w fun e w' => ∃ r, e = .returned r ∧ IntsN w.heap.size w' r (stepP q b l) ∧ Below w.heap.size w w' := by
  obtain ⟨fo, fc, rfl, hfc⟩ := hl.form
  have hflen := hl.2
  have HI := Lib.hid (fun (a : Int) (W : World) (hb : Below w.heap.size w W) => nis_all (h.below hb) a 0)
  have HH := Lib.hid (fun (s : St4) (hs : OkR s) (W : World) => phas_any s b W hs hb)
  have HL := Lib.hid hl
  have HV := Lib.hid h
  have HQ := Lib.hid hq
  have HNL := Lib.hid (nexts_len q b)
  have HR := Lib.hid (fun (W : World) (r : Value) (first : List Int) (hb : Below w.heap.size w W) (hv : NfaR W v q first) (hr : IntsW W r (nextsP q b l)) => nreach_new hv hq hr (nexts_in q hq b l))
  obtain ⟨m, hlm⟩ : ∃ m, l.length = m := ⟨_, rfl⟩
  have HLM := Lib.hid hlm
  rw [hlm] at hfc hflen HL hlen ⊢
  clear hl h hlm hq
  have H0 : Hid (∃ vv, vv = Value.slice none 0 0 ∧ NxW w w vv (nextsP q b (l.take 0))) := Lib.hid ⟨_, rfl, OwnI.nil _ _, Below.refl _ _⟩
  go_enter Tryz.func23, Tryz.ntmps23
  go_wp2_with fail
  go_loopw [7, 12] (fun s7 s12 wr => ∃ i : Nat, s12 = .int .i64 (i : Int) ∧ i ≤ m ∧ Hid (∃ vv, vv = s7 ∧ NxW w wr vv (nextsP q b (l.take i)))) (fun _ s12 _ => m - (intOf s12).toNat)
  case atStart => exact ⟨0, rfl, Nat.zero_le _, H0⟩
  case round =>
    obtain ⟨i, rfl, hi, HX⟩ := hrel
    clear H0
    obtain ⟨vv, hvv, hX⟩ := HX.out
    subst hvv
    have H1 := Lib.hid hX
    clear HX hX
    have i0 : (0 : Int) ≤ (i : Int) := by omega
    have ib : (i : Int) ≤ 1000000 := by omega
    by_cases hlt : i < m
    · have hli : (i : Int) < (m : Int) := by omega
      have hla : i < l.length := by have := HLM.out; omega
      have hil : l[i]? = some l[i] := List.getElem?_eq_getElem hla
      obtain ⟨a, ha⟩ : ∃ a : Int, l[i] = a := ⟨_, rfl⟩
      rw [ha] at hil
      obtain ⟨g, o, c2, hfv, _, hx⟩ := (HL.out.below H1.out.b).at_ (i := i) hil
      injection hfv with e1 e2 e3
      subst e1
      clear e2 e3
      have HT : Hid (nextsP q b (l.take (i + 1)) = nextsP q b (l.take i) ++ nextsP q b [a]) := Lib.hid (by rw [List.take_add_one, hil, ← nexts_app]; rfl)
      have H2 := Lib.hid (HI.out a wr H1.out.b)
      have hcl : (nextsP q b (l.take i)).length ≤ 100000 := by
        have := HNL.out (l.take i)
        rw [List.length_take] at this
        omega
      rw [next_one] at HT
      rcases hs : lookS q a with _ | s
      · rw [isP_none hs] at H2
        rw [hs] at HT
        have HT2 : Hid (NxW w wr vv (nextsP q b (l.take (i + 1)))) := Lib.hid (by rw [HT.out, List.append_nil]; exact H1.out)
        clear hil ha hla hs HT hcl
        go_wp2_with fail
        go_fit H2.out
        rintro e w2 ⟨rfl, rfl⟩
        go_wp2_with fail
        go_roundw
        case rel => exact ⟨i + 1, by go_num, hlt, Lib.hid ⟨_, rfl, HT2.out⟩⟩
        case measure => simp [intOf]; omega
      · rw [isP_some hs] at H2
        rw [hs] at HT
        simp only at HT
        by_cases hk : s.kind = 0
        · rw [hk] at H2
          obtain ⟨B, g2, o2, cap, rfl, c0, hn, hc⟩ := (HV.out.below H1.out.b).sta hs
          obtain ⟨h0, h1, h2⟩ := look_some hs
          obtain ⟨_, _, _, hso⟩ := HQ.out _ s h2
          have c1 := hc 1 _ (by decide) rfl
          have c2 := hc 2 _ (by decide) rfl
          have c3 := hc 3 _ (by decide) rfl
          have c4 := hc 4 _ (by decide) rfl
          have c5 := hc 5 _ (by decide) rfl
          simp only [← Nat.add_assoc] at c1 c2 c3 c4 c5
          have H3 := Lib.hid (HH.out s.set hso wr)
          obtain ⟨d, hd⟩ : ∃ d, hasR s.set b = d := ⟨_, rfl⟩
          rw [hd] at HT H3
          obtain ⟨⟨s0, s1, s2, s3⟩, hse⟩ : ∃ x, s.set = x := ⟨_, rfl⟩
          rw [hse] at c1 c2 c3 c4 H3
          unfold setV at H3
          simp only at c1 c2 c3 c4 H3
          obtain ⟨nx, hnx⟩ : ∃ nx : Nat, s.next = nx := ⟨_, rfl⟩
          rw [hnx] at c5 HT
          have HC := Lib.hid (fun W (hb : Below wr.heap.size wr W) => And.intro ((keep_below (fun _ => True) hb).cell c0 trivial) ((keep_below (fun _ => True) hb).cell c5 trivial))
          cases d with
          | false =>
            have HT2 : Hid (nextsP q b (l.take (i + 1)) = nextsP q b (l.take i)) := Lib.hid (by rw [HT.out, if_neg (fun h => absurd h.2 (by decide)), List.append_nil])
            clear hil ha hla hs HT hk hc hd hse hnx hcl h2 hso c5
            go_wp2_with fail
            go_fit H2.out
            rintro e w2 ⟨rfl, rfl⟩
            go_wp2_with fail
            go_fit H3.out
            rintro e w2 ⟨rfl, hb3⟩
            have H4 := Lib.hid (H1.out.under hb3)
            clear hb3
            go_wp2_with fail
            go_roundw
            case rel => exact ⟨i + 1, by go_num, hlt, Lib.hid ⟨_, rfl, by rw [HT2.out]; exact H4.out⟩⟩
            case measure => simp [intOf]; omega
          | true =>
            have HT2 : Hid (nextsP q b (l.take (i + 1)) = nextsP q b (l.take i) ++ [(nx : Int)]) := Lib.hid (by rw [HT.out, if_pos ⟨hk, rfl⟩])
            clear hil ha hla hs HT hk hc hd hse hnx h2 hso c5
            go_wp2_with fail
            go_fit H2.out
            rintro e w2 ⟨rfl, rfl⟩
            go_wp2_with fail
            go_fit H3.out
            rintro e w2 ⟨rfl, hb3⟩
            have H4 := Lib.hid (H1.out.under hb3)
            obtain ⟨d0, d5⟩ := HC.out w2 hb3
            obtain ⟨v', w', hr, hR⟩ := H4.out.push (nx : Int) 39 39 Tryz.underlying39 hcl
            have H5 := Lib.hid hR
            clear hb3 hR hcl c0
            go_wp2_with (at_builtin; refine napp_list (by rfl) _ _ 39 (by rfl) (by rfl) (by rfl) hr ?_)
            go_roundw
            case rel => exact ⟨i + 1, by go_num, hlt, Lib.hid ⟨_, rfl, by rw [HT2.out]; exact H5.out⟩⟩
            case measure => simp [intOf]; omega
        · rw [show (s.kind == 0) = false from beq_eq_false_iff_ne.2 hk] at H2
          rw [if_neg (fun h => hk h.1), List.append_nil] at HT
          have HT2 : Hid (NxW w wr vv (nextsP q b (l.take (i + 1)))) := Lib.hid (by rw [HT.out]; exact H1.out)
          clear hil ha hla hs HT hk hcl
          go_wp2_with fail
          go_fit H2.out
          rintro e w2 ⟨rfl, rfl⟩
          go_wp2_with fail
          go_roundw
          case rel => exact ⟨i + 1, by go_num, hlt, Lib.hid ⟨_, rfl, HT2.out⟩⟩
          case measure => simp [intOf]; omega
    · have hli : ¬ (i : Int) < (m : Int) := by omega
      have hall : l.take i = l := List.take_of_length_le (by have := HLM.out; omega)
      rw [hall] at H1
      have hcl := HNL.out l
      have HB := Lib.hid (And.intro H1.out.b (H1.out.o.ints (by have := HLM.out; omega)))
      obtain ⟨ao, cp, hvv, hcp⟩ := HB.out.2.form
      subst hvv
      by_cases he : nextsP q b l = []
      · have HE : Hid (stepP q b l = []) := Lib.hid (by unfold stepP; rw [if_pos he])
        have hz : (nextsP q b l).length = 0 := by rw [he]; rfl
        obtain ⟨k, hk⟩ : ∃ k, (nextsP q b l).length = k := ⟨_, rfl⟩
        have hk0 : k = 0 := by omega
        rw [hk]
        subst hk0
        clear hk hz hcl hall
        go_wp2_with fail
        go_ret
        exact ⟨_, rfl, by rw [HE.out]; exact IntsN.nil _ _, HB.out.1⟩
      · have HE : Hid (stepP q b l = reachP q (nextsP q b l)) := Lib.hid (by unfold stepP; rw [if_neg he])
        have hz : 0 < (nextsP q b l).length := List.length_pos_iff.2 he
        have hv2 := HV.out.below H1.out.b
        rcases hv2 with ⟨_, hq0⟩ | ⟨first, hv2⟩
        · exfalso
          apply he
          have := nexts_in q HQ.out b l
          rcases hx : nextsP q b l with _ | ⟨x, r⟩
          · rfl
          · have := this x (by rw [hx]; simp)
            rw [hq0] at this
            simp at this
            omega
        have H3 := Lib.hid (HR.out _ _ first H1.out.b hv2 HB.out.2)
        obtain ⟨k, hk⟩ : ∃ k, (nextsP q b l).length = k := ⟨_, rfl⟩
        rw [hk] at H3 hz ⊢
        have hk0 : ((k : Int) == 0) = false := beq_eq_false_iff_ne.2 (by omega)
        clear hk hcl hall hv2 he
        go_wp2_with fail
        go_fit H3.out
        rintro e w2 ⟨r, rfl, h1, h2⟩
        have HF := Lib.hid (show IntsN w.heap.size w2 r (stepP q b l) ∧ Below w.heap.size w w2 from ⟨by rw [HE.out]; exact h1.mono HB.out.1.size, HB.out.1.trans (h2.mono HB.out.1.size)⟩)
        clear h1 h2
        go_wp2_with fail
        go_ret
        exact ⟨_, rfl, HF.out⟩
theorem nstep_any (h : NfaN w v q) (hq : ∀ (i : Nat) (s : Sta), q[i]? = some s → StOk q.length s) (hl : IntsW w fv l) (hlen : l.length ≤ 100000) (b : Nat) (hb : b < 256) :
    Calls Tryz.prog 23 #[v, fv, .int .u8 (b : Int)] w fun e w' => ∃ r, e = .returned r ∧ IntsW w' r (stepP q b l) ∧ Below w.heap.size w w' :=
  (nstep_new h hq hl hlen b hb).mono fun _ _ ⟨r, h1, h2, h3⟩ => ⟨r, h1, h2.ints, h3⟩
end
end Go.Proofs.YtjeomlickkpebaaGreatDoor

/-
  nfas.NFA.Match: what it returns.
-/
namespace Go.Proofs.YtjeomlickkpebaaGreatDoor
open Go.RowKit

/-- An NFA that is made, or none. -/
def NfaM (w : World) (v : Value) (q : List Sta) (first : List Int) : Prop := (v = .pointer none ∧ q = [] ∧ first = []) ∨ NfaR w v q first
section
variable {w : World} {v : Value} {q : List Sta} {first : List Int}
theorem NfaM.below {w' : World} (h : NfaM w v q first) (hb : Below w.heap.size w w') : NfaM w' v q first := h.imp id fun h => h.below hb
theorem NfaM.N (h : NfaM w v q first) : NfaN w v q := h.imp (fun h => ⟨h.1, h.2.1⟩) fun h => ⟨first, h⟩
theorem NfaM.few (h : NfaM w v q first) : q.length ≤ 100000 := by
  rcases h with ⟨_, rfl, _⟩ | h
  · exact Nat.zero_le _
  · exact h.few
theorem nstart_all (h : NfaM w v q first) (hq : ∀ (i : Nat) (s : Sta), q[i]? = some s → StOk q.length s) (hi : InQ q first) :
    Calls Tryz.prog 21 #[v] w fun e w' => ∃ r, e = .returned r ∧ IntsW w' r (reachP q first) ∧ Below w.heap.size w w' := by
  rcases h with ⟨rfl, rfl, rfl⟩ | h
  · exact (nstart_nil w).mono fun e w' ⟨he, hw⟩ => ⟨_, he, by rw [hw]; exact IntsW.nil _, by rw [hw]; exact Below.refl _ _⟩
  · exact nstart_any h hq hi
/-- What Match tells of a text from a place on. -/
def matchA (q : List Sta) (first : List Int) (s : ByteArray) (a : Int) : Int × Int := if a < 0 ∨ (s.size : Int) < a then (0, -1) else matchP q first (restR s a.toNat)
theorem nmatch_out (s : ByteArray) (a : Int) (ha : a < 0 ∨ (s.size : Int) < a) (w : World) : Calls Tryz.prog 28 #[v, .string s, .int .i64 a] w fun e w' => e = .returned (.tuple #[.int .i64 0, .int .i64 (-1)]) ∧ w' = w := by
  by_cases h0 : a < 0
  · clear ha
    go_enter Tryz.func28, Tryz.ntmps28
    go_wp2_with fail
    go_ret2
    exact ⟨rfl, rfl⟩
  · have h1 := ha.resolve_left h0
    have h2 : (s.size : Int) < a := h1
    clear ha
    go_enter Tryz.func28, Tryz.ntmps28
    go_wp2_with fail
    go_ret2
    exact ⟨rfl, rfl⟩
theorem reach_few (q : List Sta) (l : List Int) : (reachP q l).length ≤ q.length := keep_len _ _ _
theorem step_few (q : List Sta) (b : Nat) (l : List Int) : (stepP q b l).length ≤ q.length := by
  unfold stepP
  split
  · exact Nat.zero_le _
  · exact reach_few _ _
set_option maxRecDepth 4000 in
set_option maxHeartbeats 8000000 in
theorem nmatch_in (h : NfaM w v q first) (hq : ∀ (i : Nat) (s : Sta), q[i]? = some s → StOk q.length s) (hi : InQ q first) (s : ByteArray) (hs : s.size ≤ 1000) (a : Nat) (ha : a ≤ s.size) :
    Calls Tryz.prog 28 #[v, .string s, .int .i64 (a : Int)] w fun e w' => e = .returned (.tuple #[.int .i64 (matchP q first (restR s a)).1, .int .i64 (matchP q first (restR s a)).2]) ∧ Below w.heap.size w w' := by
  have HS := Lib.hid (nstart_all h hq hi)
  have HA := Lib.hid (fun (l : List Int) (u : Value) (W : World) (hb : Below w.heap.size w W) (hl : IntsW W u l) => naccept_any (h.below hb).N hl)
  have HT := Lib.hid (fun (l : List Int) (u : Value) (W : World) (b : Nat) (hb : Below w.heap.size w W) (hl : IntsW W u l) (hf : l.length ≤ q.length) (hb2 : b < 256) => nstep_any (h.below hb).N hq hl (Nat.le_trans hf h.few) b hb2)
  have HF := Lib.hid (reach_few q first)
  have a0 : (0 : Int) ≤ (a : Int) := by omega
  have a0' : decide ((a : Int) < 0) = false := decide_eq_false (by omega)
  have a1 : (a : Int) ≤ (s.size : Int) := by omega
  have a1' : ¬ (a : Int) > (s.size : Int) := by omega
  clear h hq hi
  go_enter Tryz.func28, Tryz.ntmps28
  go_wp2_with fail
  go_fit HS.out
  rintro e w1 ⟨r, rfl, h1, h2⟩
  have H1 := Lib.hid (And.intro h1 h2)
  clear h1 h2
  go_wp2_with fail
  go_fit (HA.out _ _ _ H1.out.2 H1.out.1)
  rintro e w2 ⟨rfl, rfl⟩
  have H2 : Hid (∃ (l : List Int) (vv : Value) (lg ru : Int), vv = r ∧ lg = 0 ∧ ru = accP q (reachP q first) (-1) ∧ IntsW w2 vv l ∧ Below w.heap.size w w2 ∧ l.length ≤ q.length ∧ goM q (restR s a) l (((a : Nat) : Int) - (a : Int)) lg ru = matchP q first (restR s a)) := by
    refine Lib.hid ⟨_, _, _, _, rfl, rfl, rfl, H1.out.1, H1.out.2, HF.out, ?_⟩
    rw [Int.sub_self]; rfl
  clear H1 HS HF
  obtain ⟨ru0, hru0⟩ : ∃ ru0, accP q (reachP q first) (-1) = ru0 := ⟨_, rfl⟩
  rw [hru0] at H2
  (try rw [hru0])
  clear hru0
  go_wp2_with fail
  go_loopw [6, 7, 8, 9] (fun s6 s7 s8 s9 wr => ∃ (j : Nat) (lg ru : Int), s9 = .int .i64 (j : Int) ∧ a ≤ j ∧ j ≤ s.size ∧ s6 = .int .i64 lg ∧ s7 = .int .i64 ru ∧ Hid (∃ (l : List Int) (vv : Value), vv = s8 ∧ IntsW wr vv l ∧ Below w.heap.size w wr ∧ l.length ≤ q.length ∧ goM q (restR s j) l ((j : Int) - (a : Int)) lg ru = matchP q first (restR s a))) (fun _ _ _ s9 _ => s.size - (intOf s9).toNat)
  case atStart =>
    obtain ⟨l, vv, lg, ru, e1, e2, e3, h4⟩ := H2.out
    exact ⟨a, 0, ru0, rfl, Nat.le_refl _, ha, rfl, rfl, Lib.hid ⟨l, vv, e1, by rw [← e2, ← e3]; exact h4⟩⟩
  case round =>
    obtain ⟨j, lg, ru, rfl, hj0, hj, rfl, rfl, HX⟩ := hrel
    clear H2
    obtain ⟨l, vv, hvv, hX⟩ := HX.out
    subst hvv
    have H3 := Lib.hid hX
    clear HX hX
    obtain ⟨ao, cp, hvv, hcp⟩ := H3.out.1.form
    subst hvv
    have i0 : (0 : Int) ≤ (j : Int) := by omega
    have ib : (j : Int) ≤ 1000 := by omega
    have iw : IntKind.i64.wrap ((j : Int) + 1 - (a : Int)) = (j : Int) + 1 - (a : Int) := by apply IntWalk.i64_in <;> omega
    by_cases hlt : j < s.size
    · have hli : (j : Int) < (s.size : Int) := by omega
      by_cases hl0 : l = []
      · have HE : Hid (lg = (matchP q first (restR s a)).1 ∧ ru = (matchP q first (restR s a)).2 ∧ Below w.heap.size w wr) := by
          have h5 := H3.out.2.2.2
          rw [rest_cons s j hlt, goM, if_pos hl0] at h5
          exact Lib.hid ⟨by rw [← h5], by rw [← h5], H3.out.2.1⟩
        have hz : l.length = 0 := by rw [hl0]; rfl
        rw [hz] at hcp ⊢
        clear hl0 hz H3 HA HT
        go_wp2_with fail
        go_ret2
        exact ⟨by rw [← HE.out.1, ← HE.out.2.1]; rfl, HE.out.2.2⟩
      · have hpos : 0 < l.length := List.length_pos_iff.2 hl0
        have hne : l ≠ [] := hl0
        have hb := getR s j hlt
        have hb2 := bR_lt s j
        have h5 := H3.out.2.2.2
        rw [rest_cons s j hlt, goM, if_neg hne] at h5
        obtain ⟨c, hc⟩ : ∃ c, bR s j = c := ⟨_, rfl⟩
        rw [hc] at hb hb2 h5
        have H5 := Lib.hid h5
        have H4 := Lib.hid (HT.out l _ wr c H3.out.2.1 H3.out.1 H3.out.2.2.1 hb2)
        have HSF := Lib.hid (step_few q c l)
        obtain ⟨n, hn⟩ : ∃ n, l.length = n := ⟨_, rfl⟩
        rw [hn] at hpos hcp H4 ⊢
        have hpi : (n : Int) > 0 := by omega
        have HL := Lib.hid hn
        have HB := Lib.hid H3.out.2.1
        clear hl0 hne hc h5 hn H3
        go_wp2_with fail
        go_fit H4.out
        rintro e w4 ⟨r4, rfl, h6, h7⟩
        have H6 := Lib.hid (And.intro h6 (HB.out.trans (h7.mono HB.out.size)))
        clear h6 h7
        go_wp2_with fail
        go_fit (HA.out _ _ _ H6.out.2 H6.out.1)
        rintro e w5 ⟨rfl, rfl⟩
        obtain ⟨rr, hrr⟩ : ∃ rr, accP q (stepP q c l) (-1) = rr := ⟨_, rfl⟩
        rw [hrr] at H5
        (try rw [hrr])
        by_cases hr1 : rr = -1
        · have HG : Hid (goM q (restR s (j + 1)) (stepP q c l) (((j + 1 : Nat) : Int) - (a : Int)) lg ru = matchP q first (restR s a)) := by
            have h8 := H5.out
            rw [if_neg (fun h => h hr1)] at h8
            rw [show ((j + 1 : Nat) : Int) - (a : Int) = (j : Int) - (a : Int) + 1 by omega]
            exact Lib.hid h8
          have hrb : (rr == -1) = true := by rw [hr1]; rfl
          clear hrr H5
          subst hr1
          go_wp2_with fail
          go_roundw
          case rel => exact ⟨j + 1, lg, ru, by go_num, by omega, by omega, rfl, rfl, Lib.hid ⟨_, _, rfl, H6.out.1, H6.out.2, HSF.out, HG.out⟩⟩
          case measure => simp [intOf]; omega
        · have HG : Hid (goM q (restR s (j + 1)) (stepP q c l) (((j + 1 : Nat) : Int) - (a : Int)) ((j : Int) + 1 - (a : Int)) rr = matchP q first (restR s a)) := by
            have h8 := H5.out
            rw [if_pos hr1] at h8
            rw [show ((j + 1 : Nat) : Int) - (a : Int) = (j : Int) - (a : Int) + 1 by omega, show (j : Int) + 1 - (a : Int) = (j : Int) - (a : Int) + 1 by omega]
            exact Lib.hid h8
          have hrb : (rr == -1) = false := beq_eq_false_iff_ne.2 hr1
          clear hrr H5
          go_wp2_with fail
          go_roundw
          case rel => exact ⟨j + 1, (j : Int) + 1 - (a : Int), rr, by go_num, by omega, by omega, rfl, rfl, Lib.hid ⟨_, _, rfl, H6.out.1, H6.out.2, HSF.out, HG.out⟩⟩
          case measure => simp [intOf]; omega
    · have hli : ¬ (j : Int) < (s.size : Int) := by omega
      have HE : Hid (lg = (matchP q first (restR s a)).1 ∧ ru = (matchP q first (restR s a)).2 ∧ Below w.heap.size w wr) := by
        have h5 := H3.out.2.2.2
        rw [show restR s j = [] from List.length_eq_zero_iff.1 (by rw [rest_len]; omega), goM] at h5
        exact Lib.hid ⟨by rw [← h5], by rw [← h5], H3.out.2.1⟩
      clear H3 HA HT
      go_wp2_with fail
      go_ret2
      exact ⟨by rw [← HE.out.1, ← HE.out.2.1]; rfl, HE.out.2.2⟩
theorem nmatch_any (h : NfaM w v q first) (hq : ∀ (i : Nat) (s : Sta), q[i]? = some s → StOk q.length s) (hi : InQ q first) (s : ByteArray) (hs : s.size ≤ 1000) (a : Int) :
    Calls Tryz.prog 28 #[v, .string s, .int .i64 a] w fun e w' => e = .returned (.tuple #[.int .i64 (matchA q first s a).1, .int .i64 (matchA q first s a).2]) ∧ Below w.heap.size w w' := by
  unfold matchA
  by_cases ha : a < 0 ∨ (s.size : Int) < a
  · rw [if_pos ha]
    exact (nmatch_out s a ha w).mono fun e w' ⟨he, hw⟩ => ⟨he, by rw [hw]; exact Below.refl _ _⟩
  · rw [if_neg ha]
    obtain ⟨m, rfl⟩ : ∃ m : Nat, a = m := ⟨a.toNat, by omega⟩
    rw [Int.toNat_natCast]
    exact nmatch_in h hq hi s hs m (by omega)
end
end Go.Proofs.YtjeomlickkpebaaGreatDoor
