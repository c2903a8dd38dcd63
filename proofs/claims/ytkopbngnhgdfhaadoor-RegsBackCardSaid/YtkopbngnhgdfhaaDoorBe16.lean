/-
  Texts of this proof, one behind the other; each begins with its own remark.
-/
import Derived.Shelf.Strings.BuilderF
import Derived.Test.YtkopbngnhgdfhaaDoorProg
import Derived.Shelf.Strings.BuilderK
import Derived.Test.YtkopbngnhgdfhaaDoorBe6
import Derived.Test.YtkopbngnhgdfhaaDoorBe15
/-
  strings: WriteString, String: each contract is one application of the library's own theorem at this seat's program.
-/
namespace Go.Proofs
open Go.Shelf
def Tryd.lays169_ren : Go.Shelf.Ren := ⟨fun | 169 => 32 | n => n, fun | 70 => 76 | 9 => 9 | 0 => 0 | 72 => 78 | 37 => 57 | 127 => 117 | 3 => 3 | 5 => 5 | n => n, fun | n => n⟩
theorem Tryd.lays169 : Go.Proofs.Lays.n169 Tryd.prog Tryd.lays169_ren := {
  mixed := by kernel_rfl
  f169 := Tryd.func32.trans (congrArg some (by kernel_rfl))
  t0 := Tryd.underlying0
  a0 := Tryd.isAgg0
  z0 := Tryd.sizeOf0
  v0 := Tryd.zeroValue0
  t3 := Tryd.underlying3
  a3 := Tryd.isAgg3
  z3 := Tryd.sizeOf3
  v3 := Tryd.zeroValue3
  t9 := Tryd.underlying9
  a9 := Tryd.isAgg9
  z9 := Tryd.sizeOf9
  v9 := Tryd.zeroValue9
  t37 := Tryd.underlying57
  a37 := Tryd.isAgg57
  z37 := Tryd.sizeOf57
  v37 := Tryd.zeroValue57
  t70 := Tryd.underlying76
  a70 := Tryd.isAgg76
  z70 := Tryd.sizeOf76
  v70 := Tryd.zeroValue76
  t72 := Tryd.underlying78
  a72 := Tryd.isAgg78
  z72 := Tryd.sizeOf78
  v72 := Tryd.zeroValue78
  t127 := Tryd.underlying117
  a127 := Tryd.isAgg117
  z127 := Tryd.sizeOf117
  v127 := Tryd.zeroValue117 }
theorem Tryd.Builder_Extra_169 : Builder.Extra Tryd.prog Tryd.lays169_ren := {
  sizeBuilder := by kernel_rfl
  liesBuilder := by kernel_rfl
  t5 := Tryd.underlying5
  a5 := Tryd.isAgg5
  z5 := Tryd.sizeOf5
  v5 := Tryd.zeroValue5
  infoByte := by kernel_rfl
  cellsByte := by kernel_rfl
  sizeByte := by kernel_rfl
  neB5 := by decide }
open Go.RowKit in
theorem Tryd.Builder_String_any_f (B b : Nat) (l : List UInt8) (w : World) (h : Lib.IsBuilderF 78 5 B b (Lib.byteCells l) w) (hBw : B ≤ w.heap.size) :
    Calls Tryd.prog 32 #[.pointer (some ⟨b, 0, none⟩)] w fun e w' => e = .returned (.string ⟨l.toArray⟩) ∧ (Lib.IsBuilderF 78 5 B b (Lib.byteCells l) w' ∧ Below B w w') := Any.Builder_String_any_f Tryd.lays169 Tryd.Builder_Extra_169 B b l w h hBw
def Tryd.lays166_ren : Go.Shelf.Ren := ⟨fun | 166 => 50 | 240 => 67 | 276 => 76 | n => n, fun | 0 => 0 | 3 => 3 | 4 => 4 | 5 => 5 | 9 => 9 | 20 => 20 | 37 => 57 | 70 => 76 | 72 => 78 | 75 => 109 | 80 => 80 | 164 => 143 | n => n, fun | n => n⟩
theorem Tryd.lays166 : Go.Proofs.Lays.n166 Tryd.prog Tryd.lays166_ren := {
  mixed := by kernel_rfl
  f166 := Tryd.func50.trans (congrArg some (by kernel_rfl))
  f240 := Tryd.func67.trans (congrArg some (by kernel_rfl))
  f276 := Tryd.func76.trans (congrArg some (by kernel_rfl))
  t0 := Tryd.underlying0
  a0 := Tryd.isAgg0
  z0 := Tryd.sizeOf0
  v0 := Tryd.zeroValue0
  t3 := Tryd.underlying3
  a3 := Tryd.isAgg3
  z3 := Tryd.sizeOf3
  v3 := Tryd.zeroValue3
  t4 := Tryd.underlying4
  a4 := Tryd.isAgg4
  z4 := Tryd.sizeOf4
  v4 := Tryd.zeroValue4
  t9 := Tryd.underlying9
  a9 := Tryd.isAgg9
  z9 := Tryd.sizeOf9
  v9 := Tryd.zeroValue9
  t20 := Tryd.underlying20
  a20 := Tryd.isAgg20
  z20 := Tryd.sizeOf20
  v20 := Tryd.zeroValue20
  t37 := Tryd.underlying57
  a37 := Tryd.isAgg57
  z37 := Tryd.sizeOf57
  v37 := Tryd.zeroValue57
  t70 := Tryd.underlying76
  a70 := Tryd.isAgg76
  z70 := Tryd.sizeOf76
  v70 := Tryd.zeroValue76
  t72 := Tryd.underlying78
  a72 := Tryd.isAgg78
  z72 := Tryd.sizeOf78
  v72 := Tryd.zeroValue78
  t75 := Tryd.underlying109
  a75 := Tryd.isAgg109
  z75 := Tryd.sizeOf109
  v75 := Tryd.zeroValue109
  t164 := Tryd.underlying143
  a164 := Tryd.isAgg143
  z164 := Tryd.sizeOf143
  v164 := Tryd.zeroValue143 }
theorem Tryd.Builder_Extra_166 : Builder.Extra Tryd.prog Tryd.lays166_ren := {
  sizeBuilder := by kernel_rfl
  liesBuilder := by kernel_rfl
  t5 := Tryd.underlying5
  a5 := Tryd.isAgg5
  z5 := Tryd.sizeOf5
  v5 := Tryd.zeroValue5
  infoByte := by kernel_rfl
  cellsByte := by kernel_rfl
  sizeByte := by kernel_rfl
  neB5 := by decide }
open Go.RowKit in
theorem Tryd.Builder_WriteString_f (B b : Nat) (bs : List Value) (s : ByteArray) (w : World) (h : Lib.IsBuilderF 78 5 B b bs w) (hlen : bs.length + s.size ≤ 140737488355328) (hBw : B ≤ w.heap.size) :
    Calls Tryd.prog 50 #[.pointer (some ⟨b, 0, none⟩), .string s] w fun e w' => e = .returned (.tuple #[.int .i64 s.size, .nilIface]) ∧ (Lib.BuilderAtF 78 5 B b (.pointer (some ⟨b, 0, none⟩)) (bs ++ Lib.strCells s) w' ∧ Below B w w') := Any.Builder_WriteString_f Tryd.lays166 Tryd.Builder_Extra_166 B b bs s w h hlen hBw
end Go.Proofs

/-
  strings: WriteByte at any Builder: the contract is one application of the library's own theorem at this seat's program.
-/
namespace Go.Proofs
open Go.Shelf
def Tryd.lays167_ren : Go.Shelf.Ren := ⟨fun | 167 => 53 | 240 => 67 | 276 => 76 | n => n, fun | 0 => 0 | 4 => 4 | 5 => 5 | 9 => 9 | 20 => 20 | 37 => 57 | 70 => 76 | 72 => 78 | 75 => 109 | 80 => 80 | 164 => 143 | n => n, fun | n => n⟩
theorem Tryd.lays167 : Go.Proofs.Lays.n167 Tryd.prog Tryd.lays167_ren := {
  mixed := by kernel_rfl
  f167 := Tryd.func53.trans (congrArg some (by kernel_rfl))
  f240 := Tryd.func67.trans (congrArg some (by kernel_rfl))
  f276 := Tryd.func76.trans (congrArg some (by kernel_rfl))
  t0 := Tryd.underlying0
  a0 := Tryd.isAgg0
  z0 := Tryd.sizeOf0
  v0 := Tryd.zeroValue0
  t4 := Tryd.underlying4
  a4 := Tryd.isAgg4
  z4 := Tryd.sizeOf4
  v4 := Tryd.zeroValue4
  t5 := Tryd.underlying5
  a5 := Tryd.isAgg5
  z5 := Tryd.sizeOf5
  v5 := Tryd.zeroValue5
  t9 := Tryd.underlying9
  a9 := Tryd.isAgg9
  z9 := Tryd.sizeOf9
  v9 := Tryd.zeroValue9
  t20 := Tryd.underlying20
  a20 := Tryd.isAgg20
  z20 := Tryd.sizeOf20
  v20 := Tryd.zeroValue20
  t37 := Tryd.underlying57
  a37 := Tryd.isAgg57
  z37 := Tryd.sizeOf57
  v37 := Tryd.zeroValue57
  t70 := Tryd.underlying76
  a70 := Tryd.isAgg76
  z70 := Tryd.sizeOf76
  v70 := Tryd.zeroValue76
  t72 := Tryd.underlying78
  a72 := Tryd.isAgg78
  z72 := Tryd.sizeOf78
  v72 := Tryd.zeroValue78
  t75 := Tryd.underlying109
  a75 := Tryd.isAgg109
  z75 := Tryd.sizeOf109
  v75 := Tryd.zeroValue109
  t164 := Tryd.underlying143
  a164 := Tryd.isAgg143
  z164 := Tryd.sizeOf143
  v164 := Tryd.zeroValue143 }
theorem Tryd.Builder_Extra_167 : Builder.Extra Tryd.prog Tryd.lays167_ren := {
  sizeBuilder := by kernel_rfl
  liesBuilder := by kernel_rfl
  t5 := Tryd.underlying5
  a5 := Tryd.isAgg5
  z5 := Tryd.sizeOf5
  v5 := Tryd.zeroValue5
  infoByte := by kernel_rfl
  cellsByte := by kernel_rfl
  sizeByte := by kernel_rfl
  neB5 := by decide }
open Go.RowKit in
theorem Tryd.Builder_WriteByte_k (B b : Nat) (bs : List Value) (c : Int) (w : World) (h : Lib.IsBuilderF 78 5 B b bs w) (hlen : bs.length + 1 ≤ 140737488355328) (hBw : B ≤ w.heap.size) :
    Calls Tryd.prog 53 #[.pointer (some ⟨b, 0, none⟩), .int .u8 c] w fun e w' => e = .returned .nilIface ∧ (Lib.BuilderAtF 78 5 B b (.pointer (some ⟨b, 0, none⟩)) (bs ++ [.int .u8 c]) w' ∧ Below B w w' ∧ Lib.OthersKept 5 (some b) w w') := Any.Builder_WriteByte_k Tryd.lays167 Tryd.Builder_Extra_167 B b bs c w h hlen hBw
end Go.Proofs

/-
  regs.Show's strings.Builder: what it holds, as a list of bytes; WriteByte, WriteString, String; regs.writeByte: what each writes.
-/
namespace Go.Proofs.YtkopbngnhgdfhaaDoor
open Go.RowKit

def bC (L : List Nat) : List Value := L.map fun (x : Nat) => Value.int .u8 (x : Int)
theorem bC_app (a b : List Nat) : bC (a ++ b) = bC a ++ bC b := List.map_append
theorem bC_len (a : List Nat) : (bC a).length = a.length := List.length_map _
theorem bC_cells : ∀ (L : List Nat), (∀ x, x ∈ L → x < 256) → bC L = Lib.byteCells (L.map UInt8.ofNat)
  | [], _ => rfl
  | x :: l, h => by
    have h1 := bC_cells l fun y hy => h y (by simp [hy])
    have h2 : (UInt8.ofNat x).toNat = x := by rw [UInt8.toNat_ofNat']; exact Nat.mod_eq_of_lt (h x (by simp))
    show Value.int .u8 (x : Int) :: bC l = Value.int .u8 ((UInt8.ofNat x).toNat : Int) :: Lib.byteCells (l.map UInt8.ofNat)
    rw [h1, h2]
/-- A builder in block b holds these bytes. -/
def BldW (b : Nat) (L : List Nat) (w : World) : Prop := Lib.IsBuilderF 78 5 b b (bC L) w
/-- What stays while a builder in block b is written. -/
structure WrK (b : Nat) (w w' : World) : Prop where
  bel : Below b w w'
  oth : Lib.OthersKept 5 (some b) w w'
theorem WrK.refl (b : Nat) (w : World) : WrK b w w := ⟨Below.refl _ _, Lib.OthersKept.refl _ _ _⟩
theorem WrK.trans {b : Nat} {w1 w2 w3 : World} (h : WrK b w1 w2) (g : WrK b w2 w3) : WrK b w1 w3 := ⟨h.bel.trans g.bel, h.oth.trans g.oth⟩
theorem wrK_under {b : Nat} {w w' : World} (h : Below w.heap.size w w') (hb : b ≤ w.heap.size) : WrK b w w' :=
  ⟨h.mono hb, fun k _ hk _ _ => (h.block k (Array.getElem?_eq_some_iff.1 hk).1).trans hk⟩
theorem BldW.lt {b : Nat} {L : List Nat} {w : World} (h : BldW b L w) : b < w.heap.size := by
  rcases h with h | h
  · exact h.lt
  · exact h.lt
theorem BldW.under {b : Nat} {L : List Nat} {w w' : World} (h : BldW b L w) (hb : Below w.heap.size w w') : BldW b L w' := by
  have key : ∀ p, Lib.BuilderAtF 78 5 b b p (bC L) w → Lib.BuilderAtF 78 5 b b p (bC L) w' := by
    rintro p ⟨hB, v, hbk, ⟨hl, hr⟩, hne⟩
    refine ⟨hB, v, (hb.block b (Array.getElem?_eq_some_iff.1 hbk).1).trans hbk, ⟨hl, ?_⟩, hne⟩
    rcases hr with h0 | ⟨g, cap, cur, fz, h1, h2, h3, h4⟩
    · exact .inl h0
    · exact .inr ⟨g, cap, cur, fz, h1, h2, (hb.block g (Array.getElem?_eq_some_iff.1 h3).1).trans h3, h4⟩
  exact h.elim (fun x => .inl (key _ x)) (fun x => .inr (key _ x))
theorem BldW.new (w : World) : BldW w.heap.size [] (w.alloc (.cells #[.pointer none, .slice none 0 0] 78)) := Lib.IsBuilderF.of (Lib.fresh_isBuilder _ _ w)
/-- What a writer comes to. -/
def WrO (b : Nat) (L X : List Nat) (w : World) (e : Ending) (w' : World) : Prop := e = .returned (.tuple #[]) ∧ BldW b (L ++ X) w' ∧ WrK b w w'
theorem bwbyte_any {b : Nat} {L : List Nat} {w : World} (c : Nat) (h : BldW b L w) (hl : L.length ≤ 1000000000) :
    Calls Tryd.prog 53 #[.pointer (some ⟨b, 0, none⟩), .int .u8 (c : Int)] w fun e w' => e = .returned .nilIface ∧ BldW b (L ++ [c]) w' ∧ WrK b w w' :=
  (Tryd.Builder_WriteByte_k b b (bC L) (c : Int) w h (by rw [bC_len]; omega) (Nat.le_of_lt h.lt)).mono fun e w' ⟨he, h1, h2, h3⟩ => ⟨he, by unfold BldW; rw [bC_app]; exact .inr h1, h2, h3⟩
theorem bwstr_any {b : Nat} {L : List Nat} {w : World} (s : ByteArray) (X : List Nat) (hX : Lib.strCells s = bC X) (h : BldW b L w) (hl : L.length + s.size ≤ 1000000000) :
    Calls Tryd.prog 50 #[.pointer (some ⟨b, 0, none⟩), .string s] w fun e w' => e = .returned (.tuple #[.int .i64 s.size, .nilIface]) ∧ BldW b (L ++ X) w' ∧ WrK b w w' :=
  (Any.Builder_WriteString_k Tryd.lays166 Tryd.Builder_Extra_166 b b (bC L) s w h (by rw [bC_len]; omega) (Nat.le_of_lt h.lt)).mono fun e w' ⟨he, h1, h2, h3⟩ => ⟨he, by unfold BldW; rw [bC_app, ← hX]; exact .inr h1, h2, h3⟩
theorem bstring_any {b : Nat} {L : List Nat} {w : World} (h : BldW b L w) (hL : ∀ x, x ∈ L → x < 256) :
    Calls Tryd.prog 32 #[.pointer (some ⟨b, 0, none⟩)] w fun e w' => e = .returned (.string (strR L)) ∧ WrK b w w' :=
  (Any.Builder_String_any_k Tryd.lays169 Tryd.Builder_Extra_169 b b (L.map UInt8.ofNat) w (by rw [← bC_cells L hL]; exact h) (Nat.le_of_lt h.lt)).mono fun e w' ⟨he, _, h2, h3⟩ => ⟨he, h2, h3⟩
theorem hexD : ∀ d, d < 16 → ∃ h : d < (ByteArray.mk #[48, 49, 50, 51, 52, 53, 54, 55, 56, 57, 97, 98, 99, 100, 101, 102]).size, (((ByteArray.mk #[48, 49, 50, 51, 52, 53, 54, 55, 56, 57, 97, 98, 99, 100, 101, 102])[d]'h).toNat) = hexC d := by decide
theorem and15 (x : Nat) (h : x < 256) : bits BinOp.and IntKind.u8 (x : Int) 15 = ((x % 16 : Nat) : Int) := by
  have key : ∀ x : Fin 256, bits BinOp.and IntKind.u8 ((x.val : Nat) : Int) 15 = ((x.val % 16 : Nat) : Int) := by decide +kernel
  exact key ⟨x, h⟩
section
variable {b : Nat} {L : List Nat} {w : World}
/-- Two writes, one behind the other. -/
theorem WrO.of {L X Y Z : List Nat} {w w1 w2 : World} {e : Ending} (he : e = .returned (.tuple #[])) (h1 : BldW b (L ++ X ++ Y) w2) (hk1 : WrK b w w1) (hk2 : WrK b w1 w2) (hz : Z = X ++ Y) : WrO b L Z w e w2 :=
  ⟨he, by rw [hz, ← List.append_assoc]; exact h1, hk1.trans hk2⟩
set_option maxHeartbeats 2000000 in
theorem pwbyte_any (x : Nat) (hx : x < 256) (h : BldW b L w) (hl : L.length ≤ 700000000) :
    Calls Tryd.prog 68 #[.pointer (some ⟨b, 0, none⟩), .int .u8 (x : Int)] w (WrO b L (byteR x) w) := by
  have HL := Lib.hid (And.intro h hl)
  have HS := Lib.hid (fun W => pspecial_any x W hx)
  have HWB := Lib.hid (fun (c : Nat) (M : List Nat) W (hM : M.length ≤ 700000100) (hW : BldW b M W) => bwbyte_any c hW (by omega))
  have HWS := Lib.hid (fun (s : ByteArray) (X M : List Nat) W (hX : Lib.strCells s = bC X) (hM : M.length + s.size ≤ 700000100) (hW : BldW b M W) => bwstr_any s X hX hW (by omega))
  clear h hl
  by_cases e10 : x = 10
  · subst e10
    have hc := HWS.out ⟨#[92, 110]⟩ [92, 110] L w rfl (by have := HL.out.2; show _ + 2 ≤ _; omega) HL.out.1
    have HC := Lib.hid hc
    clear hc HS HWB HWS
    go_enter Tryd.func68, Tryd.ntmps68
    go_wp2_with fail
    go_fit HC.out
    rintro e w1 ⟨rfl, h1, h2⟩
    have H := Lib.hid (And.intro h1 h2)
    clear h1 h2
    go_wp2_with fail
    go_end0
    exact ⟨rfl, H.out⟩
  by_cases e9 : x = 9
  · subst e9
    have hc := HWS.out ⟨#[92, 116]⟩ [92, 116] L w rfl (by have := HL.out.2; show _ + 2 ≤ _; omega) HL.out.1
    have HC := Lib.hid hc
    clear hc HS HWB HWS e10
    go_enter Tryd.func68, Tryd.ntmps68
    go_wp2_with fail
    go_fit HC.out
    rintro e w1 ⟨rfl, h1, h2⟩
    have H := Lib.hid (And.intro h1 h2)
    clear h1 h2
    go_wp2_with fail
    go_end0
    exact ⟨rfl, H.out⟩
  by_cases e13 : x = 13
  · subst e13
    have hc := HWS.out ⟨#[92, 114]⟩ [92, 114] L w rfl (by have := HL.out.2; show _ + 2 ≤ _; omega) HL.out.1
    have HC := Lib.hid hc
    clear hc HS HWB HWS e10 e9
    go_enter Tryd.func68, Tryd.ntmps68
    go_wp2_with fail
    go_fit HC.out
    rintro e w1 ⟨rfl, h1, h2⟩
    have H := Lib.hid (And.intro h1 h2)
    clear h1 h2
    go_wp2_with fail
    go_end0
    exact ⟨rfl, H.out⟩
  have i10 : ((x : Int) == 10) = false := beq_eq_false_iff_ne.2 (by omega)
  have i9 : ((x : Int) == 9) = false := beq_eq_false_iff_ne.2 (by omega)
  have i13 : ((x : Int) == 13) = false := beq_eq_false_iff_ne.2 (by omega)
  have HR : Hid (byteR x = if specR x = true then [92, x] else if 33 ≤ x ∧ x ≤ 126 then [x] else [92, 120, hexC (x / 16), hexC (x % 16)]) := by show _ = _; unfold byteR; rw [if_neg e10, if_neg e9, if_neg e13]
  clear e10 e9 e13
  rcases hsp : specR x with _ | _
  · rw [hsp] at HS HR
    clear hsp
    by_cases hp : 33 ≤ x ∧ x ≤ 126
    · have j1 : (33 : Int) ≤ (x : Int) := by omega
      have j2 : (x : Int) ≤ 126 := by omega
      have HR2 : Hid (byteR x = [x]) := by show _ = _; rw [HR.out, if_neg (by decide), if_pos hp]
      clear HR hp HWS
      go_enter Tryd.func68, Tryd.ntmps68
      go_wp2_with fail
      go_fit (HS.out w)
      rintro e w1 ⟨rfl, rfl⟩
      go_wp2_with fail
      go_fit (HWB.out x L w1 (by have := HL.out.2; omega) HL.out.1)
      rintro e w2 ⟨rfl, h1, h2⟩
      have H := Lib.hid (And.intro h1 h2)
      clear h1 h2
      go_wp2_with fail
      go_end0
      exact ⟨rfl, by rw [HR2.out]; exact H.out.1, H.out.2⟩
    · have HR2 : Hid (byteR x = [92, 120] ++ [hexC (x / 16)] ++ [hexC (x % 16)]) := by show _ = _; rw [HR.out, if_neg (by decide), if_neg hp]; rfl
      have b0 : (0 : Int) ≤ (x : Int) := by omega
      have b255 : (x : Int) ≤ 255 := by omega
      have ha := and15 x hx
      have hs : (x : Int) / 2 ^ 4 = ((x / 16 : Nat) : Int) := by omega
      obtain ⟨m, hm⟩ : ∃ m, x % 16 = m := ⟨_, rfl⟩
      rw [hm] at ha HR2
      have HQ := Lib.hid (hexD (x / 16) (by omega))
      have HM := Lib.hid (hexD m (by omega))
      have hm16 : (m : Int) < 16 := by omega
      have m0 : (0 : Int) ≤ (m : Int) := by omega
      have m255 : (m : Int) ≤ 255 := by omega
      have HFin : Hid (∀ e w1 w2 w3, e = .returned (.tuple #[]) → BldW b (L ++ [92, 120] ++ [hexC (x / 16)] ++ [hexC m]) w3 → WrK b w w1 → WrK b w1 w2 → WrK b w2 w3 → WrO b L (byteR x) w e w3) := fun e w1 w2 w3 he hb k1 k2 k3 =>
        ⟨he, by rw [HR2.out, ← List.append_assoc, ← List.append_assoc]; exact hb, (k1.trans k2).trans k3⟩
      have hj : (¬ (33 : Int) ≤ (x : Int)) ∨ ((33 : Int) ≤ (x : Int) ∧ ¬ (x : Int) ≤ 126) := by omega
      clear HR hp HR2 hm
      rcases hj with j1 | ⟨j1, j2⟩
      all_goals
        go_enter Tryd.func68, Tryd.ntmps68
        go_wp2_with fail
        go_fit (HS.out w)
        rintro e w1 ⟨rfl, rfl⟩
        go_wp2_with fail
        go_fit (HWS.out ⟨#[92, 120]⟩ [92, 120] L w1 rfl (by have := HL.out.2; show _ + 2 ≤ _; omega) HL.out.1)
        rintro e w2 ⟨rfl, h1, h2⟩
        have H2 := Lib.hid (And.intro h1 h2)
        clear h1 h2
        go_wp2_with fail
        obtain ⟨g1, g2⟩ := HQ.out
        have G2 := Lib.hid g2
        clear g2
        go_fit (HWB.out ((ByteArray.mk #[48, 49, 50, 51, 52, 53, 54, 55, 56, 57, 97, 98, 99, 100, 101, 102])[x / 16]'g1).toNat _ w2 (by have := HL.out.2; rw [List.length_append]; show _ + 2 ≤ _; omega) H2.out.1)
        rintro e w3 ⟨rfl, h1, h2⟩
        rw [G2.out] at h1
        have H3 := Lib.hid (And.intro h1 h2)
        clear h1 h2 G2 HQ
        go_wp2_with fail
        obtain ⟨g3, g4⟩ := HM.out
        have G4 := Lib.hid g4
        clear g4
        go_fit (HWB.out ((ByteArray.mk #[48, 49, 50, 51, 52, 53, 54, 55, 56, 57, 97, 98, 99, 100, 101, 102])[m]'g3).toNat _ w3 (by have := HL.out.2; rw [List.length_append, List.length_append]; show _ + 2 + 1 ≤ _; omega) H3.out.1)
        rintro e w4 ⟨rfl, h1, h2⟩
        rw [G4.out] at h1
        have H4 := Lib.hid (And.intro h1 h2)
        clear h1 h2 G4 HM
        go_wp2_with fail
        go_end0
        exact HFin.out _ _ _ _ rfl H4.out.1 H2.out.2 H3.out.2 H4.out.2
  · rw [hsp] at HS HR
    clear hsp
    have HR2 : Hid (byteR x = [92] ++ [x]) := by show _ = _; rw [HR.out, if_pos rfl]; rfl
    clear HR HWS
    go_enter Tryd.func68, Tryd.ntmps68
    go_wp2_with fail
    go_fit (HS.out w)
    rintro e w1 ⟨rfl, rfl⟩
    go_wp2_with fail
    go_fit (HWB.out 92 L w1 (by have := HL.out.2; omega) HL.out.1)
    rintro e w2 ⟨rfl, h1, h2⟩
    have H2 := Lib.hid (And.intro h1 h2)
    clear h1 h2
    go_wp2_with fail
    go_fit (HWB.out x _ w2 (by have := HL.out.2; rw [List.length_append]; show _ + 1 ≤ _; omega) H2.out.1)
    rintro e w3 ⟨rfl, h1, h2⟩
    have H3 := Lib.hid (And.intro h1 h2)
    clear h1 h2
    go_wp2_with fail
    go_end0
    exact WrO.of rfl H3.out.1 H2.out.2 H3.out.2 HR2.out
end
end Go.Proofs.YtkopbngnhgdfhaaDoor
