/-
  What lies in memory where a decoder's bytes and its keys lie: a row of keys, a row of bytes, the decoder's box. No call is walked here.
-/
import Derived.Test.YtdnldfgolbcjiaaDoorKyN
import Derived.Test.YtdnldfgolbcjiaaDoorRowFull
import Derived.Test.YtdnldfgolbcjiaaDoorList
import Derived.Laws.IdiomStrings
import Derived.Laws.BytesArg
namespace Go.Proofs.YtdnldfgolbcjiaaDoor
open Go.RowKit

abbrev FromK (n : Nat) : Nat → Prop := fun k => n ≤ k
abbrev AnyK : Nat → Prop := fun _ => True

def keC (k : Ke) : List Value := [.int .i64 (k.1 : Int), .int .i32 (k.2.1 : Int), .string k.2.2]
def keV (k : Ke) : Value := .agg #[.int .i64 (k.1 : Int), .int .i32 (k.2.1 : Int), .string k.2.2]
def kesC (l : List Ke) : List Value := l.flatMap keC
/-- A slice of these keys, in blocks of 'ok'. -/
def KeysW (ok : Nat → Prop) (w : World) (v : Value) (l : List Ke) : Prop := RowV ok w v l.length (kesC l)
/-- The bytes of a text, as cells. -/
def bytesC (s : ByteArray) : List Value := s.data.toList.map fun u => .int .u8 (u.toNat : Int)
/-- A slice that reads so. -/
def BytesW (w : World) (v : Value) (s : ByteArray) : Prop := RowV AnyK w v s.size (bytesC s)

theorem kesC_len : ∀ l : List Ke, (kesC l).length = l.length * 3
  | [] => rfl
  | x :: l => by show (keC x ++ kesC l).length = _; rw [List.length_append, kesC_len l, List.length_cons]; show 3 + _ = _; omega
theorem kesC_app (a b : List Ke) : kesC (a ++ b) = kesC a ++ kesC b := by unfold kesC; rw [List.flatMap_append]
theorem kesC_one (l : List Ke) : ∀ u ∈ kesC l, u.oneCell' = true := by
  intro u hu
  obtain ⟨x, _, hx⟩ := List.mem_flatMap.1 hu
  simp only [keC, List.mem_cons, List.not_mem_nil, or_false] at hx
  rcases hx with rfl | rfl | rfl <;> rfl
theorem kesC_at : ∀ (l : List Ke) (i j : Nat) (x : Ke), l[i]? = some x → j < 3 → (kesC l)[3 * i + j]? = (keC x)[j]?
  | [], i, j, x, h, _ => by simp at h
  | y :: l, 0, j, x, h, hj => by
    simp at h
    subst h
    show (keC y ++ kesC l)[_]? = _
    rw [Nat.mul_zero, Nat.zero_add, List.getElem?_append_left (by show j < 3; exact hj)]
  | y :: l, i + 1, j, x, h, hj => by
    show (keC y ++ kesC l)[_]? = _
    rw [List.getElem?_append_right (by show 3 ≤ _; omega), ← kesC_at l i j x (by simpa using h) hj]
    congr 1
    show 3 * (i + 1) + j - 3 = _
    omega
theorem KeysW.at_ {ok : Nat → Prop} {w : World} {v : Value} {l : List Ke} {i : Nat} {a : Ke} (h : KeysW ok w v l) (hi : l[i]? = some a) :
    ∃ g o cap, v = .slice (some ⟨g, o, none⟩) l.length cap ∧ l.length ≤ cap ∧ w.cell? ⟨g, o + 3 * i, none⟩ = some (.int .i64 (a.1 : Int)) ∧ w.cell? ⟨g, o + 3 * i + 1, none⟩ = some (.int .i32 (a.2.1 : Int)) ∧ w.cell? ⟨g, o + 3 * i + 2, none⟩ = some (.string a.2.2) := by
  have f := fun j hj => kesC_at l i j a hi hj
  obtain ⟨g, o, cap, hv, hc, _, hh⟩ := RowV.at_ h (j := 3 * i + 0) (f 0 (by decide))
  refine ⟨g, o, cap, hv, hc, ?_, ?_, ?_⟩
  · exact hh (3 * i) _ (f 0 (by decide))
  · rw [Nat.add_assoc]; exact hh (3 * i + 1) _ (f 1 (by decide))
  · rw [Nat.add_assoc]; exact hh (3 * i + 2) _ (f 2 (by decide))
theorem KeysW.keep {ok : Nat → Prop} {w w' : World} {v : Value} {l : List Ke} (h : KeysW ok w v l) (hk : KeepW ok w w') : KeysW ok w' v l := RowV.keep h hk
theorem KeysW.below {ok : Nat → Prop} {w w' : World} {v : Value} {l : List Ke} (h : KeysW ok w v l) (hb : Below w.heap.size w w') : KeysW ok w' v l := RowV.keep h (keep_below ok hb)
theorem KeysW.any {ok ok' : Nat → Prop} {w : World} {v : Value} {l : List Ke} (h : KeysW ok w v l) (hm : ∀ k, ok k → ok' k) : KeysW ok' w v l := by
  obtain ⟨ao, cap, hv, hn, ho, hc⟩ := h
  exact ⟨ao, cap, hv, hn, fun a e => hm _ (ho a e), hc⟩
theorem KeysW.form {ok : Nat → Prop} {w : World} {v : Value} {l : List Ke} (h : KeysW ok w v l) : ∃ ao cap, v = .slice ao l.length cap ∧ l.length ≤ cap := by
  obtain ⟨ao, cap, hv, hn, _⟩ := h
  exact ⟨ao, cap, hv, hn⟩
theorem KeysW.nil (ok : Nat → Prop) (w : World) : KeysW ok w (.slice none 0 0) [] := RowV.nil ok w
/-- One key alone, in a block of its own. -/
theorem keys_one {w : World} {k : Ke} {T : TypeId} : KeysW (FromK w.heap.size) (w.alloc (.cells #[.int .i64 (k.1 : Int), .int .i32 (k.2.1 : Int), .string k.2.2] T)) (.slice (some ⟨w.heap.size, 0, none⟩) 1 1) [k] := by
  obtain ⟨ao, cap, hv, hn, ho, hc⟩ := row_new (w := w) (cs := kesC [k]) (zs := []) (n := 1) (cap := 1) (e := T) (Nat.le_refl _)
  exact ⟨ao, cap, hv, hn, fun a e => Nat.le_of_eq (ho a e).symm, hc⟩

theorem bytesC_len (s : ByteArray) : (bytesC s).length = s.size := by unfold bytesC; rw [List.length_map, ← Lib.size_eq]
theorem bytesC_one (s : ByteArray) : ∀ u ∈ bytesC s, u.oneCell' = true := by
  intro u hu
  obtain ⟨x, _, rfl⟩ := List.mem_map.1 hu
  rfl
theorem bytesC_snoc (s : ByteArray) (b : Nat) (h : b < 256) : bytesC (s ++ oneS b) = bytesC s ++ [.int .u8 (b : Int)] := by
  unfold bytesC
  rw [app_data, List.map_append]
  show _ ++ [Value.int .u8 ((UInt8.ofNat b).toNat : Int)] = _
  rw [ofNat_toNat b h]
theorem bytesC_at (s : ByteArray) (i : Nat) (h : i < s.size) : (bytesC s)[i]? = some (.int .u8 (bt s i : Int)) := by
  unfold bytesC
  rw [bt_data, List.getElem?_map, List.getD, List.getElem?_eq_getElem (by rw [← Lib.size_eq]; exact h)]
  rfl
theorem tail_data (s : ByteArray) (k : Nat) : (tailB s k).data.toList = s.data.toList.drop k := by
  unfold tailB
  rw [Lib.extract_data, Lib.size_eq, List.take_of_length_le]
  rw [List.length_drop]
  exact Nat.le_refl _
theorem tailB_size (s : ByteArray) (k : Nat) : (tailB s k).size = s.size - k := by rw [Lib.size_eq, tail_data, List.length_drop, ← Lib.size_eq]
theorem bytesC_drop (s : ByteArray) (k : Nat) : (bytesC s).drop k = bytesC (tailB s k) := by unfold bytesC; rw [tail_data, List.map_drop]
theorem head_data (s : ByteArray) (k : Nat) : (s.extract 0 k).data.toList = s.data.toList.take k := by rw [Lib.extract_data, List.drop_zero, Nat.sub_zero]
theorem bytesC_take (s : ByteArray) (k : Nat) : (bytesC s).take k = bytesC (s.extract 0 k) := by unfold bytesC; rw [head_data, List.map_take]
theorem bytesC_nums (s : ByteArray) : (s.data.toList.map fun u => (u.toNat : Int)).map (Value.int .u8) = bytesC s := by unfold bytesC; rw [List.map_map]; rfl
theorem str_bytes (s : ByteArray) : strOfNums (s.data.toList.map fun u => (u.toNat : Int)) = s := by
  refine strOf_ext ?_
  rw [List.map_map]
  refine (List.map_id'' (fun u => ?_) _).symm
  show UInt8.ofNat ((u.toNat : Int).toNat) = u
  rw [Int.toNat_natCast]
  exact UInt8.ofNat_toNat

theorem BytesW.keep {w w' : World} {v : Value} {s : ByteArray} {ok : Nat → Prop} (h : BytesW w v s) (hk : KeepW ok w w') (ho : ∀ k, v.ownBlock = some k → ok k) : BytesW w' v s := by
  obtain ⟨ao, cap, rfl, hn, _, hc⟩ := h
  refine ⟨ao, cap, rfl, hn, fun _ _ => trivial, fun j u hu => ?_⟩
  obtain ⟨g, o, rfl, hg⟩ := hc j u hu
  exact ⟨g, o, rfl, hk.cell hg (ho g rfl)⟩
theorem BytesW.below {w w' : World} {v : Value} {s : ByteArray} (h : BytesW w v s) (hb : Below w.heap.size w w') : BytesW w' v s := RowV.keep h (keep_below AnyK hb)
theorem BytesW.form {w : World} {v : Value} {s : ByteArray} (h : BytesW w v s) : ∃ ao cap, v = .slice ao s.size cap ∧ s.size ≤ cap := by
  obtain ⟨ao, cap, hv, hn, _⟩ := h
  exact ⟨ao, cap, hv, hn⟩
theorem BytesW.cells {w : World} {v : Value} {s : ByteArray} (h : BytesW w v s) (h0 : 0 < s.size) : ∃ g o cap, v = .slice (some ⟨g, o, none⟩) s.size cap ∧ s.size ≤ cap ∧ ∀ i, i < s.size → w.cell? ⟨g, o + i, none⟩ = some (.int .u8 (bt s i : Int)) := by
  obtain ⟨g, o, cap, hv, hn, _, hc⟩ := RowV.at_ h (bytesC_at s 0 h0)
  exact ⟨g, o, cap, hv, hn, fun i hi => hc i _ (bytesC_at s i hi)⟩
/-- The text of a slice of bytes. -/
theorem bytes_conv {w : World} {v : Value} {s : ByteArray} (t : TypeId) (ht : Tryd.prog.underlying t = some (.slice 5)) (h : BytesW w v s) :
    (convert t 9 v).run Tryd.prog w = .ok (.string s) w := by
  obtain ⟨ao, cap, rfl, hn, _, hc⟩ := h
  cases ao with
  | none =>
    have h0 : s.size = 0 := by
      rcases Nat.eq_zero_or_pos s.size with h | h
      · exact h
      · obtain ⟨_, _, he, _⟩ := hc 0 _ (bytesC_at s 0 h); cases he
    have hs : s = ByteArray.empty := by
      apply ByteArray.ext
      exact Array.eq_empty_of_size_eq_zero h0
    rw [hs]
    exact run_convert_bytes_nil w t 5 ht Tryd.underlying5 _ _ 9 Tryd.underlying9
  | some a =>
    rw [Lib.size_eq s]
    refine run_convert_bytes_back w t 9 5 a cap s.data.toList ht Tryd.underlying5 Tryd.underlying9 (fun j hj => ?_)
    obtain ⟨g, o, he, hg⟩ := hc j _ (bytesC_at s j (by rw [Lib.size_eq]; exact hj))
    cases he
    rw [rlit, hg, bt_data, List.getD, List.getElem?_eq_getElem hj]
    rfl

/-- A decoder's box; what it holds. -/
def boxK (w : World) (D : Nat) (x : Value) : Prop := w.heap[D]? = some (.cells #[x] 43 (0, 0))
def kyI (p : Ky) (v : Value) : Value := match p with | .held _ => .iface 52 v | .paste _ => .iface 53 v
def textK : Ky → ByteArray
  | .held s => s
  | .paste s => s
/-- A row of bytes of the call's own. -/
def OwnB (N : Nat) (w : World) (v : Value) (s : ByteArray) : Prop := w.ownsRow N 5 1 v s.size (bytesC s)
structure DecW (N : Nat) (w : World) (D : Nat) (v : Value) (p : Ky) : Prop where
  box : boxK w D (kyI p v)
  row : OwnB N w v (textK p)
  ne : v.ownBlock ≠ some D
  ge : N ≤ D

theorem boxK.set {w : World} {D : Nat} {x : Value} (h : boxK w D x) (y : Value) : boxK (w.setCell ⟨D, 0, none⟩ y) D y := by
  unfold boxK at h ⊢
  show (w.heap.modify D _)[D]? = _
  have hlt := (Array.getElem?_eq_some_iff.1 h).1
  obtain ⟨_, he⟩ := Array.getElem?_eq_some_iff.1 h
  rw [Array.getElem?_eq_getElem (by rw [Array.size_modify]; exact hlt), Array.getElem_modify_self, he]
  rfl
theorem boxK.cells {w : World} {D : Nat} {x : Value} (h : boxK w D x) : w.cell? ⟨D, 0, none⟩ = some x ∧ w.frozen? ⟨D, 0, none⟩ = false := by
  unfold boxK at h
  refine ⟨?_, ?_⟩ <;> first | (unfold World.cell?; rw [h]; rfl) | (unfold World.frozen?; rw [h]; simp)
theorem boxK.lt {w : World} {D : Nat} {x : Value} (h : boxK w D x) : D < w.heap.size := (Array.getElem?_eq_some_iff.1 h).1
theorem boxK.keep {ok : Nat → Prop} {w w' : World} {D : Nat} {x : Value} (h : boxK w D x) (hk : KeepW ok w w') (ho : ok D) : boxK w' D x := (hk.same D h.lt ho).trans h
theorem boxK.below {w w' : World} {D : Nat} {x : Value} (h : boxK w D x) (hb : Below w.heap.size w w') : boxK w' D x := (hb.block D h.lt).trans h
theorem OwnB.keep {N : Nat} {ok : Nat → Prop} {w w' : World} {v : Value} {s : ByteArray} (h : OwnB N w v s) (hk : KeepW ok w w') (ho : ∀ k, v.ownBlock = some k → ok k) : OwnB N w' v s := by
  obtain ⟨h1, h2 | ⟨g, cap, cur, rfl, h3, h4, h5⟩⟩ := h
  · exact ⟨h1, .inl h2⟩
  · exact ⟨h1, .inr ⟨g, cap, cur, rfl, h3, (hk.same g (Array.getElem?_eq_some_iff.1 h4).1 (ho g rfl)).trans h4, h5⟩⟩
theorem OwnB.below {N : Nat} {w w' : World} {v : Value} {s : ByteArray} (h : OwnB N w v s) (hb : Below w.heap.size w w') : OwnB N w' v s := h.keep (keep_below AnyK hb) fun _ _ => trivial
theorem OwnB.bytes {N : Nat} {w : World} {v : Value} {s : ByteArray} (h : OwnB N w v s) : BytesW w v s := by
  rcases h.2 with ⟨rfl, h0⟩ | ⟨g, cap, cur, rfl, _, hg, hn, _, _, hx⟩
  · have hs : bytesC s = [] := List.eq_nil_of_length_eq_zero (by rw [bytesC_len]; exact h0)
    unfold BytesW
    rw [h0, hs]
    exact RowV.nil _ _
  · refine ⟨_, cap, rfl, hn, fun _ _ => trivial, fun j u hu => ⟨g, 0, rfl, ?_⟩⟩
    rw [Nat.zero_add, cell_of_row _ _ _ cur 5 (0, 0) hg]
    rw [← hx, List.getElem?_take] at hu
    split at hu
    · rw [← Array.getElem?_toList]; exact hu
    · cases hu
theorem OwnB.lt {N : Nat} {w : World} {v : Value} {s : ByteArray} (h : OwnB N w v s) : ∀ k, v.ownBlock = some k → N ≤ k ∧ k < w.heap.size := World.ownsRow.lt h
theorem DecW.keep {N : Nat} {ok : Nat → Prop} {w w' : World} {D : Nat} {v : Value} {p : Ky} (h : DecW N w D v p) (hk : KeepW ok w w') (hD : ok D) (ho : ∀ k, v.ownBlock = some k → ok k) : DecW N w' D v p :=
  ⟨h.box.keep hk hD, h.row.keep hk ho, h.ne, h.ge⟩
theorem DecW.below {N : Nat} {w w' : World} {D : Nat} {v : Value} {p : Ky} (h : DecW N w D v p) (hb : Below w.heap.size w w') : DecW N w' D v p := h.keep (keep_below AnyK hb) trivial fun _ _ => trivial
/-- One turn behind another. -/
theorem KeepW.comp {ok ok2 : Nat → Prop} {a b c : World} (h : KeepW ok a b) (g : KeepW ok2 b c) (hm : ∀ k, k < a.heap.size → ok k → ok2 k) : KeepW ok a c :=
  ⟨g.os.trans h.os, g.tape.trans h.tape, g.output.trans h.output, Nat.le_trans h.size g.size, fun k hk ho => (g.same k (Nat.lt_of_lt_of_le hk h.size) (hm k hk ho)).trans (h.same k hk ho)⟩
/-- What a turn of a decoder leaves: keys, where it stands, all else as it was. -/
def FedK (N D : Nat) (ok : Nat → Prop) (w : World) (r : Ky × List Ke) (e : Ending) (w' : World) : Prop :=
  ∃ u v', e = .returned u ∧ KeysW (FromK w.heap.size) w' u r.2 ∧ DecW N w' D v' r.1 ∧ KeepW ok w w' ∧ ∀ k, v'.ownBlock = some k → k < w.heap.size → ¬ ok k
end Go.Proofs.YtdnldfgolbcjiaaDoor
