/-
  Texts of this proof, one behind the other; each begins with its own remark.
-/
import Derived.Lib.LastIndexByte
import Derived.Lib.SplitLaws
import Derived.Lib.IndexBytes
import Derived.Lib.IndexLaws
import Derived.Shelf.Small.Utf8
import Derived.Shelf.Strconv.Itoa0
import Derived.Shelf.Strconv.Itoa1
import Derived.Shelf.LaysM
import Derived.Shelf.Strconv.Itoa2
import Derived.Shelf.Strconv.Itoa3
import Derived.Shelf.Strings.Search1
import Derived.Shelf.Strings.Search2
import Derived.Shelf.Strings.Search3
import Derived.Shelf.Strings.Count
import Derived.Shelf.Strings.Shaped
import Derived.Shelf.Strings.LastIndex
import Derived.Shelf.Strings.Split
import Derived.Shelf.Unicode.DecodeSlow
import Derived.Test.YtpkjaallhhjleaaGreatDoorProg
import Derived.Deep.DeepFit
import Derived.Test.YtpkjaallhhjleaaGreatDoorBe8
import Derived.Test.YtpkjaallhhjleaaGreatDoorBe7
/-
  Plain facts: what is asked for at once: few numbers, each small. What stands at one place of a row of actions. No call is walked here.
-/
namespace Go.Proofs.YtpkjaallhhjleaaGreatDoor
open Go.RowKit

theorem feed_acts (p : Ps) (b : Nat) (h : OkP p) : ∀ a ∈ (feedN p b).2, a.2.2.1.length ≤ 16 ∧ ∀ x ∈ a.2.2.1, x ≤ 9999 := by
  have hf : ∀ a ∈ (firstN b).2, (a.2.2.1.length ≤ 16 ∧ ∀ x ∈ a.2.2.1, x ≤ 9999) := by
    intro a ha
    unfold firstN at ha
    repeat' split at ha
    all_goals first | (simp at ha; done) | (simp only [List.mem_singleton, badA] at ha; subst ha; exact ⟨Nat.zero_le _, fun x hx => by cases hx⟩)
  have hw : ∀ q, ∀ a ∈ (withinN q b).2, (a.2.2.1.length ≤ 16 ∧ ∀ x ∈ a.2.2.1, x ≤ 9999) := by
    intro q a ha
    unfold withinN at ha
    repeat' split at ha
    all_goals (simp only [List.mem_singleton, badA] at ha; subst ha; exact ⟨Nat.zero_le _, fun x hx => by cases hx⟩)
  cases p with
  | zero => exact hf
  | start s =>
    intro a ha
    have ha : a ∈ (startN s b).2 := ha
    unfold startN at ha
    repeat' split at ha
    · simp only [List.mem_singleton] at ha; subst ha; exact ⟨Nat.zero_le _, fun x hx => by cases hx⟩
    · simp at ha
    · rcases List.mem_cons.1 ha with ha | ha
      · subst ha; exact ⟨Nat.zero_le _, fun x hx => by cases hx⟩
      · exact hf a ha
  | esc =>
    intro a ha
    have ha : a ∈ (escN b).2 := ha
    unfold escN at ha
    repeat' split at ha
    · exact hw _ a ha
    · simp at ha
    · simp only [List.mem_singleton] at ha; subst ha; exact ⟨Nat.zero_le _, fun x hx => by cases hx⟩
    · simp only [List.mem_singleton, badA] at ha; subst ha; exact ⟨Nat.zero_le _, fun x hx => by cases hx⟩
  | seq pre x =>
    intro a ha
    have ha : a ∈ (seqN pre x b).2 := ha
    unfold seqN at ha
    repeat' split at ha
    · exact hw _ a ha
    · simp at ha
    · simp only [List.mem_singleton] at ha
      subst ha
      refine ⟨?_, ?_⟩
      · show (paramsN pre x).length ≤ 16
        unfold paramsN nums
        split
        · exact Nat.zero_le _
        · rw [List.length_map, List.length_append]
          have := h.1
          show pre.length + 1 ≤ 16
          omega
      · show ∀ y ∈ paramsN pre x, y ≤ 9999
        intro y hy
        unfold paramsN nums at hy
        split at hy
        · cases hy
        · obtain ⟨z, hz, rfl⟩ := List.mem_map.1 hy
          cases z with
          | none => exact Nat.zero_le _
          | some z =>
            rcases List.mem_append.1 hz with hz | hz
            · exact h.2.1 z hz
            · exact h.2.2 z (List.mem_singleton.1 hz).symm
    · simp only [List.mem_singleton, badA] at ha; subst ha; exact ⟨Nat.zero_le _, fun x hx => by cases hx⟩
  | bad =>
    intro a ha
    have ha : a ∈ (wrongN b).2 := ha
    unfold wrongN at ha
    repeat' split at ha
    · exact hw _ a ha
    · simp at ha
    · simp only [List.mem_singleton, badA] at ha; subst ha; exact ⟨Nat.zero_le _, fun x hx => by cases hx⟩
theorem acts_at4 {ok : Nat → Prop} {w : World} {v : Value} {l : List Ac} {i : Nat} {a : Ac} (h : ActsW ok w v l) (hi : l[i]? = some a) :
    ∃ g o cap pv, v = .slice (some ⟨g, o, none⟩) l.length cap ∧ l.length ≤ cap ∧ w.cell? ⟨g, o + i * 4, none⟩ = some (.int .i64 (a.1 : Int)) ∧ w.cell? ⟨g, o + i * 4 + 1, none⟩ = some (.int .i32 (a.2.1 : Int)) ∧
      w.cell? ⟨g, o + i * 4 + 2, none⟩ = some pv ∧ w.cell? ⟨g, o + i * 4 + 3, none⟩ = some (.int .u8 (a.2.2.2 : Int)) ∧ NumsW ok w pv a.2.2.1 := by
  have := h.at_ hi
  rw [Nat.mul_comm 4 i] at this
  exact this
theorem blw_alloc {w W : World} {o : Obj} (h : Below w.heap.size w W) : Below w.heap.size w (W.alloc o) := h.alloc h.size _
theorem blw_drew2 (W : World) (o : Obj) : Below W.heap.size W (W.alloc o).drew := ((Below.refl _ W).alloc (Nat.le_refl _) _).drew
theorem blk2_drawn (W : World) (x0 x1 : Value) : blk2 (W.alloc (.cells #[x0, x1] 45)).drew W.heap.size x0 x1 := blk2.new W x0 x1
end Go.Proofs.YtpkjaallhhjleaaGreatDoor

/-
  Plain facts on what is kept of a sequence: where its last part begins, how many parts there are, what it is cut into; with one more byte. Nothing of the program.
-/
namespace Go.Proofs.YtpkjaallhhjleaaGreatDoor
open Go.RowKit

def allDig (pre : List (Option Nat)) (x : Option Nat) : List UInt8 := rendL pre x
theorem part_sep (x : Option Nat) : (59 : UInt8) ∉ prtL x := fun h => by
  have := part_dig x 59 h
  unfold digitU at this
  simp at this
theorem part_quest (x : Option Nat) : (63 : UInt8) ∉ prtL x := fun h => by
  have := part_dig x 63 h
  unfold digitU at this
  simp at this
theorem pre_quest (pre : List (Option Nat)) : (63 : UInt8) ∉ preL' pre := fun h => by
  unfold preL' at h
  obtain ⟨y, _, hy⟩ := List.mem_flatMap.1 h
  rcases List.mem_append.1 hy with hy | hy
  · exact part_quest y hy
  · simp at hy
theorem rend_data (pre : List (Option Nat)) (x : Option Nat) : (rend pre x).data.toList = rendL pre x := rfl
theorem rend_size (pre : List (Option Nat)) (x : Option Nat) : (rend pre x).size = (preL' pre).length + (prtL x).length := by
  rw [Lib.size_eq, rend_data]; unfold rendL; rw [List.length_append]
/-- It is not the mark of what may not be. -/
theorem rend_ne (pre : List (Option Nat)) (x : Option Nat) : (rend pre x).data.toList ≠ [63] := fun h => by
  have h1 : (63 : UInt8) ∈ rendL pre x := by rw [← rend_data, h]; exact List.mem_singleton.2 rfl
  unfold rendL at h1
  rcases List.mem_append.1 h1 with h1 | h1
  · exact pre_quest pre h1
  · exact part_quest x h1
theorem pre_count (pre : List (Option Nat)) : (preL' pre).count 59 = pre.length := by
  induction pre with
  | nil => rfl
  | cons y pre ih =>
    show ((prtL y ++ [59]) ++ preL' pre).count 59 = _
    rw [List.count_append, List.count_append, ih, List.count_eq_zero.2 (part_sep y), List.length_cons]
    show 0 + 1 + _ = _
    omega
theorem rend_count (pre : List (Option Nat)) (x : Option Nat) : Lib.countByte (rend pre x).data.toList 59 = pre.length := by
  show (rendL pre x).count 59 = _
  unfold rendL
  rw [List.count_append, pre_count, List.count_eq_zero.2 (part_sep x)]
  omega
theorem pre_last (pre : List (Option Nat)) (h : pre ≠ []) : ∃ r, preL' pre = r ++ [59] := by
  rcases List.eq_nil_or_concat pre with rfl | ⟨q, y, rfl⟩
  · exact absurd rfl h
  · refine ⟨preL' q ++ prtL y, ?_⟩
    rw [List.concat_eq_append]
    unfold preL'
    rw [List.flatMap_append]
    simp
/-- Where the last part begins. -/
theorem rend_last (pre : List (Option Nat)) (x : Option Nat) : Lib.lastIndexByte (rend pre x) 59 + 1 = ((preL' pre).length : Int) := by
  have hz : ∀ (j : Nat) u, (rendL pre x)[j]? = some u → (rend pre x).data[j]! = u := fun j u hu => by
    show (rendL pre x).toArray[j]! = u
    simp [hu]
  have hin : ∀ j, (preL' pre).length ≤ j → j < (rend pre x).size → (((rend pre x).data[j]!).toNat : Int) ≠ 59 := fun j h1 h2 h3 => by
    rw [rend_size] at h2
    have h4 : (rendL pre x)[j]? = some ((prtL x)[j - (preL' pre).length]'(by omega)) := by
      unfold rendL
      rw [List.getElem?_append_right h1, List.getElem?_eq_getElem]
    rw [hz j _ h4] at h3
    have h5 := part_dig x _ (List.getElem_mem (l := prtL x) (n := j - (preL' pre).length) (by omega))
    unfold digitU at h5
    omega
  by_cases hp : pre = []
  · subst hp
    rcases Lib.lastIndexByte_spec (rend [] x) 59 with ⟨h1, _⟩ | ⟨i, h1, _, h3, _⟩
    · rw [h1]; rfl
    · exact absurd h3 (hin i (Nat.zero_le _) h1)
  · obtain ⟨r, hr⟩ := pre_last pre hp
    have hl : (preL' pre).length = r.length + 1 := by rw [hr, List.length_append]; rfl
    have h59 : (rend pre x).data[r.length]! = 59 := hz _ _ (by
      unfold rendL
      rw [hr, List.append_assoc, List.getElem?_append_right (Nat.le_refl _), Nat.sub_self]
      rfl)
    have hsz := rend_size pre x
    rcases Lib.lastIndexByte_spec (rend pre x) 59 with ⟨_, h2⟩ | ⟨i, h1, h2, h3, h4⟩
    · exact absurd (by rw [h59]; rfl) (h2 r.length (by omega))
    · rw [h2]
      have a1 : i < (preL' pre).length := Nat.lt_of_not_le fun h => hin i h h1 h3
      have a2 : ¬ i < r.length := fun h => h4 r.length h (by omega) (by rw [h59]; rfl)
      omega
theorem rend_head (pre : List (Option Nat)) (x : Option Nat) : ((rend pre x).extract 0 (preL' pre).length).data.toList = preL' pre := by
  rw [Lib.extract_data, rend_data, List.drop_zero, Nat.sub_zero]
  exact List.take_left
theorem rend_tail (pre : List (Option Nat)) (x : Option Nat) : ((rend pre x).extract (preL' pre).length (rend pre x).size).data.toList = prtL x := by
  rw [Lib.extract_data, rend_data]
  unfold rendL
  rw [List.drop_left, rend_size]
  exact List.take_of_length_le (by omega)
/-- One more digit. -/
theorem rend_digit (pre : List (Option Nat)) (x : Option Nat) (n : Nat) : (rend pre x).extract 0 (preL' pre).length ++ ⟨(Lib.itoa (n : Int)).toArray⟩ = rend pre (some n) := by
  apply ByteArray.ext
  apply Array.toList_inj.1
  rw [app_data, rend_head, rend_data]
  unfold rendL Lib.itoa
  rw [if_neg (by omega)]
  rfl
/-- One more part. -/
theorem rend_more (pre : List (Option Nat)) (x : Option Nat) : rend pre x ++ ⟨#[59]⟩ = rend (pre ++ [x]) none := by
  apply ByteArray.ext
  apply Array.toList_inj.1
  rw [app_data, rend_data, rend_data, rend_sep]

def partB (x : Option Nat) : ByteArray := ⟨(prtL x).toArray⟩
theorem index_part (x : Option Nat) (r : List UInt8) : Lib.index (prtL x ++ 59 :: r) [59] = (prtL x).length := by
  rw [Lib.index_one]
  generalize hp : prtL x = p
  have h : (59 : UInt8) ∉ p := hp ▸ part_sep x
  clear hp
  induction p with
  | nil => rfl
  | cons a p ih =>
    have ha : ¬ (a == 59) = true := fun e => h (by rw [beq_iff_eq.1 e]; exact List.mem_cons_self ..)
    have h2 := ih fun e => h (List.mem_cons_of_mem _ e)
    show Lib.indexByte (a :: (p ++ 59 :: r)) 59 = _
    unfold Lib.indexByte
    rw [if_neg ha, h2, if_neg (by simp), List.length_cons]
    omega
theorem index_none (x : Option Nat) : Lib.index (prtL x) [59] = -1 := by
  rw [Lib.index_one]
  generalize hp : prtL x = p
  have h : (59 : UInt8) ∉ p := hp ▸ part_sep x
  clear hp
  induction p with
  | nil => rfl
  | cons a p ih =>
    have ha : ¬ (a == 59) = true := fun e => h (by rw [beq_iff_eq.1 e]; exact List.mem_cons_self ..)
    have h2 := ih fun e => h (List.mem_cons_of_mem _ e)
    unfold Lib.indexByte
    rw [if_neg ha, h2]
    rfl
/-- It is cut into its parts. -/
theorem rend_split (x : Option Nat) : ∀ pre : List (Option Nat), Lib.splitB ⟨#[59]⟩ 0 pre.length (rend pre x) = (pre ++ [x]).map partB
  | [] => rfl
  | y :: pre => by
    have hd : (rend (y :: pre) x).data.toList = prtL y ++ 59 :: rendL pre x := by
      rw [rend_data]
      show (prtL y ++ [59]) ++ preL' pre ++ prtL x = _
      unfold rendL
      simp
    have hi : Lib.indexB (rend (y :: pre) x) ⟨#[59]⟩ = ((prtL y).length : Nat) := by
      show Lib.index _ [59] = _
      rw [hd, index_part]
    rw [List.length_cons, Lib.splitB_hit _ _ _ _ _ hi]
    have e1 : (rend (y :: pre) x).extract 0 ((prtL y).length + 0) = partB y := by
      apply ByteArray.ext
      apply Array.toList_inj.1
      rw [Lib.extract_data, hd, List.drop_zero, Nat.sub_zero, Nat.add_zero]
      exact List.take_left
    have e2 : (rend (y :: pre) x).extract ((prtL y).length + (⟨#[59]⟩ : ByteArray).size) (rend (y :: pre) x).size = rend pre x := by
      apply ByteArray.ext
      apply Array.toList_inj.1
      rw [Lib.extract_data, hd, rend_data, Lib.size_eq (rend (y :: pre) x), hd]
      show List.take _ (List.drop ((prtL y).length + 1) _) = _
      rw [show prtL y ++ 59 :: rendL pre x = (prtL y ++ [59]) ++ rendL pre x by simp, show (prtL y).length + 1 = (prtL y ++ [59]).length by simp, List.drop_left]
      refine List.take_of_length_le ?_
      rw [List.length_append]
      show _ ≤ _ - ((prtL y).length + 1)
      rw [List.length_append]
      show _ ≤ (prtL y).length + 1 + _ - _
      omega
    rw [e1, e2, rend_split x pre]
    rfl
theorem rend_countB (pre : List (Option Nat)) (x : Option Nat) : Lib.countB (rend pre x) ⟨#[59]⟩ = pre.length := by
  show Lib.count (rend pre x).data.toList [59] = _
  rw [Lib.count_one]
  exact rend_count pre x
theorem digit_len (n : Nat) (h : n ≤ 9999) : (Lib.decDigits n).length ≤ 4 := by
  rw [Lib.decDigits_length]
  unfold Lib.nDigits
  split
  · omega
  unfold Lib.nDigits
  split
  · omega
  unfold Lib.nDigits
  split
  · omega
  unfold Lib.nDigits
  split
  · omega
  exfalso; omega
theorem rend_small (pre : List (Option Nat)) (x : Option Nat) (h : OkP (.seq pre x)) : (rend pre x).size ≤ 100 := by
  obtain ⟨h1, h2, h3⟩ := h
  have hx : ∀ y : Option Nat, (∀ n, y = some n → n ≤ 9999) → (prtL y).length ≤ 4 := fun y hy => by
    cases y with
    | none => exact Nat.zero_le _
    | some n => exact digit_len n (hy n rfl)
  have hp : ∀ l : List (Option Nat), (∀ n, some n ∈ l → n ≤ 9999) → (preL' l).length ≤ 5 * l.length := fun l hl => by
    induction l with
    | nil => exact Nat.zero_le _
    | cons y l ih =>
      show ((prtL y ++ [59]) ++ preL' l).length ≤ _
      rw [List.length_append, List.length_append]
      have a1 := hx y fun n hn => hl n (by rw [hn]; exact List.mem_cons_self ..)
      have a2 := ih fun n hn => hl n (List.mem_cons_of_mem _ hn)
      show _ + 1 + _ ≤ 5 * (l.length + 1)
      omega
  rw [rend_size]
  have a1 := hx x h3
  have a2 := hp pre h2
  omega
end Go.Proofs.YtpkjaallhhjleaaGreatDoor

/-
  Library contracts at this seat's program: each is one application of the library's own theorem. Made by wip/tools/shelf.py.
-/
namespace Go.Proofs
open Go.Shelf
def Tryz.laysM171_ren : Go.Shelf.Ren := ⟨fun | 171 => 113 | 243 => 124 | 246 => 128 | 283 => 134 | 284 => 135 | 285 => 136 | 286 => 137 | 129 => 142 | 317 => 141 | 318 => 143 | 319 => 144 | 320 => 145 | 337 => 147 | 338 => 148 | n => n, fun | 3 => 3 | 9 => 9 | 2 => 2 | 4 => 4 | 171 => 170 | 0 => 0 | 53 => 151 | 37 => 102 | 5 => 5 | 173 => 173 | 212 => 177 | 51 => 148 | 20 => 20 | 213 => 178 | 46 => 129 | 232 => 182 | 233 => 183 | n => n, fun | 17 => 7 | 18 => 8 | 19 => 9 | n => n⟩
theorem Tryz.laysM171 : Go.Proofs.LaysM.n171 Tryz.prog Tryz.laysM171_ren := {
  mixed := by kernel_rfl
  f129 := Tryz.func142.trans (congrArg some (by kernel_rfl))
  f171 := Tryz.func113.trans (congrArg some (by kernel_rfl))
  f243 := Tryz.func124.trans (congrArg some (by kernel_rfl))
  f246 := Tryz.func128.trans (congrArg some (by kernel_rfl))
  f283 := Tryz.func134.trans (congrArg some (by kernel_rfl))
  f284 := Tryz.func135.trans (congrArg some (by kernel_rfl))
  f285 := Tryz.func136.trans (congrArg some (by kernel_rfl))
  f286 := Tryz.func137.trans (congrArg some (by kernel_rfl))
  f317 := Tryz.func141.trans (congrArg some (by kernel_rfl))
  f318 := Tryz.func143.trans (congrArg some (by kernel_rfl))
  f319 := Tryz.func144.trans (congrArg some (by kernel_rfl))
  f320 := Tryz.func145.trans (congrArg some (by kernel_rfl))
  f337 := Tryz.func147.trans (congrArg some (by kernel_rfl))
  f338 := Tryz.func148.trans (congrArg some (by kernel_rfl))
  t0 := Tryz.underlying0
  a0 := Tryz.isAgg0
  z0 := Tryz.sizeOf0
  v0 := Tryz.zeroValue0
  t2 := Tryz.underlying2
  a2 := Tryz.isAgg2
  z2 := Tryz.sizeOf2
  v2 := Tryz.zeroValue2
  t3 := Tryz.underlying3
  a3 := Tryz.isAgg3
  z3 := Tryz.sizeOf3
  v3 := Tryz.zeroValue3
  t4 := Tryz.underlying4
  a4 := Tryz.isAgg4
  z4 := Tryz.sizeOf4
  v4 := Tryz.zeroValue4
  t5 := Tryz.underlying5
  a5 := Tryz.isAgg5
  z5 := Tryz.sizeOf5
  v5 := Tryz.zeroValue5
  t9 := Tryz.underlying9
  a9 := Tryz.isAgg9
  z9 := Tryz.sizeOf9
  v9 := Tryz.zeroValue9
  t20 := Tryz.underlying20
  a20 := Tryz.isAgg20
  z20 := Tryz.sizeOf20
  v20 := Tryz.zeroValue20
  t37 := Tryz.underlying102
  a37 := Tryz.isAgg102
  z37 := Tryz.sizeOf102
  v37 := Tryz.zeroValue102
  t46 := Tryz.underlying129
  a46 := Tryz.isAgg129
  z46 := Tryz.sizeOf129
  v46 := Tryz.zeroValue129
  t51 := Tryz.underlying148
  a51 := Tryz.isAgg148
  z51 := Tryz.sizeOf148
  v51 := Tryz.zeroValue148
  t53 := Tryz.underlying151
  a53 := Tryz.isAgg151
  z53 := Tryz.sizeOf151
  v53 := Tryz.zeroValue151
  t171 := Tryz.underlying170
  a171 := Tryz.isAgg170
  z171 := Tryz.sizeOf170
  v171 := Tryz.zeroValue170
  t173 := Tryz.underlying173
  a173 := Tryz.isAgg173
  z173 := Tryz.sizeOf173
  v173 := Tryz.zeroValue173
  t212 := Tryz.underlying177
  a212 := Tryz.isAgg177
  z212 := Tryz.sizeOf177
  v212 := Tryz.zeroValue177
  t213 := Tryz.underlying178
  a213 := Tryz.isAgg178
  z213 := Tryz.sizeOf178
  t232 := Tryz.underlying182
  a232 := Tryz.isAgg182
  z232 := Tryz.sizeOf182
  v232 := Tryz.zeroValue182
  t233 := Tryz.underlying183
  a233 := Tryz.isAgg183
  z233 := Tryz.sizeOf183
  v233 := Tryz.zeroValue183
  g17 := by kernel_rfl
  g18 := by kernel_rfl
  g19 := by kernel_rfl
  i0 := by kernel_rfl
  i2 := by kernel_rfl
  i3 := by kernel_rfl
  i4 := by kernel_rfl
  i5 := by kernel_rfl
  i9 := by kernel_rfl
  i20 := by kernel_rfl
  i37 := by kernel_rfl
  i46 := by kernel_rfl
  i51 := by kernel_rfl
  i53 := by kernel_rfl
  i171 := by kernel_rfl
  i173 := by kernel_rfl
  i212 := by kernel_rfl
  i232 := by kernel_rfl
  i233 := by kernel_rfl
  m17 := by kernel_rfl
  m18 := by kernel_rfl
  m19 := by kernel_rfl }
open Go.RowKit Go.Sort Go.Lib in
theorem Tryz.strconv_Itoa (n : Int) (h0 : -9223372036854775808 ≤ n) (h1 : n ≤ 9223372036854775807) (w : World) (htab : Lib.TabIs Tryz.prog w "internal/strconv.uint64pow10" .u64 Lib.pow10Tab) :
    Calls Tryz.prog 113 #[.int .i64 n] w fun e w' => e = .returned (.string ⟨(Lib.itoa n).toArray⟩) ∧ ∃ k os, w' = grow (w.drewN k) os := Any.strconv_Itoa Tryz.laysM171 n h0 h1 w htab
def Tryz.lays138_ren : Go.Shelf.Ren := ⟨fun | 138 => 112 | 195 => 121 | 218 => 122 | 143 => 123 | 219 => 127 | 217 => 130 | 225 => 131 | 224 => 132 | 267 => 133 | 266 => 139 | 314 => 140 | n => n, fun | 9 => 9 | 3 => 3 | 4 => 4 | 5 => 5 | 0 => 0 | 46 => 129 | 146 => 149 | 51 => 148 | n => n, fun | 1 => 6 | n => n⟩
theorem Tryz.lays138 : Go.Proofs.Lays.n138 Tryz.prog Tryz.lays138_ren := {
  mixed := by kernel_rfl
  f138 := Tryz.func112.trans (congrArg some (by kernel_rfl))
  f143 := Tryz.func123.trans (congrArg some (by kernel_rfl))
  f195 := Tryz.func121.trans (congrArg some (by kernel_rfl))
  f217 := Tryz.func130.trans (congrArg some (by kernel_rfl))
  f218 := Tryz.func122.trans (congrArg some (by kernel_rfl))
  f219 := Tryz.func127.trans (congrArg some (by kernel_rfl))
  f224 := Tryz.func132.trans (congrArg some (by kernel_rfl))
  f225 := Tryz.func131.trans (congrArg some (by kernel_rfl))
  f266 := Tryz.func139.trans (congrArg some (by kernel_rfl))
  f267 := Tryz.func133.trans (congrArg some (by kernel_rfl))
  f314 := Tryz.func140.trans (congrArg some (by kernel_rfl))
  t0 := Tryz.underlying0
  a0 := Tryz.isAgg0
  z0 := Tryz.sizeOf0
  v0 := Tryz.zeroValue0
  t3 := Tryz.underlying3
  a3 := Tryz.isAgg3
  z3 := Tryz.sizeOf3
  v3 := Tryz.zeroValue3
  t4 := Tryz.underlying4
  a4 := Tryz.isAgg4
  z4 := Tryz.sizeOf4
  v4 := Tryz.zeroValue4
  t5 := Tryz.underlying5
  a5 := Tryz.isAgg5
  z5 := Tryz.sizeOf5
  v5 := Tryz.zeroValue5
  t9 := Tryz.underlying9
  a9 := Tryz.isAgg9
  z9 := Tryz.sizeOf9
  v9 := Tryz.zeroValue9
  t46 := Tryz.underlying129
  a46 := Tryz.isAgg129
  z46 := Tryz.sizeOf129
  v46 := Tryz.zeroValue129
  t51 := Tryz.underlying148
  a51 := Tryz.isAgg148
  z51 := Tryz.sizeOf148
  v51 := Tryz.zeroValue148
  t146 := Tryz.underlying149
  a146 := Tryz.isAgg149
  z146 := Tryz.sizeOf149
  v146 := Tryz.zeroValue149
  g1 := by kernel_rfl }
open Go.RowKit Go.Lib in
theorem Tryz.strings_Count_one (s : ByteArray) (c : UInt8) (w : World) :
    Calls Tryz.prog 112 #[.string s, .string ⟨#[c]⟩] w fun e w' => e = .returned (.int .i64 (Lib.countByte s.data.toList c)) ∧ w' = w := Any.strings_Count_one Tryz.lays138 s c w
def Tryz.lays149_ren : Go.Shelf.Ren := ⟨fun | 149 => 111 | 222 => 120 | n => n, fun | 9 => 9 | 5 => 5 | 3 => 3 | 4 => 4 | n => n, fun | n => n⟩
theorem Tryz.lays149 : Go.Proofs.Lays.n149 Tryz.prog Tryz.lays149_ren := {
  mixed := by kernel_rfl
  f149 := Tryz.func111.trans (congrArg some (by kernel_rfl))
  f222 := Tryz.func120.trans (congrArg some (by kernel_rfl))
  t3 := Tryz.underlying3
  a3 := Tryz.isAgg3
  z3 := Tryz.sizeOf3
  v3 := Tryz.zeroValue3
  t4 := Tryz.underlying4
  a4 := Tryz.isAgg4
  z4 := Tryz.sizeOf4
  v4 := Tryz.zeroValue4
  t5 := Tryz.underlying5
  a5 := Tryz.isAgg5
  z5 := Tryz.sizeOf5
  v5 := Tryz.zeroValue5
  t9 := Tryz.underlying9
  a9 := Tryz.isAgg9
  z9 := Tryz.sizeOf9
  v9 := Tryz.zeroValue9 }
open Go.RowKit Go.Lib in
theorem Tryz.strings_LastIndexByte (s : ByteArray) (c : Int) (hs : s.size < 4611686018427387904) (w : World) :
    Calls Tryz.prog 111 #[.string s, .int .u8 c] w fun e w' => e = .returned (.int .i64 (Lib.lastIndexByte s c)) ∧ w' = w := Any.strings_LastIndexByte Tryz.lays149 s c hs w
def Tryz.lays146_ren : Go.Shelf.Ren := ⟨fun | 146 => 115 | 221 => 125 | 268 => 129 | 138 => 112 | 143 => 123 | 195 => 121 | 197 => 138 | 218 => 122 | 219 => 127 | 260 => 146 | 217 => 130 | 225 => 131 | 224 => 132 | 267 => 133 | 266 => 139 | 314 => 140 | n => n, fun | 9 => 9 | 31 => 57 | 3 => 3 | 4 => 4 | 0 => 0 | 105 => 92 | 21 => 21 | 5 => 5 | 46 => 129 | 119 => 162 | 139 => 165 | 138 => 164 | 146 => 149 | 51 => 148 | n => n, fun | 1 => 6 | 3 => 3 | 4 => 4 | n => n⟩
theorem Tryz.lays146 : Go.Proofs.Lays.n146 Tryz.prog Tryz.lays146_ren := {
  mixed := by kernel_rfl
  f138 := Tryz.func112.trans (congrArg some (by kernel_rfl))
  f143 := Tryz.func123.trans (congrArg some (by kernel_rfl))
  f146 := Tryz.func115.trans (congrArg some (by kernel_rfl))
  f195 := Tryz.func121.trans (congrArg some (by kernel_rfl))
  f197 := Tryz.func138.trans (congrArg some (by kernel_rfl))
  f217 := Tryz.func130.trans (congrArg some (by kernel_rfl))
  f218 := Tryz.func122.trans (congrArg some (by kernel_rfl))
  f219 := Tryz.func127.trans (congrArg some (by kernel_rfl))
  f221 := Tryz.func125.trans (congrArg some (by kernel_rfl))
  f224 := Tryz.func132.trans (congrArg some (by kernel_rfl))
  f225 := Tryz.func131.trans (congrArg some (by kernel_rfl))
  f260 := Tryz.func146.trans (congrArg some (by kernel_rfl))
  f266 := Tryz.func139.trans (congrArg some (by kernel_rfl))
  f267 := Tryz.func133.trans (congrArg some (by kernel_rfl))
  f268 := Tryz.func129.trans (congrArg some (by kernel_rfl))
  f314 := Tryz.func140.trans (congrArg some (by kernel_rfl))
  t0 := Tryz.underlying0
  a0 := Tryz.isAgg0
  z0 := Tryz.sizeOf0
  v0 := Tryz.zeroValue0
  t3 := Tryz.underlying3
  a3 := Tryz.isAgg3
  z3 := Tryz.sizeOf3
  v3 := Tryz.zeroValue3
  t4 := Tryz.underlying4
  a4 := Tryz.isAgg4
  z4 := Tryz.sizeOf4
  v4 := Tryz.zeroValue4
  t5 := Tryz.underlying5
  a5 := Tryz.isAgg5
  z5 := Tryz.sizeOf5
  v5 := Tryz.zeroValue5
  t9 := Tryz.underlying9
  a9 := Tryz.isAgg9
  z9 := Tryz.sizeOf9
  v9 := Tryz.zeroValue9
  t21 := Tryz.underlying21
  a21 := Tryz.isAgg21
  z21 := Tryz.sizeOf21
  v21 := Tryz.zeroValue21
  t31 := Tryz.underlying57
  a31 := Tryz.isAgg57
  z31 := Tryz.sizeOf57
  v31 := Tryz.zeroValue57
  t46 := Tryz.underlying129
  a46 := Tryz.isAgg129
  z46 := Tryz.sizeOf129
  v46 := Tryz.zeroValue129
  t51 := Tryz.underlying148
  a51 := Tryz.isAgg148
  z51 := Tryz.sizeOf148
  v51 := Tryz.zeroValue148
  t105 := Tryz.underlying92
  a105 := Tryz.isAgg92
  z105 := Tryz.sizeOf92
  v105 := Tryz.zeroValue92
  t119 := Tryz.underlying162
  a119 := Tryz.isAgg162
  z119 := Tryz.sizeOf162
  t138 := Tryz.underlying164
  a138 := Tryz.isAgg164
  z138 := Tryz.sizeOf164
  v138 := Tryz.zeroValue164
  t139 := Tryz.underlying165
  a139 := Tryz.isAgg165
  z139 := Tryz.sizeOf165
  v139 := Tryz.zeroValue165
  t146 := Tryz.underlying149
  a146 := Tryz.isAgg149
  z146 := Tryz.sizeOf149
  v146 := Tryz.zeroValue149
  g1 := by kernel_rfl
  g3 := by kernel_rfl
  g4 := by kernel_rfl }
open Go.RowKit Go.Lib in
theorem Tryz.genSplit_one (s : ByteArray) (c : UInt8) (w : World) (hs : s.size < 4294967281) :
    Calls Tryz.prog 125 #[.string s, .string ⟨#[c]⟩, .int .i64 0, .int .i64 (-1)] w fun e w' =>
      e = .returned (.slice (some ⟨w.heap.size, 0, none⟩) (Lib.splitB ⟨#[c]⟩ 0 (Lib.countB s ⟨#[c]⟩) s).length (Lib.countB s ⟨#[c]⟩ + 1)) ∧ w' = w.alloc (.cells (Lib.cellsOf (Lib.splitB ⟨#[c]⟩ 0 (Lib.countB s ⟨#[c]⟩) s) (Lib.countB s ⟨#[c]⟩ + 1)) 9) := by
  have hle := Lib.countB_le ⟨#[c]⟩ (Nat.le_refl 1) s.size s (Nat.le_refl _)
  have h := Any.strings_genSplit_core { Tryz.lays146 with } (by kernel_rfl) s ⟨#[c]⟩ 0 (-1) (Lib.countB s ⟨#[c]⟩ + 1) w hs (Nat.le_refl 1) (Nat.zero_le _)
    (fun x cc _ => (Any.strings_Index_one { Tryz.lays146 with } x c _).mono fun e w' ⟨he, hw⟩ => ⟨by rw [he, ← Lib.index_one], hw⟩)
    ((Any.strings_Count_one { Tryz.lays146 with } s c w).mono fun e w' ⟨he, hw⟩ => ⟨by
      rw [he]
      show _ = Ending.returned (Value.int .i64 ((Lib.count s.data.toList [c] : Nat) : Int))
      rw [Lib.count_one]
      rfl, hw⟩) (by decide) (by decide) (by rw [if_pos (by decide)]; omega)
  rw [Nat.add_sub_cancel] at h
  exact h
end Go.Proofs

/-
  parser.number: what it returns: for every text of digits. strings.Split at one byte: the parts between.
-/
namespace Go.Proofs.YtpkjaallhhjleaaGreatDoor
open Go.RowKit

theorem dec_ascii (s : ByteArray) (k : Nat) (_ : k < s.size) (h : bt s k < 128) : Utf8.decode s k = (bt s k, 1) := by
  rw [dec_bt]
  unfold Lib.decodeN
  rw [if_pos h]

set_option maxHeartbeats 2000000 in
theorem number_any (s : ByteArray) (w : World) (hd : ∀ u ∈ s.data.toList, digitU u) :
    Calls Tryz.prog 114 #[.string s] w fun e w' => e = .returned (.int .i64 (numL s.data.toList : Int)) ∧ Below w.heap.size w w' := by
  have hbt : ∀ k, k < s.size → 48 ≤ bt s k ∧ bt s k ≤ 57 := fun k hk => by
    have h1 : k < s.data.toList.length := by rw [← Lib.size_eq]; exact hk
    have h2 := hd (s.data.toList[k]) (List.getElem_mem h1)
    rw [bt_data, List.getD_eq_getElem?_getD, List.getElem?_eq_getElem h1]
    exact h2
  have hst : ∀ k, k < s.size → numL (s.data.toList.take (k + 1)) = capN (numL (s.data.toList.take k)) (bt s k - 48) := fun k hk => by
    have h1 : k < s.data.toList.length := by rw [← Lib.size_eq]; exact hk
    rw [List.take_succ_eq_append_getElem h1, numL_snoc, bt_data, List.getD_eq_getElem?_getD, List.getElem?_eq_getElem h1]
    rfl
  have HBT := Lib.hid hbt
  have HST := Lib.hid hst
  have HLE := Lib.hid (fun k => numL_le (s.data.toList.take k))
  obtain ⟨R, hR⟩ : ∃ R, numL s.data.toList = R := ⟨_, rfl⟩
  have HR : Hid (numL (s.data.toList.take s.size) = R) := by
    rw [← hR, List.take_of_length_le (by rw [← Lib.size_eq]; exact Nat.le_refl _)]
    exact rfl
  rw [hR]
  clear hbt hst hR hd
  go_enter Tryz.func114, Tryz.ntmps114
  go_wp2_with fail
  go_loopw [3] (fun v wr => ∃ (k n : Nat), k ≤ s.size ∧ Below w.heap.size w wr ∧ wr.heap[w.heap.size]? = some (.stringIter s k) ∧ v = .int .i64 (n : Int) ∧ Hid (numL (s.data.toList.take k) = n)) (fun _ wr => s.size - wr.iterPos w.heap.size)
  case atStart => exact ⟨0, 0, Nat.zero_le _, (Below.refl _ _).alloc (Nat.le_refl _) _, World.iter_heap w s 0, rfl, rfl⟩
  case round =>
    obtain ⟨k, n, hk, hbw, hit, rfl, HN⟩ := hrel
    have hpos := iterPos_of hit
    by_cases hp : k < s.size
    · obtain ⟨d0, d1⟩ := HBT.out k hp
      have hst := HST.out k hp
      have hle := HLE.out k
      rw [HN.out] at hst hle
      have hdec := dec_ascii s k hp (by omega)
      obtain ⟨c, hc⟩ : ∃ c, bt s k = c := ⟨_, rfl⟩
      rw [hc] at d0 d1 hst hdec
      have hnx : ∀ ty, (Instr.next (.pointer (some ⟨w.heap.size, 0, none⟩)) true ty).run Tryz.prog wr = _ := fun ty => Lib.run_next_any_at wr w.heap.size s k ty hit hp
      have hit2 := Lib.iterAt_heap wr w.heap.size s k (k + (Utf8.decode s k).2) hit
      have hbw2 := Lib.below_iterAt hbw (k := w.heap.size) (Nat.le_refl _) s (k + (Utf8.decode s k).2)
      rw [hdec] at hit2 hbw2
      simp only [hdec] at hnx
      obtain ⟨W1, hW1⟩ : ∃ W1, W1 = wr.iterAt w.heap.size s (k + 1) := ⟨_, rfl⟩
      rw [← hW1] at hnx hit2 hbw2
      have HN2 : Hid (numL (s.data.toList.take (k + 1)) = capN n (c - 48)) := hst
      have HV : Hid (((capN n (c - 48) : Nat) : Int) = min (10 * (n : Int) + ((c : Int) - 48)) 9999) := by
        show _ = _
        unfold capN
        omega
      have d2 : (48 : Int) ≤ (c : Int) := by omega
      have d3 : (c : Int) ≤ 57 := by omega
      have n3 : (n : Int) ≤ 9999 := by omega
      have n4 : (0 : Int) ≤ (n : Int) := by omega
      clear hW1 hit hbw hst hdec hc HN
      go_wp2_with fail
      exact ⟨⟨k + 1, capN n (c - 48), by omega, hbw2, hit2, by rw [HV.out], HN2⟩, by rw [iterPos_of hit2, hpos]; show s.size - (k + 1) < _; omega⟩
    · obtain rfl : k = s.size := by omega
      have hnx : ∀ ty, (Instr.next (.pointer (some ⟨w.heap.size, 0, none⟩)) true ty).run Tryz.prog wr = _ := fun ty => Lib.run_next_end_at wr w.heap.size s s.size ty hit hp
      have HE : Hid (n = R) := HN.out.symm.trans HR.out
      clear HN HR hit
      go_wp2_with fail
      go_ret
      exact ⟨by rw [HE.out]; rfl, hbw⟩
end Go.Proofs.YtpkjaallhhjleaaGreatDoor
