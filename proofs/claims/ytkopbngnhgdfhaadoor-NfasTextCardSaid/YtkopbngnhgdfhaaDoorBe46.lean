/-
  A rule of letters, as the law builds it: what is made of it, and what Match tells of it. No call is walked here.
-/
import Derived.Test.YtkopbngnhgdfhaaDoorBe44
import Derived.Test.YtkopbngnhgdfhaaDoorBe26
namespace Go.Proofs.YtkopbngnhgdfhaaDoor
open Go.RowKit

/-- One of the small letters; a text of them. -/
def letB (n : Int) : ByteArray := ⟨#[UInt8.ofNat (97 + n % 26).toNat]⟩
def textB (l : List Int) : ByteArray := ⟨(l.map fun n => UInt8.ofNat (97 + n % 26).toNat).toArray⟩
theorem text_nil : textB [] = ⟨#[]⟩ := rfl
theorem text_snoc (l : List Int) (x : Int) : textB l ++ letB x = textB (l ++ [x]) := by
  have h : (textB l ++ letB x).data = (textB l).data ++ (letB x).data := ByteArray.data_append
  refine ByteArray.ext (h.trans ?_)
  unfold textB letB
  simp
theorem text_size (l : List Int) : (textB l).size = l.length := by
  show ((l.map fun n => UInt8.ofNat (97 + n % 26).toNat).toArray).size = _
  simp
theorem text_bytes (l : List Int) : bytesR (textB l) = l.map fun n => (97 + n % 26).toNat := by
  unfold bytesR textB
  rw [List.map_map]
  refine List.map_congr_left fun n _ => ?_
  show (UInt8.ofNat (97 + n % 26).toNat).toNat = _
  rw [UInt8.toNat_ofNat']
  omega
theorem text_small (l : List Int) : ∀ c, c ∈ bytesR (textB l) → smallR c := fun c hc => by
  rw [text_bytes] at hc
  obtain ⟨n, _, rfl⟩ := List.mem_map.1 hc
  unfold smallR
  omega
theorem bytesR_inj {s t : ByteArray} (h : bytesR s = bytesR t) : s = t := by
  unfold bytesR at h
  refine ByteArray.ext (Array.toList_inj.1 ?_)
  exact List.map_inj_right (fun _ _ h => UInt8.toNat_inj.1 h) |>.1 h
theorem text_parse (l : List Int) (hl : l.length ≤ 60) : parseP (textB l) = (joinR 2 ((bytesR (textB l)).map byteN), 0) := by
  unfold parseP
  rw [text_size, if_neg (by omega), small_parse _ (text_small l)]
theorem text_make (l : List Int) (hl : l.length ≤ 60) : makeE [textB l] = 0 ∧ nodesP [textB l] = [joinR 2 ((bytesR (textB l)).map byteN)] := by
  have hp := text_parse l hl
  constructor
  · unfold makeE
    rw [if_neg (by show ¬ (1 = 0 ∨ 64 < 1); omega)]
    have h1 : errsP [textB l] = 0 := by rw [errsP, hp, if_pos rfl, errsP]
    rw [h1, if_neg (fun h => h rfl), sizeP, sizeP, text_size, if_neg (by omega)]
  · unfold nodesP
    rw [List.map_cons, hp]
    rfl
theorem text_take (l : List Int) (hl : l.length ≤ 60) (s : ByteArray) :
    ((bytesR s).take l.length = bytesR (textB l) → matchA (quE [textB l]) (fiE [textB l]) s 0 = ((l.length : Int), 0)) ∧ ((bytesR s).take l.length ≠ bytesR (textB l) → matchA (quE [textB l]) (fiE [textB l]) s 0 = (0, -1)) := by
  have hm := (make_good (text_make l hl).1).1
  rw [(text_make l hl).2] at hm
  have h1 := match_ok hm (bytesR s)
  have h2 := text_match (A := LangR [joinR 2 ((bytesR (textB l)).map byteN)]) (t := bytesR (textB l)) (fun u j hu => one_lang _ (text_small l) u j hu) (fun x hx => by
    unfold bytesR at hx
    obtain ⟨b, _, rfl⟩ := List.mem_map.1 hx
    exact UInt8.toNat_lt _) h1
  rw [bytesR_len, text_size] at h2
  have h3 : matchA (quE [textB l]) (fiE [textB l]) s 0 = matchP (quE [textB l]) (fiE [textB l]) (bytesR s) := by
    unfold matchA
    rw [if_neg (by omega)]
    rfl
  rw [h3]
  exact ⟨fun e => Prod.ext (h2.1 e).1 (h2.1 e).2, fun e => Prod.ext (h2.2 e).1 (h2.2 e).2⟩
theorem text_both (l : List Int) (hl : l.length ≤ 60) (s : ByteArray) : matchA (quE [textB l]) (fiE [textB l]) (textB l ++ s) 0 = ((l.length : Int), 0) := by
  refine (text_take l hl _).1 ?_
  have h : bytesR (textB l ++ s) = bytesR (textB l) ++ bytesR s := by
    unfold bytesR
    rw [ByteArray.data_append, Array.toList_append, List.map_append]
  rw [h, List.take_append_of_le_length (by rw [bytesR_len, text_size]; exact Nat.le_refl _), List.take_of_length_le (by rw [bytesR_len, text_size]; exact Nat.le_refl _)]
theorem text_begins (l : List Int) (s : ByteArray) : (bytesR s).take l.length = bytesR (textB l) ↔ l.length ≤ s.size ∧ s.extract 0 l.length = textB l := by
  constructor
  · intro h
    have := congrArg List.length h
    rw [List.length_take, bytesR_len, bytesR_len, text_size] at this
    exact ⟨by omega, bytesR_inj (by rw [bytes_take, h])⟩
  · rintro ⟨_, h⟩
    rw [← h, bytes_take]
end Go.Proofs.YtkopbngnhgdfhaaDoor
