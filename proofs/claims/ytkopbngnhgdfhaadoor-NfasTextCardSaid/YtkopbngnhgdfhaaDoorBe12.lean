/-
  nfas, plain, the document's side: which of a node's sets a text's bytes may stand for; that this takes its language. No call is walked here.
-/
import Derived.Test.YtkopbngnhgdfhaaDoorBe5
namespace Go.Proofs.YtkopbngnhgdfhaaDoor

/-- A part: may it be nothing; its first sets, its last ones; which one behind which. -/
structure Gl where
  null : Bool
  first : Nat → Bool
  last : Nat → Bool
  fol : Nat → Nat → Bool
def noF : Nat → Bool := fun _ => false
def noF2 : Nat → Nat → Bool := fun _ _ => false
def oneF (a : Nat) : Nat → Bool := fun i => i == a
def orF (f g : Nat → Bool) : Nat → Bool := fun i => f i || g i
def crossF (F : Nat → Nat → Bool) (l f : Nat → Bool) : Nat → Nat → Bool := fun i j => F i j || (l i && f j)
def orF2 (F G : Nat → Nat → Bool) : Nat → Nat → Bool := fun i j => F i j || G i j
def seqG (p k : Gl) : Gl := ⟨p.null && k.null, if p.null = true then orF p.first k.first else p.first, if k.null = true then orF p.last k.last else k.last, crossF (orF2 p.fol k.fol) p.last k.first⟩
def eitherG (p k : Gl) : Gl := ⟨p.null || k.null, orF p.first k.first, orF p.last k.last, orF2 p.fol k.fol⟩
def loopG (star : Bool) (k : Gl) : Gl := ⟨k.null || star, k.first, k.last, crossF k.fol k.last k.first⟩
def maybeG (k : Gl) : Gl := ⟨true, k.first, k.last, k.fol⟩
def emptyG : Gl := ⟨true, noF, noF, noF2⟩
def failG : Gl := ⟨false, noF, noF, noF2⟩
mutual
def setsN : Nd → List St4
  | .mk k s l => if k = 1 then s :: setsL l else setsL l
def setsL : List Nd → List St4
  | [] => []
  | n :: l => setsN n ++ setsL l
end
mutual
def glN : Nd → Nat → Gl
  | .mk k _ l, a => if k = 1 then ⟨false, oneF a, oneF a, noF2⟩ else if k = 2 then catG l a emptyG else if k = 3 then altG l a failG else if k = 4 then loopG true (oneG l a) else if k = 5 then loopG false (oneG l a) else if k = 6 then maybeG (oneG l a) else emptyG
def catG : List Nd → Nat → Gl → Gl
  | [], _, p => p
  | n :: l, a, p => catG l (a + (setsN n).length) (seqG p (glN n a))
def altG : List Nd → Nat → Gl → Gl
  | [], _, p => p
  | n :: l, a, p => altG l (a + (setsN n).length) (eitherG p (glN n a))
def oneG : List Nd → Nat → Gl
  | [], _ => emptyG
  | n :: _, a => glN n a
end
def PathG (F : Nat → Nat → Bool) (S : Nat → St4) (L : Nat → Bool) : List Nat → Nat → Prop
  | [], p => L p = true
  | b :: w, p => ∃ q, F p q = true ∧ hasR (S q) b = true ∧ PathG F S L w q
def WordG (g : Gl) (S : Nat → St4) : List Nat → Prop
  | [] => g.null = true
  | b :: w => ∃ q, g.first q = true ∧ hasR (S q) b = true ∧ PathG g.fol S g.last w q
/-- All of a part's sets are there. -/
structure InG (g : Gl) (a b : Nat) : Prop where
  first : ∀ q, g.first q = true → a ≤ q ∧ q < b
  last : ∀ q, g.last q = true → a ≤ q ∧ q < b
  fol : ∀ p q, g.fol p q = true → (a ≤ p ∧ p < b) ∧ a ≤ q ∧ q < b
theorem InG.mono {g : Gl} {a b c d : Nat} (h : InG g a b) (h1 : c ≤ a) (h2 : b ≤ d) : InG g c d :=
  ⟨fun q e => by have := h.first q e; omega, fun q e => by have := h.last q e; omega, fun p q e => by have := h.fol p q e; omega⟩
theorem InG.firstNo {g : Gl} {a b : Nat} (h : InG g a b) {q : Nat} (hq : q < a ∨ b ≤ q) : g.first q = false := by
  rcases e : g.first q with _ | _
  · rfl
  · have := h.first q e; omega
theorem InG.lastNo {g : Gl} {a b : Nat} (h : InG g a b) {q : Nat} (hq : q < a ∨ b ≤ q) : g.last q = false := by
  rcases e : g.last q with _ | _
  · rfl
  · have := h.last q e; omega
theorem InG.folNo {g : Gl} {a b : Nat} (h : InG g a b) {p q : Nat} (hq : p < a ∨ b ≤ p) : g.fol p q = false := by
  rcases e : g.fol p q with _ | _
  · rfl
  · have := h.fol p q e; omega
theorem in_empty (a b : Nat) : InG emptyG a b := ⟨(fun q h => by cases h), (fun q h => by cases h), (fun p q h => by cases h)⟩
theorem in_fail (a b : Nat) : InG failG a b := ⟨(fun q h => by cases h), (fun q h => by cases h), (fun p q h => by cases h)⟩
section
variable {p k : Gl} {a m c : Nat} {S : Nat → St4}
theorem in_seq (hp : InG p a m) (hk : InG k m c) (h1 : a ≤ m) (h2 : m ≤ c) : InG (seqG p k) a c := by
  refine ⟨fun q e => ?_, fun q e => ?_, fun x y e => ?_⟩
  · simp only [seqG] at e
    split at e
    · simp only [orF, Bool.or_eq_true] at e
      rcases e with e | e
      · have := hp.first q e; omega
      · have := hk.first q e; omega
    · have := hp.first q e; omega
  · simp only [seqG] at e
    split at e
    · simp only [orF, Bool.or_eq_true] at e
      rcases e with e | e
      · have := hp.last q e; omega
      · have := hk.last q e; omega
    · have := hk.last q e; omega
  · simp only [seqG, crossF, orF2, Bool.or_eq_true, Bool.and_eq_true] at e
    rcases e with (e | e) | ⟨e, f⟩
    · have := hp.fol x y e; omega
    · have := hk.fol x y e; omega
    · have := hp.last x e; have := hk.first y f; omega
theorem path_seq_k (hp : InG p a m) : ∀ (w : List Nat) (q : Nat), InG k m c → m ≤ q → (PathG (seqG p k).fol S (seqG p k).last w q ↔ PathG k.fol S k.last w q)
  | [], q, hk, hq => by
    have h1 := hp.lastNo (q := q) (.inr hq)
    simp only [PathG, seqG]
    split
    · simp [orF, h1]
    · exact Iff.rfl
  | b :: w, q, hk, hq => by
    simp only [PathG]
    refine exists_congr fun x => ?_
    have h1 := hp.lastNo (q := q) (.inr hq)
    have h2 := hp.folNo (p := q) (q := x) (.inr hq)
    rw [show (seqG p k).fol q x = k.fol q x by simp [seqG, crossF, orF2, h1, h2]]
    constructor
    · rintro ⟨e, f, g⟩; exact ⟨e, f, (path_seq_k hp w x hk (hk.fol _ _ e).2.1).1 g⟩
    · rintro ⟨e, f, g⟩; exact ⟨e, f, (path_seq_k hp w x hk (hk.fol _ _ e).2.1).2 g⟩
theorem path_seq_p (hp : InG p a m) (hk : InG k m c) : ∀ (w : List Nat) (q : Nat), q < m → (PathG (seqG p k).fol S (seqG p k).last w q ↔ ∃ u v, w = u ++ v ∧ PathG p.fol S p.last u q ∧ WordG k S v)
  | [], q, hq => by
    have h1 := hk.lastNo (q := q) (.inl hq)
    simp only [PathG, seqG]
    constructor
    · intro h
      split at h
      · rename_i hn
        simp only [orF, h1, Bool.or_false] at h
        exact ⟨[], [], rfl, h, hn⟩
      · rw [h1] at h; cases h
    · rintro ⟨u, v, e, hu, hv⟩
      obtain ⟨rfl, rfl⟩ := List.append_eq_nil_iff.1 e.symm
      have hn : k.null = true := hv
      rw [if_pos hn]
      simp only [orF, h1, Bool.or_false]
      exact hu
  | b :: w, q, hq => by
    simp only [PathG]
    constructor
    · rintro ⟨x, e, f, g⟩
      simp only [seqG, crossF, orF2, Bool.or_eq_true, Bool.and_eq_true] at e
      rcases e with (e | e) | ⟨e, e2⟩
      · obtain ⟨u, v, rfl, hu, hv⟩ := (path_seq_p hp hk w x (hp.fol _ _ e).2.2).1 g
        exact ⟨b :: u, v, rfl, ⟨x, e, f, hu⟩, hv⟩
      · rw [hk.folNo (.inl hq)] at e; cases e
      · exact ⟨[], b :: w, rfl, e, x, e2, f, (path_seq_k hp w x hk (hk.first _ e2).1).1 g⟩
    · rintro ⟨u, v, e, hu, hv⟩
      match u, e, hu with
      | [], e, hu =>
        rw [List.nil_append] at e
        subst e
        obtain ⟨x, e2, f, g⟩ := hv
        have hl : p.last q = true := hu
        exact ⟨x, by simp [seqG, crossF, hl, e2], f, (path_seq_k hp w x hk (hk.first _ e2).1).2 g⟩
      | d :: u, e, hu =>
        rw [List.cons_append] at e
        injection e with e1 e2
        subst e1 e2
        obtain ⟨x, e2, f, g⟩ := hu
        exact ⟨x, by simp [seqG, crossF, orF2, e2], f, (path_seq_p hp hk _ x (hp.fol _ _ e2).2.2).2 ⟨u, v, rfl, g, hv⟩⟩
theorem word_seq (hp : InG p a m) (hk : InG k m c) (w : List Nat) : WordG (seqG p k) S w ↔ ∃ u v, w = u ++ v ∧ WordG p S u ∧ WordG k S v := by
  match w with
  | [] =>
    simp only [WordG, seqG, Bool.and_eq_true]
    constructor
    · rintro ⟨h1, h2⟩; exact ⟨[], [], rfl, h1, h2⟩
    · rintro ⟨u, v, e, hu, hv⟩
      obtain ⟨rfl, rfl⟩ := List.append_eq_nil_iff.1 e.symm
      exact ⟨hu, hv⟩
  | b :: w =>
    simp only [WordG]
    constructor
    · rintro ⟨q, e, f, g⟩
      have hcase : p.first q = true ∨ p.null = true ∧ k.first q = true := by
        simp only [seqG] at e
        split at e
        · rename_i hn
          simp only [orF, Bool.or_eq_true] at e
          exact e.elim .inl fun e => .inr ⟨hn, e⟩
        · exact .inl e
      rcases hcase with e | ⟨hn, e⟩
      · obtain ⟨u, v, rfl, hu, hv⟩ := (path_seq_p hp hk w q (hp.first _ e).2).1 g
        exact ⟨b :: u, v, rfl, ⟨q, e, f, hu⟩, hv⟩
      · exact ⟨[], b :: w, rfl, hn, q, e, f, (path_seq_k hp w q hk (hk.first _ e).1).1 g⟩
    · rintro ⟨u, v, e, hu, hv⟩
      match u, e, hu with
      | [], e, hu =>
        rw [List.nil_append] at e
        subst e
        obtain ⟨q, e2, f, g⟩ := hv
        have hn : p.null = true := hu
        exact ⟨q, by simp [seqG, hn, orF, e2], f, (path_seq_k hp w q hk (hk.first _ e2).1).2 g⟩
      | d :: u, e, hu =>
        rw [List.cons_append] at e
        injection e with e1 e2
        subst e1 e2
        obtain ⟨q, e2, f, g⟩ := hu
        exact ⟨q, by simp only [seqG]; split <;> simp [orF, e2], f, (path_seq_p hp hk _ q (hp.first _ e2).2).2 ⟨u, v, rfl, g, hv⟩⟩
theorem in_either (hp : InG p a m) (hk : InG k m c) (h1 : a ≤ m) (h2 : m ≤ c) : InG (eitherG p k) a c := by
  refine ⟨fun q e => ?_, fun q e => ?_, fun x y e => ?_⟩
  · simp only [eitherG, orF, Bool.or_eq_true] at e
    rcases e with e | e
    · have := hp.first q e; omega
    · have := hk.first q e; omega
  · simp only [eitherG, orF, Bool.or_eq_true] at e
    rcases e with e | e
    · have := hp.last q e; omega
    · have := hk.last q e; omega
  · simp only [eitherG, orF2, Bool.or_eq_true] at e
    rcases e with e | e
    · have := hp.fol x y e; omega
    · have := hk.fol x y e; omega
theorem path_either_p (hp : InG p a m) (hk : InG k m c) : ∀ (w : List Nat) (q : Nat), q < m → (PathG (eitherG p k).fol S (eitherG p k).last w q ↔ PathG p.fol S p.last w q)
  | [], q, hq => by simp [PathG, eitherG, orF, hk.lastNo (q := q) (.inl hq)]
  | b :: w, q, hq => by
    simp only [PathG]
    refine exists_congr fun x => ?_
    rw [show (eitherG p k).fol q x = p.fol q x by simp [eitherG, orF2, hk.folNo (p := q) (q := x) (.inl hq)]]
    constructor
    · rintro ⟨e, f, g⟩; exact ⟨e, f, (path_either_p hp hk w x (hp.fol _ _ e).2.2).1 g⟩
    · rintro ⟨e, f, g⟩; exact ⟨e, f, (path_either_p hp hk w x (hp.fol _ _ e).2.2).2 g⟩
theorem path_either_k (hp : InG p a m) (hk : InG k m c) : ∀ (w : List Nat) (q : Nat), m ≤ q → (PathG (eitherG p k).fol S (eitherG p k).last w q ↔ PathG k.fol S k.last w q)
  | [], q, hq => by simp [PathG, eitherG, orF, hp.lastNo (q := q) (.inr hq)]
  | b :: w, q, hq => by
    simp only [PathG]
    refine exists_congr fun x => ?_
    rw [show (eitherG p k).fol q x = k.fol q x by simp [eitherG, orF2, hp.folNo (p := q) (q := x) (.inr hq)]]
    constructor
    · rintro ⟨e, f, g⟩; exact ⟨e, f, (path_either_k hp hk w x (hk.fol _ _ e).2.1).1 g⟩
    · rintro ⟨e, f, g⟩; exact ⟨e, f, (path_either_k hp hk w x (hk.fol _ _ e).2.1).2 g⟩
theorem word_either (hp : InG p a m) (hk : InG k m c) (w : List Nat) : WordG (eitherG p k) S w ↔ WordG p S w ∨ WordG k S w := by
  match w with
  | [] => simp [WordG, eitherG]
  | b :: w =>
    simp only [WordG]
    constructor
    · rintro ⟨q, e, f, g⟩
      simp only [eitherG, orF, Bool.or_eq_true] at e
      rcases e with e | e
      · exact .inl ⟨q, e, f, (path_either_p hp hk w q (hp.first _ e).2).1 g⟩
      · exact .inr ⟨q, e, f, (path_either_k hp hk w q (hk.first _ e).1).1 g⟩
    · rintro (⟨q, e, f, g⟩ | ⟨q, e, f, g⟩)
      · exact ⟨q, by simp [eitherG, orF, e], f, (path_either_p hp hk w q (hp.first _ e).2).2 g⟩
      · exact ⟨q, by simp [eitherG, orF, e], f, (path_either_k hp hk w q (hk.first _ e).1).2 g⟩
theorem star_cons {L : List Nat → Prop} {x : List Nat} (h : StarP L x) : ∀ b w, x = b :: w → ∃ u v, w = u ++ v ∧ L (b :: u) ∧ StarP L v := by
  induction h with
  | nil => intro b w e; cases e
  | @cons u v hu hv ih =>
    intro b w e
    match u, hu, e with
    | [], _, e => exact ih b w e
    | d :: u, hu, e =>
      rw [List.cons_append] at e
      injection e with e1 e2
      subst e1 e2
      exact ⟨u, v, rfl, hu, hv⟩
theorem in_loop (star : Bool) (hk : InG k m c) : InG (loopG star k) m c :=
  ⟨hk.first, hk.last, fun x y e => by
    simp only [loopG, crossF, Bool.or_eq_true, Bool.and_eq_true] at e
    rcases e with e | ⟨e, f⟩
    · exact hk.fol x y e
    · exact ⟨hk.last x e, hk.first y f⟩⟩
theorem path_loop (star : Bool) : ∀ (w : List Nat) (q : Nat), PathG (loopG star k).fol S k.last w q → ∃ u v, w = u ++ v ∧ PathG k.fol S k.last u q ∧ StarP (WordG k S) v
  | [], q, h => ⟨[], [], rfl, h, .nil⟩
  | b :: w, q, ⟨x, e, f, g⟩ => by
    obtain ⟨u, v, rfl, hu, hv⟩ := path_loop star w x g
    simp only [loopG, crossF, Bool.or_eq_true, Bool.and_eq_true] at e
    rcases e with e | ⟨e, e2⟩
    · exact ⟨b :: u, v, rfl, ⟨x, e, f, hu⟩, hv⟩
    · exact ⟨[], b :: (u ++ v), rfl, e, .cons (u := b :: u) ⟨x, e2, f, hu⟩ hv⟩
theorem path_on (star : Bool) {v : List Nat} (hv : ∀ q, k.last q = true → PathG (loopG star k).fol S k.last v q) : ∀ (u : List Nat) (q : Nat), PathG k.fol S k.last u q → PathG (loopG star k).fol S k.last (u ++ v) q
  | [], q, h => hv q h
  | b :: u, q, ⟨x, e, f, g⟩ => ⟨x, by simp [loopG, crossF, e], f, path_on star hv u x g⟩
theorem path_round (star : Bool) {v : List Nat} (h : StarP (WordG k S) v) : ∀ q, k.last q = true → PathG (loopG star k).fol S k.last v q := by
  induction h with
  | nil => intro q h; exact h
  | @cons u v hu hv ih =>
    intro q h
    match u, hu with
    | [], _ => exact ih q h
    | b :: u, ⟨x, e, f, g⟩ => exact ⟨x, by simp [loopG, crossF, h, e], f, path_on star ih u x g⟩
theorem word_loop_cons (star : Bool) (b : Nat) (w : List Nat) : WordG (loopG star k) S (b :: w) ↔ ∃ u v, w = u ++ v ∧ WordG k S (b :: u) ∧ StarP (WordG k S) v := by
  constructor
  · rintro ⟨q, e, f, g⟩
    obtain ⟨u, v, rfl, hu, hv⟩ := path_loop star w q g
    exact ⟨u, v, rfl, ⟨q, e, f, hu⟩, hv⟩
  · rintro ⟨u, v, rfl, ⟨q, e, f, g⟩, hv⟩
    exact ⟨q, e, f, path_on star (path_round star hv) u q g⟩
theorem word_star (w : List Nat) : WordG (loopG true k) S w ↔ StarP (WordG k S) w := by
  match w with
  | [] => exact ⟨fun _ => .nil, fun _ => by simp [WordG, loopG]⟩
  | b :: w =>
    rw [word_loop_cons]
    constructor
    · rintro ⟨u, v, rfl, hu, hv⟩; exact .cons (u := b :: u) hu hv
    · intro h; exact star_cons h b w rfl
theorem word_plus (w : List Nat) : WordG (loopG false k) S w ↔ PlusP (WordG k S) w := by
  match w with
  | [] =>
    constructor
    · intro h
      exact ⟨[], [], rfl, by simpa [WordG, loopG] using h, .nil⟩
    · rintro ⟨u, v, e, hu, hv⟩
      obtain ⟨rfl, rfl⟩ := List.append_eq_nil_iff.1 e.symm
      have hn : k.null = true := hu
      simp [WordG, loopG, hn]
  | b :: w =>
    rw [word_loop_cons]
    constructor
    · rintro ⟨u, v, rfl, hu, hv⟩; exact ⟨b :: u, v, rfl, hu, hv⟩
    · rintro ⟨u, v, e, hu, hv⟩
      match u, e, hu with
      | [], e, _ => exact star_cons hv b w e.symm
      | d :: u, e, hu =>
        rw [List.cons_append] at e
        injection e with e1 e2
        subst e1 e2
        exact ⟨u, v, rfl, hu, hv⟩
end
/-- The sets stand there. -/
def SetsAt (S : Nat → St4) (a : Nat) (l : List St4) : Prop := ∀ i s, l[i]? = some s → S (a + i) = s
theorem SetsAt.left {S : Nat → St4} {a : Nat} {l m : List St4} (h : SetsAt S a (l ++ m)) : SetsAt S a l := fun i s e => h i s (by rw [List.getElem?_append_left (List.getElem?_eq_some_iff.1 e).1]; exact e)
theorem SetsAt.right {S : Nat → St4} {a : Nat} {l m : List St4} (h : SetsAt S a (l ++ m)) : SetsAt S (a + l.length) m := fun i s e => by
  have := h (l.length + i) s (by rw [List.getElem?_append_right (by omega), Nat.add_sub_cancel_left]; exact e)
  rw [← this]; congr 1; omega
structure GoodG (g : Gl) (a b : Nat) (S : Nat → St4) (L : List Nat → Prop) : Prop where
  in_ : InG g a b
  word : ∀ w, WordG g S w ↔ L w
theorem lang_empty (S : Nat → St4) (w : List Nat) : WordG emptyG S w ↔ w = [] := by
  match w with
  | [] => simp [WordG, emptyG]
  | b :: w => exact ⟨(fun ⟨_, e, _⟩ => by cases e), (fun h => by cases h)⟩
theorem lang_fail (S : Nat → St4) (w : List Nat) : WordG failG S w ↔ False := by
  match w with
  | [] => simp [WordG, failG]
  | b :: w => exact ⟨(fun ⟨_, e, _⟩ => by cases e), (fun h => h.elim)⟩
theorem starP_congr {L M : List Nat → Prop} (h : ∀ w, L w ↔ M w) (w : List Nat) : StarP L w ↔ StarP M w := by
  have : L = M := funext fun x => propext (h x)
  rw [this]
mutual
theorem gl_ok : ∀ (n : Nd), mayR n = true → ∀ (a : Nat) (S : Nat → St4), SetsAt S a (setsN n) → GoodG (glN n a) a (a + (setsN n).length) S (LangN n)
  | .mk k s l, h, a, S, hS => by
    obtain ⟨h1, h2⟩ := may_parts h
    obtain ⟨f0, f6, f1, f4, f2, fs⟩ := form_spec h1
    by_cases k1 : k = 1
    · have e1 : l = [] := List.eq_nil_of_length_eq_zero (f1 (by omega))
      subst e1 k1
      rw [setsN, if_pos rfl, setsL] at hS ⊢
      rw [glN, if_pos rfl]
      have hs : S a = s := hS 0 s rfl
      refine ⟨⟨fun q e => ?_, fun q e => ?_, fun x y e => by cases e⟩, fun w => ?_⟩
      · have : q = a := by simpa [oneF] using e
        simp; omega
      · have : q = a := by simpa [oneF] using e
        simp; omega
      · rw [LangN, if_pos rfl]
        match w with
        | [] => exact ⟨(fun e => by cases e), (fun ⟨b, e, _⟩ => by cases e)⟩
        | b :: w =>
          constructor
          · rintro ⟨q, e, f, g⟩
            have e : q = a := by simpa [oneF] using e
            subst e
            rw [hs] at f
            match w, g with
            | [], _ => exact ⟨b, rfl, f⟩
            | c :: w, ⟨x, e, _⟩ => cases e
          · rintro ⟨c, e, f⟩
            injection e with e1 e2
            subst e1 e2
            exact ⟨a, by simp [oneF], by rw [hs]; exact f, by simp [PathG, oneF]⟩
    rw [setsN, if_neg k1] at hS ⊢
    rw [glN, if_neg k1]
    by_cases k2 : k = 2
    · rw [if_pos k2]
      obtain ⟨i1, i2⟩ := cat_ok l h2 a a (Nat.le_refl _) S hS emptyG (fun w => w = []) ⟨in_empty a a, lang_empty S⟩
      refine ⟨i1, fun w => (i2 w).trans ?_⟩
      rw [LangN, if_neg k1, if_pos k2]
      constructor
      · rintro ⟨u, v, rfl, rfl, h⟩; exact h
      · intro h; exact ⟨[], w, rfl, rfl, h⟩
    rw [if_neg k2]
    by_cases k3 : k = 3
    · rw [if_pos k3]
      obtain ⟨i1, i2⟩ := alt_ok l h2 a a (Nat.le_refl _) S hS failG (fun _ => False) ⟨in_fail a a, lang_fail S⟩
      refine ⟨i1, fun w => (i2 w).trans ?_⟩
      rw [LangN, if_neg k1, if_neg k2, if_pos k3, false_or]
    rw [if_neg k3]
    by_cases k4 : k = 4
    · rw [if_pos k4]
      obtain ⟨i1, i2⟩ := one_ok l (by omega) h2 a S hS
      refine ⟨in_loop _ i1, fun w => (word_star w).trans ?_⟩
      rw [LangN, if_neg k1, if_neg k2, if_neg k3, if_pos k4]
      exact starP_congr i2 w
    rw [if_neg k4]
    by_cases k5 : k = 5
    · rw [if_pos k5]
      obtain ⟨i1, i2⟩ := one_ok l (by omega) h2 a S hS
      refine ⟨in_loop _ i1, fun w => (word_plus w).trans ?_⟩
      rw [LangN, if_neg k1, if_neg k2, if_neg k3, if_neg k4, if_pos k5]
      exact exists_congr fun u => exists_congr fun v => and_congr Iff.rfl (and_congr (i2 u) (starP_congr i2 v))
    rw [if_neg k5]
    by_cases k6 : k = 6
    · rw [if_pos k6]
      obtain ⟨i1, i2⟩ := one_ok l (by omega) h2 a S hS
      refine ⟨⟨i1.first, i1.last, i1.fol⟩, fun w => ?_⟩
      rw [LangN, if_neg k1, if_neg k2, if_neg k3, if_neg k4, if_neg k5, if_pos k6, ← i2 w]
      match w with
      | [] => simp [WordG, maybeG]
      | b :: w => exact ⟨.inr, fun h => h.elim (fun e => by cases e) id⟩
    rw [if_neg k6]
    have k0 : k = 0 := by omega
    have e1 : l = [] := List.eq_nil_of_length_eq_zero (f1 (by omega))
    refine ⟨in_empty _ _, fun w => ?_⟩
    rw [LangN, if_neg k1, if_neg k2, if_neg k3, if_neg k4, if_neg k5, if_neg k6]
    exact lang_empty S w
theorem cat_ok : ∀ (l : List Nd), mayL l = true → ∀ (a0 a : Nat), a0 ≤ a → ∀ (S : Nat → St4), SetsAt S a (setsL l) → ∀ (p : Gl) (L : List Nat → Prop), GoodG p a0 a S L → GoodG (catG l a p) a0 (a + (setsL l).length) S (fun w => ∃ u v, w = u ++ v ∧ L u ∧ LangC l v)
  | [], _, a0, a, h0, S, _, p, L, hp => by
    rw [catG, setsL]
    refine ⟨hp.in_, fun w => (hp.word w).trans ?_⟩
    constructor
    · intro h; exact ⟨w, [], (List.append_nil _).symm, h, by rw [LangC]⟩
    · rintro ⟨u, v, rfl, hu, hv⟩
      rw [LangC] at hv
      subst hv
      rw [List.append_nil]; exact hu
  | n :: l, h, a0, a, h0, S, hS, p, L, hp => by
    rw [mayL, Bool.and_eq_true] at h
    rw [setsL] at hS ⊢
    rw [catG]
    obtain ⟨i1, i2⟩ := gl_ok n h.1 a S hS.left
    have hseq : GoodG (seqG p (glN n a)) a0 (a + (setsN n).length) S (fun w => ∃ u v, w = u ++ v ∧ L u ∧ LangN n v) := ⟨in_seq hp.in_ i1 h0 (by omega), fun w => (word_seq hp.in_ i1 w).trans (exists_congr fun u => exists_congr fun v => and_congr Iff.rfl (and_congr (hp.word u) (i2 v)))⟩
    obtain ⟨j1, j2⟩ := cat_ok l h.2 a0 _ (by omega) S hS.right _ _ hseq
    refine ⟨by rw [List.length_append, ← Nat.add_assoc]; exact j1, fun w => (j2 w).trans ?_⟩
    constructor
    · rintro ⟨x, v, rfl, ⟨u, y, rfl, hu, hy⟩, hv⟩
      exact ⟨u, y ++ v, by rw [List.append_assoc], hu, by rw [LangC]; exact ⟨y, v, rfl, hy, hv⟩⟩
    · rintro ⟨u, x, rfl, hu, hx⟩
      rw [LangC] at hx
      obtain ⟨y, v, rfl, hy, hv⟩ := hx
      exact ⟨u ++ y, v, by rw [List.append_assoc], ⟨u, y, rfl, hu, hy⟩, hv⟩
theorem alt_ok : ∀ (l : List Nd), mayL l = true → ∀ (a0 a : Nat), a0 ≤ a → ∀ (S : Nat → St4), SetsAt S a (setsL l) → ∀ (p : Gl) (L : List Nat → Prop), GoodG p a0 a S L → GoodG (altG l a p) a0 (a + (setsL l).length) S (fun w => L w ∨ LangA l w)
  | [], _, a0, a, h0, S, _, p, L, hp => by
    rw [altG, setsL]
    exact ⟨hp.in_, fun w => (hp.word w).trans (by rw [LangA, or_false])⟩
  | n :: l, h, a0, a, h0, S, hS, p, L, hp => by
    rw [mayL, Bool.and_eq_true] at h
    rw [setsL] at hS ⊢
    rw [altG]
    obtain ⟨i1, i2⟩ := gl_ok n h.1 a S hS.left
    have hseq : GoodG (eitherG p (glN n a)) a0 (a + (setsN n).length) S (fun w => L w ∨ LangN n w) := ⟨in_either hp.in_ i1 h0 (by omega), fun w => (word_either hp.in_ i1 w).trans (or_congr (hp.word w) (i2 w))⟩
    obtain ⟨j1, j2⟩ := alt_ok l h.2 a0 _ (by omega) S hS.right _ _ hseq
    exact ⟨by rw [List.length_append, ← Nat.add_assoc]; exact j1, fun w => (j2 w).trans (by rw [LangA, or_assoc])⟩
theorem one_ok : ∀ (l : List Nd), l.length = 1 → mayL l = true → ∀ (a : Nat) (S : Nat → St4), SetsAt S a (setsL l) → GoodG (oneG l a) a (a + (setsL l).length) S (LangO l)
  | [], h, _, _, _, _ => by cases h
  | [n], _, h, a, S, hS => by
    rw [mayL, Bool.and_eq_true] at h
    rw [setsL, setsL, List.append_nil] at hS ⊢
    rw [oneG]
    obtain ⟨i1, i2⟩ := gl_ok n h.1 a S hS
    exact ⟨i1, fun w => (i2 w).trans (by rw [LangO])⟩
  | _ :: _ :: _, h, _, _, _, _ => by cases h
end
end Go.Proofs.YtkopbngnhgdfhaaDoor
