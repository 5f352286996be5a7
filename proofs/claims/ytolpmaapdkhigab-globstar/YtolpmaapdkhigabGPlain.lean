/- PLAIN facts on patterns: how they are read, and what they match. -/
import Derived.Test.YtolpmaapdkhigabBase
namespace Go.Proofs.Ytolpmaapdkhigab
open Go.RowKit

inductive Part where
  | star
  | any
  | lit (c : UInt8)
  | cls (neg : Bool) (sp : List (UInt8 × UInt8))
def Part.many : Part → Bool
  | .star => true
  | _ => false
def inSpan (c : UInt8) (x : UInt8 × UInt8) : Bool := decide (x.1.toNat ≤ c.toNat) && decide (c.toNat ≤ x.2.toNat)
def Part.may : Part → UInt8 → Bool
  | .star, _ => true
  | .any, _ => true
  | .lit d, c => c == d
  | .cls neg sp, c => neg != sp.any (inSpan c)

/-- what stands behind the first byte of a span -/
def pSpan (c : UInt8) : List UInt8 → Except Nat ((UInt8 × UInt8) × List UInt8)
  | 45 :: d :: r => if d = 93 then .ok ((c, c), 45 :: d :: r) else if c.toNat ≤ d.toNat then .ok ((c, d), r) else .error 1
  | l => .ok ((c, c), l)
theorem pSpan_len {c : UInt8} {l q : List UInt8} {x : UInt8 × UInt8} (h : pSpan c l = .ok (x, q)) : q.length ≤ l.length ∧ q <:+ l := by
  unfold pSpan at h
  split at h
  · split at h
    · simp at h; obtain ⟨_, rfl⟩ := h; exact ⟨Nat.le_refl _, List.suffix_refl _⟩
    · split at h
      · simp at h; obtain ⟨_, rfl⟩ := h; exact ⟨by simp; omega, ⟨[45, _], rfl⟩⟩
      · simp at h
  · simp at h; obtain ⟨_, rfl⟩ := h; exact ⟨Nat.le_refl _, List.suffix_refl _⟩
/-- the spans of a bracket, up to its end; so many rounds at most -/
def pClsF : Nat → List UInt8 → Except Nat (List (UInt8 × UInt8) × List UInt8)
  | 0, _ => .error 8
  | _ + 1, [] => .error 8
  | f + 1, c :: l => if c = 93 then .ok ([], l) else match pSpan c l with
    | .error e => .error e
    | .ok (x, q) => match pClsF f q with
      | .error e => .error e
      | .ok (xs, q') => .ok (x :: xs, q')
theorem pClsF_more : ∀ (f g : Nat) (l : List UInt8), l.length < f → l.length < g → pClsF f l = pClsF g l
  | 0, _, _, h, _ => by omega
  | _, 0, _, _, h => by omega
  | f + 1, g + 1, [], _, _ => rfl
  | f + 1, g + 1, c :: l, hf, hg => by
    simp only [List.length_cons] at hf hg
    rw [pClsF, pClsF]
    split
    · rfl
    · cases h : pSpan c l with
      | error e => rfl
      | ok y =>
        obtain ⟨x, q⟩ := y
        have := (pSpan_len h).1
        simp only
        rw [pClsF_more f g q (by omega) (by omega)]
def pCls (l : List UInt8) : Except Nat (List (UInt8 × UInt8) × List UInt8) := pClsF (l.length + 1) l
theorem pCls_nil : pCls [] = .error 8 := rfl
theorem pCls_end (l : List UInt8) : pCls (93 :: l) = .ok ([], l) := rfl
theorem pCls_err {c : UInt8} {l : List UInt8} {e : Nat} (hc : c ≠ 93) (h : pSpan c l = .error e) : pCls (c :: l) = .error e := by
  rw [pCls, pClsF, if_neg hc, h]
theorem pCls_ok {c : UInt8} {l q : List UInt8} {x : UInt8 × UInt8} (hc : c ≠ 93) (h : pSpan c l = .ok (x, q)) :
    pCls (c :: l) = match pCls q with | .error e => .error e | .ok (xs, q') => .ok (x :: xs, q') := by
  have := (pSpan_len h).1
  rw [pCls, pClsF, if_neg hc, h]
  simp only
  rw [pCls, pClsF_more _ (q.length + 1) q (by simp; omega) (by omega)]
def aheadS (p : List (UInt8 × UInt8)) : Except Nat (List (UInt8 × UInt8) × List UInt8) → Except Nat (List (UInt8 × UInt8) × List UInt8)
  | .error e => .error e
  | .ok (x, q) => .ok (p ++ x, q)
theorem aheadS_nil (r : Except Nat (List (UInt8 × UInt8) × List UInt8)) : aheadS [] r = r := by
  cases r with
  | error e => rfl
  | ok p => rfl
theorem aheadS_ok {acc : List (UInt8 × UInt8)} {c : UInt8} {l q : List UInt8} {x : UInt8 × UInt8} (hc : c ≠ 93) (h : pSpan c l = .ok (x, q)) : aheadS acc (pCls (c :: l)) = aheadS (acc ++ [x]) (pCls q) := by
  rw [pCls_ok hc h]
  cases pCls q with
  | error e => rfl
  | ok y => simp [aheadS]
theorem pClsF_suffix : ∀ (f : Nat) (l : List UInt8) (xs : List (UInt8 × UInt8)) (q : List UInt8), pClsF f l = .ok (xs, q) → q <:+ l ∧ q.length < l.length
  | 0, _, _, _, h => by simp [pClsF] at h
  | _ + 1, [], _, _, h => by simp [pClsF] at h
  | f + 1, c :: l, xs, q, h => by
    rw [pClsF] at h
    split at h
    · simp at h
      obtain ⟨_, rfl⟩ := h
      exact ⟨List.suffix_cons _ _, by simp⟩
    · split at h
      · simp at h
      · rename_i x q1 h1
        split at h
        · simp at h
        · rename_i ys q2 h2
          simp at h
          obtain ⟨_, rfl⟩ := h
          obtain ⟨a, b⟩ := pClsF_suffix f q1 _ _ h2
          obtain ⟨c1, d⟩ := pSpan_len h1
          exact ⟨(a.trans d).trans (List.suffix_cons _ _), by simp; omega⟩
def pBracket (l : List UInt8) : Except Nat (Part × List UInt8) :=
  match pCls (if l.head? = some 94 then l.tail else l) with
  | .error e => .error e
  | .ok ([], _) => .error 1
  | .ok (x :: xs, q) => .ok (.cls (l.head? == some 94) (x :: xs), q)
def pEsc : List UInt8 → Except Nat (Part × List UInt8)
  | [] => .error 8
  | d :: r => .ok (.lit d, r)
def pPart : List UInt8 → Except Nat (Part × List UInt8)
  | [] => .error 8
  | c :: l => if c = 42 then .ok (.star, l) else if c = 63 then .ok (.any, l) else if c = 91 then pBracket l else if c = 92 then pEsc l else .ok (.lit c, l)
theorem pPart_suffix {l q : List UInt8} {p : Part} (h : pPart l = .ok (p, q)) : q <:+ l ∧ q.length < l.length := by
  cases l with
  | nil => simp [pPart] at h
  | cons c l =>
    rw [pPart] at h
    split at h
    · simp at h; obtain ⟨_, rfl⟩ := h; exact ⟨List.suffix_cons _ _, by simp⟩
    · split at h
      · simp at h; obtain ⟨_, rfl⟩ := h; exact ⟨List.suffix_cons _ _, by simp⟩
      · split at h
        · unfold pBracket at h
          split at h
          · simp at h
          · simp at h
          · rename_i x xs q1 h1
            simp at h
            obtain ⟨_, rfl⟩ := h
            obtain ⟨a, b⟩ := pClsF_suffix _ _ _ _ h1
            have h2 : (if l.head? = some 94 then l.tail else l) <:+ l := by
              split
              · exact List.tail_suffix l
              · exact List.suffix_refl l
            have h3 := h2.length_le
            exact ⟨(a.trans h2).trans (List.suffix_cons _ _), by simp only [List.length_cons]; omega⟩
        · split at h
          · cases l with
            | nil => simp [pEsc] at h
            | cons d r =>
              simp [pEsc] at h
              obtain ⟨_, rfl⟩ := h
              exact ⟨⟨[c, d], rfl⟩, by simp; omega⟩
          · simp at h; obtain ⟨_, rfl⟩ := h; exact ⟨List.suffix_cons _ _, by simp⟩
def pPartsF : Nat → List UInt8 → Except Nat (List Part)
  | _, [] => .ok []
  | 0, _ :: _ => .error 8
  | f + 1, c :: l => match pPart (c :: l) with
    | .error e => .error e
    | .ok (p, q) => match pPartsF f q with
      | .error e => .error e
      | .ok ps => .ok (p :: ps)
theorem pPartsF_more : ∀ (f g : Nat) (l : List UInt8), l.length ≤ f → l.length ≤ g → pPartsF f l = pPartsF g l
  | 0, 0, _, _, _ => rfl
  | f, g, [], _, _ => by rw [pPartsF, pPartsF]
  | 0, g + 1, c :: l, h, _ => by simp at h
  | f + 1, 0, c :: l, _, h => by simp at h
  | f + 1, g + 1, c :: l, hf, hg => by
    simp only [List.length_cons] at hf hg
    rw [pPartsF, pPartsF]
    cases h : pPart (c :: l) with
    | error e => rfl
    | ok y =>
      obtain ⟨p, q⟩ := y
      have := (pPart_suffix h).2
      simp only [List.length_cons] at this
      simp only
      rw [pPartsF_more f g q (by omega) (by omega)]
def pParts (l : List UInt8) : Except Nat (List Part) := pPartsF l.length l
theorem pParts_nil : pParts [] = .ok [] := rfl
theorem pParts_err {c : UInt8} {l : List UInt8} {e : Nat} (h : pPart (c :: l) = .error e) : pParts (c :: l) = .error e := by
  rw [pParts, List.length_cons, pPartsF, h]
theorem pParts_ok {c : UInt8} {l q : List UInt8} {p : Part} (h : pPart (c :: l) = .ok (p, q)) :
    pParts (c :: l) = match pParts q with | .error e => .error e | .ok ps => .ok (p :: ps) := by
  have := (pPart_suffix h).2
  simp only [List.length_cons] at this
  rw [pParts, List.length_cons, pPartsF, h]
  simp only
  rw [pParts, pPartsF_more l.length q.length q (by omega) (Nat.le_refl _)]
def aheadP (p : List Part) : Except Nat (List Part) → Except Nat (List Part)
  | .error e => .error e
  | .ok x => .ok (p ++ x)
theorem aheadP_nil (r : Except Nat (List Part)) : aheadP [] r = r := by
  cases r with
  | error e => rfl
  | ok p => rfl
theorem aheadP_ok {acc : List Part} {c : UInt8} {l q : List UInt8} {p : Part} (h : pPart (c :: l) = .ok (p, q)) : aheadP acc (pParts (c :: l)) = aheadP (acc ++ [p]) (pParts q) := by
  rw [pParts_ok h]
  cases pParts q with
  | error e => rfl
  | ok y => simp [aheadP]
theorem aheadP_err {acc : List Part} {c : UInt8} {l : List UInt8} {e : Nat} (h : pPart (c :: l) = .error e) : aheadP acc (pParts (c :: l)) = .error e := by
  rw [pParts_err h]
  rfl

/-! what a pattern matches -/
def starMat (f : List UInt8 → Bool) : List UInt8 → Bool
  | [] => f []
  | c :: t => f (c :: t) || starMat f t
def oneMat (p : Part) (f : List UInt8 → Bool) : List UInt8 → Bool
  | [] => false
  | c :: t => p.may c && f t
def mat : List Part → List UInt8 → Bool
  | [], s => s.isEmpty
  | p :: ps, s => if p.many then starMat (mat ps) s else oneMat p (mat ps) s
theorem mat_nil : ∀ ps : List Part, mat ps [] = ps.all Part.many
  | [] => rfl
  | p :: ps => by
    rw [mat, List.all_cons]
    split
    · rename_i h; rw [starMat, mat_nil ps, h]; rfl
    · rename_i h; simp only [Bool.not_eq_true] at h; rw [h]; rfl
theorem starMat_drop (f : List UInt8 → Bool) (s : List UInt8) (i : Nat) (h : i < s.length) : starMat f (s.drop i) = (f (s.drop i) || starMat f (s.drop (i + 1))) := by
  rw [List.drop_eq_getElem_cons h, starMat]
theorem starMat_iff (f : List UInt8 → Bool) : ∀ (s : List UInt8), starMat f s = true ↔ ∃ j, j ≤ s.length ∧ f (s.drop j) = true
  | [] => by
    rw [starMat]
    constructor
    · intro h; exact ⟨0, Nat.le_refl _, h⟩
    · rintro ⟨j, hj, h⟩; simpa using h
  | c :: t => by
    rw [starMat, Bool.or_eq_true, starMat_iff f t]
    constructor
    · rintro (h | ⟨j, hj, h⟩)
      · exact ⟨0, Nat.zero_le _, h⟩
      · exact ⟨j + 1, by simp; omega, by simpa using h⟩
    · rintro ⟨j, hj, h⟩
      cases j with
      | zero => exact .inl (by simpa using h)
      | succ j => exact .inr ⟨j, by simp at hj; omega, by simpa using h⟩
/-- parts that are one byte each -/
theorem mat_lens : ∀ (A R : List Part) (s : List UInt8), (∀ p ∈ A, p.many = false) → mat (A ++ R) s = true → A.length ≤ s.length ∧ mat R (s.drop A.length) = true
  | [], R, s, _, h => ⟨Nat.zero_le _, by simpa using h⟩
  | p :: A, R, s, hA, h => by
    rw [List.cons_append, mat, if_neg (by rw [hA p (by simp)]; decide)] at h
    cases s with
    | nil => simp [oneMat] at h
    | cons c t =>
      simp only [oneMat, Bool.and_eq_true] at h
      obtain ⟨h1, h2⟩ := mat_lens A R t (fun x hx => hA x (by simp [hx])) h.2
      exact ⟨by simp; omega, by simpa using h2⟩
/-! the walk that goes back to the last star alone -/
/-- where the walk stands: at parts[at], at byte i; star, from: the last star, and from which byte on what is behind it is tried -/
structure Stand (P : List Part) (s : List UInt8) (at_ : Nat) (star : Option Nat) (from_ i : Nat) : Prop where
  atLe : at_ ≤ P.length
  iLe : i ≤ s.length
  none : star = none → mat P s = mat (P.drop at_) (s.drop i)
  some : ∀ k, star = some k → k < at_ ∧ from_ ≤ i ∧ i - from_ = at_ - (k + 1) ∧ (∀ p ∈ (P.drop (k + 1)).take (at_ - (k + 1)), p.many = false) ∧
    mat P s = starMat (mat (P.drop (k + 1))) (s.drop from_) ∧ mat (P.drop (k + 1)) (s.drop from_) = mat (P.drop at_) (s.drop i)
theorem drop_take_drop (P : List Part) (a b : Nat) (h : a ≤ b) : P.drop a = (P.drop a).take (b - a) ++ P.drop b := by
  have := List.take_append_drop (b - a) (P.drop a)
  rw [List.drop_drop, show a + (b - a) = b by omega] at this
  exact this.symm
theorem stand_begin (P : List Part) (s : List UInt8) : Stand P s 0 .none 0 0 := ⟨Nat.zero_le _, Nat.zero_le _, fun _ => by simp, fun k h => by cases h⟩
theorem drop_cons {α : Type} (P : List α) (a : Nat) (h : a < P.length) : P.drop a = P[a] :: P.drop (a + 1) := List.drop_eq_getElem_cons h
theorem mat_star {P : List Part} {a : Nat} (h : a < P.length) (hm : P[a].many = true) (s : List UInt8) : mat (P.drop a) s = starMat (mat (P.drop (a + 1))) s := by
  rw [drop_cons P a h, mat, if_pos hm]
theorem mat_one {P : List Part} {a i : Nat} {s : List UInt8} (h : a < P.length) (hm : P[a].many = false) (hi : i < s.length) : mat (P.drop a) (s.drop i) = (P[a].may s[i] && mat (P.drop (a + 1)) (s.drop (i + 1))) := by
  rw [drop_cons P a h, drop_cons s i hi, mat, if_neg (by rw [hm]; decide), oneMat]
/-- a star is met -/
theorem stand_star {P : List Part} {s : List UInt8} {at_ from_ i : Nat} {star : Option Nat} (h : Stand P s at_ star from_ i) (ha : at_ < P.length) (hm : P[at_].many = true) : Stand P s (at_ + 1) (.some at_) i i := by
  have hi := h.iLe
  refine ⟨by omega, hi, fun e => (by cases e), fun k e => ?_⟩
  simp at e
  subst e
  refine ⟨by omega, Nat.le_refl _, by omega, fun p hp => by rw [show at_ + 1 - (at_ + 1) = 0 by omega] at hp; simp at hp, ?_, rfl⟩
  cases hst : star with
  | none => rw [h.none hst, mat_star ha hm]
  | some k =>
    obtain ⟨k1, k2, k3, k4, k5, k6⟩ := h.some k hst
    rw [k5, Bool.eq_iff_iff, starMat_iff, starMat_iff]
    have hsplit := drop_take_drop P (k + 1) at_ (by omega)
    have hlen : ((P.drop (k + 1)).take (at_ - (k + 1))).length = at_ - (k + 1) := by rw [List.length_take, List.length_drop]; omega
    constructor
    · rintro ⟨j, hj, hf⟩
      rw [hsplit] at hf
      obtain ⟨l1, l2⟩ := mat_lens _ _ _ k4 hf
      rw [hlen, List.drop_drop, List.drop_drop, mat_star ha hm, starMat_iff] at l2
      obtain ⟨j2, hj2, hf2⟩ := l2
      rw [List.drop_drop] at hf2
      rw [hlen, List.length_drop, List.length_drop] at l1
      rw [List.length_drop] at hj2 hj
      refine ⟨(from_ + j + (at_ - (k + 1)) + j2) - i, by rw [List.length_drop]; omega, ?_⟩
      rw [List.drop_drop, show i + (from_ + j + (at_ - (k + 1)) + j2 - i) = from_ + (j + (at_ - (k + 1))) + j2 by omega]
      exact hf2
    · rintro ⟨j, hj, hf⟩
      refine ⟨0, Nat.zero_le _, ?_⟩
      rw [List.drop_zero, k6, mat_star ha hm, starMat_iff]
      exact ⟨j, hj, hf⟩
/-- a byte that may be -/
theorem stand_step {P : List Part} {s : List UInt8} {at_ from_ i : Nat} {star : Option Nat} (h : Stand P s at_ star from_ i) (ha : at_ < P.length) (hm : P[at_].many = false) (hi : i < s.length) (hy : P[at_].may s[i] = true) : Stand P s (at_ + 1) star from_ (i + 1) := by
  have hone := mat_one ha hm hi
  rw [hy, Bool.true_and] at hone
  refine ⟨by omega, by omega, fun e => by rw [h.none e, hone], fun k e => ?_⟩
  obtain ⟨k1, k2, k3, k4, k5, k6⟩ := h.some k e
  refine ⟨by omega, by omega, by omega, ?_, k5, by rw [k6, hone]⟩
  rw [show at_ + 1 - (k + 1) = (at_ - (k + 1)) + 1 by omega, List.take_succ_eq_append_getElem (by rw [List.length_drop]; omega)]
  intro p hp
  rw [List.mem_append] at hp
  rcases hp with hp | hp
  · exact k4 p hp
  · simp only [List.mem_singleton] at hp
    subst hp
    rw [List.getElem_drop]
    have : k + 1 + (at_ - (k + 1)) = at_ := by omega
    simp only [this]
    exact hm
/-- what does not fit: the star takes one byte more -/
theorem stand_back {P : List Part} {s : List UInt8} {at_ from_ i k : Nat} (h : Stand P s at_ (.some k) from_ i) (hi : i < s.length) (hno : mat (P.drop at_) (s.drop i) = false) : Stand P s (k + 1) (.some k) (from_ + 1) (from_ + 1) := by
  have ha := h.atLe
  obtain ⟨k1, k2, k3, k4, k5, k6⟩ := h.some k rfl
  refine ⟨by omega, by omega, fun e => (by cases e), fun k' e => ?_⟩
  simp at e
  subst e
  refine ⟨by omega, Nat.le_refl _, by omega, fun p hp => by rw [show k + 1 - (k + 1) = 0 by omega] at hp; simp at hp, ?_, rfl⟩
  rw [k5, starMat_drop _ _ _ (by omega), k6, hno, Bool.false_or]
theorem stand_miss {P : List Part} {s : List UInt8} {at_ i : Nat} (ha : at_ ≤ P.length) (hi : i < s.length) (h : at_ < P.length → ∃ hh : at_ < P.length, P[at_].many = false ∧ P[at_].may s[i] = false) : mat (P.drop at_) (s.drop i) = false := by
  by_cases hlt : at_ < P.length
  · obtain ⟨hh, h1, h2⟩ := h hlt
    rw [mat_one hlt h1 hi, h2, Bool.false_and]
  · rw [List.drop_eq_nil_of_le (by omega), mat, drop_cons s i hi]
    rfl
theorem stand_none {P : List Part} {s : List UInt8} {at_ from_ i : Nat} (h : Stand P s at_ .none from_ i) (hno : mat (P.drop at_) (s.drop i) = false) : mat P s = false := by rw [h.none rfl, hno]
/-- the text is at its end -/
theorem stand_end {P : List Part} {s : List UInt8} {at_ from_ i : Nat} {star : Option Nat} (h : Stand P s at_ star from_ i) (hi : i = s.length) : mat P s = (P.drop at_).all Part.many := by
  have ha := h.atLe
  subst hi
  rw [← mat_nil]
  have hd : s.drop s.length = [] := List.drop_length
  cases hst : star with
  | none => rw [h.none hst, hd]
  | some k =>
    obtain ⟨k1, k2, k3, k4, k5, k6⟩ := h.some k hst
    rw [hd] at k6
    rw [k5, ← k6, Bool.eq_iff_iff, starMat_iff]
    constructor
    · rintro ⟨j, hj, hf⟩
      have hsplit := drop_take_drop P (k + 1) at_ (by omega)
      have hlen : ((P.drop (k + 1)).take (at_ - (k + 1))).length = at_ - (k + 1) := by rw [List.length_take, List.length_drop]; omega
      have hf0 := hf
      rw [hsplit] at hf
      obtain ⟨l1, _⟩ := mat_lens _ _ _ k4 hf
      rw [hlen, List.length_drop, List.length_drop] at l1
      rw [List.length_drop] at hj
      have : j = 0 := by omega
      subst this
      simpa using hf0
    · intro hf
      exact ⟨0, Nat.zero_le _, by simpa using hf⟩
end Go.Proofs.Ytolpmaapdkhigab
