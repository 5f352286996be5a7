/- Part 3 of what the proof leans on: GScanM, GPlain, GFn, GCls, GSpan, GBracket, GBrk, GPart, GRun, GRunParse, GParse, GTop, GMatch, GGo, GTel, YKeys, YPl, YTel, RInt, RChk1. -/
import Derived.Test.YtcidoodaiimhfaaGreatPart2
import Derived.Handy
import Derived.Test.YtcidoodaiimhfaaGreatPart1
import Derived.Deep.RegionHeld3
import Derived.BigQuiet
import Derived.Deep.RegionLaw
import Derived.Deep.AppendLies
import Derived.Deep.Cut
import Derived.Deep.CutRange
import Derived.Laws.EntriesVeiled
import Derived.Defers
import Derived.Recover
import Derived.Test.YtcidoodaiimhfaaGreatChecked
/- (patterns) WALKS of the small functions of package scan: bytes that must come. -/
namespace Go.Proofs.YtcidoodaiimhfaaGreat
open Go.RowKit

/-- WHAT Must ASKS, AS A PLAIN FUNCTION. -/
def pMust : List UInt8 → List UInt8 → Except Nat (List UInt8)
  | [], l => .ok l
  | _ :: _, [] => .error 8
  | c :: cs, d :: r => if d = c then pMust cs r else .error 1

set_option maxHeartbeats 400000 in
theorem must_any (cs : List UInt8) (b g : Nat) (s : ByteArray) (l : List UInt8) (w : World) (h : AtL b s l w) (hgb : g ≠ b) (hn : cs.length ≤ 2)
    (hc : ∀ i (hi : i < cs.length), w.cell? ⟨g, i, none⟩ = some (.int .u8 cs[i].toNat)) :
    Calls Tryz.prog 268 #[.pointer (some ⟨b, 0, none⟩), .slice (some ⟨g, 0, none⟩) cs.length cs.length] w fun e w' => Kept (one b) w w' ∧
      (∀ r, pMust cs l = .ok r → e = .returned (.tuple #[]) ∧ AtL b s r w') ∧ (∀ n, pMust cs l = .error n → e = .panicked [{ v := .iface 194 (.agg #[.int .i64 (n)]), recovered := false }]) := by
  go_enter Tryz.func268, Tryz.ntmps268
  go_wp2
  go_loopw [8] (fun i wr => ∃ (k : Nat) (q : List UInt8), k ≤ cs.length ∧ i = .int .i64 k ∧ AtL b s q wr ∧ Kept (one b) w wr ∧ pMust cs l = pMust (cs.drop k) q) (fun i _ => cs.length - (intOf i).toNat)
  case atStart => exact ⟨0, l, Nat.zero_le _, rfl, h, Kept.refl _ _, rfl⟩
  case round =>
    obtain ⟨k, q, hk, rfl, ha, hkp, hp⟩ := hrel
    by_cases hlt : k < cs.length
    · have hcell : wr.cell? ⟨g, k, none⟩ = some (.int .u8 cs[k].toNat) := hkp.cell' (hc k hlt) hgb
      have HP : Hid (pMust cs l = pMust (cs.drop k) q) := hp
      clear hp hc
      have hd : cs.drop k = cs[k] :: cs.drop (k + 1) := List.drop_eq_getElem_cons hlt
      have HD : Hid (cs.drop k = cs[k] :: cs.drop (k + 1)) := hd
      clear hd
      cases q with
      | nil =>
        go_wp2_with (go_at_call 173; refine (next_short b s wr ha).mono ?_; rintro e w' ⟨rfl, hk2⟩)
        refine ⟨rfl, hkp.trans hk2, ?_, ?_⟩
        · intro r hr; rw [HP.out, HD.out] at hr; simp [pMust] at hr
        · intro n hr; rw [HP.out, HD.out] at hr; simp [pMust] at hr; subst hr; rfl
      | cons d r =>
        by_cases hdc : d = cs[k]
        · have hb : ((d.toNat : Int) != cs[k].toNat) = false := by simp [hdc]
          have HDC : Hid (d = cs[k]) := hdc
          clear hdc
          go_wp2_with (go_at_call 173; refine (next_ok b s d r wr ha).mono ?_; rintro e w' ⟨rfl, ha2, hk2⟩)
          go_roundw
          case rel => exact ⟨k + 1, r, by omega, by go_num, ha2, hkp.trans hk2, by rw [HP.out, HD.out]; simp [pMust, HDC.out]⟩
          case measure => simp [intOf]; omega
        · have hb : ((d.toNat : Int) != cs[k].toNat) = true := by
            have : d.toNat ≠ cs[k].toNat := fun e => hdc (UInt8.toNat_inj.1 e)
            simp; omega
          have HDC : Hid (¬ d = cs[k]) := hdc
          clear hdc
          go_wp2_with (first | (go_at_call 173; refine (next_ok b s d r wr ha).mono ?_; rintro e w' ⟨rfl, ha2, hk2⟩) | (go_at_call 183; refine (giveUp_any _ _).mono ?_; rintro e w' ⟨rfl, rfl⟩))
          refine ⟨rfl, hkp.trans hk2, ?_, ?_⟩
          · intro r hr; rw [HP.out, HD.out] at hr; simp [pMust, HDC.out] at hr
          · intro n hr; rw [HP.out, HD.out] at hr; simp [pMust, HDC.out] at hr; subst hr; rfl
    · have hkk : k = cs.length := by omega
      have HP : Hid (pMust cs l = .ok q) := by rw [hp, hkk]; simp [Hid, pMust]
      clear hp
      go_wp2
      go_end0
      refine ⟨hkp, ?_, ?_⟩
      · intro r hr; rw [HP.out] at hr; cases hr; exact ⟨rfl, ha⟩
      · intro n hr; rw [HP.out] at hr; cases hr

theorem must_ok (cs : List UInt8) (b g : Nat) (s : ByteArray) (l r : List UInt8) (w : World) (h : AtL b s l w) (hgb : g ≠ b) (hn : cs.length ≤ 2)
    (hc : ∀ i (hi : i < cs.length), w.cell? ⟨g, i, none⟩ = some (.int .u8 cs[i].toNat)) (hp : pMust cs l = .ok r) :
    Calls Tryz.prog 268 #[.pointer (some ⟨b, 0, none⟩), .slice (some ⟨g, 0, none⟩) cs.length cs.length] w fun e w' => e = .returned (.tuple #[]) ∧ AtL b s r w' ∧ Kept (one b) w w' :=
  (must_any cs b g s l w h hgb hn hc).mono fun _ _ ⟨h1, h2, _⟩ => ⟨(h2 r hp).1, (h2 r hp).2, h1⟩
theorem must_err (cs : List UInt8) (b g : Nat) (s : ByteArray) (l : List UInt8) (n : Nat) (w : World) (h : AtL b s l w) (hgb : g ≠ b) (hn : cs.length ≤ 2)
    (hc : ∀ i (hi : i < cs.length), w.cell? ⟨g, i, none⟩ = some (.int .u8 cs[i].toNat)) (hp : pMust cs l = .error n) :
    Calls Tryz.prog 268 #[.pointer (some ⟨b, 0, none⟩), .slice (some ⟨g, 0, none⟩) cs.length cs.length] w fun e w' => e = .panicked [{ v := .iface 194 (.agg #[.int .i64 (n)]), recovered := false }] ∧ Kept (one b) w w' :=
  (must_any cs b g s l w h hgb hn hc).mono fun _ _ ⟨h1, _, h2⟩ => ⟨h2 n hp, h1⟩


/-- Must at one byte that the caller has just laid. -/
theorem must1_ok (c : UInt8) (ci : Int) (hci : ci = c.toNat) (b : Nat) (s : ByteArray) (l r : List UInt8) (w : World) (h : AtL b s l w) (hp : pMust [c] l = .ok r) :
    Calls Tryz.prog 268 #[.pointer (some ⟨b, 0, none⟩), .slice (some ⟨w.heap.size, 0, none⟩) 1 1] (w.alloc (.cells #[.int .u8 ci] 5)) fun e w' => e = .returned (.tuple #[]) ∧ AtL b s r w' ∧ Kept (one b) w w' := by
  subst hci
  have hlt := h.lt
  refine (must_ok [c] b w.heap.size s l r _ (h.alloc _) (by omega) (by simp) ?_ hp).mono fun e w' ⟨h1, h2, h3⟩ => ⟨h1, h2, ((Kept.refl _ _).alloc _).trans h3⟩
  intro i hi
  simp at hi
  subst hi
  simp [go_sem]
theorem must1_err (c : UInt8) (ci : Int) (hci : ci = c.toNat) (b : Nat) (s : ByteArray) (l : List UInt8) (n : Nat) (w : World) (h : AtL b s l w) (hp : pMust [c] l = .error n) :
    Calls Tryz.prog 268 #[.pointer (some ⟨b, 0, none⟩), .slice (some ⟨w.heap.size, 0, none⟩) 1 1] (w.alloc (.cells #[.int .u8 ci] 5)) fun e w' => e = .panicked [{ v := .iface 194 (.agg #[.int .i64 (n)]), recovered := false }] ∧ Kept (one b) w w' := by
  subst hci
  have hlt := h.lt
  refine (must_err [c] b w.heap.size s l n _ (h.alloc _) (by omega) (by simp) ?_ hp).mono fun e w' ⟨h1, h3⟩ => ⟨h1, ((Kept.refl _ _).alloc _).trans h3⟩
  intro i hi
  simp at hi
  subst hi
  simp [go_sem]
/-- Must at a line's end that the caller has just laid. -/
theorem must2_ok (b : Nat) (s : ByteArray) (l r : List UInt8) (w : World) (h : AtL b s l w) (hp : pMust [13, 10] l = .ok r) :
    Calls Tryz.prog 268 #[.pointer (some ⟨b, 0, none⟩), .slice (some ⟨w.heap.size, 0, none⟩) 2 2] (w.alloc (.cells #[.int .u8 13, .int .u8 10] 5)) fun e w' => e = .returned (.tuple #[]) ∧ AtL b s r w' ∧ Kept (one b) w w' := by
  have hlt := h.lt
  refine (must_ok [13, 10] b w.heap.size s l r _ (h.alloc _) (by omega) (by simp) ?_ hp).mono fun e w' ⟨h1, h2, h3⟩ => ⟨h1, h2, ((Kept.refl _ _).alloc _).trans h3⟩
  intro i hi
  match i, hi with
  | 0, _ => simp [go_sem]
  | 1, _ => simp [go_sem]
theorem must2_err (b : Nat) (s : ByteArray) (l : List UInt8) (n : Nat) (w : World) (h : AtL b s l w) (hp : pMust [13, 10] l = .error n) :
    Calls Tryz.prog 268 #[.pointer (some ⟨b, 0, none⟩), .slice (some ⟨w.heap.size, 0, none⟩) 2 2] (w.alloc (.cells #[.int .u8 13, .int .u8 10] 5)) fun e w' => e = .panicked [{ v := .iface 194 (.agg #[.int .i64 (n)]), recovered := false }] ∧ Kept (one b) w w' := by
  have hlt := h.lt
  refine (must_err [13, 10] b w.heap.size s l n _ (h.alloc _) (by omega) (by simp) ?_ hp).mono fun e w' ⟨h1, h3⟩ => ⟨h1, ((Kept.refl _ _).alloc _).trans h3⟩
  intro i hi
  match i, hi with
  | 0, _ => simp [go_sem]
  | 1, _ => simp [go_sem]


end Go.Proofs.YtcidoodaiimhfaaGreat

/- PLAIN facts on patterns: how they are read, and what they match. -/
namespace Go.Proofs.YtcidoodaiimhfaaGreat
open Go.RowKit

inductive Part where
  | star
  | any
  | lit (c : UInt8)
  | cls (neg : Bool) (sp : List (UInt8 × UInt8))
def Part.many : Part → Bool
  | .star => true
  | _ => false
def inSpan (c : UInt8) (x : UInt8 × UInt8) : Bool := decide (x.1.toNat ≤ c.toNat) && decide (c.toNat ≤ x.2.toNat)
def Part.may : Part → UInt8 → Bool
  | .star, _ => true
  | .any, _ => true
  | .lit d, c => c == d
  | .cls neg sp, c => neg != sp.any (inSpan c)

/-- what stands behind the first byte of a span -/
def pSpan (c : UInt8) : List UInt8 → Except Nat ((UInt8 × UInt8) × List UInt8)
  | 45 :: d :: r => if d = 93 then .ok ((c, c), 45 :: d :: r) else if c.toNat ≤ d.toNat then .ok ((c, d), r) else .error 1
  | l => .ok ((c, c), l)
theorem pSpan_len {c : UInt8} {l q : List UInt8} {x : UInt8 × UInt8} (h : pSpan c l = .ok (x, q)) : q.length ≤ l.length ∧ q <:+ l := by
  unfold pSpan at h
  split at h
  · split at h
    · simp at h; obtain ⟨_, rfl⟩ := h; exact ⟨Nat.le_refl _, List.suffix_refl _⟩
    · split at h
      · simp at h; obtain ⟨_, rfl⟩ := h; exact ⟨by simp; omega, ⟨[45, _], rfl⟩⟩
      · simp at h
  · simp at h; obtain ⟨_, rfl⟩ := h; exact ⟨Nat.le_refl _, List.suffix_refl _⟩
/-- the spans of a bracket, up to its end; so many rounds at most -/
def pClsF : Nat → List UInt8 → Except Nat (List (UInt8 × UInt8) × List UInt8)
  | 0, _ => .error 8
  | _ + 1, [] => .error 8
  | f + 1, c :: l => if c = 93 then .ok ([], l) else match pSpan c l with
    | .error e => .error e
    | .ok (x, q) => match pClsF f q with
      | .error e => .error e
      | .ok (xs, q') => .ok (x :: xs, q')
theorem pClsF_more : ∀ (f g : Nat) (l : List UInt8), l.length < f → l.length < g → pClsF f l = pClsF g l
  | 0, _, _, h, _ => by omega
  | _, 0, _, _, h => by omega
  | f + 1, g + 1, [], _, _ => rfl
  | f + 1, g + 1, c :: l, hf, hg => by
    simp only [List.length_cons] at hf hg
    rw [pClsF, pClsF]
    split
    · rfl
    · cases h : pSpan c l with
      | error e => rfl
      | ok y =>
        obtain ⟨x, q⟩ := y
        have := (pSpan_len h).1
        simp only
        rw [pClsF_more f g q (by omega) (by omega)]
def pCls (l : List UInt8) : Except Nat (List (UInt8 × UInt8) × List UInt8) := pClsF (l.length + 1) l
theorem pCls_nil : pCls [] = .error 8 := rfl
theorem pCls_end (l : List UInt8) : pCls (93 :: l) = .ok ([], l) := rfl
theorem pCls_err {c : UInt8} {l : List UInt8} {e : Nat} (hc : c ≠ 93) (h : pSpan c l = .error e) : pCls (c :: l) = .error e := by
  rw [pCls, pClsF, if_neg hc, h]
theorem pCls_ok {c : UInt8} {l q : List UInt8} {x : UInt8 × UInt8} (hc : c ≠ 93) (h : pSpan c l = .ok (x, q)) :
    pCls (c :: l) = match pCls q with | .error e => .error e | .ok (xs, q') => .ok (x :: xs, q') := by
  have := (pSpan_len h).1
  rw [pCls, pClsF, if_neg hc, h]
  simp only
  rw [pCls, pClsF_more _ (q.length + 1) q (by simp; omega) (by omega)]
def aheadS (p : List (UInt8 × UInt8)) : Except Nat (List (UInt8 × UInt8) × List UInt8) → Except Nat (List (UInt8 × UInt8) × List UInt8)
  | .error e => .error e
  | .ok (x, q) => .ok (p ++ x, q)
theorem aheadS_nil (r : Except Nat (List (UInt8 × UInt8) × List UInt8)) : aheadS [] r = r := by
  cases r with
  | error e => rfl
  | ok p => rfl
theorem aheadS_ok {acc : List (UInt8 × UInt8)} {c : UInt8} {l q : List UInt8} {x : UInt8 × UInt8} (hc : c ≠ 93) (h : pSpan c l = .ok (x, q)) : aheadS acc (pCls (c :: l)) = aheadS (acc ++ [x]) (pCls q) := by
  rw [pCls_ok hc h]
  cases pCls q with
  | error e => rfl
  | ok y => simp [aheadS]
theorem pClsF_suffix : ∀ (f : Nat) (l : List UInt8) (xs : List (UInt8 × UInt8)) (q : List UInt8), pClsF f l = .ok (xs, q) → q <:+ l ∧ q.length < l.length
  | 0, _, _, _, h => by simp [pClsF] at h
  | _ + 1, [], _, _, h => by simp [pClsF] at h
  | f + 1, c :: l, xs, q, h => by
    rw [pClsF] at h
    split at h
    · simp at h
      obtain ⟨_, rfl⟩ := h
      exact ⟨List.suffix_cons _ _, by simp⟩
    · split at h
      · simp at h
      · rename_i x q1 h1
        split at h
        · simp at h
        · rename_i ys q2 h2
          simp at h
          obtain ⟨_, rfl⟩ := h
          obtain ⟨a, b⟩ := pClsF_suffix f q1 _ _ h2
          obtain ⟨c1, d⟩ := pSpan_len h1
          exact ⟨(a.trans d).trans (List.suffix_cons _ _), by simp; omega⟩
def pBracket (l : List UInt8) : Except Nat (Part × List UInt8) :=
  match pCls (if l.head? = some 94 then l.tail else l) with
  | .error e => .error e
  | .ok ([], _) => .error 1
  | .ok (x :: xs, q) => .ok (.cls (l.head? == some 94) (x :: xs), q)
def pEsc : List UInt8 → Except Nat (Part × List UInt8)
  | [] => .error 8
  | d :: r => .ok (.lit d, r)
def pPart : List UInt8 → Except Nat (Part × List UInt8)
  | [] => .error 8
  | c :: l => if c = 42 then .ok (.star, l) else if c = 63 then .ok (.any, l) else if c = 91 then pBracket l else if c = 92 then pEsc l else .ok (.lit c, l)
theorem pPart_suffix {l q : List UInt8} {p : Part} (h : pPart l = .ok (p, q)) : q <:+ l ∧ q.length < l.length := by
  cases l with
  | nil => simp [pPart] at h
  | cons c l =>
    rw [pPart] at h
    split at h
    · simp at h; obtain ⟨_, rfl⟩ := h; exact ⟨List.suffix_cons _ _, by simp⟩
    · split at h
      · simp at h; obtain ⟨_, rfl⟩ := h; exact ⟨List.suffix_cons _ _, by simp⟩
      · split at h
        · unfold pBracket at h
          split at h
          · simp at h
          · simp at h
          · rename_i x xs q1 h1
            simp at h
            obtain ⟨_, rfl⟩ := h
            obtain ⟨a, b⟩ := pClsF_suffix _ _ _ _ h1
            have h2 : (if l.head? = some 94 then l.tail else l) <:+ l := by
              split
              · exact List.tail_suffix l
              · exact List.suffix_refl l
            have h3 := h2.length_le
            exact ⟨(a.trans h2).trans (List.suffix_cons _ _), by simp only [List.length_cons]; omega⟩
        · split at h
          · cases l with
            | nil => simp [pEsc] at h
            | cons d r =>
              simp [pEsc] at h
              obtain ⟨_, rfl⟩ := h
              exact ⟨⟨[c, d], rfl⟩, by simp; omega⟩
          · simp at h; obtain ⟨_, rfl⟩ := h; exact ⟨List.suffix_cons _ _, by simp⟩
def pPartsF : Nat → List UInt8 → Except Nat (List Part)
  | _, [] => .ok []
  | 0, _ :: _ => .error 8
  | f + 1, c :: l => match pPart (c :: l) with
    | .error e => .error e
    | .ok (p, q) => match pPartsF f q with
      | .error e => .error e
      | .ok ps => .ok (p :: ps)
theorem pPartsF_more : ∀ (f g : Nat) (l : List UInt8), l.length ≤ f → l.length ≤ g → pPartsF f l = pPartsF g l
  | 0, 0, _, _, _ => rfl
  | f, g, [], _, _ => by rw [pPartsF, pPartsF]
  | 0, g + 1, c :: l, h, _ => by simp at h
  | f + 1, 0, c :: l, _, h => by simp at h
  | f + 1, g + 1, c :: l, hf, hg => by
    simp only [List.length_cons] at hf hg
    rw [pPartsF, pPartsF]
    cases h : pPart (c :: l) with
    | error e => rfl
    | ok y =>
      obtain ⟨p, q⟩ := y
      have := (pPart_suffix h).2
      simp only [List.length_cons] at this
      simp only
      rw [pPartsF_more f g q (by omega) (by omega)]
def pParts (l : List UInt8) : Except Nat (List Part) := pPartsF l.length l
theorem pParts_nil : pParts [] = .ok [] := rfl
theorem pParts_err {c : UInt8} {l : List UInt8} {e : Nat} (h : pPart (c :: l) = .error e) : pParts (c :: l) = .error e := by
  rw [pParts, List.length_cons, pPartsF, h]
theorem pParts_ok {c : UInt8} {l q : List UInt8} {p : Part} (h : pPart (c :: l) = .ok (p, q)) :
    pParts (c :: l) = match pParts q with | .error e => .error e | .ok ps => .ok (p :: ps) := by
  have := (pPart_suffix h).2
  simp only [List.length_cons] at this
  rw [pParts, List.length_cons, pPartsF, h]
  simp only
  rw [pParts, pPartsF_more l.length q.length q (by omega) (Nat.le_refl _)]
def aheadP (p : List Part) : Except Nat (List Part) → Except Nat (List Part)
  | .error e => .error e
  | .ok x => .ok (p ++ x)
theorem aheadP_nil (r : Except Nat (List Part)) : aheadP [] r = r := by
  cases r with
  | error e => rfl
  | ok p => rfl
theorem aheadP_ok {acc : List Part} {c : UInt8} {l q : List UInt8} {p : Part} (h : pPart (c :: l) = .ok (p, q)) : aheadP acc (pParts (c :: l)) = aheadP (acc ++ [p]) (pParts q) := by
  rw [pParts_ok h]
  cases pParts q with
  | error e => rfl
  | ok y => simp [aheadP]
theorem aheadP_err {acc : List Part} {c : UInt8} {l : List UInt8} {e : Nat} (h : pPart (c :: l) = .error e) : aheadP acc (pParts (c :: l)) = .error e := by
  rw [pParts_err h]
  rfl

/-! what a pattern matches -/
def starMat (f : List UInt8 → Bool) : List UInt8 → Bool
  | [] => f []
  | c :: t => f (c :: t) || starMat f t
def oneMat (p : Part) (f : List UInt8 → Bool) : List UInt8 → Bool
  | [] => false
  | c :: t => p.may c && f t
def mat : List Part → List UInt8 → Bool
  | [], s => s.isEmpty
  | p :: ps, s => if p.many then starMat (mat ps) s else oneMat p (mat ps) s
theorem mat_nil : ∀ ps : List Part, mat ps [] = ps.all Part.many
  | [] => rfl
  | p :: ps => by
    rw [mat, List.all_cons]
    split
    · rename_i h; rw [starMat, mat_nil ps, h]; rfl
    · rename_i h; simp only [Bool.not_eq_true] at h; rw [h]; rfl
theorem starMat_drop (f : List UInt8 → Bool) (s : List UInt8) (i : Nat) (h : i < s.length) : starMat f (s.drop i) = (f (s.drop i) || starMat f (s.drop (i + 1))) := by
  rw [List.drop_eq_getElem_cons h, starMat]
theorem starMat_iff (f : List UInt8 → Bool) : ∀ (s : List UInt8), starMat f s = true ↔ ∃ j, j ≤ s.length ∧ f (s.drop j) = true
  | [] => by
    rw [starMat]
    constructor
    · intro h; exact ⟨0, Nat.le_refl _, h⟩
    · rintro ⟨j, hj, h⟩; simpa using h
  | c :: t => by
    rw [starMat, Bool.or_eq_true, starMat_iff f t]
    constructor
    · rintro (h | ⟨j, hj, h⟩)
      · exact ⟨0, Nat.zero_le _, h⟩
      · exact ⟨j + 1, by simp; omega, by simpa using h⟩
    · rintro ⟨j, hj, h⟩
      cases j with
      | zero => exact .inl (by simpa using h)
      | succ j => exact .inr ⟨j, by simp at hj; omega, by simpa using h⟩
/-- parts that are one byte each -/
theorem mat_lens : ∀ (A R : List Part) (s : List UInt8), (∀ p ∈ A, p.many = false) → mat (A ++ R) s = true → A.length ≤ s.length ∧ mat R (s.drop A.length) = true
  | [], R, s, _, h => ⟨Nat.zero_le _, by simpa using h⟩
  | p :: A, R, s, hA, h => by
    rw [List.cons_append, mat, if_neg (by rw [hA p (by simp)]; decide)] at h
    cases s with
    | nil => simp [oneMat] at h
    | cons c t =>
      simp only [oneMat, Bool.and_eq_true] at h
      obtain ⟨h1, h2⟩ := mat_lens A R t (fun x hx => hA x (by simp [hx])) h.2
      exact ⟨by simp; omega, by simpa using h2⟩
/-! the walk that goes back to the last star alone -/
/-- where the walk stands: at parts[at], at byte i; star, from: the last star, and from which byte on what is behind it is tried -/
structure Stand (P : List Part) (s : List UInt8) (at_ : Nat) (star : Option Nat) (from_ i : Nat) : Prop where
  atLe : at_ ≤ P.length
  iLe : i ≤ s.length
  none : star = none → mat P s = mat (P.drop at_) (s.drop i)
  some : ∀ k, star = some k → k < at_ ∧ from_ ≤ i ∧ i - from_ = at_ - (k + 1) ∧ (∀ p ∈ (P.drop (k + 1)).take (at_ - (k + 1)), p.many = false) ∧
    mat P s = starMat (mat (P.drop (k + 1))) (s.drop from_) ∧ mat (P.drop (k + 1)) (s.drop from_) = mat (P.drop at_) (s.drop i)
theorem drop_take_drop (P : List Part) (a b : Nat) (h : a ≤ b) : P.drop a = (P.drop a).take (b - a) ++ P.drop b := by
  have := List.take_append_drop (b - a) (P.drop a)
  rw [List.drop_drop, show a + (b - a) = b by omega] at this
  exact this.symm
theorem stand_begin (P : List Part) (s : List UInt8) : Stand P s 0 .none 0 0 := ⟨Nat.zero_le _, Nat.zero_le _, fun _ => by simp, fun k h => by cases h⟩
theorem drop_cons {α : Type} (P : List α) (a : Nat) (h : a < P.length) : P.drop a = P[a] :: P.drop (a + 1) := List.drop_eq_getElem_cons h
theorem mat_star {P : List Part} {a : Nat} (h : a < P.length) (hm : P[a].many = true) (s : List UInt8) : mat (P.drop a) s = starMat (mat (P.drop (a + 1))) s := by
  rw [drop_cons P a h, mat, if_pos hm]
theorem mat_one {P : List Part} {a i : Nat} {s : List UInt8} (h : a < P.length) (hm : P[a].many = false) (hi : i < s.length) : mat (P.drop a) (s.drop i) = (P[a].may s[i] && mat (P.drop (a + 1)) (s.drop (i + 1))) := by
  rw [drop_cons P a h, drop_cons s i hi, mat, if_neg (by rw [hm]; decide), oneMat]
/-- a star is met -/
theorem stand_star {P : List Part} {s : List UInt8} {at_ from_ i : Nat} {star : Option Nat} (h : Stand P s at_ star from_ i) (ha : at_ < P.length) (hm : P[at_].many = true) : Stand P s (at_ + 1) (.some at_) i i := by
  have hi := h.iLe
  refine ⟨by omega, hi, fun e => (by cases e), fun k e => ?_⟩
  simp at e
  subst e
  refine ⟨by omega, Nat.le_refl _, by omega, fun p hp => by rw [show at_ + 1 - (at_ + 1) = 0 by omega] at hp; simp at hp, ?_, rfl⟩
  cases hst : star with
  | none => rw [h.none hst, mat_star ha hm]
  | some k =>
    obtain ⟨k1, k2, k3, k4, k5, k6⟩ := h.some k hst
    rw [k5, Bool.eq_iff_iff, starMat_iff, starMat_iff]
    have hsplit := drop_take_drop P (k + 1) at_ (by omega)
    have hlen : ((P.drop (k + 1)).take (at_ - (k + 1))).length = at_ - (k + 1) := by rw [List.length_take, List.length_drop]; omega
    constructor
    · rintro ⟨j, hj, hf⟩
      rw [hsplit] at hf
      obtain ⟨l1, l2⟩ := mat_lens _ _ _ k4 hf
      rw [hlen, List.drop_drop, List.drop_drop, mat_star ha hm, starMat_iff] at l2
      obtain ⟨j2, hj2, hf2⟩ := l2
      rw [List.drop_drop] at hf2
      rw [hlen, List.length_drop, List.length_drop] at l1
      rw [List.length_drop] at hj2 hj
      refine ⟨(from_ + j + (at_ - (k + 1)) + j2) - i, by rw [List.length_drop]; omega, ?_⟩
      rw [List.drop_drop, show i + (from_ + j + (at_ - (k + 1)) + j2 - i) = from_ + (j + (at_ - (k + 1))) + j2 by omega]
      exact hf2
    · rintro ⟨j, hj, hf⟩
      refine ⟨0, Nat.zero_le _, ?_⟩
      rw [List.drop_zero, k6, mat_star ha hm, starMat_iff]
      exact ⟨j, hj, hf⟩
/-- a byte that may be -/
theorem stand_step {P : List Part} {s : List UInt8} {at_ from_ i : Nat} {star : Option Nat} (h : Stand P s at_ star from_ i) (ha : at_ < P.length) (hm : P[at_].many = false) (hi : i < s.length) (hy : P[at_].may s[i] = true) : Stand P s (at_ + 1) star from_ (i + 1) := by
  have hone := mat_one ha hm hi
  rw [hy, Bool.true_and] at hone
  refine ⟨by omega, by omega, fun e => by rw [h.none e, hone], fun k e => ?_⟩
  obtain ⟨k1, k2, k3, k4, k5, k6⟩ := h.some k e
  refine ⟨by omega, by omega, by omega, ?_, k5, by rw [k6, hone]⟩
  rw [show at_ + 1 - (k + 1) = (at_ - (k + 1)) + 1 by omega, List.take_succ_eq_append_getElem (by rw [List.length_drop]; omega)]
  intro p hp
  rw [List.mem_append] at hp
  rcases hp with hp | hp
  · exact k4 p hp
  · simp only [List.mem_singleton] at hp
    subst hp
    rw [List.getElem_drop]
    have : k + 1 + (at_ - (k + 1)) = at_ := by omega
    simp only [this]
    exact hm
/-- what does not fit: the star takes one byte more -/
theorem stand_back {P : List Part} {s : List UInt8} {at_ from_ i k : Nat} (h : Stand P s at_ (.some k) from_ i) (hi : i < s.length) (hno : mat (P.drop at_) (s.drop i) = false) : Stand P s (k + 1) (.some k) (from_ + 1) (from_ + 1) := by
  have ha := h.atLe
  obtain ⟨k1, k2, k3, k4, k5, k6⟩ := h.some k rfl
  refine ⟨by omega, by omega, fun e => (by cases e), fun k' e => ?_⟩
  simp at e
  subst e
  refine ⟨by omega, Nat.le_refl _, by omega, fun p hp => by rw [show k + 1 - (k + 1) = 0 by omega] at hp; simp at hp, ?_, rfl⟩
  rw [k5, starMat_drop _ _ _ (by omega), k6, hno, Bool.false_or]
theorem stand_miss {P : List Part} {s : List UInt8} {at_ i : Nat} (ha : at_ ≤ P.length) (hi : i < s.length) (h : at_ < P.length → ∃ hh : at_ < P.length, P[at_].many = false ∧ P[at_].may s[i] = false) : mat (P.drop at_) (s.drop i) = false := by
  by_cases hlt : at_ < P.length
  · obtain ⟨hh, h1, h2⟩ := h hlt
    rw [mat_one hlt h1 hi, h2, Bool.false_and]
  · rw [List.drop_eq_nil_of_le (by omega), mat, drop_cons s i hi]
    rfl
theorem stand_none {P : List Part} {s : List UInt8} {at_ from_ i : Nat} (h : Stand P s at_ .none from_ i) (hno : mat (P.drop at_) (s.drop i) = false) : mat P s = false := by rw [h.none rfl, hno]
/-- the text is at its end -/
theorem stand_end {P : List Part} {s : List UInt8} {at_ from_ i : Nat} {star : Option Nat} (h : Stand P s at_ star from_ i) (hi : i = s.length) : mat P s = (P.drop at_).all Part.many := by
  have ha := h.atLe
  subst hi
  rw [← mat_nil]
  have hd : s.drop s.length = [] := List.drop_length
  cases hst : star with
  | none => rw [h.none hst, hd]
  | some k =>
    obtain ⟨k1, k2, k3, k4, k5, k6⟩ := h.some k hst
    rw [hd] at k6
    rw [k5, ← k6, Bool.eq_iff_iff, starMat_iff]
    constructor
    · rintro ⟨j, hj, hf⟩
      have hsplit := drop_take_drop P (k + 1) at_ (by omega)
      have hlen : ((P.drop (k + 1)).take (at_ - (k + 1))).length = at_ - (k + 1) := by rw [List.length_take, List.length_drop]; omega
      have hf0 := hf
      rw [hsplit] at hf
      obtain ⟨l1, _⟩ := mat_lens _ _ _ k4 hf
      rw [hlen, List.length_drop, List.length_drop] at l1
      rw [List.length_drop] at hj
      have : j = 0 := by omega
      subst this
      simpa using hf0
    · intro hf
      exact ⟨0, Nat.zero_le _, by simpa using hf⟩
end Go.Proofs.YtcidoodaiimhfaaGreat

/- WALKS of the function literals of patterns, and of the looks over spans. -/
namespace Go.Proofs.YtcidoodaiimhfaaGreat
open Go.RowKit

theorem fnAny_any (c : Int) (w : World) : Calls Tryz.prog 229 #[.int .u8 c] w fun e w' => e = .returned (.bool true) ∧ w' = w := by
  go_enter Tryz.func229, Tryz.ntmps229
  go_wp2
  go_ret
  exact ⟨rfl, rfl⟩
theorem u8_beq (c d : UInt8) : (((c.toNat : Nat) : Int) == ((d.toNat : Nat) : Int)) = (c == d) := by
  rw [Bool.eq_iff_iff, beq_iff_eq, beq_iff_eq]
  constructor
  · intro h; exact UInt8.toNat_inj.mp (by omega)
  · rintro rfl; rfl
theorem fnLit_any (b : Nat) (c d : UInt8) (w : World) (h : w.cell? ⟨b, 0, none⟩ = some (.int .u8 d.toNat)) :
    Calls Tryz.prog 231 #[.int .u8 c.toNat, .pointer (some ⟨b, 0, none⟩)] w fun e w' => e = .returned (.bool (c == d)) ∧ w' = w := by
  rw [← u8_beq]
  go_enter Tryz.func231, Tryz.ntmps231
  go_wp2
  go_ret
  exact ⟨rfl, rfl⟩
theorem fnGeq_any (b : Nat) (c d : UInt8) (w : World) (h : w.cell? ⟨b, 0, none⟩ = some (.int .u8 d.toNat)) :
    Calls Tryz.prog 270 #[.int .u8 c.toNat, .pointer (some ⟨b, 0, none⟩)] w fun e w' => e = .returned (.bool (decide (d.toNat ≤ c.toNat))) ∧ w' = w := by
  have e1 : decide (((d.toNat : Nat) : Int) ≤ ((c.toNat : Nat) : Int)) = decide (d.toNat ≤ c.toNat) := by simp
  go_enter Tryz.func270, Tryz.ntmps270
  go_wp2
  go_ret
  exact ⟨by simp, rfl⟩
theorem fnIn_any (b : Nat) (c : UInt8) (x : UInt8 × UInt8) (w : World) (h : w.cell? ⟨b, 0, none⟩ = some (.int .u8 c.toNat)) :
    Calls Tryz.prog 249 #[.agg #[.int .u8 x.1.toNat, .int .u8 x.2.toNat], .pointer (some ⟨b, 0, none⟩)] w fun e w' => e = .returned (.bool (inSpan c x)) ∧ Below w.heap.size w w' := by
  obtain ⟨x1, x2⟩ := x
  have hk : ∀ o, (w.alloc o).cell? ⟨b, 0, none⟩ = some (.int .u8 c.toNat) := fun o => ((Kept.refl (fun _ => False) w).alloc o).cell' h (fun e => e)
  by_cases h1 : x1.toNat ≤ c.toNat
  · by_cases h2 : c.toNat ≤ x2.toNat
    · have hv : inSpan c (x1, x2) = true := by simp [inSpan, h1, h2]
      rw [hv]
      go_enter Tryz.func249, Tryz.ntmps249
      go_wp2
      go_ret
      exact ⟨rfl, (Below.refl _ _).alloc (Nat.le_refl _) _⟩
    · have hv : inSpan c (x1, x2) = false := by simp [inSpan, h2]
      rw [hv]
      go_enter Tryz.func249, Tryz.ntmps249
      go_wp2
      go_ret
      exact ⟨rfl, (Below.refl _ _).alloc (Nat.le_refl _) _⟩
  · have hv : inSpan c (x1, x2) = false := by simp [inSpan, h1]
    rw [hv]
    go_enter Tryz.func249, Tryz.ntmps249
    go_wp2
    go_ret
    exact ⟨rfl, (Below.refl _ _).alloc (Nat.le_refl _) _⟩

def spanRow (sp : List (UInt8 × UInt8)) : List Value := (sp.map fun x => [Value.int .u8 x.1.toNat, .int .u8 x.2.toNat]).flatten
theorem spanRow_snoc (sp : List (UInt8 × UInt8)) (x : UInt8 × UInt8) : spanRow (sp ++ [x]) = spanRow sp ++ [.int .u8 x.1.toNat, .int .u8 x.2.toNat] := by simp [spanRow]
theorem spanRow_get : ∀ (l : List (UInt8 × UInt8)) (i : Nat) (h : i < l.length), (spanRow l)[i * 2]? = some (.int .u8 l[i].1.toNat) ∧ (spanRow l)[i * 2 + 1]? = some (.int .u8 l[i].2.toNat)
  | [], i, h => by simp at h
  | s :: l, 0, h => by simp [spanRow]
  | s :: l, i + 1, h => by
    have := spanRow_get l i (by simpa using h)
    simp only [spanRow, List.map_cons, List.flatten_cons] at this ⊢
    rw [List.getElem?_append_right (by simp; omega), List.getElem?_append_right (by simp; omega)]
    rw [show (i + 1) * 2 - [Value.int .u8 s.1.toNat, .int .u8 s.2.toNat].length = i * 2 by simp; omega, show (i + 1) * 2 + 1 - [Value.int .u8 s.1.toNat, .int .u8 s.2.toNat].length = i * 2 + 1 by simp; omega]
    simpa using this
/-- spans that lie in memory -/
def SpansAt (w : World) (a : Option Addr) (sp : List (UInt8 × UInt8)) : Prop :=
  sp = [] ∨ ∃ g, a = some ⟨g, 0, none⟩ ∧ ∀ i (h : i < sp.length), w.cell? ⟨g, i * 2, none⟩ = some (.int .u8 sp[i].1.toNat) ∧ w.cell? ⟨g, i * 2 + 1, none⟩ = some (.int .u8 sp[i].2.toNat)

set_option maxRecDepth 100000 in
set_option maxHeartbeats 1000000 in
theorem idxSpan_any (b : Nat) (c : UInt8) (a : Option Addr) (cap : Nat) (sp : List (UInt8 × UInt8)) (w : World) (h : w.cell? ⟨b, 0, none⟩ = some (.int .u8 c.toNat)) (hs : SpansAt w a sp) (hn : sp.length ≤ 1000000) :
    Calls Tryz.prog 271 #[.slice a sp.length cap, .func (.func 249) #[] #[.pointer (some ⟨b, 0, none⟩)]] w fun e w' => (∃ n : Int, e = .returned (.int .i64 n) ∧ (decide (0 ≤ n) = sp.any (inSpan c))) ∧ Below w.heap.size w w' := by
  have hbl : b < w.heap.size := World.block_lt_of_cell? _ _ h
  have HH := hide h
  have HS := hide hs
  clear h hs
  go_enter Tryz.func271, Tryz.ntmps271
  go_wp2_with fail
  go_loopw [8] (fun i wr => ∃ k : Nat, k ≤ sp.length ∧ i = .int .i64 k ∧ Below w.heap.size w wr ∧ Hid ((sp.take k).any (inSpan c) = false)) (fun i _ => sp.length - (intOf i).toNat)
  case atStart => exact ⟨0, Nat.zero_le _, rfl, Below.refl _ _, by simp [Hid]⟩
  case round =>
    obtain ⟨k, hk, rfl, hb, HA⟩ := hrel
    by_cases hlt : k < sp.length
    · obtain ⟨g, rfl, hcs⟩ : ∃ g, a = some ⟨g, 0, none⟩ ∧ ∀ i (h : i < sp.length), w.cell? ⟨g, i * 2, none⟩ = some (.int .u8 sp[i].1.toNat) ∧ w.cell? ⟨g, i * 2 + 1, none⟩ = some (.int .u8 sp[i].2.toNat) := by
        rcases HS.out with h | h
        · subst h; simp at hlt
        · exact h
      obtain ⟨e0, e1⟩ := hcs k hlt
      have hgl : g < w.heap.size := World.block_lt_of_cell? _ _ e0
      have d0 := (hb.cell (p := ⟨g, k * 2, none⟩) hgl).trans e0
      have d1 := (hb.cell (p := ⟨g, k * 2 + 1, none⟩) hgl).trans e1
      have HC := hide ((hb.cell (p := ⟨b, 0, none⟩) hbl).trans HH.out)
      have HT : Hid ((sp.take (k + 1)).any (inSpan c) = ((sp.take k).any (inSpan c) || inSpan c sp[k])) := by
        rw [Hid, List.take_succ_eq_append_getElem hlt, List.any_append]
        simp
      have HF : Hid (inSpan c sp[k] = true → sp.any (inSpan c) = true) := fun hx => List.any_eq_true.mpr ⟨sp[k], List.getElem_mem hlt, hx⟩
      clear hcs e0 e1 HS
      go_wp2_with fail
      refine (fnIn_any b c sp[k] wr HC.out).mono ?_
      rintro e w1 ⟨rfl, hb1⟩
      have hb2 : Below w.heap.size w w1 := hb.trans (hb1.mono hb.size)
      cases hx : inSpan c sp[k] with
      | true =>
        have HY := hide (HF.out hx)
        clear HF HT hx
        go_wp2_with fail
        go_ret
        exact ⟨⟨_, rfl, by rw [HY.out]; simp⟩, hb2⟩
      | false =>
        have HY : Hid ((sp.take (k + 1)).any (inSpan c) = false) := by rw [Hid, HT.out, HA.out, hx]; rfl
        clear HF HT hx
        go_wp2_with fail
        go_roundw
        case rel => exact ⟨k + 1, by omega, by go_num, hb2, HY⟩
        case measure => simp [intOf]; omega
    · have hkk : k = sp.length := by omega
      subst hkk
      have HY : Hid (sp.any (inSpan c) = false) := by have := HA.out; rw [List.take_length] at this; exact this
      go_wp2_with fail
      go_ret
      exact ⟨⟨-1, rfl, by rw [HY.out]; rfl⟩, hb⟩
theorem containsSpan_any (b : Nat) (c : UInt8) (a : Option Addr) (cap : Nat) (sp : List (UInt8 × UInt8)) (w : World) (h : w.cell? ⟨b, 0, none⟩ = some (.int .u8 c.toNat)) (hs : SpansAt w a sp) (hn : sp.length ≤ 1000000) :
    Calls Tryz.prog 248 #[.slice a sp.length cap, .func (.func 249) #[] #[.pointer (some ⟨b, 0, none⟩)]] w fun e w' => e = .returned (.bool (sp.any (inSpan c))) ∧ Below w.heap.size w w' := by
  have HI := hide (idxSpan_any b c a cap sp w h hs hn)
  clear h hs
  go_enter Tryz.func248, Tryz.ntmps248
  go_wp2_with fail
  refine HI.out.mono ?_
  rintro e w1 ⟨⟨n, rfl, hd⟩, hb⟩
  have HD := hide hd
  clear hd
  go_wp2_with fail
  go_ret
  exact ⟨by rw [← HD.out]; rfl, hb⟩
end Go.Proofs.YtcidoodaiimhfaaGreat

/- WALKS of a bracket's function literal, and of what is left. -/
namespace Go.Proofs.YtcidoodaiimhfaaGreat
open Go.RowKit

theorem SpansAt.below {w w' : World} {a : Option Addr} {sp : List (UInt8 × UInt8)} (h : SpansAt w a sp) (hb : Below w.heap.size w w') : SpansAt w' a sp := by
  rcases h with h | ⟨g, ha, hc⟩
  · exact .inl h
  · refine .inr ⟨g, ha, fun i hi => ?_⟩
    obtain ⟨c0, c1⟩ := hc i hi
    exact ⟨(hb.cell (p := ⟨g, i * 2, none⟩) (World.block_lt_of_cell? _ _ c0)).trans c0, (hb.cell (p := ⟨g, i * 2 + 1, none⟩) (World.block_lt_of_cell? _ _ c1)).trans c1⟩
theorem spansAt_of_row {w : World} {base : Nat} {a : Option Addr} {cap T : Nat} {sp : List (UInt8 × UInt8)} (h : w.ownsRow base T 2 (.slice a sp.length cap) sp.length (spanRow sp)) : SpansAt w a sp := by
  rcases h.2 with ⟨hv, hz⟩ | ⟨g, cap', cur, hv, _⟩
  · exact .inl (List.length_eq_zero_iff.1 hz)
  · simp at hv
    obtain ⟨rfl, rfl⟩ := hv
    have hl : (spanRow sp).length = sp.length * 2 := h.1
    refine .inr ⟨g, rfl, fun i hi => ?_⟩
    obtain ⟨g0, g1⟩ := spanRow_get sp i hi
    exact ⟨(h.cellAt (i * 2) (by omega)).trans g0, (h.cellAt (i * 2 + 1) (by omega)).trans g1⟩

set_option maxRecDepth 100000 in
set_option maxHeartbeats 1000000 in
theorem fnCls_any (b1 b2 : Nat) (c : UInt8) (neg : Bool) (a : Option Addr) (cap : Nat) (sp : List (UInt8 × UInt8)) (w : World) (h1 : w.cell? ⟨b1, 0, none⟩ = some (.bool neg)) (h2 : w.cell? ⟨b2, 0, none⟩ = some (.slice a sp.length cap)) (hs : SpansAt w a sp) (hn : sp.length ≤ 1000000) :
    Calls Tryz.prog 247 #[.int .u8 c.toNat, .pointer (some ⟨b1, 0, none⟩), .pointer (some ⟨b2, 0, none⟩)] w fun e w' => e = .returned (.bool (neg != sp.any (inSpan c))) ∧ Below w.heap.size w w' := by
  have hmf : ∀ (fn : Fn) (first cap : Array Value) (w : World), (Instr.makeFunc fn first cap).run Tryz.prog w = .ok (.func fn first cap) w := fun _ _ _ _ => rfl
  have hk : ∀ o, Kept (fun _ => False) w (w.alloc o) := fun o => (Kept.refl _ w).alloc o
  have k1 := fun o => (hk o).cell' h1 (fun e => e)
  have k2 := fun o => (hk o).cell' h2 (fun e => e)
  have l1 : b1 < w.heap.size := World.block_lt_of_cell? _ _ h1
  have HC : Hid (Calls Tryz.prog 248 #[.slice a sp.length cap, .func (.func 249) #[] #[.pointer (some ⟨w.heap.size, 0, none⟩)]] ((w.alloc (.cells #[.int .u8 c.toNat] 5)).drewN 1) fun e w' => e = .returned (.bool (sp.any (inSpan c))) ∧ Below (w.alloc (.cells #[.int .u8 c.toNat] 5)).heap.size ((w.alloc (.cells #[.int .u8 c.toNat] 5)).drewN 1) w') :=
    containsSpan_any w.heap.size c a cap sp _ (by simp [go_sem]) ((hs.below ((Below.refl _ w).alloc (Nat.le_refl _) _)).below ⟨rfl, rfl, rfl, Nat.le_refl _, fun _ _ => rfl⟩) hn
  generalize sp.any (inSpan c) = R at *
  generalize sp.length = len at *
  clear hs hn h1 h2 hk
  go_enter Tryz.func247, Tryz.ntmps247
  go_wp2_with fail
  go_region_law (go_simp; refine HC.out.mono ?_; rintro e w1 ⟨rfl, hb1⟩; have hc1 : w1.cell? ⟨b1, 0, none⟩ = some (.bool neg) := (hb1.cell (p := ⟨b1, 0, none⟩) (by simp; omega)).trans (k1 _))
  all_goals go_wp2
  all_goals go_ret
  all_goals exact ⟨rfl, (((Below.refl _ w).alloc (Nat.le_refl _) _).drew).trans (hb1.mono (by simp))⟩

set_option maxRecDepth 100000 in
set_option maxHeartbeats 1000000 in
theorem left_any (b : Nat) (s : ByteArray) (l : List UInt8) (w : World) (h : AtL b s l w) :
    Calls Tryz.prog 175 #[.pointer (some ⟨b, 0, none⟩)] w fun e w' => e = .returned (.string ⟨l.toArray⟩) ∧ ∃ n, w' = w.drewN n := by
  have hl := h.len
  obtain ⟨h0, h1, h2, h3, h4⟩ := h.1
  have hsl : ∀ W : World, (Instr.slice 9 (.string s) (some (.int .i64 ((s.size - l.length : Nat) : Int))) none none).run Tryz.prog W = .ok (.string ⟨l.toArray⟩) W := fun W => by
    rw [run_slice_string_from_if (P := Tryz.prog) W 9 s .i64 _ Tryz.underlying9, if_pos (by omega), Int.toNat_natCast, extract_suffix_all h.2]
  clear h
  generalize s.size - l.length = p at *
  generalize (⟨l.toArray⟩ : ByteArray) = L at *
  go_enter Tryz.func175, Tryz.ntmps175
  go_wp2_with fail
  go_quiet (fail)
  go_wp2_with fail
  go_ret
  exact ⟨rfl, _, rfl⟩
end Go.Proofs.YtcidoodaiimhfaaGreat

/- WALKS of Want and of a span. -/
namespace Go.Proofs.YtcidoodaiimhfaaGreat
open Go.RowKit

theorem wantGeq_ok (b pc : Nat) (s : ByteArray) (c d : UInt8) (r : List UInt8) (w : World) (h : AtL b s (d :: r) w) (hc : w.cell? ⟨pc, 0, none⟩ = some (.int .u8 c.toNat)) (hpb : pc ≠ b) (hle : c.toNat ≤ d.toNat) :
    Calls Tryz.prog 269 #[.pointer (some ⟨b, 0, none⟩), .func (.func 270) #[] #[.pointer (some ⟨pc, 0, none⟩)]] w fun e w' => e = .returned (.int .u8 d.toNat) ∧ AtL b s r w' ∧ Kept (one b) w w' := by
  have HN := hide (next_ok b s d r w h)
  clear h
  go_enter Tryz.func269, Tryz.ntmps269
  go_wp2_with fail
  refine HN.out.mono ?_
  rintro e w1 ⟨rfl, ha1, hk1⟩
  have hc1 := hk1.cell' hc hpb
  have HG : Hid (Calls Tryz.prog 270 #[.int .u8 d.toNat, .pointer (some ⟨pc, 0, none⟩)] w1 fun e w' => e = .returned (.bool true) ∧ w' = w1) := by
    have := fnGeq_any pc d c w1 hc1
    rw [decide_eq_true hle] at this
    exact this
  clear hc hc1 HN
  go_wp2_with fail
  refine HG.out.mono ?_
  rintro e w2 ⟨rfl, rfl⟩
  go_wp2_with fail
  go_ret
  exact ⟨rfl, ha1, hk1⟩
theorem wantGeq_err (b pc : Nat) (s : ByteArray) (c d : UInt8) (r : List UInt8) (w : World) (h : AtL b s (d :: r) w) (hc : w.cell? ⟨pc, 0, none⟩ = some (.int .u8 c.toNat)) (hpb : pc ≠ b) (hle : ¬ c.toNat ≤ d.toNat) :
    Calls Tryz.prog 269 #[.pointer (some ⟨b, 0, none⟩), .func (.func 270) #[] #[.pointer (some ⟨pc, 0, none⟩)]] w fun e w' => e = .panicked [{ v := .iface 194 (.agg #[.int .i64 (1)]), recovered := false }] ∧ Kept (one b) w w' := by
  have HN := hide (next_ok b s d r w h)
  clear h
  go_enter Tryz.func269, Tryz.ntmps269
  go_wp2_with fail
  refine HN.out.mono ?_
  rintro e w1 ⟨rfl, ha1, hk1⟩
  have hc1 := hk1.cell' hc hpb
  have HG : Hid (Calls Tryz.prog 270 #[.int .u8 d.toNat, .pointer (some ⟨pc, 0, none⟩)] w1 fun e w' => e = .returned (.bool false) ∧ w' = w1) := by
    have := fnGeq_any pc d c w1 hc1
    rw [decide_eq_false hle] at this
    exact this
  clear hc hc1 HN
  go_wp2_with fail
  refine HG.out.mono ?_
  rintro e w2 ⟨rfl, rfl⟩
  go_wp2_with (go_at_call 183; refine (giveUp_any _ _).mono ?_; rintro e w' ⟨rfl, rfl⟩)
  exact ⟨rfl, rfl, hk1⟩

theorem setCell_heap1 {w : World} {g : Nat} {cs : Array Value} {T : Nat} {fr : Nat × Nat} (h : w.heap[g]? = some (.cells cs T fr)) (o : Nat) (u : Value) : (w.setCell ⟨g, o, none⟩ u).heap[g]? = some (.cells (cs.setIfInBounds o u) T fr) := by
  simp [World.setCell, Array.getElem?_modify, h]
theorem put2_heap {w : World} {g T : Nat} {x0 x1 : Value} (h : w.heap[g]? = some (.cells #[x0, x1] T (0, 0))) (a b : Value) :
    ((w.setCell ⟨g, 0, none⟩ a).setCell ⟨g, 1, none⟩ b).heap[g]? = some (.cells #[a, b] T (0, 0)) := by
  rw [setCell_heap1 (setCell_heap1 h 0 a) 1 b]
  rfl
theorem put2_kept {S : Nat → Prop} {w0 w : World} {g : Nat} (h : Kept S w0 w) (hg : w0.heap.size ≤ g ∨ S g) (a b : Value) :
    Kept S w0 ((w.setCell ⟨g, 0, none⟩ a).setCell ⟨g, 1, none⟩ b) := by
  have h' : S g ∨ w0.heap.size ≤ g := hg.symm
  exact (h.setCell (p := ⟨g, 0, none⟩) h' a).setCell (p := ⟨g, 1, none⟩) h' b
structure Two (w : World) (g : Nat) (a b : Value) : Prop where
  c0 : w.cell? ⟨g, 0, none⟩ = some a
  c1 : w.cell? ⟨g, 1, none⟩ = some b
  f0 : w.frozen? ⟨g, 0, none⟩ = false
  f1 : w.frozen? ⟨g, 1, none⟩ = false
theorem two_of {w : World} {g T : Nat} {a b : Value} (h : w.heap[g]? = some (.cells #[a, b] T (0, 0))) : Two w g a b :=
  ⟨by simp [World.cell?, h], by simp [World.cell?, h], by simp [World.frozen?, h], by simp [World.frozen?, h]⟩
theorem one_of {w : World} {g T : Nat} {a : Value} (h : w.heap[g]? = some (.cells #[a] T (0, 0))) : w.cell? ⟨g, 0, none⟩ = some a ∧ w.frozen? ⟨g, 0, none⟩ = false :=
  ⟨by simp [World.cell?, h], by simp [World.frozen?, h]⟩
theorem begin2n (w : World) (o o2 : Obj) (n : Nat) (W : World) (hW : W = ((w.alloc o).alloc o2).drewN n) :
    W.heap[w.heap.size]? = some o ∧ W.heap[w.heap.size + 1]? = some o2 ∧ W.heap.size = w.heap.size + 2 ∧ ∀ S, Kept S w W := by
  subst hW
  have e : (w.alloc o).heap.size = w.heap.size + 1 := by simp
  have h2 := heap_alloc_new (w.alloc o) o2
  rw [e] at h2
  exact ⟨(Below.heap_alloc _ _ _ (by simp)).trans (heap_alloc_new w o), h2, show ((w.alloc o).alloc o2).heap.size = _ by simp, fun S => (((Kept.refl S w).alloc o).alloc o2).drewN n⟩

/-- what the walk of a span answers -/
def SpanPost (b : Nat) (s : ByteArray) (c : UInt8) (l : List UInt8) (w : World) (e : Ending) (w' : World) : Prop :=
  Kept (one b) w w' ∧ (∀ x q, pSpan c l = .ok (x, q) → e = .returned (.agg #[.int .u8 x.1.toNat, .int .u8 x.2.toNat]) ∧ AtL b s q w') ∧ (∀ n, pSpan c l = .error n → e = .panicked [{ v := .iface 194 (.agg #[.int .i64 (n)]), recovered := false }])
theorem SpanPost.err {b : Nat} {s : ByteArray} {c : UInt8} {l : List UInt8} {w w' : World} {x : Nat} (hp : pSpan c l = .error x) (hk : Kept (one b) w w') : SpanPost b s c l w (.panicked [{ v := .iface 194 (.agg #[.int .i64 (x)]), recovered := false }]) w' :=
  ⟨hk, fun v q hx => by rw [hp] at hx; simp at hx, fun n hx => by rw [hp] at hx; simp at hx; subst hx; rfl⟩
theorem SpanPost.ok {b : Nat} {s : ByteArray} {c : UInt8} {l q : List UInt8} {w w' : World} {x : UInt8 × UInt8} (hp : pSpan c l = .ok (x, q)) (hk : Kept (one b) w w') (ha : AtL b s q w') : SpanPost b s c l w (.returned (.agg #[.int .u8 x.1.toNat, .int .u8 x.2.toNat])) w' :=
  ⟨hk, fun v q' hx => by rw [hp] at hx; simp at hx; obtain ⟨rfl, rfl⟩ := hx; exact ⟨rfl, ha⟩, fun n hx => by rw [hp] at hx; simp at hx⟩
theorem mk_get0 {x : UInt8} {l : List UInt8} (h : 0 < (⟨(x :: l).toArray⟩ : ByteArray).size) : (⟨(x :: l).toArray⟩ : ByteArray)[0] = x := rfl
theorem mk_get1 {x y : UInt8} {l : List UInt8} (h : 1 < (⟨(x :: y :: l).toArray⟩ : ByteArray).size) : (⟨(x :: y :: l).toArray⟩ : ByteArray)[1] = y := rfl

set_option maxRecDepth 100000 in
set_option maxHeartbeats 1000000 in
/-- a byte of its own -/
theorem span_single (b : Nat) (s : ByteArray) (c : UInt8) (l : List UInt8) (w : World) (h : AtL b s l w) (L : ByteArray) (hL : L = ⟨l.toArray⟩) (hp : pSpan c l = .ok ((c, c), l))
    (hno : L.size < 2 ∨ (∃ hh : 1 < L.size, ¬ L[0].toNat = 45 ∨ L[1].toNat = 93)) :
    Calls Tryz.prog 246 #[.pointer (some ⟨b, 0, none⟩), .int .u8 c.toNat] w (SpanPost b s c l w) := by
  have hbw := h.lt
  have HL : Hid (∀ o o2, Calls Tryz.prog 175 #[.pointer (some ⟨b, 0, none⟩)] ((w.alloc o).alloc o2) fun e w' => e = .returned (.string L) ∧ ∃ n, w' = ((w.alloc o).alloc o2).drewN n) := fun o o2 => by rw [hL]; exact left_any b s l _ ((h.alloc o).alloc o2)
  have HA := hide h
  have HP := hide hp
  clear h hp hL
  go_enter Tryz.func246, Tryz.ntmps246
  go_wp2_with fail
  refine (HL.out _ _).mono ?_
  rintro e W ⟨rfl, n, hW⟩
  obtain ⟨hB0, hB1, hz, hk⟩ := begin2n w _ _ n W hW
  have HB0 := hide hB0
  have HB1 := hide hB1
  obtain ⟨c0, f0⟩ := one_of hB0
  obtain ⟨d0, d1, g0, g1⟩ := two_of hB1
  clear hB0 hB1 hW HL f0
  have fin : ∀ W2, W2 = (W.setCell ⟨w.heap.size + 1, 0, none⟩ (.int .u8 c.toNat)).setCell ⟨w.heap.size + 1, 1, none⟩ (.int .u8 c.toNat) → Two W2 (w.heap.size + 1) (.int .u8 c.toNat) (.int .u8 c.toNat) ∧ SpanPost b s c l w (.returned (.agg #[.int .u8 c.toNat, .int .u8 c.toNat])) W2 := fun W2 h2 => by
    subst h2
    exact ⟨two_of (put2_heap HB1.out _ _), SpanPost.ok HP.out (put2_kept (hk _) (.inl (by omega)) _ _) ((HA.out.kept (hk (fun _ => False)) (fun e => e)).kept (put2_kept (Kept.refl (one (w.heap.size + 1)) W) (.inr rfl) _ _) (fun e => by simp only [one] at e; omega))⟩
  have FIN := hide fin
  clear fin HB0 HB1 HA HP hk
  rcases hno with hno | ⟨hh, hno⟩
  · have hno' : ((L.size : Nat) : Int) < 2 := by omega
    go_wp2_with fail
    clear c0 d0 d1 g0 g1
    generalize hw2 : (W.setCell ⟨w.heap.size + 1, 0, none⟩ (.int .u8 c.toNat)).setCell ⟨w.heap.size + 1, 1, none⟩ (.int .u8 c.toNat) = w2 at *
    obtain ⟨⟨k0, k1, _, _⟩, hf⟩ := FIN.out w2 rfl
    exact bodyPost_ret (v := .agg #[.int .u8 c.toNat, .int .u8 c.toNat]) (by simp [results, Tryz.results246, go_sem, k0, k1]) rfl hf
  · have h2 : ¬ ((L.size : Nat) : Int) < 2 := by omega
    have i0 : 0 < L.size := by omega
    by_cases hx : L[0].toNat = 45
    · have hy : L[1].toNat = 93 := by rcases hno with h | h; exact absurd hx h; exact h
      clear hno
      go_wp2_with fail
      clear c0 d0 d1 g0 g1
      generalize hw2 : (W.setCell ⟨w.heap.size + 1, 0, none⟩ (.int .u8 c.toNat)).setCell ⟨w.heap.size + 1, 1, none⟩ (.int .u8 c.toNat) = w2 at *
      obtain ⟨⟨k0, k1, _, _⟩, hf⟩ := FIN.out w2 rfl
      exact bodyPost_ret (v := .agg #[.int .u8 c.toNat, .int .u8 c.toNat]) (by simp [results, Tryz.results246, go_sem, k0, k1]) rfl hf
    · clear hno
      go_wp2_with fail
      clear c0 d0 d1 g0 g1
      generalize hw2 : (W.setCell ⟨w.heap.size + 1, 0, none⟩ (.int .u8 c.toNat)).setCell ⟨w.heap.size + 1, 1, none⟩ (.int .u8 c.toNat) = w2 at *
      obtain ⟨⟨k0, k1, _, _⟩, hf⟩ := FIN.out w2 rfl
      exact bodyPost_ret (v := .agg #[.int .u8 c.toNat, .int .u8 c.toNat]) (by simp [results, Tryz.results246, go_sem, k0, k1]) rfl hf

theorem must1_ok_at (c : UInt8) (ci : Int) (hci : ci = c.toNat) (b g : Nat) (s : ByteArray) (l r : List UInt8) (w : World) (h : AtL b s l w) (hg : g = w.heap.size) (hp : pMust [c] l = .ok r) :
    Calls Tryz.prog 268 #[.pointer (some ⟨b, 0, none⟩), .slice (some ⟨g, 0, none⟩) 1 1] (w.alloc (.cells #[.int .u8 ci] 5)) fun e w' => e = .returned (.tuple #[]) ∧ AtL b s r w' ∧ Kept (one b) w w' := by
  subst hg
  exact must1_ok c ci hci b s l r w h hp

set_option maxRecDepth 100000 in
set_option maxHeartbeats 2000000 in
/-- a span, or one whose end is less -/
theorem span_range (b : Nat) (s : ByteArray) (c d : UInt8) (r : List UInt8) (w : World) (h : AtL b s (45 :: d :: r) w) (hd : d ≠ 93) :
    Calls Tryz.prog 246 #[.pointer (some ⟨b, 0, none⟩), .int .u8 c.toNat] w (SpanPost b s c (45 :: d :: r) w) := by
  have hmf : ∀ (fn : Fn) (first cap : Array Value) (w : World), (Instr.makeFunc fn first cap).run Tryz.prog w = .ok (.func fn first cap) w := fun _ _ _ _ => rfl
  have hbw := h.lt
  obtain ⟨L, hL⟩ : ∃ L : ByteArray, L = ⟨(45 :: d :: r).toArray⟩ := ⟨_, rfl⟩
  have hLs : L.size = r.length + 2 := by rw [hL, size_mk]; rfl
  have i0 : 0 < L.size := by omega
  have i1 : 1 < L.size := by omega
  have x0 : L[0].toNat = 45 := by subst hL; rfl
  have x1 : ¬ L[1].toNat = 93 := by
    intro e
    apply hd
    have : L[1] = d := by subst hL; rfl
    rw [this] at e
    exact UInt8.toNat_inj.mp (by simpa using e)
  have h2 : ¬ ((L.size : Nat) : Int) < 2 := by omega
  have h2b : decide (((L.size : Nat) : Int) < 2) = false := decide_eq_false h2
  have x1b : (((L[1].toNat : Nat) : Int) == 93) = false := by rw [beq_eq_false_iff_ne]; omega
  have HL : Hid (∀ o o2, Calls Tryz.prog 175 #[.pointer (some ⟨b, 0, none⟩)] ((w.alloc o).alloc o2) fun e w' => e = .returned (.string L) ∧ ∃ n, w' = ((w.alloc o).alloc o2).drewN n) := fun o o2 => by rw [hL]; exact left_any b s _ _ ((h.alloc o).alloc o2)
  have HA := hide h
  clear h hL hLs
  go_enter Tryz.func246, Tryz.ntmps246
  go_wp2_with fail
  refine (HL.out _ _).mono ?_
  rintro e W ⟨rfl, n, hW⟩
  obtain ⟨hB0, hB1, hz, hk⟩ := begin2n w _ _ n W hW
  have HB0 := hide hB0
  have HB1 := hide hB1
  have HK := hide hk
  clear hB0 hB1 hW HL hk
  have haW : AtL b s (45 :: d :: r) W := HA.out.kept (HK.out (fun _ => False)) (fun e => e)
  have HM : Hid (Calls Tryz.prog 268 #[.pointer (some ⟨b, 0, none⟩), .slice (some ⟨W.heap.size, 0, none⟩) 1 1] (W.alloc (.cells #[.int .u8 45] 5)) fun e w' => e = .returned (.tuple #[]) ∧ AtL b s (d :: r) w' ∧ Kept (one b) W w') := must1_ok 45 45 rfl b s _ _ W haW (by simp [pMust])
  have HZ := hide hz
  clear haW HA hz
  go_wp2_with fail
  refine HM.out.mono ?_
  rintro e w1 ⟨rfl, ha1, hk1⟩
  have hz := HZ.out
  have hB0 := (hk1.block w.heap.size (by omega) (fun e => by simp only [one] at e; omega)).trans HB0.out
  have hB1 := (hk1.block (w.heap.size + 1) (by omega) (fun e => by simp only [one] at e; omega)).trans HB1.out
  have hz1 := hk1.size
  have hkw : Kept (one b) w w1 := (HK.out _).trans hk1
  obtain ⟨c0, f0⟩ := one_of hB0
  clear HM HB0 HB1 HK x0 x1b x1 h2b h2 i0 i1 f0 hk1
  by_cases hle : c.toNat ≤ d.toNat
  · have HP : Hid (pSpan c (45 :: d :: r) = .ok ((c, d), r)) := by simp [Hid, pSpan, hd, hle]
    go_wp2_with fail
    go_region_law (go_simp; refine (wantGeq_ok b w.heap.size s c d r _ (ha1.drewN 1) c0 (by omega) hle).mono ?_; rintro e w2 ⟨rfl, ha2, hk2⟩; have k0 : w2.cell? ⟨w.heap.size, 0, none⟩ = some (.int .u8 c.toNat) := hk2.cell' c0 (fun e => by simp only [one] at e; omega); have HB2 := hide ((hk2.block (w.heap.size + 1) (show w.heap.size + 1 < w1.heap.size by omega) (fun e => by simp only [one] at e; omega)).trans hB1); have d0 := (two_of HB2.out).c0; have d1 := (two_of HB2.out).c1; have g0 := (two_of HB2.out).f0; have g1 := (two_of HB2.out).f1)
    all_goals
      go_wp2_with fail
      clear d0 d1 g0 g1 k0
      have hh2 := put2_heap HB2.out (.int .u8 c.toNat) (.int .u8 d.toNat)
      have hkk : Kept (one b) w w2 := hkw.trans (((Kept.refl _ w1).drewN 1).trans hk2)
      have hz2 : w1.heap.size ≤ w2.heap.size := hk2.size
      have hk3 := put2_kept (w0 := w) hkk (.inl (show w.heap.size ≤ w.heap.size + 1 by omega)) (.int .u8 c.toNat) (.int .u8 d.toNat)
      have ha3 := ha2.kept (put2_kept (Kept.refl (one (w.heap.size + 1)) w2) (.inr rfl) (.int .u8 c.toNat) (.int .u8 d.toNat)) (fun e => by simp only [one] at e; omega)
      generalize (w2.setCell ⟨w.heap.size + 1, 0, none⟩ (.int .u8 c.toNat)).setCell ⟨w.heap.size + 1, 1, none⟩ (.int .u8 d.toNat) = w3 at *
      obtain ⟨k0, k1, _, _⟩ := two_of hh2
      exact bodyPost_ret (v := .agg #[.int .u8 c.toNat, .int .u8 d.toNat]) (by simp [results, Tryz.results246, go_sem, k0, k1]) rfl (SpanPost.ok HP.out hk3 ha3)
  · have HP : Hid (pSpan c (45 :: d :: r) = .error 1) := by simp [Hid, pSpan, hd, hle]
    go_wp2_with fail
    refine wp_region_any (by kernel_rfl) ?_
    change wpAny _ _ _ _ _ _ _ (World.drew _)
    refine wpAny_take (i := 1) (v := .pointer (some ⟨b, 0, none⟩)) rfl (by kernel_rfl) (by kernel_rfl) (by kernel_rfl) (fun _ _ _ h => h) (Or.inl ⟨by rfl, by intro w; go_simp⟩) ?_
    refine wpAny_take (i := 2) (v := .func (.func 270) #[] #[.pointer (some ⟨w.heap.size, 0, none⟩)]) rfl (by kernel_rfl) (by kernel_rfl) (by kernel_rfl) (fun _ _ _ h => h) (Or.inl ⟨by rfl, by intro w; go_simp⟩) ?_
    refine wpAny_ready (rs := [0, 3]) (by kernel_rfl) (by simp) ?_
    refine AllReady.cons rfl (fun K hK => ?_) ?_
    · go_simp
      refine hK _ _ ?_
      clear hK K
      refine wpAny_ready (rs := [3]) (by kernel_rfl) (by simp) ?_
      refine AllReady.cons rfl (fun K hK => ?_) AllReady.nil
      go_simp
      refine (wantGeq_err b w.heap.size s c d r _ (ha1.drewN 1) c0 (by omega) hle).mono ?_
      rintro e w2 ⟨rfl, hk2⟩
      exact ⟨rfl, SpanPost.err HP.out (hkw.trans (((Kept.refl _ _).drewN 1).trans hk2))⟩
    · refine AllReady.cons rfl (fun K hK => ?_) AllReady.nil
      go_simp
      refine (wantGeq_err b w.heap.size s c d r _ (ha1.drewN 1) c0 (by omega) hle).mono ?_
      rintro e w2 ⟨rfl, hk2⟩
      exact ⟨rfl, SpanPost.err HP.out (hkw.trans (((Kept.refl _ _).drewN 1).trans hk2))⟩

/-- the walk of a span -/
theorem span_any (b : Nat) (s : ByteArray) (c : UInt8) (l : List UInt8) (w : World) (h : AtL b s l w) :
    Calls Tryz.prog 246 #[.pointer (some ⟨b, 0, none⟩), .int .u8 c.toNat] w (SpanPost b s c l w) := by
  match l, h with
  | [], h => exact span_single b s c [] w h _ rfl rfl (.inl (by rw [size_mk]; simp))
  | [x], h =>
    refine span_single b s c [x] w h _ rfl ?_ (.inl (by rw [size_mk]; simp))
    unfold pSpan
    split
    · rename_i e; simp at e
    · rfl
  | x :: d :: r, h =>
    by_cases hx : x = 45
    · subst hx
      by_cases hd : d = 93
      · subst hd
        exact span_single b s c _ w h _ rfl (by simp [pSpan]) (.inr ⟨by rw [size_mk]; simp, .inr rfl⟩)
      · exact span_range b s c d r w h hd
    · refine span_single b s c _ w h _ rfl ?_ (.inr ⟨by rw [size_mk]; simp, .inl ?_⟩)
      · unfold pSpan
        split
        · rename_i e; simp at e; exact absurd e.1 hx
        · rfl
      · intro e
        exact hx (UInt8.toNat_inj.mp (show x.toNat = (45 : UInt8).toNat from e))
theorem span_ok (b : Nat) (s : ByteArray) (c : UInt8) (l q : List UInt8) (x : UInt8 × UInt8) (w : World) (h : AtL b s l w) (hp : pSpan c l = .ok (x, q)) :
    Calls Tryz.prog 246 #[.pointer (some ⟨b, 0, none⟩), .int .u8 c.toNat] w fun e w' => e = .returned (.agg #[.int .u8 x.1.toNat, .int .u8 x.2.toNat]) ∧ AtL b s q w' ∧ Kept (one b) w w' :=
  (span_any b s c l w h).mono fun _ _ ⟨h1, h2, _⟩ => ⟨(h2 x q hp).1, (h2 x q hp).2, h1⟩
theorem span_err (b : Nat) (s : ByteArray) (c : UInt8) (l : List UInt8) (n : Nat) (w : World) (h : AtL b s l w) (hp : pSpan c l = .error n) :
    Calls Tryz.prog 246 #[.pointer (some ⟨b, 0, none⟩), .int .u8 c.toNat] w fun e w' => e = .panicked [{ v := .iface 194 (.agg #[.int .i64 (n)]), recovered := false }] ∧ Kept (one b) w w' :=
  (span_any b s c l w h).mono fun _ _ ⟨h1, _, h2⟩ => ⟨h2 n hp, h1⟩
end Go.Proofs.YtcidoodaiimhfaaGreat

/- WALK of a bracket. -/
namespace Go.Proofs.YtcidoodaiimhfaaGreat
open Go.RowKit

theorem infoSpan : (Tryz.prog.info? 262).map (fun i => (i.zero, i.size, i.bytes)) = some (some (.agg #[.int .u8 0, .int .u8 0]), 2, 2) := by kernel_rfl

/-- does a text begin with the sign of what is not? -/
theorem prefix1_lite (l : List UInt8) (w : World) :
    Calls Tryz.prog 267 #[.string ⟨l.toArray⟩, .string ⟨#[94]⟩] w fun e w' => e = .returned (.bool (l.head? == some 94)) ∧ w' = w := by
  cases l with
  | nil =>
    go_enter Tryz.func267, Tryz.ntmps267
    go_wp2_with fail
    go_ret
    exact ⟨rfl, rfl⟩
  | cons x r =>
    have hv : ((x :: r).head? == some 94) = (x == 94) := by simp
    rw [hv]
    obtain ⟨L, hL⟩ : ∃ L : ByteArray, L = ⟨(x :: r).toArray⟩ := ⟨_, rfl⟩
    rw [← hL]
    have hsz : 1 ≤ L.size := by rw [hL, size_mk]; simp
    have hsl : ∀ W : World, (Instr.slice 9 (.string L) none (some (.int .i64 1)) none).run Tryz.prog W = .ok (.string ⟨#[x]⟩) W := fun W => by
      rw [run_slice_string_to_if (P := Tryz.prog) W 9 L .i64 _ Tryz.underlying9, if_pos (by omega)]
      congr 2
      rw [extract_list, hL, toList_mk]
      rfl
    have hge : decide ((1 : Int) ≤ ((L.size : Nat) : Int)) = true := decide_eq_true (by omega)
    have hq : ((⟨#[x]⟩ : ByteArray).toList == [94]) = (x == 94) := by
      rw [ByteArray.toList_eq]
      simp
    clear hL hv
    generalize (⟨#[x]⟩ : ByteArray) = X at *
    go_enter Tryz.func267, Tryz.ntmps267
    go_wp2_with fail
    go_ret
    exact ⟨rfl, rfl⟩
theorem prefix1_any (l : List UInt8) (w : World) :
    Calls Tryz.prog 245 #[.string ⟨l.toArray⟩, .string ⟨#[94]⟩] w fun e w' => e = .returned (.bool (l.head? == some 94)) ∧ w' = w := by
  have HC := hide (prefix1_lite l w)
  generalize (⟨l.toArray⟩ : ByteArray) = L at *
  generalize (l.head? == some 94) = R at *
  go_enter Tryz.func245, Tryz.ntmps245
  go_wp2_with fail
  refine HC.out.mono ?_
  rintro e w' ⟨rfl, rfl⟩
  go_wp2_with fail
  go_ret
  exact ⟨rfl, rfl⟩

/-- a function value that lies in memory, and tells whether a byte may be -/
def FnAt (base : Nat) (w : World) (v : Value) : Part → Prop
  | .star => v = .func (.func 229) #[] #[]
  | .any => v = .func (.func 229) #[] #[]
  | .lit c => ∃ b, base ≤ b ∧ v = .func (.func 231) #[] #[.pointer (some ⟨b, 0, none⟩)] ∧ w.heap[b]? = some (.cells #[.int .u8 c.toNat] 5)
  | .cls neg sp => ∃ b1 b2 a cap, base ≤ b1 ∧ base ≤ b2 ∧ v = .func (.func 247) #[] #[.pointer (some ⟨b1, 0, none⟩), .pointer (some ⟨b2, 0, none⟩)] ∧ w.heap[b1]? = some (.cells #[.bool neg] 4) ∧ w.heap[b2]? = some (.cells #[.slice a sp.length cap] 260) ∧
      w.ownsRow base 262 2 (.slice a sp.length cap) sp.length (spanRow sp) ∧ sp.length ≤ 1000
theorem FnAt.kept {base base2 : Nat} {w w' : World} {v : Value} {p : Part} (h : FnAt base w v p) {S : Nat → Prop} (hk : Kept S w w') (hb : base2 ≤ base)
    (hS : ∀ k cs T, base ≤ k → w.heap[k]? = some (.cells cs T (0, 0)) → T ≠ 212 → ¬ S k) : FnAt base2 w' v p := by
  have hlt : ∀ {k : Nat} {o : Obj}, w.heap[k]? = some o → k < w.heap.size := fun {k o} hx => by
    rcases Nat.lt_or_ge k w.heap.size with h | h
    · exact h
    · rw [Array.getElem?_eq_none (by simpa using h)] at hx; simp at hx
  have keep : ∀ {k : Nat} {cs : Array Value} {T : Nat}, base ≤ k → w.heap[k]? = some (.cells cs T (0, 0)) → T ≠ 212 → w'.heap[k]? = some (.cells cs T (0, 0)) := fun {k cs T} h1 h2 h3 => (hk.block k (hlt h2) (hS k cs T h1 h2 h3)).trans h2
  cases p with
  | star => exact h
  | any => exact h
  | lit c =>
    obtain ⟨b, h1, h2, h3⟩ := h
    exact ⟨b, by omega, h2, keep h1 h3 (by decide)⟩
  | cls neg sp =>
    obtain ⟨b1, b2, a, cap, h1, h2, h3, h4, h5, h6, h7⟩ := h
    refine ⟨b1, b2, a, cap, by omega, by omega, h3, keep h1 h4 (by decide), keep h2 h5 (by decide), ⟨h6.1, ?_⟩, h7⟩
    rcases h6.2 with hn | ⟨g, cp, cur, e1, e2, e3, rest⟩
    · exact .inl hn
    · exact .inr ⟨g, cp, cur, e1, by omega, keep e2 e3 (by decide), rest⟩

def BrPost (b : Nat) (s : ByteArray) (l : List UInt8) (w : World) (e : Ending) (w' : World) : Prop :=
  Kept (one b) w w' ∧ (∀ p q, pBracket l = .ok (p, q) → ∃ v, e = .returned v ∧ FnAt w.heap.size w' v p ∧ AtL b s q w') ∧ (∀ n, pBracket l = .error n → e = .panicked [{ v := .iface 194 (.agg #[.int .i64 (n)]), recovered := false }])
theorem BrPost.err {b : Nat} {s : ByteArray} {l : List UInt8} {w w' : World} {x : Nat} (hp : pBracket l = .error x) (hk : Kept (one b) w w') : BrPost b s l w (.panicked [{ v := .iface 194 (.agg #[.int .i64 (x)]), recovered := false }]) w' :=
  ⟨hk, fun v q hx => by rw [hp] at hx; simp at hx, fun n hx => by rw [hp] at hx; simp at hx; subst hx; rfl⟩
def inside (l : List UInt8) : List UInt8 := if l.head? = some 94 then l.tail else l
def brOf (neg : Bool) : Except Nat (List (UInt8 × UInt8) × List UInt8) → Except Nat (Part × List UInt8)
  | .error e => .error e
  | .ok ([], _) => .error 1
  | .ok (x :: xs, q) => .ok (.cls neg (x :: xs), q)
theorem pBracket_of (l : List UInt8) : pBracket l = brOf (l.head? == some 94) (pCls (inside l)) := by
  unfold pBracket inside brOf
  rfl
theorem begin1n (w : World) (o : Obj) (n : Nat) (W : World) (hW : W = (w.drewN n).alloc o) :
    W.heap[w.heap.size]? = some o ∧ W.heap.size = w.heap.size + 1 ∧ ∀ S, Kept S w W := by
  subst hW
  exact ⟨heap_alloc_new (w.drewN n) o, show ((w.drewN n).alloc o).heap.size = w.heap.size + 1 by simp, fun S => ((Kept.refl S w).drewN n).alloc o⟩
end Go.Proofs.YtcidoodaiimhfaaGreat

/- WALK of a bracket, whole. -/
namespace Go.Proofs.YtcidoodaiimhfaaGreat
open Go.RowKit

theorem inside_suffix (l : List UInt8) : inside l <:+ l := by
  unfold inside
  split
  · exact List.tail_suffix l
  · exact List.suffix_refl l
theorem brOf_nil (neg : Bool) (l : List UInt8) : brOf neg (.ok ([], l)) = .error 1 := rfl
theorem brOf_some (neg : Bool) {xs : List (UInt8 × UInt8)} (h : xs ≠ []) (l : List UInt8) : brOf neg (.ok (xs, l)) = .ok (.cls neg xs, l) := by
  cases xs with
  | nil => exact absurd rfl h
  | cons x xs => rfl
theorem aheadS_end (acc : List (UInt8 × UInt8)) (l : List UInt8) : aheadS acc (pCls (93 :: l)) = .ok (acc, l) := by
  rw [pCls_end]
  simp [aheadS]
theorem aheadS_err {acc : List (UInt8 × UInt8)} {c : UInt8} {l : List UInt8} {e : Nat} (hc : c ≠ 93) (h : pSpan c l = .error e) : aheadS acc (pCls (c :: l)) = .error e := by
  rw [pCls_err hc h]
  rfl
theorem rowSlice2 {w : World} {b e s : Nat} {v : Value} {n : Nat} {xs : List Value} (h : w.ownsRow b e s v n xs) : ∃ ao cp, v = .slice ao n cp := by
  rcases h.2 with ⟨rfl, rfl⟩ | ⟨g, cap, cur, rfl, _⟩
  · exact ⟨_, _, rfl⟩
  · exact ⟨_, _, rfl⟩
theorem ownsRow_low2 {w : World} {b1 b2 e s : Nat} {v : Value} {n : Nat} {xs : List Value} (h : w.ownsRow b1 e s v n xs) (hb : b2 ≤ b1) : w.ownsRow b2 e s v n xs := by
  refine ⟨h.1, ?_⟩
  rcases h.2 with hn | ⟨g, cap, cur, hv, hb1, rest⟩
  · exact .inl hn
  · exact .inr ⟨g, cap, cur, hv, by omega, rest⟩

set_option maxRecDepth 100000 in
set_option maxHeartbeats 2000000 in
theorem bracket_any (b : Nat) (s : ByteArray) (l0 : List UInt8) (w : World) (h : AtL b s l0 w) (hs : s.size ≤ 60) :
    Calls Tryz.prog 230 #[.pointer (some ⟨b, 0, none⟩)] w (BrPost b s l0 w) := by
  have hmf : ∀ (fn : Fn) (first cap : Array Value) (w : World), (Instr.makeFunc fn first cap).run Tryz.prog w = .ok (.func fn first cap) w := fun _ _ _ _ => rfl
  obtain ⟨i0, hi, hz0, hz1, hz2⟩ := info_parts infoSpan
  have hbw := h.lt
  have HPB := hide (pBracket_of l0)
  have HL := hide (left_any b s l0 w h)
  have HPX : Hid (∀ W, Calls Tryz.prog 245 #[.string ⟨l0.toArray⟩, .string ⟨#[94]⟩] W fun e w' => e = .returned (.bool (l0.head? == some 94)) ∧ w' = W) := fun W => prefix1_any l0 W
  have HNX : Hid ((l0.head? == some 94) = true → ∀ W, AtL b s l0 W → Calls Tryz.prog 173 #[.pointer (some ⟨b, 0, none⟩)] W fun e w' => e = .returned (.int .u8 94) ∧ AtL b s (inside l0) w' ∧ Kept (one b) W w') := fun hn W ha => by
    cases l0 with
    | nil => simp at hn
    | cons x r =>
      simp at hn
      subst hn
      exact next_ok b s 94 r W ha
  have HIN : Hid ((l0.head? == some 94) = false → inside l0 = l0) := fun hn => by
    unfold inside
    rw [if_neg (fun e => by rw [e] at hn; simp at hn)]
  have HA := hide h
  have HLE := hide (inside_suffix l0).length_le
  have hl0 := h.len
  clear h
  generalize (⟨l0.toArray⟩ : ByteArray) = L0 at *
  generalize (l0.head? == some 94) = neg at *
  generalize hli : inside l0 = li at *
  have hlis : li.length ≤ s.size := Nat.le_trans HLE.out hl0
  go_enter Tryz.func230, Tryz.ntmps230
  go_wp2_with fail
  refine HL.out.mono ?_
  rintro e W ⟨rfl, nd, hW⟩
  have haW : AtL b s l0 W := by rw [hW]; exact HA.out.drewN nd
  have hkW : Kept (one b) w W := by rw [hW]; exact (Kept.refl _ w).drewN nd
  have hzW : W.heap.size = w.heap.size := by rw [hW]; rfl
  have HAW := hide haW
  have HKW := hide hkW
  have HZW := hide hzW
  clear haW hkW hzW hW HL HA
  go_wp2_with fail
  refine (HPX.out _).mono ?_
  rintro e W2 ⟨rfl, rfl⟩
  clear HPX
  go_upto_if 9 with fail
  have HB : Hid ((W2.alloc (.cells #[.bool neg] 4)).heap[w.heap.size]? = some (.cells #[.bool neg] 4)) := by rw [Hid, ← HZW.out]; exact heap_alloc_new W2 _
  go_cut [] from 10 (fun wc => AtL b s li wc ∧ Kept (one b) w wc ∧ Hid (wc.heap[w.heap.size]? = some (.cells #[.bool neg] 4)) ∧ w.heap.size + 1 ≤ wc.heap.size)
  case first =>
    cases neg with
    | true =>
      have HN := hide (HNX.out rfl (W2.alloc (.cells #[.bool true] 4)) (HAW.out.alloc _))
      go_wp2_with fail
      refine HN.out.mono ?_
      rintro e w1 ⟨rfl, ha1, hk1⟩
      have hz1 := hk1.size
      have hz2 : (W2.alloc (.cells #[.bool true] 4)).heap.size = w.heap.size + 1 := by simp [HZW.out]
      have hB1 := hide ((hk1.block w.heap.size (by omega) (fun e => by simp only [one] at e; omega)).trans HB.out)
      have hkk : Kept (one b) w w1 := (HKW.out.alloc _).trans hk1
      go_wp2_with fail
      go_meet
      case rel => exact ⟨ha1, hkk, hB1, by omega⟩
    | false =>
      have hin := HIN.out rfl
      go_wp2_with fail
      go_meet
      case rel => exact ⟨by rw [hin]; exact HAW.out.alloc _, HKW.out.alloc _, HB, by simp [HZW.out]⟩
  case rest =>
    obtain ⟨hac, hkc, HBC, hzc⟩ := hcut
    clear HAW HKW HB HNX HIN
    have HAC : Hid (AtL b s li (wc.alloc (.cells #[.slice none 0 0] 260))) := hac.alloc _
    have HKC : Hid (Kept (one b) w (wc.alloc (.cells #[.slice none 0 0] 260))) := hkc.alloc _
    have HBC2 : Hid ((wc.alloc (.cells #[.slice none 0 0] 260)).heap[w.heap.size]? = some (.cells #[.bool neg] 4)) := (((Kept.refl (fun _ => False) wc).alloc _).block w.heap.size (by omega) (fun e => e)).trans HBC.out
    have HCC : Hid ((wc.alloc (.cells #[.slice none 0 0] 260)).heap[wc.heap.size]? = some (.cells #[.slice none 0 0] 260)) := heap_alloc_new wc _
    have HSC : Hid ((wc.alloc (.cells #[.slice none 0 0] 260)).heap.size = wc.heap.size + 1) := by simp [Hid]
    have hbc := hac.lt
    cases li with
    | nil =>
      have HN := hide (next_short b s _ HAC.out)
      have HP2 : Hid (pBracket l0 = .error 8) := by rw [Hid, HPB.out]; rfl
      go_wp2_with fail
      refine HN.out.mono ?_
      rintro e w2 ⟨rfl, hk3⟩
      exact ⟨rfl, BrPost.err HP2.out (HKC.out.trans hk3)⟩
    | cons c l =>
      have HN := hide (next_ok b s c l _ HAC.out)
      simp only [List.length_cons] at hlis
      go_wp2_with fail
      refine HN.out.mono ?_
      rintro e w2 ⟨rfl, ha2, hk3⟩
      have hzs := HSC.out
      have hsz3 := hk3.size
      have hB2 := (hk3.block w.heap.size (by omega) (fun e => by simp only [one] at e; omega)).trans HBC2.out
      have hC2 := (hk3.block wc.heap.size (by omega) (fun e => by simp only [one] at e; omega)).trans HCC.out
      have hkw2 : Kept (one b) w w2 := HKC.out.trans hk3
      have HB2 := hide hB2
      have HC2 := hide hC2
      clear HN HAC HKC HBC HBC2 HCC HSC hB2 hC2 hk3 hac hkc
      generalize wc.heap.size = B2 at *
      go_wp2_with fail
      go_loopw [5] (fun v wr => ∃ (acc : List (UInt8 × UInt8)) (c : UInt8) (l : List UInt8) (V : Value), v = .int .u8 c.toNat ∧ AtL b s l wr ∧ acc.length + l.length + 1 ≤ s.size ∧ Hid (wr.heap[w.heap.size]? = some (.cells #[.bool neg] 4)) ∧
          Hid (wr.heap[B2]? = some (.cells #[V] 260)) ∧
          wr.ownsRow (B2 + 1) 262 2 V acc.length (spanRow acc) ∧ Kept (one b) w wr ∧ B2 + 1 ≤ wr.heap.size ∧ Hid (pBracket l0 = brOf neg (aheadS acc (pCls (c :: l))))) (fun _ wr => leftOf b s wr)
      case atStart => exact ⟨[], c, l, _, rfl, ha2, by simp; omega, HB2, HC2, World.ownsRow_nil _ _ _ _, hkw2, by omega, by rw [Hid, aheadS_nil]; exact HPB.out⟩
      case round =>
        clear HB2 HC2 hkw2 ha2 HPB hsz3 hzs hlis
        obtain ⟨acc, c, l, V, rfl, ha, hacc, HB, HC, hown, hkw, hzr, HP⟩ := hrel
        obtain ⟨ao, cp, rfl⟩ := rowSlice2 hown
        obtain ⟨c3, f3⟩ := one_of HC.out
        have hlf := ha.left
        by_cases hc93 : c = 93
        · subst hc93
          cases acc with
          | nil =>
            have HP2 : Hid (pBracket l0 = .error 1) := by rw [Hid, HP.out, aheadS_end]; rfl
            clear HP
            go_wp2_with (go_at_call 183; refine (giveUp_any _ _).mono ?_; rintro e w' ⟨rfl, rfl⟩)
            exact ⟨rfl, BrPost.err HP2.out hkw⟩
          | cons x xs =>
            have HP2 : Hid (pBracket l0 = .ok (.cls neg (x :: xs), l)) := by rw [Hid, HP.out, aheadS_end]; rfl
            have hn0 : (((x :: xs).length : Int) == 0) = false := by rw [beq_eq_false_iff_ne]; simp; omega
            have hfn : FnAt w.heap.size wr (.func (.func 247) #[] #[.pointer (some ⟨w.heap.size, 0, none⟩), .pointer (some ⟨B2, 0, none⟩)]) (.cls neg (x :: xs)) := ⟨w.heap.size, B2, ao, cp, Nat.le_refl _, by omega, rfl, HB.out, HC.out, ownsRow_low2 hown (by omega), by omega⟩
            have fin : BrPost b s l0 w (.returned (.func (.func 247) #[] #[.pointer (some ⟨w.heap.size, 0, none⟩), .pointer (some ⟨B2, 0, none⟩)])) wr := ⟨hkw, fun p q hx => by
              rw [HP2.out] at hx
              simp at hx
              obtain ⟨rfl, rfl⟩ := hx
              exact ⟨_, rfl, hfn, ha⟩, fun n hx => by rw [HP2.out] at hx; simp at hx⟩
            have FIN := hide fin
            clear HP HP2 hfn fin hown
            generalize (x :: xs).length = len at *
            go_wp2_with fail
            go_ret
            have hf := FIN.out
            rw [← HZW.out] at hf
            exact hf
        · have hcn : ¬ ((c.toNat : Nat) : Int) = 93 := fun e => hc93 (UInt8.toNat_inj.mp (by simp; omega))
          cases hps : pSpan c l with
          | error x =>
            have HP2 : Hid (pBracket l0 = .error x) := by rw [Hid, HP.out, aheadS_err hc93 hps]; rfl
            clear HP
            go_wp2_with fail
            refine wp_region_any (by kernel_rfl) ?_
            change wpAny _ _ _ _ _ _ _ (World.drew _)
            refine wpAny_take (i := 1) (v := .pointer (some ⟨b, 0, none⟩)) rfl (by kernel_rfl) (by kernel_rfl) (by kernel_rfl) (fun _ _ _ h => h) (Or.inl ⟨by rfl, by intro w; go_simp⟩) ?_
            refine wpAny_take (i := 2) (v := .int .u8 c.toNat) rfl (by kernel_rfl) (by kernel_rfl) (by kernel_rfl) (fun _ _ _ h => h) (Or.inl ⟨by rfl, by intro w; go_simp⟩) ?_
            refine wpAny_ready (rs := [0, 3]) (by kernel_rfl) (by simp) ?_
            refine AllReady.cons rfl (fun K hK => ?_) ?_
            · go_simp
              refine hK _ _ ?_
              clear hK K
              refine wpAny_ready (rs := [3]) (by kernel_rfl) (by simp) ?_
              refine AllReady.cons rfl (fun K hK => ?_) AllReady.nil
              go_simp
              refine (span_err b s c l x _ (ha.drewN 1) hps).mono ?_
              rintro e w3 ⟨rfl, hk3⟩
              exact ⟨rfl, BrPost.err HP2.out (hkw.trans (((Kept.refl _ _).drewN 1).trans hk3))⟩
            · refine AllReady.cons rfl (fun K hK => ?_) AllReady.nil
              go_simp
              refine (span_err b s c l x _ (ha.drewN 1) hps).mono ?_
              rintro e w3 ⟨rfl, hk3⟩
              exact ⟨rfl, BrPost.err HP2.out (hkw.trans (((Kept.refl _ _).drewN 1).trans hk3))⟩
          | ok y =>
            obtain ⟨x, q⟩ := y
            have hql := (pSpan_len hps).1
            have HP2 : Hid (pBracket l0 = brOf neg (aheadS (acc ++ [x]) (pCls q))) := by rw [Hid, HP.out, aheadS_ok hc93 hps]
            clear HP
            have hbr := ha.lt
            go_wp2_with fail
            go_region_law (first
              | (refine step_append_lies _ (by rfl) _ _ 260 (by rfl) (B2 + 1) 262 i0 (.agg #[.int .u8 0, .int .u8 0]) 2 2 Tryz.underlying260 hi hz0 hz1 hz2 rfl (by omega) (.slice ao acc.length cp) acc.length (spanRow acc) (by rfl) (hown3.alloc _) ⟨w3.heap.size, 0, none⟩ 1 1 [.int .u8 x.1.toNat, .int .u8 x.2.toNat] (by rfl) (by rfl) (fun j u hj => by match j, hj with | 0, hj => (simp at hj; subst hj; simp [Addr.add]) | 1, hj => (simp at hj; subst hj; simp [Addr.add]) | _ + 2, hj => (simp at hj)) (fun u hu => by simp at hu; rcases hu with rfl | rfl <;> rfl) (by omega) (by unfold maxLen; omega) (by omega) (by simp; omega) (w3.heap.size + 1) (by simp) ?_; intro g cap w4 hown4 hgrow hat hlt4; have hk4 : Kept (fun j => j = b ∨ B2 + 1 ≤ j) wr w4 := (((hk3a.mono (fun j _ e => .inl e)).alloc _).grown hgrow (fun j hj => .inl (.inr (hown.lt j hj).1))); have hB4 := (hk4.block B2 (by omega) (fun e => by rcases e with e | e <;> omega)).trans HC.out; have hc4 := (one_of hB4).1; have hf4 := (one_of hB4).2)
              | (go_simp; refine (span_ok b s c l q x _ (ha.drewN 1) hps).mono ?_; rintro e w3 ⟨rfl, ha3, hk3⟩; have hk3a : Kept (one b) wr w3 := ((Kept.refl _ _).drewN 1).trans hk3; have hc3 : w3.cell? ⟨B2, 0, none⟩ = some (.slice ao acc.length cp) := hk3a.cell' c3 (fun e => by simp only [one] at e; omega); have hc3a : ∀ o, (w3.alloc o).cell? ⟨B2, 0, none⟩ = some (.slice ao acc.length cp) := fun o => ((Kept.refl (fun _ => False) w3).alloc o).cell' hc3 (fun e => e); have hown3 := hk3a.owns hown (fun j hv hs => by have := (hown.lt j hv).1; simp only [one] at hs; omega); have hsz3 : wr.heap.size ≤ w3.heap.size := hk3a.size))
            all_goals
              rw [← spanRow_snoc] at hown4
              have hol : (acc ++ [x]).length = acc.length + 1 := by simp
              have HBW := hide ((hk4.block w.heap.size (by omega) (fun e => by rcases e with e | e <;> omega)).trans HB.out)
              have HCW := hide (setCell_heap1 hB4 0 (.slice (some ⟨g, 0, none⟩) (acc.length + 1) cap))
              have ha4 : AtL b s q w4 := (ha3.alloc _).kept (S := fun j => some j = (Value.slice ao acc.length cp).ownBlock) ⟨hgrow.os, hgrow.tape, hgrow.output, hgrow.size, fun j hj hs => hgrow.block j hj hs⟩ (fun e => by have := hown.lt b e.symm; omega)
              have hkw4 : Kept (one b) w w4 := ((hkw.mono (T := fun j => one b j ∨ w.heap.size ≤ j) (fun _ _ e => .inl e)).trans (hk4.mono (fun j _ e => by rcases e with e | e; exact .inl e; exact .inr (by omega)))).mono (fun j hj e => by rcases e with e | e; exact e; omega)
              have hz4 := hk4.size
              clear c3 f3 hgrow hat hlt4 hown3 hown hk3 hk3a ha3 hc3 hc3a HB HC hkw hsz3 hk4 hB4
              have HA5 : Hid (AtL b s q (w4.setCell ⟨B2, 0, none⟩ (.slice (some ⟨g, 0, none⟩) (acc.length + 1) cap))) := ha4.setOther (by omega) _
              have HK5 : Hid (Kept (one b) w (w4.setCell ⟨B2, 0, none⟩ (.slice (some ⟨g, 0, none⟩) (acc.length + 1) cap))) := hkw4.setCell (p := ⟨B2, 0, none⟩) (.inr (by simp only; omega)) _
              have HB5 : Hid ((w4.setCell ⟨B2, 0, none⟩ (.slice (some ⟨g, 0, none⟩) (acc.length + 1) cap)).heap[w.heap.size]? = some (.cells #[.bool neg] 4)) := (((Kept.refl (one B2) w4).set1 0 _).block w.heap.size (by omega) (fun e => by simp only [one] at e; omega)).trans HBW.out
              have HO5 : Hid ((w4.setCell ⟨B2, 0, none⟩ (.slice (some ⟨g, 0, none⟩) (acc.length + 1) cap)).ownsRow (B2 + 1) 262 2 (.slice (some ⟨g, 0, none⟩) (acc.length + 1) cap) (acc.length + 1) (spanRow (acc ++ [x]))) := ((Kept.refl (one B2) w4).set1 0 _).owns hown4 (fun j hj e => by have := (hown4.lt j hj).1; simp only [one] at e; omega)
              have hz5 : (w4.setCell ⟨B2, 0, none⟩ (.slice (some ⟨g, 0, none⟩) (acc.length + 1) cap)).heap.size = w4.heap.size := by simp
              clear hown4 ha4 hkw4 HBW
              cases q with
              | nil =>
                have HN := hide (next_short b s _ HA5.out)
                have HP3 : Hid (pBracket l0 = .error 8) := by rw [Hid, HP2.out]; rfl
                go_wp2_with fail
                refine HN.out.mono ?_
                rintro e w6 ⟨rfl, hk6⟩
                exact ⟨rfl, BrPost.err HP3.out (HK5.out.trans hk6)⟩
              | cons c2 q =>
                have HN := hide (next_ok b s c2 q _ HA5.out)
                simp only [List.length_cons] at hql
                go_wp2_with fail
                refine HN.out.mono ?_
                rintro e w6 ⟨rfl, ha6, hk6⟩
                have hz6 := hk6.size
                have hlf6 := ha6.left
                have HB6 := hide ((hk6.block w.heap.size (by omega) (fun e => by simp only [one] at e; omega)).trans HB5.out)
                have HC6 := hide ((hk6.block B2 (by omega) (fun e => by simp only [one] at e; omega)).trans HCW.out)
                have hown6 := hk6.owns HO5.out (fun j hj e => by have := (HO5.out.lt j hj).1; simp only [one] at e; omega)
                have hkw6 : Kept (one b) w w6 := HK5.out.trans hk6
                clear HN HA5 HK5 HB5 HCW HO5
                go_wp2_with fail
                go_roundw
                case rel => exact ⟨acc ++ [x], c2, q, _, rfl, ha6, by rw [hol]; omega, HB6, HC6, by rw [hol]; exact hown6, hkw6, by omega, HP2⟩
                case measure => rw [hlf6, hlf]; omega
end Go.Proofs.YtcidoodaiimhfaaGreat

/- WALK of a part. -/
namespace Go.Proofs.YtcidoodaiimhfaaGreat
open Go.RowKit

def PartPost (b : Nat) (s : ByteArray) (l : List UInt8) (w : World) (e : Ending) (w' : World) : Prop :=
  Kept (one b) w w' ∧ (∀ p q, pPart l = .ok (p, q) → ∃ v, e = .returned (.agg #[.bool p.many, v]) ∧ FnAt w.heap.size w' v p ∧ AtL b s q w') ∧ (∀ n, pPart l = .error n → e = .panicked [{ v := .iface 194 (.agg #[.int .i64 (n)]), recovered := false }])
theorem PartPost.err {b : Nat} {s : ByteArray} {l : List UInt8} {w w' : World} {x : Nat} (hp : pPart l = .error x) (hk : Kept (one b) w w') : PartPost b s l w (.panicked [{ v := .iface 194 (.agg #[.int .i64 (x)]), recovered := false }]) w' :=
  ⟨hk, fun v q hx => by rw [hp] at hx; simp at hx, fun n hx => by rw [hp] at hx; simp at hx; subst hx; rfl⟩
theorem PartPost.ok {b : Nat} {s : ByteArray} {l q : List UInt8} {w w' : World} {p : Part} {v : Value} (hp : pPart l = .ok (p, q)) (hk : Kept (one b) w w') (hf : FnAt w.heap.size w' v p) (ha : AtL b s q w') : PartPost b s l w (.returned (.agg #[.bool p.many, v])) w' :=
  ⟨hk, fun p' q' hx => by rw [hp] at hx; simp at hx; obtain ⟨rfl, rfl⟩ := hx; exact ⟨v, rfl, hf, ha⟩, fun n hx => by rw [hp] at hx; simp at hx⟩
/-- the part is stored as the call's result -/
theorem part_stored {b : Nat} {s : ByteArray} {q : List UInt8} {w w1 : World} {p : Part} {v x0 x1 : Value} (hR : w1.heap[w.heap.size]? = some (.cells #[x0, x1] 212)) (hk : Kept (one b) w w1) (hf : FnAt w.heap.size w1 v p) (ha : AtL b s q w1) (hb : b < w.heap.size) (m : Value) :
    Two ((w1.setCell ⟨w.heap.size, 0, none⟩ m).setCell ⟨w.heap.size, 1, none⟩ v) w.heap.size m v ∧ Kept (one b) w ((w1.setCell ⟨w.heap.size, 0, none⟩ m).setCell ⟨w.heap.size, 1, none⟩ v) ∧ FnAt w.heap.size ((w1.setCell ⟨w.heap.size, 0, none⟩ m).setCell ⟨w.heap.size, 1, none⟩ v) v p ∧ AtL b s q ((w1.setCell ⟨w.heap.size, 0, none⟩ m).setCell ⟨w.heap.size, 1, none⟩ v) := by
  have k2 := put2_kept (Kept.refl (one w.heap.size) w1) (.inr rfl) m v
  refine ⟨two_of (put2_heap hR m v), put2_kept hk (.inl (Nat.le_refl _)) m v, hf.kept k2 (Nat.le_refl _) (fun k cs T _ h1 h2 e => ?_), ha.kept k2 (fun e => by simp only [one] at e; omega)⟩
  simp only [one] at e
  subst e
  rw [hR] at h1
  simp at h1
  exact h2 h1.2.symm

set_option maxRecDepth 100000 in
set_option maxHeartbeats 2000000 in
theorem part_any (b : Nat) (s : ByteArray) (l0 : List UInt8) (w : World) (h : AtL b s l0 w) (hs : s.size ≤ 60) :
    Calls Tryz.prog 189 #[.pointer (some ⟨b, 0, none⟩)] w (PartPost b s l0 w) := by
  have hmf : ∀ (fn : Fn) (first cap : Array Value) (w : World), (Instr.makeFunc fn first cap).run Tryz.prog w = .ok (.func fn first cap) w := fun _ _ _ _ => rfl
  have hbw := h.lt
  have HA : Hid (∀ o, AtL b s l0 (w.alloc o)) := fun o => h.alloc o
  have HK : Hid (∀ o, Kept (one b) w (w.alloc o)) := fun o => (Kept.refl _ w).alloc o
  clear h
  cases l0 with
  | nil =>
    have HN : Hid (∀ o, Calls Tryz.prog 173 #[.pointer (some ⟨b, 0, none⟩)] (w.alloc o) fun e w' => e = .panicked [{ v := .iface 194 (.agg #[.int .i64 (8)]), recovered := false }] ∧ Kept (one b) (w.alloc o) w') := fun o => next_short b s _ (HA.out o)
    go_enter Tryz.func189, Tryz.ntmps189
    go_wp2_with fail
    refine (HN.out _).mono ?_
    rintro e w1 ⟨rfl, hk1⟩
    exact ⟨rfl, PartPost.err rfl ((HK.out _).trans hk1)⟩
  | cons c l =>
    have HN : Hid (∀ o, Calls Tryz.prog 173 #[.pointer (some ⟨b, 0, none⟩)] (w.alloc o) fun e w' => e = .returned (.int .u8 c.toNat) ∧ AtL b s l w' ∧ Kept (one b) (w.alloc o) w') := fun o => next_ok b s c l _ (HA.out o)
    go_enter Tryz.func189, Tryz.ntmps189
    go_wp2_with fail
    refine (HN.out _).mono ?_
    rintro e w1 ⟨rfl, ha1, hk1⟩
    have hz1 : w.heap.size + 1 ≤ w1.heap.size := by have := hk1.size; simpa using this
    have hR1 := (hk1.block w.heap.size (by simp) (fun e => by simp only [one] at e; omega)).trans (heap_alloc_new w _)
    have hkw1 : Kept (one b) w w1 := (HK.out _).trans hk1
    have HRA : Hid (∀ o, (w1.alloc o).heap[w.heap.size]? = some (.cells #[.bool false, .nilFunc] 212)) := fun o => (((Kept.refl (fun _ => False) w1).alloc o).block w.heap.size (by omega) (fun e => e)).trans hR1
    have c0 := fun o => (two_of (HRA.out o)).c0
    have c1 := fun o => (two_of (HRA.out o)).c1
    have f0 := fun o => (two_of (HRA.out o)).f0
    have f1 := fun o => (two_of (HRA.out o)).f1
    have HAA : Hid (∀ o, AtL b s l (w1.alloc o)) := fun o => ha1.alloc o
    have HKA : Hid (∀ o, Kept (one b) w (w1.alloc o)) := fun o => hkw1.alloc o
    have HCA : Hid (∀ o, (w1.alloc o).heap[w1.heap.size]? = some o) := fun o => heap_alloc_new w1 o
    clear HN HA HK hR1 hk1 hkw1 ha1
    have tst : ∀ k : UInt8, (((c.toNat : Nat) : Int) == ((k.toNat : Nat) : Int)) = (c == k) := fun k => u8_beq c k
    by_cases h42 : c = 42
    · have t42 : (((c.toNat : Nat) : Int) == 42) = true := by rw [h42]; rfl
      have HP : Hid (pPart (c :: l) = .ok (.star, l)) := by rw [h42]; rfl
      clear h42 tst
      go_wp2_with fail
      clear c0 c1 f0 f1
      obtain ⟨⟨k0, k1, _, _⟩, p1, p2, p3⟩ := part_stored (p := .star) (v := .func (.func 229) #[] #[]) (HRA.out (.cells #[.int .u8 c.toNat] 5)) (HKA.out _) rfl (HAA.out _) hbw (.bool true)
      have fin := PartPost.ok (l := c :: l) HP.out p1 p2 p3
      exact bodyPost_ret (v := .agg #[.bool true, .func (.func 229) #[] #[]]) (by simp [results, Tryz.results189, go_sem, k0, k1]) rfl fin
    · have t42 : (((c.toNat : Nat) : Int) == 42) = false := (tst 42).trans (by simpa using h42)
      by_cases h63 : c = 63
      · have t63 : (((c.toNat : Nat) : Int) == 63) = true := by rw [h63]; rfl
        have HP : Hid (pPart (c :: l) = .ok (.any, l)) := by rw [h63]; rfl
        clear h42 h63 tst
        go_wp2_with fail
        clear c0 c1 f0 f1
        obtain ⟨⟨k0, k1, _, _⟩, p1, p2, p3⟩ := part_stored (p := .any) (v := .func (.func 229) #[] #[]) (HRA.out (.cells #[.int .u8 c.toNat] 5)) (HKA.out _) rfl (HAA.out _) hbw (.bool false)
        have fin := PartPost.ok (l := c :: l) HP.out p1 p2 p3
        exact bodyPost_ret (v := .agg #[.bool false, .func (.func 229) #[] #[]]) (by simp [results, Tryz.results189, go_sem, k0, k1]) rfl fin
      · have t63 : (((c.toNat : Nat) : Int) == 63) = false := (tst 63).trans (by simpa using h63)
        by_cases h91 : c = 91
        · have t91 : (((c.toNat : Nat) : Int) == 91) = true := by rw [h91]; rfl
          have HPB : Hid (pPart (c :: l) = pBracket l) := by rw [h91]; rfl
          have HBR : Hid (Calls Tryz.prog 230 #[.pointer (some ⟨b, 0, none⟩)] (w1.alloc (.cells #[.int .u8 c.toNat] 5)) (BrPost b s l (w1.alloc (.cells #[.int .u8 c.toNat] 5)))) := bracket_any b s l _ (HAA.out _) hs
          clear h42 h63 h91 tst
          cases hpb : pBracket l with
          | error x =>
            have HP : Hid (pPart (c :: l) = .error x) := by rw [Hid, HPB.out, hpb]
            go_wp2_with fail
            refine HBR.out.mono ?_
            rintro e w2 ⟨hk2, _, herr⟩
            have := herr x hpb
            subst this
            exact ⟨rfl, PartPost.err HP.out ((HKA.out _).trans hk2)⟩
          | ok y =>
            obtain ⟨p, q⟩ := y
            have HP : Hid (pPart (c :: l) = .ok (p, q)) := by rw [Hid, HPB.out, hpb]
            have hmany : p.many = false := by
              unfold pBracket at hpb
              split at hpb
              · simp at hpb
              · simp at hpb
              · simp at hpb; obtain ⟨rfl, rfl⟩ := hpb; rfl
            go_wp2_with fail
            refine HBR.out.mono ?_
            rintro e w2 ⟨hk2, hok, _⟩
            obtain ⟨v, rfl, hfn, ha2⟩ := hok p q hpb
            have hvf : ∃ f caps, v = .func (.func f) #[] caps := by
              unfold pBracket at hpb
              split at hpb
              · simp at hpb
              · simp at hpb
              · simp at hpb
                obtain ⟨rfl, rfl⟩ := hpb
                obtain ⟨b1, b2, a, cap, _, _, hv, _⟩ := hfn
                exact ⟨_, _, hv⟩
            obtain ⟨fv, caps, rfl⟩ := hvf
            have hz2 := hk2.size
            have hR2 := (hk2.block w.heap.size (by simp; omega) (fun e => by simp only [one] at e; omega)).trans (HRA.out _)
            have hf2 : FnAt w.heap.size w2 (.func (.func fv) #[] caps) p := hfn.kept (S := fun _ => False) (Kept.refl _ _) (by simp; omega) (fun _ _ _ _ _ _ e => e)
            have hk2w : Kept (one b) w w2 := (HKA.out _).trans hk2
            clear c0 c1 f0 f1
            have c0 := (two_of hR2).c0
            have c1 := (two_of hR2).c1
            have f0 := (two_of hR2).f0
            have f1 := (two_of hR2).f1
            have HR2 := hide hR2
            have HF2 := hide hf2
            clear hR2 hf2 hfn HBR
            go_wp2_with fail
            clear c0 c1 f0 f1
            obtain ⟨⟨k0, k1, _, _⟩, p1, p2, p3⟩ := part_stored (p := p) (v := .func (.func fv) #[] caps) HR2.out hk2w HF2.out ha2 hbw (.bool false)
            have fin := PartPost.ok (l := c :: l) HP.out p1 p2 p3
            rw [hmany] at fin
            exact bodyPost_ret (v := .agg #[.bool false, .func (.func fv) #[] caps]) (by simp [results, Tryz.results189, go_sem, k0, k1]) rfl fin
        · have t91 : (((c.toNat : Nat) : Int) == 91) = false := (tst 91).trans (by simpa using h91)
          by_cases h92 : c = 92
          · have t92 : (((c.toNat : Nat) : Int) == 92) = true := by rw [h92]; rfl
            have HPB : Hid (pPart (c :: l) = pEsc l) := by rw [h92]; rfl
            clear h42 h63 h91 h92 tst
            cases l with
            | nil =>
              have HN := hide (next_short b s (w1.alloc (.cells #[.int .u8 c.toNat] 5)) (HAA.out _))
              have HP : Hid (pPart (c :: []) = .error 8) := HPB.out
              go_wp2_with fail
              refine HN.out.mono ?_
              rintro e w2 ⟨rfl, hk2⟩
              exact ⟨rfl, PartPost.err HP.out ((HKA.out _).trans hk2)⟩
            | cons d r =>
              have HN := hide (next_ok b s d r (w1.alloc (.cells #[.int .u8 c.toNat] 5)) (HAA.out _))
              have HP : Hid (pPart (c :: d :: r) = .ok (.lit d, r)) := HPB.out
              go_wp2_with fail
              refine HN.out.mono ?_
              rintro e w2 ⟨rfl, ha2, hk2⟩
              have hz2 := hk2.size
              have hbb := ha2.lt
              have hb1 : b < w1.heap.size := by omega
              have hR2 := (hk2.block w.heap.size (by simp; omega) (fun e => by simp only [one] at e; omega)).trans (HRA.out _)
              have hC2 := (hk2.block w1.heap.size (by simp) (fun e => by simp only [one] at e; omega)).trans (HCA.out _)
              have hk2w : Kept (one b) w w2 := (HKA.out _).trans hk2
              clear c0 c1 f0 f1
              obtain ⟨y0, y1⟩ := one_of hC2
              have hR3 := (((Kept.refl (one w1.heap.size) w2).set1 0 (.int .u8 d.toNat)).block w.heap.size (by simp at hz2; omega) (fun e => by simp only [one] at e; omega)).trans hR2
              have hC3 := setCell_heap1 hC2 0 (.int .u8 d.toNat)
              have hk3 : Kept (one b) w (w2.setCell ⟨w1.heap.size, 0, none⟩ (.int .u8 d.toNat)) := hk2w.setCell (p := ⟨w1.heap.size, 0, none⟩) (.inr (by simp only; omega)) _
              have ha3 : AtL b s r (w2.setCell ⟨w1.heap.size, 0, none⟩ (.int .u8 d.toNat)) := ha2.setOther (by omega) _
              have c0 := (two_of hR3).c0
              have c1 := (two_of hR3).c1
              have f0 := (two_of hR3).f0
              have f1 := (two_of hR3).f1
              have HR3 := hide hR3
              have HC3 : Hid (FnAt w.heap.size (w2.setCell ⟨w1.heap.size, 0, none⟩ (.int .u8 d.toNat)) (.func (.func 231) #[] #[.pointer (some ⟨w1.heap.size, 0, none⟩)]) (.lit d)) := ⟨w1.heap.size, by omega, rfl, hC3⟩
              clear hR2 hR3 hC2 hC3 HN
              go_wp2_with fail
              clear c0 c1 f0 f1 y0 y1
              obtain ⟨⟨k0, k1, _, _⟩, p1, p2, p3⟩ := part_stored (p := .lit d) (v := .func (.func 231) #[] #[.pointer (some ⟨w1.heap.size, 0, none⟩)]) HR3.out hk3 HC3.out ha3 hbw (.bool false)
              have fin := PartPost.ok (l := c :: d :: r) HP.out p1 p2 p3
              exact bodyPost_ret (v := .agg #[.bool false, .func (.func 231) #[] #[.pointer (some ⟨w1.heap.size, 0, none⟩)]]) (by simp [results, Tryz.results189, go_sem, k0, k1]) rfl fin
          · have t92 : (((c.toNat : Nat) : Int) == 92) = false := (tst 92).trans (by simpa using h92)
            have HP : Hid (pPart (c :: l) = .ok (.lit c, l)) := by rw [Hid, pPart, if_neg h42, if_neg h63, if_neg h91, if_neg h92]
            clear h42 h63 h91 h92 tst
            go_wp2_with fail
            clear c0 c1 f0 f1
            obtain ⟨⟨k0, k1, _, _⟩, p1, p2, p3⟩ := part_stored (p := .lit c) (v := .func (.func 231) #[] #[.pointer (some ⟨w1.heap.size, 0, none⟩)]) (HRA.out (.cells #[.int .u8 c.toNat] 5)) (HKA.out _) ⟨w1.heap.size, by omega, rfl, HCA.out _⟩ (HAA.out _) hbw (.bool false)
            have fin := PartPost.ok (l := c :: l) HP.out p1 p2 p3
            exact bodyPost_ret (v := .agg #[.bool false, .func (.func 231) #[] #[.pointer (some ⟨w1.heap.size, 0, none⟩)]]) (by simp [results, Tryz.results189, go_sem, k0, k1]) rfl fin
end Go.Proofs.YtcidoodaiimhfaaGreat

/- WALKS of Run and of what it defers. -/
namespace Go.Proofs.YtcidoodaiimhfaaGreat
open Go.RowKit

theorem assertStop (W : World) (v : Value) : (Instr.typeAssert (.iface 194 v) 20 194 true).run Tryz.prog W = .ok (.tuple #[v, .bool true]) W := by kernel_rfl

theorem catch_idle (p : Addr) (w : World) :
    CallsD Tryz.prog 172 #[.pointer (some p)] .returning w fun e u' w' => e = .returned (.tuple #[]) ∧ u' = .returning ∧ w' = w := by
  refine callsD_of_wpS Tryz.func172 rfl fun c₀ cs hu => ?_
  apply wpS_seq
  apply wpS_region
  simp [wpOpsS, go_sem, recoverD, hu, Tryz.ntmps172, Exit.thenS]
  refine wpS_of_wp ?_
  have e : (#[Value.pointer (some p)] ++ ((Array.replicate 16 undef).setIfInBounds 3 Value.nilIface).setIfInBounds 0 Value.nilIface) = #[.pointer (some p), .nilIface, undef, undef, .nilIface, undef, undef, undef, undef, undef, undef, undef, undef, undef, undef, undef, undef] := rfl
  rw [e]
  clear e
  go_wp2
  cases c₀
  simp_all [bodyPostS, results, Tryz.results172]

set_option maxRecDepth 100000 in
set_option maxHeartbeats 1000000 in
theorem catch_stop (p : Addr) (x n : Int) (older : List PanicEntry) (w : World) (hc : w.cell? p = some (.int .i64 x)) (hz : w.frozen? p = false) :
    CallsD Tryz.prog 172 #[.pointer (some p)] (.panicking ({ v := .iface 194 (.agg #[.int .i64 n]), recovered := false } :: older)) w fun e u' w' =>
      e = .returned (.tuple #[]) ∧ u' = .panicking ({ v := .iface 194 (.agg #[.int .i64 n]), recovered := true } :: older) ∧ w' = (w.alloc (.cells #[.int .i64 n] 194)).setCell p (.int .i64 n) := by
  have hlt := World.block_lt_of_cell? w p hc
  refine callsD_of_wpS Tryz.func172 rfl fun c₀ cs hu => ?_
  apply wpS_seq
  apply wpS_region
  simp [wpOpsS, go_sem, recoverD, hu, Tryz.ntmps172, Exit.thenS]
  refine wpS_of_wp ?_
  have e : (#[Value.pointer (some p)] ++ ((Array.replicate 16 undef).setIfInBounds 3 (Value.iface 194 (Value.agg #[Value.int IntKind.i64 n]))).setIfInBounds 0 (Value.iface 194 (Value.agg #[Value.int IntKind.i64 n]))) = #[.pointer (some p), (Value.iface 194 (Value.agg #[Value.int IntKind.i64 n])), undef, undef, (Value.iface 194 (Value.agg #[Value.int IntKind.i64 n])), undef, undef, undef, undef, undef, undef, undef, undef, undef, undef, undef, undef] := rfl
  rw [e]
  clear e
  clear hu
  obtain ⟨Q, hQ⟩ : ∃ Q : Exit → Act → World → Prop, Q = (fun e a' w' => bodyPostS Tryz.prog Tryz.f172 c₀ cs (fun e u' w' => e = Ending.returned (Value.tuple #[]) ∧ u' = FrameMode.panicking ({ v := Value.iface 194 (Value.agg #[Value.int IntKind.i64 n]), recovered := true } :: older) ∧ w' = (w.alloc (Obj.cells #[Value.int IntKind.i64 n] 194)).setCell p (Value.int IntKind.i64 n)) e a' ({ fn := c₀.fn, tmps := c₀.tmps, todo := c₀.todo, defers := c₀.defers, mode := FrameMode.panicking ({ v := Value.iface 194 (Value.agg #[Value.int IntKind.i64 n]), recovered := true } :: older), kind := c₀.kind, roundOf := c₀.roundOf } :: cs) w') := ⟨_, rfl⟩
  rw [← hQ]
  have HQ := hide hQ
  clear hQ
  have has := assertStop
  have hz1 : (w.alloc (.cells #[.int .i64 n] 194)).frozen? p = false := (((Kept.refl (fun _ => False) w).alloc _).frozen hlt (fun e => e)).trans hz
  have hc1 : (w.alloc (.cells #[.int .i64 n] 194)).cell? p = some (.int .i64 x) := ((Kept.refl (fun _ => False) w).alloc _).cell' hc (fun e => e)
  go_wp2_with fail
  rw [HQ.out]
  simp [bodyPostS, results, Tryz.results172]

end Go.Proofs.YtcidoodaiimhfaaGreat

/- WALKS of Run over one walk. -/
namespace Go.Proofs.YtcidoodaiimhfaaGreat
open Go.RowKit

/-- Run, where the walk comes to its end. -/
theorem runParse_ok (caps : Array Value) (S : Nat → Prop) (R : World → Prop) (w : World) (hS : ¬ S w.heap.size)
    (H : Calls Tryz.prog 188 caps (w.alloc (.cells #[.int .i64 0] 29)) fun e w1 => e = .returned (.tuple #[]) ∧ Kept S (w.alloc (.cells #[.int .i64 0] 29)) w1 ∧ R w1) :
    Calls Tryz.prog 125 #[.func (.func 188) #[] caps] w fun e w' => e = .returned (.int .i64 0) ∧ ∃ w1, R w1 ∧ Kept S w w1 ∧ Kept (one w.heap.size) w1 w' := by
  have hmf : ∀ (fn : Fn) (first cap : Array Value) (w : World), (Instr.makeFunc fn first cap).run Tryz.prog w = .ok (.func fn first cap) w := fun _ _ _ _ => rfl
  have HH := hide H
  clear H
  go_enter_defers Tryz.func125, Tryz.ntmps125
  go_wp2_with fail
  refine HH.out.mono ?_
  rintro e w1 ⟨rfl, hk1, hR⟩
  have hc1 : w1.cell? ⟨w.heap.size, 0, none⟩ = some (.int .i64 0) := hk1.cell' (by simp [go_sem]) hS
  have hf1 : w1.frozen? ⟨w.heap.size, 0, none⟩ = false := (hk1.frozen (p := ⟨w.heap.size, 0, none⟩) (by simp) hS).trans (by simp [go_sem])
  clear HH
  go_wp2
  refine leaves_cons (f := 172) (args := #[.pointer (some ⟨w.heap.size, 0, none⟩)]) (by simp) (by simp [go_sem]) ?_
  refine (catch_idle ⟨w.heap.size, 0, none⟩ _).mono ?_
  rintro e u' w'' ⟨rfl, rfl, rfl⟩
  have hc2 : (w1.setCell ⟨w.heap.size, 0, none⟩ (.int .i64 0)).cell? ⟨w.heap.size, 0, none⟩ = some (.int .i64 0) := World.cell?_setCell_same _ _ _ hc1
  have hk2 : Kept (one w.heap.size) w1 (w1.setCell ⟨w.heap.size, 0, none⟩ (.int .i64 0)) := (Kept.refl _ _).set1 _ _
  have hk0 : Kept S w w1 := ((Kept.refl S w).alloc _).trans hk1
  have fin : ∃ w1', R w1' ∧ Kept S w w1' ∧ Kept (one w.heap.size) w1' (w1.setCell ⟨w.heap.size, 0, none⟩ (.int .i64 0)) := ⟨w1, hR, hk0, hk2⟩
  have FIN := hide fin
  clear fin hk0 hk1 hk2 hR hmf hS
  generalize w1.setCell ⟨w.heap.size, 0, none⟩ (.int .i64 0) = w2 at *
  simp [Leaves, settle, results, Tryz.results125, go_sem, hc2]
  exact FIN.out

/-- Run, where the walk gives up. -/
theorem runParse_err (n : Int) (caps : Array Value) (S : Nat → Prop) (R : World → Prop) (w : World) (hS : ¬ S w.heap.size)
    (H : Calls Tryz.prog 188 caps (w.alloc (.cells #[.int .i64 0] 29)) fun e w1 => e = .panicked [{ v := .iface 194 (.agg #[.int .i64 (n)]), recovered := false }] ∧ Kept S (w.alloc (.cells #[.int .i64 0] 29)) w1 ∧ R w1) :
    Calls Tryz.prog 125 #[.func (.func 188) #[] caps] w fun e w' => e = .returned (.int .i64 n) ∧ ∃ w1, R w1 ∧ Kept S w w1 ∧ Kept (one w.heap.size) w1 w' := by
  have hmf : ∀ (fn : Fn) (first cap : Array Value) (w : World), (Instr.makeFunc fn first cap).run Tryz.prog w = .ok (.func fn first cap) w := fun _ _ _ _ => rfl
  have HH := hide H
  clear H
  go_enter_defers Tryz.func125, Tryz.ntmps125
  go_wp2_with fail
  refine HH.out.mono ?_
  rintro e w1 ⟨rfl, hk1, hR⟩
  have hc1 : w1.cell? ⟨w.heap.size, 0, none⟩ = some (.int .i64 0) := hk1.cell' (by simp [go_sem]) hS
  have hf1 : w1.frozen? ⟨w.heap.size, 0, none⟩ = false := (hk1.frozen (p := ⟨w.heap.size, 0, none⟩) (by simp) hS).trans (by simp [go_sem])
  clear HH
  refine leaves_cons (f := 172) (args := #[.pointer (some ⟨w.heap.size, 0, none⟩)]) (by simp) (by simp [go_sem]) ?_
  refine (catch_stop ⟨w.heap.size, 0, none⟩ 0 n [] _ hc1 hf1).mono ?_
  rintro e u' w'' ⟨rfl, rfl, rfl⟩
  have hk2 : Kept (one w.heap.size) w1 ((w1.alloc (.cells #[.int .i64 n] 194)).setCell ⟨w.heap.size, 0, none⟩ (.int .i64 n)) := ((Kept.refl _ _).alloc _).set1 _ _
  have hc2 : ((w1.alloc (.cells #[.int .i64 n] 194)).setCell ⟨w.heap.size, 0, none⟩ (.int .i64 n)).cell? ⟨w.heap.size, 0, none⟩ = some (.int .i64 n) :=
    World.cell?_setCell_same _ _ _ (((Kept.refl (fun _ => False) w1).alloc _).cell' hc1 (fun e => e))
  have hk0 : Kept S w w1 := ((Kept.refl S w).alloc _).trans hk1
  have fin : ∃ w1', R w1' ∧ Kept S w w1' ∧ Kept (one w.heap.size) w1' ((w1.alloc (.cells #[.int .i64 n] 194)).setCell ⟨w.heap.size, 0, none⟩ (.int .i64 n)) := ⟨w1, hR, hk0, hk2⟩
  have FIN := hide fin
  clear fin hk0 hk1 hk2 hR hmf hS
  generalize (w1.alloc (.cells #[.int .i64 n] 194)).setCell ⟨w.heap.size, 0, none⟩ (.int .i64 n) = w2 at *
  simp [Leaves, settle, results, Tryz.results125, go_sem, hc2]
  exact FIN.out
end Go.Proofs.YtcidoodaiimhfaaGreat

/- WALKS of the reading of a pattern. -/
namespace Go.Proofs.YtcidoodaiimhfaaGreat
open Go.RowKit

theorem infoPart : (Tryz.prog.info? 212).map (fun i => (i.zero, i.size, i.bytes)) = some (some (.agg #[.bool false, .nilFunc]), 2, 16) := by kernel_rfl
def partRow (ps : List (Value × Part)) : List Value := (ps.map fun x => [Value.bool x.2.many, x.1]).flatten
theorem partRow_snoc (ps : List (Value × Part)) (x : Value × Part) : partRow (ps ++ [x]) = partRow ps ++ [.bool x.2.many, x.1] := by simp [partRow]
theorem FnAt.oneCell {base : Nat} {w : World} {v : Value} {p : Part} (h : FnAt base w v p) : ∃ f caps, v = .func (.func f) #[] caps := by
  cases p with
  | star => exact ⟨_, _, h⟩
  | any => exact ⟨_, _, h⟩
  | lit c => obtain ⟨_, _, h, _⟩ := h; exact ⟨_, _, h⟩
  | cls neg sp => obtain ⟨_, _, _, _, _, _, h, _⟩ := h; exact ⟨_, _, h⟩
/-- the parts of a pattern that lie in memory -/
structure PartsAt (base : Nat) (w : World) (V : Value) (ps : List (Value × Part)) : Prop where
  row : w.ownsRow base 212 2 V ps.length (partRow ps)
  fns : ∀ x ∈ ps, FnAt base w x.1 x.2
def InPost (b bp base : Nat) (l0 : List UInt8) (w : World) (e : Ending) (w' : World) : Prop :=
  Kept (fun j => j = b ∨ j = bp) w w' ∧
    (∀ ps, pParts l0 = .ok ps → e = .returned (.tuple #[]) ∧ ∃ V acc, acc.map Prod.snd = ps ∧ w'.heap[bp]? = some (.cells #[V] 154) ∧ PartsAt base w' V acc ∧ acc.length ≤ 60) ∧
    (∀ n, pParts l0 = .error n → e = .panicked [{ v := .iface 194 (.agg #[.int .i64 (n)]), recovered := false }])
theorem InPost.err {b bp base : Nat} {l : List UInt8} {w w' : World} {x : Nat} (hp : pParts l = .error x) (hk : Kept (fun j => j = b ∨ j = bp) w w') : InPost b bp base l w (.panicked [{ v := .iface 194 (.agg #[.int .i64 (x)]), recovered := false }]) w' :=
  ⟨hk, fun v hx => by rw [hp] at hx; simp at hx, fun n hx => by rw [hp] at hx; simp at hx; subst hx; rfl⟩
theorem part_err (b : Nat) (s : ByteArray) (l : List UInt8) (n : Nat) (w : World) (h : AtL b s l w) (hs : s.size ≤ 60) (hp : pPart l = .error n) :
    Calls Tryz.prog 189 #[.pointer (some ⟨b, 0, none⟩)] w fun e w' => e = .panicked [{ v := .iface 194 (.agg #[.int .i64 (n)]), recovered := false }] ∧ Kept (one b) w w' :=
  (part_any b s l w h hs).mono fun _ _ ⟨h1, _, h2⟩ => ⟨h2 n hp, h1⟩
theorem part_ok (b : Nat) (s : ByteArray) (l q : List UInt8) (p : Part) (w : World) (h : AtL b s l w) (hs : s.size ≤ 60) (hp : pPart l = .ok (p, q)) :
    Calls Tryz.prog 189 #[.pointer (some ⟨b, 0, none⟩)] w fun e w' => ∃ f caps, e = .returned (.agg #[.bool p.many, .func (.func f) #[] caps]) ∧ FnAt w.heap.size w' (.func (.func f) #[] caps) p ∧ AtL b s q w' ∧ Kept (one b) w w' :=
  (part_any b s l w h hs).mono fun _ _ ⟨h1, h2, _⟩ => by
    obtain ⟨v, h3, h4, h5⟩ := h2 p q hp
    obtain ⟨f, caps, rfl⟩ := h4.oneCell
    exact ⟨f, caps, h3, h4, h5, h1⟩

set_option maxRecDepth 100000 in
set_option maxHeartbeats 2000000 in
theorem parse1_any (b bw bp base : Nat) (s : ByteArray) (l0 : List UInt8) (w : World) (h : AtL b s l0 w) (hs : s.size ≤ 60) (hw : w.heap[bw]? = some (.cells #[.pointer (some ⟨b, 0, none⟩)] 148)) (hp0 : w.heap[bp]? = some (.cells #[.slice none 0 0] 154))
    (hbw : b ≠ bw) (hbp : b ≠ bp) (hwp : bw ≠ bp) (hb1 : b < base) (hb2 : bw < base) (hb3 : bp < base) (hbase : base = w.heap.size) :
    Calls Tryz.prog 188 #[.pointer (some ⟨bw, 0, none⟩), .pointer (some ⟨bp, 0, none⟩)] w (InPost b bp base l0 w) := by
  obtain ⟨i0, hi, hz0, hz1, hz2⟩ := info_parts infoPart
  have HA := hide h
  have HW := hide hw
  have HP0 := hide hp0
  clear h hw hp0
  go_enter Tryz.func188, Tryz.ntmps188
  go_wp2_with fail
  go_loopw [] (fun wr => ∃ (acc : List (Value × Part)) (l : List UInt8) (V : Value), AtL b s l wr ∧ acc.length + l.length ≤ s.size ∧ Hid (wr.heap[bw]? = some (.cells #[.pointer (some ⟨b, 0, none⟩)] 148)) ∧ Hid (wr.heap[bp]? = some (.cells #[V] 154)) ∧
      Hid (PartsAt base wr V acc) ∧ Kept (fun j => j = b ∨ j = bp) w wr ∧ Hid (pParts l0 = aheadP (acc.map Prod.snd) (pParts l))) (fun wr => leftOf b s wr)
  case atStart => exact ⟨[], l0, _, HA.out, by have := HA.out.len; simpa using this, HW, HP0, ⟨World.ownsRow_nil _ _ _ _, fun x hx => by simp at hx⟩, Kept.refl _ _, by rw [Hid, List.map_nil, aheadP_nil]⟩
  case round =>
    clear HA HW HP0
    obtain ⟨acc, l, V, ha, hacc, HW, HV, HPA, hkw, HP⟩ := hrel
    obtain ⟨ao, cp, rfl⟩ := rowSlice2 HPA.out.row
    obtain ⟨x0, _⟩ := one_of HW.out
    obtain ⟨y0, y1⟩ := one_of HV.out
    have hlf := ha.left
    have hzr : base ≤ wr.heap.size := by have := hkw.size; omega
    cases l with
    | nil =>
      have HP2 : Hid (pParts l0 = .ok (acc.map Prod.snd)) := by rw [Hid, HP.out, pParts_nil]; simp [aheadP]
      go_wp2_with fail
      refine (done_nil b s wr ha).mono ?_
      rintro e w' ⟨rfl, nd, rfl⟩
      go_wp2_with fail
      have fin : InPost b bp base l0 w (.returned (.tuple #[])) (wr.drewN nd) := ⟨hkw.drewN nd, fun ps hx => by
        rw [HP2.out] at hx
        simp at hx
        subst hx
        have k1 : Kept (fun _ => False) wr (wr.drewN nd) := (Kept.refl _ wr).drewN nd
        exact ⟨rfl, _, acc, rfl, HV.out, ⟨k1.owns HPA.out.row (fun _ _ e => e), fun x hx => (HPA.out.fns x hx).kept k1 (Nat.le_refl _) (fun _ _ _ _ _ _ e => e)⟩, by simp at hacc; omega⟩, fun n hx => by rw [HP2.out] at hx; simp at hx⟩
      go_end0
      exact fin
    | cons c l =>
      simp only [List.length_cons] at hacc hlf
      cases hps : pPart (c :: l) with
      | error x =>
        have HP2 : Hid (pParts l0 = .error x) := by rw [Hid, HP.out, aheadP_err hps]
        go_wp2_with fail
        refine (done_cons b s c l wr ha).mono ?_
        rintro e w' ⟨rfl, nd, rfl⟩
        have ha1 : AtL b s (c :: l) ((wr.drewN nd).drewN 1) := (ha.drewN nd).drewN 1
        have hk1 : Kept (fun j => j = b ∨ j = bp) w ((wr.drewN nd).drewN 1) := (hkw.drewN nd).drewN 1
        go_wp2_with fail
        refine wp_region_any (by kernel_rfl) ?_
        change wpAny _ _ _ _ _ _ _ (World.drew _)
        refine wpAny_ready (rs := [0, 1]) (by kernel_rfl) (by simp) ?_
        refine AllReady.cons rfl (fun K hK => ?_) ?_
        · go_simp
          refine hK _ _ ?_
          clear hK K
          refine wpAny_ready (rs := [1]) (by kernel_rfl) (by simp) ?_
          refine AllReady.cons rfl (fun K hK => ?_) AllReady.nil
          go_simp
          refine hK _ _ ?_
          clear hK K
          refine wpAny_ready (rs := [2]) (by kernel_rfl) (by simp) ?_
          refine AllReady.cons rfl (fun K hK => ?_) AllReady.nil
          go_simp
          refine (part_err b s (c :: l) x _ ha1 hs hps).mono ?_
          rintro e w3 ⟨rfl, hk3⟩
          exact ⟨rfl, InPost.err HP2.out (hk1.trans (hk3.mono (fun j _ e => .inl e)))⟩
        · refine AllReady.cons rfl (fun K hK => ?_) AllReady.nil
          go_simp
          refine hK _ _ ?_
          clear hK K
          refine wpAny_ready (rs := [0, 2]) (by kernel_rfl) (by simp) ?_
          refine AllReady.cons rfl (fun K hK => ?_) ?_
          · go_simp
            refine hK _ _ ?_
            clear hK K
            refine wpAny_ready (rs := [2]) (by kernel_rfl) (by simp) ?_
            refine AllReady.cons rfl (fun K hK => ?_) AllReady.nil
            go_simp
            refine (part_err b s (c :: l) x _ ha1 hs hps).mono ?_
            rintro e w3 ⟨rfl, hk3⟩
            exact ⟨rfl, InPost.err HP2.out (hk1.trans (hk3.mono (fun j _ e => .inl e)))⟩
          · refine AllReady.cons rfl (fun K hK => ?_) AllReady.nil
            go_simp
            refine (part_err b s (c :: l) x _ ha1 hs hps).mono ?_
            rintro e w3 ⟨rfl, hk3⟩
            exact ⟨rfl, InPost.err HP2.out (hk1.trans (hk3.mono (fun j _ e => .inl e)))⟩
      | ok y =>
        obtain ⟨p, q⟩ := y
        have hq := (pPart_suffix hps).2
        simp only [List.length_cons] at hq
        have HP2 : Hid (pParts l0 = aheadP ((acc.map Prod.snd) ++ [p]) (pParts q)) := by rw [Hid, HP.out, aheadP_ok hps]
        clear HP
        have hbl := ha.lt
        go_wp2_with fail
        refine (done_cons b s c l wr ha).mono ?_
        rintro e w' ⟨rfl, nd, rfl⟩
        have ha1 : AtL b s (c :: l) ((wr.drewN nd).drewN 1) := (ha.drewN nd).drewN 1
        have k01 : ∀ S, Kept S wr ((wr.drewN nd).drewN 1) := fun S => ((Kept.refl S wr).drewN nd).drewN 1
        go_wp2_with fail
        go_region_law (first
          | (refine step_append_lies _ (by rfl) _ _ 154 (by rfl) base 212 i0 (.agg #[.bool false, .nilFunc]) 2 16 Tryz.underlying154 hi hz0 hz1 hz2 rfl (by omega) (.slice ao acc.length cp) acc.length (partRow acc) (by rfl) (hown3.alloc _) ⟨w3.heap.size, 0, none⟩ 1 1 [.bool p.many, .func (.func fv) #[] caps] (by rfl) (by rfl) (fun j u hj => by match j, hj with | 0, hj => (simp at hj; subst hj; simp [Addr.add]) | 1, hj => (simp at hj; subst hj; simp [Addr.add]) | _ + 2, hj => (simp at hj)) (fun u hu => by simp at hu; rcases hu with rfl | rfl <;> rfl) (by omega) (by unfold maxLen; omega) (by omega) (by simp; omega) (w3.heap.size + 1) (by simp) ?_; intro g cap w4 hown4 hgrow hat hlt4; have hk4 : Kept (fun j => some j = (Value.slice ao acc.length cp).ownBlock) (w3.alloc (.cells #[.bool p.many, .func (.func fv) #[] caps] 212)) w4 := ⟨hgrow.os, hgrow.tape, hgrow.output, hgrow.size, fun j hj hs => hgrow.block j hj hs⟩; have hV4 := (hk4.block bp (by simp; omega) (fun e => by have := (hown3.lt bp e.symm).1; omega)).trans (hV3 _); have hc4 := (one_of hV4).1; have hf4 := (one_of hV4).2)
          | (go_simp; refine (part_ok b s (c :: l) q p _ ha1 hs hps).mono ?_; rintro e w3 ⟨fv, caps, rfl, hfn3, ha3, hk3⟩; have hk3a : Kept (one b) wr w3 := (k01 _).trans hk3; have hsz3 : wr.heap.size ≤ w3.heap.size := hk3a.size; have hV3 : ∀ o, (w3.alloc o).heap[bp]? = some (.cells #[.slice ao acc.length cp] 154) := fun o => ((hk3a.alloc o).block bp (by omega) (fun e => by simp only [one] at e; omega)).trans HV.out; have hV30 : w3.heap[bp]? = some (.cells #[.slice ao acc.length cp] 154) := (hk3a.block bp (by omega) (fun e => by simp only [one] at e; omega)).trans HV.out; have hc3 := (one_of hV30).1; have hc3a := fun o => (one_of (hV3 o)).1; have hown3 := hk3a.owns HPA.out.row (fun j hv hs => by have := (HPA.out.row.lt j hv).1; simp only [one] at hs; omega)))
        all_goals
          have hbT : ∀ (k : Nat) (cs : Array Value) (T : Nat), base ≤ k → (w3.alloc (.cells #[.bool p.many, .func (.func fv) #[] caps] 212)).heap[k]? = some (.cells cs T (0, 0)) → T ≠ 212 → ¬ some k = (Value.slice ao acc.length cp).ownBlock := fun k cs T _ h1 h2 h3 => by
            rcases (hown3.alloc (.cells #[.bool p.many, .func (.func fv) #[] caps] 212)).2 with ⟨hv, _⟩ | ⟨g', cap', cur', hv, _, hg', _⟩
            · simp at hv; obtain ⟨rfl, _⟩ := hv; simp [Value.ownBlock] at h3
            · simp at hv
              obtain ⟨rfl, _⟩ := hv
              simp [Value.ownBlock] at h3
              subst h3
              rw [hg'] at h1
              simp at h1
              exact h2 h1.2.symm
          have hFa : ∀ x ∈ acc, FnAt base w4 x.1 x.2 := fun x hx => (((HPA.out.fns x hx).kept hk3a (Nat.le_refl _) (fun k cs T hk _ _ e => by simp only [one] at e; omega)).kept (S := fun _ => False) ((Kept.refl _ _).alloc _) (Nat.le_refl _) (fun _ _ _ _ _ _ e => e)).kept hk4 (Nat.le_refl _) hbT
          have hFn : FnAt base w4 (.func (.func fv) #[] caps) p := ((hfn3.kept (S := fun _ => False) ((Kept.refl _ _).alloc _) (show base ≤ _ from hzr) (fun _ _ _ _ _ _ e => e))).kept hk4 (Nat.le_refl _) hbT
          have hol : (acc ++ [(Value.func (.func fv) #[] caps, p)]).length = acc.length + 1 := by simp
          have hrw : partRow acc ++ [.bool p.many, .func (.func fv) #[] caps] = partRow (acc ++ [(Value.func (.func fv) #[] caps, p)]) := (partRow_snoc acc (.func (.func fv) #[] caps, p)).symm
          rw [hrw] at hown4
          have kst := (Kept.refl (one bp) w4).set1 0 (.slice (some ⟨g, 0, none⟩) (acc.length + 1) cap)
          have hkall : Kept (fun j => j = b ∨ base ≤ j) wr w4 := ((hk3a.mono (fun j _ e => .inl e)).alloc _).trans (hk4.mono (fun j _ e => .inr (hown3.lt j e.symm).1))
          have hkw4 : Kept (fun j => j = b ∨ j = bp) w w4 := ((hkw.mono (T := fun j => (j = b ∨ j = bp) ∨ w.heap.size ≤ j) (fun _ _ e => .inl e)).trans (hkall.mono (fun j hj e => by rcases e with e | e; exact .inl (.inl e); exact .inr (by omega)))).mono (fun j hj e => by rcases e with e | e; exact e; omega)
          have ha4 : AtL b s q w4 := ((ha3.alloc _).kept hk4 (fun e => by have := (hown3.lt b e.symm).1; omega))
          have HW5 : Hid ((w4.setCell ⟨bp, 0, none⟩ (.slice (some ⟨g, 0, none⟩) (acc.length + 1) cap)).heap[bw]? = some (.cells #[.pointer (some ⟨b, 0, none⟩)] 148)) := (kst.block bw (by have := hkall.size; omega) (fun e => by simp only [one] at e; omega)).trans ((hkall.block bw (by omega) (fun e => by rcases e with e | e <;> omega)).trans HW.out)
          have HV5 : Hid ((w4.setCell ⟨bp, 0, none⟩ (.slice (some ⟨g, 0, none⟩) (acc.length + 1) cap)).heap[bp]? = some (.cells #[.slice (some ⟨g, 0, none⟩) (acc.length + 1) cap] 154)) := setCell_heap1 hV4 0 _
          have HPA5 : Hid (PartsAt base (w4.setCell ⟨bp, 0, none⟩ (.slice (some ⟨g, 0, none⟩) (acc.length + 1) cap)) (.slice (some ⟨g, 0, none⟩) (acc.length + 1) cap) (acc ++ [(Value.func (.func fv) #[] caps, p)])) := by
            refine ⟨by rw [hol]; exact kst.owns hown4 (fun j hj e => by have := (hown4.lt j hj).1; simp only [one] at e; omega), fun x hx => ?_⟩
            have hx4 : FnAt base w4 x.1 x.2 := by
              rw [List.mem_append] at hx
              rcases hx with hx | hx
              · exact hFa x hx
              · simp only [List.mem_singleton] at hx
                subst hx
                exact hFn
            exact hx4.kept kst (Nat.le_refl _) (fun k cs T hk _ _ e => by simp only [one] at e; omega)
          have ha5 : AtL b s q (w4.setCell ⟨bp, 0, none⟩ (.slice (some ⟨g, 0, none⟩) (acc.length + 1) cap)) := ha4.setOther (by omega) _
          have hk5 : Kept (fun j => j = b ∨ j = bp) w (w4.setCell ⟨bp, 0, none⟩ (.slice (some ⟨g, 0, none⟩) (acc.length + 1) cap)) := hkw4.setCell (p := ⟨bp, 0, none⟩) (.inl (.inr rfl)) _
          have hl5 := ha5.left
          clear hbT hFa hFn hown4 kst hkall hkw4 ha4 hk4 hgrow hat hlt4 hown3 hk3a hk3 ha3 hfn3 hV3 hV30 hc3 hc3a HW HV HPA hV4 x0 y0 y1
          go_wp2_with fail
          go_roundw
          case rel => exact ⟨acc ++ [(Value.func (.func fv) #[] caps, p)], q, _, ha5, by rw [hol]; omega, HW5, HV5, HPA5, hk5, by rw [Hid, HP2.out]; simp⟩
          case measure => rw [hl5, hlf]; omega
end Go.Proofs.YtcidoodaiimhfaaGreat

/- WALK of the reading of a pattern, whole. -/
namespace Go.Proofs.YtcidoodaiimhfaaGreat
open Go.RowKit

theorem pSpan_code {c : UInt8} {l : List UInt8} {n : Nat} (h : pSpan c l = .error n) : n = 1 ∨ n = 8 := by
  unfold pSpan at h
  split at h
  · split at h
    · simp at h
    · split at h
      · simp at h
      · simp at h; omega
  · simp at h
theorem pClsF_code : ∀ (f : Nat) (l : List UInt8) (n : Nat), pClsF f l = .error n → n = 1 ∨ n = 8
  | 0, _, n, h => by simp [pClsF] at h; omega
  | _ + 1, [], n, h => by simp [pClsF] at h; omega
  | f + 1, c :: l, n, h => by
    rw [pClsF] at h
    split at h
    · simp at h
    · split at h
      · rename_i e he; simp at h; subst h; exact pSpan_code he
      · split at h
        · rename_i e he; simp at h; subst h; exact pClsF_code f _ _ he
        · simp at h
theorem pPart_code {l : List UInt8} {n : Nat} (h : pPart l = .error n) : n = 1 ∨ n = 8 := by
  cases l with
  | nil => simp [pPart] at h; omega
  | cons c l =>
    rw [pPart] at h
    split at h
    · simp at h
    · split at h
      · simp at h
      · split at h
        · unfold pBracket at h
          split at h
          · rename_i e he; simp at h; subst h; exact pClsF_code _ _ _ he
          · simp at h; omega
          · simp at h
        · split at h
          · cases l with
            | nil => simp [pEsc] at h; omega
            | cons d r => simp [pEsc] at h
          · simp at h
theorem pPartsF_code : ∀ (f : Nat) (l : List UInt8) (n : Nat), pPartsF f l = .error n → n = 1 ∨ n = 8
  | f, [], n, h => by rw [pPartsF] at h; simp at h
  | 0, c :: l, n, h => by rw [pPartsF] at h; simp at h; omega
  | f + 1, c :: l, n, h => by
    rw [pPartsF] at h
    split at h
    · rename_i e he; simp at h; subst h; exact pPart_code he
    · split at h
      · rename_i e he; simp at h; subst h; exact pPartsF_code f _ _ he
      · simp at h
theorem PartsAt.kept {base base2 : Nat} {w w' : World} {V : Value} {ps : List (Value × Part)} (h : PartsAt base w V ps) {S : Nat → Prop} (hk : Kept S w w') (hb : base2 ≤ base) (hS : ∀ k, S k → k < base) : PartsAt base2 w' V ps :=
  ⟨ownsRow_low2 (hk.owns h.row (fun j hj e => by have := (h.row.lt j hj).1; have := hS j e; omega)) hb, fun x hx => (h.fns x hx).kept hk hb (fun k cs T hk _ _ e => by have := hS k e; omega)⟩

theorem overG_any (s : ByteArray) (w : World) :
    Calls Tryz.prog 128 #[.string s] w fun e w' => e = .returned (.pointer (some ⟨w.heap.size, 0, none⟩)) ∧ w' = w.alloc (.cells #[.string s, .int .i64 0] 207) := by
  go_enter Tryz.func128, Tryz.ntmps128
  go_wp2
  go_ret
  exact ⟨rfl, rfl⟩
/-- the world in which the reading begins -/
theorem begin4 (s : ByteArray) (hs : s.size ≤ 60) (w : World) (W : World) (hW : W = (((w.alloc (.cells #[.slice none 0 0] 154)).alloc (.cells #[.string s, .int .i64 0] 207)).alloc (.cells #[.pointer (some ⟨(w.heap.size + 1), 0, none⟩)] 148))) (o : Obj) :
    AtL (w.heap.size + 1) s s.data.toList (W.alloc o) ∧ (W.alloc o).heap[w.heap.size + 2]? = some (.cells #[.pointer (some ⟨(w.heap.size + 1), 0, none⟩)] 148) ∧ (W.alloc o).heap[w.heap.size]? = some (.cells #[.slice none 0 0] 154) ∧ (W.alloc o).heap.size = w.heap.size + 4 ∧ W.heap.size = w.heap.size + 3 ∧ Below w.heap.size w W := by
  subst hW
  have e1 : (w.alloc (.cells #[.slice none 0 0] 154)).heap.size = w.heap.size + 1 := by simp
  have h1 := heap_alloc_new (w.alloc (.cells #[.slice none 0 0] 154)) (.cells #[.string s, .int .i64 0] 207)
  rw [e1] at h1
  have e2 : ((w.alloc (.cells #[.slice none 0 0] 154)).alloc (.cells #[.string s, .int .i64 0] 207)).heap.size = w.heap.size + 2 := by simp
  have h2 := heap_alloc_new ((w.alloc (.cells #[.slice none 0 0] 154)).alloc (.cells #[.string s, .int .i64 0] 207)) (.cells #[.pointer (some ⟨(w.heap.size + 1), 0, none⟩)] 148)
  rw [e2] at h2
  have h1' : ((((w.alloc (.cells #[.slice none 0 0] 154)).alloc (.cells #[.string s, .int .i64 0] 207)).alloc (.cells #[.pointer (some ⟨(w.heap.size + 1), 0, none⟩)] 148)).alloc o).heap[w.heap.size + 1]? = some (.cells #[.string s, .int .i64 0] 207) := (Below.heap_alloc _ _ _ (by simp)).trans ((Below.heap_alloc _ _ _ (by simp)).trans h1)
  obtain ⟨c0, c1, _, f1⟩ := two_of h1'
  refine ⟨⟨⟨c0, ?_, f1, by omega, by unfold maxLen; omega⟩, List.suffix_refl _⟩, (Below.heap_alloc _ _ _ (by simp)).trans h2, (Below.heap_alloc _ _ _ (by simp; omega)).trans ((Below.heap_alloc _ _ _ (by simp; omega)).trans ((Below.heap_alloc _ _ _ (by simp)).trans (heap_alloc_new w _))), by simp, by simp, (((Below.refl _ w).alloc (Nat.le_refl _) _).alloc (by simp) _).alloc (by simp; omega) _⟩
  rw [c1, size_list, Nat.sub_self]
  rfl

def ParsePost (s : ByteArray) (w : World) (e : Ending) (w' : World) : Prop :=
  Below w.heap.size w w' ∧ (∀ ps, pParts s.data.toList = .ok ps → ∃ a cap acc, acc.map Prod.snd = ps ∧ e = .returned (.tuple #[.slice a acc.length cap, .int .i64 0]) ∧ PartsAt w.heap.size w' (.slice a acc.length cap) acc ∧ acc.length ≤ 60) ∧
    (∀ n, pParts s.data.toList = .error n → e = .returned (.tuple #[.slice none 0 0, .int .i64 1]))

set_option maxRecDepth 100000 in
set_option maxHeartbeats 2000000 in
theorem parse_any (s : ByteArray) (w : World) (hs : s.size ≤ 60) : Calls Tryz.prog 136 #[.string s] w (ParsePost s w) := by
  have hmf : ∀ (fn : Fn) (first cap : Array Value) (w : World), (Instr.makeFunc fn first cap).run Tryz.prog w = .ok (.func fn first cap) w := fun _ _ _ _ => rfl
  have hs' : ¬ (60 : Int) < ((s.size : Nat) : Int) := by omega
  go_enter Tryz.func136, Tryz.ntmps136
  go_wp2_with (go_at_call 128; refine (overG_any _ _).mono ?_; rintro e w' ⟨rfl, rfl⟩)
  generalize hW : World.alloc _ _ = W
  have hBG := begin4 s hs w W (by rw [← hW]) (.cells #[.int .i64 0] 29)
  obtain ⟨b1, b2, b3, b4, b5, b6⟩ := hBG
  have H1 := parse1_any (w.heap.size + 1) (w.heap.size + 2) w.heap.size (W.alloc (.cells #[.int .i64 0] 29)).heap.size s s.data.toList _ b1 hs b2 b3 (by omega) (by omega) (by omega) (by omega) (by omega) (by omega) rfl
  have HH := hide H1
  clear H1 hW b1 b2 hs'
  cases hp : pParts s.data.toList with
  | error n =>
    have hn := pPartsF_code _ _ _ hp
    have hn0 : ((n : Int) == 0) = false := by rw [beq_eq_false_iff_ne]; omega
    refine (runParse_err n _ (fun j => j = w.heap.size + 1 ∨ j = w.heap.size) (fun _ => True) W (by omega) (HH.out.mono ?_)).mono ?_
    · rintro e w1 ⟨hk, _, herr⟩
      exact ⟨herr n hp, hk, trivial⟩
    · rintro e w2 ⟨rfl, w1, _, k1, k2⟩
      have hb2 : Below w.heap.size w w2 := b6.trans ((k1.below (by omega) (fun j e => by omega)).trans (k2.below (by have := k1.size; omega) (fun j e => by simp only [one] at e; omega)))
      clear HH b3 b4 b5 b6 k1 k2 hn
      go_wp2_with fail
      go_ret2
      exact ⟨hb2, fun ps hx => by rw [hp] at hx; simp at hx, fun _ _ => rfl⟩
  | ok ps =>
    refine (runParse_ok _ (fun j => j = w.heap.size + 1 ∨ j = w.heap.size) (fun w1 => ∃ V acc, acc.map Prod.snd = ps ∧ w1.heap[w.heap.size]? = some (.cells #[V] 154) ∧ PartsAt (w.heap.size + 4) w1 V acc ∧ acc.length ≤ 60) W (by omega) (HH.out.mono ?_)).mono ?_
    · rintro e w1 ⟨hk, hok, _⟩
      obtain ⟨h1, h2⟩ := hok ps hp
      rw [b4] at h2
      exact ⟨h1, hk, h2⟩
    · rintro e w2 ⟨rfl, w1, ⟨V, acc, hmap, hV, hPA, hlen⟩, k1, k2⟩
      obtain ⟨a, cap, rfl⟩ := rowSlice2 hPA.row
      have hz1 := k1.size
      have hb2 : Below w.heap.size w w2 := b6.trans ((k1.below (by omega) (fun j e => by omega)).trans (k2.below (by omega) (fun j e => by simp only [one] at e; omega)))
      have hV2 := (k2.block w.heap.size (by omega) (fun e => by simp only [one] at e; omega)).trans hV
      obtain ⟨c0, _⟩ := one_of hV2
      have HPA := hide (hPA.kept k2 (show w.heap.size ≤ w.heap.size + 4 by omega) (fun k e => by simp only [one] at e; omega))
      clear HH b3 b4 b5 b6 k1 k2 hV hV2 hPA
      generalize hln : acc.length = len at *
      go_wp2_with fail
      go_ret2
      subst hln
      exact ⟨hb2, fun ps' hx => by rw [hp] at hx; simp at hx; subst hx; exact ⟨a, cap, acc, hmap, rfl, HPA.out, hlen⟩, fun n hx => by rw [hp] at hx; simp at hx⟩
end Go.Proofs.YtcidoodaiimhfaaGreat

/- WALKS of matches: the looks over parts. -/
namespace Go.Proofs.YtcidoodaiimhfaaGreat
open Go.RowKit

theorem fnMany_any (m : Bool) (f : Nat) (caps : Array Value) (w : World) :
    Calls Tryz.prog 191 #[.agg #[.bool m, .func (.func f) #[] caps]] w fun e w' => e = .returned (.bool (!m)) ∧ Below w.heap.size w w' := by
  go_enter Tryz.func191, Tryz.ntmps191
  go_wp2
  go_ret
  exact ⟨rfl, (Below.refl _ _).alloc (Nat.le_refl _) _⟩

/-- parts that lie in memory, told by their marks -/
def MarksAt (w : World) (a : Option Addr) (ms : List Bool) : Prop :=
  ms = [] ∨ ∃ g o, a = some ⟨g, o, none⟩ ∧ ∀ i (h : i < ms.length), ∃ f caps, w.cell? ⟨g, o + i * 2, none⟩ = some (.bool ms[i]) ∧ w.cell? ⟨g, o + i * 2 + 1, none⟩ = some (.func (.func f) #[] caps)

set_option maxRecDepth 100000 in
set_option maxHeartbeats 1000000 in
theorem idxPart_any (a : Option Addr) (cap : Nat) (ms : List Bool) (w : World) (hs : MarksAt w a ms) (hn : ms.length ≤ 1000000) :
    Calls Tryz.prog 232 #[.slice a ms.length cap, .func (.func 191) #[] #[]] w fun e w' => (∃ n : Int, e = .returned (.int .i64 n) ∧ (decide (0 ≤ n) = ms.any (!·))) ∧ Below w.heap.size w w' := by
  have HS := hide hs
  clear hs
  go_enter Tryz.func232, Tryz.ntmps232
  go_wp2_with fail
  go_loopw [8] (fun i wr => ∃ k : Nat, k ≤ ms.length ∧ i = .int .i64 k ∧ Below w.heap.size w wr ∧ Hid ((ms.take k).any (!·) = false)) (fun i _ => ms.length - (intOf i).toNat)
  case atStart => exact ⟨0, Nat.zero_le _, rfl, Below.refl _ _, by simp [Hid]⟩
  case round =>
    obtain ⟨k, hk, rfl, hb, HA⟩ := hrel
    by_cases hlt : k < ms.length
    · obtain ⟨g, o, rfl, hcs⟩ : ∃ g o, a = some ⟨g, o, none⟩ ∧ ∀ i (h : i < ms.length), ∃ f caps, w.cell? ⟨g, o + i * 2, none⟩ = some (.bool ms[i]) ∧ w.cell? ⟨g, o + i * 2 + 1, none⟩ = some (.func (.func f) #[] caps) := by
        rcases HS.out with h | h
        · subst h; simp at hlt
        · exact h
      obtain ⟨f, caps, e0, e1⟩ := hcs k hlt
      have hgl : g < w.heap.size := World.block_lt_of_cell? _ _ e0
      have d0 := (hb.cell (p := ⟨g, o + k * 2, none⟩) hgl).trans e0
      have d1 := (hb.cell (p := ⟨g, o + k * 2 + 1, none⟩) hgl).trans e1
      have HT : Hid ((ms.take (k + 1)).any (!·) = ((ms.take k).any (!·) || !ms[k])) := by
        rw [Hid, List.take_succ_eq_append_getElem hlt, List.any_append]
        simp
      have HF : Hid (ms[k] = false → ms.any (!·) = true) := fun hx => List.any_eq_true.mpr ⟨ms[k], List.getElem_mem hlt, by rw [hx]; rfl⟩
      clear hcs e0 e1 HS
      go_wp2_with fail
      refine (fnMany_any ms[k] f caps wr).mono ?_
      rintro e w1 ⟨rfl, hb1⟩
      have hb2 : Below w.heap.size w w1 := hb.trans (hb1.mono hb.size)
      cases hx : ms[k] with
      | false =>
        have HY := hide (HF.out hx)
        clear HF HT hx
        go_wp2_with fail
        go_ret
        exact ⟨⟨_, rfl, by rw [HY.out]; simp⟩, hb2⟩
      | true =>
        have HY : Hid ((ms.take (k + 1)).any (!·) = false) := by rw [Hid, HT.out, HA.out, hx]; rfl
        clear HF HT hx
        go_wp2_with fail
        go_roundw
        case rel => exact ⟨k + 1, by omega, by go_num, hb2, HY⟩
        case measure => simp [intOf]; omega
    · have hkk : k = ms.length := by omega
      subst hkk
      have HY : Hid (ms.any (!·) = false) := by have := HA.out; rw [List.take_length] at this; exact this
      go_wp2_with fail
      go_ret
      exact ⟨⟨-1, rfl, by rw [HY.out]; rfl⟩, hb⟩
theorem containsPart_any (a : Option Addr) (cap : Nat) (ms : List Bool) (w : World) (hs : MarksAt w a ms) (hn : ms.length ≤ 1000000) :
    Calls Tryz.prog 190 #[.slice a ms.length cap, .func (.func 191) #[] #[]] w fun e w' => e = .returned (.bool (ms.any (!·))) ∧ Below w.heap.size w w' := by
  have HI := hide (idxPart_any a cap ms w hs hn)
  clear hs
  go_enter Tryz.func190, Tryz.ntmps190
  go_wp2_with fail
  refine HI.out.mono ?_
  rintro e w1 ⟨⟨n, rfl, hd⟩, hb⟩
  have HD := hide hd
  clear hd
  go_wp2_with fail
  go_ret
  exact ⟨by rw [← HD.out]; rfl, hb⟩

/-- a part's function tells whether a byte may be -/
theorem FnAt.calls {base : Nat} {w : World} {v : Value} {p : Part} (h : FnAt base w v p) :
    ∃ f caps, v = .func (.func f) #[] caps ∧ (f = 229 ∨ f = 231 ∨ f = 247) ∧ ∀ (c : UInt8) (W : World), Below w.heap.size w W → Calls Tryz.prog f (#[.int .u8 c.toNat] ++ caps) W fun e w' => e = .returned (.bool (p.may c)) ∧ Below W.heap.size W w' := by
  cases p with
  | star => exact ⟨_, _, h, .inl rfl, fun c W _ => (fnAny_any _ W).mono fun e w' ⟨h1, h2⟩ => ⟨h1, by rw [h2]; exact Below.refl _ _⟩⟩
  | any => exact ⟨_, _, h, .inl rfl, fun c W _ => (fnAny_any _ W).mono fun e w' ⟨h1, h2⟩ => ⟨h1, by rw [h2]; exact Below.refl _ _⟩⟩
  | lit d =>
    obtain ⟨b, _, h2, h3⟩ := h
    obtain ⟨c0, _⟩ := one_of h3
    exact ⟨_, _, h2, .inr (.inl rfl), fun c W hW => (fnLit_any b c d W ((hW.cell (p := ⟨b, 0, none⟩) (World.block_lt_of_cell? _ _ c0)).trans c0)).mono fun e w' ⟨h1, h2⟩ => ⟨h1, by rw [h2]; exact Below.refl _ _⟩⟩
  | cls neg sp =>
    obtain ⟨b1, b2, a, cap, _, _, h3, h4, h5, h6, h7⟩ := h
    obtain ⟨c0, _⟩ := one_of h4
    obtain ⟨d0, _⟩ := one_of h5
    exact ⟨_, _, h3, .inr (.inr rfl), fun c W hW => fnCls_any b1 b2 c neg a cap sp W ((hW.cell (p := ⟨b1, 0, none⟩) (World.block_lt_of_cell? _ _ c0)).trans c0) ((hW.cell (p := ⟨b2, 0, none⟩) (World.block_lt_of_cell? _ _ d0)).trans d0) ((spansAt_of_row h6).below hW) (by omega)⟩
theorem partRow_get : ∀ (l : List (Value × Part)) (i : Nat) (h : i < l.length), (partRow l)[i * 2]? = some (.bool l[i].2.many) ∧ (partRow l)[i * 2 + 1]? = some l[i].1
  | [], i, h => by simp at h
  | s :: l, 0, h => by simp [partRow]
  | s :: l, i + 1, h => by
    have := partRow_get l i (by simpa using h)
    simp only [partRow, List.map_cons, List.flatten_cons] at this ⊢
    rw [List.getElem?_append_right (by simp; omega), List.getElem?_append_right (by simp; omega)]
    rw [show (i + 1) * 2 - [Value.bool s.2.many, s.1].length = i * 2 by simp; omega, show (i + 1) * 2 + 1 - [Value.bool s.2.many, s.1].length = i * 2 + 1 by simp; omega]
    simpa using this
/-- the address of the parts behind a place -/
def tailA (a : Option Addr) (cap at_ : Nat) : Option Addr := if cap = at_ then a else a.map (·.add (at_ * 2))
theorem sizePart (w : World) : (Go.sizeOf 212).run Tryz.prog w = .ok 2 w := by kernel_rfl
theorem slice_parts (W : World) (a : Option Addr) (n cap at_ : Nat) (h : at_ ≤ n) :
    (Instr.slice 154 (.slice a n cap) (some (.int .i64 (at_ : Int))) none none).run Tryz.prog W = .ok (.slice (tailA a cap at_) (n - at_) (cap - at_)) W := by
  have ht : Tryz.prog.underlying 154 = some (.slice (Tryz.prog.elem 154)) := by kernel_rfl
  have he : Tryz.prog.elem 154 = 212 := by kernel_rfl
  rw [run_slice_l W _ _ _ _ ht .i64 _ (by omega) (by omega), he, sizePart]
  simp [Result.andThen, sliced, tailA]
theorem marks_of {base : Nat} {w : World} {a : Option Addr} {cap at_ : Nat} {ps : List (Value × Part)} (h : PartsAt base w (.slice a ps.length cap) ps) (hat : at_ ≤ ps.length) : MarksAt w (tailA a cap at_) ((ps.drop at_).map fun x => x.2.many) := by
  by_cases hz : at_ = ps.length
  · subst hz
    exact .inl (by simp)
  · rcases h.row.2 with ⟨hv, hn⟩ | ⟨g, cap', cur, hv, _, _, hcap, _⟩
    · omega
    · simp at hv
      obtain ⟨rfl, rfl⟩ := hv
      have hl : (partRow ps).length = ps.length * 2 := h.row.1
      refine .inr ⟨g, at_ * 2, by unfold tailA; rw [if_neg (by omega)]; simp [Addr.add]; omega, fun i hi => ?_⟩
      simp only [List.length_map, List.length_drop] at hi
      obtain ⟨g0, g1⟩ := partRow_get ps (at_ + i) (by omega)
      obtain ⟨f, caps, hf, _, _⟩ := (h.fns ps[at_ + i] (List.getElem_mem (by omega))).calls
      refine ⟨f, caps, ?_, ?_⟩
      · have := (h.row.cellAt ((at_ + i) * 2) (by omega)).trans g0
        rw [show at_ * 2 + i * 2 = (at_ + i) * 2 by omega, this]
        simp
      · have := (h.row.cellAt ((at_ + i) * 2 + 1) (by omega)).trans g1
        rw [show at_ * 2 + i * 2 + 1 = (at_ + i) * 2 + 1 by omega, this, hf]
end Go.Proofs.YtcidoodaiimhfaaGreat

/- WALK of matches. -/
namespace Go.Proofs.YtcidoodaiimhfaaGreat
open Go.RowKit

theorem PartsAt.below {base : Nat} {w w' : World} {V : Value} {ps : List (Value × Part)} (h : PartsAt base w V ps) (hb : Below w.heap.size w w') : PartsAt base w' V ps :=
  h.kept (Kept.of_below hb (fun _ => False)) (Nat.le_refl _) (fun _ e => e.elim)
theorem parts_cells {base : Nat} {w : World} {a : Option Addr} {cap : Nat} {ps : List (Value × Part)} (h : PartsAt base w (.slice a ps.length cap) ps) (k : Nat) (hk : k < ps.length) :
    ∃ g f caps, a = some ⟨g, 0, none⟩ ∧ w.cell? ⟨g, k * 2, none⟩ = some (.bool ps[k].2.many) ∧ w.cell? ⟨g, k * 2 + 1, none⟩ = some (.func (.func f) #[] caps) ∧ g < w.heap.size ∧ (f = 229 ∨ f = 231 ∨ f = 247) ∧
      ∀ (c : UInt8) (W : World), Below w.heap.size w W → Calls Tryz.prog f (#[.int .u8 c.toNat] ++ caps) W fun e w' => e = .returned (.bool (ps[k].2.may c)) ∧ Below W.heap.size W w' := by
  rcases h.row.2 with ⟨hv, hn⟩ | ⟨g, cap', cur, hv, _, _, hcap, _⟩
  · omega
  · simp at hv
    obtain ⟨rfl, rfl⟩ := hv
    have hl : (partRow ps).length = ps.length * 2 := h.row.1
    obtain ⟨g0, g1⟩ := partRow_get ps k hk
    obtain ⟨f, caps, hf, hf3, hc⟩ := (h.fns ps[k] (List.getElem_mem hk)).calls
    have c0 := (h.row.cellAt (k * 2) (by omega)).trans g0
    have c1 := (h.row.cellAt (k * 2 + 1) (by omega)).trans g1
    rw [hf] at c1
    exact ⟨g, f, caps, rfl, c0, c1, World.block_lt_of_cell? _ _ c0, hf3, hc⟩
def starVal : Option Nat → Int
  | none => -1
  | some k => k
theorem starVal_lo (o : Option Nat) : -1 ≤ starVal o := by cases o <;> simp [starVal] <;> omega

set_option maxRecDepth 100000 in
set_option maxHeartbeats 1000000 in
theorem matches_any (a : Option Addr) (cap base : Nat) (ps : List (Value × Part)) (s : ByteArray) (w : World) (h : PartsAt base w (.slice a ps.length cap) ps) (hn : ps.length ≤ 60) (hs : s.size ≤ 60) :
    Calls Tryz.prog 137 #[.slice a ps.length cap, .string s] w fun e w' => e = .returned (.bool (mat (ps.map Prod.snd) s.data.toList)) ∧ Below w.heap.size w w' := by
  have HPA := hide h
  have hsl := slice_parts
  have hls := size_list s
  have hlp : (ps.map Prod.snd).length = ps.length := by simp
  clear h
  go_enter Tryz.func137, Tryz.ntmps137
  go_wp2_with fail
  go_loopw [5, 6, 7, 8] (fun va vs vf vi wr => ∃ (at_ : Nat) (star : Option Nat) (from_ i : Nat), va = .int .i64 at_ ∧ vs = .int .i64 (starVal star) ∧ vf = .int .i64 from_ ∧ vi = .int .i64 i ∧ from_ ≤ i ∧ at_ ≤ ps.length ∧ i ≤ s.size ∧ starVal star < at_ ∧ Below w.heap.size w wr ∧ Hid (Stand (ps.map Prod.snd) s.data.toList at_ star from_ i)) (fun _ vs vf vi _ => (ps.length + 1 - (intOf vs + 1).toNat) * 4000 + (s.size - (intOf vf).toNat) * 62 + (s.size - (intOf vi).toNat))
  case atStart => exact ⟨0, none, 0, 0, rfl, rfl, rfl, rfl, Nat.le_refl _, Nat.zero_le _, Nat.zero_le _, by simp [starVal], Below.refl _ _, stand_begin _ _⟩
  case round =>
    obtain ⟨at_, star, from_, i, rfl, rfl, rfl, rfl, hfi, hat, hile, hsa, hb, HS⟩ := hrel
    have hlo := starVal_lo star
    by_cases hi : i < s.size
    · have hi' : i < s.data.toList.length := by rw [size_list]; exact hi
      by_cases ha : at_ < ps.length
      · have ha' : at_ < (ps.map Prod.snd).length := by simpa using ha
        have hgp : (ps.map Prod.snd)[at_] = ps[at_].2 := by simp
        obtain ⟨g, f, caps, rfl, c0, c1, hgl, hf3, hcall⟩ := parts_cells HPA.out at_ ha
        have d0 := (hb.cell (p := ⟨g, at_ * 2, none⟩) hgl).trans c0
        have d1 := (hb.cell (p := ⟨g, at_ * 2 + 1, none⟩) hgl).trans c1
        clear c0 c1
        cases hm : ps[at_].2.many with
        | true =>
          have HS2 : Hid (Stand (ps.map Prod.snd) s.data.toList (at_ + 1) (some at_) i i) := stand_star HS.out ha' (by rw [hgp]; exact hm)
          rw [hm] at d0
          clear hcall d1 hm hgp ha' hi'
          generalize starVal star = sv at *
          go_wp2_with fail
          go_roundw
          case rel => exact ⟨at_ + 1, some at_, i, i, by go_num, rfl, rfl, rfl, Nat.le_refl _, by omega, by omega, by simp [starVal]; omega, hb, HS2⟩
          case measure => simp [intOf] at *; omega
        | false =>
          have HC : Hid (∀ W, Below w.heap.size w W → Calls Tryz.prog f (#[.int .u8 s[i].toNat] ++ caps) W fun e w' => e = .returned (.bool (ps[at_].2.may s[i])) ∧ Below W.heap.size W w') := fun W hW => hcall s[i] W hW
          rw [hm] at d0
          have hzr := hb.size
          have hbd : Below w.heap.size w wr.drew := hb.drew
          clear hcall
          generalize hr : ps[at_].2.may s[i] = R at *
          go_wp2_with fail
          have hdec : decide (((at_ : Nat) : Int) < ((ps.length : Nat) : Int)) = true := decide_eq_true (by omega)
          rcases hf3 with rfl | rfl | rfl
          all_goals
            refine wp_region_any (by kernel_rfl) ?_
            change wpAny _ _ _ _ _ _ _ (World.drew _)
            refine wpAny_take (i := 0) (v := .int .i64 at_) rfl (by kernel_rfl) (by kernel_rfl) (by kernel_rfl) (fun _ _ _ h => h) (Or.inl ⟨by rfl, by intro w; go_simp⟩) ?_
            refine wpAny_take (i := 1) (v := .slice (some ⟨g, 0, none⟩) ps.length cap) rfl (by kernel_rfl) (by kernel_rfl) (by kernel_rfl) (fun _ _ _ h => h) (Or.inl ⟨by rfl, by intro w; go_simp⟩) ?_
            refine wpAny_take (i := 2) (v := .int .i64 ps.length) rfl (by kernel_rfl) (by kernel_rfl) (by kernel_rfl) (fun _ _ _ h => h) (Or.inl ⟨by rfl, by intro w; go_simp⟩) ?_
            refine wpAny_take (i := 3) (v := .bool true) rfl (by kernel_rfl) (by kernel_rfl) (by kernel_rfl) (fun _ _ _ h => h) (Or.inl ⟨by rfl, by intro w; go_simp⟩) ?_
            refine wpAny_take (i := 4) (v := .bool true) rfl (by kernel_rfl) (by kernel_rfl) (by kernel_rfl) (fun _ _ _ h => h) (Or.inl ⟨by rfl, by intro w; go_simp⟩) ?_
            refine wpAny_take (i := 5) (v := .slice (some ⟨g, 0, none⟩) ps.length cap) rfl (by kernel_rfl) (by kernel_rfl) (by kernel_rfl) (fun _ _ _ h => h) (Or.inl ⟨by kernel_rfl, by intro w; go_simp⟩) ?_
            refine wpAny_take (i := 6) (v := .int .i64 at_) rfl (by kernel_rfl) (by kernel_rfl) (by kernel_rfl) (fun _ _ _ h => h) (Or.inl ⟨by kernel_rfl, by intro w; go_simp⟩) ?_
            refine wpAny_take (i := 7) (v := .pointer (some ⟨g, at_ * 2, none⟩)) rfl (by kernel_rfl) (by kernel_rfl) (by kernel_rfl) (fun _ _ _ h => h) (Or.inl ⟨by kernel_rfl, by intro w; go_simp⟩) ?_
            refine wpAny_take (i := 8) (v := .pointer (some ⟨g, at_ * 2 + 1, none⟩)) rfl (by kernel_rfl) (by kernel_rfl) (by kernel_rfl) (fun _ _ _ h => h) (Or.inl ⟨by kernel_rfl, by intro w; go_simp⟩) ?_
            refine wpAny_take (i := 10) (v := .string s) rfl (by kernel_rfl) (by kernel_rfl) (by kernel_rfl) (fun _ _ _ h => h) (Or.inl ⟨by kernel_rfl, by intro w; go_simp⟩) ?_
            refine wpAny_take (i := 11) (v := .int .i64 i) rfl (by kernel_rfl) (by kernel_rfl) (by kernel_rfl) (fun _ _ _ h => h) (Or.inl ⟨by kernel_rfl, by intro w; go_simp⟩) ?_
            refine wpAny_take (i := 12) (v := .int .u8 s[i].toNat) rfl (by kernel_rfl) (by kernel_rfl) (by kernel_rfl) (fun _ _ _ h => h) (Or.inl ⟨by kernel_rfl, by intro w; go_simp⟩) ?_
            refine wpAny_ready (rs := [9]) (by kernel_rfl) (by simp) ?_
            refine AllReady.cons rfl (fun K hK => ?_) AllReady.nil
            go_simp
            refine hK _ _ ?_
            clear hK K
            refine wpAny_ready (rs := [13]) (by kernel_rfl) (by simp) ?_
            refine AllReady.cons rfl (fun K hK => ?_) AllReady.nil
            go_simp
            refine (HC.out _ hbd).mono ?_
            rintro e w1 ⟨rfl, hb1⟩
            refine hK _ _ ?_
            clear hK K
            refine wpAny_take (i := 14) (v := .bool R) rfl (by kernel_rfl) (by kernel_rfl) (by kernel_rfl) (fun _ _ _ h => h) (Or.inl ⟨by rfl, by intro w; go_simp⟩) ?_
            refine wpAny_take (i := 15) (v := .bool R) rfl (by kernel_rfl) (by kernel_rfl) (by kernel_rfl) (fun _ _ _ h => h) (Or.inl ⟨by rfl, by intro w; go_simp⟩) ?_
            refine wpAny_done (by kernel_rfl) ?_ _
            have hb2 : Below w.heap.size w w1 := hbd.trans (hb1.mono (show w.heap.size ≤ wr.drew.heap.size from hzr))
            cases R with
            | true =>
              have HS2 : Hid (Stand (ps.map Prod.snd) s.data.toList (at_ + 1) star from_ (i + 1)) := stand_step HS.out ha' (by rw [hgp]; exact hm) hi' (by rw [hgp]; exact hr)
              generalize hsv : starVal star = sv at *
              go_wp2_with fail
              go_roundw
              case rel => exact ⟨at_ + 1, star, from_, i + 1, by go_num, by rw [hsv], rfl, by go_num, by omega, by omega, by omega, by rw [hsv]; omega, hb2, HS2⟩
              case measure => simp only [intOf]; omega
            | false =>
              have HNO : Hid (mat ((ps.map Prod.snd).drop at_) (s.data.toList.drop i) = false) := stand_miss (by omega) hi' (fun _ => ⟨ha', by rw [hgp]; exact hm, by rw [hgp]; exact hr⟩)
              cases star with
              | none =>
                have HV := hide (stand_none HS.out HNO.out)
                simp only [starVal] at *
                go_wp2_with fail
                go_ret
                rw [HV.out]
                exact ⟨rfl, hb2⟩
              | some k =>
                have HS2 := hide (stand_back HS.out (by rw [size_list]; omega) HNO.out)
                have hfs := (HS.out.some k rfl).2.1
                simp only [starVal] at *
                go_wp2_with fail
                go_roundw
                case rel => exact ⟨k + 1, some k, from_ + 1, from_ + 1, by go_num, rfl, by go_num, by go_num, by omega, by omega, by omega, by simp [starVal]; omega, hb2, HS2⟩
                case measure => simp only [intOf, starVal]; omega
      · have hdec : decide (((at_ : Nat) : Int) < ((ps.length : Nat) : Int)) = false := decide_eq_false (by omega)
        have hdec' : ¬ ((at_ : Nat) : Int) < ((ps.length : Nat) : Int) := by omega
        have HNO : Hid (mat ((ps.map Prod.snd).drop at_) (s.data.toList.drop i) = false) := stand_miss (by omega) hi' (fun hlt => absurd hlt (by omega))
        have hbd : ∀ n, Below w.heap.size w (wr.drewN n) := fun n => ⟨hb.os, hb.tape, hb.output, hb.size, hb.block⟩
        clear hi'
        go_wp2_with fail
        go_quiet (fail)
        cases star with
        | none =>
          have HV := hide (stand_none HS.out HNO.out)
          simp only [starVal] at *
          go_wp2_with fail
          go_ret
          rw [HV.out]
          exact ⟨rfl, hbd _⟩
        | some k =>
          have HS2 := hide (stand_back HS.out (by rw [size_list]; omega) HNO.out)
          simp only [starVal] at *
          go_wp2_with fail
          go_roundw
          case rel => exact ⟨k + 1, some k, from_ + 1, from_ + 1, by go_num, rfl, by go_num, by go_num, by omega, by omega, by omega, by simp [starVal]; omega, hbd _, HS2⟩
          case measure => simp only [intOf, starVal]; omega
    · have hie : i = s.size := by omega
      have HV : Hid (mat (ps.map Prod.snd) s.data.toList = ((ps.map Prod.snd).drop at_).all Part.many) := stand_end HS.out (by rw [size_list]; exact hie)
      have hml : ((ps.drop at_).map fun x => x.2.many).length = ps.length - at_ := by simp
      have HCP : Hid (Calls Tryz.prog 190 #[.slice (tailA a cap at_) (ps.length - at_) (cap - at_), .func (.func 191) #[] #[]] wr fun e w' => e = .returned (.bool (!(((ps.map Prod.snd).drop at_).all Part.many))) ∧ Below wr.heap.size wr w') := by
        have h1 := containsPart_any (tailA a cap at_) (cap - at_) ((ps.drop at_).map fun x => x.2.many) wr (marks_of (HPA.out.below hb) hat) (by rw [hml]; omega)
        rw [hml] at h1
        have h2 : ((ps.drop at_).map fun x => x.2.many).any (!·) = !(((ps.map Prod.snd).drop at_).all Part.many) := by
          rw [← List.map_drop, List.any_map, List.all_map, List.not_all_eq_any_not]
          rfl
        rw [h2] at h1
        exact h1
      have hslk := fun W => hsl W a ps.length cap at_ hat
      generalize ((ps.map Prod.snd).drop at_).all Part.many = R at *
      generalize tailA a cap at_ = ta at *
      have hzr := hb.size
      clear hsl HS
      go_wp2_with fail
      refine HCP.out.mono ?_
      rintro e w1 ⟨rfl, hb1⟩
      go_wp2_with fail
      go_ret
      rw [HV.out]
      exact ⟨by simp, hb.trans (hb1.mono hzr)⟩
end Go.Proofs.YtcidoodaiimhfaaGreat

/- WALKS of Check and Match of patterns. -/
namespace Go.Proofs.YtcidoodaiimhfaaGreat
open Go.RowKit

/-- what Check answers -/
def checkG (p : ByteArray) : Int :=
  if 60 < p.size then 2 else match pParts p.data.toList with
    | .error _ => 1
    | .ok _ => 0
def matchE (p s : ByteArray) : Int := if checkG p ≠ 0 then checkG p else if 60 < s.size then 2 else 0
def matchB (p s : ByteArray) : Bool :=
  if matchE p s ≠ 0 then false else match pParts p.data.toList with
    | .error _ => false
    | .ok ps => mat ps s.data.toList

theorem parse_long (s : ByteArray) (w : World) (hs : 60 < s.size) : Calls Tryz.prog 136 #[.string s] w fun e w' => e = .returned (.tuple #[.slice none 0 0, .int .i64 2]) ∧ w' = w := by
  have hs' : (60 : Int) < ((s.size : Nat) : Int) := by omega
  go_enter Tryz.func136, Tryz.ntmps136
  go_wp2_with fail
  go_ret2
  exact ⟨rfl, rfl⟩
/-- what the reading of a pattern answers, whatever it is -/
theorem parse_tells (p : ByteArray) (w : World) : Calls Tryz.prog 136 #[.string p] w fun e w' => Below w.heap.size w w' ∧ ∃ a n cap, e = .returned (.tuple #[.slice a n cap, .int .i64 (checkG p)]) ∧
    (checkG p = 0 → ∃ acc, pParts p.data.toList = .ok (acc.map Prod.snd) ∧ n = acc.length ∧ PartsAt w.heap.size w' (.slice a acc.length cap) acc ∧ acc.length ≤ 60) := by
  by_cases hp : 60 < p.size
  · refine (parse_long p w hp).mono ?_
    rintro e w' ⟨rfl, rfl⟩
    have hc : checkG p = 2 := by rw [checkG, if_pos hp]
    exact ⟨Below.refl _ _, none, 0, 0, by rw [hc], fun h => by rw [hc] at h; cases h⟩
  · refine (parse_any p w (by omega)).mono ?_
    rintro e w' ⟨hb, hok, herr⟩
    refine ⟨hb, ?_⟩
    cases hps : pParts p.data.toList with
    | error n =>
      have hc : checkG p = 1 := by rw [checkG, if_neg hp, hps]
      exact ⟨none, 0, 0, by rw [hc]; exact herr n hps, fun h => by rw [hc] at h; cases h⟩
    | ok ps =>
      have hc : checkG p = 0 := by rw [checkG, if_neg hp, hps]
      obtain ⟨a, cap, acc, hm, he, hpa, hl⟩ := hok ps hps
      exact ⟨a, acc.length, cap, by rw [hc]; exact he, fun _ => ⟨acc, by rw [hm], rfl, hpa, hl⟩⟩

set_option maxRecDepth 100000 in
set_option maxHeartbeats 1000000 in
theorem check_tells (p : ByteArray) (w : World) : Calls Tryz.prog 60 #[.string p] w fun e w' => e = .returned (.int .i64 (checkG p)) ∧ Below w.heap.size w w' := by
  have HP := hide (parse_tells p w)
  generalize checkG p = C at *
  go_enter Tryz.func60, Tryz.ntmps60
  go_wp2_with fail
  refine HP.out.mono ?_
  rintro e w1 ⟨hb, a, n, cap, rfl, _⟩
  go_wp2_with fail
  go_ret
  exact ⟨rfl, hb⟩

set_option maxRecDepth 100000 in
set_option maxHeartbeats 1000000 in
theorem match_tells (p s : ByteArray) (w : World) : Calls Tryz.prog 61 #[.string p, .string s] w fun e w' => e = .returned (.tuple #[.bool (matchB p s), .int .i64 (matchE p s)]) ∧ Below w.heap.size w w' := by
  have HP := hide (parse_tells p w)
  by_cases hc : checkG p = 0
  · by_cases hs : 60 < s.size
    · have h1 : matchE p s = 2 := by rw [matchE, if_neg (by simp [hc]), if_pos hs]
      have h2 : matchB p s = false := by rw [matchB, if_pos (by rw [h1]; decide)]
      rw [h1, h2]
      rw [hc] at HP
      have hs' : (60 : Int) < ((s.size : Nat) : Int) := by omega
      clear h1 h2 hc
      go_enter Tryz.func61, Tryz.ntmps61
      go_wp2_with fail
      refine HP.out.mono ?_
      rintro e w1 ⟨hb, a, n, cap, rfl, _⟩
      go_wp2_with fail
      go_ret2
      exact ⟨rfl, hb⟩
    · have h1 : matchE p s = 0 := by rw [matchE, if_neg (by simp [hc]), if_neg hs]
      have HB : Hid (∀ ps, pParts p.data.toList = .ok ps → matchB p s = mat ps s.data.toList) := fun ps hps => by rw [matchB, if_neg (by simp [h1]), hps]
      rw [h1]
      rw [hc] at HP
      have hs' : ¬ (60 : Int) < ((s.size : Nat) : Int) := by omega
      clear h1 hc
      go_enter Tryz.func61, Tryz.ntmps61
      go_wp2_with fail
      refine HP.out.mono ?_
      rintro e w1 ⟨hb, a, n, cap, rfl, hex⟩
      obtain ⟨acc, hps, rfl, hpa, hl⟩ := hex trivial
      have HM := hide (matches_any a cap w.heap.size acc s w1 hpa hl (by omega))
      have HV := hide (HB.out _ hps)
      clear hex hpa hps HB
      generalize mat (acc.map Prod.snd) s.data.toList = R at *
      generalize acc.length = len at *
      have hz := hb.size
      go_wp2_with fail
      refine HM.out.mono ?_
      rintro e w2 ⟨rfl, hb2⟩
      go_wp2_with fail
      go_ret2
      rw [HV.out]
      exact ⟨rfl, hb.trans (hb2.mono hz)⟩
  · have h1 : matchE p s = checkG p := by rw [matchE, if_pos hc]
    have h2 : matchB p s = false := by rw [matchB, if_pos (by rw [h1]; exact hc)]
    rw [h1, h2]
    have hcb : (checkG p == 0) = false := by rw [beq_eq_false_iff_ne]; exact hc
    clear h1 h2 hc
    generalize checkG p = C at *
    go_enter Tryz.func61, Tryz.ntmps61
    go_wp2_with fail
    refine HP.out.mono ?_
    rintro e w1 ⟨hb, a, n, cap, rfl, _⟩
    go_wp2_with fail
    go_ret2
    exact ⟨rfl, hb⟩
end Go.Proofs.YtcidoodaiimhfaaGreat

/- WALKS of spaces: Keys. -/
namespace Go.Proofs.YtcidoodaiimhfaaGreat
open Go.RowKit

/-- is it a key that is there, and that matches? -/
def keyE (p : ByteArray) (now : Int) (x : Ent) : Bool := matchB p x.key && !goneE x now
/-- the keys that match -/
def keysE (s : List Ent) (now : Int) (p : ByteArray) : List ByteArray := (s.filter (keyE p now)).map Ent.key
/-- what Keys answers -/
def KeysPost (s : List Ent) (now : Int) (p : ByteArray) (w : World) (e : Ending) (w' : World) : Prop :=
  ((chkAt s now ≠ 0 ∧ e = .returned (.tuple #[.slice none 0 0, .int .i64 (chkAt s now)])) ∨
   (chkAt s now = 0 ∧ checkG p ≠ 0 ∧ e = .returned (.tuple #[.slice none 0 0, .int .i64 (checkG p)])) ∨
   (chkAt s now = 0 ∧ checkG p = 0 ∧ ∃ V, e = .returned (.tuple #[V, .int .i64 0]) ∧ w'.ownsRow w.heap.size 9 1 V (keysE s now p).length (YT.strs (keysE s now p)))) ∧ Below w.heap.size w w'
theorem keysE_step (s : List Ent) (now : Int) (p : ByteArray) (k : Nat) (hk : k < s.length) : keysE (s.take (k + 1)) now p = if keyE p now s[k] = true then keysE (s.take k) now p ++ [s[k].key] else keysE (s.take k) now p := by
  unfold keysE
  rw [List.take_succ_eq_append_getElem hk, List.filter_append, List.map_append]
  cases hq : keyE p now s[k] <;> simp [hq]
theorem keysE_len (s : List Ent) (now : Int) (p : ByteArray) : (keysE s now p).length ≤ s.length := by
  unfold keysE
  rw [List.length_map]
  exact List.length_filter_le _ _
set_option maxRecDepth 100000 in
set_option maxHeartbeats 4000000 in
theorem keys_any (a : Option Addr) (c : Nat) (s : List Ent) (now : Int) (p : ByteArray) (w : World) (hs : SpaceAt w a s) (hn : s.length ≤ 281474976710656) :
    Calls Tryz.prog 9 #[.slice a s.length c, .int .i64 now, .string p] w (KeysPost s now p w) := by
  have HC := hide (checkAt_any a c s now w hs (by omega))
  have HG : Hid (∀ W, Calls Tryz.prog 60 #[.string p] W fun e w' => e = .returned (.int .i64 (checkG p)) ∧ Below W.heap.size W w') := fun W => check_tells p W
  by_cases h0 : chkAt s now = 0
  · rw [h0] at HC
    by_cases h1 : checkG p = 0
    · rw [h1] at HG
      have hn2 := small_at h0
      have H01 := hide (And.intro h0 h1)
      have HS := hide hs
      clear h0 h1 hs
      go_enter Tryz.func9, Tryz.ntmps9
      go_wp2_with fail
      refine HC.out.mono ?_
      rintro e w1 ⟨rfl, hb1⟩
      go_wp2_with fail
      refine (HG.out w1).mono ?_
      rintro e w2 ⟨rfl, hb2⟩
      have B2 : Below w.heap.size w w2 := hb1.trans (hb2.mono hb1.size)
      clear hb1 hb2 HC HG
      go_wp2_with fail
      go_loopw [10, 28] (fun V i wr => ∃ (k : Nat), k ≤ s.length ∧ i = .int .i64 k ∧ Hid (wr.ownsRow w.heap.size 9 1 V (keysE (s.take k) now p).length (YT.strs (keysE (s.take k) now p))) ∧ Below w.heap.size w wr) (fun _ i _ => s.length - (intOf i).toNat)
      case atStart => exact ⟨0, Nat.zero_le _, rfl, World.ownsRow_nil _ _ _ _, B2⟩
      case round =>
        obtain ⟨k, hk, rfl, HO, hbr⟩ := hrel
        have hsz := hbr.size
        by_cases hlt : k < s.length
        · have hlt' : ((k : Nat) : Int) < ((s.length : Nat) : Int) := by omega
          obtain ⟨ga, o, rfl, hcs⟩ : ∃ ga o, a = some ⟨ga, o, none⟩ ∧ ∀ i (h : i < s.length), EntAt w ga (o + i * 7) s[i] := by
            rcases HS.out with h | h
            · rw [h] at hlt; simp at hlt
            · exact h
          obtain ⟨a1, c1, a2, c2, a3, c3, ⟨d0, d1, d2, d3, d4, d5, d6⟩, hi2⟩ := (hcs k hlt).below hbr
          have HST := hide (keysE_step s now p k hlt)
          have hkl : (keysE (s.take k) now p).length ≤ k := by
            have := keysE_len (s.take k) now p
            rw [List.length_take] at this
            omega
          obtain ⟨L, hL⟩ : ∃ L, keysE (s.take k) now p = L := ⟨_, rfl⟩
          rw [hL] at HO HST hkl
          clear hcs hL
          generalize s[k] = X at *
          have CA := (Below.refl wr.heap.size wr).alloc (Nat.le_refl _) (.cells #[.string X.key, .int .i64 X.item.k, .string X.item.t, .slice a1 X.item.l.length c1, .slice a2 X.item.p.length c2, .slice a3 X.item.s.length c3, .int .i64 X.til] 45)
          have AH := allocY_new wr (.cells #[.string X.key, .int .i64 X.item.k, .string X.item.t, .slice a1 X.item.l.length c1, .slice a2 X.item.p.length c2, .slice a3 X.item.s.length c3, .int .i64 X.til] 45)
          obtain ⟨W1, hW1⟩ : ∃ W1, wr.alloc (.cells #[.string X.key, .int .i64 X.item.k, .string X.item.t, .slice a1 X.item.l.length c1, .slice a2 X.item.p.length c2, .slice a3 X.item.s.length c3, .int .i64 X.til] 45) = W1 := ⟨_, rfl⟩
          rw [hW1] at CA AH
          have hz1 : wr.heap.size < W1.heap.size := (Array.getElem?_eq_some_iff.1 AH).1
          have i0 : W1.cell? ⟨wr.heap.size, 0, none⟩ = some (.string X.key) := by simp [World.cell?, AH]
          have HM := hide (match_tells p X.key W1)
          have hki : keyE p now X = (matchB p X.key && !goneE X now) := rfl
          go_wp2_with fail
          refine HM.out.mono ?_
          rintro e w3 ⟨rfl, hb3⟩
          have AH3 := (hb3.block _ hz1).trans AH
          have C3 : Below wr.heap.size wr w3 := CA.trans (hb3.mono CA.size)
          have hx3 : wr.heap.size < w3.heap.size := (Array.getElem?_eq_some_iff.1 AH3).1
          clear hb3 CA AH HM hz1 hW1 i0 d0 d1 d2 d3 d4 d5 d6
          have e0 : w3.cell? ⟨wr.heap.size, 0, none⟩ = some (.string X.key) := by simp [World.cell?, AH3]
          have e1 : w3.cell? ⟨wr.heap.size, 1, none⟩ = some (.int .i64 X.item.k) := by simp [World.cell?, AH3]
          have e2 : w3.cell? ⟨wr.heap.size, 2, none⟩ = some (.string X.item.t) := by simp [World.cell?, AH3]
          have e3 : w3.cell? ⟨wr.heap.size, 3, none⟩ = some (.slice a1 X.item.l.length c1) := by simp [World.cell?, AH3]
          have e4 : w3.cell? ⟨wr.heap.size, 4, none⟩ = some (.slice a2 X.item.p.length c2) := by simp [World.cell?, AH3]
          have e5 : w3.cell? ⟨wr.heap.size, 5, none⟩ = some (.slice a3 X.item.s.length c3) := by simp [World.cell?, AH3]
          have e6 : w3.cell? ⟨wr.heap.size, 6, none⟩ = some (.int .i64 X.til) := by simp [World.cell?, AH3]
          have C3' : Below w.heap.size w w3 := hbr.trans (C3.mono hsz)
          have HO3 := hide (row_belowY HO.out C3)
          have HGN := hide (isGone_any _ X now w3 ⟨a1, c1, a2, c2, a3, c3, rfl, hi2.below C3⟩)
          clear hi2 HO
          cases hmb : matchB p X.key with
          | false =>
            rw [hmb, Bool.false_and] at hki
            have HN : Hid (keysE (s.take (k + 1)) now p = L) := by rw [Hid, HST.out, if_neg (by rw [hki]; decide)]
            clear hki HST hmb HGN e1 e2 e3 e4 e5 e6 e0 AH3
            go_wp2_with fail
            go_roundw
            case rel => exact ⟨k + 1, by omega, by go_num, by rw [HN.out]; exact HO3, C3'⟩
            case measure => simp [intOf]; omega
          | true =>
            rw [hmb, Bool.true_and] at hki
            clear hmb
            cases hgn : goneE X now with
            | true =>
              rw [hgn] at hki HGN
              have HN : Hid (keysE (s.take (k + 1)) now p = L) := by rw [Hid, HST.out, if_neg (by rw [hki]; decide)]
              clear hki HST hgn
              go_wp2_with fail
              refine HGN.out.mono ?_
              rintro e w4 ⟨rfl, hb4⟩
              have C4 : Below w.heap.size w w4 := C3'.trans (hb4.mono C3'.size)
              have HO4 := hide (row_belowY HO3.out hb4)
              clear HGN e1 e2 e3 e4 e5 e6 e0 AH3 hb4
              go_wp2_with fail
              go_roundw
              case rel => exact ⟨k + 1, by omega, by go_num, by rw [HN.out]; exact HO4, C4⟩
              case measure => simp [intOf]; omega
            | false =>
              rw [hgn] at hki HGN
              have HN : Hid (keysE (s.take (k + 1)) now p = L ++ [X.key]) := by rw [Hid, HST.out, if_pos (by rw [hki]; rfl)]
              clear hki HST hgn
              go_wp2_with fail
              refine HGN.out.mono ?_
              rintro e w4 ⟨rfl, hb4⟩
              have C4 : Below w.heap.size w w4 := C3'.trans (hb4.mono C3'.size)
              have HO4 := row_belowY HO3.out hb4
              have AH4 := (hb4.block _ hx3).trans AH3
              have f0 : w4.cell? ⟨wr.heap.size, 0, none⟩ = some (.string X.key) := by simp [World.cell?, AH4]
              have Lx : TextsAt (w4.alloc (.cells #[.string X.key] 9)) (some ⟨w4.heap.size, 0, none⟩) [X.key] := .inr ⟨w4.heap.size, 0, rfl, fun i hi => by
                have : i = 0 := by simpa using hi
                subst this
                simp⟩
              have HO5 := HO4.alloc (.cells #[.string X.key] 9)
              have C5 := C4.alloc C4.size (.cells #[.string X.key] 9)
              clear HGN e1 e2 e3 e4 e5 e6 e0 AH3 AH4 HO3 hb4 HO4
              go_wp2_with (at_builtin; refine YT.wpList_append_texts rfl _ _ rfl w.heap.size _ L.length (YT.strs L) rfl HO5 (some ⟨w4.heap.size, 0, none⟩) 1 [X.key] rfl Lx (by simp; omega) C5.size ?_)
              intro v6 w6 hown6 hgrow
              have C6 : Below w.heap.size w w6 := C5.grown hgrow C5.size (fun j hj => (HO5.lt j hj).1)
              have HO6 : Hid (w6.ownsRow w.heap.size 9 1 v6 (L ++ [X.key]).length (YT.strs (L ++ [X.key]))) := by
                have : YT.strs (L ++ [X.key]) = YT.strs L ++ YT.strs [X.key] := by simp [YT.strs]
                rw [this, List.length_append]
                exact hown6
              clear hown6 hgrow HO5 Lx C5
              go_wp2_with fail
              go_roundw
              case rel => exact ⟨k + 1, by omega, by go_num, by rw [HN.out]; exact HO6, C6⟩
              case measure => simp [intOf]; omega
        · have hge : ¬ ((k : Nat) : Int) < ((s.length : Nat) : Int) := by omega
          obtain rfl : k = s.length := by omega
          rw [List.take_length] at HO
          obtain ⟨ao, co, rfl⟩ := slice_ownY HO.out
          go_wp2_with fail
          refine bodyPost_ret (v := .tuple #[.slice ao (keysE s now p).length co, .int .i64 0]) (by simp [results, Tryz.results9, go_sem]) rfl ⟨.inr (.inr ⟨H01.out.1, H01.out.2, _, rfl, HO.out⟩), hbr⟩
    · have h1' : (checkG p == 0) = false := by rw [beq_eq_false_iff_ne]; exact h1
      have H01 := hide (And.intro h0 h1)
      have HPO : Hid (∀ w', Below w.heap.size w w' → KeysPost s now p w (.returned (.tuple #[.slice none 0 0, .int .i64 (checkG p)])) w') := fun w' hb => ⟨.inr (.inl ⟨H01.out.1, H01.out.2, rfl⟩), hb⟩
      clear h0 h1 hs
      generalize checkG p = E at *
      go_enter Tryz.func9, Tryz.ntmps9
      go_wp2_with fail
      refine HC.out.mono ?_
      rintro e w1 ⟨rfl, hb1⟩
      go_wp2_with fail
      refine (HG.out w1).mono ?_
      rintro e w2 ⟨rfl, hb2⟩
      have B2 : Below w.heap.size w w2 := hb1.trans (hb2.mono hb1.size)
      clear hb1 hb2 HC HG
      go_wp2_with fail
      refine bodyPost_ret (v := .tuple #[.slice none 0 0, .int .i64 E]) (by simp [results, Tryz.results9, go_sem]) rfl (HPO.out _ B2)
  · have h0' : (chkAt s now == 0) = false := by rw [beq_eq_false_iff_ne]; exact h0
    have HPO : Hid (∀ w', Below w.heap.size w w' → KeysPost s now p w (.returned (.tuple #[.slice none 0 0, .int .i64 (chkAt s now)])) w') := fun w' hb => ⟨.inl ⟨h0, rfl⟩, hb⟩
    clear h0 hs HG
    generalize chkAt s now = E at *
    go_enter Tryz.func9, Tryz.ntmps9
    go_wp2_with fail
    refine HC.out.mono ?_
    rintro e w1 ⟨rfl, hb1⟩
    clear HC
    go_wp2_with fail
    refine bodyPost_ret (v := .tuple #[.slice none 0 0, .int .i64 E]) (by simp [results, Tryz.results9, go_sem]) rfl (HPO.out _ hb1)
end Go.Proofs.YtcidoodaiimhfaaGreat

/- Spaces as plain data: what is got, what is put, what goes. -/
namespace Go.Proofs.YtcidoodaiimhfaaGreat
open Go.RowKit

theorem chkFrom_of : ∀ (p : Option ByteArray) (s : List Ent), (∀ x ∈ s, chkE x = 0) → (s.Pairwise fun a b => lessT a.key b.key) → (∀ k, p = some k → ∀ x ∈ s, lessT k x.key) → chkFrom p s = 0
  | _, [], _, _, _ => by simp [chkFrom]
  | p, e :: r, h, hp, hk => by
    rw [chkFrom, if_neg (by simp [h e (by simp)]), if_pos (by
      cases p with
      | none => rfl
      | some k => exact decide_eq_true (hk k rfl e (by simp)))]
    have hp' := List.pairwise_cons.1 hp
    exact chkFrom_of (some e.key) r (fun x hx => h x (by simp [hx])) hp'.2 (fun k hk x hx => by injection hk with hk; subst hk; exact hp'.1 x hx)
theorem chkSp_of {s : List Ent} (h : SpRight s) : chkSp s = 0 := by
  unfold chkSp
  rw [if_neg (by have := h.n; omega)]
  exact chkFrom_of none s h.e h.r (fun k hk => by cases hk)
theorem chkSp_chkAt {s : List Ent} {now : Int} (h : chkAt s now = 0) : chkSp s = 0 ∧ timeT now = true := by
  unfold chkAt at h
  by_cases h1 : chkSp s = 0
  · rw [if_neg (by simp [h1])] at h
    refine ⟨h1, ?_⟩
    cases ht : timeT now
    · rw [ht] at h; simp at h
    · rfl
  · rw [if_pos h1] at h; exact absurd h h1
theorem chkAt_chkKey {s : List Ent} {now : Int} {key : ByteArray} (h : chkKey s now key = 0) : chkAt s now = 0 ∧ longT key = false := by
  unfold chkKey at h
  by_cases h1 : chkAt s now = 0
  · rw [if_neg (by simp [h1])] at h
    refine ⟨h1, ?_⟩
    cases ht : longT key
    · rfl
    · rw [ht] at h; simp at h
  · rw [if_pos h1] at h; exact absurd h h1
theorem chkKey_of {s : List Ent} {now : Int} {key : ByteArray} (h : SpRight s) (ht : timeT now = true) (hk : longT key = false) : chkKey s now key = 0 := by
  unfold chkKey chkAt
  rw [chkSp_of h, ht, hk]
  simp
theorem SpRight.filter {s : List Ent} (h : SpRight s) (p : Ent → Bool) : SpRight (s.filter p) :=
  ⟨Nat.le_trans (List.length_filter_le _ _) h.n, fun x hx => h.e x (List.mem_filter.1 hx).1, h.r.filter _⟩
theorem SpRight.one {s : List Ent} (h : SpRight s) {x y : Ent} (hx : x ∈ s) (hy : y ∈ s) (e : x.key = y.key) : x = y := by
  obtain ⟨i, hi, rfl⟩ := List.getElem_of_mem hx
  obtain ⟨j, hj, rfl⟩ := List.getElem_of_mem hy
  have hp := List.pairwise_iff_getElem.1 h.r
  rcases Nat.lt_trichotomy i j with h1 | h1 | h1
  · exact absurd (hp i j hi hj h1) (by rw [e]; exact lessT_irrefl _)
  · subst h1; rfl
  · exact absurd (hp j i hj hi h1) (by rw [e]; exact lessT_irrefl _)
/-- the entry of a key that is there -/
def lookE (s : List Ent) (now : Int) (key : ByteArray) : Option Ent := s.find? (thereE key now)
def itemO : Option Ent → Itm
  | some x => x.item
  | none => Itm.none
def tilO : Option Ent → Int
  | some x => x.til
  | none => 0
def errO : Option Ent → Int
  | some _ => 0
  | none => 5
theorem there_key {key : ByteArray} {now : Int} {x : Ent} (h : thereE key now x = true) : x.key = key ∧ goneE x now = false := by
  unfold thereE at h
  simpa using h
theorem there_of {key : ByteArray} {now : Int} {x : Ent} (h : x.key = key) (h2 : goneE x now = false) : thereE key now x = true := by
  unfold thereE
  simp [h, h2]
theorem look_mem {s : List Ent} {now : Int} {key : ByteArray} {x : Ent} (hr : SpRight s) (hx : x ∈ s) (ht : thereE key now x = true) : lookE s now key = some x := by
  unfold lookE
  cases hf : s.find? (thereE key now) with
  | none => exact absurd ht (by have := List.find?_eq_none.1 hf x hx; simpa using this)
  | some y =>
    have h1 := List.mem_of_find?_eq_some hf
    have h2 := List.find?_some hf
    rw [hr.one h1 hx ((there_key h2).1.trans (there_key ht).1.symm)]
theorem look_none {s : List Ent} {now : Int} {key : ByteArray} (h : ∀ x ∈ s, thereE key now x = false) : lookE s now key = none := by
  unfold lookE
  exact List.find?_eq_none.2 (fun x hx => by simp [h x hx])
theorem look_some {s : List Ent} {now : Int} {key : ByteArray} {x : Ent} (h : lookE s now key = some x) : x ∈ s ∧ thereE key now x = true := ⟨List.mem_of_find?_eq_some h, List.find?_some h⟩
theorem look_no {s : List Ent} {now : Int} {key : ByteArray} (h : lookE s now key = none) : ∀ x ∈ s, thereE key now x = false := fun x hx => by
  have := List.find?_eq_none.1 h x hx
  simpa using this
theorem isNone_eq {x : Itm} (h : x.isNone = true) : x = Itm.none := by
  unfold Itm.isNone at h
  rw [decide_eq_true_eq] at h
  obtain ⟨h1, h2, h3, h4, h5⟩ := h
  obtain ⟨k, t, l, p, s⟩ := x
  simp only at h1 h2 h3 h4 h5
  subst h1; subst h3; subst h4; subst h5
  have : t = ⟨#[]⟩ := bytes_eq (by rw [← ByteArray.toList_eq, h2])
  subst this
  rfl
theorem right_notNone {x : Itm} (h : chkI x = 0) : x.isNone = false := by
  cases hn : x.isNone
  · rfl
  · have hx := isNone_eq hn
    subst hx
    exact absurd h (by decide +kernel)
theorem item_right {s : List Ent} (h : SpRight s) (now : Int) (key : ByteArray) : rightI (itemO (lookE s now key)) = 0 := by
  cases hl : lookE s now key with
  | none => exact none_rightI
  | some x => exact chk_rightI (chkE_right (h.e x (look_some hl).1)).2.1
/-- an entry put in its place -/
def insS (s : List Ent) (e : Ent) : List Ent := s.takeWhile (fun x => decide (lessT x.key e.key)) ++ e :: s.dropWhile (fun x => decide (lessT x.key e.key))
theorem takeWhile_of {α : Type} {p : α → Bool} : ∀ {A B : List α}, (∀ x ∈ A, p x = true) → (∀ x ∈ B, p x = false) → (A ++ B).takeWhile p = A ∧ (A ++ B).dropWhile p = B
  | [], [], _, _ => by simp
  | [], b :: B, _, h => by simp [h b (by simp)]
  | a :: A, B, h, h2 => by
    obtain ⟨e1, e2⟩ := takeWhile_of (A := A) (B := B) (fun x hx => h x (by simp [hx])) h2
    simp [h a (by simp), e1, e2]
theorem PutAt.eq {s r : List Ent} {e : Ent} (h : PutAt s e r) : r = insS s e := by
  obtain ⟨⟨k, hk, rfl, h1, h2⟩⟩ := h
  obtain ⟨e1, e2⟩ := takeWhile_of (p := fun x : Ent => decide (lessT x.key e.key)) (A := s.take k) (B := s.drop k) (fun x hx => decide_eq_true (h1 x hx)) (fun x hx => decide_eq_false (h2 x hx))
  rw [List.take_append_drop] at e1 e2
  rw [insS, e1, e2]
theorem insS_mem {s : List Ent} {e z : Ent} : z ∈ insS s e ↔ z = e ∨ z ∈ s := by
  unfold insS
  rw [List.mem_append, List.mem_cons]
  constructor
  · rintro (h | h | h)
    · exact .inr ((List.takeWhile_sublist _).subset h)
    · exact .inl h
    · exact .inr ((List.dropWhile_sublist _).subset h)
  · rintro (h | h)
    · exact .inr (.inl h)
    · rw [← List.takeWhile_append_dropWhile (p := fun x : Ent => decide (lessT x.key e.key)) (l := s)] at h
      rcases List.mem_append.1 h with h | h
      · exact .inl h
      · exact .inr (.inr h)
theorem insS_len (s : List Ent) (e : Ent) : (insS s e).length = s.length + 1 := by
  unfold insS
  have := congrArg List.length (List.takeWhile_append_dropWhile (p := fun x : Ent => decide (lessT x.key e.key)) (l := s))
  rw [List.length_append] at this
  rw [List.length_append, List.length_cons]
  omega
theorem mem_takeWhile_p {α : Type} {p : α → Bool} : ∀ {l : List α} {x : α}, x ∈ l.takeWhile p → p x = true
  | [], _, h => by simp at h
  | a :: l, x, h => by
    rw [List.takeWhile_cons] at h
    split at h
    · rename_i hp
      rcases List.mem_cons.1 h with rfl | h
      · exact hp
      · exact mem_takeWhile_p h
    · simp at h
theorem insS_right {s : List Ent} {e : Ent} (h : SpRight s) (hn : s.length < 16) (he : chkE e = 0) (hk : ∀ x ∈ s, x.key ≠ e.key) : SpRight (insS s e) := by
  refine ⟨by rw [insS_len]; omega, fun x hx => ?_, ?_⟩
  · rcases insS_mem.1 hx with rfl | hx
    · exact he
    · exact h.e x hx
  · unfold insS
    have hsp := List.takeWhile_append_dropWhile (p := fun x : Ent => decide (lessT x.key e.key)) (l := s)
    have hr := h.r
    rw [← hsp, List.pairwise_append] at hr
    obtain ⟨r1, r2, r3⟩ := hr
    have hdrop : ∀ x ∈ s.dropWhile (fun x => decide (lessT x.key e.key)), lessT e.key x.key := by
      intro x hx
      cases hd : s.dropWhile (fun x => decide (lessT x.key e.key)) with
      | nil => rw [hd] at hx; cases hx
      | cons b B =>
        have hb : ¬ lessT b.key e.key := by
          have := List.head?_dropWhile_not (fun x : Ent => decide (lessT x.key e.key)) s
          rw [hd] at this
          simpa using this
        have hbs : b ∈ s := (List.dropWhile_sublist (fun x : Ent => decide (lessT x.key e.key))).subset (by rw [hd]; simp)
        have hbe : lessT e.key b.key := by
          rcases lessT_or b.key e.key with h1 | h1 | h1
          · exact absurd h1 hb
          · exact absurd h1 (hk b hbs)
          · exact h1
        rw [hd] at hx r2
        rcases List.mem_cons.1 hx with rfl | hx
        · exact hbe
        · exact lessT_trans hbe ((List.pairwise_cons.1 r2).1 x hx)
    refine List.pairwise_append.2 ⟨r1, List.pairwise_cons.2 ⟨hdrop, r2⟩, fun a ha b hb => ?_⟩
    rcases List.mem_cons.1 hb with rfl | hb
    · have := mem_takeWhile_p ha
      simpa using this
    · exact r3 a ha b hb
/-- what is wrong with what is put, in the end -/
def putE (s : List Ent) (now : Int) (key : ByteArray) (x : Itm) (til : Int) : Int :=
  if putErr s now key x til ≠ 0 then putErr s now key x til else if x.isNone = true then 0 else if 16 ≤ (roomE (othersE s key) now).length then 2 else 0
/-- the space then -/
def putS (s : List Ent) (now : Int) (key : ByteArray) (x : Itm) (til : Int) : List Ent :=
  if putErr s now key x til ≠ 0 then [] else if x.isNone = true then othersE s key else if 16 ≤ (roomE (othersE s key) now).length then [] else insS (roomE (othersE s key) now) ⟨key, x, til⟩
theorem putErr_zero {s : List Ent} {now : Int} {key : ByteArray} {x : Itm} {til : Int} (h : putErr s now key x til = 0) : chkKey s now key = 0 ∧ rightI x = 0 ∧ tilBad now til = false := by
  unfold putErr at h
  by_cases h1 : chkKey s now key = 0
  · rw [if_neg (by simp [h1])] at h
    by_cases h2 : rightI x = 0
    · rw [if_neg (by simp [h2])] at h
      refine ⟨h1, h2, ?_⟩
      cases ht : tilBad now til
      · rfl
      · rw [ht] at h; simp at h
    · rw [if_pos h2] at h; exact absurd h h2
  · rw [if_pos h1] at h; exact absurd h h1
theorem putE_err {s : List Ent} {now : Int} {key : ByteArray} {x : Itm} {til : Int} (h : putE s now key x til = 0) : putErr s now key x til = 0 := by
  unfold putE at h
  by_cases h1 : putErr s now key x til = 0
  · exact h1
  · rw [if_pos h1] at h; exact absurd h h1
theorem putS_err {s : List Ent} {now : Int} {key : ByteArray} {x : Itm} {til : Int} (h : putE s now key x til ≠ 0) : putS s now key x til = [] := by
  unfold putE at h
  unfold putS
  split
  · rfl
  · rename_i h1
    rw [if_neg h1] at h
    split
    · rename_i h2
      rw [if_pos h2] at h; exact absurd rfl h
    · rename_i h2
      rw [if_neg h2] at h
      split
      · rfl
      · rename_i h3
        rw [if_neg h3] at h; exact absurd rfl h
/-- what is put, where there is no error -/
structure PutOk (s : List Ent) (now : Int) (key : ByteArray) (x : Itm) (til : Int) : Prop where
  err : putErr s now key x til = 0
  chk : chkKey s now key = 0
  rx : rightI x = 0
  tb : tilBad now til = false
  sp : SpRight s
  tm : 0 ≤ now ∧ now ≤ 1000000
  kl : longT key = false
  put : (x.isNone = true ∧ putS s now key x til = othersE s key) ∨ (chkI x = 0 ∧ (roomE (othersE s key) now).length < 16 ∧ putS s now key x til = insS (roomE (othersE s key) now) ⟨key, x, til⟩)
theorem timeT_iff {n : Int} : timeT n = true ↔ 0 ≤ n ∧ n ≤ 1000000 := by unfold timeT; simp
theorem putOk {s : List Ent} {now : Int} {key : ByteArray} {x : Itm} {til : Int} (h : putE s now key x til = 0) : PutOk s now key x til := by
  have he := putE_err h
  obtain ⟨h1, h2, h3⟩ := putErr_zero he
  obtain ⟨h4, h5⟩ := chkAt_chkKey h1
  obtain ⟨h6, h7⟩ := chkSp_chkAt h4
  refine ⟨he, h1, h2, h3, spRight h6, timeT_iff.1 h7, h5, ?_⟩
  unfold putE at h
  unfold putS
  rw [if_neg (by simp [he])] at h ⊢
  cases hn : x.isNone with
  | true => exact .inl ⟨rfl, by rw [if_pos rfl]⟩
  | false =>
    rw [hn, if_neg (by decide)] at h
    rw [if_neg (by decide)]
    have hc : chkI x = 0 := by unfold rightI at h2; rwa [hn, if_neg (by decide)] at h2
    by_cases h8 : 16 ≤ (roomE (othersE s key) now).length
    · rw [if_pos h8] at h; cases h
    · rw [if_neg h8]
      exact .inr ⟨hc, by omega, rfl⟩
theorem othersE_right {s : List Ent} (h : SpRight s) (key : ByteArray) : SpRight (othersE s key) := h.filter _
theorem roomE_right {s : List Ent} (h : SpRight s) (now : Int) : SpRight (roomE s now) := by
  unfold roomE
  split
  · exact h.filter _
  · exact h
theorem othersE_mem {s : List Ent} {key : ByteArray} {x : Ent} : x ∈ othersE s key ↔ x ∈ s ∧ x.key ≠ key := by simp [othersE, List.mem_filter]
theorem roomE_mem {s : List Ent} {now : Int} {x : Ent} (h : x ∈ roomE s now) : x ∈ s := by
  unfold roomE at h
  split at h
  · exact (List.mem_filter.1 h).1
  · exact h
theorem roomE_there {s : List Ent} {now : Int} {x : Ent} (h : x ∈ s) (hg : goneE x now = false) : x ∈ roomE s now := by
  unfold roomE
  split
  · exact List.mem_filter.2 ⟨h, by simp [hg]⟩
  · exact h
theorem PutOk.ent {s : List Ent} {now : Int} {key : ByteArray} {x : Itm} {til : Int} (h : PutOk s now key x til) (hc : chkI x = 0) : chkE ⟨key, x, til⟩ = 0 := by
  have ht : timeT til = true := by
    have h1 := h.tb
    unfold tilBad at h1
    rw [decide_eq_false_iff_not] at h1
    have h2 := h.tm
    rw [timeT_iff]
    by_cases h0 : til = 0
    · omega
    · omega
  unfold chkE
  rw [if_neg (by simp [h.kl]), if_neg (by simp [hc]), if_pos ht]
theorem PutOk.right {s : List Ent} {now : Int} {key : ByteArray} {x : Itm} {til : Int} (h : PutOk s now key x til) : SpRight (putS s now key x til) := by
  rcases h.put with ⟨_, e⟩ | ⟨hc, hn, e⟩
  · rw [e]; exact othersE_right h.sp key
  · rw [e]
    exact insS_right (roomE_right (othersE_right h.sp key) now) hn (h.ent hc) (fun y hy => (othersE_mem.1 (roomE_mem hy)).2)
theorem PutOk.notGone {s : List Ent} {now : Int} {key : ByteArray} {x : Itm} {til : Int} (h : PutOk s now key x til) : goneE ⟨key, x, til⟩ now = false := by
  have h1 := h.tb
  unfold tilBad at h1
  rw [decide_eq_false_iff_not] at h1
  unfold goneE
  rw [decide_eq_false_iff_not]
  simp only
  omega
/-- what was put last is got -/
theorem PutOk.own {s : List Ent} {now : Int} {key : ByteArray} {x : Itm} {til : Int} (h : PutOk s now key x til) : itemO (lookE (putS s now key x til) now key) = x := by
  rcases h.put with ⟨hn, e⟩ | ⟨hc, hn, e⟩
  · rw [e, look_none (fun y hy => by
      have := (othersE_mem.1 hy).2
      unfold thereE; simp [this])]
    exact (isNone_eq hn).symm
  · have := look_mem (now := now) (key := key) h.right (x := ⟨key, x, til⟩) (by rw [e]; exact insS_mem.2 (.inl rfl)) (there_of rfl h.notGone)
    rw [this]; rfl
/-- .. and later, if it is not gone -/
theorem PutOk.later {s : List Ent} {now : Int} {key : ByteArray} {x : Itm} {til : Int} (h : PutOk s now key x til) (late : Int) :
    itemO (lookE (putS s now key x til) late key) = x ∨ (til ≠ 0 ∧ itemO (lookE (putS s now key x til) late key) = Itm.none) := by
  rcases h.put with ⟨hn, e⟩ | ⟨hc, hn, e⟩
  · rw [e, look_none (fun y hy => by
      have := (othersE_mem.1 hy).2
      unfold thereE; simp [this])]
    exact .inl (isNone_eq hn).symm
  · have hm : (⟨key, x, til⟩ : Ent) ∈ putS s now key x til := by rw [e]; exact insS_mem.2 (.inl rfl)
    cases hg : goneE ⟨key, x, til⟩ late with
    | false =>
      have := look_mem (now := late) (key := key) h.right hm (there_of rfl hg)
      rw [this]; exact .inl rfl
    | true =>
      have h0 : til ≠ 0 := by
        unfold goneE at hg
        rw [decide_eq_true_eq] at hg
        exact hg.1
      refine .inr ⟨h0, ?_⟩
      rw [look_none (fun y hy => ?_)]
      · rfl
      · cases ht : thereE key late y with
        | false => rfl
        | true =>
          obtain ⟨k1, k2⟩ := there_key ht
          have := h.right.one hy hm k1
          subst this
          rw [hg] at k2; cases k2
/-- nothing else is other -/
theorem PutOk.other {s : List Ent} {now : Int} {key other : ByteArray} {x : Itm} {til : Int} (h : PutOk s now key x til) (hne : other ≠ key) : lookE (putS s now key x til) now other = lookE s now other := by
  cases hl : lookE s now other with
  | some y =>
    obtain ⟨h1, h2⟩ := look_some hl
    obtain ⟨h3, h4⟩ := there_key h2
    refine look_mem h.right ?_ h2
    have h5 : y ∈ othersE s key := othersE_mem.2 ⟨h1, by rw [h3]; exact hne⟩
    rcases h.put with ⟨_, e⟩ | ⟨hc, hn, e⟩
    · rw [e]; exact h5
    · rw [e]; exact insS_mem.2 (.inr (roomE_there h5 h4))
  | none =>
    have h1 := look_no hl
    refine look_none (fun y hy => ?_)
    rcases h.put with ⟨_, e⟩ | ⟨hc, hn, e⟩
    · rw [e] at hy; exact h1 y (othersE_mem.1 hy).1
    · rw [e] at hy
      rcases insS_mem.1 hy with rfl | hy
      · unfold thereE; simp [Ne.symm hne]
      · exact h1 y (othersE_mem.1 (roomE_mem hy)).1
/-- what is left of a sweep -/
def sweepS (s : List Ent) (now : Int) : List Ent := s.filter fun x => !goneE x now
theorem gone_later {x : Ent} {now late : Int} (h : goneE x now = true) (hl : now ≤ late) : goneE x late = true := by
  unfold goneE at h ⊢
  rw [decide_eq_true_eq] at h ⊢
  omega
theorem sweep_look {s : List Ent} {now late : Int} (h : SpRight s) (hl : now ≤ late) (key : ByteArray) : lookE (sweepS s now) late key = lookE s late key := by
  cases hk : lookE s late key with
  | some y =>
    obtain ⟨h1, h2⟩ := look_some hk
    obtain ⟨h3, h4⟩ := there_key h2
    refine look_mem (h.filter _) (List.mem_filter.2 ⟨h1, ?_⟩) h2
    cases hg : goneE y now
    · rfl
    · rw [gone_later hg hl] at h4; cases h4
  | none =>
    have h1 := look_no hk
    exact look_none (fun y hy => h1 y (List.mem_filter.1 hy).1)
theorem sweep_keys (s : List Ent) {now late : Int} (hl : now ≤ late) (p : ByteArray) : keysE (sweepS s now) late p = keysE s late p := by
  unfold keysE sweepS
  rw [List.filter_filter]
  congr 1
  refine List.filter_congr (fun x _ => ?_)
  unfold keyE
  cases hg : goneE x now
  · simp
  · simp [gone_later hg hl]
theorem sweep_twice (s : List Ent) (now : Int) : sweepS (sweepS s now) now = sweepS s now := by
  unfold sweepS
  rw [List.filter_filter]
  simp
end Go.Proofs.YtcidoodaiimhfaaGreat

/- What the calls of spaces answer, in one form each. -/
namespace Go.Proofs.YtcidoodaiimhfaaGreat
open Go.RowKit

/-- the item that is got -/
def getR (s : List Ent) (now : Int) (key : ByteArray) : Itm := if chkKey s now key = 0 then itemO (lookE s now key) else Itm.none
theorem OwnItem.nothing (B : Nat) (w : World) : OwnItem B w (.agg #[.int .i64 0, .string ⟨#[]⟩, .slice none 0 0, .slice none 0 0, .slice none 0 0]) Itm.none :=
  ⟨none, 0, none, 0, none, 0, rfl, World.ownsRow_nil _ _ _ _, World.ownsRow_nil _ _ _ _, World.ownsRow_nil _ _ _ _⟩
theorem fits_key {s : List Ent} {now : Int} {key : ByteArray} (h : chkKey s now key = 0) : ∀ x ∈ s, Fits x.item := fits_sp (chkSp_chkAt (chkAt_chkKey h).1).1
theorem get_tells (a : Option Addr) (c : Nat) (s : List Ent) (now : Int) (key : ByteArray) (w : World) (hs : SpaceAt w a s) (hn : s.length ≤ 281474976710656) :
    Calls Tryz.prog 6 #[.slice a s.length c, .int .i64 now, .string key] w fun e w' => (∃ v, e = .returned (.tuple #[v, .int .i64 (chkKey s now key)]) ∧ OwnItem w.heap.size w' v (getR s now key)) ∧ Below w.heap.size w w' := by
  refine (get_any a c s now key w hs hn fits_key).mono ?_
  rintro e w' ⟨⟨h0, rfl⟩ | ⟨h0, v, y, rfl, ho, hy⟩, hb⟩
  · unfold getR
    rw [if_neg h0]
    exact ⟨⟨_, rfl, OwnItem.nothing _ _⟩, hb⟩
  · unfold getR
    rw [if_pos h0]
    refine ⟨⟨v, by rw [h0], ?_⟩, hb⟩
    rcases hy with ⟨x, hx, ht, rfl⟩ | ⟨rfl, hx⟩
    · rw [look_mem (spRight (chkSp_chkAt (chkAt_chkKey h0).1).1) hx ht]; exact ho
    · rw [look_none hx]; exact ho
theorem getR_right (s : List Ent) (now : Int) (key : ByteArray) : rightI (getR s now key) = 0 := by
  unfold getR
  split
  · rename_i h
    exact item_right (spRight (chkSp_chkAt (chkAt_chkKey h).1).1) now key
  · exact none_rightI
/-- until when -/
def untilR (s : List Ent) (now : Int) (key : ByteArray) : Int := if chkKey s now key = 0 then tilO (lookE s now key) else 0
def untilE (s : List Ent) (now : Int) (key : ByteArray) : Int := if chkKey s now key = 0 then errO (lookE s now key) else chkKey s now key
theorem until_tells (a : Option Addr) (c : Nat) (s : List Ent) (now : Int) (key : ByteArray) (w : World) (hs : SpaceAt w a s) (hn : s.length ≤ 281474976710656) :
    Calls Tryz.prog 8 #[.slice a s.length c, .int .i64 now, .string key] w fun e w' => e = .returned (.tuple #[.int .i64 (untilR s now key), .int .i64 (untilE s now key)]) ∧ Below w.heap.size w w' := by
  refine (until_any a c s now key w hs hn).mono ?_
  rintro e w' ⟨⟨h0, rfl⟩ | ⟨h0, hy⟩, hb⟩
  · unfold untilR untilE
    rw [if_neg h0, if_neg h0]
    exact ⟨rfl, hb⟩
  · unfold untilR untilE
    rw [if_pos h0, if_pos h0]
    rcases hy with ⟨x, hx, ht, rfl⟩ | ⟨rfl, hx⟩
    · rw [look_mem (spRight (chkSp_chkAt (chkAt_chkKey h0).1).1) hx ht]; exact ⟨rfl, hb⟩
    · rw [look_none hx]; exact ⟨rfl, hb⟩
/-- the keys that are answered -/
def keysR (s : List Ent) (now : Int) (p : ByteArray) : List ByteArray := if chkAt s now = 0 then (if checkG p = 0 then keysE s now p else []) else []
def keysC (s : List Ent) (now : Int) (p : ByteArray) : Int := if chkAt s now = 0 then checkG p else chkAt s now
theorem keys_tells (a : Option Addr) (c : Nat) (s : List Ent) (now : Int) (p : ByteArray) (w : World) (hs : SpaceAt w a s) (hn : s.length ≤ 281474976710656) :
    Calls Tryz.prog 9 #[.slice a s.length c, .int .i64 now, .string p] w fun e w' => (∃ ao co, e = .returned (.tuple #[.slice ao (keysR s now p).length co, .int .i64 (keysC s now p)]) ∧ w'.ownsRow w.heap.size 9 1 (.slice ao (keysR s now p).length co) (keysR s now p).length (YT.strs (keysR s now p))) ∧ Below w.heap.size w w' := by
  refine (keys_any a c s now p w hs hn).mono ?_
  rintro e w' ⟨⟨h0, rfl⟩ | ⟨h0, h1, rfl⟩ | ⟨h0, h1, V, rfl, ho⟩, hb⟩
  · unfold keysR keysC
    rw [if_neg h0, if_neg h0]
    exact ⟨⟨none, 0, rfl, World.ownsRow_nil _ _ _ _⟩, hb⟩
  · unfold keysR keysC
    rw [if_pos h0, if_pos h0, if_neg h1]
    exact ⟨⟨none, 0, rfl, World.ownsRow_nil _ _ _ _⟩, hb⟩
  · unfold keysR keysC
    rw [if_pos h0, if_pos h0, if_pos h1, h1]
    obtain ⟨ao, co, rfl⟩ := slice_ownY ho
    exact ⟨⟨ao, co, rfl, ho⟩, hb⟩
/-- what is left -/
def sweepR (s : List Ent) (now : Int) : List Ent := if chkAt s now = 0 then sweepS s now else []
def sweepN (s : List Ent) (now : Int) : Int := if chkAt s now = 0 then (s.length : Int) - ((sweepS s now).length : Int) else 0
theorem sweepR_right (s : List Ent) (now : Int) : SpRight (sweepR s now) := by
  unfold sweepR
  split
  · rename_i h
    exact (spRight (chkSp_chkAt h).1).filter _
  · exact ⟨Nat.zero_le _, by simp, List.Pairwise.nil⟩
theorem sweep_tells (a : Option Addr) (c : Nat) (s : List Ent) (now : Int) (w : World) (hs : SpaceAt w a s) (hn : s.length ≤ 281474976710656) :
    Calls Tryz.prog 10 #[.slice a s.length c, .int .i64 now] w fun e w' => (∃ ao co l, e = .returned (.tuple #[.slice ao (sweepR s now).length co, .int .i64 (sweepN s now), .int .i64 (chkAt s now)]) ∧ l.map Prod.fst = sweepR s now ∧ OwnSp w.heap.size w' (.slice ao (sweepR s now).length co) l) ∧ Below w.heap.size w w' := by
  refine (sweep_any a c s now w hs hn (fun h => fits_sp (chkSp_chkAt h).1)).mono ?_
  rintro e w' ⟨h1, h2⟩
  by_cases h0 : chkAt s now = 0
  · obtain ⟨V, l, rfl, hm, ho, hb⟩ := h2 h0
    unfold sweepR sweepN
    rw [if_pos h0, if_pos h0, h0]
    have hl : l.length = (sweepS s now).length := by rw [← List.length_map (f := Prod.fst), hm]; rfl
    obtain ⟨ao, co, rfl⟩ := slice_ownY ho.row
    rw [hl] at ho ⊢
    exact ⟨⟨ao, co, l, rfl, hm, ho⟩, hb⟩
  · obtain ⟨rfl, hb⟩ := h1 h0
    unfold sweepR sweepN
    rw [if_neg h0, if_neg h0]
    exact ⟨⟨none, 0, [], rfl, rfl, ⟨World.ownsRow_nil _ _ _ _, by simp⟩⟩, hb⟩
theorem put_tells (a : Option Addr) (c : Nat) (s : List Ent) (now : Int) (key : ByteArray) (v : Value) (x : Itm) (til : Int) (w : World) (hs : SpaceAt w a s) (hn : s.length ≤ 281474976710656) (hx : ItemIs w v x) :
    Calls Tryz.prog 7 #[.slice a s.length c, .int .i64 now, .string key, v, .int .i64 til] w fun e w' => (∃ ao co l, e = .returned (.tuple #[.slice ao (putS s now key x til).length co, .int .i64 (putE s now key x til)]) ∧ l.map Prod.fst = putS s now key x til ∧ OwnSp w.heap.size w' (.slice ao (putS s now key x til).length co) l) ∧ Below w.heap.size w w' := by
  refine (put_any a c s now key v x til w hs hn hx).mono ?_
  rintro e w' ⟨h, hb⟩
  have hfin : ∀ (V : Value) (l : List (Ent × Sls)) (E : Int), e = .returned (.tuple #[V, .int .i64 E]) → putE s now key x til = E → l.map Prod.fst = putS s now key x til → OwnSp w.heap.size w' V l →
      (∃ ao co l, e = .returned (.tuple #[.slice ao (putS s now key x til).length co, .int .i64 (putE s now key x til)]) ∧ l.map Prod.fst = putS s now key x til ∧ OwnSp w.heap.size w' (.slice ao (putS s now key x til).length co) l) ∧ Below w.heap.size w w' := by
    intro V l E he hE hm ho
    have hl : l.length = (putS s now key x til).length := by rw [← List.length_map (f := Prod.fst), hm]
    obtain ⟨ao, co, rfl⟩ := slice_ownY ho.row
    rw [hl] at he ho
    rw [hE]
    exact ⟨⟨ao, co, l, he, hm, ho⟩, hb⟩
  have hnil : OwnSp w.heap.size w' (.slice none 0 0) [] := ⟨World.ownsRow_nil _ _ _ _, by simp⟩
  rcases h with ⟨h1, h2⟩ | ⟨h1, h2, V, l, h3, h4, h5⟩ | ⟨h1, h2, h3, h4⟩ | ⟨h1, h2, h3, V, l, h4, h5, h6⟩
  · have hE : putE s now key x til = putErr s now key x til := by unfold putE; rw [if_pos h1]
    refine hfin _ [] _ h2 hE ?_ hnil
    unfold putS
    rw [if_pos h1]; rfl
  · refine hfin _ l _ h3 ?_ ?_ h5
    · unfold putE; rw [if_neg (by simp [h1]), if_pos h2]
    · unfold putS; rw [if_neg (by simp [h1]), if_pos h2]; exact h4
  · refine hfin _ [] _ h4 ?_ ?_ hnil
    · unfold putE; rw [if_neg (by simp [h1]), if_neg (by simp [h2]), if_pos h3]
    · unfold putS; rw [if_neg (by simp [h1]), if_neg (by simp [h2]), if_pos h3]; rfl
  · refine hfin _ l _ h4 ?_ ?_ h6
    · unfold putE; rw [if_neg (by simp [h1]), if_neg (by simp [h2]), if_neg (by omega)]
    · unfold putS; rw [if_neg (by simp [h1]), if_neg (by simp [h2]), if_neg (by omega)]; exact h5.eq
theorem putS_right (s : List Ent) (now : Int) (key : ByteArray) (x : Itm) (til : Int) : SpRight (putS s now key x til) := by
  by_cases h : putE s now key x til = 0
  · exact (putOk h).right
  · rw [putS_err h]
    exact ⟨Nat.zero_le _, by simp, List.Pairwise.nil⟩
theorem OwnSp.space {B : Nat} {w : World} {a : Option Addr} {c : Nat} {s : List Ent} {l : List (Ent × Sls)} (h : OwnSp B w (.slice a s.length c) l) (hm : l.map Prod.fst = s) (hr : SpRight s) : SpaceAt w a s := by
  obtain ⟨a2, c2, he, hs⟩ := h.at (fun z hz => chk_rightI (chkE_right (hr.e z.1 (hm ▸ List.mem_map.2 ⟨z, hz, rfl⟩))).2.1)
  injection he with h1 h2 h3
  subst h1
  rw [hm] at hs
  exact hs
end Go.Proofs.YtcidoodaiimhfaaGreat

/- WALKS of the reference's small functions: between, IsInt. -/
namespace Go.Proofs.YtcidoodaiimhfaaGreat
open Go.RowKit

set_option maxRecDepth 100000 in
set_option maxHeartbeats 1000000 in
theorem between_any (n lo hi : Int) (w : World) :
    Calls Tryz.prog 64 #[.int .i64 n, .int .i64 lo, .int .i64 hi] w fun e w' => e = .returned (.bool (decide (lo ≤ n ∧ n ≤ hi))) ∧ w' = w := by
  by_cases h1 : lo ≤ n
  · by_cases h2 : n ≤ hi
    · rw [decide_eq_true (⟨h1, h2⟩ : lo ≤ n ∧ n ≤ hi)]
      go_enter Tryz.func64, Tryz.ntmps64
      go_wp2
      go_ret
      exact ⟨rfl, rfl⟩
    · rw [decide_eq_false (fun h : lo ≤ n ∧ n ≤ hi => h2 h.2)]
      go_enter Tryz.func64, Tryz.ntmps64
      go_wp2
      go_ret
      exact ⟨rfl, rfl⟩
  · rw [decide_eq_false (fun h : lo ≤ n ∧ n ≤ hi => h1 h.1)]
    go_enter Tryz.func64, Tryz.ntmps64
    go_wp2
    go_ret
    exact ⟨rfl, rfl⟩

set_option maxRecDepth 100000 in
set_option maxHeartbeats 1000000 in
theorem isInt_any (n : Int) (w : World) :
    Calls Tryz.prog 66 #[.int .i64 n] w fun e w' => e = .returned (.bool (decide (-999999999 ≤ n ∧ n ≤ 999999999))) ∧ w' = w := by
  go_enter Tryz.func66, Tryz.ntmps66
  go_wp2_with (go_at_call 64; refine (between_any _ _ _ _).mono ?_; rintro e w' ⟨rfl, rfl⟩)
  go_ret
  refine ⟨?_, rfl⟩
  rw [Bool.decide_and]
  rfl

theorem bt (lo n hi : Int) (w : World) (h : lo ≤ n) (h' : n ≤ hi) : Calls Tryz.prog 64 #[.int .i64 n, .int .i64 lo, .int .i64 hi] w fun e w' => e = .returned (.bool true) ∧ w' = w := by
  have := between_any n lo hi w
  rw [decide_eq_true (⟨h, h'⟩ : lo ≤ n ∧ n ≤ hi)] at this
  exact this
theorem bf (lo n hi : Int) (w : World) (h : n < lo ∨ hi < n) : Calls Tryz.prog 64 #[.int .i64 n, .int .i64 lo, .int .i64 hi] w fun e w' => e = .returned (.bool false) ∧ w' = w := by
  have := between_any n lo hi w
  rw [decide_eq_false (show ¬ (lo ≤ n ∧ n ≤ hi) by omega)] at this
  exact this
end Go.Proofs.YtcidoodaiimhfaaGreat

/- WALKS of the reference's order of texts and of scores. -/
namespace Go.Proofs.YtcidoodaiimhfaaGreat
open Go.RowKit

theorem below_drewN' {B : Nat} {a w : World} (h : Below B a w) (n : Nat) : Below B a (w.drewN n) := ⟨h.os, h.tape, h.output, h.size, h.block⟩
theorem drewN_add' (w : World) (a b : Nat) : (w.drewN a).drewN b = w.drewN (a + b) := by
  simp [World.drewN, Nat.add_assoc]
theorem get_data (s : ByteArray) (k : Nat) (h : k < s.size) : s.data.toList.drop k = s[k] :: s.data.toList.drop (k + 1) := by
  rw [List.drop_eq_getElem_cons (by rw [size_list]; exact h)]
  rfl

set_option maxRecDepth 100000 in
set_option maxHeartbeats 1000000 in
theorem textOrder_any (a b : ByteArray) (w : World) (ha : a.size ≤ maxLen) :
    Calls Tryz.prog 65 #[.string a, .string b] w fun e w' => e = .returned (.int .i64 (cmpT a b)) ∧ ∃ q, w' = w.drewN q := by
  unfold maxLen at ha
  go_enter Tryz.func65, Tryz.ntmps65
  go_wp2_with fail
  go_loopw [5] (fun i wr => ∃ k : Nat, k ≤ a.size ∧ k ≤ b.size ∧ i = .int .i64 k ∧ (∃ q, wr = w.drewN q) ∧ Hid (cmpT a b = Lib.compareBytes (a.data.toList.drop k) (b.data.toList.drop k))) (fun i _ => a.size - (intOf i).toNat)
  case atStart => exact ⟨0, Nat.zero_le _, Nat.zero_le _, rfl, ⟨0, rfl⟩, rfl⟩
  case round =>
    obtain ⟨k, hk, hkb, rfl, ⟨q0, rfl⟩, HC⟩ := hrel
    by_cases hlt : k < a.size
    · by_cases hltb : k < b.size
      · have HS : Hid (cmpT a b = if a[k] < b[k] then -1 else if b[k] < a[k] then 1 else Lib.compareBytes (a.data.toList.drop (k + 1)) (b.data.toList.drop (k + 1))) := by
          rw [Hid, HC.out, get_data a k hlt, get_data b k hltb, Lib.compareBytes]
        have hi1 : ((k : Nat) : Int) < ((a.size : Nat) : Int) := by omega
        have hi2 : ((k : Nat) : Int) < ((b.size : Nat) : Int) := by omega
        rcases Nat.lt_trichotomy a[k].toNat b[k].toNat with hc | hc | hc
        · have HR : Hid (cmpT a b = -1) := by rw [Hid, HS.out, if_pos (UInt8.lt_iff_toNat_lt.2 hc)]
          have hc' : ((a[k].toNat : Nat) : Int) < ((b[k].toNat : Nat) : Int) := by omega
          clear HS HC
          go_wp2_with fail
          go_quiet (fail)
          go_wp2_with fail
          go_ret
          rw [HR.out]
          exact ⟨rfl, _, by first | rfl | exact drewN_add' _ _ _ | (rw [drewN_add', drewN_add'])⟩
        · have HR : Hid (cmpT a b = Lib.compareBytes (a.data.toList.drop (k + 1)) (b.data.toList.drop (k + 1))) := by
            rw [Hid, HS.out, if_neg (by rw [UInt8.lt_iff_toNat_lt]; omega), if_neg (by rw [UInt8.lt_iff_toNat_lt]; omega)]
          have hc1 : decide (((a[k].toNat : Nat) : Int) < ((b[k].toNat : Nat) : Int)) = false := decide_eq_false (by omega)
          have hc2 : decide (((b[k].toNat : Nat) : Int) < ((a[k].toNat : Nat) : Int)) = false := decide_eq_false (by omega)
          have hc3 : ¬ ((a[k].toNat : Nat) : Int) < ((b[k].toNat : Nat) : Int) := by omega
          have hc4 : ¬ ((b[k].toNat : Nat) : Int) < ((a[k].toNat : Nat) : Int) := by omega
          clear HS HC hc
          go_wp2_with fail
          go_quiet (fail)
          go_wp2_with fail
          go_quiet (fail)
          go_wp2_with fail
          go_roundw
          case rel => exact ⟨k + 1, by omega, by omega, by go_num, ⟨_, rfl⟩, HR⟩
          case measure => simp [intOf]; omega
        · have HR : Hid (cmpT a b = 1) := by rw [Hid, HS.out, if_neg (by rw [UInt8.lt_iff_toNat_lt]; omega), if_pos (UInt8.lt_iff_toNat_lt.2 hc)]
          have hc1 : ¬ ((a[k].toNat : Nat) : Int) < ((b[k].toNat : Nat) : Int) := by omega
          have hc' : ((b[k].toNat : Nat) : Int) < ((a[k].toNat : Nat) : Int) := by omega
          clear HS HC
          go_wp2_with fail
          go_quiet (fail)
          go_wp2_with fail
          go_quiet (fail)
          go_wp2_with fail
          go_ret
          rw [HR.out]
          exact ⟨rfl, _, by first | rfl | exact drewN_add' _ _ _ | (rw [drewN_add', drewN_add'])⟩
      · have hkb' : k = b.size := by omega
        have HR : Hid (cmpT a b = 1) := by
          rw [Hid, HC.out, get_data a k hlt, List.drop_of_length_le (l := b.data.toList) (by rw [size_list]; omega), Lib.compareBytes]
        have h1 : ¬ ((k : Nat) : Int) < ((b.size : Nat) : Int) := by omega
        have h2 : ((b.size : Nat) : Int) < ((a.size : Nat) : Int) := by omega
        have h3 : ¬ ((a.size : Nat) : Int) < ((b.size : Nat) : Int) := by omega
        clear hkb' HC
        go_wp2_with fail
        go_ret
        rw [HR.out]
        exact ⟨rfl, q0, rfl⟩
    · have hka' : k = a.size := by omega
      rcases Nat.lt_or_eq_of_le (show a.size ≤ b.size by omega) with hl | hl
      · have HR : Hid (cmpT a b = -1) := by
          rw [Hid, HC.out, get_data b k (by omega), List.drop_of_length_le (l := a.data.toList) (by rw [size_list]; omega), Lib.compareBytes]
        have h1 : ¬ ((k : Nat) : Int) < ((a.size : Nat) : Int) := by omega
        have h2 : ((a.size : Nat) : Int) < ((b.size : Nat) : Int) := by omega
        clear hka' HC
        go_wp2_with fail
        go_ret
        rw [HR.out]
        exact ⟨rfl, q0, rfl⟩
      · have HR : Hid (cmpT a b = 0) := by
          rw [Hid, HC.out, List.drop_of_length_le (l := a.data.toList) (by rw [size_list]; omega), List.drop_of_length_le (l := b.data.toList) (by rw [size_list]; omega), Lib.compareBytes]
        have h1 : ¬ ((k : Nat) : Int) < ((a.size : Nat) : Int) := by omega
        have h2 : ¬ ((a.size : Nat) : Int) < ((b.size : Nat) : Int) := by omega
        have h3 : ¬ ((b.size : Nat) : Int) < ((a.size : Nat) : Int) := by omega
        clear hka' HC hl
        go_wp2_with fail
        go_ret
        rw [HR.out]
        exact ⟨rfl, q0, rfl⟩

theorem textOrder_below (a b : ByteArray) (w : World) (ha : a.size ≤ maxLen) :
    Calls Tryz.prog 65 #[.string a, .string b] w fun e w' => e = .returned (.int .i64 (cmpT a b)) ∧ Below w.heap.size w w' :=
  (textOrder_any a b w ha).mono fun _ _ ⟨h1, q, h2⟩ => ⟨h1, by subst h2; exact below_drewN' (Below.refl _ _) q⟩
theorem cmpS_less (a b : Int × ByteArray) : decide (cmpS a b < 0) = (decide (a.1 < b.1) || (decide (a.1 = b.1) && decide (cmpT a.2 b.2 < 0))) := by
  unfold cmpS
  by_cases h1 : a.1 < b.1
  · simp [h1]
  · by_cases h2 : b.1 < a.1
    · have : ¬ a.1 = b.1 := by omega
      simp [h1, h2, this]
    · have : a.1 = b.1 := by omega
      simp [this]
set_option maxRecDepth 100000 in
set_option maxHeartbeats 1000000 in
theorem scoreLess_any (x y : Int × ByteArray) (w : World) (hx : x.2.size ≤ maxLen) :
    Calls Tryz.prog 67 #[.agg #[.int .i64 x.1, .string x.2], .agg #[.int .i64 y.1, .string y.2]] w fun e w' => e = .returned (.bool (decide (cmpS x y < 0))) ∧ Below w.heap.size w w' := by
  rw [cmpS_less]
  obtain ⟨x1, x2⟩ := x
  obtain ⟨y1, y2⟩ := y
  simp only at *
  have HT : Hid (∀ W, Calls Tryz.prog 65 #[.string x2, .string y2] W fun e w' => e = .returned (.int .i64 (cmpT x2 y2)) ∧ Below W.heap.size W w') := fun W => textOrder_below _ _ W hx
  generalize cmpT x2 y2 = C at *
  by_cases h1 : x1 < y1
  · rw [decide_eq_true h1, Bool.true_or]
    go_enter Tryz.func67, Tryz.ntmps67
    go_wp2_with fail
    go_ret
    exact ⟨rfl, ((Below.refl _ w).alloc (Nat.le_refl _) _).alloc (by simp) _⟩
  · by_cases h2 : x1 = y1
    · subst h2
      rw [decide_eq_false h1, decide_eq_true (rfl : x1 = x1), Bool.false_or, Bool.true_and]
      go_enter Tryz.func67, Tryz.ntmps67
      go_wp2_with fail
      refine (HT.out _).mono ?_
      rintro e w1 ⟨rfl, hb1⟩
      have B1 : Below w.heap.size w w1 := (((Below.refl _ w).alloc (Nat.le_refl _) _).alloc (by simp) _).trans (hb1.mono (by simp; omega))
      go_wp2_with fail
      go_ret
      exact ⟨rfl, B1⟩
    · rw [decide_eq_false h1, decide_eq_false h2, Bool.false_or, Bool.false_and]
      have h2' : (x1 == y1) = false := by rw [beq_eq_false_iff_ne]; exact h2
      go_enter Tryz.func67, Tryz.ntmps67
      go_wp2_with fail
      go_ret
      exact ⟨rfl, ((Below.refl _ w).alloc (Nat.le_refl _) _).alloc (by simp) _⟩
end Go.Proofs.YtcidoodaiimhfaaGreat

