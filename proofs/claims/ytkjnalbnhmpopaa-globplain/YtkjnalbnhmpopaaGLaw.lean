/- PLAIN facts on patterns: texts without signs, and stars. -/
import Derived.Test.YtkjnalbnhmpopaaGTell
import Derived.Handy
namespace Go.Proofs.Ytkjnalbnhmpopaa
open Go.RowKit

def isSign (c : UInt8) : Bool := c == 42 || c == 63 || c == 91 || c == 92
def escaped (l : List UInt8) : List UInt8 := (l.map fun c => [92, c]).flatten
theorem escaped_cons (c : UInt8) (l : List UInt8) : escaped (c :: l) = 92 :: c :: escaped l := rfl
theorem escaped_snoc (l : List UInt8) (c : UInt8) : escaped (l ++ [c]) = escaped l ++ [92, c] := by simp [escaped]
theorem escaped_len (l : List UInt8) : (escaped l).length = 2 * l.length := by
  induction l with
  | nil => rfl
  | cons c l ih => rw [escaped_cons, List.length_cons, List.length_cons, ih, List.length_cons]; omega
theorem parts_escaped : ∀ l : List UInt8, pParts (escaped l) = .ok (l.map Part.lit)
  | [] => rfl
  | c :: l => by
    rw [escaped_cons, pParts_ok (show pPart (92 :: c :: escaped l) = .ok (.lit c, escaped l) from rfl), parts_escaped l]
    rfl
theorem pPart_lit {c : UInt8} (l : List UInt8) (h : isSign c = false) : pPart (c :: l) = .ok (.lit c, l) := by
  simp only [isSign, Bool.or_eq_false_iff, beq_eq_false_iff_ne] at h
  obtain ⟨⟨⟨h1, h2⟩, h3⟩, h4⟩ := h
  rw [pPart, if_neg h1, if_neg h2, if_neg h3, if_neg h4]
theorem parts_plain : ∀ l : List UInt8, l.any isSign = false → pParts l = .ok (l.map Part.lit)
  | [], _ => rfl
  | c :: l, h => by
    rw [List.any_cons, Bool.or_eq_false_iff] at h
    rw [pParts_ok (pPart_lit l h.1), parts_plain l h.2]
    rfl
theorem mat_lits : ∀ l s : List UInt8, mat (l.map Part.lit) s = (l == s)
  | [], [] => rfl
  | [], c :: s => rfl
  | d :: l, [] => by
    rw [List.map_cons, mat, if_neg (by simp [Part.many])]
    rfl
  | d :: l, c :: s => by
    rw [List.map_cons, mat, if_neg (by simp [Part.many]), oneMat, mat_lits l s]
    simp only [Part.may]
    rw [show (d :: l == c :: s) = (d == c && l == s) from rfl, Bool.beq_comm]

/-! what stands ahead of a pattern's end hangs on it alone -/
theorem pClsF_append : ∀ (f : Nat) (l m : List UInt8) (xs : List (UInt8 × UInt8)) (q : List UInt8), pClsF f l = .ok (xs, q) → ∀ g, l.length + m.length < g → pClsF g (l ++ m) = .ok (xs, q ++ m)
  | 0, _, _, _, _, h, _, _ => by simp [pClsF] at h
  | _ + 1, [], _, _, _, h, _, _ => by simp [pClsF] at h
  | f + 1, c :: l, m, xs, q, h, g, hg => by
    cases g with
    | zero => omega
    | succ g =>
      simp only [List.length_cons] at hg
      rw [pClsF] at h
      rw [List.cons_append, pClsF]
      by_cases hc : c = 93
      · rw [if_pos hc] at h ⊢
        simp at h
        obtain ⟨rfl, rfl⟩ := h
        rfl
      · rw [if_neg hc] at h ⊢
        cases hs : pSpan c l with
        | error e => rw [hs] at h; simp at h
        | ok y =>
          obtain ⟨x, q1⟩ := y
          rw [hs] at h
          simp only at h
          cases hr : pClsF f q1 with
          | error e => rw [hr] at h; simp at h
          | ok z =>
            obtain ⟨ys, q2⟩ := z
            rw [hr] at h
            simp at h
            obtain ⟨rfl, rfl⟩ := h
            have hq1 := (pSpan_len hs).1
            have hsm : pSpan c (l ++ m) = .ok (x, q1 ++ m) := by
              match l, hs with
              | [], hs =>
                simp [pSpan] at hs
                obtain ⟨rfl, rfl⟩ := hs
                cases f <;> simp [pClsF] at hr
              | [d], hs =>
                have h2 : pSpan c [d] = .ok ((c, c), [d]) := by
                  unfold pSpan
                  split
                  · rename_i e; simp at e
                  · rfl
                rw [h2] at hs
                simp at hs
                obtain ⟨rfl, rfl⟩ := hs
                have hd : d = 93 := by
                  cases f with
                  | zero => simp [pClsF] at hr
                  | succ f =>
                    rw [pClsF] at hr
                    by_cases hd : d = 93
                    · exact hd
                    · rw [if_neg hd] at hr
                      simp only [pSpan] at hr
                      cases f <;> simp [pClsF] at hr
                subst hd
                unfold pSpan
                split
                · rename_i e; simp at e
                · rfl
              | d :: e :: r, hs =>
                unfold pSpan at hs ⊢
                split at hs
                · rename_i d' r' heq
                  simp at heq
                  obtain ⟨rfl, rfl, rfl⟩ := heq
                  simp only [List.cons_append]
                  split at hs
                  · rename_i h9
                    rw [if_pos h9]
                    simp at hs
                    obtain ⟨rfl, rfl⟩ := hs
                    rfl
                  · rename_i h9
                    rw [if_neg h9]
                    split at hs
                    · rename_i h10
                      rw [if_pos h10]
                      simp at hs
                      obtain ⟨rfl, rfl⟩ := hs
                      rfl
                    · simp at hs
                · rename_i hne
                  simp at hs
                  obtain ⟨rfl, rfl⟩ := hs
                  simp only [List.cons_append]
                  split
                  · rename_i d' r' heq
                    simp at heq
                    obtain ⟨rfl, rfl, rfl⟩ := heq
                    exact absurd rfl (hne _ _)
                  · rfl
            rw [hsm]
            simp only
            rw [pClsF_append f q1 m ys q2 hr g (by omega)]
theorem inside_cons (d : UInt8) (r : List UInt8) : inside (d :: r) = if d = 94 then r else d :: r := by
  simp [inside]
theorem pPart_append {l q : List UInt8} {p : Part} (m : List UInt8) (h : pPart l = .ok (p, q)) : pPart (l ++ m) = .ok (p, q ++ m) := by
  cases l with
  | nil => simp [pPart] at h
  | cons c l =>
    rw [List.cons_append]
    rw [pPart] at h ⊢
    split at h
    · rename_i e; rw [if_pos e]; simp at h; obtain ⟨rfl, rfl⟩ := h; rfl
    · rename_i e1
      rw [if_neg e1]
      split at h
      · rename_i e; rw [if_pos e]; simp at h; obtain ⟨rfl, rfl⟩ := h; rfl
      · rename_i e2
        rw [if_neg e2]
        split at h
        · rename_i e
          rw [if_pos e]
          rw [pBracket_of] at h ⊢
          cases hc : pCls (inside l) with
          | error x => rw [hc] at h; simp [brOf] at h
          | ok y =>
            obtain ⟨xs, q1⟩ := y
            have hl : l ≠ [] := by
              intro e
              subst e
              simp [inside, pCls, pClsF] at hc
            have hin : inside (l ++ m) = inside l ++ m := by
              cases l with
              | nil => exact absurd rfl hl
              | cons d r =>
                rw [List.cons_append, inside_cons, inside_cons]
                by_cases hd : d = 94
                · rw [if_pos hd, if_pos hd]
                · rw [if_neg hd, if_neg hd]; rfl
            have hhd : (l ++ m).head? = l.head? := by
              cases l with
              | nil => exact absurd rfl hl
              | cons d r => rfl
            rw [hin, hhd]
            have := pClsF_append _ _ m _ _ hc ((inside l ++ m).length + 1) (by rw [List.length_append]; omega)
            rw [show pCls (inside l ++ m) = .ok (xs, q1 ++ m) from this]
            rw [hc] at h
            cases xs with
            | nil => simp [brOf] at h
            | cons x xs =>
              simp [brOf] at h ⊢
              exact ⟨h.1, by rw [h.2]⟩
        · rename_i e3
          rw [if_neg e3]
          split at h
          · rename_i e
            rw [if_pos e]
            cases l with
            | nil => simp [pEsc] at h
            | cons d r =>
              simp [pEsc] at h ⊢
              exact ⟨h.1, by rw [h.2]⟩
          · rename_i e; rw [if_neg e]; simp at h; obtain ⟨rfl, rfl⟩ := h; rfl
theorem pPartsF_append : ∀ (f : Nat) (l m : List UInt8) (ps qs : List Part), pPartsF f l = .ok ps → pParts m = .ok qs → pParts (l ++ m) = .ok (ps ++ qs)
  | f, [], m, ps, qs, h, hm => by rw [pPartsF] at h; simp at h; subst h; simpa using hm
  | 0, c :: l, m, ps, qs, h, hm => by rw [pPartsF] at h; simp at h
  | f + 1, c :: l, m, ps, qs, h, hm => by
    rw [pPartsF] at h
    cases hp : pPart (c :: l) with
    | error e => rw [hp] at h; simp at h
    | ok y =>
      obtain ⟨p, q⟩ := y
      rw [hp] at h
      simp only at h
      cases hr : pPartsF f q with
      | error e => rw [hr] at h; simp at h
      | ok ps' =>
        rw [hr] at h
        simp at h
        subst h
        have h2 := pPart_append m hp
        rw [List.cons_append] at h2 ⊢
        rw [pParts_ok h2, pPartsF_append f q m ps' qs hr hm]
        rfl
/-! stars -/
theorem star_any (f : List UInt8 → Bool) (t s : List UInt8) (h : f s = true) : starMat f (t ++ s) = true := by
  rw [starMat_iff]
  exact ⟨t.length, by simp, by simpa using h⟩
theorem mat_star_cons (ps : List Part) (t s : List UInt8) (h : mat ps s = true) : mat (.star :: ps) (t ++ s) = true := by
  rw [mat, if_pos (show Part.star.many = true from rfl)]
  exact star_any _ _ _ h
theorem mat_only_star (s : List UInt8) : mat [.star] s = true := by
  rw [mat, if_pos (show Part.star.many = true from rfl), starMat_iff]
  exact ⟨s.length, Nat.le_refl _, by simp [mat]⟩
theorem mat_append : ∀ (ps qs : List Part) (s t : List UInt8), mat ps s = true → mat qs t = true → mat (ps ++ qs) (s ++ t) = true
  | [], qs, s, t, h, hq => by
    rw [mat] at h
    have : s = [] := by simpa using h
    subst this
    simpa using hq
  | p :: ps, qs, s, t, h, hq => by
    rw [List.cons_append, mat]
    rw [mat] at h
    by_cases hm : p.many = true
    · rw [if_pos hm] at h ⊢
      rw [starMat_iff] at h ⊢
      obtain ⟨j, hj, hf⟩ := h
      refine ⟨j, by simp; omega, ?_⟩
      rw [List.drop_append_of_le_length hj]
      exact mat_append ps qs _ t hf hq
    · rw [if_neg hm] at h ⊢
      cases s with
      | nil => simp [oneMat] at h
      | cons c s =>
        rw [List.cons_append]
        simp only [oneMat, Bool.and_eq_true] at h ⊢
        exact ⟨h.1, mat_append ps qs s t h.2 hq⟩
theorem mat_two_stars : ∀ (ps : List Part) (s : List UInt8), mat (ps ++ [.star, .star]) s = mat (ps ++ [.star]) s
  | [], s => by
    rw [List.nil_append, List.nil_append, mat_only_star]
    have := mat_star_cons [.star] [] s (mat_only_star s)
    simpa using this
  | p :: ps, s => by
    rw [List.cons_append, List.cons_append, mat, mat]
    have : mat (ps ++ [.star, .star]) = mat (ps ++ [.star]) := funext fun s => mat_two_stars ps s
    rw [this]
/-! what Match answers then -/
theorem match_of {p s : ByteArray} {ps : List Part} (hp : p.size ≤ 60) (hs : s.size ≤ 60) (h : pParts p.data.toList = .ok ps) : checkG p = 0 ∧ matchE p s = 0 ∧ matchB p s = mat ps s.data.toList := by
  have h1 : checkG p = 0 := by rw [checkG, if_neg (by omega), h]
  have h2 : matchE p s = 0 := by rw [matchE, if_neg (by simp [h1]), if_neg (by omega)]
  exact ⟨h1, h2, by rw [matchB, if_neg (by simp [h2]), h]⟩
theorem of_match {p s : ByteArray} (h : matchE p s = 0) : p.size ≤ 60 ∧ s.size ≤ 60 ∧ ∃ ps, pParts p.data.toList = .ok ps := by
  unfold matchE at h
  split at h
  · rename_i hc; exact absurd h hc
  · rename_i hc
    have hc0 : checkG p = 0 := Decidable.byContradiction hc
    unfold checkG at hc0
    split at hc0
    · cases hc0
    · split at hc0
      · cases hc0
      · rename_i ps hps
        split at h
        · cases h
        · exact ⟨by omega, by omega, ps, hps⟩
theorem not_match {p s : ByteArray} (h : ¬ matchE p s = 0) : matchB p s = false := by rw [matchB, if_pos h]
theorem star_law {p s t : ByteArray} (h : matchE p s = 0) (hp : p.size ≤ 58) (hst : s.size + t.size ≤ 60) :
    matchE (p ++ ⟨#[42]⟩) (s ++ t) = 0 ∧ matchE (⟨#[42]⟩ ++ p) (t ++ s) = 0 ∧ matchE (p ++ ⟨#[42, 42]⟩) (s ++ t) = 0 ∧
    (matchB p s = true → matchB (p ++ ⟨#[42]⟩) (s ++ t) = true ∧ matchB (⟨#[42]⟩ ++ p) (t ++ s) = true) ∧ matchB (p ++ ⟨#[42]⟩) (s ++ t) = matchB (p ++ ⟨#[42, 42]⟩) (s ++ t) := by
  obtain ⟨_, _, ps, hps⟩ := of_match h
  have e1 : pParts (p ++ ⟨#[42]⟩ : ByteArray).data.toList = .ok (ps ++ [.star]) := by
    rw [list_append]
    exact pPartsF_append _ _ _ _ _ hps rfl
  have e2 : pParts (⟨#[42]⟩ ++ p : ByteArray).data.toList = .ok (.star :: ps) := by
    rw [list_append]
    show pParts (42 :: p.data.toList) = _
    rw [pParts_ok (show pPart (42 :: p.data.toList) = .ok (.star, p.data.toList) from rfl), hps]
  have e3 : pParts (p ++ ⟨#[42, 42]⟩ : ByteArray).data.toList = .ok (ps ++ [.star, .star]) := by
    rw [list_append]
    exact pPartsF_append _ _ _ _ _ hps rfl
  have z1 : (p ++ ⟨#[42]⟩ : ByteArray).size ≤ 60 := by rw [ByteArray.size_append]; show p.size + 1 ≤ 60; omega
  have z2 : (⟨#[42]⟩ ++ p : ByteArray).size ≤ 60 := by rw [ByteArray.size_append]; show 1 + p.size ≤ 60; omega
  have z3 : (p ++ ⟨#[42, 42]⟩ : ByteArray).size ≤ 60 := by rw [ByteArray.size_append]; show p.size + 2 ≤ 60; omega
  have z4 : (s ++ t : ByteArray).size ≤ 60 := by rw [ByteArray.size_append]; omega
  have z5 : (t ++ s : ByteArray).size ≤ 60 := by rw [ByteArray.size_append]; omega
  obtain ⟨_, a1, b1⟩ := match_of z1 z4 e1
  obtain ⟨_, a2, b2⟩ := match_of z2 z5 e2
  obtain ⟨_, a3, b3⟩ := match_of z3 z4 e3
  obtain ⟨_, _, b0⟩ := match_of (p := p) (s := s) (by omega) (by omega) hps
  refine ⟨a1, a2, a3, fun hm => ?_, ?_⟩
  · rw [b0] at hm
    rw [b1, b2, list_append, list_append]
    exact ⟨mat_append ps [.star] _ _ hm (mat_only_star _), mat_star_cons ps _ _ hm⟩
  · rw [b1, b3, mat_two_stars]

set_option maxRecDepth 100000 in
set_option maxHeartbeats 2000000 in
theorem globStar_walk (p s t : ByteArray) (w : World) (hs : s.size ≤ 281474976710656) (ht : t.size ≤ 281474976710656) :
    Calls Try.prog 4 #[.string p, .string s, .string t] w fun e w' => e = .returned (.bool true) ∧ Below w.heap.size w w' := by
  have HB : Hid (∀ W, Calls Try.prog 9 #[] W fun e w' => e = .returned (.bool true) ∧ Below W.heap.size W w') := fun W => globBegun_any W
  have H0 : Hid (∀ W, Calls Try.prog 10 #[.string p, .string s] W fun e w' => e = .returned (.tuple #[.bool (matchB p s), .int .i64 (matchE p s)]) ∧ Below W.heap.size W w') := fun W => match_tells p s W
  by_cases hE : matchE p s = 0
  · by_cases hsz : p.size ≤ 58 ∧ s.size + t.size ≤ 60
    · obtain ⟨hz1, hz2⟩ := hsz
      obtain ⟨a1, a2, a3, b1, b2⟩ := star_law hE hz1 hz2
      have H1 : Hid (∀ W, Calls Try.prog 10 #[.string (p ++ ⟨#[42]⟩), .string (s ++ t)] W fun e w' => e = .returned (.tuple #[.bool (matchB (p ++ ⟨#[42]⟩) (s ++ t)), .int .i64 0]) ∧ Below W.heap.size W w') := fun W => by rw [← a1]; exact match_tells _ _ W
      have H2 : Hid (∀ W, Calls Try.prog 10 #[.string (⟨#[42]⟩ ++ p), .string (t ++ s)] W fun e w' => e = .returned (.tuple #[.bool (matchB (⟨#[42]⟩ ++ p) (t ++ s)), .int .i64 0]) ∧ Below W.heap.size W w') := fun W => by rw [← a2]; exact match_tells _ _ W
      have H3 : Hid (∀ W, Calls Try.prog 10 #[.string (p ++ ⟨#[42, 42]⟩), .string (s ++ t)] W fun e w' => e = .returned (.tuple #[.bool (matchB (p ++ ⟨#[42]⟩) (s ++ t)), .int .i64 0]) ∧ Below W.heap.size W w') := fun W => by rw [← a3, b2]; exact match_tells _ _ W
      rw [hE] at H0
      have n1 : ¬ (58 : Int) < ((p.size : Nat) : Int) := by omega
      have n2 : ¬ (60 : Int) < ((s.size : Nat) : Int) + ((t.size : Nat) : Int) := by omega
      have m1 : ¬ 9223372036854775807 < p.size + 1 := by omega
      have m2 : ¬ 9223372036854775807 < s.size + t.size := by omega
      have m3 : ¬ 9223372036854775807 < 1 + p.size := by omega
      have m4 : ¬ 9223372036854775807 < t.size + s.size := by omega
      have m5 : ¬ 9223372036854775807 < p.size + 2 := by omega
      have HB1 := hide b1
      clear a1 a2 a3 b1 b2 hE
      generalize matchB p s = B0 at *
      generalize matchB (p ++ ⟨#[42]⟩) (s ++ t) = B1 at *
      generalize matchB (⟨#[42]⟩ ++ p) (t ++ s) = B2 at *
      have hfin : (!B0 || B1 && B2) = true := by
        cases B0 with
        | false => rfl
        | true =>
          obtain ⟨h1, h2⟩ := HB1.out rfl
          rw [h1, h2]
          rfl
      have HF := hide hfin
      clear HB1 hfin
      go_enter Try.func4, Try.ntmps4
      go_wp2_with fail
      refine (HB.out _).mono ?_
      rintro e w0 ⟨rfl, hb0⟩
      go_wp2_with fail
      refine (H0.out _).mono ?_
      rintro e w1 ⟨rfl, hb1⟩
      go_wp2_with fail
      refine (H1.out _).mono ?_
      rintro e w2 ⟨rfl, hb2⟩
      go_wp2_with fail
      refine (H2.out _).mono ?_
      rintro e w3 ⟨rfl, hb3⟩
      go_wp2_with fail
      refine (H3.out _).mono ?_
      rintro e w4 ⟨rfl, hb4⟩
      have z0 := hb0.size
      have z1 := hb1.size
      have z2 := hb2.size
      have z3 := hb3.size
      have hbb : Below w.heap.size w w4 := (((hb0.trans (hb1.mono z0)).trans (hb2.mono (by omega))).trans (hb3.mono (by omega))).trans (hb4.mono (by omega))
      clear z0 z1 z2 z3 hb0 hb1 hb2 hb3 hb4 H0 H1 H2 H3 HB
      have HF2 := HF.out
      cases B0 <;> cases B1 <;> cases B2 <;> simp at HF2
      all_goals
        go_wp2_with fail
        go_ret
        exact ⟨rfl, hbb⟩
    · rw [hE] at H0
      clear hE
      generalize matchB p s = B0 at *
      by_cases h1 : p.size ≤ 58
      · have n1 : ¬ (58 : Int) < ((p.size : Nat) : Int) := by omega
        have n2 : (60 : Int) < ((s.size : Nat) : Int) + ((t.size : Nat) : Int) := by omega
        clear hsz
        go_enter Try.func4, Try.ntmps4
        go_wp2_with fail
        refine (HB.out _).mono ?_
        rintro e w0 ⟨rfl, hb0⟩
        go_wp2_with fail
        refine (H0.out _).mono ?_
        rintro e w1 ⟨rfl, hb1⟩
        have z0 := hb0.size
        go_wp2_with fail
        go_ret
        exact ⟨rfl, hb0.trans (hb1.mono z0)⟩
      · have n1 : (58 : Int) < ((p.size : Nat) : Int) := by omega
        clear hsz
        go_enter Try.func4, Try.ntmps4
        go_wp2_with fail
        refine (HB.out _).mono ?_
        rintro e w0 ⟨rfl, hb0⟩
        go_wp2_with fail
        refine (H0.out _).mono ?_
        rintro e w1 ⟨rfl, hb1⟩
        have z0 := hb0.size
        go_wp2_with fail
        go_ret
        exact ⟨rfl, hb0.trans (hb1.mono z0)⟩
  · rw [not_match hE] at H0
    have hEb : (matchE p s == 0) = false := by rw [beq_eq_false_iff_ne]; exact hE
    have hEn : (matchE p s != 0) = true := by rw [bne_iff_ne]; exact hE
    generalize matchE p s = E at *
    go_enter Try.func4, Try.ntmps4
    go_wp2_with fail
    refine (HB.out _).mono ?_
    rintro e w0 ⟨rfl, hb0⟩
    go_wp2_with fail
    refine (H0.out _).mono ?_
    rintro e w1 ⟨rfl, hb1⟩
    have z0 := hb0.size
    go_wp2_with fail
    go_ret
    exact ⟨rfl, hb0.trans (hb1.mono z0)⟩
end Go.Proofs.Ytkjnalbnhmpopaa
