/- PLAIN facts: the number that a text tells, as the reference reads it. -/
import Derived.Test.YtolpmaapdkhigabDoorNumP
namespace Go.Proofs.YtolpmaapdkhigabDoor
open Go.RowKit

def rIsDig (c : UInt8) : Bool := decide (48 ≤ c.toNat ∧ c.toNat ≤ 57)
def vStep (n : Nat) (c : UInt8) : Nat := 10 * n + (c.toNat - 48)
def valOf (acc : Nat) (d : List UInt8) : Nat := d.foldl vStep acc
theorem valOf_nil (acc : Nat) : valOf acc [] = acc := by rw [valOf, List.foldl_nil]
theorem valOf_cons (acc : Nat) (c : UInt8) (r : List UInt8) : valOf acc (c :: r) = valOf (10 * acc + (c.toNat - 48)) r := by rw [valOf, List.foldl_cons, vStep, valOf]
theorem valOf_snoc : ∀ (d : List UInt8) (acc : Nat) (c : UInt8), valOf acc (d ++ [c]) = 10 * valOf acc d + (c.toNat - 48)
  | [], acc, c => by rw [List.nil_append, valOf_cons, valOf_nil, valOf_nil]
  | e :: d, acc, c => by rw [List.cons_append, valOf_cons, valOf_cons, valOf_snoc d]
/-- digits: how the reference asks for them -/
def rDig (neg : Bool) (d : List UInt8) : Option Nat :=
  if d = [] ∨ 9 < d.length ∨ (d.head? = some 48 ∧ (1 < d.length ∨ neg = true)) then none
  else if d.all rIsDig then some (valOf 0 d) else none
def rInt : List UInt8 → Option Int
  | [] => none
  | c :: r => if c = 45 then (rDig true r).map (fun u : Nat => -(u : Int)) else (rDig false (c :: r)).map (fun u : Nat => (u : Int))

theorem valOf_dec (u : Nat) : valOf 0 (Lib.decDigits u) = u := by
  induction u using Nat.strongRecOn with
  | ind u ih =>
    rw [Lib.decDigits]
    split
    · rename_i h
      have := digit_val u h
      simp only [valOf_cons, valOf_nil, this]
      omega
    · rename_i h
      have hm : u % 10 < 10 := Nat.mod_lt _ (by omega)
      rw [valOf_snoc, ih (u / 10) (by omega), digit_val _ hm]
      omega
theorem dec_head (u : Nat) (hu : 1 ≤ u) : ∃ c r, Lib.decDigits u = c :: r ∧ c ≠ 48 := by
  induction u using Nat.strongRecOn with
  | ind u ih =>
    rw [Lib.decDigits]
    split
    · rename_i h
      refine ⟨_, [], rfl, fun e => ?_⟩
      have := digit_val u h
      rw [e] at this
      simp at this
      omega
    · rename_i h
      obtain ⟨c, r, h1, h2⟩ := ih (u / 10) (by omega) (by omega)
      exact ⟨c, r ++ [_], by rw [h1]; rfl, h2⟩
theorem valOf_pos : ∀ (d : List UInt8) (acc : Nat), 1 ≤ acc → 1 ≤ valOf acc d
  | [], acc, h => h
  | c :: d, acc, h => by rw [valOf_cons]; exact valOf_pos d _ (by omega)
theorem dig_back {c : UInt8} (h : rIsDig c = true) : UInt8.ofNat (48 + (c.toNat - 48)) = c := by
  simp only [rIsDig, decide_eq_true_eq] at h
  rw [show 48 + (c.toNat - 48) = c.toNat by omega]
  simp
theorem dec_valOf (d : List UInt8) (hd : ∀ c ∈ d, rIsDig c = true) (hn : d ≠ []) (hh : d.head? ≠ some 48 ∨ d.length = 1) : Lib.decDigits (valOf 0 d) = d := by
  generalize hl : d.length = n
  induction n generalizing d with
  | zero => exact absurd (List.eq_nil_of_length_eq_zero hl) hn
  | succ n ih =>
    obtain ⟨e, c, rfl⟩ : ∃ e c, d = e ++ [c] := ⟨d.dropLast, d.getLast hn, (List.dropLast_concat_getLast hn).symm⟩
    have hc := hd c (by simp)
    have hcb := hc
    simp only [rIsDig, decide_eq_true_eq] at hcb
    rw [valOf_snoc]
    cases e with
    | nil =>
      simp only [valOf_nil, List.nil_append]
      rw [Lib.decDigits, dif_pos (by omega)]
      rw [show 10 * 0 + (c.toNat - 48) = c.toNat - 48 by omega, dig_back hc]
    | cons f e =>
      have hf := hd f (by simp)
      have hf48 : f ≠ 48 := by
        rcases hh with hh | hh
        · intro e; subst e; simp at hh
        · simp at hh
      have hfb := hf
      simp only [rIsDig, decide_eq_true_eq] at hfb
      have hf2 : 49 ≤ f.toNat := by
        have : f.toNat ≠ 48 := fun e => hf48 (UInt8.toNat_inj.mp (by simpa using e))
        omega
      have h1 : 1 ≤ valOf 0 (f :: e) := by rw [valOf_cons]; exact valOf_pos e _ (by omega)
      have h2 := ih (f :: e) (fun x hx => hd x (by simp at hx ⊢; rcases hx with h | h; exact .inl h; exact .inr (.inl h))) (by simp) (.inl (by simp; exact hf48)) (by simp at hl ⊢; exact hl)
      rw [Lib.decDigits, dif_neg (by omega)]
      have e1 : (10 * valOf 0 (f :: e) + (c.toNat - 48)) / 10 = valOf 0 (f :: e) := by omega
      have e2 : (10 * valOf 0 (f :: e) + (c.toNat - 48)) % 10 = c.toNat - 48 := by omega
      rw [e1, e2, h2, dig_back hc]
theorem valOf_lt : ∀ (d : List UInt8) (acc k : Nat), (∀ c ∈ d, rIsDig c = true) → acc < 10 ^ k → valOf acc d < 10 ^ (k + d.length)
  | [], acc, k, _, h => by simpa [valOf_nil] using h
  | c :: d, acc, k, hd, h => by
    have hc := hd c (by simp)
    simp only [rIsDig, decide_eq_true_eq] at hc
    have := valOf_lt d (10 * acc + (c.toNat - 48)) (k + 1) (fun x hx => hd x (by simp [hx])) (by rw [Nat.pow_succ]; omega)
    rw [valOf_cons, List.length_cons, show k + (d.length + 1) = k + 1 + d.length by omega]
    exact this
theorem rDig_some {neg : Bool} {d : List UInt8} {u : Nat} (h : rDig neg d = some u) : Lib.decDigits u = d ∧ u ≤ 999999999 ∧ (neg = true → 1 ≤ u) := by
  unfold rDig at h
  split at h
  · simp at h
  · rename_i h1
    split at h
    · rename_i h2
      simp at h
      subst h
      rw [List.all_eq_true] at h2
      have hne : d ≠ [] := fun e => h1 (.inl e)
      have hl : d.length ≤ 9 := Decidable.byContradiction fun e => h1 (.inr (.inl (by omega)))
      have hh : d.head? ≠ some 48 ∨ d.length = 1 := by
        by_cases e : d.head? = some 48
        · right
          have : ¬ 1 < d.length := fun e2 => h1 (.inr (.inr ⟨e, .inl e2⟩))
          have : d.length ≠ 0 := fun e => hne (List.eq_nil_of_length_eq_zero e)
          omega
        · exact .inl e
      have hlt := valOf_lt d 0 0 h2 (by decide)
      have hpow : 10 ^ (0 + d.length) ≤ 10 ^ 9 := Nat.pow_le_pow_right (by decide) (by omega)
      refine ⟨dec_valOf d h2 hne hh, by omega, fun hneg => ?_⟩
      cases d with
      | nil => exact absurd rfl hne
      | cons c r =>
        have hc48 : c ≠ 48 := fun e => h1 (.inr (.inr ⟨by rw [e]; rfl, .inr hneg⟩))
        have hc := h2 c (by simp)
        simp only [rIsDig, decide_eq_true_eq] at hc
        have : c.toNat ≠ 48 := fun e => hc48 (UInt8.toNat_inj.mp (by simpa using e))
        rw [valOf_cons]
        exact valOf_pos r _ (by omega)
    · simp at h
theorem rDig_mk (neg : Bool) (u : Nat) (hu : u ≤ 999999999) (hn : neg = true → 1 ≤ u) : rDig neg (Lib.decDigits u) = some u := by
  have hl := decDigits_len 8 u (by omega)
  unfold rDig
  rw [if_neg, if_pos, valOf_dec]
  · rw [List.all_eq_true]
    intro c hc
    simpa [rIsDig] using decDigits_mem u c hc
  · rintro (h | h | ⟨h, h2⟩)
    · exact decDigits_ne u h
    · omega
    · by_cases h1 : 1 ≤ u
      · obtain ⟨c, r, e1, e2⟩ := dec_head u h1
        rw [e1] at h
        simp at h
        exact e2 h
      · have : u = 0 := by omega
        subst this
        rw [Lib.decDigits, dif_pos (by decide)] at h2
        simp at h2
        exact absurd (hn h2) (by decide)
/-- the reference reads just the numbers that the program reads -/
theorem rInt_eq (x : List UInt8) : rInt x = pInt x := by
  have fwd : ∀ v, rInt x = some v → pInt x = some v := fun v h => by
    cases x with
    | nil => simp [rInt] at h
    | cons c r =>
      rw [rInt] at h
      split at h
      · rename_i hc
        subst hc
        simp only [Option.map_eq_some_iff] at h
        obtain ⟨u, h1, rfl⟩ := h
        obtain ⟨h2, h3, h4⟩ := rDig_some h1
        have h5 := h4 rfl
        have := pInt_itoa (-(u : Int)) (by omega) (by omega)
        rw [Lib.itoa_neg u (by omega), h2] at this
        exact this
      · simp only [Option.map_eq_some_iff] at h
        obtain ⟨u, h1, rfl⟩ := h
        obtain ⟨h2, h3, h4⟩ := rDig_some h1
        have := pInt_itoa (u : Int) (by omega) (by omega)
        rw [Lib.itoa_nonneg, h2] at this
        exact this
  have bwd : ∀ v, pInt x = some v → rInt x = some v := fun v h => by
    obtain ⟨rfl, h0, h1⟩ := pInt_inv h
    by_cases hn : v < 0
    · obtain ⟨u, hu⟩ : ∃ u : Nat, v = -(u : Int) := ⟨v.natAbs, by omega⟩
      subst hu
      rw [Lib.itoa_neg u (by omega), rInt, if_pos rfl, rDig_mk true u (by omega) (fun _ => by omega)]
      rfl
    · obtain ⟨u, rfl⟩ := Int.eq_ofNat_of_zero_le (show 0 ≤ v by omega)
      rw [Lib.itoa_nonneg]
      cases hd : Lib.decDigits u with
      | nil => exact absurd hd (decDigits_ne u)
      | cons c r =>
        have hc := decDigits_mem u c (by rw [hd]; simp)
        have : c ≠ 45 := fun e => by subst e; simp at hc
        rw [rInt, if_neg this, ← hd, rDig_mk false u (by omega) (fun e => by cases e)]
        rfl
  cases h : pInt x with
  | some v => exact bwd v h
  | none =>
    cases h2 : rInt x with
    | none => rfl
    | some v => rw [fwd v h2] at h; simp at h
end Go.Proofs.YtolpmaapdkhigabDoor
