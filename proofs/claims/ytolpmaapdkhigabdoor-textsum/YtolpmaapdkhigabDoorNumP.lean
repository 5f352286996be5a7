/- PLAIN facts: numbers there and back. -/
import Derived.Test.YtolpmaapdkhigabDoorNum
import Derived.Lib.ItoaMem
import Derived.Lib.AtoiAllCases
namespace Go.Proofs.YtolpmaapdkhigabDoor
open Go.RowKit

theorem digit_val (d : Nat) (h : d < 10) : (UInt8.ofNat (48 + d)).toNat = 48 + d := by simp; omega
theorem decDigits_len : ∀ (k u : Nat), u < 10 ^ (k + 1) → (Lib.decDigits u).length ≤ k + 1
  | 0, u, h => by rw [Lib.decDigits, dif_pos (by simpa using h)]; simp
  | k + 1, u, h => by
    rw [Lib.decDigits]
    split
    · simp
    · have := decDigits_len k (u / 10) (by rw [Nat.div_lt_iff_lt_mul (by omega)]; rw [Nat.pow_succ] at h; exact h)
      simp
      omega
theorem decDigits_mem (u : Nat) : ∀ c ∈ Lib.decDigits u, 48 ≤ c.toNat ∧ c.toNat ≤ 57 := by
  induction u using Nat.strongRecOn with
  | ind u ih =>
    intro c hc
    rw [Lib.decDigits] at hc
    split at hc
    · rename_i h
      simp at hc
      subst hc
      simp
      omega
    · rename_i h
      simp at hc
      rcases hc with hc | hc
      · exact ih (u / 10) (by omega) c hc
      · subst hc
        have : u % 10 < 10 := Nat.mod_lt _ (by omega)
        simp
        omega
theorem parse_append : ∀ (l m : List UInt8) (acc v : Nat), Lib.parseUint10 acc l = .ok v → Lib.parseUint10 acc (l ++ m) = Lib.parseUint10 v m
  | [], m, acc, v, h => by simp [Lib.parseUint10] at h; subst h; rfl
  | c :: l, m, acc, v, h => by
    rw [List.cons_append, Lib.parseUint10]
    rw [Lib.parseUint10] at h
    split at h
    · rename_i h1
      rw [if_pos h1]
      split at h
      · simp at h
      · rename_i h2
        rw [if_neg h2]
        split at h
        · simp at h
        · rename_i h3
          rw [if_neg h3]
          exact parse_append l m _ v h
    · simp at h
theorem parse_dec (u : Nat) (h : u ≤ 999999999) : Lib.parseUint10 0 (Lib.decDigits u) = .ok u := by
  induction u using Nat.strongRecOn with
  | ind u ih =>
    rw [Lib.decDigits]
    split
    · rename_i h1
      have hd := digit_val u h1
      simp only [Lib.parseUint10, hd]
      rw [if_pos (by omega), if_neg (by omega), if_neg (by omega)]
      congr 1
      omega
    · rename_i h1
      have hm : u % 10 < 10 := Nat.mod_lt _ (by omega)
      have hd := digit_val (u % 10) hm
      rw [parse_append _ _ 0 (u / 10) (ih (u / 10) (by omega) (by omega))]
      simp only [Lib.parseUint10, hd]
      rw [if_pos (by omega), if_neg (by omega), if_neg (by omega)]
      congr 1
      omega
theorem decDigits_ne (u : Nat) : Lib.decDigits u ≠ [] := by
  rw [Lib.decDigits]
  split <;> simp
theorem atoi_itoa (n : Int) (h0 : -999999999 ≤ n) (h1 : n ≤ 999999999) : Lib.atoiAll (Lib.itoa n) = .ok n := by
  unfold Lib.itoa
  split
  · rename_i hn
    have hp : Lib.parseMag (Lib.decDigits n.natAbs) = .ok n.natAbs := by
      rw [Lib.parseMag, if_neg (decDigits_ne _)]
      exact parse_dec _ (by omega)
    simp only [Lib.atoiAll]
    simp [hp]
    rw [if_neg (by omega)]
    congr 1
    omega
  · rename_i hn
    have hp : Lib.parseMag (Lib.decDigits n.toNat) = .ok n.toNat := by
      rw [Lib.parseMag, if_neg (decDigits_ne _)]
      exact parse_dec _ (by omega)
    cases hd : Lib.decDigits n.toNat with
    | nil => exact absurd hd (decDigits_ne _)
    | cons c r =>
      have hc := decDigits_mem n.toNat c (by rw [hd]; simp)
      rw [hd] at hp
      simp only [Lib.atoiAll]
      rw [if_neg (by omega), hp]
      simp only
      rw [if_neg (by omega), if_neg (by omega), if_neg (by omega)]
      congr 1
      omega
theorem itoa_no13 (n : Int) : ∀ c ∈ Lib.itoa n, c ≠ 13 := by
  intro c hc he
  subst he
  unfold Lib.itoa at hc
  split at hc
  · simp at hc
    have := decDigits_mem _ _ hc
    simp at this
  · have := decDigits_mem _ _ hc
    simp at this
theorem pInt_itoa (n : Int) (h0 : -999999999 ≤ n) (h1 : n ≤ 999999999) : pInt (Lib.itoa n) = some n := by
  rw [pInt, atoi_itoa n h0 h1]
  simp [h0, h1]
theorem pInt_inv {x : List UInt8} {v : Int} (h : pInt x = some v) : Lib.itoa v = x ∧ -999999999 ≤ v ∧ v ≤ 999999999 := by
  unfold pInt at h
  split at h
  · split at h
    · rename_i hh
      simp at h
      subst h
      exact hh
    · simp at h
  · simp at h
theorem itoa_len (n : Int) (h0 : -999999999 ≤ n) (h1 : n ≤ 999999999) : (Lib.itoa n).length ≤ 20 := by
  unfold Lib.itoa
  split
  · have := decDigits_len 8 n.natAbs (by omega)
    simp
    omega
  · have := decDigits_len 8 n.toNat (by omega)
    omega
end Go.Proofs.YtolpmaapdkhigabDoor
