/- WALK of a number out of bytes. -/
import Derived.Test.YtolpmaapdkhigabITake
import Derived.Laws.BitsLemmas
import Derived.Handy
namespace Go.Proofs.Ytolpmaapdkhigab
open Go.RowKit

theorem wraps64 (n : Int) (h₀ : 0 ≤ n) (h₁ : n < 2 ^ 63) : IntKind.i64.wrap n = n := by rw [IntKind.wrap_i64]; omega
theorem or8 (x y : Int) (hx₀ : 0 ≤ x) (hx : x % 256 = 0) (hx₁ : x < 9223372036854775808) (h₀ : 0 ≤ y) (h₁ : y < 256) : bits .or .i64 x y = x + y :=
  bits_join .i64 63 (by decide) wraps64 8 x y hx₀ hx hx₁ h₀ h₁ (by omega)
def numTo (l : List UInt8) (k : Nat) : Nat := (l.take k).foldl (fun n c => n * 256 + c.toNat) 0
theorem numTo_succ {l : List UInt8} {k : Nat} {c : UInt8} {r : List UInt8} (h : l.drop k = c :: r) : numTo l (k + 1) = numTo l k * 256 + c.toNat := by
  have hk : k < l.length := by
    rcases Nat.lt_or_ge k l.length with h1 | h1
    · exact h1
    · rw [List.drop_of_length_le h1] at h; cases h
  have hc : l[k] = c := by
    rw [List.drop_eq_getElem_cons hk] at h
    injection h
  unfold numTo
  rw [List.take_succ_eq_append_getElem hk, List.foldl_append, hc]
  rfl
theorem numTo_lt (l : List UInt8) : ∀ k, numTo l k < 256 ^ k
  | 0 => by simp [numTo]
  | k + 1 => by
    have ih := numTo_lt l k
    rw [Nat.pow_succ]
    cases h : l.drop k with
    | nil =>
      have h1 : l.length ≤ k := by
        rcases Nat.lt_or_ge k l.length with h2 | h2
        · rw [List.drop_eq_getElem_cons h2] at h; cases h
        · exact h2
      have e : numTo l (k + 1) = numTo l k := by unfold numTo; rw [List.take_of_length_le (by omega), List.take_of_length_le h1]
      rw [e]
      omega
    | cons c r =>
      rw [numTo_succ h]
      have := byte_lt c
      omega
set_option maxHeartbeats 1000000 in
theorem number_ok (b : Nat) (s : ByteArray) (l : List UInt8) (w : World) (h : AtL b s l w) (hl : 4 ≤ l.length) :
    Calls Try.prog 60 #[.pointer (some ⟨b, 0, none⟩)] w fun e w' => e = .returned (.int .i64 (((numTo l 4 : Nat) : Int) - 999999999)) ∧ AtL b s (l.drop 4) w' ∧ Kept (one b) w w' := by
  have H0 := hide h
  clear h
  have hb4 := numTo_lt l 4
  go_enter Try.func60, Try.ntmps60
  go_wp2_with fail
  go_loopw [3, 4] (fun n i wr => ∃ k : Nat, k ≤ 4 ∧ i = .int .i64 k ∧ n = .int .i64 (numTo l k : Nat) ∧ AtL b s (l.drop k) wr ∧ Kept (one b) w wr) (fun _ i _ => 4 - (intOf i).toNat)
  case atStart => exact ⟨0, by omega, rfl, rfl, by rw [List.drop_zero]; exact H0.out, Kept.refl _ _⟩
  case round =>
    obtain ⟨k, hk, rfl, rfl, hA, hK⟩ := hrel
    clear H0
    by_cases hlt : k < 4
    · have hlt' : ((k : Nat) : Int) < 4 := by omega
      have hd : l.drop k = l[k] :: l.drop (k + 1) := List.drop_eq_getElem_cons (by omega)
      have HS := hide (numTo_succ hd)
      rw [hd] at hA
      have HN := hide (next_ok b s _ _ wr hA)
      have hn := numTo_lt l k
      have hn3 : numTo l k < 16777216 := Nat.lt_of_lt_of_le hn (by
        have : k ≤ 3 := by omega
        exact Nat.le_trans (Nat.pow_le_pow_right (by omega) this) (by decide))
      have hc := byte_lt l[k]
      have hc' : ((l[k].toNat : Nat) : Int) ≤ 255 := by omega
      have hn' : ((numTo l k : Nat) : Int) < 16777216 := by omega
      clear hd hA hn
      generalize l[k] = c at *
      generalize numTo l k = N at *
      go_wp2_with fail
      refine HN.out.mono ?_
      rintro e w1 ⟨rfl, h1, hk1⟩
      have H1 := hide h1
      clear h1
      go_wp2_with fail
      go_roundw
      case rel => exact ⟨k + 1, by omega, by go_num, by rw [HS.out, or8 _ _ (by omega) (by omega) (by omega) (by omega) (by omega)]; go_num, H1.out, hK.trans hk1⟩
      case measure => simp [intOf]; omega
    · obtain rfl : k = 4 := by omega
      have HA := hide hA
      clear hA
      have hb' : ((numTo l 4 : Nat) : Int) < 4294967296 := by have h4 : (256 : Nat) ^ 4 = 4294967296 := (by decide); omega
      go_wp2_with fail
      go_ret
      exact ⟨rfl, HA.out, hK⟩
set_option maxHeartbeats 1000000 in
theorem number_err (b : Nat) (s : ByteArray) (l : List UInt8) (w : World) (h : AtL b s l w) (hl : l.length < 4) :
    Calls Try.prog 60 #[.pointer (some ⟨b, 0, none⟩)] w fun e w' => e = .panicked [{ v := .iface 92 (.agg #[.int .i64 (8)]), recovered := false }] ∧ Kept (one b) w w' := by
  have H0 := hide h
  clear h
  go_enter Try.func60, Try.ntmps60
  go_wp2_with fail
  go_loopw [3, 4] (fun n i wr => ∃ k : Nat, k ≤ l.length ∧ i = .int .i64 k ∧ n = .int .i64 (numTo l k : Nat) ∧ AtL b s (l.drop k) wr ∧ Kept (one b) w wr) (fun _ i _ => 4 - (intOf i).toNat)
  case atStart => exact ⟨0, by omega, rfl, rfl, by rw [List.drop_zero]; exact H0.out, Kept.refl _ _⟩
  case round =>
    obtain ⟨k, hk, rfl, rfl, hA, hK⟩ := hrel
    clear H0
    have hlt' : ((k : Nat) : Int) < 4 := by omega
    have hn := numTo_lt l k
    have hn3 : numTo l k < 16777216 := Nat.lt_of_lt_of_le hn (by
      have : k ≤ 3 := by omega
      exact Nat.le_trans (Nat.pow_le_pow_right (by omega) this) (by decide))
    have hn' : ((numTo l k : Nat) : Int) < 16777216 := by omega
    by_cases hlt : k < l.length
    · have hd : l.drop k = l[k] :: l.drop (k + 1) := List.drop_eq_getElem_cons (by omega)
      have HS := hide (numTo_succ hd)
      rw [hd] at hA
      have HN := hide (next_ok b s _ _ wr hA)
      have hc := byte_lt l[k]
      have hc' : ((l[k].toNat : Nat) : Int) ≤ 255 := by omega
      clear hd hA hn
      generalize l[k] = c at *
      generalize numTo l k = N at *
      go_wp2_with fail
      refine HN.out.mono ?_
      rintro e w1 ⟨rfl, h1, hk1⟩
      have H1 := hide h1
      clear h1
      go_wp2_with fail
      go_roundw
      case rel => exact ⟨k + 1, by omega, by go_num, by rw [HS.out, or8 _ _ (by omega) (by omega) (by omega) (by omega) (by omega)]; go_num, H1.out, hK.trans hk1⟩
      case measure => simp [intOf]; omega
    · rw [List.drop_of_length_le (by omega)] at hA
      have HN := hide (next_short b s wr hA)
      clear hA hn
      generalize numTo l k = N at *
      go_wp2_with fail
      refine HN.out.mono ?_
      rintro e w1 ⟨rfl, hk1⟩
      exact ⟨rfl, rfl, hK.trans hk1⟩
/-- a number out of bytes -/
def pNum (l : List UInt8) : Option (Int × List UInt8) := if 4 ≤ l.length then some (((numTo l 4 : Nat) : Int) - 999999999, l.drop 4) else none
end Go.Proofs.Ytolpmaapdkhigab
