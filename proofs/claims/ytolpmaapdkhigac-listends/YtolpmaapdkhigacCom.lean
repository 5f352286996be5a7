/- WALKS of what the layers of items have in common: places of a range. -/
import Derived.Test.YtolpmaapdkhigacComC
import Derived.Handy
namespace Go.Proofs.Ytolpmaapdkhigac
open Go.RowKit

/-- a place from the beginning -/
def fromB (n : Nat) (f : Int) : Int := if f < 0 then n + f else f
theorem fromEnd_any (n : Nat) (f : Int) (w : World) (hn : n ≤ 9223372036854775807) (hf : -9223372036854775808 ≤ f) : Calls Try.prog 42 #[.int .i64 n, .int .i64 f] w fun e w' => e = .returned (.int .i64 (fromB n f)) ∧ w' = w := by
  by_cases h : f < 0
  · rw [show fromB n f = n + f by rw [fromB, if_pos h]]
    go_enter Try.func42, Try.ntmps42
    go_wp2_with fail
    go_ret
    exact ⟨rfl, rfl⟩
  · rw [show fromB n f = f by rw [fromB, if_neg h]]
    go_enter Try.func42, Try.ntmps42
    go_wp2_with fail
    go_ret
    exact ⟨rfl, rfl⟩
/-- the first place, and the one behind the last -/
def place1 (n : Nat) (f t : Int) : Nat := if min (fromB n t) (n - 1) < max (fromB n f) 0 then 0 else (max (fromB n f) 0).toNat
def place2 (n : Nat) (f t : Int) : Nat := if min (fromB n t) (n - 1) < max (fromB n f) 0 then 0 else (min (fromB n t) (n - 1)).toNat + 1
theorem place_le (n : Nat) (f t : Int) : place1 n f t ≤ place2 n f t ∧ place2 n f t ≤ n := by
  unfold place1 place2
  split <;> omega
set_option maxHeartbeats 1000000 in
theorem places_any (n : Nat) (f t : Int) (w : World) (hn : n ≤ 9223372036854775807) (hf : -9223372036854775808 ≤ f) (ht : -9223372036854775808 ≤ t) (hf2 : f ≤ 9223372036854775807) (ht2 : t ≤ 9223372036854775807) :
    Calls Try.prog 27 #[.int .i64 n, .int .i64 f, .int .i64 t] w fun e w' => e = .returned (.tuple #[.int .i64 (place1 n f t), .int .i64 (place2 n f t)]) ∧ w' = w := by
  have H1 : Hid (∀ W, Calls Try.prog 42 #[.int .i64 n, .int .i64 f] W fun e w' => e = .returned (.int .i64 (fromB n f)) ∧ w' = W) := fun W => fromEnd_any n f W hn hf
  have H2 : Hid (∀ W, Calls Try.prog 42 #[.int .i64 n, .int .i64 t] W fun e w' => e = .returned (.int .i64 (fromB n t)) ∧ w' = W) := fun W => fromEnd_any n t W hn ht
  have b1 : fromB n f ≤ 9223372036854775807 ∧ -9223372036854775808 ≤ fromB n f := by unfold fromB; split <;> omega
  have b2 : fromB n t ≤ 9223372036854775807 ∧ -9223372036854775808 ≤ fromB n t := by unfold fromB; split <;> omega
  have P1 : Hid (((place1 n f t : Nat) : Int) = if min (fromB n t) (n - 1) < max (fromB n f) 0 then 0 else max (fromB n f) 0) := by unfold place1; split <;> (simp only [Hid]; omega)
  have P2 : Hid (((place2 n f t : Nat) : Int) = if min (fromB n t) (n - 1) < max (fromB n f) 0 then 0 else min (fromB n t) (n - 1) + 1) := by unfold place2; split <;> (simp only [Hid]; omega)
  rw [P1.out, P2.out]
  clear P1 P2
  generalize fromB n f = F at *
  generalize fromB n t = T at *
  obtain ⟨b1, b1'⟩ := b1
  obtain ⟨b2, b2'⟩ := b2
  rcases Int.lt_or_le F 0 with hF | hF
  · rw [show max F 0 = 0 by omega]
    rcases Int.lt_or_le ((n : Int) - 1) T with hT | hT
    · rw [show min T ((n : Int) - 1) = (n : Int) - 1 by omega]
      by_cases hL : (n : Int) - 1 < 0
      · rw [if_pos hL, if_pos hL]
        go_enter Try.func27, Try.ntmps27
        go_wp2_with fail
        refine (H1.out _).mono ?_
        rintro e w1 ⟨rfl, rfl⟩
        go_wp2_with fail
        refine (H2.out _).mono ?_
        rintro e w1 ⟨rfl, rfl⟩
        go_wp2_with fail
        go_ret2
        exact ⟨rfl, rfl⟩
      · rw [if_neg hL, if_neg hL, show (n : Int) - 1 + 1 = n by omega]
        go_enter Try.func27, Try.ntmps27
        go_wp2_with fail
        refine (H1.out _).mono ?_
        rintro e w1 ⟨rfl, rfl⟩
        go_wp2_with fail
        refine (H2.out _).mono ?_
        rintro e w1 ⟨rfl, rfl⟩
        go_wp2_with fail
        go_ret2
        exact ⟨rfl, rfl⟩
    · rw [show min T ((n : Int) - 1) = T by omega]
      by_cases hL : T < 0
      · rw [if_pos hL, if_pos hL]
        go_enter Try.func27, Try.ntmps27
        go_wp2_with fail
        refine (H1.out _).mono ?_
        rintro e w1 ⟨rfl, rfl⟩
        go_wp2_with fail
        refine (H2.out _).mono ?_
        rintro e w1 ⟨rfl, rfl⟩
        go_wp2_with fail
        go_ret2
        exact ⟨rfl, rfl⟩
      · rw [if_neg hL, if_neg hL]
        go_enter Try.func27, Try.ntmps27
        go_wp2_with fail
        refine (H1.out _).mono ?_
        rintro e w1 ⟨rfl, rfl⟩
        go_wp2_with fail
        refine (H2.out _).mono ?_
        rintro e w1 ⟨rfl, rfl⟩
        go_wp2_with fail
        go_ret2
        exact ⟨rfl, rfl⟩
  · rw [show max F 0 = F by omega]
    rcases Int.lt_or_le ((n : Int) - 1) T with hT | hT
    · rw [show min T ((n : Int) - 1) = (n : Int) - 1 by omega]
      by_cases hL : (n : Int) - 1 < F
      · rw [if_pos hL, if_pos hL]
        go_enter Try.func27, Try.ntmps27
        go_wp2_with fail
        refine (H1.out _).mono ?_
        rintro e w1 ⟨rfl, rfl⟩
        go_wp2_with fail
        refine (H2.out _).mono ?_
        rintro e w1 ⟨rfl, rfl⟩
        go_wp2_with fail
        go_ret2
        exact ⟨rfl, rfl⟩
      · rw [if_neg hL, if_neg hL, show (n : Int) - 1 + 1 = n by omega]
        go_enter Try.func27, Try.ntmps27
        go_wp2_with fail
        refine (H1.out _).mono ?_
        rintro e w1 ⟨rfl, rfl⟩
        go_wp2_with fail
        refine (H2.out _).mono ?_
        rintro e w1 ⟨rfl, rfl⟩
        go_wp2_with fail
        go_ret2
        exact ⟨rfl, rfl⟩
    · rw [show min T ((n : Int) - 1) = T by omega]
      by_cases hL : T < F
      · rw [if_pos hL, if_pos hL]
        go_enter Try.func27, Try.ntmps27
        go_wp2_with fail
        refine (H1.out _).mono ?_
        rintro e w1 ⟨rfl, rfl⟩
        go_wp2_with fail
        refine (H2.out _).mono ?_
        rintro e w1 ⟨rfl, rfl⟩
        go_wp2_with fail
        go_ret2
        exact ⟨rfl, rfl⟩
      · rw [if_neg hL, if_neg hL]
        go_enter Try.func27, Try.ntmps27
        go_wp2_with fail
        refine (H1.out _).mono ?_
        rintro e w1 ⟨rfl, rfl⟩
        go_wp2_with fail
        refine (H2.out _).mono ?_
        rintro e w1 ⟨rfl, rfl⟩
        go_wp2_with fail
        go_ret2
        exact ⟨rfl, rfl⟩
end Go.Proofs.Ytolpmaapdkhigac
