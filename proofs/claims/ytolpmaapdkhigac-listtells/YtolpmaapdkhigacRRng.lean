/- WALKS of the reference's ranges. -/
import Derived.Test.YtolpmaapdkhigacCom
import Derived.Handy
namespace Go.Proofs.Ytolpmaapdkhigac
open Go.RowKit

def clampN (n : Int) : Int := if 1000 < n then 1000 else if n < -1000 then -1000 else n
theorem clamped_any (n : Int) (w : World) : Calls Try.prog 15 #[.int .i64 n] w fun e w' => e = .returned (.int .i64 (clampN n)) ∧ w' = w := by
  by_cases h1 : 1000 < n
  · rw [show clampN n = 1000 by rw [clampN, if_pos h1]]
    go_enter Try.func15, Try.ntmps15
    go_wp2_with fail
    go_ret
    exact ⟨rfl, rfl⟩
  · by_cases h2 : n < -1000
    · rw [show clampN n = -1000 by rw [clampN, if_neg h1, if_pos h2]]
      go_enter Try.func15, Try.ntmps15
      go_wp2_with fail
      go_ret
      exact ⟨rfl, rfl⟩
    · rw [show clampN n = n by rw [clampN, if_neg h1, if_neg h2]]
      go_enter Try.func15, Try.ntmps15
      go_wp2_with fail
      go_ret
      exact ⟨rfl, rfl⟩
theorem clamp_bounds (n : Int) : -1000 ≤ clampN n ∧ clampN n ≤ 1000 := by
  unfold clampN
  split
  · omega
  · split <;> omega
/-- is a place of so many in the range? -/
def inR (i n : Nat) (f t : Int) : Bool := decide (place1 n f t ≤ i ∧ i < place2 n f t)
theorem inR_iff (i n : Nat) (f t : Int) (h : i < n) : inR i n f t = decide (fromB n f ≤ i ∧ (i : Int) ≤ fromB n t) := by
  unfold inR place1 place2
  generalize fromB n f = F
  generalize fromB n t = T
  rw [Bool.eq_iff_iff]
  simp only [decide_eq_true_eq]
  split <;> omega
theorem place_clamp (n : Nat) (f t : Int) (hn : n ≤ 100) : place1 n (clampN f) (clampN t) = place1 n f t ∧ place2 n (clampN f) (clampN t) = place2 n f t := by
  have hF : fromB n (clampN f) = if 1000 < f then 1000 else if f < -1000 then (n : Int) + -1000 else fromB n f := by
    unfold clampN
    by_cases h1 : 1000 < f
    · rw [if_pos h1, if_pos h1]; rfl
    · rw [if_neg h1, if_neg h1]
      by_cases h2 : f < -1000
      · rw [if_pos h2, if_pos h2]; rfl
      · rw [if_neg h2, if_neg h2]
  have hT : fromB n (clampN t) = if 1000 < t then 1000 else if t < -1000 then (n : Int) + -1000 else fromB n t := by
    unfold clampN
    by_cases h1 : 1000 < t
    · rw [if_pos h1, if_pos h1]; rfl
    · rw [if_neg h1, if_neg h1]
      by_cases h2 : t < -1000
      · rw [if_pos h2, if_pos h2]; rfl
      · rw [if_neg h2, if_neg h2]
  have eF : (1000 < f → fromB n f = f) ∧ (f < -1000 → fromB n f = n + f) := by unfold fromB; exact ⟨fun h => if_neg (by omega), fun h => if_pos (by omega)⟩
  have eT : (1000 < t → fromB n t = t) ∧ (t < -1000 → fromB n t = n + t) := by unfold fromB; exact ⟨fun h => if_neg (by omega), fun h => if_pos (by omega)⟩
  unfold place1 place2
  rw [hF, hT]
  generalize fromB n f = F at *
  generalize fromB n t = T at *
  obtain ⟨e1, e2⟩ := eF
  obtain ⟨e3, e4⟩ := eT
  by_cases h1 : 1000 < f
  · rw [if_pos h1]
    have := e1 h1
    by_cases h3 : 1000 < t
    · rw [if_pos h3]; have := e3 h3; constructor <;> (split <;> split <;> omega)
    · rw [if_neg h3]
      by_cases h4 : t < -1000
      · rw [if_pos h4]; have := e4 h4; constructor <;> (split <;> split <;> omega)
      · rw [if_neg h4]; constructor <;> (split <;> split <;> omega)
  · rw [if_neg h1]
    by_cases h2 : f < -1000
    · rw [if_pos h2]
      have := e2 h2
      by_cases h3 : 1000 < t
      · rw [if_pos h3]; have := e3 h3; constructor <;> (split <;> split <;> omega)
      · rw [if_neg h3]
        by_cases h4 : t < -1000
        · rw [if_pos h4]; have := e4 h4; constructor <;> (split <;> split <;> omega)
        · rw [if_neg h4]; constructor <;> (split <;> split <;> omega)
    · rw [if_neg h2]
      by_cases h3 : 1000 < t
      · rw [if_pos h3]; have := e3 h3; constructor <;> (split <;> split <;> omega)
      · rw [if_neg h3]
        by_cases h4 : t < -1000
        · rw [if_pos h4]; have := e4 h4; constructor <;> (split <;> split <;> omega)
        · rw [if_neg h4]; exact ⟨rfl, rfl⟩
set_option maxHeartbeats 1000000 in
theorem inRange_any (i n : Nat) (f t : Int) (w : World) (hi : i < n) (hn : n ≤ 100) (hf1 : -1000 ≤ f) (hf2 : f ≤ 1000) (ht1 : -1000 ≤ t) (ht2 : t ≤ 1000) :
    Calls Try.prog 34 #[.int .i64 i, .int .i64 n, .int .i64 f, .int .i64 t] w fun e w' => e = .returned (.bool (inR i n f t)) ∧ w' = w := by
  rw [inR_iff i n f t hi]
  unfold fromB
  by_cases h1 : f < 0
  · rw [if_pos h1]
    by_cases h2 : t < 0
    · rw [if_pos h2]
      by_cases g1 : f + (n : Int) ≤ (i : Int)
      · by_cases g2 : (i : Int) ≤ t + (n : Int)
        · rw [decide_eq_true (show (n : Int) + f ≤ (i : Int) ∧ (i : Int) ≤ (n : Int) + t from ⟨by omega, by omega⟩)]
          go_enter Try.func34, Try.ntmps34
          go_wp2_with fail
          go_ret
          exact ⟨rfl, rfl⟩
        · rw [decide_eq_false (show ¬ ((n : Int) + f ≤ (i : Int) ∧ (i : Int) ≤ (n : Int) + t) from fun h => g2 (by omega))]
          go_enter Try.func34, Try.ntmps34
          go_wp2_with fail
          go_ret
          exact ⟨rfl, rfl⟩
      · rw [decide_eq_false (show ¬ ((n : Int) + f ≤ (i : Int) ∧ (i : Int) ≤ (n : Int) + t) from fun h => g1 (by omega))]
        go_enter Try.func34, Try.ntmps34
        go_wp2_with fail
        go_ret
        exact ⟨rfl, rfl⟩
    · rw [if_neg h2]
      by_cases g1 : f + (n : Int) ≤ (i : Int)
      · by_cases g2 : (i : Int) ≤ t
        · rw [decide_eq_true (show (n : Int) + f ≤ (i : Int) ∧ (i : Int) ≤ t from ⟨by omega, by omega⟩)]
          go_enter Try.func34, Try.ntmps34
          go_wp2_with fail
          go_ret
          exact ⟨rfl, rfl⟩
        · rw [decide_eq_false (show ¬ ((n : Int) + f ≤ (i : Int) ∧ (i : Int) ≤ t) from fun h => g2 (by omega))]
          go_enter Try.func34, Try.ntmps34
          go_wp2_with fail
          go_ret
          exact ⟨rfl, rfl⟩
      · rw [decide_eq_false (show ¬ ((n : Int) + f ≤ (i : Int) ∧ (i : Int) ≤ t) from fun h => g1 (by omega))]
        go_enter Try.func34, Try.ntmps34
        go_wp2_with fail
        go_ret
        exact ⟨rfl, rfl⟩
  · rw [if_neg h1]
    by_cases h2 : t < 0
    · rw [if_pos h2]
      by_cases g1 : f ≤ (i : Int)
      · by_cases g2 : (i : Int) ≤ t + (n : Int)
        · rw [decide_eq_true (show f ≤ (i : Int) ∧ (i : Int) ≤ (n : Int) + t from ⟨by omega, by omega⟩)]
          go_enter Try.func34, Try.ntmps34
          go_wp2_with fail
          go_ret
          exact ⟨rfl, rfl⟩
        · rw [decide_eq_false (show ¬ (f ≤ (i : Int) ∧ (i : Int) ≤ (n : Int) + t) from fun h => g2 (by omega))]
          go_enter Try.func34, Try.ntmps34
          go_wp2_with fail
          go_ret
          exact ⟨rfl, rfl⟩
      · rw [decide_eq_false (show ¬ (f ≤ (i : Int) ∧ (i : Int) ≤ (n : Int) + t) from fun h => g1 (by omega))]
        go_enter Try.func34, Try.ntmps34
        go_wp2_with fail
        go_ret
        exact ⟨rfl, rfl⟩
    · rw [if_neg h2]
      by_cases g1 : f ≤ (i : Int)
      · by_cases g2 : (i : Int) ≤ t
        · rw [decide_eq_true (show f ≤ (i : Int) ∧ (i : Int) ≤ t from ⟨by omega, by omega⟩)]
          go_enter Try.func34, Try.ntmps34
          go_wp2_with fail
          go_ret
          exact ⟨rfl, rfl⟩
        · rw [decide_eq_false (show ¬ (f ≤ (i : Int) ∧ (i : Int) ≤ t) from fun h => g2 (by omega))]
          go_enter Try.func34, Try.ntmps34
          go_wp2_with fail
          go_ret
          exact ⟨rfl, rfl⟩
      · rw [decide_eq_false (show ¬ (f ≤ (i : Int) ∧ (i : Int) ≤ t) from fun h => g1 (by omega))]
        go_enter Try.func34, Try.ntmps34
        go_wp2_with fail
        go_ret
        exact ⟨rfl, rfl⟩
end Go.Proofs.Ytolpmaapdkhigac
