/- WALKS of the reference's check of one reply. -/
import Derived.Test.YtolpmaapdkhigaaDoorTells2
import Derived.Handy
namespace Go.Proofs.YtolpmaapdkhigaaDoor
open Go.RowKit

theorem other_none {k : Int} {t : ByteArray} {n : Int} {len : Nat} (h : pOther k t n len = false) : (k = 1 ∨ k = 4 ∨ t.toList = []) ∧ (k = 2 ∨ k = 3 ∨ n = 0) ∧ len = 0 := by
  have h' := of_decide_eq_false h
  refine ⟨?_, ?_, by omega⟩
  · by_cases hk : k = 1 ∨ k = 4
    · omega
    · by_cases ht : t.toList = []
      · exact .inr (.inr ht)
      · exact absurd (.inl ⟨hk, ht⟩) h'
  · by_cases hk : k = 2 ∨ k = 3
    · omega
    · by_cases hn : n = 0
      · exact .inr (.inr hn)
      · exact absurd (.inr (.inl ⟨hk, hn⟩)) h'
theorem it (n : Int) (w : World) (h : -999999999 ≤ n) (h' : n ≤ 999999999) : Calls Tryd.prog 45 #[.int .i64 n] w fun e w' => e = .returned (.bool true) ∧ w' = w := by
  have := isInt_any n w
  rw [decide_eq_true (⟨h, h'⟩ : -999999999 ≤ n ∧ n ≤ 999999999)] at this
  exact this
theorem if_ (n : Int) (w : World) (h : n < -999999999 ∨ 999999999 < n) : Calls Tryd.prog 45 #[.int .i64 n] w fun e w' => e = .returned (.bool false) ∧ w' = w := by
  have := isInt_any n w
  rw [decide_eq_false (show ¬ (-999999999 ≤ n ∧ n ≤ 999999999) by omega)] at this
  exact this

set_option maxRecDepth 100000 in
set_option maxHeartbeats 4000000 in
theorem refOne_err (t : ByteArray) (n : Int) (a : Option Addr) (cap : Nat) (w : World) (ht : t.toList = []) :
    Calls Tryd.prog 27 #[.agg #[.int .i64 2, .string t, .int .i64 n, .slice a 0 cap]] w fun e w' => e = .returned (.int .i64 (if n < 1 ∨ 8 < n then 3 else 0)) ∧ Below w.heap.size w w' := by
  by_cases h : n < 1 ∨ 8 < n
  · rw [if_pos h]
    have H1 : Hid (∀ w, Calls Tryd.prog 44 #[.int .i64 2, .int .i64 1, .int .i64 5] w fun e w' => e = .returned (.bool true) ∧ w' = w) := fun w => bt 1 2 5 w (by omega) (by omega)
    have H2 : Hid (∀ w, Calls Tryd.prog 44 #[.int .i64 n, .int .i64 1, .int .i64 8] w fun e w' => e = .returned (.bool false) ∧ w' = w) := fun w => bf 1 n 8 w h
    clear h
    go_enter Tryd.func27, Tryd.ntmps27
    go_wp2_with fail
    refine (H1.out _).mono ?_
    rintro e w1 ⟨rfl, rfl⟩
    go_wp2_with fail
    refine (H2.out _).mono ?_
    rintro e w2 ⟨rfl, rfl⟩
    go_wp2
    go_ret
    exact ⟨rfl, (Below.refl _ _).alloc (Nat.le_refl _) _⟩
  · rw [if_neg h]
    have H1 : Hid (∀ w, Calls Tryd.prog 44 #[.int .i64 2, .int .i64 1, .int .i64 5] w fun e w' => e = .returned (.bool true) ∧ w' = w) := fun w => bt 1 2 5 w (by omega) (by omega)
    have H2 : Hid (∀ w, Calls Tryd.prog 44 #[.int .i64 n, .int .i64 1, .int .i64 8] w fun e w' => e = .returned (.bool true) ∧ w' = w) := fun w => bt 1 n 8 w (by omega) (by omega)
    clear h
    go_enter Tryd.func27, Tryd.ntmps27
    go_wp2_with fail
    refine (H1.out _).mono ?_
    rintro e w1 ⟨rfl, rfl⟩
    go_wp2_with fail
    refine (H2.out _).mono ?_
    rintro e w2 ⟨rfl, rfl⟩
    go_wp2
    go_ret
    exact ⟨rfl, (Below.refl _ _).alloc (Nat.le_refl _) _⟩

set_option maxRecDepth 100000 in
set_option maxHeartbeats 4000000 in
theorem refOne_num (t : ByteArray) (n : Int) (a : Option Addr) (cap : Nat) (w : World) (ht : t.toList = []) :
    Calls Tryd.prog 27 #[.agg #[.int .i64 3, .string t, .int .i64 n, .slice a 0 cap]] w fun e w' => e = .returned (.int .i64 (if n < -999999999 ∨ 999999999 < n then 3 else 0)) ∧ Below w.heap.size w w' := by
  have H1 : Hid (∀ w, Calls Tryd.prog 44 #[.int .i64 3, .int .i64 1, .int .i64 5] w fun e w' => e = .returned (.bool true) ∧ w' = w) := fun w => bt 1 3 5 w (by omega) (by omega)
  by_cases h : n < -999999999 ∨ 999999999 < n
  · rw [if_pos h]
    have H2 : Hid (∀ w, Calls Tryd.prog 45 #[.int .i64 n] w fun e w' => e = .returned (.bool false) ∧ w' = w) := fun w => if_ n w h
    clear h
    go_enter Tryd.func27, Tryd.ntmps27
    go_wp2_with (first | (go_at_call 44; refine (H1.out _).mono ?_; rintro e w' ⟨rfl, rfl⟩) | (go_at_call 45; refine (H2.out _).mono ?_; rintro e w' ⟨rfl, rfl⟩))
    all_goals go_ret
    all_goals exact ⟨rfl, (Below.refl _ _).alloc (Nat.le_refl _) _⟩
  · rw [if_neg h]
    have H2 : Hid (∀ w, Calls Tryd.prog 45 #[.int .i64 n] w fun e w' => e = .returned (.bool true) ∧ w' = w) := fun w => it n w (by omega) (by omega)
    clear h
    go_enter Tryd.func27, Tryd.ntmps27
    go_wp2_with (first | (go_at_call 44; refine (H1.out _).mono ?_; rintro e w' ⟨rfl, rfl⟩) | (go_at_call 45; refine (H2.out _).mono ?_; rintro e w' ⟨rfl, rfl⟩))
    all_goals go_ret
    all_goals exact ⟨rfl, (Below.refl _ _).alloc (Nat.le_refl _) _⟩

set_option maxRecDepth 100000 in
set_option maxHeartbeats 4000000 in
theorem refOne_bytes (t : ByteArray) (a : Option Addr) (cap : Nat) (w : World) :
    Calls Tryd.prog 27 #[.agg #[.int .i64 4, .string t, .int .i64 0, .slice a 0 cap]] w fun e w' => e = .returned (.int .i64 (if 60 < t.size then 2 else 0)) ∧ Below w.heap.size w w' := by
  have H1 : Hid (∀ w, Calls Tryd.prog 44 #[.int .i64 4, .int .i64 1, .int .i64 5] w fun e w' => e = .returned (.bool true) ∧ w' = w) := fun w => bt 1 4 5 w (by omega) (by omega)
  by_cases h : 60 < t.size
  · rw [if_pos h]
    have h' : (60 : Int) < t.size := by omega
    go_enter Tryd.func27, Tryd.ntmps27
    go_wp2_with (go_at_call 44; refine (H1.out _).mono ?_; rintro e w' ⟨rfl, rfl⟩)
    all_goals go_ret
    all_goals exact ⟨rfl, (Below.refl _ _).alloc (Nat.le_refl _) _⟩
  · rw [if_neg h]
    go_enter Tryd.func27, Tryd.ntmps27
    go_wp2_with (go_at_call 44; refine (H1.out _).mono ?_; rintro e w' ⟨rfl, rfl⟩)
    all_goals go_ret
    all_goals exact ⟨rfl, (Below.refl _ _).alloc (Nat.le_refl _) _⟩

set_option maxRecDepth 100000 in
set_option maxHeartbeats 4000000 in
theorem refOne_none (t : ByteArray) (a : Option Addr) (cap : Nat) (w : World) (ht : t.toList = []) :
    Calls Tryd.prog 27 #[.agg #[.int .i64 5, .string t, .int .i64 0, .slice a 0 cap]] w fun e w' => e = .returned (.int .i64 0) ∧ Below w.heap.size w w' := by
  have H1 : Hid (∀ w, Calls Tryd.prog 44 #[.int .i64 5, .int .i64 1, .int .i64 5] w fun e w' => e = .returned (.bool true) ∧ w' = w) := fun w => bt 1 5 5 w (by omega) (by omega)
  go_enter Tryd.func27, Tryd.ntmps27
  go_wp2_with (go_at_call 44; refine (H1.out _).mono ?_; rintro e w' ⟨rfl, rfl⟩)
  all_goals go_ret
  all_goals exact ⟨rfl, (Below.refl _ _).alloc (Nat.le_refl _) _⟩
end Go.Proofs.YtolpmaapdkhigaaDoor
