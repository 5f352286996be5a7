/- WALKS of the reference's check of an item: kinds, what is other, texts. -/
import Derived.Test.YtolpmaapdkhigacRChk1
import Derived.Handy
namespace Go.Proofs.Ytolpmaapdkhigac
open Go.RowKit

theorem between15 (k : Int) (w : World) (h : 1 ≤ k ∧ k ≤ 5) : Calls Try.prog 44 #[.int .i64 k, .int .i64 1, .int .i64 5] w fun e w' => e = .returned (.bool true) ∧ w' = w := by
  have hh := between_any k 1 5 w
  rw [decide_eq_true h] at hh
  exact hh
set_option maxRecDepth 100000 in
set_option maxHeartbeats 4000000 in
theorem refC_bad (k : Int) (t : ByteArray) (a1 a2 a3 : Option Addr) (c1 c2 c3 : Nat) (n1 n2 n3 : Nat) (w : World) (h : k < 1 ∨ 5 < k) :
    Calls Try.prog 33 #[.agg #[.int .i64 k, .string t, .slice a1 n1 c1, .slice a2 n2 c2, .slice a3 n3 c3]] w fun e w' => e = .returned (.int .i64 7) ∧ Below w.heap.size w w' := by
  have HB : Hid (∀ W, Calls Try.prog 44 #[.int .i64 k, .int .i64 1, .int .i64 5] W fun e w' => e = .returned (.bool false) ∧ w' = W) := fun W => by
    have hh := between_any k 1 5 W
    rw [decide_eq_false (by omega)] at hh
    exact hh
  go_enter Try.func33, Try.ntmps33
  go_wp2_with fail
  refine (HB.out _).mono ?_
  rintro e w1 ⟨rfl, rfl⟩
  go_wp2_with fail
  go_ret
  exact ⟨rfl, (Below.refl _ _).alloc (Nat.le_refl _) _⟩
set_option maxRecDepth 100000 in
set_option maxHeartbeats 4000000 in
theorem refC_o1l (t : ByteArray) (n1 : Nat) (n2 : Nat) (n3 : Nat) (a1 a2 a3 : Option Addr) (c1 c2 c3 : Nat) (w : World) (h : 0 < n1) :
    Calls Try.prog 33 #[.agg #[.int .i64 1, .string t, .slice a1 n1 c1, .slice a2 n2 c2, .slice a3 n3 c3]] w fun e w' => e = .returned (.int .i64 1) ∧ Below w.heap.size w w' := by
  have h1 : (0 : Int) < ((n1 : Nat) : Int) := by omega
  have h2 : ¬ n1 = 0 := by omega
  go_enter Try.func33, Try.ntmps33
  go_wp2_with fail
  refine (between15 _ _ (by decide)).mono ?_
  rintro e w1 ⟨rfl, rfl⟩
  go_wp2_with fail
  go_ret
  exact ⟨rfl, (Below.refl _ _).alloc (Nat.le_refl _) _⟩
set_option maxRecDepth 100000 in
set_option maxHeartbeats 4000000 in
theorem refC_o1p (t : ByteArray) (n2 : Nat) (n3 : Nat) (a1 a2 a3 : Option Addr) (c1 c2 c3 : Nat) (w : World) (h : 0 < n2) :
    Calls Try.prog 33 #[.agg #[.int .i64 1, .string t, .slice a1 0 c1, .slice a2 n2 c2, .slice a3 n3 c3]] w fun e w' => e = .returned (.int .i64 1) ∧ Below w.heap.size w w' := by
  have h1 : (0 : Int) < ((n2 : Nat) : Int) := by omega
  have h2 : ¬ n2 = 0 := by omega
  go_enter Try.func33, Try.ntmps33
  go_wp2_with fail
  refine (between15 _ _ (by decide)).mono ?_
  rintro e w1 ⟨rfl, rfl⟩
  go_wp2_with fail
  go_ret
  exact ⟨rfl, (Below.refl _ _).alloc (Nat.le_refl _) _⟩
set_option maxRecDepth 100000 in
set_option maxHeartbeats 4000000 in
theorem refC_o1s (t : ByteArray) (n3 : Nat) (a1 a2 a3 : Option Addr) (c1 c2 c3 : Nat) (w : World) (h : 0 < n3) :
    Calls Try.prog 33 #[.agg #[.int .i64 1, .string t, .slice a1 0 c1, .slice a2 0 c2, .slice a3 n3 c3]] w fun e w' => e = .returned (.int .i64 1) ∧ Below w.heap.size w w' := by
  have h1 : (0 : Int) < ((n3 : Nat) : Int) := by omega
  have h2 : ¬ n3 = 0 := by omega
  go_enter Try.func33, Try.ntmps33
  go_wp2_with fail
  refine (between15 _ _ (by decide)).mono ?_
  rintro e w1 ⟨rfl, rfl⟩
  go_wp2_with fail
  go_ret
  exact ⟨rfl, (Below.refl _ _).alloc (Nat.le_refl _) _⟩
set_option maxRecDepth 100000 in
set_option maxHeartbeats 4000000 in
theorem refC_o2t (t : ByteArray) (n1 : Nat) (n2 : Nat) (n3 : Nat) (a1 a2 a3 : Option Addr) (c1 c2 c3 : Nat) (w : World) (h : ¬ t.toList = []) :
    Calls Try.prog 33 #[.agg #[.int .i64 2, .string t, .slice a1 n1 c1, .slice a2 n2 c2, .slice a3 n3 c3]] w fun e w' => e = .returned (.int .i64 1) ∧ Below w.heap.size w w' := by
  have h1 : (t.toList == []) = false := by rw [beq_eq_false_iff_ne]; exact h
  go_enter Try.func33, Try.ntmps33
  go_wp2_with fail
  refine (between15 _ _ (by decide)).mono ?_
  rintro e w1 ⟨rfl, rfl⟩
  go_wp2_with fail
  go_ret
  exact ⟨rfl, (Below.refl _ _).alloc (Nat.le_refl _) _⟩
set_option maxRecDepth 100000 in
set_option maxHeartbeats 4000000 in
theorem refC_o2p (n1 : Nat) (n2 : Nat) (n3 : Nat) (a1 a2 a3 : Option Addr) (c1 c2 c3 : Nat) (w : World) (h : 0 < n2) :
    Calls Try.prog 33 #[.agg #[.int .i64 2, .string ⟨#[]⟩, .slice a1 n1 c1, .slice a2 n2 c2, .slice a3 n3 c3]] w fun e w' => e = .returned (.int .i64 1) ∧ Below w.heap.size w w' := by
  have h1 : (0 : Int) < ((n2 : Nat) : Int) := by omega
  have h2 : ¬ n2 = 0 := by omega
  go_enter Try.func33, Try.ntmps33
  go_wp2_with fail
  refine (between15 _ _ (by decide)).mono ?_
  rintro e w1 ⟨rfl, rfl⟩
  go_wp2_with fail
  go_ret
  exact ⟨rfl, (Below.refl _ _).alloc (Nat.le_refl _) _⟩
set_option maxRecDepth 100000 in
set_option maxHeartbeats 4000000 in
theorem refC_o2s (n1 : Nat) (n3 : Nat) (a1 a2 a3 : Option Addr) (c1 c2 c3 : Nat) (w : World) (h : 0 < n3) :
    Calls Try.prog 33 #[.agg #[.int .i64 2, .string ⟨#[]⟩, .slice a1 n1 c1, .slice a2 0 c2, .slice a3 n3 c3]] w fun e w' => e = .returned (.int .i64 1) ∧ Below w.heap.size w w' := by
  have h1 : (0 : Int) < ((n3 : Nat) : Int) := by omega
  have h2 : ¬ n3 = 0 := by omega
  go_enter Try.func33, Try.ntmps33
  go_wp2_with fail
  refine (between15 _ _ (by decide)).mono ?_
  rintro e w1 ⟨rfl, rfl⟩
  go_wp2_with fail
  go_ret
  exact ⟨rfl, (Below.refl _ _).alloc (Nat.le_refl _) _⟩
set_option maxRecDepth 100000 in
set_option maxHeartbeats 4000000 in
theorem refC_o3t (t : ByteArray) (n1 : Nat) (n2 : Nat) (n3 : Nat) (a1 a2 a3 : Option Addr) (c1 c2 c3 : Nat) (w : World) (h : ¬ t.toList = []) :
    Calls Try.prog 33 #[.agg #[.int .i64 3, .string t, .slice a1 n1 c1, .slice a2 n2 c2, .slice a3 n3 c3]] w fun e w' => e = .returned (.int .i64 1) ∧ Below w.heap.size w w' := by
  have h1 : (t.toList == []) = false := by rw [beq_eq_false_iff_ne]; exact h
  go_enter Try.func33, Try.ntmps33
  go_wp2_with fail
  refine (between15 _ _ (by decide)).mono ?_
  rintro e w1 ⟨rfl, rfl⟩
  go_wp2_with fail
  go_ret
  exact ⟨rfl, (Below.refl _ _).alloc (Nat.le_refl _) _⟩
set_option maxRecDepth 100000 in
set_option maxHeartbeats 4000000 in
theorem refC_o3p (n1 : Nat) (n2 : Nat) (n3 : Nat) (a1 a2 a3 : Option Addr) (c1 c2 c3 : Nat) (w : World) (h : 0 < n2) :
    Calls Try.prog 33 #[.agg #[.int .i64 3, .string ⟨#[]⟩, .slice a1 n1 c1, .slice a2 n2 c2, .slice a3 n3 c3]] w fun e w' => e = .returned (.int .i64 1) ∧ Below w.heap.size w w' := by
  have h1 : (0 : Int) < ((n2 : Nat) : Int) := by omega
  have h2 : ¬ n2 = 0 := by omega
  go_enter Try.func33, Try.ntmps33
  go_wp2_with fail
  refine (between15 _ _ (by decide)).mono ?_
  rintro e w1 ⟨rfl, rfl⟩
  go_wp2_with fail
  go_ret
  exact ⟨rfl, (Below.refl _ _).alloc (Nat.le_refl _) _⟩
set_option maxRecDepth 100000 in
set_option maxHeartbeats 4000000 in
theorem refC_o3s (n1 : Nat) (n3 : Nat) (a1 a2 a3 : Option Addr) (c1 c2 c3 : Nat) (w : World) (h : 0 < n3) :
    Calls Try.prog 33 #[.agg #[.int .i64 3, .string ⟨#[]⟩, .slice a1 n1 c1, .slice a2 0 c2, .slice a3 n3 c3]] w fun e w' => e = .returned (.int .i64 1) ∧ Below w.heap.size w w' := by
  have h1 : (0 : Int) < ((n3 : Nat) : Int) := by omega
  have h2 : ¬ n3 = 0 := by omega
  go_enter Try.func33, Try.ntmps33
  go_wp2_with fail
  refine (between15 _ _ (by decide)).mono ?_
  rintro e w1 ⟨rfl, rfl⟩
  go_wp2_with fail
  go_ret
  exact ⟨rfl, (Below.refl _ _).alloc (Nat.le_refl _) _⟩
set_option maxRecDepth 100000 in
set_option maxHeartbeats 4000000 in
theorem refC_o4t (t : ByteArray) (n1 : Nat) (n2 : Nat) (n3 : Nat) (a1 a2 a3 : Option Addr) (c1 c2 c3 : Nat) (w : World) (h : ¬ t.toList = []) :
    Calls Try.prog 33 #[.agg #[.int .i64 4, .string t, .slice a1 n1 c1, .slice a2 n2 c2, .slice a3 n3 c3]] w fun e w' => e = .returned (.int .i64 1) ∧ Below w.heap.size w w' := by
  have h1 : (t.toList == []) = false := by rw [beq_eq_false_iff_ne]; exact h
  go_enter Try.func33, Try.ntmps33
  go_wp2_with fail
  refine (between15 _ _ (by decide)).mono ?_
  rintro e w1 ⟨rfl, rfl⟩
  go_wp2_with fail
  go_ret
  exact ⟨rfl, (Below.refl _ _).alloc (Nat.le_refl _) _⟩
set_option maxRecDepth 100000 in
set_option maxHeartbeats 4000000 in
theorem refC_o4l (n1 : Nat) (n2 : Nat) (n3 : Nat) (a1 a2 a3 : Option Addr) (c1 c2 c3 : Nat) (w : World) (h : 0 < n1) :
    Calls Try.prog 33 #[.agg #[.int .i64 4, .string ⟨#[]⟩, .slice a1 n1 c1, .slice a2 n2 c2, .slice a3 n3 c3]] w fun e w' => e = .returned (.int .i64 1) ∧ Below w.heap.size w w' := by
  have h1 : (0 : Int) < ((n1 : Nat) : Int) := by omega
  have h2 : ¬ n1 = 0 := by omega
  go_enter Try.func33, Try.ntmps33
  go_wp2_with fail
  refine (between15 _ _ (by decide)).mono ?_
  rintro e w1 ⟨rfl, rfl⟩
  go_wp2_with fail
  go_ret
  exact ⟨rfl, (Below.refl _ _).alloc (Nat.le_refl _) _⟩
set_option maxRecDepth 100000 in
set_option maxHeartbeats 4000000 in
theorem refC_o4s (n2 : Nat) (n3 : Nat) (a1 a2 a3 : Option Addr) (c1 c2 c3 : Nat) (w : World) (h : 0 < n3) :
    Calls Try.prog 33 #[.agg #[.int .i64 4, .string ⟨#[]⟩, .slice a1 0 c1, .slice a2 n2 c2, .slice a3 n3 c3]] w fun e w' => e = .returned (.int .i64 1) ∧ Below w.heap.size w w' := by
  have h1 : (0 : Int) < ((n3 : Nat) : Int) := by omega
  have h2 : ¬ n3 = 0 := by omega
  go_enter Try.func33, Try.ntmps33
  go_wp2_with fail
  refine (between15 _ _ (by decide)).mono ?_
  rintro e w1 ⟨rfl, rfl⟩
  go_wp2_with fail
  go_ret
  exact ⟨rfl, (Below.refl _ _).alloc (Nat.le_refl _) _⟩
set_option maxRecDepth 100000 in
set_option maxHeartbeats 4000000 in
theorem refC_o5t (t : ByteArray) (n1 : Nat) (n2 : Nat) (n3 : Nat) (a1 a2 a3 : Option Addr) (c1 c2 c3 : Nat) (w : World) (h : ¬ t.toList = []) :
    Calls Try.prog 33 #[.agg #[.int .i64 5, .string t, .slice a1 n1 c1, .slice a2 n2 c2, .slice a3 n3 c3]] w fun e w' => e = .returned (.int .i64 1) ∧ Below w.heap.size w w' := by
  have h1 : (t.toList == []) = false := by rw [beq_eq_false_iff_ne]; exact h
  go_enter Try.func33, Try.ntmps33
  go_wp2_with fail
  refine (between15 _ _ (by decide)).mono ?_
  rintro e w1 ⟨rfl, rfl⟩
  go_wp2_with fail
  go_ret
  exact ⟨rfl, (Below.refl _ _).alloc (Nat.le_refl _) _⟩
set_option maxRecDepth 100000 in
set_option maxHeartbeats 4000000 in
theorem refC_o5l (n1 : Nat) (n2 : Nat) (n3 : Nat) (a1 a2 a3 : Option Addr) (c1 c2 c3 : Nat) (w : World) (h : 0 < n1) :
    Calls Try.prog 33 #[.agg #[.int .i64 5, .string ⟨#[]⟩, .slice a1 n1 c1, .slice a2 n2 c2, .slice a3 n3 c3]] w fun e w' => e = .returned (.int .i64 1) ∧ Below w.heap.size w w' := by
  have h1 : (0 : Int) < ((n1 : Nat) : Int) := by omega
  have h2 : ¬ n1 = 0 := by omega
  go_enter Try.func33, Try.ntmps33
  go_wp2_with fail
  refine (between15 _ _ (by decide)).mono ?_
  rintro e w1 ⟨rfl, rfl⟩
  go_wp2_with fail
  go_ret
  exact ⟨rfl, (Below.refl _ _).alloc (Nat.le_refl _) _⟩
set_option maxRecDepth 100000 in
set_option maxHeartbeats 4000000 in
theorem refC_o5p (n2 : Nat) (n3 : Nat) (a1 a2 a3 : Option Addr) (c1 c2 c3 : Nat) (w : World) (h : 0 < n2) :
    Calls Try.prog 33 #[.agg #[.int .i64 5, .string ⟨#[]⟩, .slice a1 0 c1, .slice a2 n2 c2, .slice a3 n3 c3]] w fun e w' => e = .returned (.int .i64 1) ∧ Below w.heap.size w w' := by
  have h1 : (0 : Int) < ((n2 : Nat) : Int) := by omega
  have h2 : ¬ n2 = 0 := by omega
  go_enter Try.func33, Try.ntmps33
  go_wp2_with fail
  refine (between15 _ _ (by decide)).mono ?_
  rintro e w1 ⟨rfl, rfl⟩
  go_wp2_with fail
  go_ret
  exact ⟨rfl, (Below.refl _ _).alloc (Nat.le_refl _) _⟩
set_option maxRecDepth 100000 in
set_option maxHeartbeats 4000000 in
theorem refC_1 (t : ByteArray) (a1 a2 a3 : Option Addr) (c1 c2 c3 : Nat) (w : World) :
    Calls Try.prog 33 #[.agg #[.int .i64 1, .string t, .slice a1 0 c1, .slice a2 0 c2, .slice a3 0 c3]] w fun e w' => e = .returned (.int .i64 (if longT t = true then 2 else 0)) ∧ Below w.heap.size w w' := by
  by_cases h : 60 < t.size
  · rw [if_pos (show longT t = true by unfold longT; exact decide_eq_true h)]
    have h' : (60 : Int) < ((t.size : Nat) : Int) := by omega
    go_enter Try.func33, Try.ntmps33
    go_wp2_with fail
    refine (between15 _ _ (by decide)).mono ?_
    rintro e w1 ⟨rfl, rfl⟩
    go_wp2_with fail
    go_ret
    exact ⟨rfl, (Below.refl _ _).alloc (Nat.le_refl _) _⟩
  · rw [if_neg (show ¬ longT t = true by unfold longT; simp; omega)]
    have h' : ¬ (60 : Int) < ((t.size : Nat) : Int) := by omega
    go_enter Try.func33, Try.ntmps33
    go_wp2_with fail
    refine (between15 _ _ (by decide)).mono ?_
    rintro e w1 ⟨rfl, rfl⟩
    go_wp2_with fail
    go_ret
    exact ⟨rfl, (Below.refl _ _).alloc (Nat.le_refl _) _⟩
end Go.Proofs.Ytolpmaapdkhigac
