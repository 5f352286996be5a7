/- WALKS of the reference's checks. -/
import Derived.Test.YtolpmaapdkhigaaDoorTells1
import Derived.Test.YtolpmaapdkhigaaDoorBack1
import Derived.Handy
namespace Go.Proofs.YtolpmaapdkhigaaDoor
open Go.RowKit

set_option maxRecDepth 100000 in
set_option maxHeartbeats 1000000 in
theorem refOne_kind (k : Int) (t : ByteArray) (n : Int) (a : Option Addr) (len cap : Nat) (w : World) (h : k < 1 ∨ 5 < k) :
    Calls Tryd.prog 27 #[.agg #[.int .i64 k, .string t, .int .i64 n, .slice a len cap]] w fun e w' => e = .returned (.int .i64 7) ∧ Below w.heap.size w w' := by
  have hb : decide (1 ≤ k ∧ k ≤ 5) = false := decide_eq_false (by omega)
  have HB : Hid (∀ w, Calls Tryd.prog 44 #[.int .i64 k, .int .i64 1, .int .i64 5] w fun e w' => e = .returned (.bool false) ∧ w' = w) := fun w => by
    have := between_any k 1 5 w
    rw [hb] at this
    exact this
  clear hb h
  go_enter Tryd.func27, Tryd.ntmps27
  go_wp2_with (go_at_call 44; refine (HB.out _).mono ?_; rintro e w' ⟨rfl, rfl⟩)
  go_ret
  exact ⟨rfl, (Below.refl _ _).alloc (Nat.le_refl _) _⟩

set_option maxRecDepth 100000 in
set_option maxHeartbeats 4000000 in
theorem refOne_other (k : Int) (t : ByteArray) (n : Int) (a : Option Addr) (len cap : Nat) (w : World) (h1 : 1 ≤ k) (h5 : k ≤ 5) (ho : pOther k t n len = true) :
    Calls Tryd.prog 27 #[.agg #[.int .i64 k, .string t, .int .i64 n, .slice a len cap]] w fun e w' => e = .returned (.int .i64 1) ∧ Below w.heap.size w w' := by
  have HB : Hid (∀ w, Calls Tryd.prog 44 #[.int .i64 k, .int .i64 1, .int .i64 5] w fun e w' => e = .returned (.bool true) ∧ w' = w) := fun w => by
    have := between_any k 1 5 w
    rw [decide_eq_true (⟨h1, h5⟩ : 1 ≤ k ∧ k ≤ 5)] at this
    exact this
  have ho' := of_decide_eq_true ho
  clear ho
  rcases ho' with ⟨hk, ht⟩ | ⟨hk, hn⟩ | hl
  · have k1 : ¬ k = 1 := by omega
    have k4 : ¬ k = 4 := by omega
    have htb : t.toList.isEmpty = false := by simpa using ht
    clear hk ht
    go_enter Tryd.func27, Tryd.ntmps27
    go_wp2_with (go_at_call 44; refine (HB.out _).mono ?_; rintro e w' ⟨rfl, rfl⟩)
    all_goals go_ret
    all_goals exact ⟨rfl, (Below.refl _ _).alloc (Nat.le_refl _) _⟩
  · have k1 : ¬ k = 2 := by omega
    have k4 : ¬ k = 3 := by omega
    clear hk
    go_enter Tryd.func27, Tryd.ntmps27
    go_wp2_with (go_at_call 44; refine (HB.out _).mono ?_; rintro e w' ⟨rfl, rfl⟩)
    all_goals go_ret
    all_goals exact ⟨rfl, (Below.refl _ _).alloc (Nat.le_refl _) _⟩
  · have hl' : (0 : Int) < len := by omega
    go_enter Tryd.func27, Tryd.ntmps27
    go_wp2_with (go_at_call 44; refine (HB.out _).mono ?_; rintro e w' ⟨rfl, rfl⟩)
    all_goals go_ret
    all_goals exact ⟨rfl, (Below.refl _ _).alloc (Nat.le_refl _) _⟩
end Go.Proofs.YtolpmaapdkhigaaDoor
