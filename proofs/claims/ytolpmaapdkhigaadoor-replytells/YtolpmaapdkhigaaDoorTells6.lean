/- WALKS of the reference's bytes of one reply. -/
import Derived.Test.YtolpmaapdkhigaaDoorTells5
import Derived.Test.YtolpmaapdkhigaaDoorBack3
import Derived.Deep.RegionHeld3
import Derived.Handy
namespace Go.Proofs.YtolpmaapdkhigaaDoor
open Go.RowKit

set_option maxRecDepth 100000 in
set_option maxHeartbeats 2000000 in
theorem refBytes_text (t : ByteArray) (n : Int) (a : Option Addr) (len cap : Nat) (w : World) (ht : t.size ≤ 60) :
    Calls Tryd.prog 10 #[.agg #[.int .i64 1, .string t, .int .i64 n, .slice a len cap]] w fun e w' => e = .returned (.string ⟨(43 :: (t.data.toList ++ [13, 10])).toArray⟩) ∧ Below w.heap.size w w' := by
  have hv : (⟨#[43]⟩ ++ t ++ ⟨#[13, 10]⟩ : ByteArray) = ⟨(43 :: (t.data.toList ++ [13, 10])).toArray⟩ := ba_ext (by rw [list_append, list_append]; simp)
  have HV := hide hv
  clear hv
  go_enter Tryd.func10, Tryd.ntmps10
  go_wp2
  go_ret
  rw [← HV.out]
  exact ⟨rfl, (Below.refl _ _).alloc (Nat.le_refl _) _⟩

set_option maxRecDepth 100000 in
set_option maxHeartbeats 2000000 in
theorem refBytes_num (k : Int) (c : UInt8) (hk : (k = 2 ∧ c = 45) ∨ (k = 3 ∧ c = 58)) (t : ByteArray) (n : Int) (a : Option Addr) (len cap : Nat) (w : World) (h0 : -999999999 ≤ n) (h1 : n ≤ 999999999) :
    Calls Tryd.prog 10 #[.agg #[.int .i64 k, .string t, .int .i64 n, .slice a len cap]] w fun e w' => e = .returned (.string ⟨(c :: (Lib.itoa n ++ [13, 10])).toArray⟩) ∧ Below w.heap.size w w' := by
  have HD : Hid (∀ w, Calls Tryd.prog 28 #[.int .i64 n] w fun e w' => e = .returned (.string ⟨(Lib.itoa n).toArray⟩) ∧ Below w.heap.size w w') := fun w => digits_any n h0 h1 w
  have hlen : (⟨(Lib.itoa n).toArray⟩ : ByteArray).size ≤ 20 := by rw [size_mk]; exact itoa_len n h0 h1
  have HV : Hid (∀ c : UInt8, (⟨#[c]⟩ ++ ⟨(Lib.itoa n).toArray⟩ ++ ⟨#[13, 10]⟩ : ByteArray) = ⟨(c :: (Lib.itoa n ++ [13, 10])).toArray⟩) := fun c => ba_ext (by rw [list_append, list_append]; simp)
  generalize (⟨(Lib.itoa n).toArray⟩ : ByteArray) = D at *
  rcases hk with ⟨rfl, rfl⟩ | ⟨rfl, rfl⟩
  · go_enter Tryd.func10, Tryd.ntmps10
    go_wp2_with fail
    refine (HD.out _).mono ?_
    rintro e w1 ⟨rfl, hb1⟩
    go_wp2
    go_ret
    rw [← HV.out]
    exact ⟨rfl, ((Below.refl _ w).alloc (Nat.le_refl _) _).trans (hb1.mono (by simp))⟩
  · go_enter Tryd.func10, Tryd.ntmps10
    go_wp2_with fail
    refine (HD.out _).mono ?_
    rintro e w1 ⟨rfl, hb1⟩
    go_wp2
    go_ret
    rw [← HV.out]
    exact ⟨rfl, ((Below.refl _ w).alloc (Nat.le_refl _) _).trans (hb1.mono (by simp))⟩

set_option maxRecDepth 100000 in
set_option maxHeartbeats 2000000 in
theorem refBytes_none (t : ByteArray) (n : Int) (a : Option Addr) (len cap : Nat) (w : World) :
    Calls Tryd.prog 10 #[.agg #[.int .i64 5, .string t, .int .i64 n, .slice a len cap]] w fun e w' => e = .returned (.string ⟨#[36, 45, 49, 13, 10]⟩) ∧ Below w.heap.size w w' := by
  have HV : Hid ((⟨#[36, 45, 49]⟩ ++ ⟨#[13, 10]⟩ : ByteArray) = ⟨#[36, 45, 49, 13, 10]⟩) := by show (⟨#[36, 45, 49]⟩ ++ ⟨#[13, 10]⟩ : ByteArray) = ⟨#[36, 45, 49, 13, 10]⟩; decide +kernel
  go_enter Tryd.func10, Tryd.ntmps10
  go_wp2
  go_ret
  rw [← HV.out]
  exact ⟨rfl, (Below.refl _ _).alloc (Nat.le_refl _) _⟩
end Go.Proofs.YtolpmaapdkhigaaDoor
