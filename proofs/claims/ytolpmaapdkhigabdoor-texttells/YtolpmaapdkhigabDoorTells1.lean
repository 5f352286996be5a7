/- WALKS of the reference's small functions: between, IsInt, Digits. -/
import Derived.Test.YtolpmaapdkhigabDoorNumP
import Derived.Test.YtolpmaapdkhigabDoorRInt
import Derived.Handy
import Derived.Laws.IdiomStrings
import Derived.Lib.ItoaMem
namespace Go.Proofs.YtolpmaapdkhigabDoor
open Go.RowKit

theorem ba_ext1 {a : ByteArray} {l : List UInt8} (h : a.data.toList = l) : a = ⟨l.toArray⟩ := by
  cases a with
  | mk d => simp only at h; rw [← h]

set_option maxRecDepth 100000 in
set_option maxHeartbeats 1000000 in
theorem digit_one (u : Nat) (h : u < 10) (w : World) :
    Calls Tryd.prog 26 #[.int .i64 (u : Int)] w fun e w' => e = .returned (.string ⟨(Lib.decDigits u).toArray⟩) ∧ Below w.heap.size w w' := by
  have hconv : ∀ W : World, (convert 61 9 (.slice (some ⟨W.heap.size, 0, none⟩) 1 1)).run Tryd.prog (W.alloc (.cells #[.int .u8 (48 + (u : Int))] 5)) = .ok (.string ⟨(Lib.decDigits u).toArray⟩) (W.alloc (.cells #[.int .u8 (48 + (u : Int))] 5)) := fun W => by
    have := run_convert_bytes_back (P := Tryd.prog) (W.alloc (.cells #[.int .u8 (48 + (u : Int))] 5)) 61 9 5 ⟨W.heap.size, 0, none⟩ 1 [UInt8.ofNat (48 + u)] Tryd.underlying61 Tryd.underlying5 Tryd.underlying9
    rw [Lib.decDigits_one h]
    refine this (fun j hj => ?_)
    match j, hj with
    | 0, _ =>
      simp [Addr.add, go_sem]
      omega
  go_enter Tryd.func26, Tryd.ntmps26
  go_wp2
  go_ret
  exact ⟨rfl, (Below.refl _ w).alloc (Nat.le_refl _) _⟩

theorem decDigits_len' : ∀ (k u : Nat), u < 10 ^ (k + 1) → (Lib.decDigits u).length ≤ k + 1
  | 0, u, h => by rw [Lib.decDigits, dif_pos (by simpa using h)]; simp
  | k + 1, u, h => by
    rw [Lib.decDigits]
    split
    · simp
    · have := decDigits_len' k (u / 10) (by rw [Nat.div_lt_iff_lt_mul (by omega)]; rw [Nat.pow_succ] at h; exact h)
      simp
      omega

set_option maxRecDepth 100000 in
set_option maxHeartbeats 1000000 in
theorem digits_nat (u : Nat) (hu : u ≤ 999999999) (w : World) :
    Calls Tryd.prog 26 #[.int .i64 (u : Int)] w fun e w' => e = .returned (.string ⟨(Lib.decDigits u).toArray⟩) ∧ Below w.heap.size w w' := by
  induction u using Nat.strongRecOn generalizing w with
  | ind u ih =>
    by_cases h : u < 10
    · exact digit_one u h w
    · have e1 : ((u : Int) / 10) = ((u / 10 : Nat) : Int) := by omega
      have e2 : ((u : Int) % 10) = ((u % 10 : Nat) : Int) := by omega
      have hm : u % 10 < 10 := Nat.mod_lt _ (by omega)
      have I1 : Hid (∀ w, Calls Tryd.prog 26 #[.int .i64 ((u : Int) / 10)] w fun e w' => e = .returned (.string ⟨(Lib.decDigits (u / 10)).toArray⟩) ∧ Below w.heap.size w w') := fun w => by
        rw [e1]
        exact ih (u / 10) (by omega) (by omega) w
      obtain ⟨dg, hdg⟩ : ∃ dg, dg = UInt8.ofNat (48 + u % 10) := ⟨_, rfl⟩
      have I2 : Hid (∀ w, Calls Tryd.prog 26 #[.int .i64 ((u : Int) % 10)] w fun e w' => e = .returned (.string ⟨#[dg]⟩) ∧ Below w.heap.size w w') := fun w => by
        have := digit_one (u % 10) hm w
        rw [Lib.decDigits_one hm, ← hdg] at this
        rw [e2]
        exact this
      have hD : Hid (Lib.decDigits u = Lib.decDigits (u / 10) ++ [dg]) := by rw [Hid, Lib.decDigits, dif_neg h, hdg]
      have hlen : (Lib.decDigits (u / 10)).length ≤ 10 := by have := decDigits_len' 8 (u / 10) (by omega); omega
      clear ih e1 e2 hdg
      go_enter Tryd.func26, Tryd.ntmps26
      go_wp2_with fail
      refine (I1.out _).mono ?_
      rintro e w1 ⟨rfl, hb1⟩
      go_wp2_with fail
      refine (I2.out _).mono ?_
      rintro e w2 ⟨rfl, hb2⟩
      go_wp2
      go_ret
      refine ⟨?_, hb1.trans (hb2.mono hb1.size)⟩
      have hv : (⟨(Lib.decDigits (u / 10)).toArray⟩ ++ ⟨#[dg]⟩ : ByteArray) = ⟨(Lib.decDigits (u / 10) ++ [dg]).toArray⟩ := ba_ext1 (by rw [list_append])
      rw [hD.out, ← hv]
      rfl
set_option maxRecDepth 100000 in
set_option maxHeartbeats 1000000 in
theorem digits_neg_one (u : Nat) (h1 : 1 ≤ u) (h9 : u < 10) (w : World) :
    Calls Tryd.prog 26 #[.int .i64 (-(u : Int))] w fun e w' => e = .returned (.string ⟨(45 :: Lib.decDigits u).toArray⟩) ∧ Below w.heap.size w w' := by
  have I1 : Hid (∀ w, Calls Tryd.prog 26 #[.int .i64 (u : Int)] w fun e w' => e = .returned (.string ⟨(Lib.decDigits u).toArray⟩) ∧ Below w.heap.size w w') := fun w => digit_one u h9 w
  have hlen : (Lib.decDigits u).length ≤ 10 := by have := decDigits_len' 8 u (by omega); omega
  go_enter Tryd.func26, Tryd.ntmps26
  go_wp2_with fail
  refine (I1.out _).mono ?_
  rintro e w1 ⟨rfl, hb1⟩
  go_wp2
  go_ret
  refine ⟨?_, hb1⟩
  congr 1

set_option maxRecDepth 100000 in
set_option maxHeartbeats 1000000 in
theorem digits_neg (u : Nat) (h1 : 10 ≤ u) (hu : u ≤ 999999999) (w : World) :
    Calls Tryd.prog 26 #[.int .i64 (-(u : Int))] w fun e w' => e = .returned (.string ⟨(45 :: Lib.decDigits u).toArray⟩) ∧ Below w.heap.size w w' := by
  have hm : u % 10 < 10 := Nat.mod_lt _ (by omega)
  have e1 : ((u : Int) / 10) = ((u / 10 : Nat) : Int) := by omega
  have e2 : ((u : Int) % 10) = ((u % 10 : Nat) : Int) := by omega
  obtain ⟨dg, hdg⟩ : ∃ dg, dg = UInt8.ofNat (48 + u % 10) := ⟨_, rfl⟩
  have I1 : Hid (∀ w, Calls Tryd.prog 26 #[.int .i64 ((u : Int) / 10)] w fun e w' => e = .returned (.string ⟨(Lib.decDigits (u / 10)).toArray⟩) ∧ Below w.heap.size w w') := fun w => by
    rw [e1]
    exact digits_nat (u / 10) (by omega) w
  have I2 : Hid (∀ w, Calls Tryd.prog 26 #[.int .i64 ((u : Int) % 10)] w fun e w' => e = .returned (.string ⟨#[dg]⟩) ∧ Below w.heap.size w w') := fun w => by
    have := digit_one (u % 10) hm w
    rw [Lib.decDigits_one hm, ← hdg] at this
    rw [e2]
    exact this
  have hD : Hid (Lib.decDigits u = Lib.decDigits (u / 10) ++ [dg]) := by rw [Hid, Lib.decDigits, dif_neg (by omega), hdg]
  have hlen : (Lib.decDigits (u / 10)).length ≤ 10 := by have := decDigits_len' 8 (u / 10) (by omega); omega
  clear e1 e2 hdg
  go_enter Tryd.func26, Tryd.ntmps26
  go_wp2_with fail
  refine (I1.out _).mono ?_
  rintro e w1 ⟨rfl, hb1⟩
  go_wp2_with fail
  refine (I2.out _).mono ?_
  rintro e w2 ⟨rfl, hb2⟩
  go_wp2
  go_ret
  refine ⟨?_, hb1.trans (hb2.mono hb1.size)⟩
  have hv : (⟨#[45]⟩ ++ ⟨(Lib.decDigits (u / 10)).toArray⟩ ++ ⟨#[dg]⟩ : ByteArray) = ⟨(45 :: (Lib.decDigits (u / 10) ++ [dg])).toArray⟩ := ba_ext1 (by rw [list_append, list_append]; simp)
  rw [hD.out, ← hv]
  rfl

theorem digits_any (n : Int) (h0 : -999999999 ≤ n) (h1 : n ≤ 999999999) (w : World) :
    Calls Tryd.prog 26 #[.int .i64 n] w fun e w' => e = .returned (.string ⟨(Lib.itoa n).toArray⟩) ∧ Below w.heap.size w w' := by
  by_cases hn : n < 0
  · obtain ⟨u, hu⟩ : ∃ u : Nat, n = -(u : Int) := ⟨n.natAbs, by omega⟩
    subst hu
    rw [Lib.itoa_neg u (by omega)]
    by_cases h9 : u < 10
    · exact digits_neg_one u (by omega) h9 w
    · exact digits_neg u (by omega) (by omega) w
  · obtain ⟨u, rfl⟩ := Int.eq_ofNat_of_zero_le (show 0 ≤ n by omega)
    rw [Lib.itoa_nonneg]
    exact digits_nat u (by omega) w
end Go.Proofs.YtolpmaapdkhigabDoor
