/- WALK of the reference's check of a text, and of any one reply. -/
import Derived.Test.YtolpmaapdkhigaaDoorTells3
import Derived.Handy
namespace Go.Proofs.YtolpmaapdkhigaaDoor
open Go.RowKit

set_option maxRecDepth 100000 in
set_option maxHeartbeats 4000000 in
theorem refOne_text (t : ByteArray) (a : Option Addr) (cap : Nat) (w : World) (ht : t.size ≤ maxLen) :
    Calls Tryd.prog 27 #[.agg #[.int .i64 1, .string t, .int .i64 0, .slice a 0 cap]] w fun e w' => e = .returned (.int .i64 (pWordOk t)) ∧ Below w.heap.size w w' := by
  unfold maxLen at ht
  have H1 : Hid (∀ w, Calls Tryd.prog 44 #[.int .i64 1, .int .i64 1, .int .i64 5] w fun e w' => e = .returned (.bool true) ∧ w' = w) := fun w => bt 1 1 5 w (by omega) (by omega)
  by_cases h1 : 20 < t.size
  · have hp : pWordOk t = 2 := by rw [pWordOk, if_pos h1]
    have h1' : (20 : Int) < t.size := by omega
    rw [hp]
    clear hp
    go_enter Tryd.func27, Tryd.ntmps27
    go_wp2_with fail
    refine (H1.out _).mono ?_
    rintro e w1 ⟨rfl, rfl⟩
    go_wp2
    go_ret
    exact ⟨rfl, (Below.refl _ _).alloc (Nat.le_refl _) _⟩
  · by_cases h2 : t.toList = []
    · have hp : pWordOk t = 1 := by rw [pWordOk, if_neg h1, if_pos h2]
      rw [hp]
      clear hp
      go_enter Tryd.func27, Tryd.ntmps27
      go_wp2_with fail
      refine (H1.out _).mono ?_
      rintro e w1 ⟨rfl, rfl⟩
      go_wp2
      go_ret
      exact ⟨rfl, (Below.refl _ _).alloc (Nat.le_refl _) _⟩
    · have hp : pWordOk t = if t.data.toList.all isWordC then 0 else 1 := by rw [pWordOk, if_neg h1, if_neg h2]
      have HP := hide hp
      have h2b : t.toList.isEmpty = false := by simpa using h2
      clear hp h2
      go_enter Tryd.func27, Tryd.ntmps27
      go_wp2_with fail
      refine (H1.out _).mono ?_
      rintro e w1 ⟨rfl, rfl⟩
      go_wp2_with fail
      go_loop [4] (fun i => ∃ k : Nat, k ≤ t.size ∧ i = .int .i64 k ∧ Hid ((t.data.toList.take k).all isWordC = true)) (fun i => t.size - (intOf i).toNat)
      case atStart => exact ⟨0, Nat.zero_le _, rfl, by simp [Hid]⟩
      case round =>
        obtain ⟨k, hk, rfl, HA⟩ := hrel
        by_cases hlt : k < t.size
        · have hstep := all_take_succ isWordC t k hlt
          rw [HA.out, Bool.true_and] at hstep
          have hwr : wrap64 ((t[k].toNat : Nat) : Int) = ((t[k].toNat : Nat) : Int) := by
            have := UInt8.toNat_lt t[k]
            unfold wrap64
            omega
          have HS : Hid ((97 ≤ t[k].toNat ∧ t[k].toNat ≤ 122) ∨ (65 ≤ t[k].toNat ∧ t[k].toNat ≤ 90) ∨ (48 ≤ t[k].toNat ∧ t[k].toNat ≤ 57) ∨ t[k].toNat = 32 → Hid ((t.data.toList.take (k + 1)).all isWordC = true)) := fun hc => hstep.trans (decide_eq_true hc)
          have HN : Hid (¬ ((97 ≤ t[k].toNat ∧ t[k].toNat ≤ 122) ∨ (65 ≤ t[k].toNat ∧ t[k].toNat ≤ 90) ∨ (48 ≤ t[k].toNat ∧ t[k].toNat ≤ 57) ∨ t[k].toNat = 32) → pWordOk t = 1) := fun hc => by
            have hf : t.data.toList.all isWordC = false := by
              rw [← List.take_append_drop (k + 1) t.data.toList, List.all_append, hstep, show isWordC t[k] = false from decide_eq_false hc, Bool.false_and]
            rw [HP.out]
            simp [hf]
          clear hstep
          go_wp2_with fail
          clear hwr
          generalize t[k].toNat = c at *
          by_cases a1 : 97 ≤ c ∧ c ≤ 122
          · refine (bt 97 c 122 _ (by omega) (by omega)).mono ?_
            rintro e w1 ⟨rfl, rfl⟩
            go_wp2_with fail
            go_round
            case rel => exact ⟨k + 1, by omega, by go_num, HS.out (by omega)⟩
            case measure => simp [intOf]; omega
          · refine (bf 97 c 122 _ (by omega)).mono ?_
            rintro e w1 ⟨rfl, rfl⟩
            go_wp2_with fail
            by_cases a2 : 65 ≤ c ∧ c ≤ 90
            · refine (bt 65 c 90 _ (by omega) (by omega)).mono ?_
              rintro e w1 ⟨rfl, rfl⟩
              go_wp2_with fail
              go_round
              case rel => exact ⟨k + 1, by omega, by go_num, HS.out (by omega)⟩
              case measure => simp [intOf]; omega
            · refine (bf 65 c 90 _ (by omega)).mono ?_
              rintro e w1 ⟨rfl, rfl⟩
              go_wp2_with fail
              by_cases a3 : 48 ≤ c ∧ c ≤ 57
              · refine (bt 48 c 57 _ (by omega) (by omega)).mono ?_
                rintro e w1 ⟨rfl, rfl⟩
                go_wp2_with fail
                go_round
                case rel => exact ⟨k + 1, by omega, by go_num, HS.out (by omega)⟩
                case measure => simp [intOf]; omega
              · refine (bf 48 c 57 _ (by omega)).mono ?_
                rintro e w1 ⟨rfl, rfl⟩
                by_cases a4 : c = 32
                · have a4' : (c : Int) = 32 := by omega
                  go_wp2_with fail
                  go_round
                  case rel => exact ⟨k + 1, by omega, by go_num, HS.out (by omega)⟩
                  case measure => simp [intOf]; omega
                · have a4' : ¬ (c : Int) = 32 := by omega
                  go_wp2_with fail
                  go_ret
                  rw [HN.out (by omega)]
                  exact ⟨rfl, (Below.refl _ _).alloc (Nat.le_refl _) _⟩
        · have HS : Hid (pWordOk t = 0) := by
            have h3 := HA.out
            rw [List.take_of_length_le (by rw [size_list]; omega)] at h3
            rw [HP.out]
            simp [Hid, h3]
          go_wp2
          go_ret
          rw [HS.out]
          exact ⟨rfl, (Below.refl _ _).alloc (Nat.le_refl _) _⟩

/-- the reference's check of one reply is the program's -/
theorem refOne_any (k : Int) (t : ByteArray) (n : Int) (a : Option Addr) (len cap : Nat) (w : World) (ht : t.size ≤ maxLen) :
    Calls Tryd.prog 27 #[.agg #[.int .i64 k, .string t, .int .i64 n, .slice a len cap]] w fun e w' => e = .returned (.int .i64 (pCheck1 k t n len)) ∧ Below w.heap.size w w' := by
  by_cases h0 : k < 1 ∨ 5 < k
  · rw [pCheck1, if_pos h0]
    exact refOne_kind k t n a len cap w h0
  · cases ho : pOther k t n len with
    | true =>
      have hp : pCheck1 k t n len = 1 := by rw [pCheck1, if_neg h0, ho]; rfl
      rw [hp]
      exact refOne_other k t n a len cap w (by omega) (by omega) ho
    | false =>
      have hp : pCheck1 k t n len = if k = 1 then pWordOk t else if k = 2 then (if n < 1 ∨ 8 < n then 3 else 0) else if k = 3 then (if n < -999999999 ∨ 999999999 < n then 3 else 0) else if k = 4 ∧ 60 < t.size then 2 else 0 := by
        rw [pCheck1, if_neg h0, ho]; rfl
      rw [hp]
      obtain ⟨o1, o2, rfl⟩ := other_none ho
      have hk5 : k = 1 ∨ k = 2 ∨ k = 3 ∨ k = 4 ∨ k = 5 := by omega
      rcases hk5 with rfl | rfl | rfl | rfl | rfl
      · obtain rfl : n = 0 := by omega
        rw [if_pos rfl]
        exact refOne_text t a cap w ht
      · rw [if_neg (by decide), if_pos rfl]
        exact refOne_err t n a cap w (by rcases o1 with h | h | h; omega; omega; exact h)
      · rw [if_neg (by decide), if_neg (by decide), if_pos rfl]
        exact refOne_num t n a cap w (by rcases o1 with h | h | h; omega; omega; exact h)
      · obtain rfl : n = 0 := by omega
        rw [if_neg (by decide), if_neg (by decide), if_neg (by decide)]
        have := refOne_bytes t a cap w
        simpa using this
      · obtain rfl : n = 0 := by omega
        rw [if_neg (by decide), if_neg (by decide), if_neg (by decide), if_neg (fun h => absurd h.1 (by decide))]
        exact refOne_none t a cap w (by rcases o1 with h | h | h; omega; omega; exact h)
end Go.Proofs.YtolpmaapdkhigaaDoor
