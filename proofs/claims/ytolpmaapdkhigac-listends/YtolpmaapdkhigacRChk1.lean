/- WALKS of the reference's order of texts and of scores. -/
import Derived.Test.YtolpmaapdkhigacIDef
import Derived.Test.YtolpmaapdkhigacRInt
import Derived.BigQuiet
import Derived.Handy
namespace Go.Proofs.Ytolpmaapdkhigac
open Go.RowKit

theorem below_drewN' {B : Nat} {a w : World} (h : Below B a w) (n : Nat) : Below B a (w.drewN n) := ⟨h.os, h.tape, h.output, h.size, h.block⟩
theorem drewN_add' (w : World) (a b : Nat) : (w.drewN a).drewN b = w.drewN (a + b) := by
  simp [World.drewN, Nat.add_assoc]
theorem get_data (s : ByteArray) (k : Nat) (h : k < s.size) : s.data.toList.drop k = s[k] :: s.data.toList.drop (k + 1) := by
  rw [List.drop_eq_getElem_cons (by rw [size_list]; exact h)]
  rfl

set_option maxRecDepth 100000 in
set_option maxHeartbeats 1000000 in
theorem textOrder_any (a b : ByteArray) (w : World) (ha : a.size ≤ maxLen) :
    Calls Try.prog 45 #[.string a, .string b] w fun e w' => e = .returned (.int .i64 (cmpT a b)) ∧ ∃ q, w' = w.drewN q := by
  unfold maxLen at ha
  go_enter Try.func45, Try.ntmps45
  go_wp2_with fail
  go_loopw [5] (fun i wr => ∃ k : Nat, k ≤ a.size ∧ k ≤ b.size ∧ i = .int .i64 k ∧ (∃ q, wr = w.drewN q) ∧ Hid (cmpT a b = Lib.compareBytes (a.data.toList.drop k) (b.data.toList.drop k))) (fun i _ => a.size - (intOf i).toNat)
  case atStart => exact ⟨0, Nat.zero_le _, Nat.zero_le _, rfl, ⟨0, rfl⟩, rfl⟩
  case round =>
    obtain ⟨k, hk, hkb, rfl, ⟨q0, rfl⟩, HC⟩ := hrel
    by_cases hlt : k < a.size
    · by_cases hltb : k < b.size
      · have HS : Hid (cmpT a b = if a[k] < b[k] then -1 else if b[k] < a[k] then 1 else Lib.compareBytes (a.data.toList.drop (k + 1)) (b.data.toList.drop (k + 1))) := by
          rw [Hid, HC.out, get_data a k hlt, get_data b k hltb, Lib.compareBytes]
        have hi1 : ((k : Nat) : Int) < ((a.size : Nat) : Int) := by omega
        have hi2 : ((k : Nat) : Int) < ((b.size : Nat) : Int) := by omega
        rcases Nat.lt_trichotomy a[k].toNat b[k].toNat with hc | hc | hc
        · have HR : Hid (cmpT a b = -1) := by rw [Hid, HS.out, if_pos (UInt8.lt_iff_toNat_lt.2 hc)]
          have hc' : ((a[k].toNat : Nat) : Int) < ((b[k].toNat : Nat) : Int) := by omega
          clear HS HC
          go_wp2_with fail
          go_quiet (fail)
          go_wp2_with fail
          go_ret
          rw [HR.out]
          exact ⟨rfl, _, by first | rfl | exact drewN_add' _ _ _ | (rw [drewN_add', drewN_add'])⟩
        · have HR : Hid (cmpT a b = Lib.compareBytes (a.data.toList.drop (k + 1)) (b.data.toList.drop (k + 1))) := by
            rw [Hid, HS.out, if_neg (by rw [UInt8.lt_iff_toNat_lt]; omega), if_neg (by rw [UInt8.lt_iff_toNat_lt]; omega)]
          have hc1 : decide (((a[k].toNat : Nat) : Int) < ((b[k].toNat : Nat) : Int)) = false := decide_eq_false (by omega)
          have hc2 : decide (((b[k].toNat : Nat) : Int) < ((a[k].toNat : Nat) : Int)) = false := decide_eq_false (by omega)
          have hc3 : ¬ ((a[k].toNat : Nat) : Int) < ((b[k].toNat : Nat) : Int) := by omega
          have hc4 : ¬ ((b[k].toNat : Nat) : Int) < ((a[k].toNat : Nat) : Int) := by omega
          clear HS HC hc
          go_wp2_with fail
          go_quiet (fail)
          go_wp2_with fail
          go_quiet (fail)
          go_wp2_with fail
          go_roundw
          case rel => exact ⟨k + 1, by omega, by omega, by go_num, ⟨_, rfl⟩, HR⟩
          case measure => simp [intOf]; omega
        · have HR : Hid (cmpT a b = 1) := by rw [Hid, HS.out, if_neg (by rw [UInt8.lt_iff_toNat_lt]; omega), if_pos (UInt8.lt_iff_toNat_lt.2 hc)]
          have hc1 : ¬ ((a[k].toNat : Nat) : Int) < ((b[k].toNat : Nat) : Int) := by omega
          have hc' : ((b[k].toNat : Nat) : Int) < ((a[k].toNat : Nat) : Int) := by omega
          clear HS HC
          go_wp2_with fail
          go_quiet (fail)
          go_wp2_with fail
          go_quiet (fail)
          go_wp2_with fail
          go_ret
          rw [HR.out]
          exact ⟨rfl, _, by first | rfl | exact drewN_add' _ _ _ | (rw [drewN_add', drewN_add'])⟩
      · have hkb' : k = b.size := by omega
        have HR : Hid (cmpT a b = 1) := by
          rw [Hid, HC.out, get_data a k hlt, List.drop_of_length_le (l := b.data.toList) (by rw [size_list]; omega), Lib.compareBytes]
        have h1 : ¬ ((k : Nat) : Int) < ((b.size : Nat) : Int) := by omega
        have h2 : ((b.size : Nat) : Int) < ((a.size : Nat) : Int) := by omega
        have h3 : ¬ ((a.size : Nat) : Int) < ((b.size : Nat) : Int) := by omega
        clear hkb' HC
        go_wp2_with fail
        go_ret
        rw [HR.out]
        exact ⟨rfl, q0, rfl⟩
    · have hka' : k = a.size := by omega
      rcases Nat.lt_or_eq_of_le (show a.size ≤ b.size by omega) with hl | hl
      · have HR : Hid (cmpT a b = -1) := by
          rw [Hid, HC.out, get_data b k (by omega), List.drop_of_length_le (l := a.data.toList) (by rw [size_list]; omega), Lib.compareBytes]
        have h1 : ¬ ((k : Nat) : Int) < ((a.size : Nat) : Int) := by omega
        have h2 : ((a.size : Nat) : Int) < ((b.size : Nat) : Int) := by omega
        clear hka' HC
        go_wp2_with fail
        go_ret
        rw [HR.out]
        exact ⟨rfl, q0, rfl⟩
      · have HR : Hid (cmpT a b = 0) := by
          rw [Hid, HC.out, List.drop_of_length_le (l := a.data.toList) (by rw [size_list]; omega), List.drop_of_length_le (l := b.data.toList) (by rw [size_list]; omega), Lib.compareBytes]
        have h1 : ¬ ((k : Nat) : Int) < ((a.size : Nat) : Int) := by omega
        have h2 : ¬ ((a.size : Nat) : Int) < ((b.size : Nat) : Int) := by omega
        have h3 : ¬ ((b.size : Nat) : Int) < ((a.size : Nat) : Int) := by omega
        clear hka' HC hl
        go_wp2_with fail
        go_ret
        rw [HR.out]
        exact ⟨rfl, q0, rfl⟩

theorem textOrder_below (a b : ByteArray) (w : World) (ha : a.size ≤ maxLen) :
    Calls Try.prog 45 #[.string a, .string b] w fun e w' => e = .returned (.int .i64 (cmpT a b)) ∧ Below w.heap.size w w' :=
  (textOrder_any a b w ha).mono fun _ _ ⟨h1, q, h2⟩ => ⟨h1, by subst h2; exact below_drewN' (Below.refl _ _) q⟩
theorem cmpS_less (a b : Int × ByteArray) : decide (cmpS a b < 0) = (decide (a.1 < b.1) || (decide (a.1 = b.1) && decide (cmpT a.2 b.2 < 0))) := by
  unfold cmpS
  by_cases h1 : a.1 < b.1
  · simp [h1]
  · by_cases h2 : b.1 < a.1
    · have : ¬ a.1 = b.1 := by omega
      simp [h1, h2, this]
    · have : a.1 = b.1 := by omega
      simp [this]
set_option maxRecDepth 100000 in
set_option maxHeartbeats 1000000 in
theorem scoreLess_any (x y : Int × ByteArray) (w : World) (hx : x.2.size ≤ maxLen) :
    Calls Try.prog 47 #[.agg #[.int .i64 x.1, .string x.2], .agg #[.int .i64 y.1, .string y.2]] w fun e w' => e = .returned (.bool (decide (cmpS x y < 0))) ∧ Below w.heap.size w w' := by
  rw [cmpS_less]
  obtain ⟨x1, x2⟩ := x
  obtain ⟨y1, y2⟩ := y
  simp only at *
  have HT : Hid (∀ W, Calls Try.prog 45 #[.string x2, .string y2] W fun e w' => e = .returned (.int .i64 (cmpT x2 y2)) ∧ Below W.heap.size W w') := fun W => textOrder_below _ _ W hx
  generalize cmpT x2 y2 = C at *
  by_cases h1 : x1 < y1
  · rw [decide_eq_true h1, Bool.true_or]
    go_enter Try.func47, Try.ntmps47
    go_wp2_with fail
    go_ret
    exact ⟨rfl, ((Below.refl _ w).alloc (Nat.le_refl _) _).alloc (by simp) _⟩
  · by_cases h2 : x1 = y1
    · subst h2
      rw [decide_eq_false h1, decide_eq_true (rfl : x1 = x1), Bool.false_or, Bool.true_and]
      go_enter Try.func47, Try.ntmps47
      go_wp2_with fail
      refine (HT.out _).mono ?_
      rintro e w1 ⟨rfl, hb1⟩
      have B1 : Below w.heap.size w w1 := (((Below.refl _ w).alloc (Nat.le_refl _) _).alloc (by simp) _).trans (hb1.mono (by simp; omega))
      go_wp2_with fail
      go_ret
      exact ⟨rfl, B1⟩
    · rw [decide_eq_false h1, decide_eq_false h2, Bool.false_or, Bool.false_and]
      have h2' : (x1 == y1) = false := by rw [beq_eq_false_iff_ne]; exact h2
      go_enter Try.func47, Try.ntmps47
      go_wp2_with fail
      go_ret
      exact ⟨rfl, ((Below.refl _ w).alloc (Nat.le_refl _) _).alloc (by simp) _⟩
end Go.Proofs.Ytolpmaapdkhigac
