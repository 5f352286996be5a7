/- WALKS of the checks of single replies. -/
import Derived.Test.YtolpmaapdkhigaaDoorScan2
namespace Go.Proofs.YtolpmaapdkhigaaDoor
open Go.RowKit

/-- has it something that its kind does not name? -/
def pOther (k : Int) (t : ByteArray) (n : Int) (len : Nat) : Bool :=
  decide ((¬ (k = 1 ∨ k = 4) ∧ ¬ t.toList = []) ∨ (¬ (k = 2 ∨ k = 3) ∧ ¬ n = 0) ∨ 0 < len)

set_option maxHeartbeats 1000000 in
theorem hasOther_any (k : Int) (t : ByteArray) (n : Int) (a : Option Addr) (len cap : Nat) (w : World) :
    Calls Tryd.prog 48 #[.agg #[.int .i64 k, .string t, .int .i64 n, .slice a len cap]] w fun e w' => e = .returned (.bool (pOther k t n len)) ∧ Below w.heap.size w w' := by
  go_enter Tryd.func48, Tryd.ntmps48
  go_wp2
  all_goals go_ret
  all_goals refine ⟨?_, (Below.refl _ _).alloc (Nat.le_refl _) _⟩
  all_goals simp [pOther, *]

/-- a letter, a digit or a blank -/
def isWordC (c : UInt8) : Bool := decide ((97 ≤ c.toNat ∧ c.toNat ≤ 122) ∨ (65 ≤ c.toNat ∧ c.toNat ≤ 90) ∨ (48 ≤ c.toNat ∧ c.toNat ≤ 57) ∨ c.toNat = 32)

set_option maxHeartbeats 1000000 in
theorem ofWord_any (c : UInt8) (w : World) :
    Calls Tryd.prog 60 #[.int .u8 c.toNat] w fun e w' => e = .returned (.bool (isWordC c)) ∧ w' = w := by
  go_enter Tryd.func60, Tryd.ntmps60
  go_wp2
  all_goals go_ret
  all_goals refine ⟨congrArg (fun b : Bool => Ending.returned (.bool b)) ?_, rfl⟩
  all_goals rw [Bool.eq_iff_iff]
  all_goals simp [isWordC]
  all_goals omega

set_option maxHeartbeats 1000000 in
theorem checkRange_any (n lo hi : Int) (w : World) :
    Calls Tryd.prog 50 #[.int .i64 n, .int .i64 lo, .int .i64 hi] w fun e w' => e = .returned (.int .i64 (if n < lo ∨ hi < n then 3 else 0)) ∧ w' = w := by
  by_cases h1 : n < lo
  · rw [if_pos (by omega)]
    go_enter Tryd.func50, Tryd.ntmps50
    go_wp2
    go_ret
    exact ⟨rfl, rfl⟩
  · by_cases h2 : hi < n
    · rw [if_pos (by omega)]
      go_enter Tryd.func50, Tryd.ntmps50
      go_wp2
      go_ret
      exact ⟨rfl, rfl⟩
    · rw [if_neg (by omega)]
      go_enter Tryd.func50, Tryd.ntmps50
      go_wp2
      go_ret
      exact ⟨rfl, rfl⟩

/-- the check of a word, as a plain function -/
def pWordOk (t : ByteArray) : Int := if 20 < t.size then 2 else if t.toList = [] then 1 else if t.data.toList.all isWordC then 0 else 1

theorem all_take_succ (p : UInt8 → Bool) (s : ByteArray) (k : Nat) (h : k < s.size) : (s.data.toList.take (k + 1)).all p = ((s.data.toList.take k).all p && p s[k]) := by
  rw [List.take_succ_eq_append_getElem (by rw [size_list]; exact h)]
  simp
  rfl

set_option maxHeartbeats 1000000 in
theorem checkWord_any (t : ByteArray) (w : World) (ht : t.size ≤ maxLen) :
    Calls Tryd.prog 49 #[.string t] w fun e w' => e = .returned (.int .i64 (pWordOk t)) ∧ w' = w := by
  unfold maxLen at ht
  by_cases h1 : 20 < t.size
  · have hp : pWordOk t = 2 := by rw [pWordOk, if_pos h1]
    rw [hp]
    clear hp
    go_enter Tryd.func49, Tryd.ntmps49
    go_wp2
    go_ret
    exact ⟨rfl, rfl⟩
  · by_cases h2 : t.toList = []
    · have hp : pWordOk t = 1 := by rw [pWordOk, if_neg h1, if_pos h2]
      rw [hp]
      clear hp
      go_enter Tryd.func49, Tryd.ntmps49
      go_wp2
      go_ret
      exact ⟨rfl, rfl⟩
    · have hp : pWordOk t = if t.data.toList.all isWordC then 0 else 1 := by rw [pWordOk, if_neg h1, if_neg h2]
      have HP := hide hp
      have h2b : t.toList.isEmpty = false := by simpa using h2
      clear hp h2
      go_enter Tryd.func49, Tryd.ntmps49
      go_wp2
      go_loop [11] (fun i => ∃ k : Nat, k ≤ t.size ∧ i = .int .i64 k ∧ Hid ((t.data.toList.take k).all isWordC = true)) (fun i => t.size - (intOf i).toNat)
      case atStart => exact ⟨0, Nat.zero_le _, rfl, by simp [Hid]⟩
      case round =>
        obtain ⟨k, hk, rfl, HA⟩ := hrel
        by_cases hlt : k < t.size
        · have hstep := all_take_succ isWordC t k hlt
          rw [HA.out, Bool.true_and] at hstep
          cases hc : isWordC t[k] with
          | true =>
            have HS : Hid ((t.data.toList.take (k + 1)).all isWordC = true) := hstep.trans hc
            clear hstep
            go_wp2_with (go_at_call 60; refine (ofWord_any _ _).mono ?_; rintro e w' ⟨rfl, rfl⟩)
            go_round
            case rel => exact ⟨k + 1, by omega, by go_num, HS⟩
            case measure => simp [intOf]; omega
          | false =>
            have HS : Hid (pWordOk t = 1) := by
              rw [HP.out]
              have hf : t.data.toList.all isWordC = false := by
                rw [← List.take_append_drop (k + 1) t.data.toList, List.all_append, hstep, hc, Bool.false_and]
              simp [Hid, hf]
            clear hstep
            go_wp2_with (go_at_call 60; refine (ofWord_any _ _).mono ?_; rintro e w' ⟨rfl, rfl⟩)
            go_ret
            rw [HS.out]
            exact ⟨rfl, rfl⟩
        · have HS : Hid (pWordOk t = 0) := by
            have h3 := HA.out
            rw [List.take_of_length_le (by rw [size_list]; omega)] at h3
            rw [HP.out]
            simp [Hid, h3]
          go_wp2
          go_ret
          rw [HS.out]
          exact ⟨rfl, rfl⟩

/-- the check of a single reply, as a plain function -/
def pCheck1 (k : Int) (t : ByteArray) (n : Int) (len : Nat) : Int :=
  if k < 1 ∨ 5 < k then 7 else if pOther k t n len then 1 else
    if k = 1 then pWordOk t else if k = 2 then (if n < 1 ∨ 8 < n then 3 else 0) else if k = 3 then (if n < -999999999 ∨ 999999999 < n then 3 else 0) else
    if k = 4 ∧ 60 < t.size then 2 else 0

set_option maxRecDepth 100000 in
set_option maxHeartbeats 1000000 in
theorem checkSingle_any (k : Int) (t : ByteArray) (n : Int) (a : Option Addr) (len cap : Nat) (w : World) (ht : t.size ≤ maxLen) :
    Calls Tryd.prog 30 #[.agg #[.int .i64 k, .string t, .int .i64 n, .slice a len cap]] w fun e w' => e = .returned (.int .i64 (pCheck1 k t n len)) ∧ Below w.heap.size w w' := by
  by_cases h0 : k < 1 ∨ 5 < k
  · have hp : pCheck1 k t n len = 7 := by rw [pCheck1, if_pos h0]
    rw [hp]
    clear hp
    rcases h0 with h0 | h0
    · go_enter Tryd.func30, Tryd.ntmps30
      go_wp2
      go_ret
      exact ⟨rfl, (Below.refl _ _).alloc (Nat.le_refl _) _⟩
    · have h0' : 1 ≤ k := by omega
      go_enter Tryd.func30, Tryd.ntmps30
      go_wp2
      go_ret
      exact ⟨rfl, (Below.refl _ _).alloc (Nat.le_refl _) _⟩
  · have h1 : 1 ≤ k := by omega
    have h2 : k ≤ 5 := by omega
    cases ho : pOther k t n len with
    | true =>
      have hp : pCheck1 k t n len = 1 := by rw [pCheck1, if_neg h0, ho]; rfl
      rw [hp]
      clear hp h0
      go_enter Tryd.func30, Tryd.ntmps30
      go_wp2_with (go_at_call 48; refine (hasOther_any _ _ _ _ _ _ _).mono ?_; rintro e w1 ⟨rfl, hb1⟩)
      go_ret
      exact ⟨rfl, ((Below.refl _ w).alloc (Nat.le_refl _) _).trans (hb1.mono (by simp))⟩
    | false =>
      have hp : pCheck1 k t n len = if k = 1 then pWordOk t else if k = 2 then (if n < 1 ∨ 8 < n then 3 else 0) else if k = 3 then (if n < -999999999 ∨ 999999999 < n then 3 else 0) else if k = 4 ∧ 60 < t.size then 2 else 0 := by
        rw [pCheck1, if_neg h0, ho]; rfl
      rw [hp]
      clear hp h0
      have hk5 : k = 1 ∨ k = 2 ∨ k = 3 ∨ k = 4 ∨ k = 5 := by omega
      unfold maxLen at ht
      rcases hk5 with rfl | rfl | rfl | rfl | rfl
      · rw [if_pos rfl]
        go_enter Tryd.func30, Tryd.ntmps30
        go_wp2_with (first | (go_at_call 48; refine (hasOther_any _ _ _ _ _ _ _).mono ?_; rintro e w1 ⟨rfl, hb1⟩; obtain ⟨hc, hf⟩ := bcell hb1; have hz : w.heap.size < w1.heap.size := by have := hb1.size; simp at this; omega) | (go_at_call 49; refine (checkWord_any _ _ (by unfold maxLen; exact ht)).mono ?_; rintro e w2 ⟨rfl, rfl⟩))
        all_goals go_ret
        all_goals exact ⟨rfl, ((Below.refl _ w).alloc (Nat.le_refl _) _).trans (hb1.mono (by simp))⟩
      · rw [if_neg (by decide), if_pos rfl]
        go_enter Tryd.func30, Tryd.ntmps30
        go_wp2_with (first | (go_at_call 48; refine (hasOther_any _ _ _ _ _ _ _).mono ?_; rintro e w1 ⟨rfl, hb1⟩; obtain ⟨hc, hf⟩ := bcell hb1; have hz : w.heap.size < w1.heap.size := by have := hb1.size; simp at this; omega) | (go_at_call 50; refine (checkRange_any _ _ _ _).mono ?_; rintro e w2 ⟨rfl, rfl⟩))
        all_goals go_ret
        all_goals exact ⟨rfl, ((Below.refl _ w).alloc (Nat.le_refl _) _).trans (hb1.mono (by simp))⟩
      · rw [if_neg (by decide), if_neg (by decide), if_pos rfl]
        go_enter Tryd.func30, Tryd.ntmps30
        go_wp2_with (first | (go_at_call 48; refine (hasOther_any _ _ _ _ _ _ _).mono ?_; rintro e w1 ⟨rfl, hb1⟩; obtain ⟨hc, hf⟩ := bcell hb1; have hz : w.heap.size < w1.heap.size := by have := hb1.size; simp at this; omega) | (go_at_call 50; refine (checkRange_any _ _ _ _).mono ?_; rintro e w2 ⟨rfl, rfl⟩))
        all_goals go_ret
        all_goals exact ⟨rfl, ((Below.refl _ w).alloc (Nat.le_refl _) _).trans (hb1.mono (by simp))⟩
      · by_cases h60 : 60 < t.size
        · rw [if_neg (by decide), if_neg (by decide), if_neg (by decide), if_pos ⟨rfl, h60⟩]
          go_enter Tryd.func30, Tryd.ntmps30
          go_wp2_with (first | (go_at_call 48; refine (hasOther_any _ _ _ _ _ _ _).mono ?_; rintro e w1 ⟨rfl, hb1⟩; obtain ⟨hc, hf⟩ := bcell hb1; have hz : w.heap.size < w1.heap.size := by have := hb1.size; simp at this; omega))
          go_ret
          exact ⟨rfl, ((Below.refl _ w).alloc (Nat.le_refl _) _).trans (hb1.mono (by simp))⟩
        · rw [if_neg (by decide), if_neg (by decide), if_neg (by decide), if_neg (fun h => h60 h.2)]
          go_enter Tryd.func30, Tryd.ntmps30
          go_wp2_with (first | (go_at_call 48; refine (hasOther_any _ _ _ _ _ _ _).mono ?_; rintro e w1 ⟨rfl, hb1⟩; obtain ⟨hc, hf⟩ := bcell hb1; have hz : w.heap.size < w1.heap.size := by have := hb1.size; simp at this; omega))
          go_ret
          exact ⟨rfl, ((Below.refl _ w).alloc (Nat.le_refl _) _).trans (hb1.mono (by simp))⟩
      · rw [if_neg (by decide), if_neg (by decide), if_neg (by decide), if_neg (fun h => absurd h.1 (by decide))]
        go_enter Tryd.func30, Tryd.ntmps30
        go_wp2_with (first | (go_at_call 48; refine (hasOther_any _ _ _ _ _ _ _).mono ?_; rintro e w1 ⟨rfl, hb1⟩; obtain ⟨hc, hf⟩ := bcell hb1; have hz : w.heap.size < w1.heap.size := by have := hb1.size; simp at this; omega))
        all_goals go_ret
        all_goals exact ⟨rfl, ((Below.refl _ w).alloc (Nat.le_refl _) _).trans (hb1.mono (by simp))⟩
end Go.Proofs.YtolpmaapdkhigaaDoor
