/- WALKS of the reference's lists: whether a text is there; what comes must be. -/
import Derived.Test.YtolpmaapdkhigacISame
import Derived.Handy
namespace Go.Proofs.Ytolpmaapdkhigac
open Go.RowKit

theorem beq_text (a b : ByteArray) : (a.toList == b.toList) = decide (a = b) := by
  rw [Bool.eq_iff_iff]
  simp only [beq_iff_eq, decide_eq_true_eq]
  exact ⟨bytes_inj, fun e => by rw [e]⟩
set_option maxRecDepth 100000 in
set_option maxHeartbeats 1000000 in
theorem hasText_any (a : Option Addr) (cap : Nat) (ts : List ByteArray) (s : ByteArray) (w : World) (hs : TextsAt w a ts) (hn : ts.length ≤ 281474976710656) :
    Calls Try.prog 43 #[.slice a ts.length cap, .string s] w fun e w' => e = .returned (.bool (hasT ts s)) ∧ w' = w := by
  have HS := hide hs
  clear hs
  go_enter Try.func43, Try.ntmps43
  go_wp2_with fail
  go_loop [5] (fun i => ∃ k : Nat, k ≤ ts.length ∧ i = .int .i64 k ∧ Hid (s ∉ ts.take k)) (fun i => ts.length - (intOf i).toNat)
  case atStart => exact ⟨0, Nat.zero_le _, rfl, by simp [Hid]⟩
  case round =>
    obtain ⟨k, hk, rfl, HA⟩ := hrel
    by_cases hlt : k < ts.length
    · have hlt' : ((k : Nat) : Int) < ((ts.length : Nat) : Int) := by omega
      obtain ⟨g, o, rfl, hcs⟩ : ∃ g o, a = some ⟨g, o, none⟩ ∧ ∀ i (h : i < ts.length), w.cell? ⟨g, o + i, none⟩ = some (.string ts[i]) := by
        rcases HS.out with h | h
        · subst h; simp at hlt
        · exact h
      have d0 : w.cell? ⟨g, o + k, none⟩ = some (.string ts[k]) := hcs k hlt
      have HT : Hid (ts[k] ≠ s → s ∉ ts.take (k + 1)) := fun hne hm => by
        rw [List.take_succ_eq_append_getElem hlt, List.mem_append] at hm
        rcases hm with hm | hm
        · exact HA.out hm
        · simp at hm; exact hne hm.symm
      have HF : Hid (ts[k] = s → hasT ts s = true) := fun he => hasT_iff.2 (he ▸ List.getElem_mem hlt)
      have hbq := beq_text ts[k] s
      clear hcs HS
      generalize ts[k] = X at *
      by_cases hXs : X = s
      · have HF' := hide (HF.out hXs)
        have hb1 : (X.toList == s.toList) = true := by rw [hbq]; exact decide_eq_true hXs
        have HXs := hide hXs
        clear HT HF hbq hXs
        go_wp2_with fail
        go_ret
        rw [HF'.out]
        exact ⟨rfl, rfl⟩
      · have HT' := hide (HT.out hXs)
        have hb1 : (X.toList == s.toList) = false := by rw [hbq]; exact decide_eq_false hXs
        have HXs := hide hXs
        clear HT HF hbq hXs
        go_wp2_with fail
        go_round
        case rel => exact ⟨k + 1, by omega, by go_num, HT'⟩
        case measure => simp [intOf]; omega
    · have hge : ¬ ((k : Nat) : Int) < ((ts.length : Nat) : Int) := by omega
      obtain rfl : k = ts.length := by omega
      have HY : Hid (hasT ts s = false) := by have := HA.out; rw [List.take_length] at this; exact hasT_not this
      go_wp2_with fail
      go_ret
      rw [HY.out]
      exact ⟨rfl, rfl⟩

/-- what is wrong with some that come -/
def someE (l : List ByteArray) : Int := if l = [] then 1 else if l.any longT = true then 2 else 0
set_option maxRecDepth 100000 in
set_option maxHeartbeats 1000000 in
theorem checkSome_any (a : Option Addr) (cap : Nat) (ts : List ByteArray) (w : World) (hs : TextsAt w a ts) (hn : ts.length ≤ 281474976710656) :
    Calls Try.prog 30 #[.slice a ts.length cap] w fun e w' => e = .returned (.int .i64 (someE ts)) ∧ w' = w := by
  by_cases h0 : ts = []
  · subst h0
    go_enter Try.func30, Try.ntmps30
    go_wp2_with fail
    go_ret
    exact ⟨rfl, rfl⟩
  · have HS := hide hs
    have hpos : 0 < ts.length := List.length_pos_iff.2 h0
    have h0' : (((ts.length : Nat) : Int) == 0) = false := by rw [beq_eq_false_iff_ne]; omega
    have HE2 : Hid (ts.any longT = true → someE ts = 2) := fun h => by rw [someE, if_neg h0, if_pos h]
    have HE0 : Hid (ts.any longT = false → someE ts = 0) := fun h => by rw [someE, if_neg h0, if_neg (by rw [h]; decide)]
    clear hs h0
    go_enter Try.func30, Try.ntmps30
    go_wp2_with fail
    go_loop [3] (fun i => ∃ k : Nat, k ≤ ts.length ∧ i = .int .i64 k ∧ Hid ((ts.take k).any longT = false)) (fun i => ts.length - (intOf i).toNat)
    case atStart => exact ⟨0, Nat.zero_le _, rfl, by simp [Hid]⟩
    case round =>
      obtain ⟨k, hk, rfl, HA⟩ := hrel
      by_cases hlt : k < ts.length
      · have hlt' : ((k : Nat) : Int) < ((ts.length : Nat) : Int) := by omega
        obtain ⟨g, o, rfl, hcs⟩ : ∃ g o, a = some ⟨g, o, none⟩ ∧ ∀ i (h : i < ts.length), w.cell? ⟨g, o + i, none⟩ = some (.string ts[i]) := by
          rcases HS.out with h | h
          · subst h; simp at hlt
          · exact h
        have d0 : w.cell? ⟨g, o + k, none⟩ = some (.string ts[k]) := hcs k hlt
        have HT : Hid (longT ts[k] = false → (ts.take (k + 1)).any longT = false) := fun hx => by
          rw [List.take_succ_eq_append_getElem hlt, List.any_append, HA.out]
          simp [hx]
        have HF : Hid (longT ts[k] = true → ts.any longT = true) := fun hx => List.any_eq_true.mpr ⟨ts[k], List.getElem_mem hlt, hx⟩
        clear hcs HS
        generalize ts[k] = X at *
        by_cases hX : 60 < X.size
        · have HF' := hide (HE2.out (HF.out (by unfold longT; exact decide_eq_true hX)))
          have hX' : (60 : Int) < ((X.size : Nat) : Int) := by omega
          clear HT HF HE2 HE0
          go_wp2_with fail
          go_ret
          rw [HF'.out]
          exact ⟨rfl, rfl⟩
        · have HT' := hide (HT.out (by unfold longT; exact decide_eq_false hX))
          have hX' : ¬ (60 : Int) < ((X.size : Nat) : Int) := by omega
          clear HT HF
          go_wp2_with fail
          go_round
          case rel => exact ⟨k + 1, by omega, by go_num, HT'⟩
          case measure => simp [intOf]; omega
      · have hge : ¬ ((k : Nat) : Int) < ((ts.length : Nat) : Int) := by omega
        obtain rfl : k = ts.length := by omega
        have HY : Hid (someE ts = 0) := by have := HA.out; rw [List.take_length] at this; exact HE0.out this
        clear HE2 HE0
        go_wp2_with fail
        go_ret
        rw [HY.out]
        exact ⟨rfl, rfl⟩
end Go.Proofs.Ytolpmaapdkhigac
