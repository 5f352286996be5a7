/- WALKS of the reference's check of hashes. -/
import Derived.Test.YtolpmaapdkhigacRChk2
import Derived.Test.YtolpmaapdkhigacIChk1
import Derived.BigQuiet
import Derived.Handy
namespace Go.Proofs.Ytolpmaapdkhigac
open Go.RowKit

set_option maxRecDepth 100000 in
set_option maxHeartbeats 4000000 in
theorem refC_4 (a1 a2 a3 : Option Addr) (c1 c2 c3 : Nat) (l : List (ByteArray × ByteArray)) (w : World) (hs : PairsAt w a2 l) (hn : l.length ≤ 281474976710656) (hz : ∀ t ∈ l, t.1.size ≤ maxLen ∧ t.2.size ≤ maxLen) :
    Calls Try.prog 33 #[.agg #[.int .i64 4, .string ⟨#[]⟩, .slice a1 0 c1, .slice a2 l.length c2, .slice a3 0 c3]] w fun e w' => e = .returned (.int .i64 (hashT l)) ∧ Below w.heap.size w w' := by
  have HS := hide hs
  clear hs
  have HZ := hide hz
  clear hz
  by_cases h0 : l.length = 0
  · obtain rfl : l = [] := List.eq_nil_of_length_eq_zero h0
    rw [show (hashT ([] : List (ByteArray × ByteArray))) = 5 from rfl]
    clear h0
    go_enter Try.func33, Try.ntmps33
    go_wp2_with fail
    refine (between15 _ _ (by decide)).mono ?_
    rintro e w1 ⟨rfl, rfl⟩
    go_wp2_with fail
    go_ret
    exact ⟨rfl, (Below.refl _ _).alloc (Nat.le_refl _) _⟩
  have h0b : (((l.length : Nat) : Int) == 0) = false := by rw [beq_eq_false_iff_ne]; omega
  by_cases h24 : 24 < l.length
  · rw [show (hashT l) = 2 by rw [hashT, if_pos (by rw [sizeT, if_neg h0, if_pos (.inl h24)]; decide), sizeT, if_neg h0, if_pos (.inl h24)]]
    have h24' : (24 : Int) < ((l.length : Nat) : Int) := by omega
    go_enter Try.func33, Try.ntmps33
    go_wp2_with fail
    refine (between15 _ _ (by decide)).mono ?_
    rintro e w1 ⟨rfl, rfl⟩
    go_wp2_with fail
    go_ret
    exact ⟨rfl, (Below.refl _ _).alloc (Nat.le_refl _) _⟩
  have h24' : ¬ (24 : Int) < ((l.length : Nat) : Int) := by omega
  go_enter Try.func33, Try.ntmps33
  go_wp2_with fail
  refine (between15 _ _ (by decide)).mono ?_
  rintro e w1 ⟨rfl, rfl⟩
  go_wp2_with fail
  generalize hW0 : World.alloc w _ = W0
  have q2 : W0.cell? ⟨w.heap.size, 2, none⟩ = some (.slice a1 0 c1) := by rw [← hW0]; simp [go_sem]
  have q3 : W0.cell? ⟨w.heap.size, 3, none⟩ = some (.slice a2 l.length c2) := by rw [← hW0]; simp [go_sem]
  have q4 : W0.cell? ⟨w.heap.size, 4, none⟩ = some (.slice a3 0 c3) := by rw [← hW0]; simp [go_sem]
  have BW : Below w.heap.size w W0 := by rw [← hW0]; exact (Below.refl _ _).alloc (Nat.le_refl _) _
  have HB : Hid (∀ g o v, w.cell? ⟨g, o, none⟩ = some v → W0.cell? ⟨g, o, none⟩ = some v) := fun g o _ hv => (BW.cell (p := ⟨g, o, none⟩) (World.block_lt_of_cell? _ _ hv)).trans hv
  have zW : w.heap.size < W0.heap.size := by rw [← hW0]; simp
  clear hW0
  refine wp_loop_rounds 1 ?_
  rw [rounds_succ]
  go_wp2_with fail
  go_loop [6] (fun i => ∃ k : Nat, k ≤ l.length ∧ i = .int .i64 k ∧ Hid ((l.take k).any longP = false)) (fun i => l.length - (intOf i).toNat)
  case atStart => exact ⟨0, Nat.zero_le _, rfl, by simp [Hid]⟩
  case round =>
    obtain ⟨k, hk, rfl, HA⟩ := hrel
    by_cases hlt : k < l.length
    · have hlt' : ((k : Nat) : Int) < ((l.length : Nat) : Int) := by omega
      have HT : Hid ((l.take (k + 1)).any longP = ((l.take k).any longP || longP l[k])) := by
        rw [Hid, List.take_succ_eq_append_getElem hlt, List.any_append]
        simp
      have HF : Hid (longP l[k] = true → l.any longP = true) := fun hx => List.any_eq_true.mpr ⟨l[k], List.getElem_mem hlt, hx⟩
      obtain ⟨g, o, rfl, hcs⟩ : ∃ g o, a2 = some ⟨g, o, none⟩ ∧ ∀ i (h : i < l.length), w.cell? ⟨g, o + i * 2, none⟩ = some (.string l[i].1) ∧ w.cell? ⟨g, o + i * 2 + 1, none⟩ = some (.string l[i].2) := by
        rcases HS.out with h | h
        · subst h; simp at hlt
        · exact h
      have d0 : W0.cell? ⟨g, o + k * 2, none⟩ = some (.string l[k].1) := HB.out _ _ _ (hcs k hlt).1
      have d1 : W0.cell? ⟨g, o + k * 2 + 1, none⟩ = some (.string l[k].2) := HB.out _ _ _ (hcs k hlt).2
      clear hcs HS HB HZ
      by_cases hx : 60 < l[k].1.size
      · have HY := hide (HF.out (by simp only [longP, longT, decide_eq_true hx, Bool.true_or]))
        have hx' : (60 : Int) < ((l[k].1.size : Nat) : Int) := by omega
        clear HF HT
        go_wp2_with fail
        go_ret
        rw [show (hashT l) = 2 by rw [hashT, if_pos (by rw [sizeT, if_neg h0, if_pos (.inr HY.out)]; decide), sizeT, if_neg h0, if_pos (.inr HY.out)]]
        exact ⟨rfl, BW⟩
      · have hx' : ¬ (60 : Int) < ((l[k].1.size : Nat) : Int) := by omega
        by_cases hy : 60 < l[k].2.size
        · have HY := hide (HF.out (by simp only [longP, longT, decide_eq_true hy, Bool.or_true]))
          have hy' : (60 : Int) < ((l[k].2.size : Nat) : Int) := by omega
          clear HF HT
          go_wp2_with fail
          go_ret
          rw [show (hashT l) = 2 by rw [hashT, if_pos (by rw [sizeT, if_neg h0, if_pos (.inr HY.out)]; decide), sizeT, if_neg h0, if_pos (.inr HY.out)]]
          exact ⟨rfl, BW⟩
        · have HY : Hid ((l.take (k + 1)).any longP = false) := by rw [Hid, HT.out, HA.out]; simp only [longP, longT, decide_eq_false hx, decide_eq_false hy, Bool.or_self]
          have hy' : ¬ (60 : Int) < ((l[k].2.size : Nat) : Int) := by omega
          clear HF HT
          go_wp2_with fail
          go_round
          case rel => exact ⟨k + 1, by omega, by go_num, HY⟩
          case measure => simp [intOf]; omega
    · have hge : ¬ ((k : Nat) : Int) < ((l.length : Nat) : Int) := by omega
      have HY : Hid (l.any longP = false) := by have := HA.out; rw [List.take_of_length_le (by omega)] at this; exact this
      have HOK : Hid (sizeT l.length (l.any longP) = 0) := show sizeT l.length (l.any longP) = 0 by rw [sizeT, if_neg h0, if_neg (by rw [HY.out]; rintro (h | h); omega; cases h)]
      clear HA
      go_wp2_with fail
      refine wp_loop_rounds 1 ?_
      rw [rounds_succ]
      go_wp2_with fail
      refine wp_loop_rounds 1 ?_
      rw [rounds_succ]
      go_wp2_with fail
      go_loopw [9] (fun i wr => ∃ j : Nat, 1 ≤ j ∧ j ≤ l.length ∧ i = .int .i64 j ∧ Below W0.heap.size W0 wr ∧ Hid (riseTo cmpP l j = true)) (fun i _ => l.length + 1 - (intOf i).toNat)
      case atStart => exact ⟨1, Nat.le_refl _, by omega, rfl, Below.refl _ _, rfl⟩
      case round =>
        obtain ⟨j, hj1, hj, rfl, hbr, HA⟩ := hrel
        have r2 := (hbr.cell (p := ⟨w.heap.size, 2, none⟩) zW).trans q2
        have r3 := (hbr.cell (p := ⟨w.heap.size, 3, none⟩) zW).trans q3
        have r4 := (hbr.cell (p := ⟨w.heap.size, 4, none⟩) zW).trans q4
        have BR : Below w.heap.size w wr := BW.trans (hbr.mono BW.size)
        have HB2 : Hid (∀ g o v, w.cell? ⟨g, o, none⟩ = some v → wr.cell? ⟨g, o, none⟩ = some v) := fun g o _ hv => (BR.cell (p := ⟨g, o, none⟩) (World.block_lt_of_cell? _ _ hv)).trans hv
        clear q2 q3 q4 HB
        by_cases hjl : j < l.length
        · have hjl' : ((j : Nat) : Int) < ((l.length : Nat) : Int) := by omega
          obtain ⟨g, o, rfl, hcs⟩ : ∃ g o, a2 = some ⟨g, o, none⟩ ∧ ∀ i (h : i < l.length), w.cell? ⟨g, o + i * 2, none⟩ = some (.string l[i].1) ∧ w.cell? ⟨g, o + i * 2 + 1, none⟩ = some (.string l[i].2) := by
            rcases HS.out with h | h
            · subst h; simp at hjl
            · exact h
          obtain ⟨m, rfl⟩ : ∃ m, j = m + 1 := ⟨j - 1, by omega⟩
          have d0 : wr.cell? ⟨g, o + m * 2, none⟩ = some (.string l[m].1) := HB2.out _ _ _ (hcs m (by omega)).1
          have d1 : wr.cell? ⟨g, o + (m + 1) * 2, none⟩ = some (.string l[m + 1].1) := HB2.out _ _ _ (hcs (m + 1) hjl).1
          have hmm : IntKind.i64.wrap ((m : Nat) : Int) = ((m : Nat) : Int) := by rw [IntKind.wrap_i64]; omega
          have hm2 : ((m : Nat) : Int) < ((l.length : Nat) : Int) := by omega
          have hm3 : ((m : Nat) : Int) + 1 < ((l.length : Nat) : Int) := by omega
          have hm4 : (0 : Int) ≤ ((m : Nat) : Int) + 1 := by omega
          have hm5 : (((m : Nat) : Int) + 1).toNat = m + 1 := by omega
          have HT : Hid (riseTo cmpP l (m + 1 + 1) = decide (cmpT l[m].1 l[m + 1].1 < 0)) := by
            rw [Hid, riseTo_succ cmpP l (m + 1) (by omega), HA.out, Bool.true_and, show m + 1 - 1 = m by omega, getElem!_pos l m (by omega), getElem!_pos l (m + 1) hjl]
            rfl
          have HC : Hid (∀ W, Calls Try.prog 45 #[.string l[m].1, .string l[m + 1].1] W fun e w' => e = .returned (.int .i64 (cmpT l[m].1 l[m + 1].1)) ∧ ∃ q, w' = W.drewN q) := fun W => textOrder_any _ _ W (HZ.out _ (List.getElem_mem _)).1
          generalize cmpT l[m].1 l[m + 1].1 = C at *
          clear hcs HS HB2 HZ
          by_cases hC : C < 0
          · have hC' : ¬ (0 : Int) ≤ C := by omega
            have HY : Hid (riseTo cmpP l (m + 1 + 1) = true) := by rw [Hid, HT.out]; exact decide_eq_true hC
            go_wp2_with fail
            go_quiet ((go_at_call 45; exact Calls.quiet_of (HC.out _)))
            go_wp2_with fail
            go_roundw
            case rel => exact ⟨m + 1 + 1, by omega, by omega, by go_num, below_drewN' hbr _, HY⟩
            case measure => simp [intOf]; omega
          · have hC' : (0 : Int) ≤ C := by omega
            have HY : Hid (riseTo cmpP l l.length = false) := riseTo_false (k := m + 1 + 1) (by rw [HT.out]; exact decide_eq_false hC) (by omega)
            go_wp2_with fail
            go_quiet ((go_at_call 45; exact Calls.quiet_of (HC.out _)))
            go_wp2_with fail
            go_ret
            rw [show hashT l = 4 by rw [hashT, if_neg (by simp [HOK.out]), if_neg (by rw [HY.out]; decide)]]
            exact ⟨rfl, below_drewN' BR _⟩
        · have hjl' : ¬ ((j : Nat) : Int) < ((l.length : Nat) : Int) := by omega
          have HY : Hid (riseTo cmpP l l.length = true) := by have : j = l.length := by omega
                                                              rw [← this]; exact HA.out
          go_wp2_with fail
          refine wp_loop_rounds 1 ?_
          rw [rounds_succ]
          go_wp2_with fail
          refine wp_loop_rounds 1 ?_
          rw [rounds_succ]
          go_wp2_with fail
          refine wp_loop_rounds 1 ?_
          rw [rounds_succ]
          go_wp2_with fail
          go_ret
          rw [show hashT l = 0 by rw [hashT, if_neg (by simp [HOK.out]), if_pos HY.out]]
          exact ⟨rfl, BR⟩
end Go.Proofs.Ytolpmaapdkhigac
