/- WALK of the reference's check of scores. -/
import Derived.Test.YtolpmaapdkhigacRChk2
import Derived.Test.YtolpmaapdkhigacIChk1
import Derived.BigQuiet
import Derived.Deep.RegionHeld3
import Derived.Handy
namespace Go.Proofs.Ytolpmaapdkhigac
open Go.RowKit

theorem bytes_inj' {a b : ByteArray} (h : a.toList = b.toList) : a = b := by
  rw [ByteArray.toList_eq, ByteArray.toList_eq] at h
  cases a; cases b
  congr 1
  exact Array.toList_inj.1 h
theorem outS_not (x : Int × ByteArray) : (!outS x) = decide (-999999999 ≤ x.1 ∧ x.1 ≤ 999999999) := by
  unfold outS
  rw [Bool.eq_iff_iff]
  simp
theorem twice_of {l : List (Int × ByteArray)} {m k : Nat} (hm : m < k) (hk : k < l.length) (h : l[m].2 = l[k].2) : twiceS l = true := by
  unfold twiceS
  simp only [Bool.not_eq_true', decide_eq_false_iff_not]
  intro hn
  have := List.pairwise_iff_getElem.1 hn m k (by simp; omega) (by simp; omega) hm
  simp only [List.getElem_map] at this
  exact this h
theorem nodup_step {l : List (Int × ByteArray)} {k : Nat} (hk : k < l.length) (h : ((l.map Prod.snd).take k).Nodup) (hj : ∀ j (h : j < k), l[j].2 ≠ l[k].2) : ((l.map Prod.snd).take (k + 1)).Nodup := by
  rw [List.take_succ_eq_append_getElem (by simp; omega), List.nodup_append]
  refine ⟨h, by simp, ?_⟩
  intro a ha b hb
  simp at hb
  subst hb
  obtain ⟨i, hi, rfl⟩ := List.getElem_of_mem ha
  simp at hi ⊢
  exact hj i (by omega)

set_option maxRecDepth 100000 in
set_option maxHeartbeats 4000000 in
theorem refC_5 (a1 a2 a3 : Option Addr) (c1 c2 c3 : Nat) (l : List (Int × ByteArray)) (w : World) (hs : ScoresAt w a3 l) (hn : l.length ≤ 281474976710656) (hz : ∀ t ∈ l, t.2.size ≤ maxLen) :
    Calls Try.prog 33 #[.agg #[.int .i64 5, .string ⟨#[]⟩, .slice a1 0 c1, .slice a2 0 c2, .slice a3 l.length c3]] w fun e w' => e = .returned (.int .i64 (scoreT l)) ∧ Below w.heap.size w w' := by
  have HS := hide hs
  clear hs
  have HZ := hide hz
  clear hz
  by_cases h0 : l.length = 0
  · obtain rfl : l = [] := List.eq_nil_of_length_eq_zero h0
    rw [show (scoreT ([] : List (Int × ByteArray))) = 5 from rfl]
    clear h0
    go_enter Try.func33, Try.ntmps33
    go_wp2_with fail
    refine (between15 _ _ (by decide)).mono ?_
    rintro e w1 ⟨rfl, rfl⟩
    go_wp2_with fail
    go_ret
    exact ⟨rfl, (Below.refl _ _).alloc (Nat.le_refl _) _⟩
  have h0b : (((l.length : Nat) : Int) == 0) = false := by rw [beq_eq_false_iff_ne]; omega
  by_cases h24 : 24 < l.length
  · rw [show (scoreT l) = 2 by rw [scoreT, if_pos (by rw [sizeT, if_neg h0, if_pos (.inl h24)]; decide), sizeT, if_neg h0, if_pos (.inl h24)]]
    have h24' : (24 : Int) < ((l.length : Nat) : Int) := by omega
    go_enter Try.func33, Try.ntmps33
    go_wp2_with fail
    refine (between15 _ _ (by decide)).mono ?_
    rintro e w1 ⟨rfl, rfl⟩
    go_wp2_with fail
    go_ret
    exact ⟨rfl, (Below.refl _ _).alloc (Nat.le_refl _) _⟩
  have h24' : ¬ (24 : Int) < ((l.length : Nat) : Int) := by omega
  go_enter Try.func33, Try.ntmps33
  go_wp2_with fail
  refine (between15 _ _ (by decide)).mono ?_
  rintro e w1 ⟨rfl, rfl⟩
  go_wp2_with fail
  generalize hW0 : World.alloc w _ = W0
  have q2 : W0.cell? ⟨w.heap.size, 2, none⟩ = some (.slice a1 0 c1) := by rw [← hW0]; simp [go_sem]
  have q3 : W0.cell? ⟨w.heap.size, 3, none⟩ = some (.slice a2 0 c2) := by rw [← hW0]; simp [go_sem]
  have q4 : W0.cell? ⟨w.heap.size, 4, none⟩ = some (.slice a3 l.length c3) := by rw [← hW0]; simp [go_sem]
  have BW : Below w.heap.size w W0 := by rw [← hW0]; exact (Below.refl _ _).alloc (Nat.le_refl _) _
  have HB : Hid (∀ g o v, w.cell? ⟨g, o, none⟩ = some v → W0.cell? ⟨g, o, none⟩ = some v) := fun g o _ hv => (BW.cell (p := ⟨g, o, none⟩) (World.block_lt_of_cell? _ _ hv)).trans hv
  have zW : w.heap.size < W0.heap.size := by rw [← hW0]; simp
  clear hW0
  refine wp_loop_rounds 1 ?_
  rw [rounds_succ]
  go_wp2_with fail
  refine wp_loop_rounds 1 ?_
  rw [rounds_succ]
  go_wp2_with fail
  go_loop [7] (fun i => ∃ k : Nat, k ≤ l.length ∧ i = .int .i64 k ∧ Hid ((l.take k).any longS = false)) (fun i => l.length - (intOf i).toNat)
  case atStart => exact ⟨0, Nat.zero_le _, rfl, by simp [Hid]⟩
  case round =>
    obtain ⟨k, hk, rfl, HA⟩ := hrel
    by_cases hlt : k < l.length
    · have hlt' : ((k : Nat) : Int) < ((l.length : Nat) : Int) := by omega
      have HT : Hid ((l.take (k + 1)).any longS = ((l.take k).any longS || longS l[k])) := by
        rw [Hid, List.take_succ_eq_append_getElem hlt, List.any_append]
        simp
      have HF : Hid (longS l[k] = true → l.any longS = true) := fun hx => List.any_eq_true.mpr ⟨l[k], List.getElem_mem hlt, hx⟩
      obtain ⟨g, o, rfl, hcs⟩ : ∃ g o, a3 = some ⟨g, o, none⟩ ∧ ∀ i (h : i < l.length), w.cell? ⟨g, o + i * 2, none⟩ = some (.int .i64 l[i].1) ∧ w.cell? ⟨g, o + i * 2 + 1, none⟩ = some (.string l[i].2) := by
        rcases HS.out with h | h
        · subst h; simp at hlt
        · exact h
      have d1 : W0.cell? ⟨g, o + k * 2 + 1, none⟩ = some (.string l[k].2) := HB.out _ _ _ (hcs k hlt).2
      clear hcs HS HB HZ
      by_cases hx : 60 < l[k].2.size
      · have HY := hide (HF.out (by simp only [longS, longT, decide_eq_true hx]))
        have hx' : (60 : Int) < ((l[k].2.size : Nat) : Int) := by omega
        clear HF HT
        go_wp2_with fail
        go_ret
        rw [show (scoreT l) = 2 by rw [scoreT, if_pos (by rw [sizeT, if_neg h0, if_pos (.inr HY.out)]; decide), sizeT, if_neg h0, if_pos (.inr HY.out)]]
        exact ⟨rfl, BW⟩
      · have HY : Hid ((l.take (k + 1)).any longS = false) := by rw [Hid, HT.out, HA.out]; simp only [longS, longT, decide_eq_false hx, Bool.or_self]
        have hx' : ¬ (60 : Int) < ((l[k].2.size : Nat) : Int) := by omega
        clear HF HT
        go_wp2_with fail
        go_round
        case rel => exact ⟨k + 1, by omega, by go_num, HY⟩
        case measure => simp [intOf]; omega
    · have hge : ¬ ((k : Nat) : Int) < ((l.length : Nat) : Int) := by omega
      have HY : Hid (l.any longS = false) := by have := HA.out; rw [List.take_of_length_le (by omega)] at this; exact this
      have HOK : Hid (sizeT l.length (l.any longS) = 0) := show sizeT l.length (l.any longS) = 0 by rw [sizeT, if_neg h0, if_neg (by rw [HY.out]; rintro (h | h); omega; cases h)]
      clear HA
      go_wp2_with fail
      refine wp_loop_rounds 1 ?_
      rw [rounds_succ]
      go_wp2_with fail
      refine wp_loop_rounds 1 ?_
      rw [rounds_succ]
      go_wp2_with fail
      go_loop [10] (fun i => ∃ k : Nat, k ≤ l.length ∧ i = .int .i64 k ∧ Hid ((l.take k).any outS = false)) (fun i => l.length - (intOf i).toNat)
      case atStart => exact ⟨0, Nat.zero_le _, rfl, by simp [Hid]⟩
      case round =>
        obtain ⟨k, hk, rfl, HA⟩ := hrel
        by_cases hlt : k < l.length
        · have hlt' : ((k : Nat) : Int) < ((l.length : Nat) : Int) := by omega
          have HT : Hid ((l.take (k + 1)).any outS = ((l.take k).any outS || outS l[k])) := by
            rw [Hid, List.take_succ_eq_append_getElem hlt, List.any_append]
            simp
          have HF : Hid (outS l[k] = true → l.any outS = true) := fun hx => List.any_eq_true.mpr ⟨l[k], List.getElem_mem hlt, hx⟩
          obtain ⟨g, o, rfl, hcs⟩ : ∃ g o, a3 = some ⟨g, o, none⟩ ∧ ∀ i (h : i < l.length), w.cell? ⟨g, o + i * 2, none⟩ = some (.int .i64 l[i].1) ∧ w.cell? ⟨g, o + i * 2 + 1, none⟩ = some (.string l[i].2) := by
            rcases HS.out with h | h
            · subst h; simp at hlt
            · exact h
          have d0 : W0.cell? ⟨g, o + k * 2, none⟩ = some (.int .i64 l[k].1) := HB.out _ _ _ (hcs k hlt).1
          have HI : Hid (∀ W, Calls Try.prog 46 #[.int .i64 l[k].1] W fun e w' => e = .returned (.bool (!outS l[k])) ∧ w' = W) := fun W => by
            rw [outS_not]
            exact isInt_any _ W
          clear hcs HS HB HZ
          cases hx : outS l[k] with
          | true =>
            have HY := hide (HF.out hx)
            rw [hx] at HI
            clear HF HT hx
            go_wp2_with fail
            refine (HI.out _).mono ?_
            rintro e w1 ⟨rfl, rfl⟩
            go_wp2_with fail
            go_ret
            rw [show scoreT l = 3 by rw [scoreT, if_neg (by simp [HOK.out]), if_pos HY.out]]
            exact ⟨rfl, BW⟩
          | false =>
            have HY : Hid ((l.take (k + 1)).any outS = false) := by rw [Hid, HT.out, HA.out, hx]; rfl
            rw [hx] at HI
            clear HF HT hx
            go_wp2_with fail
            refine (HI.out _).mono ?_
            rintro e w1 ⟨rfl, rfl⟩
            go_wp2_with fail
            go_round
            case rel => exact ⟨k + 1, by omega, by go_num, HY⟩
            case measure => simp [intOf]; omega
        · have hge : ¬ ((k : Nat) : Int) < ((l.length : Nat) : Int) := by omega
          have HY : Hid (l.any outS = false) := by have := HA.out; rw [List.take_of_length_le (by omega)] at this; exact this
          have HIN : Hid (l.any outS = false) := HY
          clear HA HY
          go_wp2_with fail
          go_loopw [11] (fun i wr => ∃ k : Nat, k ≤ l.length ∧ i = .int .i64 k ∧ Below W0.heap.size W0 wr ∧ Hid (((l.map Prod.snd).take k).Nodup)) (fun i _ => l.length - (intOf i).toNat)
          case atStart => exact ⟨0, Nat.zero_le _, rfl, Below.refl _ _, by simp [Hid]⟩
          case round =>
            obtain ⟨k, hk, rfl, hbo, HN⟩ := hrel
            have r4 := (hbo.cell (p := ⟨w.heap.size, 4, none⟩) zW).trans q4
            have BO : Below w.heap.size w wr := BW.trans (hbo.mono BW.size)
            have HB3 : Hid (∀ g o v, w.cell? ⟨g, o, none⟩ = some v → wr.cell? ⟨g, o, none⟩ = some v) := fun g o _ hv => (BO.cell (p := ⟨g, o, none⟩) (World.block_lt_of_cell? _ _ hv)).trans hv
            by_cases hlt : k < l.length
            · have hlt' : ((k : Nat) : Int) < ((l.length : Nat) : Int) := by omega
              go_wp2_with fail
              go_loopw [12] (fun i wi => ∃ m : Nat, m ≤ k ∧ i = .int .i64 m ∧ Below W0.heap.size W0 wi ∧ Hid (∀ j (h : j < m) (h2 : j < l.length), l[j].2 ≠ l[k].2)) (fun i _ => k - (intOf i).toNat)
              case atStart => exact ⟨0, Nat.zero_le _, rfl, hbo, fun j h _ => absurd h (by omega)⟩
              case round =>
                clear r4
                obtain ⟨m, hm, rfl, hbi, HM⟩ := hrel
                have r4 := (hbi.cell (p := ⟨w.heap.size, 4, none⟩) zW).trans q4
                have BI : Below w.heap.size w wr := BW.trans (hbi.mono BW.size)
                have HB4 : Hid (∀ g o v, w.cell? ⟨g, o, none⟩ = some v → wr.cell? ⟨g, o, none⟩ = some v) := fun g o _ hv => (BI.cell (p := ⟨g, o, none⟩) (World.block_lt_of_cell? _ _ hv)).trans hv
                by_cases hmk : m < k
                · have hmk' : ((m : Nat) : Int) < ((k : Nat) : Int) := by omega
                  have hml' : ((m : Nat) : Int) < ((l.length : Nat) : Int) := by omega
                  obtain ⟨g, o, rfl, hcs⟩ : ∃ g o, a3 = some ⟨g, o, none⟩ ∧ ∀ i (h : i < l.length), w.cell? ⟨g, o + i * 2, none⟩ = some (.int .i64 l[i].1) ∧ w.cell? ⟨g, o + i * 2 + 1, none⟩ = some (.string l[i].2) := by
                    rcases HS.out with h | h
                    · subst h; simp at hlt
                    · exact h
                  have d1 : wr.cell? ⟨g, o + m * 2 + 1, none⟩ = some (.string l[m].2) := HB4.out _ _ _ (hcs m (by omega)).2
                  have e1 : wr.cell? ⟨g, o + k * 2 + 1, none⟩ = some (.string l[k].2) := HB4.out _ _ _ (hcs k hlt).2
                  have HX : Hid (l[m].2 = l[k].2 → twiceS l = true) := fun h => twice_of hmk hlt h
                  have HX2 : Hid (l[m].2 ≠ l[k].2 → ∀ j (h : j < m + 1) (h2 : j < l.length), l[j].2 ≠ l[k].2) := fun h j hj h2 => by
                    by_cases e : j = m
                    · subst e; exact h
                    · exact HM.out j (by omega) h2
                  clear hcs HS HB HB3 HB4 HZ HM
                  generalize l[m].2 = X at *
                  generalize hYY : l[k].2 = Y at *
                  by_cases hXY : X = Y
                  · subst hXY
                    have HY := hide (HX.out rfl)
                    clear HX HX2 hYY
                    go_wp2_with fail
                    go_quiet (fail)
                    go_wp2_with fail
                    go_ret
                    rw [show scoreT l = 6 by rw [scoreT, if_neg (by simp [HOK.out]), if_neg (by simp [HIN.out]), if_pos HY.out]]
                    exact ⟨rfl, below_drewN' BI _⟩
                  · have hne : (X.toList == Y.toList) = false := by rw [beq_eq_false_iff_ne]; exact fun e => hXY (bytes_inj' e)
                    have HY := hide (HX2.out hXY)
                    clear HX HX2
                    go_wp2_with fail
                    go_quiet (fail)
                    go_wp2_with fail
                    go_roundw
                    case rel => exact ⟨m + 1, by omega, by go_num, below_drewN' hbi _, HY.out⟩
                    case measure => simp [intOf]; omega
                · have hmk' : ¬ ((m : Nat) : Int) < ((k : Nat) : Int) := by omega
                  have HNN : Hid (((l.map Prod.snd).take (k + 1)).Nodup) := nodup_step hlt HN.out (fun j hj => HM.out j (by omega) (by omega))
                  go_wp2_with fail
                  go_roundw
                  case rel => exact ⟨k + 1, by omega, by go_num, hbi, HNN⟩
                  case measure => simp [intOf]; omega
            · have hge : ¬ ((k : Nat) : Int) < ((l.length : Nat) : Int) := by omega
              have HTW : Hid (twiceS l = false) := by
                have h1 := HN.out
                rw [List.take_of_length_le (by simp; omega)] at h1
                simp [Hid, twiceS, h1]
              clear HN HB3
              go_wp2_with fail
              go_loopw [13] (fun i wr => ∃ j : Nat, 1 ≤ j ∧ j ≤ l.length ∧ i = .int .i64 j ∧ Below W0.heap.size W0 wr ∧ Hid (riseTo cmpS l j = true)) (fun i _ => l.length + 1 - (intOf i).toNat)
              case atStart => exact ⟨1, Nat.le_refl _, by omega, rfl, hbo, rfl⟩
              case round =>
                obtain ⟨j, hj1, hj, rfl, hbr, HA⟩ := hrel
                have r4 := (hbr.cell (p := ⟨w.heap.size, 4, none⟩) zW).trans q4
                have BR : Below w.heap.size w wr := BW.trans (hbr.mono BW.size)
                have HB2 : Hid (∀ g o v, w.cell? ⟨g, o, none⟩ = some v → wr.cell? ⟨g, o, none⟩ = some v) := fun g o _ hv => (BR.cell (p := ⟨g, o, none⟩) (World.block_lt_of_cell? _ _ hv)).trans hv
                have zr : w.heap.size < wr.heap.size := Nat.lt_of_lt_of_le zW hbr.size
                by_cases hjl : j < l.length
                · have hjl' : ((j : Nat) : Int) < ((l.length : Nat) : Int) := by omega
                  obtain ⟨g, o, rfl, hcs⟩ : ∃ g o, a3 = some ⟨g, o, none⟩ ∧ ∀ i (h : i < l.length), w.cell? ⟨g, o + i * 2, none⟩ = some (.int .i64 l[i].1) ∧ w.cell? ⟨g, o + i * 2 + 1, none⟩ = some (.string l[i].2) := by
                    rcases HS.out with h | h
                    · subst h; simp at hjl
                    · exact h
                  obtain ⟨m, rfl⟩ : ∃ m, j = m + 1 := ⟨j - 1, by omega⟩
                  have d0 : wr.cell? ⟨g, o + m * 2, none⟩ = some (.int .i64 l[m].1) := HB2.out _ _ _ (hcs m (by omega)).1
                  have d1 : wr.cell? ⟨g, o + m * 2 + 1, none⟩ = some (.string l[m].2) := HB2.out _ _ _ (hcs m (by omega)).2
                  have e0 : wr.cell? ⟨g, o + (m + 1) * 2, none⟩ = some (.int .i64 l[m + 1].1) := HB2.out _ _ _ (hcs (m + 1) hjl).1
                  have e1 : wr.cell? ⟨g, o + (m + 1) * 2 + 1, none⟩ = some (.string l[m + 1].2) := HB2.out _ _ _ (hcs (m + 1) hjl).2
                  have hgl : g < wr.heap.size := World.block_lt_of_cell? _ _ d0
                  have hmm : IntKind.i64.wrap ((m : Nat) : Int) = ((m : Nat) : Int) := by rw [IntKind.wrap_i64]; omega
                  have hm2 : ((m : Nat) : Int) < ((l.length : Nat) : Int) := by omega
                  have hm3 : ((m : Nat) : Int) + 1 < ((l.length : Nat) : Int) := by omega
                  have hm4 : (0 : Int) ≤ ((m : Nat) : Int) + 1 := by omega
                  have hm5 : (((m : Nat) : Int) + 1).toNat = m + 1 := by omega
                  have HT : Hid (riseTo cmpS l (m + 1 + 1) = decide (cmpS l[m] l[m + 1] < 0)) := by
                    rw [Hid, riseTo_succ cmpS l (m + 1) (by omega), HA.out, Bool.true_and, show m + 1 - 1 = m by omega, getElem!_pos l m (by omega), getElem!_pos l (m + 1) hjl]
                  have HC : Hid (∀ W, Calls Try.prog 47 #[.agg #[.int .i64 l[m].1, .string l[m].2], .agg #[.int .i64 l[m + 1].1, .string l[m + 1].2]] W fun e w' => e = .returned (.bool (decide (cmpS l[m] l[m + 1] < 0))) ∧ Below W.heap.size W w') := fun W => scoreLess_any _ _ W (HZ.out _ (List.getElem_mem _))
                  generalize decide (cmpS l[m] l[m + 1] < 0) = C at *
                  clear hcs HS HB2 HZ
                  generalize l[m].1 = X1 at *
                  generalize l[m].2 = X2 at *
                  generalize l[m + 1].1 = Y1 at *
                  generalize l[m + 1].2 = Y2 at *
                  cases C with
                  | true =>
                    have HY : Hid (riseTo cmpS l (m + 1 + 1) = true) := HT.out
                    go_wp2_with fail
                    go_region_held3 (fun w' => w'.cell? ⟨w.heap.size, 4, none⟩ = some (.slice (some ⟨g, o, none⟩) l.length c3) ∧ w'.cell? ⟨g, o + m * 2, none⟩ = some (.int .i64 X1) ∧ w'.cell? ⟨g, o + m * 2 + 1, none⟩ = some (.string X2) ∧ w'.cell? ⟨g, o + (m + 1) * 2, none⟩ = some (.int .i64 Y1) ∧ w'.cell? ⟨g, o + (m + 1) * 2 + 1, none⟩ = some (.string Y2)) (go_keep)
                      ((go_at_call 47; refine (HC.out _).mono ?_; rintro e w2 ⟨rfl, hb2⟩; have s4 := (hb2.cell (p := ⟨w.heap.size, 4, none⟩) zr).trans r4; have s0 := (hb2.cell (p := ⟨g, o + m * 2, none⟩) hgl).trans d0; have s1 := (hb2.cell (p := ⟨g, o + m * 2 + 1, none⟩) hgl).trans d1; have t0 := (hb2.cell (p := ⟨g, o + (m + 1) * 2, none⟩) hgl).trans e0; have t1 := (hb2.cell (p := ⟨g, o + (m + 1) * 2 + 1, none⟩) hgl).trans e1))
                    all_goals
                      go_wp2_with fail
                      go_roundw
                      case rel => exact ⟨m + 1 + 1, by omega, by omega, by go_num, hbr.drew.trans (hb2.mono hbr.size), HY⟩
                      case measure => simp [intOf]; omega
                  | false =>
                    have HY : Hid (riseTo cmpS l l.length = false) := riseTo_false (k := m + 1 + 1) HT.out (by omega)
                    go_wp2_with fail
                    go_region_held3 (fun w' => w'.cell? ⟨w.heap.size, 4, none⟩ = some (.slice (some ⟨g, o, none⟩) l.length c3) ∧ w'.cell? ⟨g, o + m * 2, none⟩ = some (.int .i64 X1) ∧ w'.cell? ⟨g, o + m * 2 + 1, none⟩ = some (.string X2) ∧ w'.cell? ⟨g, o + (m + 1) * 2, none⟩ = some (.int .i64 Y1) ∧ w'.cell? ⟨g, o + (m + 1) * 2 + 1, none⟩ = some (.string Y2)) (go_keep)
                      ((go_at_call 47; refine (HC.out _).mono ?_; rintro e w2 ⟨rfl, hb2⟩; have s4 := (hb2.cell (p := ⟨w.heap.size, 4, none⟩) zr).trans r4; have s0 := (hb2.cell (p := ⟨g, o + m * 2, none⟩) hgl).trans d0; have s1 := (hb2.cell (p := ⟨g, o + m * 2 + 1, none⟩) hgl).trans d1; have t0 := (hb2.cell (p := ⟨g, o + (m + 1) * 2, none⟩) hgl).trans e0; have t1 := (hb2.cell (p := ⟨g, o + (m + 1) * 2 + 1, none⟩) hgl).trans e1))
                    all_goals
                      go_wp2_with fail
                      go_ret
                      rw [show scoreT l = 4 by rw [scoreT, if_neg (by simp [HOK.out]), if_neg (by simp [HIN.out]), if_neg (by simp [HTW.out]), if_neg (by rw [HY.out]; decide)]]
                      exact ⟨rfl, BR.drew.trans (hb2.mono BR.size)⟩
                · have hjl' : ¬ ((j : Nat) : Int) < ((l.length : Nat) : Int) := by omega
                  have HY : Hid (riseTo cmpS l l.length = true) := by have : j = l.length := by omega
                                                                      rw [← this]; exact HA.out
                  go_wp2_with fail
                  go_ret
                  rw [show scoreT l = 0 by rw [scoreT, if_neg (by simp [HOK.out]), if_neg (by simp [HIN.out]), if_neg (by simp [HTW.out]), if_pos HY.out]]
                  exact ⟨rfl, BR⟩
end Go.Proofs.Ytolpmaapdkhigac
