/- WALKS of whether texts, and items, are the same. -/
import Derived.Test.YtolpmaapdkhigacIChk10
import Derived.BigQuiet
import Derived.Handy
namespace Go.Proofs.Ytolpmaapdkhigac
open Go.RowKit

theorem below_drewN {B : Nat} {a w : World} (h : Below B a w) (n : Nat) : Below B a (w.drewN n) := ⟨h.os, h.tape, h.output, h.size, h.block⟩
theorem bytes_inj {a b : ByteArray} (h : a.toList = b.toList) : a = b := by
  rw [ByteArray.toList_eq, ByteArray.toList_eq] at h
  cases a; cases b
  congr 1
  exact Array.toList_inj.1 h

set_option maxRecDepth 100000 in
set_option maxHeartbeats 1000000 in
theorem sameT_any (a b : Option Addr) (c d : Nat) (xs ys : List ByteArray) (w : World) (hx : TextsAt w a xs) (hy : TextsAt w b ys) (hmax : ys.length ≤ 281474976710656) :
    Calls Try.prog 18 #[.slice a xs.length c, .slice b ys.length d] w fun e w' => e = .returned (.bool (decide (xs = ys))) ∧ Below w.heap.size w w' := by
  by_cases hl : xs.length = ys.length
  · have HX := hide hx
    have HY := hide hy
    clear hx hy
    rw [hl]
    go_enter Try.func18, Try.ntmps18
    have h0 : ((ys.length : Int) == ys.length) = true := by simp
    go_wp2_with fail
    go_loopw [5] (fun i wr => ∃ k : Nat, k ≤ ys.length ∧ i = .int .i64 k ∧ Below w.heap.size w wr ∧ Hid (xs.take k = ys.take k)) (fun i _ => ys.length - (intOf i).toNat)
    case atStart => exact ⟨0, Nat.zero_le _, rfl, Below.refl _ _, by simp [Hid]⟩
    case round =>
      obtain ⟨k, hk, rfl, hb, HE⟩ := hrel
      by_cases hlt : k < ys.length
      · have hltx : k < xs.length := by omega
        obtain ⟨g1, o1, rfl, hc1⟩ : ∃ g o, a = some ⟨g, o, none⟩ ∧ ∀ i (h : i < xs.length), w.cell? ⟨g, o + i, none⟩ = some (.string xs[i]) := by
          rcases HX.out with h | h
          · subst h; simp at hltx
          · exact h
        obtain ⟨g2, o2, rfl, hc2⟩ : ∃ g o, b = some ⟨g, o, none⟩ ∧ ∀ i (h : i < ys.length), w.cell? ⟨g, o + i, none⟩ = some (.string ys[i]) := by
          rcases HY.out with h | h
          · subst h; simp at hlt
          · exact h
        have HB : Hid (∀ g o v, w.cell? ⟨g, o, none⟩ = some v → wr.cell? ⟨g, o, none⟩ = some v) := fun g o _ hv => (hb.cell (p := ⟨g, o, none⟩) (World.block_lt_of_cell? _ _ hv)).trans hv
        have e1 : wr.cell? ⟨g1, o1 + k, none⟩ = some (.string xs[k]) := HB.out _ _ _ (hc1 k hltx)
        have e2 : wr.cell? ⟨g2, o2 + k, none⟩ = some (.string ys[k]) := HB.out _ _ _ (hc2 k hlt)
        have HT : Hid (xs[k] = ys[k] → xs.take (k + 1) = ys.take (k + 1)) := fun heq => by
          rw [List.take_succ_eq_append_getElem hltx, List.take_succ_eq_append_getElem hlt, HE.out, heq]
        have HF : Hid (xs[k] ≠ ys[k] → decide (xs = ys) = false) := fun hne => decide_eq_false (fun e => hne (by subst e; rfl))
        clear hc1 hc2 HX HY HB
        generalize xs[k] = X at *
        generalize ys[k] = Y at *
        by_cases hXY : X = Y
        · subst hXY
          have HT' := hide (HT.out rfl)
          clear HT HF
          go_wp2_with fail
          go_quiet (fail)
          have hb2 : Below w.heap.size w (wr.drewN nq) := below_drewN hb nq
          go_wp2_with fail
          go_roundw
          case rel => exact ⟨k + 1, by omega, by go_num, hb2, HT'⟩
          case measure => simp [intOf]; omega
        · have HF' := hide (HF.out hXY)
          have hne : (X.toList == Y.toList) = false := by rw [beq_eq_false_iff_ne]; exact fun e => hXY (bytes_inj e)
          clear HT HF
          go_wp2_with fail
          go_quiet (fail)
          have hb2 : Below w.heap.size w (wr.drewN nq) := below_drewN hb nq
          go_wp2_with fail
          go_ret
          rw [HF'.out]
          exact ⟨rfl, hb2⟩
      · have hd : Hid (decide (xs = ys) = true) := by
          have h1 := HE.out
          rw [List.take_of_length_le (by omega), List.take_of_length_le (by omega)] at h1
          exact decide_eq_true h1
        go_wp2_with fail
        go_ret
        rw [hd.out]
        exact ⟨rfl, hb⟩
  · have hd : decide (xs = ys) = false := decide_eq_false (fun e => hl (by rw [e]))
    have h0 : ((xs.length : Int) == ys.length) = false := by rw [beq_eq_false_iff_ne]; omega
    rw [hd]
    clear hx hy hd
    go_enter Try.func18, Try.ntmps18
    go_wp2_with fail
    go_ret
    exact ⟨rfl, Below.refl _ _⟩
end Go.Proofs.Ytolpmaapdkhigac
