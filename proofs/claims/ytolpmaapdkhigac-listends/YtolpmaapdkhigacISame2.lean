/- WALK of whether items are the same. -/
import Derived.Test.YtolpmaapdkhigacISame
import Derived.BigQuiet
import Derived.Handy
namespace Go.Proofs.Ytolpmaapdkhigac
open Go.RowKit

def sameI (x y : Itm) : Bool := decide (x.k = y.k ∧ x.t = y.t ∧ x.l = y.l ∧ x.p = y.p ∧ x.s = y.s)

set_option maxRecDepth 100000 in
set_option maxHeartbeats 4000000 in
theorem sameItem_any (v u : Value) (x y : Itm) (w : World) (hx : ItemIs w v x) (hy : ItemIs w u y) :
    Calls Try.prog 19 #[v, u] w fun e w' => e = .returned (.bool (sameI x y)) ∧ Below w.heap.size w w' := by
  obtain ⟨⟨al1, cl1, ap1, cp1, as1, cs1, rfl, L1, P1, S1⟩, -, -, -, -, ll1, pl1, sl1⟩ := hx
  obtain ⟨⟨al2, cl2, ap2, cp2, as2, cs2, rfl, L2, P2, S2⟩, -, -, -, -, ll2, pl2, sl2⟩ := hy
  obtain ⟨k1, t1, l1, p1, s1⟩ := x
  obtain ⟨k2, t2, l2, p2, s2⟩ := y
  simp only [sameI] at *
  have HS : Hid (∀ W, Below w.heap.size w W → Calls Try.prog 18 #[.slice al1 l1.length cl1, .slice al2 l2.length cl2] W fun e w' => e = .returned (.bool (decide (l1 = l2))) ∧ Below W.heap.size W w') := fun W hW => sameT_any _ _ _ _ _ _ W (L1.below hW) (L2.below hW) ll2
  clear L1 L2
  replace P1 := hide P1
  replace P2 := hide P2
  replace S1 := hide S1
  replace S2 := hide S2
  by_cases hk : k1 = k2
  rotate_left
  · have hk' : (k1 == k2) = false := by rw [beq_eq_false_iff_ne]; exact hk
    rw [decide_eq_false (show ¬ (k1 = k2 ∧ t1 = t2 ∧ l1 = l2 ∧ p1 = p2 ∧ s1 = s2) from fun h => hk h.1)]
    go_enter Try.func19, Try.ntmps19
    go_wp2_with fail
    go_ret
    exact ⟨rfl, ((Below.refl _ w).alloc (Nat.le_refl _) _).alloc (by simp) _⟩
  subst hk
  by_cases ht : t1 = t2
  rotate_left
  · have ht' : (t1.toList == t2.toList) = false := by rw [beq_eq_false_iff_ne]; exact fun e => ht (bytes_inj e)
    rw [decide_eq_false (show ¬ (k1 = k1 ∧ t1 = t2 ∧ l1 = l2 ∧ p1 = p2 ∧ s1 = s2) from fun h => ht h.2.1)]
    go_enter Try.func19, Try.ntmps19
    go_wp2_with fail
    go_ret
    exact ⟨rfl, ((Below.refl _ w).alloc (Nat.le_refl _) _).alloc (by simp) _⟩
  subst ht
  by_cases hl : l1 = l2
  rotate_left
  · rw [decide_eq_false hl] at HS
    rw [decide_eq_false (show ¬ (k1 = k1 ∧ t1 = t1 ∧ l1 = l2 ∧ p1 = p2 ∧ s1 = s2) from fun h => hl h.2.2.1)]
    go_enter Try.func19, Try.ntmps19
    go_wp2_with fail
    refine (HS.out _ (((Below.refl _ w).alloc (Nat.le_refl _) _).alloc (by simp) _)).mono ?_
    rintro e w1 ⟨rfl, hb1⟩
    obtain ⟨hc1, hf1⟩ := bcell hb1
    have hz1 : w.heap.size + 1 < w1.heap.size := by have := hb1.size; simp at this; omega
    have B1 : Below w.heap.size w w1 := (((Below.refl _ w).alloc (Nat.le_refl _) _).alloc (by simp) _).trans (hb1.mono (by simp; omega))
    go_wp2_with fail
    go_ret
    exact ⟨rfl, B1⟩
  subst hl
  rw [decide_eq_true (rfl : l1 = l1)] at HS
  by_cases hlp : p1.length = p2.length
  rotate_left
  · have hlp' : (((p1.length : Nat) : Int) == ((p2.length : Nat) : Int)) = false := by rw [beq_eq_false_iff_ne]; omega
    rw [decide_eq_false (show ¬ (k1 = k1 ∧ t1 = t1 ∧ l1 = l1 ∧ p1 = p2 ∧ s1 = s2) from fun h => hlp (by rw [h.2.2.2.1]))]
    go_enter Try.func19, Try.ntmps19
    go_wp2_with fail
    refine (HS.out _ (((Below.refl _ w).alloc (Nat.le_refl _) _).alloc (by simp) _)).mono ?_
    rintro e w1 ⟨rfl, hb1⟩
    obtain ⟨hc1, hf1⟩ := bcell hb1
    have hz1 : w.heap.size + 1 < w1.heap.size := by have := hb1.size; simp at this; omega
    have B1 : Below w.heap.size w w1 := (((Below.refl _ w).alloc (Nat.le_refl _) _).alloc (by simp) _).trans (hb1.mono (by simp; omega))
    go_wp2_with fail
    go_ret
    exact ⟨rfl, B1⟩
  by_cases hls : s1.length = s2.length
  rotate_left
  · have hls' : (((s1.length : Nat) : Int) == ((s2.length : Nat) : Int)) = false := by rw [beq_eq_false_iff_ne]; omega
    rw [hlp]
    rw [decide_eq_false (show ¬ (k1 = k1 ∧ t1 = t1 ∧ l1 = l1 ∧ p1 = p2 ∧ s1 = s2) from fun h => hls (by rw [h.2.2.2.2]))]
    go_enter Try.func19, Try.ntmps19
    go_wp2_with fail
    refine (HS.out _ (((Below.refl _ w).alloc (Nat.le_refl _) _).alloc (by simp) _)).mono ?_
    rintro e w1 ⟨rfl, hb1⟩
    obtain ⟨hc1, hf1⟩ := bcell hb1
    have hz1 : w.heap.size + 1 < w1.heap.size := by have := hb1.size; simp at this; omega
    have B1 : Below w.heap.size w w1 := (((Below.refl _ w).alloc (Nat.le_refl _) _).alloc (by simp) _).trans (hb1.mono (by simp; omega))
    go_wp2_with fail
    go_ret
    exact ⟨rfl, B1⟩
  rw [hlp, hls]
  generalize hR : decide (k1 = k1 ∧ t1 = t1 ∧ l1 = l1 ∧ p1 = p2 ∧ s1 = s2) = R
  have HR := hide hR
  clear hR
  go_enter Try.func19, Try.ntmps19
  go_wp2_with fail
  refine (HS.out _ (((Below.refl _ w).alloc (Nat.le_refl _) _).alloc (by simp) _)).mono ?_
  rintro e w1 ⟨rfl, hb1⟩
  obtain ⟨hc1, hf1⟩ := bcell hb1
  have hz1 : w.heap.size + 1 < w1.heap.size := by have := hb1.size; simp at this; omega
  have B1 : Below w.heap.size w w1 := (((Below.refl _ w).alloc (Nat.le_refl _) _).alloc (by simp) _).trans (hb1.mono (by simp; omega))
  go_wp2_with fail
  go_loopw [5] (fun i wr => ∃ k : Nat, k ≤ p2.length ∧ i = .int .i64 k ∧ Below w1.heap.size w1 wr ∧ Hid (p1.take k = p2.take k)) (fun i _ => p2.length - (intOf i).toNat)
  case atStart => exact ⟨0, Nat.zero_le _, rfl, Below.refl _ _, by simp [Hid]⟩
  case round =>
    obtain ⟨k, hk, rfl, hbrP, HE⟩ := hrel
    have q1 : wr.cell? ⟨w.heap.size, 3, none⟩ = some (.slice ap1 p2.length cp1) := ((hbrP.cell (p := ⟨w.heap.size, 3, none⟩) (by simp only; omega)).trans (hc1 _ _ (by simp; omega))).trans (by simp [go_sem])
    have q2 : wr.cell? ⟨w.heap.size + 1, 3, none⟩ = some (.slice ap2 p2.length cp2) := ((hbrP.cell (p := ⟨w.heap.size + 1, 3, none⟩) (by simp only; omega)).trans (hc1 _ _ (by simp))).trans (by simp [go_sem])
    have hBrP : Below w.heap.size w wr := B1.trans (hbrP.mono B1.size)
    by_cases hlt : k < p2.length
    · have hltx : k < p1.length := by omega
      obtain ⟨g1, o1, rfl, e1⟩ : ∃ g o, ap1 = some ⟨g, o, none⟩ ∧ ∀ i (h : i < p1.length), w.cell? ⟨g, o + i * 2, none⟩ = some (.string p1[i].1) ∧ w.cell? ⟨g, o + i * 2 + 1, none⟩ = some (.string p1[i].2) := by
        rcases P1.out with h | h
        · rw [h] at hltx; simp at hltx
        · exact h
      obtain ⟨g2, o2, rfl, e2⟩ : ∃ g o, ap2 = some ⟨g, o, none⟩ ∧ ∀ i (h : i < p2.length), w.cell? ⟨g, o + i * 2, none⟩ = some (.string p2[i].1) ∧ w.cell? ⟨g, o + i * 2 + 1, none⟩ = some (.string p2[i].2) := by
        rcases P2.out with h | h
        · rw [h] at hlt; simp at hlt
        · exact h
      have HB : Hid (∀ g o v, w.cell? ⟨g, o, none⟩ = some v → wr.cell? ⟨g, o, none⟩ = some v) := fun g o _ hv => (hBrP.cell (p := ⟨g, o, none⟩) (World.block_lt_of_cell? _ _ hv)).trans hv
      have x1 : wr.cell? ⟨g1, o1 + k * 2, none⟩ = some (.string p1[k].1) := HB.out _ _ _ (e1 k hltx).1
      have x2 : wr.cell? ⟨g1, o1 + k * 2 + 1, none⟩ = some (.string p1[k].2) := HB.out _ _ _ (e1 k hltx).2
      have y1 : wr.cell? ⟨g2, o2 + k * 2, none⟩ = some (.string p2[k].1) := HB.out _ _ _ (e2 k hlt).1
      have y2 : wr.cell? ⟨g2, o2 + k * 2 + 1, none⟩ = some (.string p2[k].2) := HB.out _ _ _ (e2 k hlt).2
      have HT : Hid (p1[k] = p2[k] → p1.take (k + 1) = p2.take (k + 1)) := fun heq => by
        rw [List.take_succ_eq_append_getElem hltx, List.take_succ_eq_append_getElem hlt, HE.out, heq]
      have HF : Hid (p1[k] ≠ p2[k] → p1 ≠ p2) := fun hne e => hne (by subst e; rfl)
      clear e1 e2 HB HS 
      generalize p1[k] = X at *
      generalize p2[k] = Y at *
      obtain ⟨X1, X2⟩ := X
      obtain ⟨Y1, Y2⟩ := Y
      by_cases hX1 : X1 = Y1
      · subst hX1
        by_cases hX2 : X2 = Y2
        · subst hX2
          have HT' := hide (HT.out rfl)
          clear HT HF
          go_wp2_with fail
          go_quiet (fail)
          have hb2 : Below w1.heap.size w1 (wr.drewN nq) := below_drewN hbrP nq
          go_wp2_with fail
          go_roundw
          case rel => exact ⟨k + 1, by omega, by go_num, hb2, HT'⟩
          case measure => simp [intOf]; omega
        · have HF' := hide (HF.out (fun e => hX2 (by injection e)))
          have hne : (X2.toList == Y2.toList) = false := by rw [beq_eq_false_iff_ne]; exact fun e => hX2 (bytes_inj e)
          clear HT HF
          go_wp2_with fail
          go_quiet (fail)
          have hb2 : Below w.heap.size w (wr.drewN nq) := below_drewN hBrP nq
          go_wp2_with fail
          go_ret
          rw [show R = false by rw [← HR.out]; exact decide_eq_false (fun h => HF'.out h.2.2.2.1)]
          exact ⟨rfl, hb2⟩
      · have HF' := hide (HF.out (fun e => hX1 (by injection e)))
        have hne : (X1.toList == Y1.toList) = false := by rw [beq_eq_false_iff_ne]; exact fun e => hX1 (bytes_inj e)
        clear HT HF
        go_wp2_with fail
        go_quiet (fail)
        have hb2 : Below w.heap.size w (wr.drewN nq) := below_drewN hBrP nq
        go_wp2_with fail
        go_ret
        rw [show R = false by rw [← HR.out]; exact decide_eq_false (fun h => HF'.out h.2.2.2.1)]
        exact ⟨rfl, hb2⟩
    · have HQP : Hid (p1 = p2) := by
        have h1 := HE.out
        rw [List.take_of_length_le (by omega), List.take_of_length_le (by omega)] at h1
        exact h1
      go_wp2_with fail
      go_loopw [6] (fun i wr => ∃ k : Nat, k ≤ s2.length ∧ i = .int .i64 k ∧ Below w1.heap.size w1 wr ∧ Hid (s1.take k = s2.take k)) (fun i _ => s2.length - (intOf i).toNat)
      case atStart => exact ⟨0, Nat.zero_le _, rfl, hbrP, by simp [Hid]⟩
      case round =>
        obtain ⟨k, hk, rfl, hbrS, HE⟩ := hrel
        have q1 : wr.cell? ⟨w.heap.size, 4, none⟩ = some (.slice as1 s2.length cs1) := ((hbrS.cell (p := ⟨w.heap.size, 4, none⟩) (by simp only; omega)).trans (hc1 _ _ (by simp; omega))).trans (by simp [go_sem])
        have q2 : wr.cell? ⟨w.heap.size + 1, 4, none⟩ = some (.slice as2 s2.length cs2) := ((hbrS.cell (p := ⟨w.heap.size + 1, 4, none⟩) (by simp only; omega)).trans (hc1 _ _ (by simp))).trans (by simp [go_sem])
        have hBrS : Below w.heap.size w wr := B1.trans (hbrS.mono B1.size)
        by_cases hlt : k < s2.length
        · have hltx : k < s1.length := by omega
          obtain ⟨g1, o1, rfl, e1⟩ : ∃ g o, as1 = some ⟨g, o, none⟩ ∧ ∀ i (h : i < s1.length), w.cell? ⟨g, o + i * 2, none⟩ = some (.int .i64 s1[i].1) ∧ w.cell? ⟨g, o + i * 2 + 1, none⟩ = some (.string s1[i].2) := by
            rcases S1.out with h | h
            · rw [h] at hltx; simp at hltx
            · exact h
          obtain ⟨g2, o2, rfl, e2⟩ : ∃ g o, as2 = some ⟨g, o, none⟩ ∧ ∀ i (h : i < s2.length), w.cell? ⟨g, o + i * 2, none⟩ = some (.int .i64 s2[i].1) ∧ w.cell? ⟨g, o + i * 2 + 1, none⟩ = some (.string s2[i].2) := by
            rcases S2.out with h | h
            · rw [h] at hlt; simp at hlt
            · exact h
          have HB : Hid (∀ g o v, w.cell? ⟨g, o, none⟩ = some v → wr.cell? ⟨g, o, none⟩ = some v) := fun g o _ hv => (hBrS.cell (p := ⟨g, o, none⟩) (World.block_lt_of_cell? _ _ hv)).trans hv
          have x1 : wr.cell? ⟨g1, o1 + k * 2, none⟩ = some (.int .i64 s1[k].1) := HB.out _ _ _ (e1 k hltx).1
          have x2 : wr.cell? ⟨g1, o1 + k * 2 + 1, none⟩ = some (.string s1[k].2) := HB.out _ _ _ (e1 k hltx).2
          have y1 : wr.cell? ⟨g2, o2 + k * 2, none⟩ = some (.int .i64 s2[k].1) := HB.out _ _ _ (e2 k hlt).1
          have y2 : wr.cell? ⟨g2, o2 + k * 2 + 1, none⟩ = some (.string s2[k].2) := HB.out _ _ _ (e2 k hlt).2
          have HT : Hid (s1[k] = s2[k] → s1.take (k + 1) = s2.take (k + 1)) := fun heq => by
            rw [List.take_succ_eq_append_getElem hltx, List.take_succ_eq_append_getElem hlt, HE.out, heq]
          have HF : Hid (s1[k] ≠ s2[k] → s1 ≠ s2) := fun hne e => hne (by subst e; rfl)
          clear e1 e2 HB HS 
          generalize s1[k] = X at *
          generalize s2[k] = Y at *
          obtain ⟨X1, X2⟩ := X
          obtain ⟨Y1, Y2⟩ := Y
          by_cases hX1 : X1 = Y1
          · subst hX1
            by_cases hX2 : X2 = Y2
            · subst hX2
              have HT' := hide (HT.out rfl)
              clear HT HF
              go_wp2_with fail
              go_quiet (fail)
              have hb2 : Below w1.heap.size w1 (wr.drewN nq) := below_drewN hbrS nq
              go_wp2_with fail
              go_roundw
              case rel => exact ⟨k + 1, by omega, by go_num, hb2, HT'⟩
              case measure => simp [intOf]; omega
            · have HF' := hide (HF.out (fun e => hX2 (by injection e)))
              have hne : (X2.toList == Y2.toList) = false := by rw [beq_eq_false_iff_ne]; exact fun e => hX2 (bytes_inj e)
              clear HT HF
              go_wp2_with fail
              go_quiet (fail)
              have hb2 : Below w.heap.size w (wr.drewN nq) := below_drewN hBrS nq
              go_wp2_with fail
              go_ret
              rw [show R = false by rw [← HR.out]; exact decide_eq_false (fun h => HF'.out h.2.2.2.2)]
              exact ⟨rfl, hb2⟩
          · have HF' := hide (HF.out (fun e => hX1 (by injection e)))
            have hne : (X1 == Y1) = false := by rw [beq_eq_false_iff_ne]; exact fun e => hX1 e
            clear HT HF
            go_wp2_with fail
            go_quiet (fail)
            have hb2 : Below w.heap.size w (wr.drewN nq) := below_drewN hBrS nq
            go_wp2_with fail
            go_ret
            rw [show R = false by rw [← HR.out]; exact decide_eq_false (fun h => HF'.out h.2.2.2.2)]
            exact ⟨rfl, hb2⟩
        · have HQS : Hid (s1 = s2) := by
            have h1 := HE.out
            rw [List.take_of_length_le (by omega), List.take_of_length_le (by omega)] at h1
            exact h1
          go_wp2_with fail
          go_ret
          rw [show R = true by rw [← HR.out]; exact decide_eq_true ⟨by trivial, by trivial, by trivial, HQP.out, HQS.out⟩]
          exact ⟨rfl, hBrS⟩
end Go.Proofs.Ytolpmaapdkhigac
