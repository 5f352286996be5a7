/- WALK of the check of an item, whole. -/
import Derived.Test.YtolpmaapdkhigacIChk10
import Derived.Handy
namespace Go.Proofs.Ytolpmaapdkhigac
open Go.RowKit

set_option maxRecDepth 100000 in
set_option maxHeartbeats 4000000 in
theorem check_any (v : Value) (x : Itm) (w : World) (h : ItemIs w v x) :
    Calls Try.prog 48 #[v] w fun e w' => e = .returned (.int .i64 (chkI x)) ∧ Below w.heap.size w w' := by
  obtain ⟨⟨a1, c1, a2, c2, a3, c3, rfl, h1, h2, h3⟩, tz, lz, pz, sz, ll, pl, sl⟩ := h
  obtain ⟨k, t, l, p, s⟩ := x
  simp only at *
  by_cases h0 : k < 1 ∨ 5 < k
  · have hp : chkI ⟨k, t, l, p, s⟩ = 7 := by rw [chkI, if_pos h0]
    rw [hp]
    clear hp
    rcases h0 with h0 | h0
    · go_enter Try.func48, Try.ntmps48
      go_wp2_with fail
      go_ret
      exact ⟨rfl, (Below.refl _ _).alloc (Nat.le_refl _) _⟩
    · have h0' : ¬ k < 1 := by omega
      go_enter Try.func48, Try.ntmps48
      go_wp2_with fail
      go_ret
      exact ⟨rfl, (Below.refl _ _).alloc (Nat.le_refl _) _⟩
  have hk1 : ¬ k < 1 := by omega
  have hk5 : ¬ 5 < k := by omega
  have HO : Hid (∀ W, Calls Try.prog 50 #[.agg #[.int .i64 k, .string t, .slice a1 l.length c1, .slice a2 p.length c2, .slice a3 s.length c3]] W fun e w' => e = .returned (.bool (otherI ⟨k, t, l, p, s⟩)) ∧ Below W.heap.size W w') := fun W => hasOther_any k t a1 a2 a3 l.length p.length s.length c1 c2 c3 W
  cases ho : otherI ⟨k, t, l, p, s⟩ with
  | true =>
    have hp : chkI ⟨k, t, l, p, s⟩ = 1 := by rw [chkI, if_neg h0, if_pos ho]
    rw [hp]
    rw [ho] at HO
    clear hp h0 ho
    go_enter Try.func48, Try.ntmps48
    go_wp2_with fail
    refine (HO.out _).mono ?_
    rintro e w1 ⟨rfl, hb1⟩
    go_wp2_with fail
    go_ret
    exact ⟨rfl, ((Below.refl _ w).alloc (Nat.le_refl _) _).trans (hb1.mono (by simp))⟩
  | false =>
    have hp : chkI ⟨k, t, l, p, s⟩ = if k = 2 then sizeT l.length (l.any longT) else if k = 3 then setT l else if k = 4 then hashT p else if k = 5 then scoreT s else if longT t = true then 2 else 0 := by
      rw [chkI, if_neg h0, if_neg (by rw [ho]; decide)]
    rw [hp]
    rw [ho] at HO
    clear hp h0 ho
    have hkk : k = 1 ∨ k = 2 ∨ k = 3 ∨ k = 4 ∨ k = 5 := by omega
    have H1 : Hid (TextsAt w a1 l) := h1
    have H2 : Hid (PairsAt w a2 p) := h2
    have H3 : Hid (ScoresAt w a3 s) := h3
    have HZ : Hid (∀ t ∈ s, t.2.size ≤ maxLen) := sz
    clear h1 h2 h3 lz pz sz hk1 hk5
    rcases hkk with rfl | rfl | rfl | rfl | rfl
    · rw [if_neg (by decide), if_neg (by decide), if_neg (by decide), if_neg (by decide)]
      have HL : Hid (∀ W, Calls Try.prog 52 #[.string t] W fun e w' => e = .returned (.bool (longT t)) ∧ w' = W) := fun W => isLong_any t W
      generalize longT t = B at *
      go_enter Try.func48, Try.ntmps48
      go_wp2_with fail
      refine (HO.out _).mono ?_
      rintro e w1 ⟨rfl, hb1⟩
      obtain ⟨hc, hf⟩ := bcell hb1
      have hz : w.heap.size < w1.heap.size := by have := hb1.size; simp at this; omega
      have hB1 : Below w.heap.size w w1 := ((Below.refl _ w).alloc (Nat.le_refl _) _).trans (hb1.mono (by simp))
      go_wp2_with fail
      refine (HL.out _).mono ?_
      rintro e w2 ⟨rfl, rfl⟩
      cases B with
      | true =>
        go_wp2_with fail
        go_ret
        exact ⟨rfl, hB1⟩
      | false =>
        go_wp2_with fail
        go_ret
        exact ⟨rfl, hB1⟩
    · rw [if_pos rfl]
      have HC : Hid (∀ W, Below w.heap.size w W → Calls Try.prog 51 #[.slice a1 l.length c1, .func (.func 52) #[] #[]] W fun e w' => e = .returned (.int .i64 (sizeT l.length (l.any longT))) ∧ Below W.heap.size W w') := fun W hW => checkSizeT_any a1 c1 l W (H1.out.below hW)
      generalize sizeT l.length (l.any longT) = Z at *
      go_enter Try.func48, Try.ntmps48
      go_wp2_with fail
      refine (HO.out _).mono ?_
      rintro e w1 ⟨rfl, hb1⟩
      obtain ⟨hc, hf⟩ := bcell hb1
      have hz : w.heap.size < w1.heap.size := by have := hb1.size; simp at this; omega
      have hB1 : Below w.heap.size w w1 := ((Below.refl _ w).alloc (Nat.le_refl _) _).trans (hb1.mono (by simp))
      go_wp2_with fail
      refine (HC.out w1 hB1).mono ?_
      rintro e w2 ⟨rfl, hb2⟩
      go_wp2_with fail
      go_ret
      exact ⟨rfl, hB1.trans (hb2.mono hB1.size)⟩
    · rw [if_neg (by decide), if_pos rfl]
      have HC : Hid (∀ W, Below w.heap.size w W → Calls Try.prog 53 #[.slice a1 l.length c1] W fun e w' => e = .returned (.int .i64 (setT l)) ∧ Below W.heap.size W w') := fun W hW => checkSet_any a1 c1 l W (H1.out.below hW)
      generalize setT l = Z at *
      go_enter Try.func48, Try.ntmps48
      go_wp2_with fail
      refine (HO.out _).mono ?_
      rintro e w1 ⟨rfl, hb1⟩
      obtain ⟨hc, hf⟩ := bcell hb1
      have hz : w.heap.size < w1.heap.size := by have := hb1.size; simp at this; omega
      have hB1 : Below w.heap.size w w1 := ((Below.refl _ w).alloc (Nat.le_refl _) _).trans (hb1.mono (by simp))
      go_wp2_with fail
      refine (HC.out w1 hB1).mono ?_
      rintro e w2 ⟨rfl, hb2⟩
      go_wp2_with fail
      go_ret
      exact ⟨rfl, hB1.trans (hb2.mono hB1.size)⟩
    · rw [if_neg (by decide), if_neg (by decide), if_pos rfl]
      have HC : Hid (∀ W, Below w.heap.size w W → Calls Try.prog 54 #[.slice a2 p.length c2] W fun e w' => e = .returned (.int .i64 (hashT p)) ∧ Below W.heap.size W w') := fun W hW => checkHash_any a2 c2 p W (H2.out.below hW)
      generalize hashT p = Z at *
      go_enter Try.func48, Try.ntmps48
      go_wp2_with fail
      refine (HO.out _).mono ?_
      rintro e w1 ⟨rfl, hb1⟩
      obtain ⟨hc, hf⟩ := bcell hb1
      have hz : w.heap.size < w1.heap.size := by have := hb1.size; simp at this; omega
      have hB1 : Below w.heap.size w w1 := ((Below.refl _ w).alloc (Nat.le_refl _) _).trans (hb1.mono (by simp))
      go_wp2_with fail
      refine (HC.out w1 hB1).mono ?_
      rintro e w2 ⟨rfl, hb2⟩
      go_wp2_with fail
      go_ret
      exact ⟨rfl, hB1.trans (hb2.mono hB1.size)⟩
    · rw [if_neg (by decide), if_neg (by decide), if_neg (by decide), if_pos rfl]
      have HC : Hid (∀ W, Below w.heap.size w W → Calls Try.prog 55 #[.slice a3 s.length c3] W fun e w' => e = .returned (.int .i64 (scoreT s)) ∧ Below W.heap.size W w') := fun W hW => checkScores_any a3 c3 s W (H3.out.below hW) HZ.out
      generalize scoreT s = Z at *
      go_enter Try.func48, Try.ntmps48
      go_wp2_with fail
      refine (HO.out _).mono ?_
      rintro e w1 ⟨rfl, hb1⟩
      obtain ⟨hc, hf⟩ := bcell hb1
      have hz : w.heap.size < w1.heap.size := by have := hb1.size; simp at this; omega
      have hB1 : Below w.heap.size w w1 := ((Below.refl _ w).alloc (Nat.le_refl _) _).trans (hb1.mono (by simp))
      go_wp2_with fail
      refine (HC.out w1 hB1).mono ?_
      rintro e w2 ⟨rfl, hb2⟩
      go_wp2_with fail
      go_ret
      exact ⟨rfl, hB1.trans (hb2.mono hB1.size)⟩
end Go.Proofs.Ytolpmaapdkhigac
