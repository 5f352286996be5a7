/- WALK of common.Check. -/
import Derived.Test.YtolpmaapdkhigacComR
import Derived.Handy
namespace Go.Proofs.Ytolpmaapdkhigac
open Go.RowKit

set_option maxRecDepth 100000 in
set_option maxHeartbeats 4000000 in
theorem common_any (v : Value) (x : Itm) (kind : Int) (w : World) (h : ItemIs w v x) :
    Calls Try.prog 21 #[v, .int .i64 kind] w fun e w' => e = .returned (.int .i64 (asI x kind)) ∧ Below w.heap.size w w' := by
  have HI := hide h
  obtain ⟨⟨a1, c1, a2, c2, a3, c3, rfl, -, -, -⟩, -, -, -, -, -, -, -⟩ := h
  have HN : Hid (∀ W, Calls Try.prog 37 #[.agg #[.int .i64 x.k, .string x.t, .slice a1 x.l.length c1, .slice a2 x.p.length c2, .slice a3 x.s.length c3]] W fun e w' => e = .returned (.bool x.isNone) ∧ Below W.heap.size W w') := fun W => by rw [← isNone_len]; exact isNothing_any x.k x.t a1 a2 a3 x.l.length x.p.length x.s.length c1 c2 c3 W
  have HC : Hid (∀ W, Below w.heap.size w W → Calls Try.prog 36 #[.agg #[.int .i64 x.k, .string x.t, .slice a1 x.l.length c1, .slice a2 x.p.length c2, .slice a3 x.s.length c3]] W fun e w' => e = .returned (.int .i64 (rightI x)) ∧ Below W.heap.size W w') := fun W hW => right_any _ x W (HI.out.below hW)
  clear HI
  rw [asI_right]
  generalize rightI x = C at *
  by_cases h0 : C = 0
  · subst h0
    rw [if_neg (by simp)]
    cases hn : x.isNone with
    | true =>
      rw [hn] at HN
      rw [if_pos rfl]
      clear hn
      generalize x.l.length = n1 at *
      generalize x.p.length = n2 at *
      generalize x.s.length = n3 at *
      generalize x.k = k at *
      generalize x.t = t at *
      go_enter Try.func21, Try.ntmps21
      go_wp2_with fail
      refine (HC.out _ ((Below.refl _ w).alloc (Nat.le_refl _) _)).mono ?_
      rintro e w1 ⟨rfl, hb1⟩
      obtain ⟨hc, hf⟩ := bcell hb1
      have hz : w.heap.size < w1.heap.size := by have := hb1.size; simp at this; omega
      have hB1 : Below w.heap.size w w1 := ((Below.refl _ w).alloc (Nat.le_refl _) _).trans (hb1.mono (by simp))
      go_wp2_with fail
      refine (HN.out _).mono ?_
      rintro e w2 ⟨rfl, hb2⟩
      obtain ⟨hc2, hf2⟩ := bcell hb2
      have hz2 : w.heap.size < w2.heap.size := by have := hb2.size; omega
      have hB2 : Below w.heap.size w w2 := hB1.trans (hb2.mono hB1.size)
      go_wp2_with fail
      go_ret
      exact ⟨rfl, hB2⟩
    | false =>
      rw [hn] at HN
      rw [if_neg (by decide)]
      clear hn
      generalize x.l.length = n1 at *
      generalize x.p.length = n2 at *
      generalize x.s.length = n3 at *
      generalize x.k = k at *
      generalize x.t = t at *
      by_cases hk : k = kind
      · subst hk
        rw [if_neg (by simp)]
        go_enter Try.func21, Try.ntmps21
        go_wp2_with fail
        refine (HC.out _ ((Below.refl _ w).alloc (Nat.le_refl _) _)).mono ?_
        rintro e w1 ⟨rfl, hb1⟩
        obtain ⟨hc, hf⟩ := bcell hb1
        have hz : w.heap.size < w1.heap.size := by have := hb1.size; simp at this; omega
        have hB1 : Below w.heap.size w w1 := ((Below.refl _ w).alloc (Nat.le_refl _) _).trans (hb1.mono (by simp))
        go_wp2_with fail
        refine (HN.out _).mono ?_
        rintro e w2 ⟨rfl, hb2⟩
        obtain ⟨hc2, hf2⟩ := bcell hb2
        have hz2 : w.heap.size < w2.heap.size := by have := hb2.size; omega
        have hB2 : Below w.heap.size w w2 := hB1.trans (hb2.mono hB1.size)
        go_wp2_with fail
        go_ret
        exact ⟨rfl, hB2⟩
      · rw [if_pos hk]
        have hk' : (k == kind) = false := by rw [beq_eq_false_iff_ne]; exact hk
        go_enter Try.func21, Try.ntmps21
        go_wp2_with fail
        refine (HC.out _ ((Below.refl _ w).alloc (Nat.le_refl _) _)).mono ?_
        rintro e w1 ⟨rfl, hb1⟩
        obtain ⟨hc, hf⟩ := bcell hb1
        have hz : w.heap.size < w1.heap.size := by have := hb1.size; simp at this; omega
        have hB1 : Below w.heap.size w w1 := ((Below.refl _ w).alloc (Nat.le_refl _) _).trans (hb1.mono (by simp))
        go_wp2_with fail
        refine (HN.out _).mono ?_
        rintro e w2 ⟨rfl, hb2⟩
        obtain ⟨hc2, hf2⟩ := bcell hb2
        have hz2 : w.heap.size < w2.heap.size := by have := hb2.size; omega
        have hB2 : Below w.heap.size w w2 := hB1.trans (hb2.mono hB1.size)
        go_wp2_with fail
        go_ret
        exact ⟨rfl, hB2⟩
  · rw [if_pos h0]
    have h0' : (C == 0) = false := by rw [beq_eq_false_iff_ne]; exact h0
    clear HN
    generalize x.l.length = n1 at *
    generalize x.p.length = n2 at *
    generalize x.s.length = n3 at *
    generalize x.k = k at *
    generalize x.t = t at *
    go_enter Try.func21, Try.ntmps21
    go_wp2_with fail
    refine (HC.out _ ((Below.refl _ w).alloc (Nat.le_refl _) _)).mono ?_
    rintro e w1 ⟨rfl, hb1⟩
    obtain ⟨hc, hf⟩ := bcell hb1
    have hz : w.heap.size < w1.heap.size := by have := hb1.size; simp at this; omega
    have hB1 : Below w.heap.size w w1 := ((Below.refl _ w).alloc (Nat.le_refl _) _).trans (hb1.mono (by simp))
    go_wp2_with fail
    go_ret
    exact ⟨rfl, hB1⟩

end Go.Proofs.Ytolpmaapdkhigac
