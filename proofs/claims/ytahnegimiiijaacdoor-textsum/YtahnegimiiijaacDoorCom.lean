/- WALKS of what the layers of items have in common: nothing, or of a kind; places of a range. -/
import Derived.Test.YtahnegimiiijaacDoorIChk11
import Derived.Handy
namespace Go.Proofs.YtahnegimiiijaacDoor
open Go.RowKit

set_option maxRecDepth 100000 in
set_option maxHeartbeats 4000000 in
theorem isNothing_any (k : Int) (t : ByteArray) (a1 a2 a3 : Option Addr) (n1 n2 n3 c1 c2 c3 : Nat) (w : World) :
    Calls Tryd.prog 15 #[.agg #[.int .i64 k, .string t, .slice a1 n1 c1, .slice a2 n2 c2, .slice a3 n3 c3]] w fun e w' => e = .returned (.bool (decide (k = 0 ∧ t.toList = [] ∧ n1 = 0 ∧ n2 = 0 ∧ n3 = 0))) ∧ Below w.heap.size w w' := by
  go_enter Tryd.func15, Tryd.ntmps15
  go_wp2
  all_goals go_ret
  all_goals refine ⟨?_, (Below.refl _ _).alloc (Nat.le_refl _) _⟩
  all_goals first | (simp [*]; done) | (simp [*]; rw [Bool.eq_iff_iff]; simp; done)
theorem isNone_len (x : Itm) : decide (x.k = 0 ∧ x.t.toList = [] ∧ x.l.length = 0 ∧ x.p.length = 0 ∧ x.s.length = 0) = x.isNone := by
  unfold Itm.isNone
  simp

set_option maxRecDepth 100000 in
set_option maxHeartbeats 4000000 in
theorem common_any (v : Value) (x : Itm) (kind : Int) (w : World) (h : ItemIs w v x) :
    Calls Tryd.prog 9 #[v, .int .i64 kind] w fun e w' => e = .returned (.int .i64 (asI x kind)) ∧ Below w.heap.size w w' := by
  have HI := hide h
  obtain ⟨⟨a1, c1, a2, c2, a3, c3, rfl, -, -, -⟩, -, -, -, -, -, -, -⟩ := h
  have HN : Hid (∀ W, Calls Tryd.prog 15 #[.agg #[.int .i64 x.k, .string x.t, .slice a1 x.l.length c1, .slice a2 x.p.length c2, .slice a3 x.s.length c3]] W fun e w' => e = .returned (.bool x.isNone) ∧ Below W.heap.size W w') := fun W => by rw [← isNone_len]; exact isNothing_any x.k x.t a1 a2 a3 x.l.length x.p.length x.s.length c1 c2 c3 W
  have HC : Hid (∀ W, Below w.heap.size w W → Calls Tryd.prog 16 #[.agg #[.int .i64 x.k, .string x.t, .slice a1 x.l.length c1, .slice a2 x.p.length c2, .slice a3 x.s.length c3]] W fun e w' => e = .returned (.int .i64 (chkI x)) ∧ Below W.heap.size W w') := fun W hW => check_any _ x W (HI.out.below hW)
  clear HI
  cases hn : x.isNone with
  | true =>
    have hv : asI x kind = 0 := by rw [asI, if_pos hn]
    rw [hv]
    rw [hn] at HN
    clear hv hn
    go_enter Tryd.func9, Tryd.ntmps9
    go_wp2_with fail
    refine (HN.out _).mono ?_
    rintro e w1 ⟨rfl, hb1⟩
    go_wp2_with fail
    go_ret
    exact ⟨rfl, ((Below.refl _ w).alloc (Nat.le_refl _) _).trans (hb1.mono (by simp))⟩
  | false =>
    have hv : asI x kind = if chkI x ≠ 0 then chkI x else if x.k ≠ kind then 7 else 0 := by rw [asI, if_neg (by rw [hn]; decide)]
    rw [hv]
    rw [hn] at HN
    clear hv hn
    generalize chkI x = C at *
    generalize x.l.length = n1 at *
    generalize x.p.length = n2 at *
    generalize x.s.length = n3 at *
    generalize x.k = k at *
    generalize x.t = t at *
    by_cases h0 : C = 0
    · subst h0
      rw [if_neg (by simp)]
      by_cases hk : k = kind
      · subst hk
        rw [if_neg (by simp)]
        go_enter Tryd.func9, Tryd.ntmps9
        go_wp2_with fail
        refine (HN.out _).mono ?_
        rintro e w1 ⟨rfl, hb1⟩
        obtain ⟨hc, hf⟩ := bcell hb1
        have hz : w.heap.size < w1.heap.size := by have := hb1.size; simp at this; omega
        have hB1 : Below w.heap.size w w1 := ((Below.refl _ w).alloc (Nat.le_refl _) _).trans (hb1.mono (by simp))
        go_wp2_with fail
        refine (HC.out w1 hB1).mono ?_
        rintro e w2 ⟨rfl, hb2⟩
        obtain ⟨hc2, hf2⟩ := bcell hb2
        have hz2 : w.heap.size < w2.heap.size := by have := hb2.size; omega
        have hB2 : Below w.heap.size w w2 := hB1.trans (hb2.mono hB1.size)
        go_wp2_with fail
        go_ret
        exact ⟨rfl, hB2⟩
      · rw [if_pos hk]
        have hk' : (k == kind) = false := by rw [beq_eq_false_iff_ne]; exact hk
        go_enter Tryd.func9, Tryd.ntmps9
        go_wp2_with fail
        refine (HN.out _).mono ?_
        rintro e w1 ⟨rfl, hb1⟩
        obtain ⟨hc, hf⟩ := bcell hb1
        have hz : w.heap.size < w1.heap.size := by have := hb1.size; simp at this; omega
        have hB1 : Below w.heap.size w w1 := ((Below.refl _ w).alloc (Nat.le_refl _) _).trans (hb1.mono (by simp))
        go_wp2_with fail
        refine (HC.out w1 hB1).mono ?_
        rintro e w2 ⟨rfl, hb2⟩
        obtain ⟨hc2, hf2⟩ := bcell hb2
        have hz2 : w.heap.size < w2.heap.size := by have := hb2.size; omega
        have hB2 : Below w.heap.size w w2 := hB1.trans (hb2.mono hB1.size)
        go_wp2_with fail
        go_ret
        exact ⟨rfl, hB2⟩
    · rw [if_pos h0]
      have h0' : (C == 0) = false := by rw [beq_eq_false_iff_ne]; exact h0
      go_enter Tryd.func9, Tryd.ntmps9
      go_wp2_with fail
      refine (HN.out _).mono ?_
      rintro e w1 ⟨rfl, hb1⟩
      obtain ⟨hc, hf⟩ := bcell hb1
      have hz : w.heap.size < w1.heap.size := by have := hb1.size; simp at this; omega
      have hB1 : Below w.heap.size w w1 := ((Below.refl _ w).alloc (Nat.le_refl _) _).trans (hb1.mono (by simp))
      go_wp2_with fail
      refine (HC.out w1 hB1).mono ?_
      rintro e w2 ⟨rfl, hb2⟩
      have hB2 : Below w.heap.size w w2 := hB1.trans (hb2.mono hB1.size)
      go_wp2_with fail
      go_ret
      exact ⟨rfl, hB2⟩

/-- a place from the beginning -/
def fromB (n : Nat) (f : Int) : Int := if f < 0 then n + f else f
theorem fromEnd_any (n : Nat) (f : Int) (w : World) (hn : n ≤ 9223372036854775807) (hf : -9223372036854775808 ≤ f) : Calls Tryd.prog 19 #[.int .i64 n, .int .i64 f] w fun e w' => e = .returned (.int .i64 (fromB n f)) ∧ w' = w := by
  by_cases h : f < 0
  · rw [show fromB n f = n + f by rw [fromB, if_pos h]]
    go_enter Tryd.func19, Tryd.ntmps19
    go_wp2_with fail
    go_ret
    exact ⟨rfl, rfl⟩
  · rw [show fromB n f = f by rw [fromB, if_neg h]]
    go_enter Tryd.func19, Tryd.ntmps19
    go_wp2_with fail
    go_ret
    exact ⟨rfl, rfl⟩
/-- the first place, and the one behind the last -/
def place1 (n : Nat) (f t : Int) : Nat := if min (fromB n t) (n - 1) < max (fromB n f) 0 then 0 else (max (fromB n f) 0).toNat
def place2 (n : Nat) (f t : Int) : Nat := if min (fromB n t) (n - 1) < max (fromB n f) 0 then 0 else (min (fromB n t) (n - 1)).toNat + 1
theorem place_le (n : Nat) (f t : Int) : place1 n f t ≤ place2 n f t ∧ place2 n f t ≤ n := by
  unfold place1 place2
  split <;> omega
set_option maxHeartbeats 1000000 in
theorem places_any (n : Nat) (f t : Int) (w : World) (hn : n ≤ 9223372036854775807) (hf : -9223372036854775808 ≤ f) (ht : -9223372036854775808 ≤ t) (hf2 : f ≤ 9223372036854775807) (ht2 : t ≤ 9223372036854775807) :
    Calls Tryd.prog 13 #[.int .i64 n, .int .i64 f, .int .i64 t] w fun e w' => e = .returned (.tuple #[.int .i64 (place1 n f t), .int .i64 (place2 n f t)]) ∧ w' = w := by
  have H1 : Hid (∀ W, Calls Tryd.prog 19 #[.int .i64 n, .int .i64 f] W fun e w' => e = .returned (.int .i64 (fromB n f)) ∧ w' = W) := fun W => fromEnd_any n f W hn hf
  have H2 : Hid (∀ W, Calls Tryd.prog 19 #[.int .i64 n, .int .i64 t] W fun e w' => e = .returned (.int .i64 (fromB n t)) ∧ w' = W) := fun W => fromEnd_any n t W hn ht
  have b1 : fromB n f ≤ 9223372036854775807 ∧ -9223372036854775808 ≤ fromB n f := by unfold fromB; split <;> omega
  have b2 : fromB n t ≤ 9223372036854775807 ∧ -9223372036854775808 ≤ fromB n t := by unfold fromB; split <;> omega
  have P1 : Hid (((place1 n f t : Nat) : Int) = if min (fromB n t) (n - 1) < max (fromB n f) 0 then 0 else max (fromB n f) 0) := by unfold place1; split <;> (simp only [Hid]; omega)
  have P2 : Hid (((place2 n f t : Nat) : Int) = if min (fromB n t) (n - 1) < max (fromB n f) 0 then 0 else min (fromB n t) (n - 1) + 1) := by unfold place2; split <;> (simp only [Hid]; omega)
  rw [P1.out, P2.out]
  clear P1 P2
  generalize fromB n f = F at *
  generalize fromB n t = T at *
  obtain ⟨b1, b1'⟩ := b1
  obtain ⟨b2, b2'⟩ := b2
  rcases Int.lt_or_le F 0 with hF | hF
  · rw [show max F 0 = 0 by omega]
    rcases Int.lt_or_le ((n : Int) - 1) T with hT | hT
    · rw [show min T ((n : Int) - 1) = (n : Int) - 1 by omega]
      by_cases hL : (n : Int) - 1 < 0
      · rw [if_pos hL, if_pos hL]
        go_enter Tryd.func13, Tryd.ntmps13
        go_wp2_with fail
        refine (H1.out _).mono ?_
        rintro e w1 ⟨rfl, rfl⟩
        go_wp2_with fail
        refine (H2.out _).mono ?_
        rintro e w1 ⟨rfl, rfl⟩
        go_wp2_with fail
        go_ret2
        exact ⟨rfl, rfl⟩
      · rw [if_neg hL, if_neg hL, show (n : Int) - 1 + 1 = n by omega]
        go_enter Tryd.func13, Tryd.ntmps13
        go_wp2_with fail
        refine (H1.out _).mono ?_
        rintro e w1 ⟨rfl, rfl⟩
        go_wp2_with fail
        refine (H2.out _).mono ?_
        rintro e w1 ⟨rfl, rfl⟩
        go_wp2_with fail
        go_ret2
        exact ⟨rfl, rfl⟩
    · rw [show min T ((n : Int) - 1) = T by omega]
      by_cases hL : T < 0
      · rw [if_pos hL, if_pos hL]
        go_enter Tryd.func13, Tryd.ntmps13
        go_wp2_with fail
        refine (H1.out _).mono ?_
        rintro e w1 ⟨rfl, rfl⟩
        go_wp2_with fail
        refine (H2.out _).mono ?_
        rintro e w1 ⟨rfl, rfl⟩
        go_wp2_with fail
        go_ret2
        exact ⟨rfl, rfl⟩
      · rw [if_neg hL, if_neg hL]
        go_enter Tryd.func13, Tryd.ntmps13
        go_wp2_with fail
        refine (H1.out _).mono ?_
        rintro e w1 ⟨rfl, rfl⟩
        go_wp2_with fail
        refine (H2.out _).mono ?_
        rintro e w1 ⟨rfl, rfl⟩
        go_wp2_with fail
        go_ret2
        exact ⟨rfl, rfl⟩
  · rw [show max F 0 = F by omega]
    rcases Int.lt_or_le ((n : Int) - 1) T with hT | hT
    · rw [show min T ((n : Int) - 1) = (n : Int) - 1 by omega]
      by_cases hL : (n : Int) - 1 < F
      · rw [if_pos hL, if_pos hL]
        go_enter Tryd.func13, Tryd.ntmps13
        go_wp2_with fail
        refine (H1.out _).mono ?_
        rintro e w1 ⟨rfl, rfl⟩
        go_wp2_with fail
        refine (H2.out _).mono ?_
        rintro e w1 ⟨rfl, rfl⟩
        go_wp2_with fail
        go_ret2
        exact ⟨rfl, rfl⟩
      · rw [if_neg hL, if_neg hL, show (n : Int) - 1 + 1 = n by omega]
        go_enter Tryd.func13, Tryd.ntmps13
        go_wp2_with fail
        refine (H1.out _).mono ?_
        rintro e w1 ⟨rfl, rfl⟩
        go_wp2_with fail
        refine (H2.out _).mono ?_
        rintro e w1 ⟨rfl, rfl⟩
        go_wp2_with fail
        go_ret2
        exact ⟨rfl, rfl⟩
    · rw [show min T ((n : Int) - 1) = T by omega]
      by_cases hL : T < F
      · rw [if_pos hL, if_pos hL]
        go_enter Tryd.func13, Tryd.ntmps13
        go_wp2_with fail
        refine (H1.out _).mono ?_
        rintro e w1 ⟨rfl, rfl⟩
        go_wp2_with fail
        refine (H2.out _).mono ?_
        rintro e w1 ⟨rfl, rfl⟩
        go_wp2_with fail
        go_ret2
        exact ⟨rfl, rfl⟩
      · rw [if_neg hL, if_neg hL]
        go_enter Tryd.func13, Tryd.ntmps13
        go_wp2_with fail
        refine (H1.out _).mono ?_
        rintro e w1 ⟨rfl, rfl⟩
        go_wp2_with fail
        refine (H2.out _).mono ?_
        rintro e w1 ⟨rfl, rfl⟩
        go_wp2_with fail
        go_ret2
        exact ⟨rfl, rfl⟩
end Go.Proofs.YtahnegimiiijaacDoor
