/- WALK of Len. -/
import Derived.Test.YtolpmaapdkhigabDoorTxt
import Derived.Handy
namespace Go.Proofs.YtolpmaapdkhigabDoor
open Go.RowKit

def lenV (x : Itm) : Value := if asI x 1 = 0 then .tuple #[.int .i64 x.t.size, .int .i64 0] else .tuple #[.int .i64 0, .int .i64 (asI x 1)]
set_option maxRecDepth 100000 in
set_option maxHeartbeats 2000000 in
theorem len_any (v : Value) (x : Itm) (w : World) (h : ItemIs w v x) :
    Calls Tryd.prog 7 #[v] w fun e w' => e = .returned (lenV x) ∧ Below w.heap.size w w' := by
  have HC : Hid (∀ W, Below w.heap.size w W → Calls Tryd.prog 19 #[v, .int .i64 1] W fun e w' => e = .returned (.int .i64 (asI x 1)) ∧ Below W.heap.size W w') := fun W hW => common_any v x 1 W (h.below hW)
  obtain ⟨⟨a1, c1, a2, c2, a3, c3, rfl, -, -, -⟩, tz, -, -, -, -, -, -⟩ := h
  by_cases h0 : asI x 1 = 0
  · have hv : lenV x = .tuple #[.int .i64 x.t.size, .int .i64 0] := by rw [lenV, if_pos h0]
    rw [hv]
    rw [h0] at HC
    clear hv h0
    generalize x.t = t at *
    generalize x.k = k at *
    generalize x.l.length = n1 at *
    generalize x.p.length = n2 at *
    generalize x.s.length = n3 at *
    go_enter Tryd.func7, Tryd.ntmps7
    go_wp2_with fail
    refine (HC.out _ ((Below.refl _ w).alloc (Nat.le_refl _) _)).mono ?_
    rintro e w1 ⟨rfl, hb1⟩
    obtain ⟨hc, hf⟩ := bcell hb1
    have hz : w.heap.size < w1.heap.size := by have := hb1.size; simp at this; omega
    have hB1 : Below w.heap.size w w1 := ((Below.refl _ w).alloc (Nat.le_refl _) _).trans (hb1.mono (by simp))
    go_wp2_with fail
    go_ret2
    exact ⟨rfl, hB1⟩
  · have hv : lenV x = .tuple #[.int .i64 0, .int .i64 (asI x 1)] := by rw [lenV, if_neg h0]
    have h0' : (asI x 1 == 0) = false := by rw [beq_eq_false_iff_ne]; exact h0
    rw [hv]
    clear hv
    generalize asI x 1 = E at *
    generalize x.t = t at *
    generalize x.k = k at *
    generalize x.l.length = n1 at *
    generalize x.p.length = n2 at *
    generalize x.s.length = n3 at *
    go_enter Tryd.func7, Tryd.ntmps7
    go_wp2_with fail
    refine (HC.out _ ((Below.refl _ w).alloc (Nat.le_refl _) _)).mono ?_
    rintro e w1 ⟨rfl, hb1⟩
    obtain ⟨hc, hf⟩ := bcell hb1
    have hz : w.heap.size < w1.heap.size := by have := hb1.size; simp at this; omega
    have hB1 : Below w.heap.size w w1 := ((Below.refl _ w).alloc (Nat.le_refl _) _).trans (hb1.mono (by simp))
    go_wp2_with fail
    go_ret2
    exact ⟨rfl, hB1⟩
end Go.Proofs.YtolpmaapdkhigabDoor
