/- WALKS of what the layers of items have in common: nothing, or of a kind. -/
import Derived.Test.YtolpmaapdkhigacIChk11
import Derived.Handy
namespace Go.Proofs.Ytolpmaapdkhigac
open Go.RowKit

set_option maxRecDepth 100000 in
set_option maxHeartbeats 4000000 in
theorem isNothing_any (k : Int) (t : ByteArray) (a1 a2 a3 : Option Addr) (n1 n2 n3 c1 c2 c3 : Nat) (w : World) :
    Calls Try.prog 37 #[.agg #[.int .i64 k, .string t, .slice a1 n1 c1, .slice a2 n2 c2, .slice a3 n3 c3]] w fun e w' => e = .returned (.bool (decide (k = 0 ∧ t.toList = [] ∧ n1 = 0 ∧ n2 = 0 ∧ n3 = 0))) ∧ Below w.heap.size w w' := by
  go_enter Try.func37, Try.ntmps37
  go_wp2
  all_goals go_ret
  all_goals refine ⟨?_, (Below.refl _ _).alloc (Nat.le_refl _) _⟩
  all_goals first | (simp [*]; done) | (simp [*]; rw [Bool.eq_iff_iff]; simp; done)
theorem isNone_len (x : Itm) : decide (x.k = 0 ∧ x.t.toList = [] ∧ x.l.length = 0 ∧ x.p.length = 0 ∧ x.s.length = 0) = x.isNone := by
  unfold Itm.isNone
  simp

/-- what is wrong with an item; nothing is right -/
def rightI (x : Itm) : Int := if x.isNone = true then 0 else chkI x
theorem asI_right (x : Itm) (kind : Int) : asI x kind = if rightI x ≠ 0 then rightI x else if x.isNone = true then 0 else if x.k ≠ kind then 7 else 0 := by
  unfold asI rightI
  cases x.isNone <;> simp
set_option maxRecDepth 100000 in
set_option maxHeartbeats 4000000 in
theorem right_any (v : Value) (x : Itm) (w : World) (h : ItemIs w v x) :
    Calls Try.prog 36 #[v] w fun e w' => e = .returned (.int .i64 (rightI x)) ∧ Below w.heap.size w w' := by
  have HI := hide h
  obtain ⟨⟨a1, c1, a2, c2, a3, c3, rfl, -, -, -⟩, -, -, -, -, -, -, -⟩ := h
  have HN : Hid (∀ W, Calls Try.prog 37 #[.agg #[.int .i64 x.k, .string x.t, .slice a1 x.l.length c1, .slice a2 x.p.length c2, .slice a3 x.s.length c3]] W fun e w' => e = .returned (.bool x.isNone) ∧ Below W.heap.size W w') := fun W => by rw [← isNone_len]; exact isNothing_any x.k x.t a1 a2 a3 x.l.length x.p.length x.s.length c1 c2 c3 W
  have HC : Hid (∀ W, Below w.heap.size w W → Calls Try.prog 48 #[.agg #[.int .i64 x.k, .string x.t, .slice a1 x.l.length c1, .slice a2 x.p.length c2, .slice a3 x.s.length c3]] W fun e w' => e = .returned (.int .i64 (chkI x)) ∧ Below W.heap.size W w') := fun W hW => check_any _ x W (HI.out.below hW)
  clear HI
  unfold rightI
  cases hn : x.isNone with
  | true =>
    rw [hn] at HN
    rw [if_pos rfl]
    clear hn
    go_enter Try.func36, Try.ntmps36
    go_wp2_with fail
    refine (HN.out _).mono ?_
    rintro e w1 ⟨rfl, hb1⟩
    obtain ⟨hc, hf⟩ := bcell hb1
    have hz : w.heap.size < w1.heap.size := by have := hb1.size; simp at this; omega
    have hB1 : Below w.heap.size w w1 := ((Below.refl _ w).alloc (Nat.le_refl _) _).trans (hb1.mono (by simp))
    go_wp2_with fail
    go_ret
    exact ⟨rfl, hB1⟩
  | false =>
    rw [hn] at HN
    rw [if_neg (by decide)]
    clear hn
    generalize chkI x = C at *
    generalize x.l.length = n1 at *
    generalize x.p.length = n2 at *
    generalize x.s.length = n3 at *
    generalize x.k = k at *
    generalize x.t = t at *
    go_enter Try.func36, Try.ntmps36
    go_wp2_with fail
    refine (HN.out _).mono ?_
    rintro e w1 ⟨rfl, hb1⟩
    obtain ⟨hc, hf⟩ := bcell hb1
    have hz : w.heap.size < w1.heap.size := by have := hb1.size; simp at this; omega
    have hB1 : Below w.heap.size w w1 := ((Below.refl _ w).alloc (Nat.le_refl _) _).trans (hb1.mono (by simp))
    go_wp2_with fail
    refine (HC.out w1 hB1).mono ?_
    rintro e w2 ⟨rfl, hb2⟩
    obtain ⟨hc2, hf2⟩ := bcell hb2
    have hz2 : w.heap.size < w2.heap.size := by have := hb2.size; omega
    have hB2 : Below w.heap.size w w2 := hB1.trans (hb2.mono hB1.size)
    go_wp2_with fail
    go_ret
    exact ⟨rfl, hB2⟩
end Go.Proofs.Ytolpmaapdkhigac
