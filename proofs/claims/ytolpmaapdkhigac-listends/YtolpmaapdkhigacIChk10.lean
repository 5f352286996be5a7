/- WALK of the check of an item. -/
import Derived.Test.YtolpmaapdkhigacIChk4
import Derived.Handy
namespace Go.Proofs.Ytolpmaapdkhigac
open Go.RowKit

/-- an item that lies in memory -/
structure ItemIs (w : World) (v : Value) (x : Itm) : Prop where
  ex : ∃ a1 c1 a2 c2 a3 c3, v = .agg #[.int .i64 x.k, .string x.t, .slice a1 x.l.length c1, .slice a2 x.p.length c2, .slice a3 x.s.length c3] ∧ TextsAt w a1 x.l ∧ PairsAt w a2 x.p ∧ ScoresAt w a3 x.s
  tz : x.t.size ≤ maxLen
  lz : ∀ t ∈ x.l, t.size ≤ maxLen
  pz : ∀ t ∈ x.p, t.1.size ≤ maxLen ∧ t.2.size ≤ maxLen
  sz : ∀ t ∈ x.s, t.2.size ≤ maxLen
  ll : x.l.length ≤ 281474976710656
  pl : x.p.length ≤ 281474976710656
  sl : x.s.length ≤ 281474976710656
theorem ItemIs.below {w w' : World} {v : Value} {x : Itm} (h : ItemIs w v x) (hb : Below w.heap.size w w') : ItemIs w' v x := by
  obtain ⟨⟨a1, c1, a2, c2, a3, c3, e, h1, h2, h3⟩, tz, lz, pz, sz, ll, pl, sl⟩ := h
  exact ⟨⟨a1, c1, a2, c2, a3, c3, e, h1.below hb, h2.below hb, h3.below hb⟩, tz, lz, pz, sz, ll, pl, sl⟩
theorem len_pos_b {α : Type} (l : List α) : decide ((0 : Int) < ((l.length : Nat) : Int)) = decide (0 < l.length) := by simp

set_option maxRecDepth 100000 in
set_option maxHeartbeats 4000000 in
theorem hasOther_any (k : Int) (t : ByteArray) (a1 a2 a3 : Option Addr) (n1 n2 n3 c1 c2 c3 : Nat) (w : World) :
    Calls Try.prog 50 #[.agg #[.int .i64 k, .string t, .slice a1 n1 c1, .slice a2 n2 c2, .slice a3 n3 c3]] w fun e w' => e = .returned (.bool (decide ((k ≠ 1 ∧ ¬ t.toList = []) ∨ (¬ (k = 2 ∨ k = 3) ∧ 0 < n1) ∨ (k ≠ 4 ∧ 0 < n2) ∨ (k ≠ 5 ∧ 0 < n3)))) ∧ Below w.heap.size w w' := by
  go_enter Try.func50, Try.ntmps50
  go_wp2
  all_goals go_ret
  all_goals refine ⟨?_, (Below.refl _ _).alloc (Nat.le_refl _) _⟩
  all_goals first | (simp [*]; done) | (simp [*]; omega)
end Go.Proofs.Ytolpmaapdkhigac
