/- WALK of itemIs, where both sides are the same. -/
import Derived.Test.YtolpmaapdkhigacISame2
import Derived.Handy
namespace Go.Proofs.Ytolpmaapdkhigac
open Go.RowKit

theorem sameI_refl (x : Itm) : sameI x x = true := by simp [sameI]
theorem zero_is (w : World) : ItemIs w (.agg #[.int .i64 0, .string ⟨#[]⟩, .slice none 0 0, .slice none 0 0, .slice none 0 0]) Itm.none :=
  ⟨⟨none, 0, none, 0, none, 0, rfl, .inl rfl, .inl rfl, .inl rfl⟩, (show (0 : Nat) ≤ maxLen by simp), by simp [Itm.none], by simp [Itm.none], by simp [Itm.none], by simp [Itm.none], by simp [Itm.none], by simp [Itm.none]⟩
set_option maxRecDepth 100000 in
set_option maxHeartbeats 4000000 in
theorem itemIs_any (v u : Value) (x : Itm) (n E : Int) (w : World) (hx : ItemIs w v x) (hy : ItemIs w u x) (hE : E ≠ 0 → x = Itm.none ∧ n = 0) :
    Calls Try.prog 17 #[v, .int .i64 n, .int .i64 E, .int .i64 E, u, .int .i64 n] w fun e w' => e = .returned (.bool true) ∧ Below w.heap.size w w' := by
  by_cases h0 : E = 0
  · subst h0
    have HS : Hid (∀ W, Below w.heap.size w W → Calls Try.prog 19 #[v, u] W fun e w' => e = .returned (.bool true) ∧ Below W.heap.size W w') := fun W hW => by
      have hh := sameItem_any v u x x W (hx.below hW) (hy.below hW)
      rw [sameI_refl] at hh
      exact hh
    obtain ⟨⟨a1, c1, a2, c2, a3, c3, rfl, -, -, -⟩, -, -, -, -, -, -, -⟩ := hx
    obtain ⟨⟨b1, d1, b2, d2, b3, d3, rfl, -, -, -⟩, -, -, -, -, -, -, -⟩ := hy
    clear hE
    generalize x.k = k at *
    generalize x.t = t at *
    generalize x.l.length = n1 at *
    generalize x.p.length = n2 at *
    generalize x.s.length = n3 at *
    go_enter Try.func17, Try.ntmps17
    go_wp2_with fail
    refine (HS.out _ (((Below.refl _ w).alloc (Nat.le_refl _) _).alloc (by simp) _)).mono ?_
    rintro e w1 ⟨rfl, hb1⟩
    have B1 : Below w.heap.size w w1 := (((Below.refl _ w).alloc (Nat.le_refl _) _).alloc (by simp) _).trans (hb1.mono (by simp; omega))
    go_wp2_with fail
    go_ret
    exact ⟨rfl, B1⟩
  · obtain ⟨rfl, rfl⟩ := hE h0
    have h0' : (E == 0) = false := by rw [beq_eq_false_iff_ne]; exact h0
    obtain ⟨⟨a1, c1, a2, c2, a3, c3, rfl, -, -, -⟩, -, -, -, -, -, -, -⟩ := id hx
    obtain ⟨⟨b1, d1, b2, d2, b3, d3, rfl, -, -, -⟩, -, -, -, -, -, -, -⟩ := hy
    have HS : Hid (∀ W, Below w.heap.size w W → Calls Try.prog 19 #[.agg #[.int .i64 0, .string ⟨#[]⟩, .slice a1 0 c1, .slice a2 0 c2, .slice a3 0 c3], .agg #[.int .i64 0, .string ⟨#[]⟩, .slice none 0 0, .slice none 0 0, .slice none 0 0]] W fun e w' => e = .returned (.bool true) ∧ Below W.heap.size W w') := fun W hW => by
      have hh := sameItem_any _ _ Itm.none Itm.none W (hx.below hW) (zero_is W)
      rw [sameI_refl] at hh
      exact hh
    clear hx
    simp only [Itm.none, List.length_nil] at *
    go_enter Try.func17, Try.ntmps17
    go_wp2_with fail
    refine (HS.out _ ?_).mono ?_
    · go_grown
    rintro e w1 ⟨rfl, hb1⟩
    have B1 : Below w.heap.size w w1 := Below.trans (by go_grown) (hb1.mono (by simp; omega))
    go_wp2_with fail
    go_ret
    exact ⟨rfl, B1⟩
end Go.Proofs.Ytolpmaapdkhigac
