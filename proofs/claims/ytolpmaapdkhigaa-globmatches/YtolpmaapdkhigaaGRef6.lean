/- WALK of GlobMatches. -/
import Derived.Test.YtolpmaapdkhigaaGRef5
import Derived.Handy
namespace Go.Proofs.Ytolpmaapdkhigaa
open Go.RowKit

set_option maxRecDepth 100000 in
set_option maxHeartbeats 2000000 in
theorem globMatches_walk (p s : ByteArray) (w : World) :
    Calls Try.prog 3 #[.string p, .string s] w fun e w' => e = .returned (.bool true) ∧ Below w.heap.size w w' := by
  have HB : Hid (∀ W, Calls Try.prog 7 #[] W fun e w' => e = .returned (.bool true) ∧ Below W.heap.size W w') := fun W => globBegun_any W
  have H0 : Hid (∀ W, Calls Try.prog 5 #[.string p, .string s] W fun e w' => e = .returned (.tuple #[.bool (matchB p s), .int .i64 (matchE p s)]) ∧ Below W.heap.size W w') := fun W => match_tells p s W
  have H1 : Hid (∀ W, Calls Try.prog 6 #[.string p] W fun e w' => e = .returned (.int .i64 (checkG p)) ∧ Below W.heap.size W w') := fun W => checkGlob_any p W
  have H2 : Hid (∀ W, Calls Try.prog 8 #[.string p] W fun e w' => e = .returned (.int .i64 (checkG p)) ∧ Below W.heap.size W w') := fun W => check_tells p W
  by_cases hc : checkG p = 0
  · by_cases hs : 60 < s.size
    · have h1 : matchE p s = 2 := by rw [matchE, if_neg (by simp [hc]), if_pos hs]
      have h2 : matchB p s = false := by rw [matchB, if_pos (by rw [h1]; decide)]
      rw [h1, h2] at H0
      rw [hc] at H1 H2
      have hs' : (60 : Int) < ((s.size : Nat) : Int) := by omega
      clear h1 h2 hc
      go_enter Try.func3, Try.ntmps3
      go_wp2_with fail
      refine (H0.out _).mono ?_
      rintro e w1 ⟨rfl, hb1⟩
      go_wp2_with fail
      refine (H1.out _).mono ?_
      rintro e w2 ⟨rfl, hb2⟩
      go_wp2_with fail
      refine (HB.out _).mono ?_
      rintro e w3 ⟨rfl, hb3⟩
      go_wp2_with fail
      refine (H2.out _).mono ?_
      rintro e w4 ⟨rfl, hb4⟩
      have z1 := hb1.size
      have z2 := hb2.size
      have z3 := hb3.size
      go_wp2_with fail
      go_ret
      exact ⟨rfl, ((hb1.trans (hb2.mono z1)).trans (hb3.mono (by omega))).trans (hb4.mono (by omega))⟩
    · have h1 : matchE p s = 0 := by rw [matchE, if_neg (by simp [hc]), if_neg hs]
      have hpz : ¬ 60 < p.size := fun h => by rw [checkG, if_pos h] at hc; cases hc
      obtain ⟨ps, hps⟩ : ∃ ps, pParts p.data.toList = .ok ps := by
        cases hp : pParts p.data.toList with
        | error n => rw [checkG, if_neg hpz, hp] at hc; cases hc
        | ok ps => exact ⟨ps, rfl⟩
      have h2 : matchB p s = mat ps s.data.toList := by rw [matchB, if_neg (by simp [h1]), hps]
      obtain ⟨st, hst, hm, hl⟩ := steps_of _ _ _ hps
      have H3 : Hid (∀ W, Calls Try.prog 9 #[.string p, .string s] W fun e w' => e = .returned (.bool (mat ps s.data.toList)) ∧ Below W.heap.size W w') := fun W => by
        have := isMatch_any p s st W (by omega) (by omega) hst (by rw [size_list] at hl; omega)
        rw [hm] at this
        exact this
      rw [h1, h2] at H0
      rw [hc] at H1 H2
      have hs' : ¬ (60 : Int) < ((s.size : Nat) : Int) := by omega
      clear h1 h2 hc hst hm hl hps
      generalize mat ps s.data.toList = R at *
      go_enter Try.func3, Try.ntmps3
      go_wp2_with fail
      refine (H0.out _).mono ?_
      rintro e w1 ⟨rfl, hb1⟩
      go_wp2_with fail
      refine (H1.out _).mono ?_
      rintro e w2 ⟨rfl, hb2⟩
      go_wp2_with fail
      refine (HB.out _).mono ?_
      rintro e w3 ⟨rfl, hb3⟩
      go_wp2_with fail
      refine (H2.out _).mono ?_
      rintro e w4 ⟨rfl, hb4⟩
      go_wp2_with fail
      refine (H3.out _).mono ?_
      rintro e w5 ⟨rfl, hb5⟩
      have z1 := hb1.size
      have z2 := hb2.size
      have z3 := hb3.size
      have z4 := hb4.size
      cases R
      all_goals
        go_wp2_with fail
        go_ret
        exact ⟨rfl, (((hb1.trans (hb2.mono z1)).trans (hb3.mono (by omega))).trans (hb4.mono (by omega))).trans (hb5.mono (by omega))⟩
  · have h1 : matchE p s = checkG p := by rw [matchE, if_pos hc]
    have h2 : matchB p s = false := by rw [matchB, if_pos (by rw [h1]; exact hc)]
    rw [h1, h2] at H0
    have hcb : (checkG p == 0) = false := by rw [beq_eq_false_iff_ne]; exact hc
    have hcn : (checkG p != 0) = true := by rw [bne_iff_ne]; exact hc
    clear h1 h2
    generalize checkG p = C at *
    go_enter Try.func3, Try.ntmps3
    go_wp2_with fail
    refine (H0.out _).mono ?_
    rintro e w1 ⟨rfl, hb1⟩
    go_wp2_with fail
    refine (H1.out _).mono ?_
    rintro e w2 ⟨rfl, hb2⟩
    go_wp2_with fail
    refine (HB.out _).mono ?_
    rintro e w3 ⟨rfl, hb3⟩
    go_wp2_with fail
    refine (H2.out _).mono ?_
    rintro e w4 ⟨rfl, hb4⟩
    have z1 := hb1.size
    have z2 := hb2.size
    have z3 := hb3.size
    go_wp2_with fail
    go_ret
    exact ⟨rfl, ((hb1.trans (hb2.mono z1)).trans (hb3.mono (by omega))).trans (hb4.mono (by omega))⟩
end Go.Proofs.Ytolpmaapdkhigaa
