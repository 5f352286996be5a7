/- WALKS of Check and Match of patterns. -/
import Derived.Test.YtkjnalbnhmpopaaGGo
import Derived.Handy
namespace Go.Proofs.Ytkjnalbnhmpopaa
open Go.RowKit

/-- what Check answers -/
def checkG (p : ByteArray) : Int :=
  if 60 < p.size then 2 else match pParts p.data.toList with
    | .error _ => 1
    | .ok _ => 0
def matchE (p s : ByteArray) : Int := if checkG p ≠ 0 then checkG p else if 60 < s.size then 2 else 0
def matchB (p s : ByteArray) : Bool :=
  if matchE p s ≠ 0 then false else match pParts p.data.toList with
    | .error _ => false
    | .ok ps => mat ps s.data.toList

theorem parse_long (s : ByteArray) (w : World) (hs : 60 < s.size) : Calls Try.prog 37 #[.string s] w fun e w' => e = .returned (.tuple #[.slice none 0 0, .int .i64 2]) ∧ w' = w := by
  have hs' : (60 : Int) < ((s.size : Nat) : Int) := by omega
  go_enter Try.func37, Try.ntmps37
  go_wp2_with fail
  go_ret2
  exact ⟨rfl, rfl⟩
/-- what the reading of a pattern answers, whatever it is -/
theorem parse_tells (p : ByteArray) (w : World) : Calls Try.prog 37 #[.string p] w fun e w' => Below w.heap.size w w' ∧ ∃ a n cap, e = .returned (.tuple #[.slice a n cap, .int .i64 (checkG p)]) ∧
    (checkG p = 0 → ∃ acc, pParts p.data.toList = .ok (acc.map Prod.snd) ∧ n = acc.length ∧ PartsAt w.heap.size w' (.slice a acc.length cap) acc ∧ acc.length ≤ 60) := by
  by_cases hp : 60 < p.size
  · refine (parse_long p w hp).mono ?_
    rintro e w' ⟨rfl, rfl⟩
    have hc : checkG p = 2 := by rw [checkG, if_pos hp]
    exact ⟨Below.refl _ _, none, 0, 0, by rw [hc], fun h => by rw [hc] at h; cases h⟩
  · refine (parse_any p w (by omega)).mono ?_
    rintro e w' ⟨hb, hok, herr⟩
    refine ⟨hb, ?_⟩
    cases hps : pParts p.data.toList with
    | error n =>
      have hc : checkG p = 1 := by rw [checkG, if_neg hp, hps]
      exact ⟨none, 0, 0, by rw [hc]; exact herr n hps, fun h => by rw [hc] at h; cases h⟩
    | ok ps =>
      have hc : checkG p = 0 := by rw [checkG, if_neg hp, hps]
      obtain ⟨a, cap, acc, hm, he, hpa, hl⟩ := hok ps hps
      exact ⟨a, acc.length, cap, by rw [hc]; exact he, fun _ => ⟨acc, by rw [hm], rfl, hpa, hl⟩⟩

set_option maxRecDepth 100000 in
set_option maxHeartbeats 1000000 in
theorem check_tells (p : ByteArray) (w : World) : Calls Try.prog 36 #[.string p] w fun e w' => e = .returned (.int .i64 (checkG p)) ∧ Below w.heap.size w w' := by
  have HP := hide (parse_tells p w)
  generalize checkG p = C at *
  go_enter Try.func36, Try.ntmps36
  go_wp2_with fail
  refine HP.out.mono ?_
  rintro e w1 ⟨hb, a, n, cap, rfl, _⟩
  go_wp2_with fail
  go_ret
  exact ⟨rfl, hb⟩

set_option maxRecDepth 100000 in
set_option maxHeartbeats 1000000 in
theorem match_tells (p s : ByteArray) (w : World) : Calls Try.prog 10 #[.string p, .string s] w fun e w' => e = .returned (.tuple #[.bool (matchB p s), .int .i64 (matchE p s)]) ∧ Below w.heap.size w w' := by
  have HP := hide (parse_tells p w)
  by_cases hc : checkG p = 0
  · by_cases hs : 60 < s.size
    · have h1 : matchE p s = 2 := by rw [matchE, if_neg (by simp [hc]), if_pos hs]
      have h2 : matchB p s = false := by rw [matchB, if_pos (by rw [h1]; decide)]
      rw [h1, h2]
      rw [hc] at HP
      have hs' : (60 : Int) < ((s.size : Nat) : Int) := by omega
      clear h1 h2 hc
      go_enter Try.func10, Try.ntmps10
      go_wp2_with fail
      refine HP.out.mono ?_
      rintro e w1 ⟨hb, a, n, cap, rfl, _⟩
      go_wp2_with fail
      go_ret2
      exact ⟨rfl, hb⟩
    · have h1 : matchE p s = 0 := by rw [matchE, if_neg (by simp [hc]), if_neg hs]
      have HB : Hid (∀ ps, pParts p.data.toList = .ok ps → matchB p s = mat ps s.data.toList) := fun ps hps => by rw [matchB, if_neg (by simp [h1]), hps]
      rw [h1]
      rw [hc] at HP
      have hs' : ¬ (60 : Int) < ((s.size : Nat) : Int) := by omega
      clear h1 hc
      go_enter Try.func10, Try.ntmps10
      go_wp2_with fail
      refine HP.out.mono ?_
      rintro e w1 ⟨hb, a, n, cap, rfl, hex⟩
      obtain ⟨acc, hps, rfl, hpa, hl⟩ := hex trivial
      have HM := hide (matches_any a cap w.heap.size acc s w1 hpa hl (by omega))
      have HV := hide (HB.out _ hps)
      clear hex hpa hps HB
      generalize mat (acc.map Prod.snd) s.data.toList = R at *
      generalize acc.length = len at *
      have hz := hb.size
      go_wp2_with fail
      refine HM.out.mono ?_
      rintro e w2 ⟨rfl, hb2⟩
      go_wp2_with fail
      go_ret2
      rw [HV.out]
      exact ⟨rfl, hb.trans (hb2.mono hz)⟩
  · have h1 : matchE p s = checkG p := by rw [matchE, if_pos hc]
    have h2 : matchB p s = false := by rw [matchB, if_pos (by rw [h1]; exact hc)]
    rw [h1, h2]
    have hcb : (checkG p == 0) = false := by rw [beq_eq_false_iff_ne]; exact hc
    clear h1 h2 hc
    generalize checkG p = C at *
    go_enter Try.func10, Try.ntmps10
    go_wp2_with fail
    refine HP.out.mono ?_
    rintro e w1 ⟨hb, a, n, cap, rfl, _⟩
    go_wp2_with fail
    go_ret2
    exact ⟨rfl, hb⟩

theorem begunG1 : matchB ⟨#[97, 42, 91, 98, 45, 100, 93, 63, 92, 42]⟩ ⟨#[97, 120, 120, 99, 122, 42]⟩ = true ∧ matchE ⟨#[97, 42, 91, 98, 45, 100, 93, 63, 92, 42]⟩ ⟨#[97, 120, 120, 99, 122, 42]⟩ = 0 := by decide +kernel
theorem begunG2 : matchB ⟨#[91, 94, 97, 93]⟩ ⟨#[97]⟩ = false ∧ matchE ⟨#[91, 94, 97, 93]⟩ ⟨#[97]⟩ = 0 := by decide +kernel
theorem begunG3 : checkG ⟨#[91, 97, 45, 99, 93]⟩ = 0 ∧ checkG ⟨#[91]⟩ = 1 := by decide +kernel

set_option maxRecDepth 100000 in
set_option maxHeartbeats 1000000 in
theorem globBegun_any (w : World) : Calls Try.prog 9 #[] w fun e w' => e = .returned (.bool true) ∧ Below w.heap.size w w' := by
  have H1 : Hid (∀ W, Calls Try.prog 10 #[.string ⟨#[97, 42, 91, 98, 45, 100, 93, 63, 92, 42]⟩, .string ⟨#[97, 120, 120, 99, 122, 42]⟩] W fun e w' => e = .returned (.tuple #[.bool true, .int .i64 0]) ∧ Below W.heap.size W w') := fun W => by
    have := match_tells ⟨#[97, 42, 91, 98, 45, 100, 93, 63, 92, 42]⟩ ⟨#[97, 120, 120, 99, 122, 42]⟩ W
    rw [begunG1.1, begunG1.2] at this
    exact this
  have H2 : Hid (∀ W, Calls Try.prog 10 #[.string ⟨#[91, 94, 97, 93]⟩, .string ⟨#[97]⟩] W fun e w' => e = .returned (.tuple #[.bool false, .int .i64 0]) ∧ Below W.heap.size W w') := fun W => by
    have := match_tells ⟨#[91, 94, 97, 93]⟩ ⟨#[97]⟩ W
    rw [begunG2.1, begunG2.2] at this
    exact this
  have H3 : Hid (∀ W, Calls Try.prog 36 #[.string ⟨#[91, 97, 45, 99, 93]⟩] W fun e w' => e = .returned (.int .i64 0) ∧ Below W.heap.size W w') := fun W => by
    have := check_tells ⟨#[91, 97, 45, 99, 93]⟩ W
    rw [begunG3.1] at this
    exact this
  have H4 : Hid (∀ W, Calls Try.prog 36 #[.string ⟨#[91]⟩] W fun e w' => e = .returned (.int .i64 1) ∧ Below W.heap.size W w') := fun W => by
    have := check_tells ⟨#[91]⟩ W
    rw [begunG3.2] at this
    exact this
  go_enter Try.func9, Try.ntmps9
  go_wp2_with fail
  refine (H1.out _).mono ?_
  rintro e w1 ⟨rfl, hb1⟩
  go_wp2_with fail
  refine (H2.out _).mono ?_
  rintro e w2 ⟨rfl, hb2⟩
  have z1 := hb1.size
  have z2 := hb2.size
  go_wp2_with fail
  refine (H3.out _).mono ?_
  rintro e w3 ⟨rfl, hb3⟩
  have z3 := hb3.size
  go_wp2_with fail
  refine (H4.out _).mono ?_
  rintro e w4 ⟨rfl, hb4⟩
  go_wp2_with fail
  go_ret
  exact ⟨rfl, ((hb1.trans (hb2.mono z1)).trans (hb3.mono (by omega))).trans (hb4.mono (by omega))⟩
end Go.Proofs.Ytkjnalbnhmpopaa
