/- WALKS of the checks of a set, a hash, scores. -/
import Derived.Test.YtolpmaapdkhigacIChk5
import Derived.Test.YtolpmaapdkhigacIChk6
import Derived.Test.YtolpmaapdkhigacIChk8
import Derived.Test.YtolpmaapdkhigacIChk9
import Derived.Handy
namespace Go.Proofs.Ytolpmaapdkhigac
open Go.RowKit

set_option maxRecDepth 100000 in
set_option maxHeartbeats 1000000 in
theorem checkSet_any (a : Option Addr) (cap : Nat) (ts : List ByteArray) (w : World) (hs : TextsAt w a ts) :
    Calls Try.prog 53 #[.slice a ts.length cap] w fun e w' => e = .returned (.int .i64 (setT ts)) ∧ Below w.heap.size w w' := by
  have HZ := hide (checkSizeT_any a cap ts w hs)
  have HS := hide hs
  clear hs
  by_cases h0 : sizeT ts.length (ts.any longT) = 0
  · have hsm := sizeT_small h0
    rw [h0] at HZ
    cases hr : riseTo cmpT ts ts.length with
    | true =>
      have hv : setT ts = 0 := by rw [setT, if_neg (by simp [h0]), if_pos hr]
      rw [hv]
      have HR := hide hr
      clear hv h0 hr
      go_enter Try.func53, Try.ntmps53
      go_wp2_with fail
      refine HZ.out.mono ?_
      rintro e w1 ⟨rfl, hb1⟩
      go_wp2_with fail
      refine (riseT_any a cap ts w1 (HS.out.below hb1) (by omega)).mono ?_
      rintro e w2 ⟨rfl, hb2⟩
      rw [HR.out]
      go_wp2_with fail
      go_ret
      exact ⟨rfl, hb1.trans (hb2.mono hb1.size)⟩
    | false =>
      have hv : setT ts = 4 := by rw [setT, if_neg (by simp [h0]), if_neg (by rw [hr]; decide)]
      rw [hv]
      have HR := hide hr
      clear hv h0 hr
      go_enter Try.func53, Try.ntmps53
      go_wp2_with fail
      refine HZ.out.mono ?_
      rintro e w1 ⟨rfl, hb1⟩
      go_wp2_with fail
      refine (riseT_any a cap ts w1 (HS.out.below hb1) (by omega)).mono ?_
      rintro e w2 ⟨rfl, hb2⟩
      rw [HR.out]
      go_wp2_with fail
      go_ret
      exact ⟨rfl, hb1.trans (hb2.mono hb1.size)⟩
  · have hv : setT ts = sizeT ts.length (ts.any longT) := by rw [setT, if_pos h0]
    have hb : (sizeT ts.length (ts.any longT) == 0) = false := by rw [beq_eq_false_iff_ne]; exact h0
    have hn : (sizeT ts.length (ts.any longT) != 0) = true := by rw [bne_iff_ne]; exact h0
    rw [hv]
    clear hv
    generalize sizeT ts.length (ts.any longT) = Z at *
    go_enter Try.func53, Try.ntmps53
    go_wp2_with fail
    refine HZ.out.mono ?_
    rintro e w1 ⟨rfl, hb1⟩
    go_wp2_with fail
    go_ret
    exact ⟨rfl, hb1⟩

set_option maxRecDepth 100000 in
set_option maxHeartbeats 1000000 in
theorem checkHash_any (a : Option Addr) (cap : Nat) (ts : List (ByteArray × ByteArray)) (w : World) (hs : PairsAt w a ts) :
    Calls Try.prog 54 #[.slice a ts.length cap] w fun e w' => e = .returned (.int .i64 (hashT ts)) ∧ Below w.heap.size w w' := by
  have HZ := hide (checkSizeP_any a cap ts w hs)
  have HS := hide hs
  clear hs
  by_cases h0 : sizeT ts.length (ts.any longP) = 0
  · have hsm := sizeT_small h0
    rw [h0] at HZ
    cases hr : riseTo cmpP ts ts.length with
    | true =>
      have hv : hashT ts = 0 := by rw [hashT, if_neg (by simp [h0]), if_pos hr]
      rw [hv]
      have HR := hide hr
      clear hv h0 hr
      go_enter Try.func54, Try.ntmps54
      go_wp2_with fail
      refine HZ.out.mono ?_
      rintro e w1 ⟨rfl, hb1⟩
      go_wp2_with fail
      refine (riseP_any a cap ts w1 (HS.out.below hb1) (by omega)).mono ?_
      rintro e w2 ⟨rfl, hb2⟩
      rw [HR.out]
      go_wp2_with fail
      go_ret
      exact ⟨rfl, hb1.trans (hb2.mono hb1.size)⟩
    | false =>
      have hv : hashT ts = 4 := by rw [hashT, if_neg (by simp [h0]), if_neg (by rw [hr]; decide)]
      rw [hv]
      have HR := hide hr
      clear hv h0 hr
      go_enter Try.func54, Try.ntmps54
      go_wp2_with fail
      refine HZ.out.mono ?_
      rintro e w1 ⟨rfl, hb1⟩
      go_wp2_with fail
      refine (riseP_any a cap ts w1 (HS.out.below hb1) (by omega)).mono ?_
      rintro e w2 ⟨rfl, hb2⟩
      rw [HR.out]
      go_wp2_with fail
      go_ret
      exact ⟨rfl, hb1.trans (hb2.mono hb1.size)⟩
  · have hv : hashT ts = sizeT ts.length (ts.any longP) := by rw [hashT, if_pos h0]
    have hb : (sizeT ts.length (ts.any longP) == 0) = false := by rw [beq_eq_false_iff_ne]; exact h0
    have hn : (sizeT ts.length (ts.any longP) != 0) = true := by rw [bne_iff_ne]; exact h0
    rw [hv]
    clear hv
    generalize sizeT ts.length (ts.any longP) = Z at *
    go_enter Try.func54, Try.ntmps54
    go_wp2_with fail
    refine HZ.out.mono ?_
    rintro e w1 ⟨rfl, hb1⟩
    go_wp2_with fail
    go_ret
    exact ⟨rfl, hb1⟩

set_option maxRecDepth 100000 in
set_option maxHeartbeats 1000000 in
theorem checkScores_any (a : Option Addr) (cap : Nat) (ts : List (Int × ByteArray)) (w : World) (hs : ScoresAt w a ts) (hsz : ∀ x ∈ ts, x.2.size ≤ maxLen) :
    Calls Try.prog 55 #[.slice a ts.length cap] w fun e w' => e = .returned (.int .i64 (scoreT ts)) ∧ Below w.heap.size w w' := by
  have HZ := hide (checkSizeS_any a cap ts w hs)
  have HS := hide hs
  have HL := hide hsz
  clear hs hsz
  by_cases h0 : sizeT ts.length (ts.any longS) = 0
  · have hsm := sizeT_small h0
    rw [h0] at HZ
    have hv0 : scoreT ts = if ts.any outS = true then 3 else if twiceS ts = true then 6 else if riseTo cmpS ts ts.length = true then 0 else 4 := by
      rw [scoreT, if_neg (by simp [h0])]
    rw [hv0]
    clear hv0 h0
    have HO : Hid (∀ W, Below w.heap.size w W → Calls Try.prog 64 #[.slice a ts.length cap, .func (.func 65) #[] #[]] W fun e w' => e = .returned (.bool (ts.any outS)) ∧ Below W.heap.size W w') := fun W hW => containsOutS_any a cap ts W (HS.out.below hW) (by omega)
    have HT : Hid (∀ W, Below w.heap.size w W → Calls Try.prog 66 #[.slice a ts.length cap] W fun e w' => e = .returned (.bool (twiceS ts)) ∧ Below W.heap.size W w') := fun W hW => hasTwice_any a cap ts W (HS.out.below hW) (by omega) HL.out
    have HR : Hid (∀ W, Below w.heap.size w W → Calls Try.prog 67 #[.slice a ts.length cap, .func (.func 68) #[] #[]] W fun e w' => e = .returned (.bool (riseTo cmpS ts ts.length)) ∧ Below W.heap.size W w') := fun W hW => riseS_any a cap ts W (HS.out.below hW) (by omega)
    clear HS HL
    generalize ts.any outS = B1 at *
    generalize twiceS ts = B2 at *
    generalize riseTo cmpS ts ts.length = B3 at *
    go_enter Try.func55, Try.ntmps55
    go_wp2_with fail
    refine HZ.out.mono ?_
    rintro e w1 ⟨rfl, hb1⟩
    go_wp2_with fail
    refine (HO.out w1 hb1).mono ?_
    rintro e w2 ⟨rfl, hb2⟩
    have hB2 : Below w.heap.size w w2 := hb1.trans (hb2.mono hb1.size)
    cases B1 with
    | true =>
      go_wp2_with fail
      go_ret
      exact ⟨rfl, hB2⟩
    | false =>
      go_wp2_with fail
      refine (HT.out w2 hB2).mono ?_
      rintro e w3 ⟨rfl, hb3⟩
      have hB3 : Below w.heap.size w w3 := hB2.trans (hb3.mono hB2.size)
      cases B2 with
      | true =>
        go_wp2_with fail
        go_ret
        exact ⟨rfl, hB3⟩
      | false =>
        go_wp2_with fail
        refine (HR.out w3 hB3).mono ?_
        rintro e w4 ⟨rfl, hb4⟩
        have hB4 : Below w.heap.size w w4 := hB3.trans (hb4.mono hB3.size)
        cases B3 with
        | true =>
          go_wp2_with fail
          go_ret
          exact ⟨rfl, hB4⟩
        | false =>
          go_wp2_with fail
          go_ret
          exact ⟨rfl, hB4⟩
  · have hv : scoreT ts = sizeT ts.length (ts.any longS) := by rw [scoreT, if_pos h0]
    have hb : (sizeT ts.length (ts.any longS) == 0) = false := by rw [beq_eq_false_iff_ne]; exact h0
    have hn : (sizeT ts.length (ts.any longS) != 0) = true := by rw [bne_iff_ne]; exact h0
    rw [hv]
    clear hv
    generalize sizeT ts.length (ts.any longS) = Z at *
    go_enter Try.func55, Try.ntmps55
    go_wp2_with fail
    refine HZ.out.mono ?_
    rintro e w1 ⟨rfl, hb1⟩
    go_wp2_with fail
    go_ret
    exact ⟨rfl, hb1⟩
end Go.Proofs.Ytolpmaapdkhigac
