/- PLAIN facts: what is encoded is decoded as it was, and nothing else is. -/
import Derived.Test.YtolpmaapdkhigaaDoorDec7
import Derived.Test.YtolpmaapdkhigaaDoorEnc2
import Derived.Test.YtolpmaapdkhigaaDoorNumP
import Derived.Lib.ItoaMem
import Derived.Lib.AtoiAllCases
namespace Go.Proofs.YtolpmaapdkhigaaDoor
open Go.RowKit

theorem pLine_mk : ∀ (x q : List UInt8), (∀ c ∈ x, c ≠ 13) → pLine (x ++ 13 :: 10 :: q) = .ok (x, q)
  | [], q, _ => by simp [pLine, hasLE]
  | c :: x, q, h => by
    have h1 : hasLE (c :: (x ++ 13 :: 10 :: q)) = false := by
      unfold hasLE
      split
      · rename_i heq
        simp at heq
        exact absurd heq.1 (h c (by simp))
      · rfl
    rw [List.cons_append, pLine, if_neg (by rw [h1]; decide), pLine_mk x q (fun d hd => h d (by simp [hd]))]
theorem pLine_inv : ∀ (l x q : List UInt8), pLine l = .ok (x, q) → l = x ++ 13 :: 10 :: q
  | [], x, q, h => by simp [pLine] at h
  | c :: r, x, q, h => by
    rw [pLine] at h
    split at h
    · rename_i hh
      simp at h
      obtain ⟨rfl, rfl⟩ := h
      unfold hasLE at hh
      split at hh
      · rename_i heq
        simp at heq
        obtain ⟨rfl, rfl⟩ := heq
        rfl
      · simp at hh
    · split at h
      · simp at h
      · rename_i x' q' he
        simp at h
        obtain ⟨rfl, rfl⟩ := h
        rw [pLine_inv r _ _ he]
        rfl

theorem pNumber_mk (n : Int) (q : List UInt8) (h0 : -999999999 ≤ n) (h1 : n ≤ 999999999) : pNumber (Lib.itoa n ++ 13 :: 10 :: q) = .ok (n, q) := by
  rw [pNumber, pLine_mk _ _ (itoa_no13 n)]
  simp only [pInt_itoa n h0 h1]
theorem pNumber_inv {l q : List UInt8} {v : Int} (h : pNumber l = .ok (v, q)) : l = Lib.itoa v ++ 13 :: 10 :: q := by
  unfold pNumber at h
  split at h
  · simp at h
  · rename_i x q' he
    split at h
    · rename_i v' hv
      simp at h
      obtain ⟨rfl, rfl⟩ := h
      rw [(pInt_inv hv).1]
      exact pLine_inv _ _ _ he
    · simp at h
end Go.Proofs.YtolpmaapdkhigaaDoor
