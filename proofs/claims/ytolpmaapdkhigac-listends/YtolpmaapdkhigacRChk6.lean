/- The reference's check of an item, whole. -/
import Derived.Test.YtolpmaapdkhigacRChk3
import Derived.Test.YtolpmaapdkhigacRChk4
import Derived.Test.YtolpmaapdkhigacRChk5
import Derived.Test.YtolpmaapdkhigacIChk10
namespace Go.Proofs.Ytolpmaapdkhigac
open Go.RowKit

theorem empty_bytes {t : ByteArray} (h : t.toList = []) : t = ⟨#[]⟩ := bytes_inj' (by rw [h, ByteArray.toList_eq])
theorem refCheck_any (v : Value) (x : Itm) (w : World) (h : ItemIs w v x) :
    Calls Try.prog 33 #[v] w fun e w' => e = .returned (.int .i64 (chkI x)) ∧ Below w.heap.size w w' := by
  obtain ⟨⟨a1, c1, a2, c2, a3, c3, rfl, h1, h2, h3⟩, tz, lz, pz, sz, ll, pl, sl⟩ := h
  obtain ⟨k, t, l, p, s⟩ := x
  simp only at *
  by_cases h0 : k < 1 ∨ 5 < k
  · rw [show chkI ⟨k, t, l, p, s⟩ = 7 by rw [chkI, if_pos h0]]
    exact refC_bad k t a1 a2 a3 c1 c2 c3 _ _ _ w h0
  cases ho : otherI ⟨k, t, l, p, s⟩ with
  | true =>
    rw [show chkI ⟨k, t, l, p, s⟩ = 1 by rw [chkI, if_neg h0, if_pos ho]]
    have ho' := of_decide_eq_true ho
    simp only at ho'
    have hkk : k = 1 ∨ k = 2 ∨ k = 3 ∨ k = 4 ∨ k = 5 := by omega
    rcases hkk with rfl | rfl | rfl | rfl | rfl
    · by_cases hl : 0 < l.length
      · exact refC_o1l t _ _ _ a1 a2 a3 c1 c2 c3 w hl
      · obtain rfl : l = [] := List.eq_nil_of_length_eq_zero (by omega)
        by_cases hp : 0 < p.length
        · exact refC_o1p t _ _ a1 a2 a3 c1 c2 c3 w hp
        · obtain rfl : p = [] := List.eq_nil_of_length_eq_zero (by omega)
          have hs : 0 < s.length := by simpa using ho'
          exact refC_o1s t _ a1 a2 a3 c1 c2 c3 w hs
    · by_cases ht : t.toList = []
      · obtain rfl := empty_bytes ht
        by_cases hp : 0 < p.length
        · exact refC_o2p _ _ _ a1 a2 a3 c1 c2 c3 w hp
        · obtain rfl : p = [] := List.eq_nil_of_length_eq_zero (by omega)
          have hs : 0 < s.length := by simpa using ho'
          exact refC_o2s _ _ a1 a2 a3 c1 c2 c3 w hs
      · exact refC_o2t t _ _ _ a1 a2 a3 c1 c2 c3 w ht
    · by_cases ht : t.toList = []
      · obtain rfl := empty_bytes ht
        by_cases hp : 0 < p.length
        · exact refC_o3p _ _ _ a1 a2 a3 c1 c2 c3 w hp
        · obtain rfl : p = [] := List.eq_nil_of_length_eq_zero (by omega)
          have hs : 0 < s.length := by simpa using ho'
          exact refC_o3s _ _ a1 a2 a3 c1 c2 c3 w hs
      · exact refC_o3t t _ _ _ a1 a2 a3 c1 c2 c3 w ht
    · by_cases ht : t.toList = []
      · obtain rfl := empty_bytes ht
        by_cases hl : 0 < l.length
        · exact refC_o4l _ _ _ a1 a2 a3 c1 c2 c3 w hl
        · obtain rfl : l = [] := List.eq_nil_of_length_eq_zero (by omega)
          have hs : 0 < s.length := by simpa using ho'
          exact refC_o4s _ _ a1 a2 a3 c1 c2 c3 w hs
      · exact refC_o4t t _ _ _ a1 a2 a3 c1 c2 c3 w ht
    · by_cases ht : t.toList = []
      · obtain rfl := empty_bytes ht
        by_cases hl : 0 < l.length
        · exact refC_o5l _ _ _ a1 a2 a3 c1 c2 c3 w hl
        · obtain rfl : l = [] := List.eq_nil_of_length_eq_zero (by omega)
          have hp : 0 < p.length := by simpa using ho'
          exact refC_o5p _ _ a1 a2 a3 c1 c2 c3 w hp
      · exact refC_o5t t _ _ _ a1 a2 a3 c1 c2 c3 w ht
  | false =>
    have hp : chkI ⟨k, t, l, p, s⟩ = if k = 2 then sizeT l.length (l.any longT) else if k = 3 then setT l else if k = 4 then hashT p else if k = 5 then scoreT s else if longT t = true then 2 else 0 := by
      rw [chkI, if_neg h0, if_neg (by rw [ho]; decide)]
    rw [hp]
    have ho' := of_decide_eq_false ho
    simp only at ho'
    have hkk : k = 1 ∨ k = 2 ∨ k = 3 ∨ k = 4 ∨ k = 5 := by omega
    rcases hkk with rfl | rfl | rfl | rfl | rfl
    · obtain rfl : l = [] := List.eq_nil_of_length_eq_zero (by by_cases hx : 0 < l.length; exact absurd (Or.inr (Or.inl ⟨by decide, hx⟩)) ho'; omega)
      obtain rfl : p = [] := List.eq_nil_of_length_eq_zero (by by_cases hx : 0 < p.length; exact absurd (Or.inr (Or.inr (Or.inl ⟨by decide, hx⟩))) ho'; omega)
      obtain rfl : s = [] := List.eq_nil_of_length_eq_zero (by by_cases hx : 0 < s.length; exact absurd (Or.inr (Or.inr (Or.inr ⟨by decide, hx⟩))) ho'; omega)
      rw [if_neg (by decide), if_neg (by decide), if_neg (by decide), if_neg (by decide)]
      exact refC_1 t a1 a2 a3 c1 c2 c3 w
    · obtain rfl := empty_bytes (t := t) (by by_cases ht : t.toList = []; exact ht; exact absurd (Or.inl ⟨by decide, ht⟩) ho')
      obtain rfl : p = [] := List.eq_nil_of_length_eq_zero (by by_cases hx : 0 < p.length; exact absurd (Or.inr (Or.inr (Or.inl ⟨by decide, hx⟩))) ho'; omega)
      obtain rfl : s = [] := List.eq_nil_of_length_eq_zero (by by_cases hx : 0 < s.length; exact absurd (Or.inr (Or.inr (Or.inr ⟨by decide, hx⟩))) ho'; omega)
      rw [if_pos rfl]
      exact refC_2 a1 a2 a3 c1 c2 c3 l w h1 ll
    · obtain rfl := empty_bytes (t := t) (by by_cases ht : t.toList = []; exact ht; exact absurd (Or.inl ⟨by decide, ht⟩) ho')
      obtain rfl : p = [] := List.eq_nil_of_length_eq_zero (by by_cases hx : 0 < p.length; exact absurd (Or.inr (Or.inr (Or.inl ⟨by decide, hx⟩))) ho'; omega)
      obtain rfl : s = [] := List.eq_nil_of_length_eq_zero (by by_cases hx : 0 < s.length; exact absurd (Or.inr (Or.inr (Or.inr ⟨by decide, hx⟩))) ho'; omega)
      rw [if_neg (by decide), if_pos rfl]
      exact refC_3 a1 a2 a3 c1 c2 c3 l w h1 ll lz
    · obtain rfl := empty_bytes (t := t) (by by_cases ht : t.toList = []; exact ht; exact absurd (Or.inl ⟨by decide, ht⟩) ho')
      obtain rfl : l = [] := List.eq_nil_of_length_eq_zero (by by_cases hx : 0 < l.length; exact absurd (Or.inr (Or.inl ⟨by decide, hx⟩)) ho'; omega)
      obtain rfl : s = [] := List.eq_nil_of_length_eq_zero (by by_cases hx : 0 < s.length; exact absurd (Or.inr (Or.inr (Or.inr ⟨by decide, hx⟩))) ho'; omega)
      rw [if_neg (by decide), if_neg (by decide), if_pos rfl]
      exact refC_4 a1 a2 a3 c1 c2 c3 p w h2 pl pz
    · obtain rfl := empty_bytes (t := t) (by by_cases ht : t.toList = []; exact ht; exact absurd (Or.inl ⟨by decide, ht⟩) ho')
      obtain rfl : l = [] := List.eq_nil_of_length_eq_zero (by by_cases hx : 0 < l.length; exact absurd (Or.inr (Or.inl ⟨by decide, hx⟩)) ho'; omega)
      obtain rfl : p = [] := List.eq_nil_of_length_eq_zero (by by_cases hx : 0 < p.length; exact absurd (Or.inr (Or.inr (Or.inl ⟨by decide, hx⟩))) ho'; omega)
      rw [if_neg (by decide), if_neg (by decide), if_neg (by decide), if_pos rfl]
      exact refC_5 a1 a2 a3 c1 c2 c3 s w h3 sl sz
end Go.Proofs.Ytolpmaapdkhigac
