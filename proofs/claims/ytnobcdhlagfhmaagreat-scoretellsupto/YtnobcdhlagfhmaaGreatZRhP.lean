/- Rows of scores that are stored into; a score laid in its place, as the reference lays it. -/
import Derived.Test.YtnobcdhlagfhmaaGreatZPl
import Derived.Test.YtnobcdhlagfhmaaGreatZCat
import Derived.Laws.OwnMore
import Derived.Handy
namespace Go.Proofs.YtnobcdhlagfhmaaGreat.Z
open Go.RowKit

/-- a pair laid at a place -/
def insAt (M : List Sc) (k : Nat) (p : Sc) : List Sc := M.take k ++ p :: M.drop k
theorem insAt_len {M : List Sc} {k : Nat} {p : Sc} (hk : k ≤ M.length) : (insAt M k p).length = M.length + 1 := by
  simp [insAt]; omega
theorem insAt_all (M : List Sc) (p : Sc) : insAt M M.length p = M ++ [p] := by simp [insAt]
theorem insAt_at {M : List Sc} {k : Nat} {p : Sc} (hk : k < M.length) : (insAt M (k + 1) p)[k]? = some M[k] ∧ (insAt M (k + 1) p)[k + 1]? = some p := by
  unfold insAt
  constructor
  · rw [List.getElem?_append_left (by simp; omega), List.getElem?_take, if_pos (by omega), List.getElem?_eq_getElem hk]
  · rw [List.getElem?_append_right (by simp; omega)]
    simp [show k + 1 ≤ M.length by omega]
theorem insAt_swap {M : List Sc} {k : Nat} {p : Sc} (hk : k < M.length) : ((insAt M (k + 1) p).set (k + 1) M[k]).set k p = insAt M k p := by
  have e1 : M.take (k + 1) = M.take k ++ [M[k]] := List.take_succ_eq_append_getElem hk
  have e2 : M.drop k = M[k] :: M.drop (k + 1) := List.drop_eq_getElem_cons hk
  have hl : (M.take k).length = k := by simp; omega
  unfold insAt
  rw [e1, e2, List.append_assoc]
  generalize hA : M.take k = A at *
  rw [List.set_append_right _ _ (by omega), List.set_append_right _ _ (by omega), hl]
  simp [show k + 1 - k = 1 by omega]
theorem lessS_not {a b : Sc} (h : lessS a b) : ¬ cmpS b a < 0 := fun h2 => lessS_irrefl _ (lessS_trans h ((cmpS_lt _ _).1 h2))
theorem insS_ins : ∀ {M : List Sc} {p : Sc} {k : Nat}, RisesS M → k ≤ M.length → (∀ j (hj : j < M.length), k ≤ j → lessS p M[j]) → (∀ j (hj : j < M.length), j + 1 = k → ¬ lessS p M[j]) → insAt M k p = insS M p
  | [], p, k, _, hk, _, _ => by
    obtain rfl : k = 0 := by simpa using hk
    rfl
  | a :: r, p, 0, h, _, h2, _ => by
    have hlt : lessS p a := h2 0 (by simp) (Nat.le_refl _)
    rw [insS, if_pos ((cmpS_lt _ _).2 hlt)]
    rfl
  | a :: r, p, k + 1, h, hk, h2, h3 => by
    have h' := List.pairwise_cons.1 h
    have hk' : k ≤ r.length := by simpa using hk
    have hn : ¬ lessS p ((a :: r)[k]'(by simp; omega)) := h3 k (by simp; omega) rfl
    have hna : ¬ lessS p a := fun hl => by
      cases k with
      | zero => exact hn hl
      | succ k => exact hn (lessS_trans hl (h'.1 _ (List.getElem_mem (show k < r.length by omega))))
    have ih := insS_ins (p := p) (k := k) h'.2 hk' (fun j hj h1 => h2 (j + 1) (by simpa using hj) (by omega)) (fun j hj h1 => h3 (j + 1) (by simpa using hj) (by omega))
    rw [insS, if_neg (fun hc => hna ((cmpS_lt _ _).1 hc)), ← ih]
    rfl
theorem rowP_set : ∀ (l : List Sc) (i : Nat) (p : Sc), i < l.length → ((rowP l).set (i * 2) (.int .i64 p.1)).set (i * 2 + 1) (.string p.2) = rowP (l.set i p)
  | [], i, p, hi => absurd hi (by simp)
  | a :: r, 0, p, _ => rfl
  | a :: r, i + 1, p, hi => by
    have e : ∀ (b : Sc) (m : List Sc), rowP (b :: m) = .int .i64 b.1 :: .string b.2 :: rowP m := fun _ _ => rfl
    rw [List.set_cons_succ, e, e, ← rowP_set r i p (by simpa using hi), show (i + 1) * 2 = i * 2 + 1 + 1 by omega]
    rfl
theorem ownP_set {w : World} {base g n cap : Nat} {l : List Sc} (h : w.ownsRow base 36 2 (.slice (some ⟨g, 0, none⟩) n cap) n (rowP l)) (i : Nat) (hi : i < l.length) (p : Sc) :
    ((w.setCell ⟨g, i * 2, none⟩ (.int .i64 p.1)).setCell ⟨g, i * 2 + 1, none⟩ (.string p.2)).ownsRow base 36 2 (.slice (some ⟨g, 0, none⟩) n cap) n (rowP (l.set i p)) := by
  have h1 := ((h.stored (i * 2) (.int .i64 p.1)).1.stored (i * 2 + 1) (.string p.2)).1
  rwa [rowP_set l i p hi] at h1
theorem ownP_shape {w : World} {base n : Nat} {v : Value} {l : List Sc} (h : w.ownsRow base 36 2 v n (rowP l)) (hn : 0 < n) : ∃ g cap, v = .slice (some ⟨g, 0, none⟩) n cap ∧ base ≤ g ∧ g < w.heap.size := by
  have hl := h.lt
  rcases h.2 with ⟨_, h0⟩ | ⟨g, cap, cur, h1, hg, -⟩
  · omega
  · subst h1
    exact ⟨g, cap, rfl, hg, (hl g rfl).2⟩
theorem ownP_head {w : World} {base n cap : Nat} {a : Option Addr} {l : List Sc} (h : w.ownsRow base 36 2 (.slice a n cap) n (rowP l)) (hn : 0 < n) : ∃ g, a = some ⟨g, 0, none⟩ ∧ base ≤ g ∧ g < w.heap.size := by
  obtain ⟨g, c, h1, h2, h3⟩ := ownP_shape h hn
  obtain ⟨rfl, -⟩ : a = some ⟨g, 0, none⟩ ∧ cap = c := by simpa using h1
  exact ⟨g, rfl, h2, h3⟩
theorem ownP_at {w : World} {base g n cap : Nat} {l : List Sc} (h : w.ownsRow base 36 2 (.slice (some ⟨g, 0, none⟩) n cap) n (rowP l)) {i : Nat} {p : Sc} (hi : l[i]? = some p) : w.cell? ⟨g, i * 2, none⟩ = some (.int .i64 p.1) ∧ w.cell? ⟨g, i * 2 + 1, none⟩ = some (.string p.2) := by
  have h1 := h.1
  rw [rowP_len] at h1
  obtain ⟨hl, rfl⟩ := List.getElem?_eq_some_iff.1 hi
  obtain ⟨r1, r2⟩ := rowP_at l i hl
  exact ⟨by rw [h.cellAt _ (by omega)]; exact r1, by rw [h.cellAt _ (by omega)]; exact r2⟩
end Go.Proofs.YtnobcdhlagfhmaaGreat.Z
