/- Hashes as plain data: a pair put in its place, as the reference puts it; rows of pairs that are stored into. -/
import Derived.Test.YtnobcdhlagfhmaaHPl
import Derived.Test.YtnobcdhlagfhmaaHCat
import Derived.Laws.OwnMore
import Derived.Handy
namespace Go.Proofs.Ytnobcdhlagfhmaa
open Go.RowKit

theorem lessT_not {a : ByteArray} {b : ByteArray} (h : lessT a b) : ¬ cmpT b a < 0 := fun h2 => lessT_irrefl _ (lessT_trans h ((cmpT_lt _ _).1 h2))
theorem putP_set : ∀ {M : List Pr} {p : Pr} {i : Nat}, RisesP M → (hi : i < M.length) → M[i].1 = p.1 → M.set i p = putP M p
  | [], p, i, _, hi, _ => absurd hi (by simp)
  | a :: r, p, 0, h, _, e => by
    have e : a.1 = p.1 := e
    rw [putP, if_neg (fun hc => lessT_irrefl p.1 (by have := (cmpT_lt _ _).1 hc; rwa [e] at this)), if_pos e]
    rfl
  | a :: r, p, i + 1, h, hi, e => by
    have h' := List.pairwise_cons.1 h
    have hi' : i < r.length := by simpa using hi
    have e : r[i].1 = p.1 := e
    have hlt : lessT a.1 p.1 := by rw [← e]; exact h'.1 _ (List.getElem_mem hi')
    rw [putP, if_pos ((cmpT_lt _ _).2 hlt), List.set_cons_succ, putP_set h'.2 hi' e]
/-- a pair laid at a place -/
def insAt (M : List Pr) (k : Nat) (p : Pr) : List Pr := M.take k ++ p :: M.drop k
theorem insAt_len {M : List Pr} {k : Nat} {p : Pr} (hk : k ≤ M.length) : (insAt M k p).length = M.length + 1 := by
  simp [insAt]; omega
theorem insAt_all (M : List Pr) (p : Pr) : insAt M M.length p = M ++ [p] := by simp [insAt]
theorem insAt_at {M : List Pr} {k : Nat} {p : Pr} (hk : k < M.length) : (insAt M (k + 1) p)[k]? = some M[k] ∧ (insAt M (k + 1) p)[k + 1]? = some p := by
  unfold insAt
  constructor
  · rw [List.getElem?_append_left (by simp; omega), List.getElem?_take, if_pos (by omega), List.getElem?_eq_getElem hk]
  · rw [List.getElem?_append_right (by simp; omega)]
    simp [show k + 1 ≤ M.length by omega]
theorem insAt_swap {M : List Pr} {k : Nat} {p : Pr} (hk : k < M.length) : ((insAt M (k + 1) p).set (k + 1) M[k]).set k p = insAt M k p := by
  have e1 : M.take (k + 1) = M.take k ++ [M[k]] := List.take_succ_eq_append_getElem hk
  have e2 : M.drop k = M[k] :: M.drop (k + 1) := List.drop_eq_getElem_cons hk
  have hl : (M.take k).length = k := by simp; omega
  unfold insAt
  rw [e1, e2, List.append_assoc]
  generalize hA : M.take k = A at *
  rw [List.set_append_right _ _ (by omega), List.set_append_right _ _ (by omega), hl]
  simp [show k + 1 - k = 1 by omega]
theorem putP_ins : ∀ {M : List Pr} {p : Pr} {k : Nat}, RisesP M → (∀ q ∈ M, q.1 ≠ p.1) → k ≤ M.length → (∀ j (hj : j < M.length), k ≤ j → lessT p.1 M[j].1) → (∀ j (hj : j < M.length), j + 1 = k → ¬ lessT p.1 M[j].1) → insAt M k p = putP M p
  | [], p, k, _, _, hk, _, _ => by
    obtain rfl : k = 0 := by simpa using hk
    rfl
  | a :: r, p, 0, h, hn, _, h2, _ => by
    have hlt : lessT p.1 a.1 := h2 0 (by simp) (Nat.le_refl _)
    rw [putP, if_neg (lessT_not hlt), if_neg (hn a (by simp))]
    rfl
  | a :: r, p, k + 1, h, hn, hk, h2, h3 => by
    have h' := List.pairwise_cons.1 h
    have hk' : k ≤ r.length := by simpa using hk
    have hat : lessT ((a :: r)[k]'(by simp; omega)).1 p.1 := by
      rcases lessT_or ((a :: r)[k]'(by simp; omega)).1 p.1 with h1 | h1 | h1
      · exact h1
      · exact absurd h1 (hn _ (List.getElem_mem _))
      · exact absurd h1 (h3 k (by simp; omega) rfl)
    have hlt : lessT a.1 p.1 := by
      cases k with
      | zero => exact hat
      | succ k => exact lessT_trans (h'.1 _ (List.getElem_mem (show k < r.length by omega))) hat
    have ih := putP_ins (p := p) (k := k) h'.2 (fun q hq => hn q (by simp [hq])) hk' (fun j hj h1 => h2 (j + 1) (by simpa using hj) (by omega)) (fun j hj h1 => h3 (j + 1) (by simpa using hj) (by omega))
    rw [putP, if_pos ((cmpT_lt _ _).2 hlt), ← ih]
    rfl
theorem rowP_set : ∀ (l : List Pr) (i : Nat) (p : Pr), i < l.length → ((rowP l).set (i * 2) (.string p.1)).set (i * 2 + 1) (.string p.2) = rowP (l.set i p)
  | [], i, p, hi => absurd hi (by simp)
  | a :: r, 0, p, _ => rfl
  | a :: r, i + 1, p, hi => by
    have e : ∀ (b : Pr) (m : List Pr), rowP (b :: m) = .string b.1 :: .string b.2 :: rowP m := fun _ _ => rfl
    rw [List.set_cons_succ, e, e, ← rowP_set r i p (by simpa using hi), show (i + 1) * 2 = i * 2 + 1 + 1 by omega]
    rfl
theorem ownP_set {w : World} {base g n cap : Nat} {l : List Pr} (h : w.ownsRow base 37 2 (.slice (some ⟨g, 0, none⟩) n cap) n (rowP l)) (i : Nat) (hi : i < l.length) (p : Pr) :
    ((w.setCell ⟨g, i * 2, none⟩ (.string p.1)).setCell ⟨g, i * 2 + 1, none⟩ (.string p.2)).ownsRow base 37 2 (.slice (some ⟨g, 0, none⟩) n cap) n (rowP (l.set i p)) := by
  have h1 := ((h.stored (i * 2) (.string p.1)).1.stored (i * 2 + 1) (.string p.2)).1
  rwa [rowP_set l i p hi] at h1
theorem ownP_shape {w : World} {base n : Nat} {v : Value} {l : List Pr} (h : w.ownsRow base 37 2 v n (rowP l)) (hn : 0 < n) : ∃ g cap, v = .slice (some ⟨g, 0, none⟩) n cap ∧ base ≤ g ∧ g < w.heap.size := by
  have hl := h.lt
  rcases h.2 with ⟨_, h0⟩ | ⟨g, cap, cur, h1, hg, -⟩
  · omega
  · subst h1
    exact ⟨g, cap, rfl, hg, (hl g rfl).2⟩
theorem ownP_head {w : World} {base n cap : Nat} {a : Option Addr} {l : List Pr} (h : w.ownsRow base 37 2 (.slice a n cap) n (rowP l)) (hn : 0 < n) : ∃ g, a = some ⟨g, 0, none⟩ ∧ base ≤ g ∧ g < w.heap.size := by
  obtain ⟨g, c, h1, h2, h3⟩ := ownP_shape h hn
  obtain ⟨rfl, -⟩ : a = some ⟨g, 0, none⟩ ∧ cap = c := by simpa using h1
  exact ⟨g, rfl, h2, h3⟩
theorem ownP_at {w : World} {base g n cap : Nat} {l : List Pr} (h : w.ownsRow base 37 2 (.slice (some ⟨g, 0, none⟩) n cap) n (rowP l)) {i : Nat} {p : Pr} (hi : l[i]? = some p) : w.cell? ⟨g, i * 2, none⟩ = some (.string p.1) ∧ w.cell? ⟨g, i * 2 + 1, none⟩ = some (.string p.2) := by
  have h1 := h.1
  rw [rowP_len] at h1
  obtain ⟨hl, rfl⟩ := List.getElem?_eq_some_iff.1 hi
  obtain ⟨r1, r2⟩ := rowP_at l i hl
  exact ⟨by rw [h.cellAt _ (by omega)]; exact r1, by rw [h.cellAt _ (by omega)]; exact r2⟩
end Go.Proofs.Ytnobcdhlagfhmaa
