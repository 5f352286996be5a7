/- What Pop does with lists, as plain data. -/
import Derived.Test.YtolpmaapdkhigacLst5
import Derived.Test.YtolpmaapdkhigacLst6
import Derived.Handy
namespace Go.Proofs.Ytolpmaapdkhigac
open Go.RowKit

theorem lst_as {l : List ByteArray} (h : l.length ≤ 24) (hl : l.any longT = false) : asI (lstI l) 2 = 0 := by
  by_cases hn : l = []
  · subst hn
    rw [asI, if_pos (by simp [lstI, Itm.isNone, Itm.none, ByteArray.toList_eq])]
  · have e : lstI l = ⟨2, ⟨#[]⟩, l, [], []⟩ := by rw [lstI, if_neg hn]
    have hp : 0 < l.length := List.length_pos_iff.2 hn
    have h1 : chkI ⟨2, ⟨#[]⟩, l, [], []⟩ = 0 := by
      unfold chkI
      rw [if_neg (show ¬ ((2 : Int) < 1 ∨ 5 < (2 : Int)) by decide), if_neg (by simp [otherI, ByteArray.toList_eq]), if_pos rfl]
      unfold sizeT
      rw [if_neg (by simp only; omega), if_neg (by rw [hl]; rintro (h' | h'); simp only at h'; omega; cases h')]
    rw [e]
    unfold asI
    split
    · rfl
    · rw [if_neg (by simp [h1]), if_neg (by simp)]
theorem lstI_l' (l : List ByteArray) : (lstI l).l = l := by
  unfold lstI
  split
  · rename_i h; rw [h]; rfl
  · rfl
theorem kept_struck (l : List ByteArray) (m : Nat) : ∀ k, k ≤ l.length → keptTo (fun i _ => decide (i = m)) l k = if k ≤ m then l.take k else l.take m ++ (l.take k).drop (m + 1)
  | 0, _ => by simp [keptTo]
  | k + 1, hk => by
    have ih := kept_struck l m k (by omega)
    have ht : l.take (k + 1) = l.take k ++ [l[k]] := by rw [List.take_append_getElem]
    by_cases hm : k = m
    · rw [keptTo_go (by omega) (by simp [hm]), ih, if_pos (by omega), if_neg (by omega), hm]
      rw [List.drop_of_length_le (by rw [List.length_take]; omega), List.append_nil]
    · rw [keptTo_stay (by omega) (by simp [hm]), ih]
      by_cases h : k < m
      · rw [if_pos (by omega), if_pos (by omega), ht]
      · rw [if_neg (by omega), if_neg (by omega), ht, List.drop_append_of_le_length (by rw [List.length_take]; omega), List.append_assoc]
theorem popK_front (t : ByteArray) (M : List ByteArray) : popK (t :: M) true = M := by
  rw [popK, show popAt true (t :: M) = 0 from rfl, kept_struck _ _ _ (Nat.le_refl _), if_neg (by simp), List.take_length]
  rfl
theorem popK_back (t : ByteArray) (M : List ByteArray) : popK (M ++ [t]) false = M := by
  have e : popAt false (M ++ [t]) = M.length := by simp [popAt]
  rw [popK, e, kept_struck _ _ _ (Nat.le_refl _), if_neg (by simp), List.take_length]
  rw [List.take_left, List.drop_of_length_le (by simp), List.append_nil]
theorem pop_lst {L : List ByteArray} (hn : L ≠ []) (h : L.length ≤ 24) (hl : L.any longT = false) (left : Bool) : popE (lstI L) = 0 ∧ popS (lstI L) left = L[popAt left L]! ∧ popI (lstI L) left = lstI (popK L left) := by
  have hE : popE (lstI L) = 0 := by rw [popE, if_neg (by simp [lst_as h hl]), lstI_l', if_neg hn]
  refine ⟨hE, ?_, ?_⟩
  · rw [popS, if_pos hE, lstI_l']
  · rw [popI, if_pos hE, lstI_l']
theorem pop_front {t : ByteArray} {M : List ByteArray} (h : (t :: M).length ≤ 24) (hl : (t :: M).any longT = false) : popE (lstI (t :: M)) = 0 ∧ popS (lstI (t :: M)) true = t ∧ popI (lstI (t :: M)) true = lstI M := by
  obtain ⟨a, b, c⟩ := pop_lst (by simp) h hl true
  refine ⟨a, ?_, ?_⟩
  · rw [b]; rfl
  · rw [c, popK_front]
theorem pop_back {t : ByteArray} {M : List ByteArray} (h : (M ++ [t]).length ≤ 24) (hl : (M ++ [t]).any longT = false) : popE (lstI (M ++ [t])) = 0 ∧ popS (lstI (M ++ [t])) false = t ∧ popI (lstI (M ++ [t])) false = lstI M := by
  obtain ⟨a, b, c⟩ := pop_lst (by simp) h hl false
  refine ⟨a, ?_, ?_⟩
  · rw [b]
    have e : popAt false (M ++ [t]) = M.length := by simp [popAt]
    rw [e, getElem!_pos _ _ (by simp)]
    simp
  · rw [c, popK_back]
theorem any_take {l : List ByteArray} {n : Nat} (h : l.any longT = false) : (l.take n).any longT = false := by
  rw [List.any_eq_false] at h ⊢
  exact fun x hx => h x (List.mem_of_mem_take hx)
theorem any_drop {l : List ByteArray} {n : Nat} (h : l.any longT = false) : (l.drop n).any longT = false := by
  rw [List.any_eq_false] at h ⊢
  exact fun x hx => h x (List.mem_of_mem_drop hx)
theorem any_push {there l : List ByteArray} {left : Bool} (h : there.any longT = false) (hl : l.any longT = false) : (pushL there left l).any longT = false := by
  unfold pushL
  split
  · rw [List.any_append, List.any_reverse, h, hl]; rfl
  · rw [List.any_append, h, hl]; rfl
theorem len_push (there l : List ByteArray) (left : Bool) : (pushL there left l).length = there.length + l.length := by
  unfold pushL
  split <;> simp <;> omega
/-- what was pushed last goes first -/
theorem pop_pushed {there l : List ByteArray} {left : Bool} {j : Nat} (hj : j < l.length) (hn : there.length + l.length ≤ 24) (ht : there.any longT = false) (hl : l.any longT = false) :
    popE (lstI (pushL there left (l.take (j + 1)))) = 0 ∧ popS (lstI (pushL there left (l.take (j + 1)))) left = l[j] ∧ popI (lstI (pushL there left (l.take (j + 1)))) left = lstI (pushL there left (l.take j)) := by
  have hz : (pushL there left (l.take (j + 1))).length ≤ 24 := by rw [len_push, List.length_take]; omega
  have ha : (pushL there left (l.take (j + 1))).any longT = false := any_push ht (any_take hl)
  have et : l.take (j + 1) = l.take j ++ [l[j]] := by rw [List.take_append_getElem]
  rw [et] at hz ha ⊢
  cases left with
  | true =>
    have e : pushL there true (l.take j ++ [l[j]]) = l[j] :: pushL there true (l.take j) := by unfold pushL; rw [if_pos rfl, if_pos rfl, List.reverse_append]; rfl
    rw [e] at hz ha ⊢
    exact pop_front hz ha
  | false =>
    have e : pushL there false (l.take j ++ [l[j]]) = pushL there false (l.take j) ++ [l[j]] := by unfold pushL; rw [if_neg (by decide), if_neg (by decide), List.append_assoc]
    rw [e] at hz ha ⊢
    exact pop_back hz ha
/-- from the other end what was pushed first goes first -/
theorem pop_other {l : List ByteArray} {left : Bool} {j : Nat} (hj : j < l.length) (hn : l.length ≤ 24) (hl : l.any longT = false) :
    popE (lstI (pushL [] left (l.drop j))) = 0 ∧ popS (lstI (pushL [] left (l.drop j))) (!left) = l[j] ∧ popI (lstI (pushL [] left (l.drop j))) (!left) = lstI (pushL [] left (l.drop (j + 1))) := by
  have hz : (pushL [] left (l.drop j)).length ≤ 24 := by rw [len_push, List.length_drop]; simp only [List.length_nil]; omega
  have ha : (pushL [] left (l.drop j)).any longT = false := any_push rfl (any_drop hl)
  have et : l.drop j = l[j] :: l.drop (j + 1) := List.drop_eq_getElem_cons hj
  rw [et] at hz ha ⊢
  cases left with
  | true =>
    have e : pushL [] true (l[j] :: l.drop (j + 1)) = pushL [] true (l.drop (j + 1)) ++ [l[j]] := by simp [pushL]
    rw [e] at hz ha ⊢
    exact pop_back hz ha
  | false =>
    have e : pushL [] false (l[j] :: l.drop (j + 1)) = l[j] :: pushL [] false (l.drop (j + 1)) := by simp [pushL]
    rw [e] at hz ha ⊢
    exact pop_front hz ha
theorem push_none (there : List ByteArray) (left : Bool) : pushL there left [] = there := by
  unfold pushL
  split <;> simp
theorem pushE_zero {x : Itm} {l : List ByteArray} (h : pushE x l = 0) : asI x 2 = 0 ∧ x.l.length + l.length ≤ 24 ∧ l.any longT = false ∧ l ≠ [] := by
  unfold pushE at h
  split at h
  · rename_i h1; exact absurd h h1
  · rename_i h1
    split at h
    · cases h
    · rename_i h2
      split at h
      · cases h
      · rename_i h3
        refine ⟨Classical.byContradiction h1, by omega, ?_, h3⟩
        cases hb : l.any longT
        · rfl
        · exact absurd (Or.inr hb) h2
end Go.Proofs.Ytolpmaapdkhigac
