/- What an item that is right has. -/
import Derived.Test.YtnobcdhlagfhmaaGreatIEncP
namespace Go.Proofs.YtnobcdhlagfhmaaGreat

theorem any_long_not {l : List ByteArray} (h : l.any longT = false) : ∀ t ∈ l, t.size ≤ 60 := fun t ht => by
  have := List.any_eq_false.1 h t ht
  simp only [longT, decide_eq_true_eq] at this
  omega
theorem any_longP_not {l : List (ByteArray × ByteArray)} (h : l.any longP = false) : ∀ t ∈ l, t.1.size ≤ 60 ∧ t.2.size ≤ 60 := fun t ht => by
  have := List.any_eq_false.1 h t ht
  simp only [longP, longT, Bool.or_eq_true, decide_eq_true_eq] at this
  omega
theorem any_longS_not {l : List (Int × ByteArray)} (h : l.any longS = false) : ∀ t ∈ l, t.2.size ≤ 60 := fun t ht => by
  have := List.any_eq_false.1 h t ht
  simp only [longS, longT, decide_eq_true_eq] at this
  omega
theorem any_outS_not {l : List (Int × ByteArray)} (h : ¬ l.any outS = true) : ∀ t ∈ l, -999999999 ≤ t.1 ∧ t.1 ≤ 999999999 := fun t ht => by
  have h' : l.any outS = false := by cases hb : l.any outS; rfl; exact absurd hb h
  have := List.any_eq_false.1 h' t ht
  simp only [outS, Bool.or_eq_true, decide_eq_true_eq] at this
  omega
/-- what an item that is right has -/
structure Right (x : Itm) : Prop where
  k1 : 1 ≤ x.k
  k5 : x.k ≤ 5
  tz : x.t.size ≤ 60
  lz : ∀ t ∈ x.l, t.size ≤ 60
  ln : x.l.length ≤ 24
  pz : ∀ t ∈ x.p, t.1.size ≤ 60 ∧ t.2.size ≤ 60
  pn : x.p.length ≤ 24
  sz : ∀ t ∈ x.s, t.2.size ≤ 60
  sr : ∀ t ∈ x.s, -999999999 ≤ t.1 ∧ t.1 ≤ 999999999
  sn : x.s.length ≤ 24
  ot : otherI x = false
theorem text_nil {t : ByteArray} (h : t.toList = []) : t.size = 0 := by
  rw [ByteArray.toList_eq] at h
  have := congrArg List.length h
  rw [Array.length_toList] at this
  exact this
theorem right_of {x : Itm} (h : chkI x = 0) : Right x := by
  unfold chkI at h
  split at h
  · cases h
  rename_i hk
  split at h
  · cases h
  rename_i ho
  have ho' : otherI x = false := by cases hb : otherI x; rfl; exact absurd hb ho
  have hd := ho
  unfold otherI at hd
  rw [decide_eq_true_eq] at hd
  have ht : x.k = 1 ∨ x.t.size = 0 := by
    by_cases h1 : x.k = 1
    · exact .inl h1
    · exact .inr (text_nil (Classical.byContradiction fun h2 => hd (.inl ⟨h1, h2⟩)))
  have hl : (x.k = 2 ∨ x.k = 3) ∨ x.l = [] := by
    by_cases h1 : x.k = 2 ∨ x.k = 3
    · exact .inl h1
    · refine .inr (Classical.byContradiction fun h2 => hd (.inr (.inl ⟨h1, ?_⟩)))
      exact List.length_pos_iff.2 h2
  have hp : x.k = 4 ∨ x.p = [] := by
    by_cases h1 : x.k = 4
    · exact .inl h1
    · exact .inr (Classical.byContradiction fun h2 => hd (.inr (.inr (.inl ⟨h1, List.length_pos_iff.2 h2⟩))))
  have hs : x.k = 5 ∨ x.s = [] := by
    by_cases h1 : x.k = 5
    · exact .inl h1
    · exact .inr (Classical.byContradiction fun h2 => hd (.inr (.inr (.inr ⟨h1, List.length_pos_iff.2 h2⟩))))
  have e0 : ∀ {α : Type} {l : List α} {P : α → Prop}, l = [] → ∀ t ∈ l, P t := fun e t ht => by rw [e] at ht; cases ht
  have n0 : ∀ {α : Type} {l : List α}, l = [] → l.length ≤ 24 := fun e => by rw [e]; simp
  split at h
  · rename_i h2
    have h4 := sizeT_small h
    have h5 := sizeT_short h
    exact ⟨by omega, by omega, by omega, any_long_not h5, h4, e0 (hp.resolve_left (by omega)), n0 (hp.resolve_left (by omega)), e0 (hs.resolve_left (by omega)), e0 (hs.resolve_left (by omega)), n0 (hs.resolve_left (by omega)), ho'⟩
  · split at h
    · rename_i h2 h3
      unfold setT at h
      split at h
      · rename_i h6; exact absurd h h6
      · rename_i h6
        have h6' := Classical.byContradiction h6
        exact ⟨by omega, by omega, by omega, any_long_not (sizeT_short h6'), sizeT_small h6', e0 (hp.resolve_left (by omega)), n0 (hp.resolve_left (by omega)), e0 (hs.resolve_left (by omega)), e0 (hs.resolve_left (by omega)), n0 (hs.resolve_left (by omega)), ho'⟩
    · split at h
      · rename_i h2 h3 h4
        unfold hashT at h
        split at h
        · rename_i h6; exact absurd h h6
        · rename_i h6
          have h6' := Classical.byContradiction h6
          exact ⟨by omega, by omega, by omega, e0 (hl.resolve_left (by omega)), n0 (hl.resolve_left (by omega)), any_longP_not (sizeT_short h6'), sizeT_small h6', e0 (hs.resolve_left (by omega)), e0 (hs.resolve_left (by omega)), n0 (hs.resolve_left (by omega)), ho'⟩
      · split at h
        · rename_i h2 h3 h4 h5
          unfold scoreT at h
          split at h
          · rename_i h6; exact absurd h h6
          · rename_i h6
            have h6' := Classical.byContradiction h6
            split at h
            · cases h
            · rename_i h7
              exact ⟨by omega, by omega, by omega, e0 (hl.resolve_left (by omega)), n0 (hl.resolve_left (by omega)), e0 (hp.resolve_left (by omega)), n0 (hp.resolve_left (by omega)), any_longS_not (sizeT_short h6'), any_outS_not h7, sizeT_small h6', ho'⟩
        · rename_i h2 h3 h4 h5
          split at h
          · cases h
          · rename_i h6
            have h7 : x.t.size ≤ 60 := by simp only [longT, decide_eq_true_eq] at h6; omega
            exact ⟨by omega, by omega, h7, e0 (hl.resolve_left (by omega)), n0 (hl.resolve_left (by omega)), e0 (hp.resolve_left (by omega)), n0 (hp.resolve_left (by omega)), e0 (hs.resolve_left (by omega)), e0 (hs.resolve_left (by omega)), n0 (hs.resolve_left (by omega)), ho'⟩
end Go.Proofs.YtnobcdhlagfhmaaGreat
