/- Items and bytes, there and back: whole. -/
import Derived.Test.YtolpmaapdkhigabIBackP
namespace Go.Proofs.Ytolpmaapdkhigab

theorem text_empty {t : ByteArray} (h : t.toList = []) : t = ⟨#[]⟩ := by
  rw [ByteArray.toList_eq] at h
  cases t with
  | mk d =>
    congr 1
    exact Array.toList_inj.1 h
theorem other_not {x : Itm} (h : otherI x = false) : (x.k = 1 ∨ x.t = ⟨#[]⟩) ∧ ((x.k = 2 ∨ x.k = 3) ∨ x.l = []) ∧ (x.k = 4 ∨ x.p = []) ∧ (x.k = 5 ∨ x.s = []) := by
  unfold otherI at h
  rw [decide_eq_false_iff_not] at h
  refine ⟨?_, ?_, ?_, ?_⟩
  · by_cases h1 : x.k = 1
    · exact .inl h1
    · exact .inr (text_empty (Classical.byContradiction fun h2 => h (.inl ⟨h1, h2⟩)))
  · by_cases h1 : x.k = 2 ∨ x.k = 3
    · exact .inl h1
    · exact .inr (Classical.byContradiction fun h2 => h (.inr (.inl ⟨h1, List.length_pos_iff.2 h2⟩)))
  · by_cases h1 : x.k = 4
    · exact .inl h1
    · exact .inr (Classical.byContradiction fun h2 => h (.inr (.inr (.inl ⟨h1, List.length_pos_iff.2 h2⟩))))
  · by_cases h1 : x.k = 5
    · exact .inl h1
    · exact .inr (Classical.byContradiction fun h2 => h (.inr (.inr (.inr ⟨h1, List.length_pos_iff.2 h2⟩))))
/-- what is encoded is decoded as it was -/
theorem item_there {x : Itm} (h : chkI x = 0) : pItem (encI x) = some x := by
  have R := right_of h
  obtain ⟨ht, hl, hp, hs⟩ := other_not R.ot
  have k1 := R.k1
  have k5 := R.k5
  have lz := R.lz
  have ln := R.ln
  have pz := R.pz
  have pn := R.pn
  have sz := R.sz
  have sr := R.sr
  have sn := R.sn
  clear R h
  obtain ⟨k, t, l, p, s⟩ := x
  simp only at *
  have hk : k = 1 ∨ k = 2 ∨ k = 3 ∨ k = 4 ∨ k = 5 := by omega
  rcases hk with rfl | rfl | rfl | rfl | rfl
  · obtain rfl := hl.resolve_left (by decide)
    obtain rfl := hp.resolve_left (by decide)
    obtain rfl := hs.resolve_left (by decide)
    show some (⟨1, ⟨t.data.toList.toArray⟩, [], [], []⟩ : Itm) = _
    rw [Array.toArray_toList]
  · obtain rfl := ht.resolve_left (by decide)
    obtain rfl := hp.resolve_left (by decide)
    obtain rfl := hs.resolve_left (by decide)
    have e := each_there (p := pText) (enc := encT) l (fun a ha r => text_there a r (by have := lz a ha; omega)) (by omega)
    have e2 : encI ⟨2, ⟨#[]⟩, l, [], []⟩ = 2 :: UInt8.ofNat l.length :: (l.map encT).flatten := by
      rw [encI, if_neg (by simp)]
      simp [manyI, bodyI]
    rw [e2, pItem, if_neg (by decide), if_pos (by decide), e]
    rfl
  · obtain rfl := ht.resolve_left (by decide)
    obtain rfl := hp.resolve_left (by decide)
    obtain rfl := hs.resolve_left (by decide)
    have e := each_there (p := pText) (enc := encT) l (fun a ha r => text_there a r (by have := lz a ha; omega)) (by omega)
    have e2 : encI ⟨3, ⟨#[]⟩, l, [], []⟩ = 3 :: UInt8.ofNat l.length :: (l.map encT).flatten := by
      rw [encI, if_neg (by simp)]
      simp [manyI, bodyI]
    rw [e2, pItem, if_neg (by decide), if_neg (by decide), if_pos (by decide), e]
    rfl
  · obtain rfl := ht.resolve_left (by decide)
    obtain rfl := hl.resolve_left (by decide)
    obtain rfl := hs.resolve_left (by decide)
    have e := each_there (p := ppair) (enc := encP) p (fun a ha r => pair_there a r (by have := pz a ha; omega)) (by omega)
    have e2 : encI ⟨4, ⟨#[]⟩, [], p, []⟩ = 4 :: UInt8.ofNat p.length :: (p.map encP).flatten := by
      rw [encI, if_neg (by simp)]
      simp [manyI, bodyI]
    rw [e2, pItem, if_neg (by decide), if_neg (by decide), if_neg (by decide), if_pos (by decide), e]
    rfl
  · obtain rfl := ht.resolve_left (by decide)
    obtain rfl := hl.resolve_left (by decide)
    obtain rfl := hp.resolve_left (by decide)
    have e := each_there (p := pscore) (enc := encS) s (fun a ha r => score_there a r (by have := sz a ha; omega) (sr a ha).1 (sr a ha).2) (by omega)
    have e2 : encI ⟨5, ⟨#[]⟩, [], [], s⟩ = 5 :: UInt8.ofNat s.length :: (s.map encS).flatten := by
      rw [encI, if_neg (by simp)]
      simp [manyI, bodyI]
    rw [e2, pItem, if_neg (by decide), if_neg (by decide), if_neg (by decide), if_neg (by decide), if_pos (by decide), e]
    rfl
theorem byte_is {c : UInt8} {n : Nat} (h : c.toNat = n) : c = UInt8.ofNat n := by
  apply UInt8.toNat_inj.1
  rw [ofNat_nat, ← h]
  have := byte_lt c
  omega
theorem map_some {α β : Type} {o : Option α} {f : α → β} {b : β} (h : o.map f = some b) : ∃ a, o = some a ∧ f a = b := by
  cases o with
  | none => cases h
  | some a => exact ⟨a, rfl, by simpa using h⟩
/-- and nothing else is -/
theorem item_back {l : List UInt8} {x : Itm} (h : pItem l = some x) : encI x = l := by
  cases l with
  | nil => cases h
  | cons c r =>
    rw [pItem] at h
    split at h
    · rename_i hc
      injection h with h
      subst h
      rw [encI, if_pos rfl, byte_is hc]
      simp
    split at h
    · rename_i hc
      obtain ⟨xs, h1, rfl⟩ := map_some h
      have hb := each_back (enc := encT) (fun _ _ _ h => text_back h) h1
      rw [encI, if_neg (by simp), byte_is hc, hb]
      simp [manyI, bodyI]
    split at h
    · rename_i hc
      obtain ⟨xs, h1, rfl⟩ := map_some h
      have hb := each_back (enc := encT) (fun _ _ _ h => text_back h) h1
      rw [encI, if_neg (by simp), byte_is hc, hb]
      simp [manyI, bodyI]
    split at h
    · rename_i hc
      obtain ⟨xs, h1, rfl⟩ := map_some h
      have hb := each_back (enc := encP) (fun _ _ _ h => pair_back h) h1
      rw [encI, if_neg (by simp), byte_is hc, hb]
      simp [manyI, bodyI]
    split at h
    · rename_i hc
      obtain ⟨xs, h1, rfl⟩ := map_some h
      have hb := each_back (enc := encS) (fun _ _ _ h => score_back h) h1
      rw [encI, if_neg (by simp), byte_is hc, hb]
      simp [manyI, bodyI]
    · cases h
end Go.Proofs.Ytolpmaapdkhigab
