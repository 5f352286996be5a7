/- Items and bytes, there and back. -/
import Derived.Test.YtolpmaapdkhigabIDec7
import Derived.Test.YtolpmaapdkhigabIEnc2
namespace Go.Proofs.Ytolpmaapdkhigab

theorem u8_of {n : Nat} {c : UInt8} (h : n % 256 = c.toNat) : UInt8.ofNat n = c := by
  apply UInt8.toNat_inj.1
  rw [ofNat_nat, h]
theorem text_there (t : ByteArray) (r : List UInt8) (h : t.size ≤ 255) : pText (encT t ++ r) = some (t, r) := by
  have e1 : (UInt8.ofNat t.size).toNat = t.size := by rw [ofNat_nat]; omega
  have e2 := size_list t
  show (if (t.data.toList ++ r).length < (UInt8.ofNat t.size).toNat then none else some ((⟨((t.data.toList ++ r).take (UInt8.ofNat t.size).toNat).toArray⟩ : ByteArray), (t.data.toList ++ r).drop (UInt8.ofNat t.size).toNat)) = some (t, r)
  rw [e1, if_neg (by rw [List.length_append]; omega), ← e2, List.take_left, List.drop_left]
theorem text_back {l r : List UInt8} {t : ByteArray} (h : pText l = some (t, r)) : l = encT t ++ r := by
  cases l with
  | nil => cases h
  | cons c q =>
    simp only [pText] at h
    split at h
    · cases h
    rename_i hn
    injection h with h
    injection h with e1 e2
    have hsz : t.size = c.toNat := by rw [← e1, size_mk, List.length_take]; omega
    have hc : UInt8.ofNat t.size = c := u8_of (by rw [hsz]; have := byte_lt c; omega)
    unfold encT
    rw [hc, ← e2, ← e1, toList_mk]
    show c :: q = c :: (q.take c.toNat ++ q.drop c.toNat)
    rw [List.take_append_drop]
theorem numTo_four (a b c d : UInt8) (r : List UInt8) : numTo (a :: b :: c :: d :: r) 4 = ((a.toNat * 256 + b.toNat) * 256 + c.toNat) * 256 + d.toNat := by
  simp [numTo]
theorem num_there (n : Int) (r : List UInt8) (h0 : -999999999 ≤ n) (h1 : n ≤ 999999999) : pNum (num4 n ++ r) = some (n, r) := by
  have hm : (n + 999999999).toNat ≤ 1999999998 := by omega
  have hn : ((n + 999999999).toNat : Int) = n + 999999999 := by omega
  unfold pNum num4
  generalize (n + 999999999).toNat = m at *
  rw [if_pos (by simp)]
  show some (((numTo (_ :: _ :: _ :: _ :: r) 4 : Nat) : Int) - 999999999, r) = some (n, r)
  rw [numTo_four, ofNat_nat, ofNat_nat, ofNat_nat, ofNat_nat]
  congr 2
  omega
theorem num_back {l r : List UInt8} {n : Int} (h : pNum l = some (n, r)) : l = num4 n ++ r := by
  obtain ⟨h4, rfl, rfl⟩ := number_some h
  match l, h4 with
  | a :: b :: c :: d :: q, _ =>
    rw [numTo_four]
    have ha := byte_lt a
    have hb := byte_lt b
    have hc := byte_lt c
    have hd := byte_lt d
    unfold num4
    have e : ((((((a.toNat * 256 + b.toNat) * 256 + c.toNat) * 256 + d.toNat : Nat) : Int) - 999999999) + 999999999).toNat = ((a.toNat * 256 + b.toNat) * 256 + c.toNat) * 256 + d.toNat := by omega
    rw [e, u8_of (c := a) (by omega), u8_of (c := b) (by omega), u8_of (c := c) (by omega), u8_of (c := d) (by omega)]
    rfl
theorem pair_there (x : ByteArray × ByteArray) (r : List UInt8) (h : x.1.size ≤ 255 ∧ x.2.size ≤ 255) : ppair (encP x ++ r) = some (x, r) := by
  unfold ppair encP
  rw [List.append_assoc, text_there _ _ h.1]
  simp [text_there _ _ h.2]
theorem score_there (x : Int × ByteArray) (r : List UInt8) (h : x.2.size ≤ 255) (h0 : -999999999 ≤ x.1) (h1 : x.1 ≤ 999999999) : pscore (encS x ++ r) = some (x, r) := by
  unfold pscore encS
  rw [List.append_assoc, num_there _ _ h0 h1]
  simp [text_there _ _ h]
theorem pair_back {l r : List UInt8} {x : ByteArray × ByteArray} (h : ppair l = some (x, r)) : l = encP x ++ r := by
  unfold ppair at h
  cases h1 : pText l with
  | none => rw [h1] at h; cases h
  | some y =>
    rw [h1] at h
    simp only [Option.bind_some] at h
    cases h2 : pText y.2 with
    | none => rw [h2] at h; cases h
    | some z =>
      rw [h2] at h
      simp only [Option.map_some] at h
      injection h with h
      injection h with e1 e2
      have b1 := text_back (t := y.1) (r := y.2) h1
      have b2 := text_back (t := z.1) (r := z.2) h2
      rw [← e1, ← e2, b1, b2]
      unfold encP
      rw [List.append_assoc]
theorem score_back {l r : List UInt8} {x : Int × ByteArray} (h : pscore l = some (x, r)) : l = encS x ++ r := by
  unfold pscore at h
  cases h1 : pNum l with
  | none => rw [h1] at h; cases h
  | some y =>
    rw [h1] at h
    simp only [Option.bind_some] at h
    cases h2 : pText y.2 with
    | none => rw [h2] at h; cases h
    | some z =>
      rw [h2] at h
      simp only [Option.map_some] at h
      injection h with h
      injection h with e1 e2
      have b1 := num_back (n := y.1) (r := y.2) h1
      have b2 := text_back (t := z.1) (r := z.2) h2
      rw [← e1, ← e2, b1, b2]
      unfold encS
      rw [List.append_assoc]
theorem to_there {α : Type} {p : List UInt8 → Option (α × List UInt8)} {enc : α → List UInt8} (xs : List α) (hp : ∀ a ∈ xs, ∀ r, p (enc a ++ r) = some (a, r)) (r : List UInt8) : ∀ k, k ≤ xs.length → pTo p ((xs.map enc).flatten ++ r) k = some (xs.take k, ((xs.drop k).map enc).flatten ++ r)
  | 0, _ => by simp [pTo]
  | k + 1, hk => by
    have hlt : k < xs.length := by omega
    rw [pTo, to_there xs hp r k (by omega)]
    simp only [Option.bind_some]
    rw [List.drop_eq_getElem_cons hlt, List.map_cons, List.flatten_cons, List.append_assoc, hp xs[k] (List.getElem_mem hlt)]
    simp only [Option.map_some]
    rw [List.take_append_getElem]
theorem each_there {α : Type} {p : List UInt8 → Option (α × List UInt8)} {enc : α → List UInt8} (xs : List α) (hp : ∀ a ∈ xs, ∀ r, p (enc a ++ r) = some (a, r)) (hn : xs.length ≤ 255) : pEach p (UInt8.ofNat xs.length :: (xs.map enc).flatten) = some (xs, []) := by
  have e1 : (UInt8.ofNat xs.length).toNat = xs.length := by rw [ofNat_nat]; omega
  show pTo p _ (UInt8.ofNat xs.length).toNat = _
  rw [e1]
  have := to_there xs hp [] xs.length (Nat.le_refl _)
  rw [List.append_nil, List.take_length, List.drop_length] at this
  exact this
theorem to_back {α : Type} {p : List UInt8 → Option (α × List UInt8)} {enc : α → List UInt8} (hp : ∀ l a r, p l = some (a, r) → l = enc a ++ r) {l : List UInt8} : ∀ {k : Nat} {xs : List α} {q : List UInt8}, pTo p l k = some (xs, q) → l = (xs.map enc).flatten ++ q
  | 0, xs, q, h => by
    rw [pTo] at h
    injection h with h
    injection h with e1 e2
    rw [← e1, ← e2]
    rfl
  | k + 1, xs, q, h => by
    rw [pTo] at h
    cases h1 : pTo p l k with
    | none => rw [h1] at h; cases h
    | some x =>
      rw [h1] at h
      simp only [Option.bind_some] at h
      cases h2 : p x.2 with
      | none => rw [h2] at h; cases h
      | some y =>
        rw [h2] at h
        simp only [Option.map_some] at h
        injection h with h
        injection h with e1 e2
        have b1 := to_back hp (k := k) (xs := x.1) (q := x.2) h1
        have b2 := hp x.2 y.1 y.2 h2
        rw [← e1, ← e2, List.map_append, List.flatten_append]
        rw [b2] at b1
        rw [b1]
        simp
theorem each_back {α : Type} {p : List UInt8 → Option (α × List UInt8)} {enc : α → List UInt8} (hp : ∀ l a r, p l = some (a, r) → l = enc a ++ r) {l : List UInt8} {xs : List α} (h : whole (pEach p l) = some xs) : l = UInt8.ofNat xs.length :: (xs.map enc).flatten := by
  cases l with
  | nil => cases h
  | cons c r =>
    have hw : pTo p r c.toNat = some (xs, []) := by
      unfold whole at h
      split at h
      · rename_i a ha
        injection h with h
        subst h
        exact ha
      · cases h
    have hl := pTo_len hw
    have hb := to_back hp hw
    rw [List.append_nil] at hb
    rw [u8_of (n := xs.length) (c := c) (by rw [hl]; have := byte_lt c; omega), ← hb]
end Go.Proofs.Ytolpmaapdkhigab
