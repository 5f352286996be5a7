/- An item out of bytes, as plain data. -/
import Derived.Test.YtolpmaapdkhigabIDec4
import Derived.Test.YtolpmaapdkhigabIDec5
import Derived.Test.YtolpmaapdkhigabIDec6
import Derived.Test.YtolpmaapdkhigabIChk10
import Derived.Test.YtolpmaapdkhigabBoxes
import Derived.Laws.OwnMore
namespace Go.Proofs.Ytolpmaapdkhigab
open Go.RowKit

/-- that, and nothing behind it -/
def whole {α : Type} (o : Option (α × List UInt8)) : Option α := match o with
  | some (a, []) => some a
  | _ => none
/-- an item out of bytes: as it is told -/
def pItem : List UInt8 → Option Itm
  | [] => none
  | c :: r =>
    if c.toNat = 1 then some ⟨1, ⟨r.toArray⟩, [], [], []⟩ else
    if c.toNat = 2 then (whole (pEach pText r)).map fun x => ⟨2, ⟨#[]⟩, x, [], []⟩ else
    if c.toNat = 3 then (whole (pEach pText r)).map fun x => ⟨3, ⟨#[]⟩, x, [], []⟩ else
    if c.toNat = 4 then (whole (pEach ppair r)).map fun x => ⟨4, ⟨#[]⟩, [], x, []⟩ else
    if c.toNat = 5 then (whole (pEach pscore r)).map fun x => ⟨5, ⟨#[]⟩, [], [], x⟩ else none
theorem pText_size {l r : List UInt8} {t : ByteArray} (h : pText l = some (t, r)) : t.size ≤ 255 := by
  cases l with
  | nil => cases h
  | cons c q =>
    simp only [pText] at h
    split at h
    · cases h
    · injection h with h
      injection h with e1 e2
      have := byte_lt c
      rw [← e1, size_mk, List.length_take]
      omega
theorem pTo_all {α : Type} {p : List UInt8 → Option (α × List UInt8)} {P : α → Prop} (hp : ∀ l a r, p l = some (a, r) → P a) {l : List UInt8} : ∀ {k : Nat} {xs : List α} {q : List UInt8}, pTo p l k = some (xs, q) → ∀ a ∈ xs, P a
  | 0, xs, q, h => by
    rw [pTo] at h
    injection h with h
    injection h with e1 e2
    rw [← e1]
    simp
  | k + 1, xs, q, h => by
    rw [pTo] at h
    cases h1 : pTo p l k with
    | none => rw [h1] at h; cases h
    | some x =>
      rw [h1] at h
      simp only [Option.bind_some] at h
      cases h2 : p x.2 with
      | none => rw [h2] at h; cases h
      | some y =>
        rw [h2] at h
        simp only [Option.map_some] at h
        injection h with h
        injection h with e1 e2
        rw [← e1]
        intro a ha
        rcases List.mem_append.1 ha with ha | ha
        · exact pTo_all hp (k := k) (q := x.2) h1 a ha
        · simp at ha
          subst ha
          exact hp x.2 y.1 y.2 h2
theorem pEach_all {α : Type} {p : List UInt8 → Option (α × List UInt8)} {P : α → Prop} (hp : ∀ l a r, p l = some (a, r) → P a) {l : List UInt8} {xs : List α} {q : List UInt8} (h : pEach p l = some (xs, q)) : ∀ a ∈ xs, P a := by
  cases l with
  | nil => cases h
  | cons c r => exact pTo_all hp (k := c.toNat) (q := q) h
theorem pEach_len {α : Type} {p : List UInt8 → Option (α × List UInt8)} {l : List UInt8} {xs : List α} {q : List UInt8} (h : pEach p l = some (xs, q)) : xs.length ≤ 255 := by
  cases l with
  | nil => cases h
  | cons c r =>
    have h1 := pTo_len (k := c.toNat) (q := q) h
    have h2 := byte_lt c
    omega
theorem ppair_size {l r : List UInt8} {x : ByteArray × ByteArray} (h : ppair l = some (x, r)) : x.1.size ≤ 255 ∧ x.2.size ≤ 255 := by
  unfold ppair at h
  cases h1 : pText l with
  | none => rw [h1] at h; cases h
  | some y =>
    rw [h1] at h
    simp only [Option.bind_some] at h
    cases h2 : pText y.2 with
    | none => rw [h2] at h; cases h
    | some z =>
      rw [h2] at h
      simp only [Option.map_some] at h
      injection h with h
      injection h with e1 e2
      rw [← e1]
      exact ⟨pText_size (t := y.1) (r := y.2) h1, pText_size (t := z.1) (r := z.2) h2⟩
theorem pscore_size {l r : List UInt8} {x : Int × ByteArray} (h : pscore l = some (x, r)) : x.2.size ≤ 255 := by
  unfold pscore at h
  cases h1 : pNum l with
  | none => rw [h1] at h; cases h
  | some y =>
    rw [h1] at h
    simp only [Option.bind_some] at h
    cases h2 : pText y.2 with
    | none => rw [h2] at h; cases h
    | some z =>
      rw [h2] at h
      simp only [Option.map_some] at h
      injection h with h
      injection h with e1 e2
      rw [← e1]
      exact pText_size (t := z.1) (r := z.2) h2
theorem rowP_get : ∀ (l : List (ByteArray × ByteArray)) (i : Nat) (h : i < l.length), (rowP l)[i * 2]? = some (.string l[i].1) ∧ (rowP l)[i * 2 + 1]? = some (.string l[i].2)
  | [], i, h => by simp at h
  | x :: l, 0, h => by simp [rowP]
  | x :: l, i + 1, h => by
    have := rowP_get l i (by simpa using h)
    have e1 : (i + 1) * 2 = i * 2 + 1 + 1 := by omega
    have e2 : (i + 1) * 2 + 1 = i * 2 + 1 + 1 + 1 := by omega
    rw [e1]
    simpa [rowP] using this
theorem rowS_get : ∀ (l : List (Int × ByteArray)) (i : Nat) (h : i < l.length), (rowS l)[i * 2]? = some (.int .i64 l[i].1) ∧ (rowS l)[i * 2 + 1]? = some (.string l[i].2)
  | [], i, h => by simp at h
  | x :: l, 0, h => by simp [rowS]
  | x :: l, i + 1, h => by
    have := rowS_get l i (by simpa using h)
    have e1 : (i + 1) * 2 = i * 2 + 1 + 1 := by omega
    have e2 : (i + 1) * 2 + 1 = i * 2 + 1 + 1 + 1 := by omega
    rw [e1]
    simpa [rowS] using this
/-- what lies from a block on stays -/
def Stays (B : Nat) (w w' : World) : Prop := ∀ g o u, B ≤ g → w.cell? ⟨g, o, none⟩ = some u → w'.cell? ⟨g, o, none⟩ = some u
theorem textsd_from {w w' : World} {B : Nat} {a : Option Addr} {cap : Nat} {xs : List ByteArray} (h : w.ownsRow B 9 1 (.slice a xs.length cap) xs.length (rowT xs)) (hw : Stays B w w') : TextsAt w' a xs := by
  rcases h.2 with ⟨hv, h0⟩ | ⟨g, cp, cur, hv, hg, _⟩
  · exact .inl (List.eq_nil_of_length_eq_zero h0)
  · injection hv with h1 h2 h3
    subst h1
    refine .inr ⟨g, 0, rfl, fun i hi => hw _ _ _ hg ?_⟩
    rw [Nat.zero_add, h.cellAt i (by omega)]
    simp [rowT, hi]
theorem pairsd_from {w w' : World} {B : Nat} {a : Option Addr} {cap : Nat} {xs : List (ByteArray × ByteArray)} (h : w.ownsRow B 59 2 (.slice a xs.length cap) xs.length (rowP xs)) (hw : Stays B w w') : PairsAt w' a xs := by
  rcases h.2 with ⟨hv, h0⟩ | ⟨g, cp, cur, hv, hg, _⟩
  · exact .inl (List.eq_nil_of_length_eq_zero h0)
  · injection hv with h1 h2 h3
    subst h1
    refine .inr ⟨g, 0, rfl, fun i hi => ⟨hw _ _ _ hg ?_, hw _ _ _ hg ?_⟩⟩
    · rw [Nat.zero_add, h.cellAt (i * 2) (by omega)]
      exact (rowP_get xs i hi).1
    · rw [Nat.zero_add, h.cellAt (i * 2 + 1) (by omega)]
      exact (rowP_get xs i hi).2
theorem scoresd_from {w w' : World} {B : Nat} {a : Option Addr} {cap : Nat} {xs : List (Int × ByteArray)} (h : w.ownsRow B 61 2 (.slice a xs.length cap) xs.length (rowS xs)) (hw : Stays B w w') : ScoresAt w' a xs := by
  rcases h.2 with ⟨hv, h0⟩ | ⟨g, cp, cur, hv, hg, _⟩
  · exact .inl (List.eq_nil_of_length_eq_zero h0)
  · injection hv with h1 h2 h3
    subst h1
    refine .inr ⟨g, 0, rfl, fun i hi => ⟨hw _ _ _ hg ?_, hw _ _ _ hg ?_⟩⟩
    · rw [Nat.zero_add, h.cellAt (i * 2) (by omega)]
      exact (rowS_get xs i hi).1
    · rw [Nat.zero_add, h.cellAt (i * 2 + 1) (by omega)]
      exact (rowS_get xs i hi).2
theorem BoxAt.kept {w w' : World} {b B : Nat} {v0 v1 v2 v3 v4 : Value} (h : BoxAt w b v0 v1 v2 v3 v4) (hk : Kept (one B) w w') (hne : b ≠ B) : BoxAt w' b v0 v1 v2 v3 v4 :=
  ⟨hk.cell' h.c0 hne, hk.cell' h.c1 hne, hk.cell' h.c2 hne, hk.cell' h.c3 hne, hk.cell' h.c4 hne, Nat.lt_of_lt_of_le h.lt hk.size⟩
/-- nothing of a block is frozen -/
def SoftB (w : World) (b : Nat) : Prop := ∀ j, w.frozen? ⟨b, j, none⟩ = false
theorem SoftB.kept {w w' : World} {b B : Nat} (h : SoftB w b) (hk : Kept (one B) w w') (hl : b < w.heap.size) (hne : b ≠ B) : SoftB w' b := fun j => (hk.frozen (p := ⟨b, j, none⟩) hl hne).trans (h j)
end Go.Proofs.Ytolpmaapdkhigab
