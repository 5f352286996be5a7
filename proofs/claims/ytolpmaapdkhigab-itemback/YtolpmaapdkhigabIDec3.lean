/- Many out of bytes, as plain data. -/
import Derived.Test.YtolpmaapdkhigabIDec2
namespace Go.Proofs.Ytolpmaapdkhigab

/-- so many, one behind the other -/
def pTo {α : Type} (p : List UInt8 → Option (α × List UInt8)) (l : List UInt8) : Nat → Option (List α × List UInt8)
  | 0 => some ([], l)
  | k + 1 => (pTo p l k).bind fun x => (p x.2).map fun y => (x.1 ++ [y.1], y.2)
theorem pTo_none {α : Type} {p : List UInt8 → Option (α × List UInt8)} {l : List UInt8} {k : Nat} (h : pTo p l k = none) : ∀ n, k ≤ n → pTo p l n = none := by
  intro n hn
  induction n with
  | zero => obtain rfl : k = 0 := by omega
            exact h
  | succ n ih =>
    rcases Nat.lt_or_ge k (n + 1) with h1 | h1
    · rw [pTo, ih (by omega)]; rfl
    · obtain rfl : k = n + 1 := by omega
      exact h
theorem pTo_len {α : Type} {p : List UInt8 → Option (α × List UInt8)} {l : List UInt8} : ∀ {k : Nat} {xs : List α} {q : List UInt8}, pTo p l k = some (xs, q) → xs.length = k
  | 0, xs, q, h => by
    rw [pTo] at h
    injection h with h
    injection h with e1 e2
    rw [← e1]
    rfl
  | k + 1, xs, q, h => by
    rw [pTo] at h
    cases h1 : pTo p l k with
    | none => rw [h1] at h; cases h
    | some x =>
      rw [h1] at h
      simp only [Option.bind_some] at h
      cases h2 : p x.2 with
      | none => rw [h2] at h; cases h
      | some y =>
        rw [h2] at h
        simp only [Option.map_some] at h
        injection h with h
        injection h with e1 e2
        rw [← e1, List.length_append, pTo_len (k := k) (xs := x.1) (q := x.2) h1]
        rfl
/-- how many, and they -/
def pEach {α : Type} (p : List UInt8 → Option (α × List UInt8)) : List UInt8 → Option (List α × List UInt8)
  | [] => none
  | c :: r => pTo p r c.toNat
def rowT (xs : List ByteArray) : List Go.Value := xs.map Go.Value.string
def rowP (xs : List (ByteArray × ByteArray)) : List Go.Value := (xs.map fun x => [Go.Value.string x.1, Go.Value.string x.2]).flatten
def rowS (xs : List (Int × ByteArray)) : List Go.Value := (xs.map fun x => [Go.Value.int .i64 x.1, Go.Value.string x.2]).flatten
end Go.Proofs.Ytolpmaapdkhigab
