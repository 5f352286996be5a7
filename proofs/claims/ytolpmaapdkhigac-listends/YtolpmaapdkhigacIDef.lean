/- Items as plain data, and what is wrong with one. -/
import Derived.Lib.Bytealg
namespace Go.Proofs.Ytolpmaapdkhigac

/-- an item -/
structure Itm where
  k : Int
  t : ByteArray
  l : List ByteArray
  p : List (ByteArray × ByteArray)
  s : List (Int × ByteArray)
/-- what a key has that is not there -/
def Itm.none : Itm := ⟨0, ⟨#[]⟩, [], [], []⟩
def Itm.isNone (x : Itm) : Bool := decide (x.k = 0 ∧ x.t.toList = [] ∧ x.l = [] ∧ x.p = [] ∧ x.s = [])

def longT (t : ByteArray) : Bool := decide (60 < t.size)
def longP (x : ByteArray × ByteArray) : Bool := longT x.1 || longT x.2
def longS (x : Int × ByteArray) : Bool := longT x.2
def outS (x : Int × ByteArray) : Bool := decide (x.1 < -999999999) || decide (999999999 < x.1)
/-- how many there are, and how long -/
def sizeT (n : Nat) (long : Bool) : Int := if n = 0 then 5 else if 24 < n ∨ long = true then 2 else 0
theorem sizeT_small {n : Nat} {b : Bool} (h : sizeT n b = 0) : n ≤ 24 := by
  unfold sizeT at h
  split at h
  · cases h
  · split at h
    · cases h
    · omega
theorem sizeT_short {n : Nat} {b : Bool} (h : sizeT n b = 0) : b = false := by
  unfold sizeT at h
  split at h
  · cases h
  · split at h
    · cases h
    · rename_i hx
      cases b
      · rfl
      · exact absurd (Or.inr rfl) hx
theorem sizeT_pos {n : Nat} {b : Bool} (h : sizeT n b = 0) : 0 < n := by
  unfold sizeT at h
  split at h
  · cases h
  · omega
/-- the order of texts -/
def cmpT (a b : ByteArray) : Int := Lib.compareBytes a.data.toList b.data.toList
def cmpP (a b : ByteArray × ByteArray) : Int := cmpT a.1 b.1
def cmpS (a b : Int × ByteArray) : Int := if a.1 < b.1 then -1 else if b.1 < a.1 then 1 else cmpT a.2 b.2
/-- do the first so many rise? -/
def riseTo {α : Type} [Inhabited α] (cmp : α → α → Int) (ts : List α) (n : Nat) : Bool := (List.range (n - 1)).all fun j => decide (cmp ts[j]! ts[j + 1]! < 0)
theorem riseTo_succ {α : Type} [Inhabited α] (cmp : α → α → Int) (ts : List α) (k : Nat) (hk : 1 ≤ k) : riseTo cmp ts (k + 1) = (riseTo cmp ts k && decide (cmp ts[k - 1]! ts[k]! < 0)) := by
  obtain ⟨m, rfl⟩ : ∃ m, k = m + 1 := ⟨k - 1, by omega⟩
  unfold riseTo
  rw [show m + 1 + 1 - 1 = m + 1 by omega, show m + 1 - 1 = m by omega, List.range_succ, List.all_append]
  simp
theorem riseTo_false {α : Type} [Inhabited α] {cmp : α → α → Int} {ts : List α} {k n : Nat} (h : riseTo cmp ts k = false) (hk : k ≤ n) : riseTo cmp ts n = false := by
  rw [riseTo, List.all_eq_false] at h ⊢
  obtain ⟨x, hx, hf⟩ := h
  rw [List.mem_range] at hx
  exact ⟨x, List.mem_range.2 (by omega), hf⟩
/-- is a member there twice? -/
def twiceS (l : List (Int × ByteArray)) : Bool := !decide ((l.map Prod.snd).Nodup)
def setT (ts : List ByteArray) : Int :=
  if sizeT ts.length (ts.any longT) ≠ 0 then sizeT ts.length (ts.any longT) else if riseTo cmpT ts ts.length = true then 0 else 4
def hashT (ts : List (ByteArray × ByteArray)) : Int :=
  if sizeT ts.length (ts.any longP) ≠ 0 then sizeT ts.length (ts.any longP) else if riseTo cmpP ts ts.length = true then 0 else 4
def scoreT (ts : List (Int × ByteArray)) : Int :=
  if sizeT ts.length (ts.any longS) ≠ 0 then sizeT ts.length (ts.any longS) else if ts.any outS = true then 3 else if twiceS ts = true then 6 else if riseTo cmpS ts ts.length = true then 0 else 4
/-- has it something that its kind does not name? -/
def otherI (x : Itm) : Bool :=
  decide ((x.k ≠ 1 ∧ ¬ x.t.toList = []) ∨ (¬ (x.k = 2 ∨ x.k = 3) ∧ 0 < x.l.length) ∨ (x.k ≠ 4 ∧ 0 < x.p.length) ∨ (x.k ≠ 5 ∧ 0 < x.s.length))
/-- what is wrong with an item -/
def chkI (x : Itm) : Int :=
  if x.k < 1 ∨ 5 < x.k then 7 else if otherI x = true then 1 else
    if x.k = 2 then sizeT x.l.length (x.l.any longT) else if x.k = 3 then setT x.l else if x.k = 4 then hashT x.p else if x.k = 5 then scoreT x.s else
    if longT x.t = true then 2 else 0
/-- .. that must be nothing, or of a kind -/
def asI (x : Itm) (kind : Int) : Int := if x.isNone = true then 0 else if chkI x ≠ 0 then chkI x else if x.k ≠ kind then 7 else 0
/-- is a text there? -/
def hasT (ts : List ByteArray) (s : ByteArray) : Bool := ts.any fun t => decide (t = s)
theorem hasT_iff {ts : List ByteArray} {s : ByteArray} : hasT ts s = true ↔ s ∈ ts := by
  simp [hasT, List.any_eq_true]
theorem hasT_not {ts : List ByteArray} {s : ByteArray} (h : s ∉ ts) : hasT ts s = false := by
  cases hb : hasT ts s
  · rfl
  · exact absurd (hasT_iff.1 hb) h
end Go.Proofs.Ytolpmaapdkhigac
