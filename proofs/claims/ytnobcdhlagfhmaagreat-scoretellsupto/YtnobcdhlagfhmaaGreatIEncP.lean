/- An item's bytes, as plain data. -/
import Derived.Test.YtnobcdhlagfhmaaGreatIDef
import Derived.Lib.Builder
import Derived.Lib.AppendStr
import Derived.Lib.UnsafeStr
namespace Go.Proofs.YtnobcdhlagfhmaaGreat

/-- a text: how many bytes, and they -/
def encT (t : ByteArray) : List UInt8 := UInt8.ofNat t.size :: t.data.toList
/-- a score's number: four bytes -/
def num4 (n : Int) : List UInt8 := [UInt8.ofNat ((n + 999999999).toNat / 16777216), UInt8.ofNat ((n + 999999999).toNat / 65536), UInt8.ofNat ((n + 999999999).toNat / 256), UInt8.ofNat (n + 999999999).toNat]
def encP (p : ByteArray × ByteArray) : List UInt8 := encT p.1 ++ encT p.2
def encS (s : Int × ByteArray) : List UInt8 := num4 s.1 ++ encT s.2
def manyI (x : Itm) : Nat := x.l.length + x.p.length + x.s.length
def bodyI (x : Itm) : List UInt8 := (x.l.map encT).flatten ++ (x.p.map encP).flatten ++ (x.s.map encS).flatten
/-- the bytes of an item that is right -/
def encI (x : Itm) : List UInt8 := if x.k = 1 then 1 :: x.t.data.toList else UInt8.ofNat x.k.toNat :: UInt8.ofNat (manyI x) :: bodyI x
theorem flat_take {α : Type} (f : α → List UInt8) (l : List α) {k : Nat} (h : k < l.length) : ((l.take (k + 1)).map f).flatten = ((l.take k).map f).flatten ++ f l[k] := by
  rw [List.take_succ_eq_append_getElem h, List.map_append, List.flatten_append]
  simp
theorem flat_len {α : Type} (f : α → List UInt8) (m : Nat) : ∀ l : List α, (∀ a ∈ l, (f a).length ≤ m) → (l.map f).flatten.length ≤ l.length * m
  | [], _ => by simp
  | a :: l, h => by
    have h1 := h a (by simp)
    have h2 := flat_len f m l (fun b hb => h b (by simp [hb]))
    simp only [List.map_cons, List.flatten_cons, List.length_append, List.length_cons]
    rw [Nat.add_mul, Nat.one_mul]
    omega
theorem byteCells_app (a b : List UInt8) : Go.Lib.byteCells a ++ Go.Lib.byteCells b = Go.Lib.byteCells (a ++ b) := by simp [Go.Lib.byteCells]
theorem strCells_list (s : ByteArray) : Go.Lib.strCells s = Go.Lib.byteCells s.data.toList := by simp [Go.Lib.strCells, Go.Lib.byteCells]
theorem ofNat_nat (n : Nat) : (UInt8.ofNat n).toNat = n % 256 := by simp
theorem byte_cell (n : Nat) : [Go.Value.int .u8 (((n % 256 : Nat) : Int))] = Go.Lib.byteCells [UInt8.ofNat n] := by simp [Go.Lib.byteCells]
end Go.Proofs.YtnobcdhlagfhmaaGreat
