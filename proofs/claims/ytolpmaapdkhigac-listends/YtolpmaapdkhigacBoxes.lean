/- Boxes of five cells, and what becomes of them. -/
import Derived.Test.YtolpmaapdkhigacBase
namespace Go.Proofs.Ytolpmaapdkhigac
open Go.RowKit

/-- five cells lie in a block -/
structure BoxAt (w : World) (b : Nat) (v0 v1 v2 v3 v4 : Value) : Prop where
  c0 : w.cell? ⟨b, 0, none⟩ = some v0
  c1 : w.cell? ⟨b, 1, none⟩ = some v1
  c2 : w.cell? ⟨b, 2, none⟩ = some v2
  c3 : w.cell? ⟨b, 3, none⟩ = some v3
  c4 : w.cell? ⟨b, 4, none⟩ = some v4
  lt : b < w.heap.size
theorem BoxAt.below {w w' : World} {b : Nat} {v0 v1 v2 v3 v4 : Value} (h : BoxAt w b v0 v1 v2 v3 v4) (hb : Below w.heap.size w w') : BoxAt w' b v0 v1 v2 v3 v4 :=
  ⟨(hb.cell (p := ⟨b, 0, none⟩) h.lt).trans h.c0, (hb.cell (p := ⟨b, 1, none⟩) h.lt).trans h.c1, (hb.cell (p := ⟨b, 2, none⟩) h.lt).trans h.c2, (hb.cell (p := ⟨b, 3, none⟩) h.lt).trans h.c3, (hb.cell (p := ⟨b, 4, none⟩) h.lt).trans h.c4, Nat.lt_of_lt_of_le h.lt hb.size⟩
theorem BoxAt.alloc {w : World} {b : Nat} {v0 v1 v2 v3 v4 : Value} (h : BoxAt w b v0 v1 v2 v3 v4) (o : Obj) : BoxAt (w.alloc o) b v0 v1 v2 v3 v4 :=
  h.below ((Below.refl _ _).alloc (Nat.le_refl _) _)
theorem BoxAt.new (w : World) (v0 v1 v2 v3 v4 : Value) (T : TypeId) : BoxAt (w.alloc (.cells #[v0, v1, v2, v3, v4] T)) w.heap.size v0 v1 v2 v3 v4 :=
  ⟨by simp [go_sem], by simp [go_sem], by simp [go_sem], by simp [go_sem], by simp [go_sem], by simp⟩
theorem BoxAt.drewN {w : World} {b : Nat} {v0 v1 v2 v3 v4 : Value} (h : BoxAt w b v0 v1 v2 v3 v4) (n : Nat) : BoxAt (w.drewN n) b v0 v1 v2 v3 v4 :=
  ⟨h.c0, h.c1, h.c2, h.c3, h.c4, h.lt⟩
end Go.Proofs.Ytolpmaapdkhigac
