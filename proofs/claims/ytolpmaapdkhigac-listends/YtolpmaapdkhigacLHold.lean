/- A box that holds an item, stored anew. -/
import Derived.Test.YtolpmaapdkhigacLBeg
import Derived.Test.YtolpmaapdkhigacRNo
import Derived.Test.YtolpmaapdkhigacBoxes
import Derived.BigRegion
import Derived.Handy
namespace Go.Proofs.Ytolpmaapdkhigac
open Go.RowKit

/-- an item that lies in memory apart from a block -/
def ItemOff (b : Nat) (w : World) (v : Value) (x : Itm) : Prop := ∀ w', (∀ g o u, g ≠ b → w.cell? ⟨g, o, none⟩ = some u → w'.cell? ⟨g, o, none⟩ = some u) → ItemIs w' v x
theorem ItemOff.is {b : Nat} {w : World} {v : Value} {x : Itm} (h : ItemOff b w v x) : ItemIs w v x := h w (fun _ _ _ _ hu => hu)
theorem ItemFrom.off {B b : Nat} {w w' : World} {v : Value} {x : Itm} (h : ItemFrom B w v x) (hb : w.heap.size ≤ b ∨ b < B) (hw : ∀ g o u, g ≠ b → w.cell? ⟨g, o, none⟩ = some u → w'.cell? ⟨g, o, none⟩ = some u) : ItemOff b w' v x := fun w'' h2 => h w'' (fun g o u hg hu => by
  have hlt := World.block_lt_of_cell? _ _ hu
  simp only at hlt
  have hne : g ≠ b := by omega
  exact h2 g o u hne (hw g o u hne hu))
/-- nothing of a block's first five cells is frozen -/
def Soft (w : World) (b : Nat) : Prop := w.frozen? ⟨b, 0, none⟩ = false ∧ w.frozen? ⟨b, 1, none⟩ = false ∧ w.frozen? ⟨b, 2, none⟩ = false ∧ w.frozen? ⟨b, 3, none⟩ = false ∧ w.frozen? ⟨b, 4, none⟩ = false
theorem Soft.below {w w' : World} {b : Nat} (h : Soft w b) (hb : Below w.heap.size w w') (hl : b < w.heap.size) : Soft w' b :=
  ⟨(hb.frozen (p := ⟨b, 0, none⟩) hl).trans h.1, (hb.frozen (p := ⟨b, 1, none⟩) hl).trans h.2.1, (hb.frozen (p := ⟨b, 2, none⟩) hl).trans h.2.2.1, (hb.frozen (p := ⟨b, 3, none⟩) hl).trans h.2.2.2.1, (hb.frozen (p := ⟨b, 4, none⟩) hl).trans h.2.2.2.2⟩
/-- a box holds an item that lies apart from it; another box stays as it was; so does what lay there -/
structure Held (w : World) (gb : Nat) (X : Itm) (bx : Nat) (p0 p1 p2 p3 p4 : Value) (W : World) : Prop where
  box : ∃ k t a1 n1 c1 a2 n2 c2 a3 n3 c3, BoxAt W gb (.int .i64 k) (.string t) (.slice a1 n1 c1) (.slice a2 n2 c2) (.slice a3 n3 c3) ∧ ItemOff gb W (.agg #[.int .i64 k, .string t, .slice a1 n1 c1, .slice a2 n2 c2, .slice a3 n3 c3]) X
  soft : Soft W gb
  xb : BoxAt W bx p0 p1 p2 p3 p4
  bel : Below w.heap.size w W
theorem box_set {w : World} {b : Nat} {u0 u1 u2 u3 u4 : Value} (v0 v1 v2 v3 v4 : Value) (h : BoxAt w b u0 u1 u2 u3 u4) : BoxAt (((((w.setCell ⟨b, 0, none⟩ v0).setCell ⟨b, 1, none⟩ v1).setCell ⟨b, 2, none⟩ v2).setCell ⟨b, 3, none⟩ v3).setCell ⟨b, 4, none⟩ v4) b v0 v1 v2 v3 v4 := by
  have h0 := h.c0
  have h1 := h.c1
  have h2 := h.c2
  have h3 := h.c3
  have h4 := h.c4
  have hl := h.lt
  exact ⟨by simp [go_sem, h0], by simp [go_sem, h1], by simp [go_sem, h2], by simp [go_sem, h3], by simp [go_sem, h4], by simpa using hl⟩
theorem Held.step {w W W' : World} {gb bx : Nat} {X X' : Itm} {p0 p1 p2 p3 p4 : Value} {k : Int} {t : ByteArray} {a1 a2 a3 : Option Addr} {n1 n2 n3 c1 c2 c3 : Nat} (h : Held w gb X bx p0 p1 p2 p3 p4 W) (hne : bx ≠ gb) (hg : w.heap.size ≤ gb) (hb : Below W.heap.size W W') (hi : ItemFrom W.heap.size W' (.agg #[.int .i64 k, .string t, .slice a1 n1 c1, .slice a2 n2 c2, .slice a3 n3 c3]) X') :
    Held w gb X' bx p0 p1 p2 p3 p4 (((((W'.setCell ⟨gb, 0, none⟩ (.int .i64 k)).setCell ⟨gb, 1, none⟩ (.string t)).setCell ⟨gb, 2, none⟩ (.slice a1 n1 c1)).setCell ⟨gb, 3, none⟩ (.slice a2 n2 c2)).setCell ⟨gb, 4, none⟩ (.slice a3 n3 c3)) := by
  obtain ⟨⟨k0, t0, b1, m1, d1, b2, m2, d2, b3, m3, d3, hbox, -⟩, hs, hx, hB⟩ := h
  have hl := hbox.lt
  refine ⟨⟨k, t, a1, n1, c1, a2, n2, c2, a3, n3, c3, box_set _ _ _ _ _ (hbox.below hb), ?_⟩, ?_, ?_, ?_⟩
  · refine hi.off (.inr hl) (fun g o u hg' hu => ?_)
    rw [five_apart _ _ _ _ _ _ _ g o hg']
    exact hu
  · obtain ⟨s0, s1, s2, s3, s4⟩ := hs.below hb hl
    exact ⟨by simpa using s0, by simpa using s1, by simpa using s2, by simpa using s3, by simpa using s4⟩
  · have := hx.below hb
    exact ⟨(five_apart _ _ _ _ _ _ _ _ _ hne).trans this.c0, (five_apart _ _ _ _ _ _ _ _ _ hne).trans this.c1, (five_apart _ _ _ _ _ _ _ _ _ hne).trans this.c2, (five_apart _ _ _ _ _ _ _ _ _ hne).trans this.c3, (five_apart _ _ _ _ _ _ _ _ _ hne).trans this.c4, by simpa using this.lt⟩
  · have hB' : Below w.heap.size w W' := hB.trans (hb.mono hB.size)
    clear hx hs hbox hi
    go_grown
theorem Held.below {w W W' : World} {gb bx : Nat} {X : Itm} {p0 p1 p2 p3 p4 : Value} (h : Held w gb X bx p0 p1 p2 p3 p4 W) (hb : Below W.heap.size W W') : Held w gb X bx p0 p1 p2 p3 p4 W' := by
  obtain ⟨⟨k0, t0, b1, m1, d1, b2, m2, d2, b3, m3, d3, hbox, ho⟩, hs, hx, hB⟩ := h
  refine ⟨⟨k0, t0, b1, m1, d1, b2, m2, d2, b3, m3, d3, hbox.below hb, fun w' hw => ho w' (fun g o u hg hu => hw g o u hg ?_)⟩, hs.below hb hbox.lt, hx.below hb, hB.trans (hb.mono hB.size)⟩
  exact (hb.cell (p := ⟨g, o, none⟩) (World.block_lt_of_cell? _ _ hu)).trans hu
theorem Held.alloc {w W : World} {gb bx : Nat} {X : Itm} {p0 p1 p2 p3 p4 : Value} (h : Held w gb X bx p0 p1 p2 p3 p4 W) (o : Obj) : Held w gb X bx p0 p1 p2 p3 p4 (W.alloc o) :=
  h.below ((Below.refl _ _).alloc (Nat.le_refl _) _)
theorem held_start {w w1 w2 : World} {X : Itm} {bx : Nat} {p0 p1 p2 p3 p4 : Value} {k : Int} {t : ByteArray} {a1 a2 a3 : Option Addr} {n1 n2 n3 c1 c2 c3 : Nat} {B : Nat} (hi : ItemFrom B w2 (.agg #[.int .i64 k, .string t, .slice a1 n1 c1, .slice a2 n2 c2, .slice a3 n3 c3]) X) (hx : BoxAt w2 bx p0 p1 p2 p3 p4) (hB : Below w.heap.size w w2) (hA : Below w2.heap.size w2 w1) (T : TypeId) :
    Held w w1.heap.size X bx p0 p1 p2 p3 p4 (w1.alloc (.cells #[.int .i64 k, .string t, .slice a1 n1 c1, .slice a2 n2 c2, .slice a3 n3 c3] T)) := by
  have hA1 : Below w2.heap.size w2 (w1.alloc (.cells #[.int .i64 k, .string t, .slice a1 n1 c1, .slice a2 n2 c2, .slice a3 n3 c3] T)) := hA.alloc hA.size _
  refine ⟨⟨k, t, a1, n1, c1, a2, n2, c2, a3, n3, c3, BoxAt.new _ _ _ _ _ _ _, ?_⟩, ?_, hx.below hA1, hB.trans (hA1.mono hB.size)⟩
  · exact hi.off (.inl hA.size) (fun g o u _ hu => (hA1.cell (p := ⟨g, o, none⟩) (World.block_lt_of_cell? _ _ hu)).trans hu)
  · exact ⟨by simp [go_sem], by simp [go_sem], by simp [go_sem], by simp [go_sem], by simp [go_sem]⟩
theorem nothing_any (v : Value) (x : Itm) (w : World) (h : ItemIs w v x) : Calls Try.prog 20 #[v] w fun e w' => e = .returned (.bool x.isNone) ∧ Below w.heap.size w w' := by
  obtain ⟨⟨a1, c1, a2, c2, a3, c3, rfl, -, -, -⟩, -, -, -, -, l1, l2, l3⟩ := h
  refine (refNothing_any x.k x.t a1 a2 a3 _ _ _ c1 c2 c3 w l1 l2 l3).mono ?_
  rintro e w' ⟨rfl, hb⟩
  refine ⟨?_, hb⟩
  simp [Itm.isNone]

end Go.Proofs.Ytolpmaapdkhigac
