/- What a call leaves: 'Kept S w w2': of the blocks that were there, none outside S has turned. -/
import Derived.WalkKit
import Derived.Deep.QuietTactic
namespace Go.Proofs.Ytolpmaapdkhigac
open Go.RowKit

theorem hide {p : Prop} (h : p) : Hid p := h
theorem unhide {p : Prop} (h : Hid p) : p := h

structure Kept (S : Nat → Prop) (w w' : World) : Prop where
  os : w'.os = w.os
  tape : w'.tape = w.tape
  output : w'.output = w.output
  size : w.heap.size ≤ w'.heap.size
  block : ∀ k, k < w.heap.size → ¬ S k → w'.heap[k]? = w.heap[k]?

theorem Kept.refl (S : Nat → Prop) (w : World) : Kept S w w := ⟨rfl, rfl, rfl, Nat.le_refl _, fun _ _ _ => rfl⟩

theorem Kept.trans {S : Nat → Prop} {a b c : World} (h : Kept S a b) (k : Kept S b c) : Kept S a c :=
  ⟨k.os.trans h.os, k.tape.trans h.tape, k.output.trans h.output, Nat.le_trans h.size k.size, fun i hi hs => (k.block i (Nat.lt_of_lt_of_le hi h.size) hs).trans (h.block i hi hs)⟩

theorem Kept.mono {S T : Nat → Prop} {w w' : World} (h : Kept S w w') (hS : ∀ k, k < w.heap.size → S k → T k) : Kept T w w' :=
  ⟨h.os, h.tape, h.output, h.size, fun k hk ht => h.block k hk (fun hs => ht (hS k hk hs))⟩

theorem Kept.drew {S : Nat → Prop} {a w : World} (h : Kept S a w) : Kept S a w.drew := ⟨h.os, h.tape, h.output, h.size, h.block⟩

theorem Kept.drewN {S : Nat → Prop} {a w : World} (h : Kept S a w) (n : Nat) : Kept S a (w.drewN n) := ⟨h.os, h.tape, h.output, h.size, h.block⟩

theorem Kept.alloc {S : Nat → Prop} {a w : World} (h : Kept S a w) (o : Obj) : Kept S a (w.alloc o) :=
  h.trans ⟨rfl, rfl, rfl, by simp, fun k hk _ => Below.heap_alloc _ _ _ hk⟩

theorem Kept.setCell {S : Nat → Prop} {a w : World} (h : Kept S a w) {p : Addr} (hp : S p.block ∨ a.heap.size ≤ p.block) (u : Value) : Kept S a (w.setCell p u) :=
  ⟨h.os, h.tape, h.output, by simpa [World.setCell] using h.size, fun k hk hs => (Below.heap_setCell _ _ _ _ (by rcases hp with hp | hp; exact fun e => hs (e ▸ hp); omega)).trans (h.block k hk hs)⟩

theorem Kept.grown {S : Nat → Prop} {a w w' : World} {row : Option Nat} (h : Kept S a w) (hg : w.grownBy w' row) (hr : ∀ k, row = some k → S k ∨ a.heap.size ≤ k) : Kept S a w' :=
  ⟨hg.os.trans h.os, hg.tape.trans h.tape, hg.output.trans h.output, Nat.le_trans h.size hg.size, fun k hk hs =>
    (hg.block k (Nat.lt_of_lt_of_le hk h.size) (fun e => by rcases hr k e.symm with hp | hp; exact hs hp; omega)).trans (h.block k hk hs)⟩

theorem Kept.cell {S : Nat → Prop} {w w' : World} (h : Kept S w w') {p : Addr} (hp : p.block < w.heap.size) (hs : ¬ S p.block) : w'.cell? p = w.cell? p :=
  World.cell?_of_block (w := w) (h.block p.block hp hs)

theorem Kept.frozen {S : Nat → Prop} {w w' : World} (h : Kept S w w') {p : Addr} (hp : p.block < w.heap.size) (hs : ¬ S p.block) : w'.frozen? p = w.frozen? p :=
  World.frozen?_of_block (w := w) (h.block p.block hp hs)

/-- a cell that holds something keeps it -/
theorem Kept.cell' {S : Nat → Prop} {w w' : World} (h : Kept S w w') {p : Addr} {v : Value} (hc : w.cell? p = some v) (hs : ¬ S p.block) : w'.cell? p = some v :=
  (h.cell (World.block_lt_of_cell? w p hc) hs).trans hc

theorem Kept.below {S : Nat → Prop} {w w' : World} (h : Kept S w w') {B : Nat} (hB : B ≤ w.heap.size) (hS : ∀ k, S k → B ≤ k) : Below B w w' :=
  ⟨h.os, h.tape, h.output, h.size, fun k hk => h.block k (by omega) (fun hs => by have := hS k hs; omega)⟩

theorem Kept.of_below {w w' : World} (h : Below w.heap.size w w') (S : Nat → Prop) : Kept S w w' :=
  ⟨h.os, h.tape, h.output, h.size, fun k hk _ => h.block k hk⟩

theorem Kept.owns {S : Nat → Prop} {w w' : World} (h : Kept S w w') {base : Nat} {e : TypeId} {size : Nat} {v : Value} {n : Nat} {xs : List Value} (ho : w.ownsRow base e size v n xs)
    (hs : ∀ k, v.ownBlock = some k → ¬ S k) : w'.ownsRow base e size v n xs := by
  refine ⟨ho.1, ?_⟩
  rcases ho.2 with hn | ⟨g, cap, cur, rfl, hb, hgg, rest⟩
  · exact .inl hn
  · refine .inr ⟨g, cap, cur, rfl, hb, ?_, rest⟩
    rw [h.block g (Array.getElem?_eq_some_iff.1 hgg).1 (hs g rfl)]
    exact hgg

/-- A walk over s stands at k: its struct lies in block b. -/
structure At (b : Nat) (s : ByteArray) (k : Nat) (w : World) : Prop where
  text : w.cell? ⟨b, 0, none⟩ = some (.string s)
  at_ : w.cell? ⟨b, 1, none⟩ = some (.int .i64 k)
  fz : w.frozen? ⟨b, 1, none⟩ = false
  le : k ≤ s.size
  small : s.size ≤ maxLen

theorem At.lt {b : Nat} {s : ByteArray} {k : Nat} {w : World} (h : At b s k w) : b < w.heap.size := World.block_lt_of_cell? w _ h.text

theorem At.kept {b : Nat} {s : ByteArray} {k : Nat} {w w' : World} (h : At b s k w) {S : Nat → Prop} (hk : Kept S w w') (hs : ¬ S b) : At b s k w' :=
  ⟨hk.cell' h.text hs, hk.cell' h.at_ hs, (hk.frozen (p := ⟨b, 1, none⟩) h.lt hs).trans h.fz, h.le, h.small⟩

theorem At.drewN {b : Nat} {s : ByteArray} {k : Nat} {w : World} (h : At b s k w) (n : Nat) : At b s k (w.drewN n) := ⟨h.text, h.at_, h.fz, h.le, h.small⟩

theorem At.set {b : Nat} {s : ByteArray} {k : Nat} {w : World} (h : At b s k w) {j : Nat} (hj : j ≤ s.size) : At b s j (w.setCell ⟨b, 1, none⟩ (.int .i64 j)) := by
  refine ⟨?_, ?_, ?_, hj, h.small⟩
  · rw [World.cell?_setCell_other _ _ _ _ (by simp)]; exact h.text
  · exact World.cell?_setCell_same _ _ _ h.at_
  · simp [h.fz]

/-- the set of one block -/
def one (b : Nat) : Nat → Prop := fun k => k = b

theorem Kept.set1 {b : Nat} {a w : World} (h : Kept (one b) a w) (o : Nat) (u : Value) : Kept (one b) a (w.setCell ⟨b, o, none⟩ u) := h.setCell (S := one b) (p := ⟨b, o, none⟩) (Or.inl rfl) u
theorem Kept.setNew {S : Nat → Prop} {a w : World} (h : Kept S a w) {g o : Nat} (hg : a.heap.size ≤ g) (u : Value) : Kept S a (w.setCell ⟨g, o, none⟩ u) := h.setCell (p := ⟨g, o, none⟩) (Or.inr hg) u

theorem drop_of_suffix {l t : List UInt8} (h : l <:+ t) : t.drop (t.length - l.length) = l := by
  obtain ⟨p, rfl⟩ := h
  simp

theorem suffix_cons {c : UInt8} {r t : List UInt8} (h : (c :: r) <:+ t) : r <:+ t := (List.suffix_cons c r).trans h

theorem size_list (s : ByteArray) : s.data.toList.length = s.size := by rw [Array.length_toList]; rfl

/-- A walk over s, of which the bytes l are left. -/
def AtL (b : Nat) (s : ByteArray) (l : List UInt8) (w : World) : Prop := At b s (s.size - l.length) w ∧ l <:+ s.data.toList

theorem AtL.kept {b : Nat} {s : ByteArray} {l : List UInt8} {w w' : World} (h : AtL b s l w) {S : Nat → Prop} (hk : Kept S w w') (hs : ¬ S b) : AtL b s l w' := ⟨h.1.kept hk hs, h.2⟩
theorem AtL.lt {b : Nat} {s : ByteArray} {l : List UInt8} {w : World} (h : AtL b s l w) : b < w.heap.size := h.1.lt
theorem AtL.alloc {b : Nat} {s : ByteArray} {l : List UInt8} {w : World} (h : AtL b s l w) (o : Obj) : AtL b s l (w.alloc o) :=
  h.kept (S := fun _ => False) ((Kept.refl _ _).alloc o) (fun x => x)
theorem AtL.setOther {b : Nat} {s : ByteArray} {l : List UInt8} {w : World} (h : AtL b s l w) {g o : Nat} (hg : g ≠ b) (u : Value) : AtL b s l (w.setCell ⟨g, o, none⟩ u) :=
  h.kept (S := one g) ((Kept.refl _ _).set1 o u) (fun x => hg x.symm)
theorem AtL.drew {b : Nat} {s : ByteArray} {l : List UInt8} {w : World} (h : AtL b s l w) : AtL b s l w.drew := h.kept (S := fun _ => False) ((Kept.refl _ _).drew) (fun x => x)
theorem AtL.drewN {b : Nat} {s : ByteArray} {l : List UInt8} {w : World} (h : AtL b s l w) (n : Nat) : AtL b s l (w.drewN n) := h.kept (S := fun _ => False) ((Kept.refl _ _).drewN n) (fun x => x)
theorem AtL.len {b : Nat} {s : ByteArray} {l : List UInt8} {w : World} (h : AtL b s l w) : l.length ≤ s.size := by rw [← size_list]; exact h.2.length_le

theorem get_of_suffix {s : ByteArray} {c : UInt8} {r : List UInt8} (h : (c :: r) <:+ s.data.toList) (hk : s.size - (r.length + 1) < s.size) : s[s.size - (r.length + 1)] = c := by
  have h1 := drop_of_suffix h
  rw [size_list] at h1
  have h2 : s.data.toList[s.size - (r.length + 1)]? = some c := by
    have h3 := congrArg (fun x => x[0]?) h1
    simpa using h3
  have h4 : s.data.toList[s.size - (r.length + 1)]? = some s[s.size - (r.length + 1)] := by
    rw [List.getElem?_eq_getElem (by rw [size_list]; exact hk)]
    rfl
  rw [h4] at h2
  exact Option.some.inj h2

theorem extract_list (s : ByteArray) (a b : Nat) : s.extract a b = ⟨((s.data.toList.drop a).take (b - a)).toArray⟩ := by
  have h := ByteArray.extract_mk s.data.toList a b
  rw [Array.toArray_toList] at h
  exact h

theorem extract_suffix {s : ByteArray} {l : List UInt8} (h : l <:+ s.data.toList) (n : Nat) : s.extract (s.size - l.length) (s.size - l.length + n) = ⟨(l.take n).toArray⟩ := by
  rw [extract_list]
  have h1 := drop_of_suffix h
  rw [size_list] at h1
  rw [h1, Nat.add_sub_cancel_left]

theorem extract_suffix_all {s : ByteArray} {l : List UInt8} (h : l <:+ s.data.toList) : s.extract (s.size - l.length) s.size = ⟨l.toArray⟩ := by
  have h2 : l.length ≤ s.size := by rw [← size_list]; exact h.length_le
  have h3 := extract_suffix h l.length
  rw [Nat.sub_add_cancel h2, List.take_length] at h3
  exact h3

/-- how many bytes are left of a walk, read off the world: for a loop's measure -/
def leftOf (b : Nat) (s : ByteArray) (w : World) : Nat := s.size - (match w.cell? ⟨b, 1, none⟩ with | some (.int _ q) => q.toNat | _ => 0)
theorem AtL.left {b : Nat} {s : ByteArray} {l : List UInt8} {w : World} (h : AtL b s l w) : leftOf b s w = l.length := by
  have hl := h.len
  have e : leftOf b s w = s.size - ((s.size - l.length : Nat) : Int).toNat := by simp only [leftOf, h.1.at_]
  rw [e, Int.toNat_natCast]
  omega

theorem size_mk (l : List UInt8) : (ByteArray.mk l.toArray).size = l.length := by simp [ByteArray.size]
theorem toList_mk (l : List UInt8) : (ByteArray.mk l.toArray).data.toList = l := by simp

theorem bcell {W w1 : World} (hb : Below W.heap.size W w1) : (∀ b o, b < W.heap.size → w1.cell? ⟨b, o, none⟩ = W.cell? ⟨b, o, none⟩) ∧ (∀ b o, b < W.heap.size → w1.frozen? ⟨b, o, none⟩ = W.frozen? ⟨b, o, none⟩) :=
  ⟨fun b o h => hb.cell (p := ⟨b, o, none⟩) h, fun b o h => hb.frozen (p := ⟨b, o, none⟩) h⟩
theorem list_append (a b : ByteArray) : (a ++ b).data.toList = a.data.toList ++ b.data.toList := by
  rw [ByteArray.data_append, Array.toList_append]

end Go.Proofs.Ytolpmaapdkhigac
