/- Part 1 of what the proof leans on: Base, IDef, IChk1, IChk5, IChk2, IChk3, IChk6, IChk7, IChk8, IChk9, IChk4, IChk10, IChk11, ComR, ComC, Com, ISame, ISame2, RZer, OwnF, Lst1, Lst2, ShelfL, Lst3, RInt, RChk1. -/
import Derived.WalkKit
import Derived.Deep.QuietTactic
import Derived.Lib.Bytealg
import Derived.Test.YtcidoodaiimhfaaGreatChecked
import Derived.Handy
import Derived.BigQuiet
import Derived.Deep.RegionHeld3
import Derived.Maps.OwnSet
import Derived.Lib.AppendZeros
import Derived.Laws.OwnMore
import Derived.Shelf.Slices.ReverseS
import Derived.Shelf.Slices.Clone
import Derived.Shelf.Slices.Cells
import Derived.Test.YtcidoodaiimhfaaGreatProg
import Derived.Laws.IdiomCopy
/- What a call leaves: 'Kept S w w2': of the blocks that were there, none outside S has turned. -/
namespace Go.Proofs.YtcidoodaiimhfaaGreat
open Go.RowKit

theorem hide {p : Prop} (h : p) : Hid p := h
theorem unhide {p : Prop} (h : Hid p) : p := h

structure Kept (S : Nat → Prop) (w w' : World) : Prop where
  os : w'.os = w.os
  tape : w'.tape = w.tape
  output : w'.output = w.output
  size : w.heap.size ≤ w'.heap.size
  block : ∀ k, k < w.heap.size → ¬ S k → w'.heap[k]? = w.heap[k]?

theorem Kept.refl (S : Nat → Prop) (w : World) : Kept S w w := ⟨rfl, rfl, rfl, Nat.le_refl _, fun _ _ _ => rfl⟩

theorem Kept.trans {S : Nat → Prop} {a b c : World} (h : Kept S a b) (k : Kept S b c) : Kept S a c :=
  ⟨k.os.trans h.os, k.tape.trans h.tape, k.output.trans h.output, Nat.le_trans h.size k.size, fun i hi hs => (k.block i (Nat.lt_of_lt_of_le hi h.size) hs).trans (h.block i hi hs)⟩

theorem Kept.mono {S T : Nat → Prop} {w w' : World} (h : Kept S w w') (hS : ∀ k, k < w.heap.size → S k → T k) : Kept T w w' :=
  ⟨h.os, h.tape, h.output, h.size, fun k hk ht => h.block k hk (fun hs => ht (hS k hk hs))⟩

theorem Kept.drew {S : Nat → Prop} {a w : World} (h : Kept S a w) : Kept S a w.drew := ⟨h.os, h.tape, h.output, h.size, h.block⟩

theorem Kept.drewN {S : Nat → Prop} {a w : World} (h : Kept S a w) (n : Nat) : Kept S a (w.drewN n) := ⟨h.os, h.tape, h.output, h.size, h.block⟩

theorem Kept.alloc {S : Nat → Prop} {a w : World} (h : Kept S a w) (o : Obj) : Kept S a (w.alloc o) :=
  h.trans ⟨rfl, rfl, rfl, by simp, fun k hk _ => Below.heap_alloc _ _ _ hk⟩

theorem Kept.setCell {S : Nat → Prop} {a w : World} (h : Kept S a w) {p : Addr} (hp : S p.block ∨ a.heap.size ≤ p.block) (u : Value) : Kept S a (w.setCell p u) :=
  ⟨h.os, h.tape, h.output, by simpa [World.setCell] using h.size, fun k hk hs => (Below.heap_setCell _ _ _ _ (by rcases hp with hp | hp; exact fun e => hs (e ▸ hp); omega)).trans (h.block k hk hs)⟩

theorem Kept.grown {S : Nat → Prop} {a w w' : World} {row : Option Nat} (h : Kept S a w) (hg : w.grownBy w' row) (hr : ∀ k, row = some k → S k ∨ a.heap.size ≤ k) : Kept S a w' :=
  ⟨hg.os.trans h.os, hg.tape.trans h.tape, hg.output.trans h.output, Nat.le_trans h.size hg.size, fun k hk hs =>
    (hg.block k (Nat.lt_of_lt_of_le hk h.size) (fun e => by rcases hr k e.symm with hp | hp; exact hs hp; omega)).trans (h.block k hk hs)⟩

theorem Kept.cell {S : Nat → Prop} {w w' : World} (h : Kept S w w') {p : Addr} (hp : p.block < w.heap.size) (hs : ¬ S p.block) : w'.cell? p = w.cell? p :=
  World.cell?_of_block (w := w) (h.block p.block hp hs)

theorem Kept.frozen {S : Nat → Prop} {w w' : World} (h : Kept S w w') {p : Addr} (hp : p.block < w.heap.size) (hs : ¬ S p.block) : w'.frozen? p = w.frozen? p :=
  World.frozen?_of_block (w := w) (h.block p.block hp hs)

/-- a cell that holds something keeps it -/
theorem Kept.cell' {S : Nat → Prop} {w w' : World} (h : Kept S w w') {p : Addr} {v : Value} (hc : w.cell? p = some v) (hs : ¬ S p.block) : w'.cell? p = some v :=
  (h.cell (World.block_lt_of_cell? w p hc) hs).trans hc

theorem Kept.below {S : Nat → Prop} {w w' : World} (h : Kept S w w') {B : Nat} (hB : B ≤ w.heap.size) (hS : ∀ k, S k → B ≤ k) : Below B w w' :=
  ⟨h.os, h.tape, h.output, h.size, fun k hk => h.block k (by omega) (fun hs => by have := hS k hs; omega)⟩

theorem Kept.of_below {w w' : World} (h : Below w.heap.size w w') (S : Nat → Prop) : Kept S w w' :=
  ⟨h.os, h.tape, h.output, h.size, fun k hk _ => h.block k hk⟩

theorem Kept.owns {S : Nat → Prop} {w w' : World} (h : Kept S w w') {base : Nat} {e : TypeId} {size : Nat} {v : Value} {n : Nat} {xs : List Value} (ho : w.ownsRow base e size v n xs)
    (hs : ∀ k, v.ownBlock = some k → ¬ S k) : w'.ownsRow base e size v n xs := by
  refine ⟨ho.1, ?_⟩
  rcases ho.2 with hn | ⟨g, cap, cur, rfl, hb, hgg, rest⟩
  · exact .inl hn
  · refine .inr ⟨g, cap, cur, rfl, hb, ?_, rest⟩
    rw [h.block g (Array.getElem?_eq_some_iff.1 hgg).1 (hs g rfl)]
    exact hgg

/-- A walk over s stands at k: its struct lies in block b. -/
structure At (b : Nat) (s : ByteArray) (k : Nat) (w : World) : Prop where
  text : w.cell? ⟨b, 0, none⟩ = some (.string s)
  at_ : w.cell? ⟨b, 1, none⟩ = some (.int .i64 k)
  fz : w.frozen? ⟨b, 1, none⟩ = false
  le : k ≤ s.size
  small : s.size ≤ maxLen

theorem At.lt {b : Nat} {s : ByteArray} {k : Nat} {w : World} (h : At b s k w) : b < w.heap.size := World.block_lt_of_cell? w _ h.text

theorem At.kept {b : Nat} {s : ByteArray} {k : Nat} {w w' : World} (h : At b s k w) {S : Nat → Prop} (hk : Kept S w w') (hs : ¬ S b) : At b s k w' :=
  ⟨hk.cell' h.text hs, hk.cell' h.at_ hs, (hk.frozen (p := ⟨b, 1, none⟩) h.lt hs).trans h.fz, h.le, h.small⟩

theorem At.drewN {b : Nat} {s : ByteArray} {k : Nat} {w : World} (h : At b s k w) (n : Nat) : At b s k (w.drewN n) := ⟨h.text, h.at_, h.fz, h.le, h.small⟩

theorem At.set {b : Nat} {s : ByteArray} {k : Nat} {w : World} (h : At b s k w) {j : Nat} (hj : j ≤ s.size) : At b s j (w.setCell ⟨b, 1, none⟩ (.int .i64 j)) := by
  refine ⟨?_, ?_, ?_, hj, h.small⟩
  · rw [World.cell?_setCell_other _ _ _ _ (by simp)]; exact h.text
  · exact World.cell?_setCell_same _ _ _ h.at_
  · simp [h.fz]

/-- the set of one block -/
def one (b : Nat) : Nat → Prop := fun k => k = b

theorem Kept.set1 {b : Nat} {a w : World} (h : Kept (one b) a w) (o : Nat) (u : Value) : Kept (one b) a (w.setCell ⟨b, o, none⟩ u) := h.setCell (S := one b) (p := ⟨b, o, none⟩) (Or.inl rfl) u
theorem Kept.setNew {S : Nat → Prop} {a w : World} (h : Kept S a w) {g o : Nat} (hg : a.heap.size ≤ g) (u : Value) : Kept S a (w.setCell ⟨g, o, none⟩ u) := h.setCell (p := ⟨g, o, none⟩) (Or.inr hg) u

theorem drop_of_suffix {l t : List UInt8} (h : l <:+ t) : t.drop (t.length - l.length) = l := by
  obtain ⟨p, rfl⟩ := h
  simp

theorem suffix_cons {c : UInt8} {r t : List UInt8} (h : (c :: r) <:+ t) : r <:+ t := (List.suffix_cons c r).trans h

theorem size_list (s : ByteArray) : s.data.toList.length = s.size := by rw [Array.length_toList]; rfl

/-- A walk over s, of which the bytes l are left. -/
def AtL (b : Nat) (s : ByteArray) (l : List UInt8) (w : World) : Prop := At b s (s.size - l.length) w ∧ l <:+ s.data.toList

theorem AtL.kept {b : Nat} {s : ByteArray} {l : List UInt8} {w w' : World} (h : AtL b s l w) {S : Nat → Prop} (hk : Kept S w w') (hs : ¬ S b) : AtL b s l w' := ⟨h.1.kept hk hs, h.2⟩
theorem AtL.lt {b : Nat} {s : ByteArray} {l : List UInt8} {w : World} (h : AtL b s l w) : b < w.heap.size := h.1.lt
theorem AtL.alloc {b : Nat} {s : ByteArray} {l : List UInt8} {w : World} (h : AtL b s l w) (o : Obj) : AtL b s l (w.alloc o) :=
  h.kept (S := fun _ => False) ((Kept.refl _ _).alloc o) (fun x => x)
theorem AtL.setOther {b : Nat} {s : ByteArray} {l : List UInt8} {w : World} (h : AtL b s l w) {g o : Nat} (hg : g ≠ b) (u : Value) : AtL b s l (w.setCell ⟨g, o, none⟩ u) :=
  h.kept (S := one g) ((Kept.refl _ _).set1 o u) (fun x => hg x.symm)
theorem AtL.drew {b : Nat} {s : ByteArray} {l : List UInt8} {w : World} (h : AtL b s l w) : AtL b s l w.drew := h.kept (S := fun _ => False) ((Kept.refl _ _).drew) (fun x => x)
theorem AtL.drewN {b : Nat} {s : ByteArray} {l : List UInt8} {w : World} (h : AtL b s l w) (n : Nat) : AtL b s l (w.drewN n) := h.kept (S := fun _ => False) ((Kept.refl _ _).drewN n) (fun x => x)
theorem AtL.len {b : Nat} {s : ByteArray} {l : List UInt8} {w : World} (h : AtL b s l w) : l.length ≤ s.size := by rw [← size_list]; exact h.2.length_le

theorem get_of_suffix {s : ByteArray} {c : UInt8} {r : List UInt8} (h : (c :: r) <:+ s.data.toList) (hk : s.size - (r.length + 1) < s.size) : s[s.size - (r.length + 1)] = c := by
  have h1 := drop_of_suffix h
  rw [size_list] at h1
  have h2 : s.data.toList[s.size - (r.length + 1)]? = some c := by
    have h3 := congrArg (fun x => x[0]?) h1
    simpa using h3
  have h4 : s.data.toList[s.size - (r.length + 1)]? = some s[s.size - (r.length + 1)] := by
    rw [List.getElem?_eq_getElem (by rw [size_list]; exact hk)]
    rfl
  rw [h4] at h2
  exact Option.some.inj h2

theorem extract_list (s : ByteArray) (a b : Nat) : s.extract a b = ⟨((s.data.toList.drop a).take (b - a)).toArray⟩ := by
  have h := ByteArray.extract_mk s.data.toList a b
  rw [Array.toArray_toList] at h
  exact h

theorem extract_suffix {s : ByteArray} {l : List UInt8} (h : l <:+ s.data.toList) (n : Nat) : s.extract (s.size - l.length) (s.size - l.length + n) = ⟨(l.take n).toArray⟩ := by
  rw [extract_list]
  have h1 := drop_of_suffix h
  rw [size_list] at h1
  rw [h1, Nat.add_sub_cancel_left]

theorem extract_suffix_all {s : ByteArray} {l : List UInt8} (h : l <:+ s.data.toList) : s.extract (s.size - l.length) s.size = ⟨l.toArray⟩ := by
  have h2 : l.length ≤ s.size := by rw [← size_list]; exact h.length_le
  have h3 := extract_suffix h l.length
  rw [Nat.sub_add_cancel h2, List.take_length] at h3
  exact h3

/-- how many bytes are left of a walk, read off the world: for a loop's measure -/
def leftOf (b : Nat) (s : ByteArray) (w : World) : Nat := s.size - (match w.cell? ⟨b, 1, none⟩ with | some (.int _ q) => q.toNat | _ => 0)
theorem AtL.left {b : Nat} {s : ByteArray} {l : List UInt8} {w : World} (h : AtL b s l w) : leftOf b s w = l.length := by
  have hl := h.len
  have e : leftOf b s w = s.size - ((s.size - l.length : Nat) : Int).toNat := by simp only [leftOf, h.1.at_]
  rw [e, Int.toNat_natCast]
  omega

theorem size_mk (l : List UInt8) : (ByteArray.mk l.toArray).size = l.length := by simp [ByteArray.size]
theorem toList_mk (l : List UInt8) : (ByteArray.mk l.toArray).data.toList = l := by simp

theorem bcell {W w1 : World} (hb : Below W.heap.size W w1) : (∀ b o, b < W.heap.size → w1.cell? ⟨b, o, none⟩ = W.cell? ⟨b, o, none⟩) ∧ (∀ b o, b < W.heap.size → w1.frozen? ⟨b, o, none⟩ = W.frozen? ⟨b, o, none⟩) :=
  ⟨fun b o h => hb.cell (p := ⟨b, o, none⟩) h, fun b o h => hb.frozen (p := ⟨b, o, none⟩) h⟩
theorem list_append (a b : ByteArray) : (a ++ b).data.toList = a.data.toList ++ b.data.toList := by
  rw [ByteArray.data_append, Array.toList_append]

end Go.Proofs.YtcidoodaiimhfaaGreat

/- Items as plain data, and what is wrong with one. -/
namespace Go.Proofs.YtcidoodaiimhfaaGreat

/-- an item -/
structure Itm where
  k : Int
  t : ByteArray
  l : List ByteArray
  p : List (ByteArray × ByteArray)
  s : List (Int × ByteArray)
/-- what a key has that is not there -/
def Itm.none : Itm := ⟨0, ⟨#[]⟩, [], [], []⟩
def Itm.isNone (x : Itm) : Bool := decide (x.k = 0 ∧ x.t.toList = [] ∧ x.l = [] ∧ x.p = [] ∧ x.s = [])

def longT (t : ByteArray) : Bool := decide (60 < t.size)
def longP (x : ByteArray × ByteArray) : Bool := longT x.1 || longT x.2
def longS (x : Int × ByteArray) : Bool := longT x.2
def outS (x : Int × ByteArray) : Bool := decide (x.1 < -999999999) || decide (999999999 < x.1)
/-- how many there are, and how long -/
def sizeT (n : Nat) (long : Bool) : Int := if n = 0 then 5 else if 24 < n ∨ long = true then 2 else 0
theorem sizeT_small {n : Nat} {b : Bool} (h : sizeT n b = 0) : n ≤ 24 := by
  unfold sizeT at h
  split at h
  · cases h
  · split at h
    · cases h
    · omega
theorem sizeT_short {n : Nat} {b : Bool} (h : sizeT n b = 0) : b = false := by
  unfold sizeT at h
  split at h
  · cases h
  · split at h
    · cases h
    · rename_i hx
      cases b
      · rfl
      · exact absurd (Or.inr rfl) hx
theorem sizeT_pos {n : Nat} {b : Bool} (h : sizeT n b = 0) : 0 < n := by
  unfold sizeT at h
  split at h
  · cases h
  · omega
/-- the order of texts -/
def cmpT (a b : ByteArray) : Int := Lib.compareBytes a.data.toList b.data.toList
def cmpP (a b : ByteArray × ByteArray) : Int := cmpT a.1 b.1
def cmpS (a b : Int × ByteArray) : Int := if a.1 < b.1 then -1 else if b.1 < a.1 then 1 else cmpT a.2 b.2
/-- do the first so many rise? -/
def riseTo {α : Type} [Inhabited α] (cmp : α → α → Int) (ts : List α) (n : Nat) : Bool := (List.range (n - 1)).all fun j => decide (cmp ts[j]! ts[j + 1]! < 0)
theorem riseTo_succ {α : Type} [Inhabited α] (cmp : α → α → Int) (ts : List α) (k : Nat) (hk : 1 ≤ k) : riseTo cmp ts (k + 1) = (riseTo cmp ts k && decide (cmp ts[k - 1]! ts[k]! < 0)) := by
  obtain ⟨m, rfl⟩ : ∃ m, k = m + 1 := ⟨k - 1, by omega⟩
  unfold riseTo
  rw [show m + 1 + 1 - 1 = m + 1 by omega, show m + 1 - 1 = m by omega, List.range_succ, List.all_append]
  simp
theorem riseTo_false {α : Type} [Inhabited α] {cmp : α → α → Int} {ts : List α} {k n : Nat} (h : riseTo cmp ts k = false) (hk : k ≤ n) : riseTo cmp ts n = false := by
  rw [riseTo, List.all_eq_false] at h ⊢
  obtain ⟨x, hx, hf⟩ := h
  rw [List.mem_range] at hx
  exact ⟨x, List.mem_range.2 (by omega), hf⟩
/-- is a member there twice? -/
def twiceS (l : List (Int × ByteArray)) : Bool := !decide ((l.map Prod.snd).Nodup)
def setT (ts : List ByteArray) : Int :=
  if sizeT ts.length (ts.any longT) ≠ 0 then sizeT ts.length (ts.any longT) else if riseTo cmpT ts ts.length = true then 0 else 4
def hashT (ts : List (ByteArray × ByteArray)) : Int :=
  if sizeT ts.length (ts.any longP) ≠ 0 then sizeT ts.length (ts.any longP) else if riseTo cmpP ts ts.length = true then 0 else 4
def scoreT (ts : List (Int × ByteArray)) : Int :=
  if sizeT ts.length (ts.any longS) ≠ 0 then sizeT ts.length (ts.any longS) else if ts.any outS = true then 3 else if twiceS ts = true then 6 else if riseTo cmpS ts ts.length = true then 0 else 4
/-- has it something that its kind does not name? -/
def otherI (x : Itm) : Bool :=
  decide ((x.k ≠ 1 ∧ ¬ x.t.toList = []) ∨ (¬ (x.k = 2 ∨ x.k = 3) ∧ 0 < x.l.length) ∨ (x.k ≠ 4 ∧ 0 < x.p.length) ∨ (x.k ≠ 5 ∧ 0 < x.s.length))
/-- what is wrong with an item -/
def chkI (x : Itm) : Int :=
  if x.k < 1 ∨ 5 < x.k then 7 else if otherI x = true then 1 else
    if x.k = 2 then sizeT x.l.length (x.l.any longT) else if x.k = 3 then setT x.l else if x.k = 4 then hashT x.p else if x.k = 5 then scoreT x.s else
    if longT x.t = true then 2 else 0
/-- .. that must be nothing, or of a kind -/
def asI (x : Itm) (kind : Int) : Int := if x.isNone = true then 0 else if chkI x ≠ 0 then chkI x else if x.k ≠ kind then 7 else 0
/-- is a text there? -/
def hasT (ts : List ByteArray) (s : ByteArray) : Bool := ts.any fun t => decide (t = s)
theorem hasT_iff {ts : List ByteArray} {s : ByteArray} : hasT ts s = true ↔ s ∈ ts := by
  simp [hasT, List.any_eq_true]
theorem hasT_not {ts : List ByteArray} {s : ByteArray} (h : s ∉ ts) : hasT ts s = false := by
  cases hb : hasT ts s
  · rfl
  · exact absurd (hasT_iff.1 hb) h
end Go.Proofs.YtcidoodaiimhfaaGreat

/- WALKS of the item's checks: how many, and how long (lists of texts). -/
namespace Go.Proofs.YtcidoodaiimhfaaGreat
open Go.RowKit

theorem isLong_any (t : ByteArray) (w : World) : Calls Tryz.prog 143 #[.string t] w fun e w' => e = .returned (.bool (longT t)) ∧ w' = w := by
  have h : decide ((60 : Int) < ((t.size : Nat) : Int)) = longT t := by unfold longT; simp; omega
  go_enter Tryz.func143, Tryz.ntmps143
  go_wp2_with fail
  go_ret
  exact ⟨rfl, rfl⟩
theorem isLong_below (t : ByteArray) (w : World) : Calls Tryz.prog 143 #[.string t] w fun e w' => e = .returned (.bool (longT t)) ∧ Below w.heap.size w w' :=
  (isLong_any t w).mono fun _ _ ⟨h1, h2⟩ => ⟨h1, by subst h2; exact Below.refl _ _⟩
/-- what lies in memory -/
def TextsAt (w : World) (a : Option Addr) (ts : List ByteArray) : Prop :=
  ts = [] ∨ ∃ g o, a = some ⟨g, o, none⟩ ∧ ∀ i (h : i < ts.length), w.cell? ⟨g, o + i, none⟩ = some (.string ts[i])
theorem TextsAt.nil (w : World) : TextsAt w none [] := .inl rfl
theorem TextsAt.moved {w w' : World} {a : Option Addr} {ts : List ByteArray} (h : TextsAt w a ts) (hb : ∀ g o v, w.cell? ⟨g, o, none⟩ = some v → w'.cell? ⟨g, o, none⟩ = some v) : TextsAt w' a ts := by
  rcases h with h | ⟨g, o, ha, hc⟩
  · exact .inl h
  · exact .inr ⟨g, o, ha, fun i hi => hb _ _ _ (hc i hi)⟩
theorem TextsAt.below {w w' : World} {a : Option Addr} {ts : List ByteArray} (h : TextsAt w a ts) (hb : Below w.heap.size w w') : TextsAt w' a ts :=
  h.moved (fun g o _ hv => (hb.cell (p := ⟨g, o, none⟩) (World.block_lt_of_cell? _ _ hv)).trans hv)
/-- what lies in memory -/
def PairsAt (w : World) (a : Option Addr) (ts : List (ByteArray × ByteArray)) : Prop :=
  ts = [] ∨ ∃ g o, a = some ⟨g, o, none⟩ ∧ ∀ i (h : i < ts.length), w.cell? ⟨g, o + i * 2, none⟩ = some (.string ts[i].1) ∧ w.cell? ⟨g, o + i * 2 + 1, none⟩ = some (.string ts[i].2)
theorem PairsAt.nil (w : World) : PairsAt w none [] := .inl rfl
theorem PairsAt.moved {w w' : World} {a : Option Addr} {ts : List (ByteArray × ByteArray)} (h : PairsAt w a ts) (hb : ∀ g o v, w.cell? ⟨g, o, none⟩ = some v → w'.cell? ⟨g, o, none⟩ = some v) : PairsAt w' a ts := by
  rcases h with h | ⟨g, o, ha, hc⟩
  · exact .inl h
  · exact .inr ⟨g, o, ha, fun i hi => ⟨hb _ _ _ (hc i hi).1, hb _ _ _ (hc i hi).2⟩⟩
theorem PairsAt.below {w w' : World} {a : Option Addr} {ts : List (ByteArray × ByteArray)} (h : PairsAt w a ts) (hb : Below w.heap.size w w') : PairsAt w' a ts :=
  h.moved (fun g o _ hv => (hb.cell (p := ⟨g, o, none⟩) (World.block_lt_of_cell? _ _ hv)).trans hv)
/-- what lies in memory -/
def ScoresAt (w : World) (a : Option Addr) (ts : List (Int × ByteArray)) : Prop :=
  ts = [] ∨ ∃ g o, a = some ⟨g, o, none⟩ ∧ ∀ i (h : i < ts.length), w.cell? ⟨g, o + i * 2, none⟩ = some (.int .i64 ts[i].1) ∧ w.cell? ⟨g, o + i * 2 + 1, none⟩ = some (.string ts[i].2)
theorem ScoresAt.nil (w : World) : ScoresAt w none [] := .inl rfl
theorem ScoresAt.moved {w w' : World} {a : Option Addr} {ts : List (Int × ByteArray)} (h : ScoresAt w a ts) (hb : ∀ g o v, w.cell? ⟨g, o, none⟩ = some v → w'.cell? ⟨g, o, none⟩ = some v) : ScoresAt w' a ts := by
  rcases h with h | ⟨g, o, ha, hc⟩
  · exact .inl h
  · exact .inr ⟨g, o, ha, fun i hi => ⟨hb _ _ _ (hc i hi).1, hb _ _ _ (hc i hi).2⟩⟩
theorem ScoresAt.below {w w' : World} {a : Option Addr} {ts : List (Int × ByteArray)} (h : ScoresAt w a ts) (hb : Below w.heap.size w w') : ScoresAt w' a ts :=
  h.moved (fun g o _ hv => (hb.cell (p := ⟨g, o, none⟩) (World.block_lt_of_cell? _ _ hv)).trans hv)

set_option maxRecDepth 100000 in
set_option maxHeartbeats 1000000 in
theorem idxLong_any (a : Option Addr) (cap : Nat) (ts : List ByteArray) (w : World) (hs : TextsAt w a ts) (hn : ts.length ≤ 1000000) :
    Calls Tryz.prog 153 #[.slice a ts.length cap, .func (.func 143) #[] #[]] w fun e w' => (∃ n : Int, e = .returned (.int .i64 n) ∧ (decide (0 ≤ n) = ts.any longT)) ∧ Below w.heap.size w w' := by
  have HS := hide hs
  clear hs
  go_enter Tryz.func153, Tryz.ntmps153
  go_wp2_with fail
  go_loopw [8] (fun i wr => ∃ k : Nat, k ≤ ts.length ∧ i = .int .i64 k ∧ Below w.heap.size w wr ∧ Hid ((ts.take k).any longT = false)) (fun i _ => ts.length - (intOf i).toNat)
  case atStart => exact ⟨0, Nat.zero_le _, rfl, Below.refl _ _, by simp [Hid]⟩
  case round =>
    obtain ⟨k, hk, rfl, hb, HA⟩ := hrel
    by_cases hlt : k < ts.length
    · obtain ⟨g, o, rfl, hcs⟩ : ∃ g o, a = some ⟨g, o, none⟩ ∧ ∀ i (h : i < ts.length), w.cell? ⟨g, o + i, none⟩ = some (.string ts[i]) := by
        rcases HS.out with h | h
        · subst h; simp at hlt
        · exact h
      have HB : Hid (∀ g o v, w.cell? ⟨g, o, none⟩ = some v → wr.cell? ⟨g, o, none⟩ = some v) := fun g o _ hv => (hb.cell (p := ⟨g, o, none⟩) (World.block_lt_of_cell? _ _ hv)).trans hv
      have d0 : wr.cell? ⟨g, o + k, none⟩ = some (.string ts[k]) := HB.out _ _ _ (hcs k hlt)
      have HT : Hid ((ts.take (k + 1)).any longT = ((ts.take k).any longT || longT ts[k])) := by
        rw [Hid, List.take_succ_eq_append_getElem hlt, List.any_append]
        simp
      have HF : Hid (longT ts[k] = true → ts.any longT = true) := fun hx => List.any_eq_true.mpr ⟨ts[k], List.getElem_mem hlt, hx⟩
      clear hcs HS HB
      go_wp2_with fail
      refine (isLong_below ts[k] wr).mono ?_
      rintro e w1 ⟨rfl, hb1⟩
      have hb2 : Below w.heap.size w w1 := hb.trans (hb1.mono hb.size)
      cases hx : longT ts[k] with
      | true =>
        have HY := hide (HF.out hx)
        clear HF HT hx
        go_wp2_with fail
        go_ret
        exact ⟨⟨_, rfl, by rw [HY.out]; simp⟩, hb2⟩
      | false =>
        have HY : Hid ((ts.take (k + 1)).any longT = false) := by rw [Hid, HT.out, HA.out, hx]; rfl
        clear HF HT hx
        go_wp2_with fail
        go_roundw
        case rel => exact ⟨k + 1, by omega, by go_num, hb2, HY⟩
        case measure => simp [intOf]; omega
    · have hkk : k = ts.length := by omega
      subst hkk
      have HY : Hid (ts.any longT = false) := by have := HA.out; rw [List.take_length] at this; exact this
      go_wp2_with fail
      go_ret
      exact ⟨⟨-1, rfl, by rw [HY.out]; rfl⟩, hb⟩
theorem containsLong_any (a : Option Addr) (cap : Nat) (ts : List ByteArray) (w : World) (hs : TextsAt w a ts) (hn : ts.length ≤ 1000000) :
    Calls Tryz.prog 86 #[.slice a ts.length cap, .func (.func 143) #[] #[]] w fun e w' => e = .returned (.bool (ts.any longT)) ∧ Below w.heap.size w w' := by
  have HI := hide (idxLong_any a cap ts w hs hn)
  clear hs
  go_enter Tryz.func86, Tryz.ntmps86
  go_wp2_with fail
  refine HI.out.mono ?_
  rintro e w1 ⟨⟨n, rfl, hd⟩, hb⟩
  have HD := hide hd
  clear hd
  go_wp2_with fail
  go_ret
  exact ⟨by rw [← HD.out]; rfl, hb⟩

theorem checkSizeT_any (a : Option Addr) (cap : Nat) (ts : List ByteArray) (w : World) (hs : TextsAt w a ts) :
    Calls Tryz.prog 142 #[.slice a ts.length cap, .func (.func 143) #[] #[]] w fun e w' => e = .returned (.int .i64 (sizeT ts.length (ts.any longT))) ∧ Below w.heap.size w w' := by
  by_cases h0 : ts.length = 0
  · have hv : sizeT ts.length (ts.any longT) = 5 := by rw [sizeT, if_pos h0]
    rw [hv]
    clear hv
    go_enter Tryz.func142, Tryz.ntmps142
    go_wp2_with fail
    go_ret
    exact ⟨rfl, Below.refl _ _⟩
  · have h0b : ((ts.length : Int) == 0) = false := by rw [beq_eq_false_iff_ne]; omega
    by_cases h24 : 24 < ts.length
    · have hv : sizeT ts.length (ts.any longT) = 2 := by rw [sizeT, if_neg h0, if_pos (.inl h24)]
      have h24' : (24 : Int) < ((ts.length : Nat) : Int) := by omega
      rw [hv]
      clear hv
      go_enter Tryz.func142, Tryz.ntmps142
      go_wp2_with fail
      go_ret
      exact ⟨rfl, Below.refl _ _⟩
    · have h24' : ¬ (24 : Int) < ((ts.length : Nat) : Int) := by omega
      have HC := hide (containsLong_any a cap ts w hs (by omega))
      cases hl : ts.any longT with
      | true =>
        have hv : sizeT ts.length true = 2 := by rw [sizeT, if_neg h0, if_pos (.inr rfl)]
        rw [hl] at HC
        rw [hv]
        clear hv hs hl
        go_enter Tryz.func142, Tryz.ntmps142
        go_wp2_with fail
        refine HC.out.mono ?_
        rintro e w1 ⟨rfl, hb1⟩
        go_wp2_with fail
        go_ret
        exact ⟨rfl, hb1⟩
      | false =>
        have hv : sizeT ts.length false = 0 := by rw [sizeT, if_neg h0, if_neg (by rintro (h | h); omega; cases h)]
        rw [hl] at HC
        rw [hv]
        clear hv hs hl
        go_enter Tryz.func142, Tryz.ntmps142
        go_wp2_with fail
        refine HC.out.mono ?_
        rintro e w1 ⟨rfl, hb1⟩
        go_wp2_with fail
        go_ret
        exact ⟨rfl, hb1⟩
end Go.Proofs.YtcidoodaiimhfaaGreat

/- WALKS of the item's checks: how many, and how long (pairs and scores). -/
namespace Go.Proofs.YtcidoodaiimhfaaGreat
open Go.RowKit

theorem longP_any (x : ByteArray × ByteArray) (w : World) : Calls Tryz.prog 194 #[.agg #[.string x.1, .string x.2]] w fun e w' => e = .returned (.bool (longP x)) ∧ Below w.heap.size w w' := by
  obtain ⟨x1, x2⟩ := x
  cases h1 : longT x1 with
  | true =>
    have hv : longP (x1, x2) = true := by simp [longP, h1]
    rw [hv]
    clear hv
    go_enter Tryz.func194, Tryz.ntmps194
    go_wp2_with fail
    refine (isLong_any x1 _).mono ?_
    rintro e w1 ⟨rfl, rfl⟩
    rw [h1]
    go_wp2_with fail
    go_ret
    exact ⟨rfl, (Below.refl _ _).alloc (Nat.le_refl _) _⟩
  | false =>
    have hv : longP (x1, x2) = longT x2 := by simp [longP, h1]
    rw [hv]
    clear hv
    go_enter Tryz.func194, Tryz.ntmps194
    go_wp2_with fail
    refine (isLong_any x1 _).mono ?_
    rintro e w1 ⟨rfl, rfl⟩
    rw [h1]
    go_wp2_with fail
    refine (isLong_any x2 _).mono ?_
    rintro e w1 ⟨rfl, rfl⟩
    go_wp2_with fail
    go_ret
    exact ⟨rfl, (Below.refl _ _).alloc (Nat.le_refl _) _⟩
theorem longS_any (x : Int × ByteArray) (w : World) : Calls Tryz.prog 199 #[.agg #[.int .i64 x.1, .string x.2]] w fun e w' => e = .returned (.bool (longS x)) ∧ Below w.heap.size w w' := by
  obtain ⟨x1, x2⟩ := x
  have hv : longS (x1, x2) = longT x2 := rfl
  rw [hv]
  clear hv
  go_enter Tryz.func199, Tryz.ntmps199
  go_wp2_with fail
  refine (isLong_any x2 _).mono ?_
  rintro e w1 ⟨rfl, rfl⟩
  go_wp2_with fail
  go_ret
  exact ⟨rfl, (Below.refl _ _).alloc (Nat.le_refl _) _⟩
theorem outS_any (x : Int × ByteArray) (w : World) : Calls Tryz.prog 201 #[.agg #[.int .i64 x.1, .string x.2]] w fun e w' => e = .returned (.bool (outS x)) ∧ Below w.heap.size w w' := by
  obtain ⟨x1, x2⟩ := x
  by_cases h1 : x1 < -999999999
  · have hv : outS (x1, x2) = true := by simp [outS, h1]
    rw [hv]
    clear hv
    go_enter Tryz.func201, Tryz.ntmps201
    go_wp2_with fail
    go_ret
    exact ⟨rfl, (Below.refl _ _).alloc (Nat.le_refl _) _⟩
  · have hv : outS (x1, x2) = decide (999999999 < x1) := by simp [outS, h1]
    rw [hv]
    clear hv
    go_enter Tryz.func201, Tryz.ntmps201
    go_wp2_with fail
    go_ret
    exact ⟨rfl, (Below.refl _ _).alloc (Nat.le_refl _) _⟩

set_option maxRecDepth 100000 in
set_option maxHeartbeats 1000000 in
theorem idxLongP_any (a : Option Addr) (cap : Nat) (ts : List (ByteArray × ByteArray)) (w : World) (hs : PairsAt w a ts) (hn : ts.length ≤ 1000000) :
    Calls Tryz.prog 148 #[.slice a ts.length cap, .func (.func 194) #[] #[]] w fun e w' => (∃ n : Int, e = .returned (.int .i64 n) ∧ (decide (0 ≤ n) = ts.any longP)) ∧ Below w.heap.size w w' := by
  have HS := hide hs
  clear hs
  go_enter Tryz.func148, Tryz.ntmps148
  go_wp2_with fail
  go_loopw [8] (fun i wr => ∃ k : Nat, k ≤ ts.length ∧ i = .int .i64 k ∧ Below w.heap.size w wr ∧ Hid ((ts.take k).any longP = false)) (fun i _ => ts.length - (intOf i).toNat)
  case atStart => exact ⟨0, Nat.zero_le _, rfl, Below.refl _ _, by simp [Hid]⟩
  case round =>
    obtain ⟨k, hk, rfl, hb, HA⟩ := hrel
    by_cases hlt : k < ts.length
    · obtain ⟨g, o, rfl, hcs⟩ : ∃ g o, a = some ⟨g, o, none⟩ ∧ ∀ i (h : i < ts.length), w.cell? ⟨g, o + i * 2, none⟩ = some (.string ts[i].1) ∧ w.cell? ⟨g, o + i * 2 + 1, none⟩ = some (.string ts[i].2) := by
        rcases HS.out with h | h
        · subst h; simp at hlt
        · exact h
      have HB : Hid (∀ g o v, w.cell? ⟨g, o, none⟩ = some v → wr.cell? ⟨g, o, none⟩ = some v) := fun g o _ hv => (hb.cell (p := ⟨g, o, none⟩) (World.block_lt_of_cell? _ _ hv)).trans hv
      have d0 : wr.cell? ⟨g, o + k * 2, none⟩ = some (.string ts[k].1) := HB.out _ _ _ ((hcs k hlt).1)
      have d1 : wr.cell? ⟨g, o + k * 2 + 1, none⟩ = some (.string ts[k].2) := HB.out _ _ _ ((hcs k hlt).2)
      have HT : Hid ((ts.take (k + 1)).any longP = ((ts.take k).any longP || longP ts[k])) := by
        rw [Hid, List.take_succ_eq_append_getElem hlt, List.any_append]
        simp
      have HF : Hid (longP ts[k] = true → ts.any longP = true) := fun hx => List.any_eq_true.mpr ⟨ts[k], List.getElem_mem hlt, hx⟩
      clear hcs HS HB
      go_wp2_with fail
      refine (longP_any ts[k] wr).mono ?_
      rintro e w1 ⟨rfl, hb1⟩
      have hb2 : Below w.heap.size w w1 := hb.trans (hb1.mono hb.size)
      cases hx : longP ts[k] with
      | true =>
        have HY := hide (HF.out hx)
        clear HF HT hx
        go_wp2_with fail
        go_ret
        exact ⟨⟨_, rfl, by rw [HY.out]; simp⟩, hb2⟩
      | false =>
        have HY : Hid ((ts.take (k + 1)).any longP = false) := by rw [Hid, HT.out, HA.out, hx]; rfl
        clear HF HT hx
        go_wp2_with fail
        go_roundw
        case rel => exact ⟨k + 1, by omega, by go_num, hb2, HY⟩
        case measure => simp [intOf]; omega
    · have hkk : k = ts.length := by omega
      subst hkk
      have HY : Hid (ts.any longP = false) := by have := HA.out; rw [List.take_length] at this; exact this
      go_wp2_with fail
      go_ret
      exact ⟨⟨-1, rfl, by rw [HY.out]; rfl⟩, hb⟩
theorem containsLongP_any (a : Option Addr) (cap : Nat) (ts : List (ByteArray × ByteArray)) (w : World) (hs : PairsAt w a ts) (hn : ts.length ≤ 1000000) :
    Calls Tryz.prog 106 #[.slice a ts.length cap, .func (.func 194) #[] #[]] w fun e w' => e = .returned (.bool (ts.any longP)) ∧ Below w.heap.size w w' := by
  have HI := hide (idxLongP_any a cap ts w hs hn)
  clear hs
  go_enter Tryz.func106, Tryz.ntmps106
  go_wp2_with fail
  refine HI.out.mono ?_
  rintro e w1 ⟨⟨n, rfl, hd⟩, hb⟩
  have HD := hide hd
  clear hd
  go_wp2_with fail
  go_ret
  exact ⟨by rw [← HD.out]; rfl, hb⟩

theorem checkSizeP_any (a : Option Addr) (cap : Nat) (ts : List (ByteArray × ByteArray)) (w : World) (hs : PairsAt w a ts) :
    Calls Tryz.prog 195 #[.slice a ts.length cap, .func (.func 194) #[] #[]] w fun e w' => e = .returned (.int .i64 (sizeT ts.length (ts.any longP))) ∧ Below w.heap.size w w' := by
  by_cases h0 : ts.length = 0
  · have hv : sizeT ts.length (ts.any longP) = 5 := by rw [sizeT, if_pos h0]
    rw [hv]
    clear hv
    go_enter Tryz.func195, Tryz.ntmps195
    go_wp2_with fail
    go_ret
    exact ⟨rfl, Below.refl _ _⟩
  · have h0b : ((ts.length : Int) == 0) = false := by rw [beq_eq_false_iff_ne]; omega
    by_cases h24 : 24 < ts.length
    · have hv : sizeT ts.length (ts.any longP) = 2 := by rw [sizeT, if_neg h0, if_pos (.inl h24)]
      have h24' : (24 : Int) < ((ts.length : Nat) : Int) := by omega
      rw [hv]
      clear hv
      go_enter Tryz.func195, Tryz.ntmps195
      go_wp2_with fail
      go_ret
      exact ⟨rfl, Below.refl _ _⟩
    · have h24' : ¬ (24 : Int) < ((ts.length : Nat) : Int) := by omega
      have HC := hide (containsLongP_any a cap ts w hs (by omega))
      cases hl : ts.any longP with
      | true =>
        have hv : sizeT ts.length true = 2 := by rw [sizeT, if_neg h0, if_pos (.inr rfl)]
        rw [hl] at HC
        rw [hv]
        clear hv hs hl
        go_enter Tryz.func195, Tryz.ntmps195
        go_wp2_with fail
        refine HC.out.mono ?_
        rintro e w1 ⟨rfl, hb1⟩
        go_wp2_with fail
        go_ret
        exact ⟨rfl, hb1⟩
      | false =>
        have hv : sizeT ts.length false = 0 := by rw [sizeT, if_neg h0, if_neg (by rintro (h | h); omega; cases h)]
        rw [hl] at HC
        rw [hv]
        clear hv hs hl
        go_enter Tryz.func195, Tryz.ntmps195
        go_wp2_with fail
        refine HC.out.mono ?_
        rintro e w1 ⟨rfl, hb1⟩
        go_wp2_with fail
        go_ret
        exact ⟨rfl, hb1⟩

set_option maxRecDepth 100000 in
set_option maxHeartbeats 1000000 in
theorem idxLongS_any (a : Option Addr) (cap : Nat) (ts : List (Int × ByteArray)) (w : World) (hs : ScoresAt w a ts) (hn : ts.length ≤ 1000000) :
    Calls Tryz.prog 150 #[.slice a ts.length cap, .func (.func 199) #[] #[]] w fun e w' => (∃ n : Int, e = .returned (.int .i64 n) ∧ (decide (0 ≤ n) = ts.any longS)) ∧ Below w.heap.size w w' := by
  have HS := hide hs
  clear hs
  go_enter Tryz.func150, Tryz.ntmps150
  go_wp2_with fail
  go_loopw [8] (fun i wr => ∃ k : Nat, k ≤ ts.length ∧ i = .int .i64 k ∧ Below w.heap.size w wr ∧ Hid ((ts.take k).any longS = false)) (fun i _ => ts.length - (intOf i).toNat)
  case atStart => exact ⟨0, Nat.zero_le _, rfl, Below.refl _ _, by simp [Hid]⟩
  case round =>
    obtain ⟨k, hk, rfl, hb, HA⟩ := hrel
    by_cases hlt : k < ts.length
    · obtain ⟨g, o, rfl, hcs⟩ : ∃ g o, a = some ⟨g, o, none⟩ ∧ ∀ i (h : i < ts.length), w.cell? ⟨g, o + i * 2, none⟩ = some (.int .i64 ts[i].1) ∧ w.cell? ⟨g, o + i * 2 + 1, none⟩ = some (.string ts[i].2) := by
        rcases HS.out with h | h
        · subst h; simp at hlt
        · exact h
      have HB : Hid (∀ g o v, w.cell? ⟨g, o, none⟩ = some v → wr.cell? ⟨g, o, none⟩ = some v) := fun g o _ hv => (hb.cell (p := ⟨g, o, none⟩) (World.block_lt_of_cell? _ _ hv)).trans hv
      have d0 : wr.cell? ⟨g, o + k * 2, none⟩ = some (.int .i64 ts[k].1) := HB.out _ _ _ ((hcs k hlt).1)
      have d1 : wr.cell? ⟨g, o + k * 2 + 1, none⟩ = some (.string ts[k].2) := HB.out _ _ _ ((hcs k hlt).2)
      have HT : Hid ((ts.take (k + 1)).any longS = ((ts.take k).any longS || longS ts[k])) := by
        rw [Hid, List.take_succ_eq_append_getElem hlt, List.any_append]
        simp
      have HF : Hid (longS ts[k] = true → ts.any longS = true) := fun hx => List.any_eq_true.mpr ⟨ts[k], List.getElem_mem hlt, hx⟩
      clear hcs HS HB
      go_wp2_with fail
      refine (longS_any ts[k] wr).mono ?_
      rintro e w1 ⟨rfl, hb1⟩
      have hb2 : Below w.heap.size w w1 := hb.trans (hb1.mono hb.size)
      cases hx : longS ts[k] with
      | true =>
        have HY := hide (HF.out hx)
        clear HF HT hx
        go_wp2_with fail
        go_ret
        exact ⟨⟨_, rfl, by rw [HY.out]; simp⟩, hb2⟩
      | false =>
        have HY : Hid ((ts.take (k + 1)).any longS = false) := by rw [Hid, HT.out, HA.out, hx]; rfl
        clear HF HT hx
        go_wp2_with fail
        go_roundw
        case rel => exact ⟨k + 1, by omega, by go_num, hb2, HY⟩
        case measure => simp [intOf]; omega
    · have hkk : k = ts.length := by omega
      subst hkk
      have HY : Hid (ts.any longS = false) := by have := HA.out; rw [List.take_length] at this; exact this
      go_wp2_with fail
      go_ret
      exact ⟨⟨-1, rfl, by rw [HY.out]; rfl⟩, hb⟩
theorem containsLongS_any (a : Option Addr) (cap : Nat) (ts : List (Int × ByteArray)) (w : World) (hs : ScoresAt w a ts) (hn : ts.length ≤ 1000000) :
    Calls Tryz.prog 200 #[.slice a ts.length cap, .func (.func 199) #[] #[]] w fun e w' => e = .returned (.bool (ts.any longS)) ∧ Below w.heap.size w w' := by
  have HI := hide (idxLongS_any a cap ts w hs hn)
  clear hs
  go_enter Tryz.func200, Tryz.ntmps200
  go_wp2_with fail
  refine HI.out.mono ?_
  rintro e w1 ⟨⟨n, rfl, hd⟩, hb⟩
  have HD := hide hd
  clear hd
  go_wp2_with fail
  go_ret
  exact ⟨by rw [← HD.out]; rfl, hb⟩

theorem checkSizeS_any (a : Option Addr) (cap : Nat) (ts : List (Int × ByteArray)) (w : World) (hs : ScoresAt w a ts) :
    Calls Tryz.prog 198 #[.slice a ts.length cap, .func (.func 199) #[] #[]] w fun e w' => e = .returned (.int .i64 (sizeT ts.length (ts.any longS))) ∧ Below w.heap.size w w' := by
  by_cases h0 : ts.length = 0
  · have hv : sizeT ts.length (ts.any longS) = 5 := by rw [sizeT, if_pos h0]
    rw [hv]
    clear hv
    go_enter Tryz.func198, Tryz.ntmps198
    go_wp2_with fail
    go_ret
    exact ⟨rfl, Below.refl _ _⟩
  · have h0b : ((ts.length : Int) == 0) = false := by rw [beq_eq_false_iff_ne]; omega
    by_cases h24 : 24 < ts.length
    · have hv : sizeT ts.length (ts.any longS) = 2 := by rw [sizeT, if_neg h0, if_pos (.inl h24)]
      have h24' : (24 : Int) < ((ts.length : Nat) : Int) := by omega
      rw [hv]
      clear hv
      go_enter Tryz.func198, Tryz.ntmps198
      go_wp2_with fail
      go_ret
      exact ⟨rfl, Below.refl _ _⟩
    · have h24' : ¬ (24 : Int) < ((ts.length : Nat) : Int) := by omega
      have HC := hide (containsLongS_any a cap ts w hs (by omega))
      cases hl : ts.any longS with
      | true =>
        have hv : sizeT ts.length true = 2 := by rw [sizeT, if_neg h0, if_pos (.inr rfl)]
        rw [hl] at HC
        rw [hv]
        clear hv hs hl
        go_enter Tryz.func198, Tryz.ntmps198
        go_wp2_with fail
        refine HC.out.mono ?_
        rintro e w1 ⟨rfl, hb1⟩
        go_wp2_with fail
        go_ret
        exact ⟨rfl, hb1⟩
      | false =>
        have hv : sizeT ts.length false = 0 := by rw [sizeT, if_neg h0, if_neg (by rintro (h | h); omega; cases h)]
        rw [hl] at HC
        rw [hv]
        clear hv hs hl
        go_enter Tryz.func198, Tryz.ntmps198
        go_wp2_with fail
        refine HC.out.mono ?_
        rintro e w1 ⟨rfl, hb1⟩
        go_wp2_with fail
        go_ret
        exact ⟨rfl, hb1⟩

set_option maxRecDepth 100000 in
set_option maxHeartbeats 1000000 in
theorem idxOutS_any (a : Option Addr) (cap : Nat) (ts : List (Int × ByteArray)) (w : World) (hs : ScoresAt w a ts) (hn : ts.length ≤ 1000000) :
    Calls Tryz.prog 150 #[.slice a ts.length cap, .func (.func 201) #[] #[]] w fun e w' => (∃ n : Int, e = .returned (.int .i64 n) ∧ (decide (0 ≤ n) = ts.any outS)) ∧ Below w.heap.size w w' := by
  have HS := hide hs
  clear hs
  go_enter Tryz.func150, Tryz.ntmps150
  go_wp2_with fail
  go_loopw [8] (fun i wr => ∃ k : Nat, k ≤ ts.length ∧ i = .int .i64 k ∧ Below w.heap.size w wr ∧ Hid ((ts.take k).any outS = false)) (fun i _ => ts.length - (intOf i).toNat)
  case atStart => exact ⟨0, Nat.zero_le _, rfl, Below.refl _ _, by simp [Hid]⟩
  case round =>
    obtain ⟨k, hk, rfl, hb, HA⟩ := hrel
    by_cases hlt : k < ts.length
    · obtain ⟨g, o, rfl, hcs⟩ : ∃ g o, a = some ⟨g, o, none⟩ ∧ ∀ i (h : i < ts.length), w.cell? ⟨g, o + i * 2, none⟩ = some (.int .i64 ts[i].1) ∧ w.cell? ⟨g, o + i * 2 + 1, none⟩ = some (.string ts[i].2) := by
        rcases HS.out with h | h
        · subst h; simp at hlt
        · exact h
      have HB : Hid (∀ g o v, w.cell? ⟨g, o, none⟩ = some v → wr.cell? ⟨g, o, none⟩ = some v) := fun g o _ hv => (hb.cell (p := ⟨g, o, none⟩) (World.block_lt_of_cell? _ _ hv)).trans hv
      have d0 : wr.cell? ⟨g, o + k * 2, none⟩ = some (.int .i64 ts[k].1) := HB.out _ _ _ ((hcs k hlt).1)
      have d1 : wr.cell? ⟨g, o + k * 2 + 1, none⟩ = some (.string ts[k].2) := HB.out _ _ _ ((hcs k hlt).2)
      have HT : Hid ((ts.take (k + 1)).any outS = ((ts.take k).any outS || outS ts[k])) := by
        rw [Hid, List.take_succ_eq_append_getElem hlt, List.any_append]
        simp
      have HF : Hid (outS ts[k] = true → ts.any outS = true) := fun hx => List.any_eq_true.mpr ⟨ts[k], List.getElem_mem hlt, hx⟩
      clear hcs HS HB
      go_wp2_with fail
      refine (outS_any ts[k] wr).mono ?_
      rintro e w1 ⟨rfl, hb1⟩
      have hb2 : Below w.heap.size w w1 := hb.trans (hb1.mono hb.size)
      cases hx : outS ts[k] with
      | true =>
        have HY := hide (HF.out hx)
        clear HF HT hx
        go_wp2_with fail
        go_ret
        exact ⟨⟨_, rfl, by rw [HY.out]; simp⟩, hb2⟩
      | false =>
        have HY : Hid ((ts.take (k + 1)).any outS = false) := by rw [Hid, HT.out, HA.out, hx]; rfl
        clear HF HT hx
        go_wp2_with fail
        go_roundw
        case rel => exact ⟨k + 1, by omega, by go_num, hb2, HY⟩
        case measure => simp [intOf]; omega
    · have hkk : k = ts.length := by omega
      subst hkk
      have HY : Hid (ts.any outS = false) := by have := HA.out; rw [List.take_length] at this; exact this
      go_wp2_with fail
      go_ret
      exact ⟨⟨-1, rfl, by rw [HY.out]; rfl⟩, hb⟩
theorem containsOutS_any (a : Option Addr) (cap : Nat) (ts : List (Int × ByteArray)) (w : World) (hs : ScoresAt w a ts) (hn : ts.length ≤ 1000000) :
    Calls Tryz.prog 200 #[.slice a ts.length cap, .func (.func 201) #[] #[]] w fun e w' => e = .returned (.bool (ts.any outS)) ∧ Below w.heap.size w w' := by
  have HI := hide (idxOutS_any a cap ts w hs hn)
  clear hs
  go_enter Tryz.func200, Tryz.ntmps200
  go_wp2_with fail
  refine HI.out.mono ?_
  rintro e w1 ⟨⟨n, rfl, hd⟩, hb⟩
  have HD := hide hd
  clear hd
  go_wp2_with fail
  go_ret
  exact ⟨by rw [← HD.out]; rfl, hb⟩
end Go.Proofs.YtcidoodaiimhfaaGreat

/- WALK of the order of texts. -/
namespace Go.Proofs.YtcidoodaiimhfaaGreat
open Go.RowKit

set_option maxRecDepth 100000 in
theorem cmpString_any (a b : ByteArray) (w : World) :
    Calls Tryz.prog 185 #[.string a, .string b] w fun e w' => e = .returned (.int .i64 (Lib.compareBytes a.data.toList b.data.toList)) ∧ w' = w := by
  go_enter Tryz.func185, Tryz.ntmps185
  go_wp2
  rw [run_callFunc_extern Tryz.func227 (by kernel_rfl) (by kernel_rfl) (by kernel_rfl) (e := Extern.BytealgCompare.compare) (by kernel_rfl), Lib.run_compareString]
  simp only [Result.andThen]
  rw [Oper.upon_value]
  go_wp2
  go_ret
  exact ⟨rfl, rfl⟩
theorem compare_any (a b : ByteArray) (w : World) :
    Calls Tryz.prog 133 #[.string a, .string b] w fun e w' => e = .returned (.int .i64 (Lib.compareBytes a.data.toList b.data.toList)) ∧ w' = w := by
  have HC := hide (cmpString_any a b w)
  generalize Lib.compareBytes a.data.toList b.data.toList = R at *
  go_enter Tryz.func133, Tryz.ntmps133
  go_wp2_with fail
  refine HC.out.mono ?_
  rintro e w1 ⟨rfl, rfl⟩
  go_wp2_with fail
  go_ret
  exact ⟨rfl, rfl⟩
end Go.Proofs.YtcidoodaiimhfaaGreat

/- WALK of whether texts rise. -/
namespace Go.Proofs.YtcidoodaiimhfaaGreat
open Go.RowKit

theorem compare_below (a b : ByteArray) (w : World) : Calls Tryz.prog 133 #[.string a, .string b] w fun e w' => e = .returned (.int .i64 (cmpT a b)) ∧ Below w.heap.size w w' :=
  (compare_any a b w).mono fun _ _ ⟨h1, h2⟩ => ⟨h1, by subst h2; exact Below.refl _ _⟩

set_option maxRecDepth 100000 in
set_option maxHeartbeats 1000000 in
theorem riseT_any (a : Option Addr) (cap : Nat) (ts : List ByteArray) (w : World) (hs : TextsAt w a ts) (hn : ts.length ≤ 1000000) :
    Calls Tryz.prog 193 #[.slice a ts.length cap, .func (.func 133) #[] #[]] w fun e w' => e = .returned (.bool (riseTo cmpT ts ts.length)) ∧ Below w.heap.size w w' := by
  have HS := hide hs
  clear hs
  go_enter Tryz.func193, Tryz.ntmps193
  go_wp2_with fail
  go_loopw [5] (fun vi wr => ∃ (k : Nat), 1 ≤ k ∧ (k ≤ ts.length ∨ k = 1) ∧ vi = .int .i64 k ∧ Below w.heap.size w wr ∧ Hid (riseTo cmpT ts k = true)) (fun vi _ => ts.length + 1 - (intOf vi).toNat)
  case atStart => exact ⟨1, Nat.le_refl _, .inr rfl, rfl, Below.refl _ _, rfl⟩
  case round =>
    obtain ⟨k, hk1, hk, rfl, hb, HA⟩ := hrel
    by_cases hlt : k < ts.length
    · obtain ⟨g, o, rfl, hcs⟩ : ∃ g o, a = some ⟨g, o, none⟩ ∧ ∀ i (h : i < ts.length), w.cell? ⟨g, o + i, none⟩ = some (.string ts[i]) := by
        rcases HS.out with h | h
        · subst h; simp at hlt
        · exact h
      obtain ⟨m, rfl⟩ : ∃ m, k = m + 1 := ⟨k - 1, by omega⟩
      have HB : Hid (∀ g o v, w.cell? ⟨g, o, none⟩ = some v → wr.cell? ⟨g, o, none⟩ = some v) := fun g o _ hv => (hb.cell (p := ⟨g, o, none⟩) (World.block_lt_of_cell? _ _ hv)).trans hv
      have d0 : (World.drew wr).cell? ⟨g, o + m, none⟩ = some (.string ts[m]) := HB.out _ _ _ (hcs m (by omega))
      have e0 : (World.drew wr).cell? ⟨g, o + (m + 1), none⟩ = some (.string ts[m + 1]) := HB.out _ _ _ (hcs (m + 1) hlt)
      have p0 : wr.cell? ⟨g, o + m, none⟩ = some (.string ts[m]) := HB.out _ _ _ (hcs m (by omega))
      have q0 : wr.cell? ⟨g, o + (m + 1), none⟩ = some (.string ts[m + 1]) := HB.out _ _ _ (hcs (m + 1) hlt)
      have hmm : IntKind.i64.wrap ((m : Nat) : Int) = ((m : Nat) : Int) := by rw [IntKind.wrap_i64]; omega
      have hm' : m < ts.length := by omega
      have hm2 : ((m : Nat) : Int) < ((ts.length : Nat) : Int) := by omega
      have hm4 : (0 : Int) ≤ ((m : Nat) : Int) + 1 := by omega
      have hm5 : (((m : Nat) : Int) + 1).toNat = m + 1 := by omega
      have hm3 : ((m : Nat) : Int) + 1 < ((ts.length : Nat) : Int) := by omega
      have HT : Hid (riseTo cmpT ts (m + 1 + 1) = decide (cmpT ts[m] ts[m + 1] < 0)) := by
        rw [Hid, riseTo_succ cmpT ts (m + 1) (by omega), HA.out, Bool.true_and, show m + 1 - 1 = m by omega, getElem!_pos ts m (by omega), getElem!_pos ts (m + 1) hlt]
      have HC : Hid (∀ W, Calls Tryz.prog 133 #[.string ts[m], .string ts[m + 1]] W fun e w' => e = .returned (.int .i64 (cmpT ts[m] ts[m + 1])) ∧ Below W.heap.size W w') := fun W => compare_below _ _ W
      generalize cmpT ts[m] ts[m + 1] = C at *
      clear hcs HS HB
      by_cases hC : C < 0
      · have hC' : ¬ (0 : Int) ≤ C := by omega
        have HY : Hid (riseTo cmpT ts (m + 1 + 1) = true) := by rw [Hid, HT.out]; exact decide_eq_true hC
        go_wp2_with fail
        refine wp_region_any (by kernel_rfl) ?_
        change wpAny _ _ _ _ _ _ _ (World.drew _)
        refine wpAny_take (i := 0) (v := .func (.func 133) #[] #[]) rfl (by kernel_rfl) (by kernel_rfl) (by kernel_rfl) (fun _ _ _ h => h) (Or.inl ⟨by rfl, by intro w; go_simp⟩) ?_
        refine wpAny_take (i := 1) (v := .slice (some ⟨g, o, none⟩) ts.length cap) rfl (by kernel_rfl) (by kernel_rfl) (by kernel_rfl) (fun _ _ _ h => h) (Or.inl ⟨by rfl, by intro w; go_simp⟩) ?_
        refine wpAny_take (i := 2) (v := .int .i64 (((m : Nat) : Int) + 1)) rfl (by kernel_rfl) (by kernel_rfl) (by kernel_rfl) (fun _ _ _ h => h) (Or.inl ⟨by rfl, by intro w; go_simp⟩) ?_
        refine wpAny_take (i := 3) (v := .int .i64 ((m : Nat) : Int)) rfl (by kernel_rfl) (by kernel_rfl) (by kernel_rfl) (fun _ _ _ h => h) (Or.inl ⟨by rfl, by intro w; go_simp⟩) ?_
        refine wpAny_take (i := 4) (v := .pointer (some ⟨g, o + m, none⟩)) rfl (by kernel_rfl) (by kernel_rfl) (by kernel_rfl) (fun _ _ _ h => h) (Or.inl ⟨by rfl, by intro w; go_simp⟩) ?_
        refine wpAny_take (i := 6) (v := .slice (some ⟨g, o, none⟩) ts.length cap) rfl (by kernel_rfl) (by kernel_rfl) (by kernel_rfl) (fun _ _ _ h => h) (Or.inl ⟨by rfl, by intro w; go_simp⟩) ?_
        refine wpAny_take (i := 7) (v := .int .i64 (((m : Nat) : Int) + 1)) rfl (by kernel_rfl) (by kernel_rfl) (by kernel_rfl) (fun _ _ _ h => h) (Or.inl ⟨by rfl, by intro w; go_simp⟩) ?_
        refine wpAny_take (i := 8) (v := .pointer (some ⟨g, o + (m + 1), none⟩)) rfl (by kernel_rfl) (by kernel_rfl) (by kernel_rfl) (fun _ _ _ h => h) (Or.inl ⟨by rfl, by intro w; go_simp⟩) ?_
        refine wpAny_ready (rs := [5, 9]) (by kernel_rfl) (by simp) ?_
        refine AllReady.cons rfl (fun K hK => ?_) ?_
        · go_simp
          refine hK _ _ ?_
          clear hK K
          refine wpAny_ready (rs := [9]) (by kernel_rfl) (by simp) ?_
          refine AllReady.cons rfl (fun K hK => ?_) AllReady.nil
          go_simp
          refine hK _ _ ?_
          clear hK K
          refine wpAny_ready (rs := [10]) (by kernel_rfl) (by simp) ?_
          refine AllReady.cons rfl (fun K hK => ?_) AllReady.nil
          go_simp
          refine (HC.out _).mono ?_
          rintro e w1 ⟨rfl, hb1⟩
          have hb2 : Below w.heap.size w w1 := (hb.drew).trans (hb1.mono hb.size)
          clear hb1
          refine hK _ _ ?_
          clear hK K
          refine wpAny_take (i := 11) (v := .bool false) rfl (by kernel_rfl) (by kernel_rfl) (by kernel_rfl) (fun _ _ _ h => h) (Or.inl ⟨by rfl, by intro w; go_simp⟩) ?_
          refine wpAny_done (by kernel_rfl) ?_ _
          go_wp2_with fail
          go_roundw
          case rel => exact ⟨m + 1 + 1, by omega, .inl (by omega), by go_num, hb2, HY⟩
          case measure => simp only [intOf]; omega
        · refine AllReady.cons rfl (fun K hK => ?_) AllReady.nil
          go_simp
          refine hK _ _ ?_
          clear hK K
          refine wpAny_ready (rs := [5]) (by kernel_rfl) (by simp) ?_
          refine AllReady.cons rfl (fun K hK => ?_) AllReady.nil
          go_simp
          refine hK _ _ ?_
          clear hK K
          refine wpAny_ready (rs := [10]) (by kernel_rfl) (by simp) ?_
          refine AllReady.cons rfl (fun K hK => ?_) AllReady.nil
          go_simp
          refine (HC.out _).mono ?_
          rintro e w1 ⟨rfl, hb1⟩
          have hb2 : Below w.heap.size w w1 := (hb.drew).trans (hb1.mono hb.size)
          clear hb1
          refine hK _ _ ?_
          clear hK K
          refine wpAny_take (i := 11) (v := .bool false) rfl (by kernel_rfl) (by kernel_rfl) (by kernel_rfl) (fun _ _ _ h => h) (Or.inl ⟨by rfl, by intro w; go_simp⟩) ?_
          refine wpAny_done (by kernel_rfl) ?_ _
          go_wp2_with fail
          go_roundw
          case rel => exact ⟨m + 1 + 1, by omega, .inl (by omega), by go_num, hb2, HY⟩
          case measure => simp only [intOf]; omega
      · have hC' : (0 : Int) ≤ C := by omega
        have HY : Hid (riseTo cmpT ts ts.length = false) := riseTo_false (k := m + 1 + 1) (by rw [HT.out]; exact decide_eq_false hC) (by omega)
        go_wp2_with fail
        refine wp_region_any (by kernel_rfl) ?_
        change wpAny _ _ _ _ _ _ _ (World.drew _)
        refine wpAny_take (i := 0) (v := .func (.func 133) #[] #[]) rfl (by kernel_rfl) (by kernel_rfl) (by kernel_rfl) (fun _ _ _ h => h) (Or.inl ⟨by rfl, by intro w; go_simp⟩) ?_
        refine wpAny_take (i := 1) (v := .slice (some ⟨g, o, none⟩) ts.length cap) rfl (by kernel_rfl) (by kernel_rfl) (by kernel_rfl) (fun _ _ _ h => h) (Or.inl ⟨by rfl, by intro w; go_simp⟩) ?_
        refine wpAny_take (i := 2) (v := .int .i64 (((m : Nat) : Int) + 1)) rfl (by kernel_rfl) (by kernel_rfl) (by kernel_rfl) (fun _ _ _ h => h) (Or.inl ⟨by rfl, by intro w; go_simp⟩) ?_
        refine wpAny_take (i := 3) (v := .int .i64 ((m : Nat) : Int)) rfl (by kernel_rfl) (by kernel_rfl) (by kernel_rfl) (fun _ _ _ h => h) (Or.inl ⟨by rfl, by intro w; go_simp⟩) ?_
        refine wpAny_take (i := 4) (v := .pointer (some ⟨g, o + m, none⟩)) rfl (by kernel_rfl) (by kernel_rfl) (by kernel_rfl) (fun _ _ _ h => h) (Or.inl ⟨by rfl, by intro w; go_simp⟩) ?_
        refine wpAny_take (i := 6) (v := .slice (some ⟨g, o, none⟩) ts.length cap) rfl (by kernel_rfl) (by kernel_rfl) (by kernel_rfl) (fun _ _ _ h => h) (Or.inl ⟨by rfl, by intro w; go_simp⟩) ?_
        refine wpAny_take (i := 7) (v := .int .i64 (((m : Nat) : Int) + 1)) rfl (by kernel_rfl) (by kernel_rfl) (by kernel_rfl) (fun _ _ _ h => h) (Or.inl ⟨by rfl, by intro w; go_simp⟩) ?_
        refine wpAny_take (i := 8) (v := .pointer (some ⟨g, o + (m + 1), none⟩)) rfl (by kernel_rfl) (by kernel_rfl) (by kernel_rfl) (fun _ _ _ h => h) (Or.inl ⟨by rfl, by intro w; go_simp⟩) ?_
        refine wpAny_ready (rs := [5, 9]) (by kernel_rfl) (by simp) ?_
        refine AllReady.cons rfl (fun K hK => ?_) ?_
        · go_simp
          refine hK _ _ ?_
          clear hK K
          refine wpAny_ready (rs := [9]) (by kernel_rfl) (by simp) ?_
          refine AllReady.cons rfl (fun K hK => ?_) AllReady.nil
          go_simp
          refine hK _ _ ?_
          clear hK K
          refine wpAny_ready (rs := [10]) (by kernel_rfl) (by simp) ?_
          refine AllReady.cons rfl (fun K hK => ?_) AllReady.nil
          go_simp
          refine (HC.out _).mono ?_
          rintro e w1 ⟨rfl, hb1⟩
          have hb2 : Below w.heap.size w w1 := (hb.drew).trans (hb1.mono hb.size)
          clear hb1
          refine hK _ _ ?_
          clear hK K
          refine wpAny_take (i := 11) (v := .bool true) rfl (by kernel_rfl) (by kernel_rfl) (by kernel_rfl) (fun _ _ _ h => h) (Or.inl ⟨by rfl, by intro w; go_simp⟩) ?_
          refine wpAny_done (by kernel_rfl) ?_ _
          go_wp2_with fail
          go_ret
          rw [HY.out]
          exact ⟨rfl, hb2⟩
        · refine AllReady.cons rfl (fun K hK => ?_) AllReady.nil
          go_simp
          refine hK _ _ ?_
          clear hK K
          refine wpAny_ready (rs := [5]) (by kernel_rfl) (by simp) ?_
          refine AllReady.cons rfl (fun K hK => ?_) AllReady.nil
          go_simp
          refine hK _ _ ?_
          clear hK K
          refine wpAny_ready (rs := [10]) (by kernel_rfl) (by simp) ?_
          refine AllReady.cons rfl (fun K hK => ?_) AllReady.nil
          go_simp
          refine (HC.out _).mono ?_
          rintro e w1 ⟨rfl, hb1⟩
          have hb2 : Below w.heap.size w w1 := (hb.drew).trans (hb1.mono hb.size)
          clear hb1
          refine hK _ _ ?_
          clear hK K
          refine wpAny_take (i := 11) (v := .bool true) rfl (by kernel_rfl) (by kernel_rfl) (by kernel_rfl) (fun _ _ _ h => h) (Or.inl ⟨by rfl, by intro w; go_simp⟩) ?_
          refine wpAny_done (by kernel_rfl) ?_ _
          go_wp2_with fail
          go_ret
          rw [HY.out]
          exact ⟨rfl, hb2⟩
    · have hge : ¬ ((k : Nat) : Int) < ((ts.length : Nat) : Int) := by omega
      have HY : Hid (riseTo cmpT ts ts.length = true) := by
        rcases hk with hk | hk
        · have : k = ts.length := by omega
          rw [← this]; exact HA.out
        · unfold riseTo
          rw [show ts.length - 1 = 0 by omega]
          rfl
      go_wp2_with fail
      go_ret
      rw [HY.out]
      exact ⟨rfl, hb⟩
end Go.Proofs.YtcidoodaiimhfaaGreat

/- WALK of whether pairs and scores rise. -/
namespace Go.Proofs.YtcidoodaiimhfaaGreat
open Go.RowKit

theorem cmpP_any (x y : ByteArray × ByteArray) (w : World) : Calls Tryz.prog 197 #[.agg #[.string x.1, .string x.2], .agg #[.string y.1, .string y.2]] w fun e w' => e = .returned (.int .i64 (cmpP x y)) ∧ Below w.heap.size w w' := by
  obtain ⟨x1, x2⟩ := x
  obtain ⟨y1, y2⟩ := y
  have hv : cmpP (x1, x2) (y1, y2) = cmpT x1 y1 := rfl
  rw [hv]
  clear hv
  go_enter Tryz.func197, Tryz.ntmps197
  go_wp2_with fail
  refine (compare_any x1 y1 _).mono ?_
  rintro e w1 ⟨rfl, rfl⟩
  go_wp2_with fail
  go_ret
  exact ⟨rfl, ((Below.refl _ _).alloc (Nat.le_refl _) _).alloc (by simp) _⟩

set_option maxRecDepth 100000 in
set_option maxHeartbeats 1000000 in
theorem riseP_any (a : Option Addr) (cap : Nat) (ts : List (ByteArray × ByteArray)) (w : World) (hs : PairsAt w a ts) (hn : ts.length ≤ 1000000) :
    Calls Tryz.prog 196 #[.slice a ts.length cap, .func (.func 197) #[] #[]] w fun e w' => e = .returned (.bool (riseTo cmpP ts ts.length)) ∧ Below w.heap.size w w' := by
  have HS := hide hs
  clear hs
  go_enter Tryz.func196, Tryz.ntmps196
  go_wp2_with fail
  go_loopw [5] (fun vi wr => ∃ (k : Nat), 1 ≤ k ∧ (k ≤ ts.length ∨ k = 1) ∧ vi = .int .i64 k ∧ Below w.heap.size w wr ∧ Hid (riseTo cmpP ts k = true)) (fun vi _ => ts.length + 1 - (intOf vi).toNat)
  case atStart => exact ⟨1, Nat.le_refl _, .inr rfl, rfl, Below.refl _ _, rfl⟩
  case round =>
    obtain ⟨k, hk1, hk, rfl, hb, HA⟩ := hrel
    by_cases hlt : k < ts.length
    · obtain ⟨g, o, rfl, hcs⟩ : ∃ g o, a = some ⟨g, o, none⟩ ∧ ∀ i (h : i < ts.length), w.cell? ⟨g, o + i * 2, none⟩ = some (.string ts[i].1) ∧ w.cell? ⟨g, o + i * 2 + 1, none⟩ = some (.string ts[i].2) := by
        rcases HS.out with h | h
        · subst h; simp at hlt
        · exact h
      obtain ⟨m, rfl⟩ : ∃ m, k = m + 1 := ⟨k - 1, by omega⟩
      have HB : Hid (∀ g o v, w.cell? ⟨g, o, none⟩ = some v → wr.cell? ⟨g, o, none⟩ = some v) := fun g o _ hv => (hb.cell (p := ⟨g, o, none⟩) (World.block_lt_of_cell? _ _ hv)).trans hv
      have d0 : (World.drew wr).cell? ⟨g, o + m * 2, none⟩ = some (.string ts[m].1) := HB.out _ _ _ ((hcs m (by omega)).1)
      have d1 : (World.drew wr).cell? ⟨g, o + m * 2 + 1, none⟩ = some (.string ts[m].2) := HB.out _ _ _ ((hcs m (by omega)).2)
      have e0 : (World.drew wr).cell? ⟨g, o + (m + 1) * 2, none⟩ = some (.string ts[m + 1].1) := HB.out _ _ _ ((hcs (m + 1) hlt).1)
      have e1 : (World.drew wr).cell? ⟨g, o + (m + 1) * 2 + 1, none⟩ = some (.string ts[m + 1].2) := HB.out _ _ _ ((hcs (m + 1) hlt).2)
      have p0 : wr.cell? ⟨g, o + m * 2, none⟩ = some (.string ts[m].1) := HB.out _ _ _ ((hcs m (by omega)).1)
      have p1 : wr.cell? ⟨g, o + m * 2 + 1, none⟩ = some (.string ts[m].2) := HB.out _ _ _ ((hcs m (by omega)).2)
      have q0 : wr.cell? ⟨g, o + (m + 1) * 2, none⟩ = some (.string ts[m + 1].1) := HB.out _ _ _ ((hcs (m + 1) hlt).1)
      have q1 : wr.cell? ⟨g, o + (m + 1) * 2 + 1, none⟩ = some (.string ts[m + 1].2) := HB.out _ _ _ ((hcs (m + 1) hlt).2)
      have hmm : IntKind.i64.wrap ((m : Nat) : Int) = ((m : Nat) : Int) := by rw [IntKind.wrap_i64]; omega
      have hm' : m < ts.length := by omega
      have hm2 : ((m : Nat) : Int) < ((ts.length : Nat) : Int) := by omega
      have hm4 : (0 : Int) ≤ ((m : Nat) : Int) + 1 := by omega
      have hm5 : (((m : Nat) : Int) + 1).toNat = m + 1 := by omega
      have hm3 : ((m : Nat) : Int) + 1 < ((ts.length : Nat) : Int) := by omega
      have HT : Hid (riseTo cmpP ts (m + 1 + 1) = decide (cmpP ts[m] ts[m + 1] < 0)) := by
        rw [Hid, riseTo_succ cmpP ts (m + 1) (by omega), HA.out, Bool.true_and, show m + 1 - 1 = m by omega, getElem!_pos ts m (by omega), getElem!_pos ts (m + 1) hlt]
      have HC : Hid (∀ W, Calls Tryz.prog 197 #[.agg #[.string ts[m].1, .string ts[m].2], .agg #[.string ts[m + 1].1, .string ts[m + 1].2]] W fun e w' => e = .returned (.int .i64 (cmpP ts[m] ts[m + 1])) ∧ Below W.heap.size W w') := fun W => cmpP_any _ _ W
      generalize cmpP ts[m] ts[m + 1] = C at *
      clear hcs HS HB
      by_cases hC : C < 0
      · have hC' : ¬ (0 : Int) ≤ C := by omega
        have HY : Hid (riseTo cmpP ts (m + 1 + 1) = true) := by rw [Hid, HT.out]; exact decide_eq_true hC
        go_wp2_with fail
        refine wp_region_any (by kernel_rfl) ?_
        change wpAny _ _ _ _ _ _ _ (World.drew _)
        refine wpAny_take (i := 0) (v := .func (.func 197) #[] #[]) rfl (by kernel_rfl) (by kernel_rfl) (by kernel_rfl) (fun _ _ _ h => h) (Or.inl ⟨by rfl, by intro w; go_simp⟩) ?_
        refine wpAny_take (i := 1) (v := .slice (some ⟨g, o, none⟩) ts.length cap) rfl (by kernel_rfl) (by kernel_rfl) (by kernel_rfl) (fun _ _ _ h => h) (Or.inl ⟨by rfl, by intro w; go_simp⟩) ?_
        refine wpAny_take (i := 2) (v := .int .i64 (((m : Nat) : Int) + 1)) rfl (by kernel_rfl) (by kernel_rfl) (by kernel_rfl) (fun _ _ _ h => h) (Or.inl ⟨by rfl, by intro w; go_simp⟩) ?_
        refine wpAny_take (i := 3) (v := .int .i64 ((m : Nat) : Int)) rfl (by kernel_rfl) (by kernel_rfl) (by kernel_rfl) (fun _ _ _ h => h) (Or.inl ⟨by rfl, by intro w; go_simp⟩) ?_
        refine wpAny_take (i := 4) (v := .pointer (some ⟨g, o + m * 2, none⟩)) rfl (by kernel_rfl) (by kernel_rfl) (by kernel_rfl) (fun _ _ _ h => h) (Or.inl ⟨by rfl, by intro w; go_simp⟩) ?_
        refine wpAny_take (i := 6) (v := .slice (some ⟨g, o, none⟩) ts.length cap) rfl (by kernel_rfl) (by kernel_rfl) (by kernel_rfl) (fun _ _ _ h => h) (Or.inl ⟨by rfl, by intro w; go_simp⟩) ?_
        refine wpAny_take (i := 7) (v := .int .i64 (((m : Nat) : Int) + 1)) rfl (by kernel_rfl) (by kernel_rfl) (by kernel_rfl) (fun _ _ _ h => h) (Or.inl ⟨by rfl, by intro w; go_simp⟩) ?_
        refine wpAny_take (i := 8) (v := .pointer (some ⟨g, o + (m + 1) * 2, none⟩)) rfl (by kernel_rfl) (by kernel_rfl) (by kernel_rfl) (fun _ _ _ h => h) (Or.inl ⟨by rfl, by intro w; go_simp⟩) ?_
        refine wpAny_ready (rs := [5, 9]) (by kernel_rfl) (by simp) ?_
        refine AllReady.cons rfl (fun K hK => ?_) ?_
        · go_simp
          refine hK _ _ ?_
          clear hK K
          refine wpAny_ready (rs := [9]) (by kernel_rfl) (by simp) ?_
          refine AllReady.cons rfl (fun K hK => ?_) AllReady.nil
          go_simp
          refine hK _ _ ?_
          clear hK K
          refine wpAny_ready (rs := [10]) (by kernel_rfl) (by simp) ?_
          refine AllReady.cons rfl (fun K hK => ?_) AllReady.nil
          go_simp
          refine (HC.out _).mono ?_
          rintro e w1 ⟨rfl, hb1⟩
          have hb2 : Below w.heap.size w w1 := (hb.drew).trans (hb1.mono hb.size)
          clear hb1
          refine hK _ _ ?_
          clear hK K
          refine wpAny_take (i := 11) (v := .bool false) rfl (by kernel_rfl) (by kernel_rfl) (by kernel_rfl) (fun _ _ _ h => h) (Or.inl ⟨by rfl, by intro w; go_simp⟩) ?_
          refine wpAny_done (by kernel_rfl) ?_ _
          go_wp2_with fail
          go_roundw
          case rel => exact ⟨m + 1 + 1, by omega, .inl (by omega), by go_num, hb2, HY⟩
          case measure => simp only [intOf]; omega
        · refine AllReady.cons rfl (fun K hK => ?_) AllReady.nil
          go_simp
          refine hK _ _ ?_
          clear hK K
          refine wpAny_ready (rs := [5]) (by kernel_rfl) (by simp) ?_
          refine AllReady.cons rfl (fun K hK => ?_) AllReady.nil
          go_simp
          refine hK _ _ ?_
          clear hK K
          refine wpAny_ready (rs := [10]) (by kernel_rfl) (by simp) ?_
          refine AllReady.cons rfl (fun K hK => ?_) AllReady.nil
          go_simp
          refine (HC.out _).mono ?_
          rintro e w1 ⟨rfl, hb1⟩
          have hb2 : Below w.heap.size w w1 := (hb.drew).trans (hb1.mono hb.size)
          clear hb1
          refine hK _ _ ?_
          clear hK K
          refine wpAny_take (i := 11) (v := .bool false) rfl (by kernel_rfl) (by kernel_rfl) (by kernel_rfl) (fun _ _ _ h => h) (Or.inl ⟨by rfl, by intro w; go_simp⟩) ?_
          refine wpAny_done (by kernel_rfl) ?_ _
          go_wp2_with fail
          go_roundw
          case rel => exact ⟨m + 1 + 1, by omega, .inl (by omega), by go_num, hb2, HY⟩
          case measure => simp only [intOf]; omega
      · have hC' : (0 : Int) ≤ C := by omega
        have HY : Hid (riseTo cmpP ts ts.length = false) := riseTo_false (k := m + 1 + 1) (by rw [HT.out]; exact decide_eq_false hC) (by omega)
        go_wp2_with fail
        refine wp_region_any (by kernel_rfl) ?_
        change wpAny _ _ _ _ _ _ _ (World.drew _)
        refine wpAny_take (i := 0) (v := .func (.func 197) #[] #[]) rfl (by kernel_rfl) (by kernel_rfl) (by kernel_rfl) (fun _ _ _ h => h) (Or.inl ⟨by rfl, by intro w; go_simp⟩) ?_
        refine wpAny_take (i := 1) (v := .slice (some ⟨g, o, none⟩) ts.length cap) rfl (by kernel_rfl) (by kernel_rfl) (by kernel_rfl) (fun _ _ _ h => h) (Or.inl ⟨by rfl, by intro w; go_simp⟩) ?_
        refine wpAny_take (i := 2) (v := .int .i64 (((m : Nat) : Int) + 1)) rfl (by kernel_rfl) (by kernel_rfl) (by kernel_rfl) (fun _ _ _ h => h) (Or.inl ⟨by rfl, by intro w; go_simp⟩) ?_
        refine wpAny_take (i := 3) (v := .int .i64 ((m : Nat) : Int)) rfl (by kernel_rfl) (by kernel_rfl) (by kernel_rfl) (fun _ _ _ h => h) (Or.inl ⟨by rfl, by intro w; go_simp⟩) ?_
        refine wpAny_take (i := 4) (v := .pointer (some ⟨g, o + m * 2, none⟩)) rfl (by kernel_rfl) (by kernel_rfl) (by kernel_rfl) (fun _ _ _ h => h) (Or.inl ⟨by rfl, by intro w; go_simp⟩) ?_
        refine wpAny_take (i := 6) (v := .slice (some ⟨g, o, none⟩) ts.length cap) rfl (by kernel_rfl) (by kernel_rfl) (by kernel_rfl) (fun _ _ _ h => h) (Or.inl ⟨by rfl, by intro w; go_simp⟩) ?_
        refine wpAny_take (i := 7) (v := .int .i64 (((m : Nat) : Int) + 1)) rfl (by kernel_rfl) (by kernel_rfl) (by kernel_rfl) (fun _ _ _ h => h) (Or.inl ⟨by rfl, by intro w; go_simp⟩) ?_
        refine wpAny_take (i := 8) (v := .pointer (some ⟨g, o + (m + 1) * 2, none⟩)) rfl (by kernel_rfl) (by kernel_rfl) (by kernel_rfl) (fun _ _ _ h => h) (Or.inl ⟨by rfl, by intro w; go_simp⟩) ?_
        refine wpAny_ready (rs := [5, 9]) (by kernel_rfl) (by simp) ?_
        refine AllReady.cons rfl (fun K hK => ?_) ?_
        · go_simp
          refine hK _ _ ?_
          clear hK K
          refine wpAny_ready (rs := [9]) (by kernel_rfl) (by simp) ?_
          refine AllReady.cons rfl (fun K hK => ?_) AllReady.nil
          go_simp
          refine hK _ _ ?_
          clear hK K
          refine wpAny_ready (rs := [10]) (by kernel_rfl) (by simp) ?_
          refine AllReady.cons rfl (fun K hK => ?_) AllReady.nil
          go_simp
          refine (HC.out _).mono ?_
          rintro e w1 ⟨rfl, hb1⟩
          have hb2 : Below w.heap.size w w1 := (hb.drew).trans (hb1.mono hb.size)
          clear hb1
          refine hK _ _ ?_
          clear hK K
          refine wpAny_take (i := 11) (v := .bool true) rfl (by kernel_rfl) (by kernel_rfl) (by kernel_rfl) (fun _ _ _ h => h) (Or.inl ⟨by rfl, by intro w; go_simp⟩) ?_
          refine wpAny_done (by kernel_rfl) ?_ _
          go_wp2_with fail
          go_ret
          rw [HY.out]
          exact ⟨rfl, hb2⟩
        · refine AllReady.cons rfl (fun K hK => ?_) AllReady.nil
          go_simp
          refine hK _ _ ?_
          clear hK K
          refine wpAny_ready (rs := [5]) (by kernel_rfl) (by simp) ?_
          refine AllReady.cons rfl (fun K hK => ?_) AllReady.nil
          go_simp
          refine hK _ _ ?_
          clear hK K
          refine wpAny_ready (rs := [10]) (by kernel_rfl) (by simp) ?_
          refine AllReady.cons rfl (fun K hK => ?_) AllReady.nil
          go_simp
          refine (HC.out _).mono ?_
          rintro e w1 ⟨rfl, hb1⟩
          have hb2 : Below w.heap.size w w1 := (hb.drew).trans (hb1.mono hb.size)
          clear hb1
          refine hK _ _ ?_
          clear hK K
          refine wpAny_take (i := 11) (v := .bool true) rfl (by kernel_rfl) (by kernel_rfl) (by kernel_rfl) (fun _ _ _ h => h) (Or.inl ⟨by rfl, by intro w; go_simp⟩) ?_
          refine wpAny_done (by kernel_rfl) ?_ _
          go_wp2_with fail
          go_ret
          rw [HY.out]
          exact ⟨rfl, hb2⟩
    · have hge : ¬ ((k : Nat) : Int) < ((ts.length : Nat) : Int) := by omega
      have HY : Hid (riseTo cmpP ts ts.length = true) := by
        rcases hk with hk | hk
        · have : k = ts.length := by omega
          rw [← this]; exact HA.out
        · unfold riseTo
          rw [show ts.length - 1 = 0 by omega]
          rfl
      go_wp2_with fail
      go_ret
      rw [HY.out]
      exact ⟨rfl, hb⟩
end Go.Proofs.YtcidoodaiimhfaaGreat

/- WALK of the order of scores. -/
namespace Go.Proofs.YtcidoodaiimhfaaGreat
open Go.RowKit

def cmpN (a b : Int) : Int := if a < b then -1 else if b < a then 1 else 0
def orN (a b : Int) : Int := if a ≠ 0 then a else b
theorem cmpS_or (x y : Int × ByteArray) : orN (cmpN x.1 y.1) (cmpT x.2 y.2) = cmpS x y := by
  unfold orN cmpN cmpS
  by_cases h1 : x.1 < y.1
  · simp [h1]
  · by_cases h2 : y.1 < x.1
    · simp [h1, h2]
    · simp [h1, h2]
theorem isNaN_any (a : Int) (w : World) : Calls Tryz.prog 224 #[.int .i64 a] w fun e w' => e = .returned (.bool false) ∧ w' = w := by
  go_enter Tryz.func224, Tryz.ntmps224
  go_wp2_with fail
  go_ret
  exact ⟨by simp, rfl⟩
set_option maxRecDepth 100000 in
theorem cmpInt_any (a b : Int) (w : World) : Calls Tryz.prog 170 #[.int .i64 a, .int .i64 b] w fun e w' => e = .returned (.int .i64 (cmpN a b)) ∧ w' = w := by
  by_cases h1 : a < b
  · rw [show cmpN a b = -1 by rw [cmpN, if_pos h1]]
    go_enter Tryz.func170, Tryz.ntmps170
    go_wp2_with (go_at_call 224; refine (isNaN_any _ _).mono ?_; rintro e w' ⟨rfl, rfl⟩)
    go_ret
    exact ⟨rfl, rfl⟩
  · by_cases h2 : b < a
    · rw [show cmpN a b = 1 by rw [cmpN, if_neg h1, if_pos h2]]
      go_enter Tryz.func170, Tryz.ntmps170
      go_wp2_with (go_at_call 224; refine (isNaN_any _ _).mono ?_; rintro e w' ⟨rfl, rfl⟩)
      go_ret
      exact ⟨rfl, rfl⟩
    · rw [show cmpN a b = 0 by rw [cmpN, if_neg h1, if_neg h2]]
      go_enter Tryz.func170, Tryz.ntmps170
      go_wp2_with (go_at_call 224; refine (isNaN_any _ _).mono ?_; rintro e w' ⟨rfl, rfl⟩)
      go_ret
      exact ⟨rfl, rfl⟩
set_option maxRecDepth 100000 in
theorem orInt_any (g : Nat) (a b : Int) (w : World) (h0 : w.cell? ⟨g, 0, none⟩ = some (.int .i64 a)) (h1 : w.cell? ⟨g, 1, none⟩ = some (.int .i64 b)) : Calls Tryz.prog 169 #[.slice (some ⟨g, 0, none⟩) 2 2] w fun e w' => e = .returned (.int .i64 (orN a b)) ∧ w' = w := by
  by_cases ha : a = 0
  · subst ha
    rw [show orN 0 b = b by simp [orN]]
    by_cases hb : b = 0
    · subst hb
      go_enter Tryz.func169, Tryz.ntmps169
      go_wp2_with fail
      go_rounds 3
      go_ret
      exact ⟨rfl, rfl⟩
    · have hb' : (b == 0) = false := by rw [beq_eq_false_iff_ne]; exact hb
      go_enter Tryz.func169, Tryz.ntmps169
      go_wp2_with fail
      go_rounds 3
      go_ret
      exact ⟨rfl, rfl⟩
  · rw [show orN a b = a by simp [orN, ha]]
    have ha' : (a == 0) = false := by rw [beq_eq_false_iff_ne]; exact ha
    go_enter Tryz.func169, Tryz.ntmps169
    go_wp2_with fail
    go_rounds 3
    go_ret
    exact ⟨rfl, rfl⟩
set_option maxRecDepth 100000 in
set_option maxHeartbeats 1000000 in
theorem cmpS_any (x y : Int × ByteArray) (w : World) : Calls Tryz.prog 204 #[.agg #[.int .i64 x.1, .string x.2], .agg #[.int .i64 y.1, .string y.2]] w fun e w' => e = .returned (.int .i64 (cmpS x y)) ∧ Below w.heap.size w w' := by
  rw [← cmpS_or]
  obtain ⟨x1, x2⟩ := x
  obtain ⟨y1, y2⟩ := y
  have HA : Hid (∀ W, Calls Tryz.prog 170 #[.int .i64 x1, .int .i64 y1] W fun e w' => e = .returned (.int .i64 (cmpN x1 y1)) ∧ w' = W) := fun W => cmpInt_any _ _ W
  have HT : Hid (∀ W, Calls Tryz.prog 133 #[.string x2, .string y2] W fun e w' => e = .returned (.int .i64 (cmpT x2 y2)) ∧ w' = W) := fun W => compare_any _ _ W
  simp only
  generalize cmpN x1 y1 = C1 at *
  generalize cmpT x2 y2 = C2 at *
  go_enter Tryz.func204, Tryz.ntmps204
  go_wp2_with fail
  go_region_held3 (fun w' => w'.cell? ⟨w.heap.size, 0, none⟩ = some (.int .i64 x1) ∧ w'.cell? ⟨w.heap.size, 1, none⟩ = some (.string x2) ∧ w'.cell? ⟨w.heap.size + 1, 0, none⟩ = some (.int .i64 y1) ∧ w'.cell? ⟨w.heap.size + 1, 1, none⟩ = some (.string y2)) (go_keep)
    ((first | (go_at_call 170; refine (HA.out _).mono ?_; rintro e w2 ⟨rfl, rfl⟩) | (go_at_call 133; refine (HT.out _).mono ?_; rintro e w2 ⟨rfl, rfl⟩) | (go_at_call 169; refine (orInt_any _ C1 C2 _ (by go_simp) (by go_simp)).mono ?_; rintro e w2 ⟨rfl, rfl⟩)))
  all_goals
    go_wp2_with fail
    go_ret
    refine ⟨rfl, ?_⟩
    go_grown
end Go.Proofs.YtcidoodaiimhfaaGreat

/- WALK of whether scores rise. -/
namespace Go.Proofs.YtcidoodaiimhfaaGreat
open Go.RowKit

set_option maxRecDepth 100000 in
set_option maxHeartbeats 1000000 in
theorem riseS_any (a : Option Addr) (cap : Nat) (ts : List (Int × ByteArray)) (w : World) (hs : ScoresAt w a ts) (hn : ts.length ≤ 1000000) :
    Calls Tryz.prog 203 #[.slice a ts.length cap, .func (.func 204) #[] #[]] w fun e w' => e = .returned (.bool (riseTo cmpS ts ts.length)) ∧ Below w.heap.size w w' := by
  have HS := hide hs
  clear hs
  go_enter Tryz.func203, Tryz.ntmps203
  go_wp2_with fail
  go_loopw [5] (fun vi wr => ∃ (k : Nat), 1 ≤ k ∧ (k ≤ ts.length ∨ k = 1) ∧ vi = .int .i64 k ∧ Below w.heap.size w wr ∧ Hid (riseTo cmpS ts k = true)) (fun vi _ => ts.length + 1 - (intOf vi).toNat)
  case atStart => exact ⟨1, Nat.le_refl _, .inr rfl, rfl, Below.refl _ _, rfl⟩
  case round =>
    obtain ⟨k, hk1, hk, rfl, hb, HA⟩ := hrel
    by_cases hlt : k < ts.length
    · obtain ⟨g, o, rfl, hcs⟩ : ∃ g o, a = some ⟨g, o, none⟩ ∧ ∀ i (h : i < ts.length), w.cell? ⟨g, o + i * 2, none⟩ = some (.int .i64 ts[i].1) ∧ w.cell? ⟨g, o + i * 2 + 1, none⟩ = some (.string ts[i].2) := by
        rcases HS.out with h | h
        · subst h; simp at hlt
        · exact h
      obtain ⟨m, rfl⟩ : ∃ m, k = m + 1 := ⟨k - 1, by omega⟩
      have HB : Hid (∀ g o v, w.cell? ⟨g, o, none⟩ = some v → wr.cell? ⟨g, o, none⟩ = some v) := fun g o _ hv => (hb.cell (p := ⟨g, o, none⟩) (World.block_lt_of_cell? _ _ hv)).trans hv
      have d0 : (World.drew wr).cell? ⟨g, o + m * 2, none⟩ = some (.int .i64 ts[m].1) := HB.out _ _ _ ((hcs m (by omega)).1)
      have d1 : (World.drew wr).cell? ⟨g, o + m * 2 + 1, none⟩ = some (.string ts[m].2) := HB.out _ _ _ ((hcs m (by omega)).2)
      have e0 : (World.drew wr).cell? ⟨g, o + (m + 1) * 2, none⟩ = some (.int .i64 ts[m + 1].1) := HB.out _ _ _ ((hcs (m + 1) hlt).1)
      have e1 : (World.drew wr).cell? ⟨g, o + (m + 1) * 2 + 1, none⟩ = some (.string ts[m + 1].2) := HB.out _ _ _ ((hcs (m + 1) hlt).2)
      have p0 : wr.cell? ⟨g, o + m * 2, none⟩ = some (.int .i64 ts[m].1) := HB.out _ _ _ ((hcs m (by omega)).1)
      have p1 : wr.cell? ⟨g, o + m * 2 + 1, none⟩ = some (.string ts[m].2) := HB.out _ _ _ ((hcs m (by omega)).2)
      have q0 : wr.cell? ⟨g, o + (m + 1) * 2, none⟩ = some (.int .i64 ts[m + 1].1) := HB.out _ _ _ ((hcs (m + 1) hlt).1)
      have q1 : wr.cell? ⟨g, o + (m + 1) * 2 + 1, none⟩ = some (.string ts[m + 1].2) := HB.out _ _ _ ((hcs (m + 1) hlt).2)
      have hmm : IntKind.i64.wrap ((m : Nat) : Int) = ((m : Nat) : Int) := by rw [IntKind.wrap_i64]; omega
      have hm' : m < ts.length := by omega
      have hm2 : ((m : Nat) : Int) < ((ts.length : Nat) : Int) := by omega
      have hm4 : (0 : Int) ≤ ((m : Nat) : Int) + 1 := by omega
      have hm5 : (((m : Nat) : Int) + 1).toNat = m + 1 := by omega
      have hm3 : ((m : Nat) : Int) + 1 < ((ts.length : Nat) : Int) := by omega
      have HT : Hid (riseTo cmpS ts (m + 1 + 1) = decide (cmpS ts[m] ts[m + 1] < 0)) := by
        rw [Hid, riseTo_succ cmpS ts (m + 1) (by omega), HA.out, Bool.true_and, show m + 1 - 1 = m by omega, getElem!_pos ts m (by omega), getElem!_pos ts (m + 1) hlt]
      have HC : Hid (∀ W, Calls Tryz.prog 204 #[.agg #[.int .i64 ts[m].1, .string ts[m].2], .agg #[.int .i64 ts[m + 1].1, .string ts[m + 1].2]] W fun e w' => e = .returned (.int .i64 (cmpS ts[m] ts[m + 1])) ∧ Below W.heap.size W w') := fun W => cmpS_any _ _ W
      generalize cmpS ts[m] ts[m + 1] = C at *
      clear hcs HS HB
      by_cases hC : C < 0
      · have hC' : ¬ (0 : Int) ≤ C := by omega
        have HY : Hid (riseTo cmpS ts (m + 1 + 1) = true) := by rw [Hid, HT.out]; exact decide_eq_true hC
        go_wp2_with fail
        refine wp_region_any (by kernel_rfl) ?_
        change wpAny _ _ _ _ _ _ _ (World.drew _)
        refine wpAny_take (i := 0) (v := .func (.func 204) #[] #[]) rfl (by kernel_rfl) (by kernel_rfl) (by kernel_rfl) (fun _ _ _ h => h) (Or.inl ⟨by rfl, by intro w; go_simp⟩) ?_
        refine wpAny_take (i := 1) (v := .slice (some ⟨g, o, none⟩) ts.length cap) rfl (by kernel_rfl) (by kernel_rfl) (by kernel_rfl) (fun _ _ _ h => h) (Or.inl ⟨by rfl, by intro w; go_simp⟩) ?_
        refine wpAny_take (i := 2) (v := .int .i64 (((m : Nat) : Int) + 1)) rfl (by kernel_rfl) (by kernel_rfl) (by kernel_rfl) (fun _ _ _ h => h) (Or.inl ⟨by rfl, by intro w; go_simp⟩) ?_
        refine wpAny_take (i := 3) (v := .int .i64 ((m : Nat) : Int)) rfl (by kernel_rfl) (by kernel_rfl) (by kernel_rfl) (fun _ _ _ h => h) (Or.inl ⟨by rfl, by intro w; go_simp⟩) ?_
        refine wpAny_take (i := 4) (v := .pointer (some ⟨g, o + m * 2, none⟩)) rfl (by kernel_rfl) (by kernel_rfl) (by kernel_rfl) (fun _ _ _ h => h) (Or.inl ⟨by rfl, by intro w; go_simp⟩) ?_
        refine wpAny_take (i := 6) (v := .slice (some ⟨g, o, none⟩) ts.length cap) rfl (by kernel_rfl) (by kernel_rfl) (by kernel_rfl) (fun _ _ _ h => h) (Or.inl ⟨by rfl, by intro w; go_simp⟩) ?_
        refine wpAny_take (i := 7) (v := .int .i64 (((m : Nat) : Int) + 1)) rfl (by kernel_rfl) (by kernel_rfl) (by kernel_rfl) (fun _ _ _ h => h) (Or.inl ⟨by rfl, by intro w; go_simp⟩) ?_
        refine wpAny_take (i := 8) (v := .pointer (some ⟨g, o + (m + 1) * 2, none⟩)) rfl (by kernel_rfl) (by kernel_rfl) (by kernel_rfl) (fun _ _ _ h => h) (Or.inl ⟨by rfl, by intro w; go_simp⟩) ?_
        refine wpAny_ready (rs := [5, 9]) (by kernel_rfl) (by simp) ?_
        refine AllReady.cons rfl (fun K hK => ?_) ?_
        · go_simp
          refine hK _ _ ?_
          clear hK K
          refine wpAny_ready (rs := [9]) (by kernel_rfl) (by simp) ?_
          refine AllReady.cons rfl (fun K hK => ?_) AllReady.nil
          go_simp
          refine hK _ _ ?_
          clear hK K
          refine wpAny_ready (rs := [10]) (by kernel_rfl) (by simp) ?_
          refine AllReady.cons rfl (fun K hK => ?_) AllReady.nil
          go_simp
          refine (HC.out _).mono ?_
          rintro e w1 ⟨rfl, hb1⟩
          have hb2 : Below w.heap.size w w1 := (hb.drew).trans (hb1.mono hb.size)
          clear hb1
          refine hK _ _ ?_
          clear hK K
          refine wpAny_take (i := 11) (v := .bool false) rfl (by kernel_rfl) (by kernel_rfl) (by kernel_rfl) (fun _ _ _ h => h) (Or.inl ⟨by rfl, by intro w; go_simp⟩) ?_
          refine wpAny_done (by kernel_rfl) ?_ _
          go_wp2_with fail
          go_roundw
          case rel => exact ⟨m + 1 + 1, by omega, .inl (by omega), by go_num, hb2, HY⟩
          case measure => simp only [intOf]; omega
        · refine AllReady.cons rfl (fun K hK => ?_) AllReady.nil
          go_simp
          refine hK _ _ ?_
          clear hK K
          refine wpAny_ready (rs := [5]) (by kernel_rfl) (by simp) ?_
          refine AllReady.cons rfl (fun K hK => ?_) AllReady.nil
          go_simp
          refine hK _ _ ?_
          clear hK K
          refine wpAny_ready (rs := [10]) (by kernel_rfl) (by simp) ?_
          refine AllReady.cons rfl (fun K hK => ?_) AllReady.nil
          go_simp
          refine (HC.out _).mono ?_
          rintro e w1 ⟨rfl, hb1⟩
          have hb2 : Below w.heap.size w w1 := (hb.drew).trans (hb1.mono hb.size)
          clear hb1
          refine hK _ _ ?_
          clear hK K
          refine wpAny_take (i := 11) (v := .bool false) rfl (by kernel_rfl) (by kernel_rfl) (by kernel_rfl) (fun _ _ _ h => h) (Or.inl ⟨by rfl, by intro w; go_simp⟩) ?_
          refine wpAny_done (by kernel_rfl) ?_ _
          go_wp2_with fail
          go_roundw
          case rel => exact ⟨m + 1 + 1, by omega, .inl (by omega), by go_num, hb2, HY⟩
          case measure => simp only [intOf]; omega
      · have hC' : (0 : Int) ≤ C := by omega
        have HY : Hid (riseTo cmpS ts ts.length = false) := riseTo_false (k := m + 1 + 1) (by rw [HT.out]; exact decide_eq_false hC) (by omega)
        go_wp2_with fail
        refine wp_region_any (by kernel_rfl) ?_
        change wpAny _ _ _ _ _ _ _ (World.drew _)
        refine wpAny_take (i := 0) (v := .func (.func 204) #[] #[]) rfl (by kernel_rfl) (by kernel_rfl) (by kernel_rfl) (fun _ _ _ h => h) (Or.inl ⟨by rfl, by intro w; go_simp⟩) ?_
        refine wpAny_take (i := 1) (v := .slice (some ⟨g, o, none⟩) ts.length cap) rfl (by kernel_rfl) (by kernel_rfl) (by kernel_rfl) (fun _ _ _ h => h) (Or.inl ⟨by rfl, by intro w; go_simp⟩) ?_
        refine wpAny_take (i := 2) (v := .int .i64 (((m : Nat) : Int) + 1)) rfl (by kernel_rfl) (by kernel_rfl) (by kernel_rfl) (fun _ _ _ h => h) (Or.inl ⟨by rfl, by intro w; go_simp⟩) ?_
        refine wpAny_take (i := 3) (v := .int .i64 ((m : Nat) : Int)) rfl (by kernel_rfl) (by kernel_rfl) (by kernel_rfl) (fun _ _ _ h => h) (Or.inl ⟨by rfl, by intro w; go_simp⟩) ?_
        refine wpAny_take (i := 4) (v := .pointer (some ⟨g, o + m * 2, none⟩)) rfl (by kernel_rfl) (by kernel_rfl) (by kernel_rfl) (fun _ _ _ h => h) (Or.inl ⟨by rfl, by intro w; go_simp⟩) ?_
        refine wpAny_take (i := 6) (v := .slice (some ⟨g, o, none⟩) ts.length cap) rfl (by kernel_rfl) (by kernel_rfl) (by kernel_rfl) (fun _ _ _ h => h) (Or.inl ⟨by rfl, by intro w; go_simp⟩) ?_
        refine wpAny_take (i := 7) (v := .int .i64 (((m : Nat) : Int) + 1)) rfl (by kernel_rfl) (by kernel_rfl) (by kernel_rfl) (fun _ _ _ h => h) (Or.inl ⟨by rfl, by intro w; go_simp⟩) ?_
        refine wpAny_take (i := 8) (v := .pointer (some ⟨g, o + (m + 1) * 2, none⟩)) rfl (by kernel_rfl) (by kernel_rfl) (by kernel_rfl) (fun _ _ _ h => h) (Or.inl ⟨by rfl, by intro w; go_simp⟩) ?_
        refine wpAny_ready (rs := [5, 9]) (by kernel_rfl) (by simp) ?_
        refine AllReady.cons rfl (fun K hK => ?_) ?_
        · go_simp
          refine hK _ _ ?_
          clear hK K
          refine wpAny_ready (rs := [9]) (by kernel_rfl) (by simp) ?_
          refine AllReady.cons rfl (fun K hK => ?_) AllReady.nil
          go_simp
          refine hK _ _ ?_
          clear hK K
          refine wpAny_ready (rs := [10]) (by kernel_rfl) (by simp) ?_
          refine AllReady.cons rfl (fun K hK => ?_) AllReady.nil
          go_simp
          refine (HC.out _).mono ?_
          rintro e w1 ⟨rfl, hb1⟩
          have hb2 : Below w.heap.size w w1 := (hb.drew).trans (hb1.mono hb.size)
          clear hb1
          refine hK _ _ ?_
          clear hK K
          refine wpAny_take (i := 11) (v := .bool true) rfl (by kernel_rfl) (by kernel_rfl) (by kernel_rfl) (fun _ _ _ h => h) (Or.inl ⟨by rfl, by intro w; go_simp⟩) ?_
          refine wpAny_done (by kernel_rfl) ?_ _
          go_wp2_with fail
          go_ret
          rw [HY.out]
          exact ⟨rfl, hb2⟩
        · refine AllReady.cons rfl (fun K hK => ?_) AllReady.nil
          go_simp
          refine hK _ _ ?_
          clear hK K
          refine wpAny_ready (rs := [5]) (by kernel_rfl) (by simp) ?_
          refine AllReady.cons rfl (fun K hK => ?_) AllReady.nil
          go_simp
          refine hK _ _ ?_
          clear hK K
          refine wpAny_ready (rs := [10]) (by kernel_rfl) (by simp) ?_
          refine AllReady.cons rfl (fun K hK => ?_) AllReady.nil
          go_simp
          refine (HC.out _).mono ?_
          rintro e w1 ⟨rfl, hb1⟩
          have hb2 : Below w.heap.size w w1 := (hb.drew).trans (hb1.mono hb.size)
          clear hb1
          refine hK _ _ ?_
          clear hK K
          refine wpAny_take (i := 11) (v := .bool true) rfl (by kernel_rfl) (by kernel_rfl) (by kernel_rfl) (fun _ _ _ h => h) (Or.inl ⟨by rfl, by intro w; go_simp⟩) ?_
          refine wpAny_done (by kernel_rfl) ?_ _
          go_wp2_with fail
          go_ret
          rw [HY.out]
          exact ⟨rfl, hb2⟩
    · have hge : ¬ ((k : Nat) : Int) < ((ts.length : Nat) : Int) := by omega
      have HY : Hid (riseTo cmpS ts ts.length = true) := by
        rcases hk with hk | hk
        · have : k = ts.length := by omega
          rw [← this]; exact HA.out
        · unfold riseTo
          rw [show ts.length - 1 = 0 by omega]
          rfl
      go_wp2_with fail
      go_ret
      rw [HY.out]
      exact ⟨rfl, hb⟩
end Go.Proofs.YtcidoodaiimhfaaGreat

/- WALK of whether a member is there twice. -/
namespace Go.Proofs.YtcidoodaiimhfaaGreat
open Go.RowKit Go.Maps Go.WideMaps

def mkeys (ts : List (Int × ByteArray)) (k : Nat) : List Lit := (ts.take k).map fun x => .string x.2.data.toList
def mset (ts : List (Int × ByteArray)) (k : Nat) : DataW Unit := setOf (.agg []) (mkeys ts k)
theorem mset_zero (ts : List (Int × ByteArray)) : mset ts 0 = .map [] := by simp [mset, mkeys, setOf]
theorem mset_succ (ts : List (Int × ByteArray)) (k : Nat) (hk : k < ts.length) : mset ts (k + 1) = (mset ts k).put (.string ts[k].2.data.toList) (.agg []) := by
  have e : mkeys ts (k + 1) = mkeys ts k ++ [.string ts[k].2.data.toList] := by
    unfold mkeys
    rw [List.take_succ_eq_append_getElem hk, List.map_append]
    rfl
  rw [mset, e, setOf_snoc]
  rfl
theorem addKey_le (x : Lit) (L : List Lit) : (addKey L x).length ≤ L.length + 1 := by
  unfold addKey
  split <;> simp
theorem addKeys_le : ∀ (xs L : List Lit), (xs.foldl addKey L).length ≤ L.length + xs.length
  | [], L => by simp
  | x :: r, L => by
    rw [List.foldl_cons]
    have h1 := addKeys_le r (addKey L x)
    have h2 := addKey_le x L
    simp only [List.length_cons]
    omega
/-- all different: as many as there are -/
theorem addKeys_eq : ∀ (xs L : List Lit), (∀ x ∈ xs, WideAt.IsKeyLit x) → ((xs.foldl addKey L).length = L.length + xs.length ↔ xs.Nodup ∧ ∀ x ∈ xs, x ∉ L)
  | [], L, _ => by simp
  | x :: r, L, hk => by
    rw [List.foldl_cons]
    have hx := hk x (by simp)
    have hr : ∀ y ∈ r, WideAt.IsKeyLit y := fun y hy => hk y (by simp [hy])
    by_cases hin : x ∈ L
    · have e : addKey L x = L := by
        unfold addKey
        rw [if_pos (show (L.any fun y => y.sameKey x) = true from List.any_eq_true.2 ⟨x, hin, WideAt.sameKey_self hx⟩)]
      rw [e]
      have h1 := addKeys_le r L
      refine ⟨fun h => ?_, fun h => absurd hin (h.2 x (by simp))⟩
      simp only [List.length_cons] at h
      omega
    · have e : addKey L x = L ++ [x] := by
        unfold addKey
        rw [if_neg]
        intro h
        obtain ⟨y, hy, hs⟩ := List.any_eq_true.1 h
        exact hin (WideAt.sameKey_eq hs ▸ hy)
      rw [e]
      have ih := addKeys_eq r (L ++ [x]) hr
      rw [List.length_append, List.length_singleton] at ih
      rw [List.length_cons, show L.length + (r.length + 1) = L.length + 1 + r.length by omega, ih]
      constructor
      · rintro ⟨h1, h2⟩
        refine ⟨List.nodup_cons.2 ⟨fun hm => h2 x hm (by simp), h1⟩, fun y hy => ?_⟩
        rcases List.mem_cons.1 hy with rfl | hy
        · exact hin
        · exact fun hm => h2 y hy (by simp [hm])
      · rintro ⟨h1, h2⟩
        obtain ⟨h3, h4⟩ := List.nodup_cons.1 h1
        refine ⟨h4, fun y hy hm => ?_⟩
        rcases List.mem_append.1 hm with hm | hm
        · exact h2 y (by simp [hy]) hm
        · simp at hm; subst hm; exact h3 hy
theorem mkeys_key (ts : List (Int × ByteArray)) (k : Nat) : ∀ x ∈ mkeys ts k, WideAt.IsKeyLit x := by
  intro x hx
  unfold mkeys at hx
  obtain ⟨y, _, rfl⟩ := List.mem_map.1 hx
  trivial
theorem list_inj {a b : ByteArray} (h : a.data.toList = b.data.toList) : a = b := by
  cases a; cases b
  congr 1
  exact Array.toList_inj.1 h
theorem twice_size (ts : List (Int × ByteArray)) : decide (Maps.size (mset ts ts.length) < ts.length) = twiceS ts := by
  rw [mset, size_setOf _ _ (mkeys_key ts _)]
  have h1 := addKeys_le (mkeys ts ts.length) []
  have h2 := addKeys_eq (mkeys ts ts.length) [] (mkeys_key ts _)
  have e : (mkeys ts ts.length).length = ts.length := by simp [mkeys]
  have hn : (mkeys ts ts.length).Nodup ↔ (ts.map Prod.snd).Nodup := by
    have e2 : mkeys ts ts.length = (ts.map Prod.snd).map (fun x => Lit.string x.data.toList) := by
      rw [mkeys, List.take_length, List.map_map]
      rfl
    rw [e2]
    constructor
    · intro h
      exact List.Pairwise.of_map _ (fun a b hab he => hab (by rw [he])) h
    · intro h
      refine List.Pairwise.map _ (fun a b hab he => hab ?_) h
      injection he with he
      exact list_inj he
  rw [e] at h1 h2
  simp only [List.length_nil, Nat.zero_add] at h1 h2
  unfold twiceS
  by_cases hd : (ts.map Prod.snd).Nodup
  · have := h2.2 ⟨hn.2 hd, by simp⟩
    rw [decide_eq_true hd, this]
    simp
  · have hne : (List.foldl addKey [] (mkeys ts ts.length)).length ≠ ts.length := fun h => hd (hn.1 (h2.1 h).1)
    rw [decide_eq_false hd]
    simp only [Bool.not_false, decide_eq_true_eq]
    omega

theorem keyLaw : Keyed Tryz.prog 9 := string_keyed Tryz.underlying9
set_option maxRecDepth 100000 in
set_option maxHeartbeats 1000000 in
theorem hasTwice_any (a : Option Addr) (cap : Nat) (ts : List (Int × ByteArray)) (w : World) (hs : ScoresAt w a ts) (hn : ts.length ≤ 1000000) (hsz : ∀ x ∈ ts, x.2.size ≤ maxLen) :
    Calls Tryz.prog 202 #[.slice a ts.length cap] w fun e w' => e = .returned (.bool (twiceS ts)) ∧ Below w.heap.size w w' := by
  have hmm := @run_makeMap Tryz.prog
  have HS := hide hs
  have HZ := hide hsz
  clear hs hsz
  go_enter Tryz.func202, Tryz.ntmps202
  go_wp2_with fail
  go_loopw [9] (fun i wr => ∃ k : Nat, k ≤ ts.length ∧ i = .int .i64 k ∧ wr.ownsMap Tryz.prog 9 (unitElem (H := Unit)) w.heap.size k (mset ts k) ∧ Below w.heap.size w wr ∧ w.heap.size < wr.heap.size) (fun i _ => ts.length - (intOf i).toNat)
  case atStart => exact ⟨0, Nat.zero_le _, rfl, by rw [mset_zero]; exact World.ownsMap_made _ _ _ _, (Below.refl _ _).alloc (Nat.le_refl _) _, by simp⟩
  case round =>
    obtain ⟨k, hk, rfl, hown, hb, hlw⟩ := hrel
    by_cases hlt : k < ts.length
    · obtain ⟨g, o, rfl, hcs⟩ : ∃ g o, a = some ⟨g, o, none⟩ ∧ ∀ i (h : i < ts.length), w.cell? ⟨g, o + i * 2, none⟩ = some (.int .i64 ts[i].1) ∧ w.cell? ⟨g, o + i * 2 + 1, none⟩ = some (.string ts[i].2) := by
        rcases HS.out with h | h
        · subst h; simp at hlt
        · exact h
      have HB : Hid (∀ g o v, w.cell? ⟨g, o, none⟩ = some v → wr.cell? ⟨g, o, none⟩ = some v) := fun g o _ hv => (hb.cell (p := ⟨g, o, none⟩) (World.block_lt_of_cell? _ _ hv)).trans hv
      have d0 : wr.cell? ⟨g, o + k * 2, none⟩ = some (.int .i64 ts[k].1) := HB.out _ _ _ (hcs k hlt).1
      have d1 : wr.cell? ⟨g, o + k * 2 + 1, none⟩ = some (.string ts[k].2) := HB.out _ _ _ (hcs k hlt).2
      have HM := hide (mset_succ ts k hlt)
      have hkey : keyOf Tryz.prog 9 (.string ts[k].2) = some (.string ts[k].2.data.toList) := keyOf_string_mk Tryz.underlying9 (HZ.out _ (List.getElem_mem hlt))
      have HK := hide hkey
      clear hcs HB HS HZ hkey
      generalize ts[k].1 = X1 at *
      generalize ts[k].2 = X2 at *
      go_wp2_with (first
        | (at_mapUpdate; refine wpList_mapUpdate_own _ rfl _ _ _ 247 rfl 9 248 keyLaw Tryz.underlying247 (unitElem (H := Unit)) w.heap.size k _ rfl (hown.alloc _) (by unfold maxLen; omega) _ _ _ rfl rfl HK.out _ [] unitElem_mk ?_; intro w1 hown1 hgrow1)
        | fail)
      go_roundw
      case rel => exact ⟨k + 1, by omega, by go_num, HM.out.symm ▸ hown1, (hb.alloc hb.size _).grown hgrow1 (by simp; omega) (fun j hj => by cases hj; exact Nat.le_refl _), by have := hgrow1.size; simp at this; omega⟩
      case measure => simp [intOf]; omega
    · have hkk : k = ts.length := by omega
      subst hkk
      have HW := hide (twice_size ts)
      have hge : ¬ ((ts.length : Nat) : Int) < ((ts.length : Nat) : Int) := by omega
      go_wp2_with (first
        | (at_len; refine wpList_len_own _ rfl _ 247 rfl 9 248 Tryz.underlying247 _ w.heap.size _ _ rfl hown ?_)
        | fail)
      go_ret
      refine ⟨?_, hb⟩
      rw [← HW.out]
      simp
end Go.Proofs.YtcidoodaiimhfaaGreat

/- WALKS of the checks of a set, a hash, scores. -/
namespace Go.Proofs.YtcidoodaiimhfaaGreat
open Go.RowKit

set_option maxRecDepth 100000 in
set_option maxHeartbeats 1000000 in
theorem checkSet_any (a : Option Addr) (cap : Nat) (ts : List ByteArray) (w : World) (hs : TextsAt w a ts) :
    Calls Tryz.prog 144 #[.slice a ts.length cap] w fun e w' => e = .returned (.int .i64 (setT ts)) ∧ Below w.heap.size w w' := by
  have HZ := hide (checkSizeT_any a cap ts w hs)
  have HS := hide hs
  clear hs
  by_cases h0 : sizeT ts.length (ts.any longT) = 0
  · have hsm := sizeT_small h0
    rw [h0] at HZ
    cases hr : riseTo cmpT ts ts.length with
    | true =>
      have hv : setT ts = 0 := by rw [setT, if_neg (by simp [h0]), if_pos hr]
      rw [hv]
      have HR := hide hr
      clear hv h0 hr
      go_enter Tryz.func144, Tryz.ntmps144
      go_wp2_with fail
      refine HZ.out.mono ?_
      rintro e w1 ⟨rfl, hb1⟩
      go_wp2_with fail
      refine (riseT_any a cap ts w1 (HS.out.below hb1) (by omega)).mono ?_
      rintro e w2 ⟨rfl, hb2⟩
      rw [HR.out]
      go_wp2_with fail
      go_ret
      exact ⟨rfl, hb1.trans (hb2.mono hb1.size)⟩
    | false =>
      have hv : setT ts = 4 := by rw [setT, if_neg (by simp [h0]), if_neg (by rw [hr]; decide)]
      rw [hv]
      have HR := hide hr
      clear hv h0 hr
      go_enter Tryz.func144, Tryz.ntmps144
      go_wp2_with fail
      refine HZ.out.mono ?_
      rintro e w1 ⟨rfl, hb1⟩
      go_wp2_with fail
      refine (riseT_any a cap ts w1 (HS.out.below hb1) (by omega)).mono ?_
      rintro e w2 ⟨rfl, hb2⟩
      rw [HR.out]
      go_wp2_with fail
      go_ret
      exact ⟨rfl, hb1.trans (hb2.mono hb1.size)⟩
  · have hv : setT ts = sizeT ts.length (ts.any longT) := by rw [setT, if_pos h0]
    have hb : (sizeT ts.length (ts.any longT) == 0) = false := by rw [beq_eq_false_iff_ne]; exact h0
    have hn : (sizeT ts.length (ts.any longT) != 0) = true := by rw [bne_iff_ne]; exact h0
    rw [hv]
    clear hv
    generalize sizeT ts.length (ts.any longT) = Z at *
    go_enter Tryz.func144, Tryz.ntmps144
    go_wp2_with fail
    refine HZ.out.mono ?_
    rintro e w1 ⟨rfl, hb1⟩
    go_wp2_with fail
    go_ret
    exact ⟨rfl, hb1⟩

set_option maxRecDepth 100000 in
set_option maxHeartbeats 1000000 in
theorem checkHash_any (a : Option Addr) (cap : Nat) (ts : List (ByteArray × ByteArray)) (w : World) (hs : PairsAt w a ts) :
    Calls Tryz.prog 145 #[.slice a ts.length cap] w fun e w' => e = .returned (.int .i64 (hashT ts)) ∧ Below w.heap.size w w' := by
  have HZ := hide (checkSizeP_any a cap ts w hs)
  have HS := hide hs
  clear hs
  by_cases h0 : sizeT ts.length (ts.any longP) = 0
  · have hsm := sizeT_small h0
    rw [h0] at HZ
    cases hr : riseTo cmpP ts ts.length with
    | true =>
      have hv : hashT ts = 0 := by rw [hashT, if_neg (by simp [h0]), if_pos hr]
      rw [hv]
      have HR := hide hr
      clear hv h0 hr
      go_enter Tryz.func145, Tryz.ntmps145
      go_wp2_with fail
      refine HZ.out.mono ?_
      rintro e w1 ⟨rfl, hb1⟩
      go_wp2_with fail
      refine (riseP_any a cap ts w1 (HS.out.below hb1) (by omega)).mono ?_
      rintro e w2 ⟨rfl, hb2⟩
      rw [HR.out]
      go_wp2_with fail
      go_ret
      exact ⟨rfl, hb1.trans (hb2.mono hb1.size)⟩
    | false =>
      have hv : hashT ts = 4 := by rw [hashT, if_neg (by simp [h0]), if_neg (by rw [hr]; decide)]
      rw [hv]
      have HR := hide hr
      clear hv h0 hr
      go_enter Tryz.func145, Tryz.ntmps145
      go_wp2_with fail
      refine HZ.out.mono ?_
      rintro e w1 ⟨rfl, hb1⟩
      go_wp2_with fail
      refine (riseP_any a cap ts w1 (HS.out.below hb1) (by omega)).mono ?_
      rintro e w2 ⟨rfl, hb2⟩
      rw [HR.out]
      go_wp2_with fail
      go_ret
      exact ⟨rfl, hb1.trans (hb2.mono hb1.size)⟩
  · have hv : hashT ts = sizeT ts.length (ts.any longP) := by rw [hashT, if_pos h0]
    have hb : (sizeT ts.length (ts.any longP) == 0) = false := by rw [beq_eq_false_iff_ne]; exact h0
    have hn : (sizeT ts.length (ts.any longP) != 0) = true := by rw [bne_iff_ne]; exact h0
    rw [hv]
    clear hv
    generalize sizeT ts.length (ts.any longP) = Z at *
    go_enter Tryz.func145, Tryz.ntmps145
    go_wp2_with fail
    refine HZ.out.mono ?_
    rintro e w1 ⟨rfl, hb1⟩
    go_wp2_with fail
    go_ret
    exact ⟨rfl, hb1⟩

set_option maxRecDepth 100000 in
set_option maxHeartbeats 1000000 in
theorem checkScores_any (a : Option Addr) (cap : Nat) (ts : List (Int × ByteArray)) (w : World) (hs : ScoresAt w a ts) (hsz : ∀ x ∈ ts, x.2.size ≤ maxLen) :
    Calls Tryz.prog 146 #[.slice a ts.length cap] w fun e w' => e = .returned (.int .i64 (scoreT ts)) ∧ Below w.heap.size w w' := by
  have HZ := hide (checkSizeS_any a cap ts w hs)
  have HS := hide hs
  have HL := hide hsz
  clear hs hsz
  by_cases h0 : sizeT ts.length (ts.any longS) = 0
  · have hsm := sizeT_small h0
    rw [h0] at HZ
    have hv0 : scoreT ts = if ts.any outS = true then 3 else if twiceS ts = true then 6 else if riseTo cmpS ts ts.length = true then 0 else 4 := by
      rw [scoreT, if_neg (by simp [h0])]
    rw [hv0]
    clear hv0 h0
    have HO : Hid (∀ W, Below w.heap.size w W → Calls Tryz.prog 200 #[.slice a ts.length cap, .func (.func 201) #[] #[]] W fun e w' => e = .returned (.bool (ts.any outS)) ∧ Below W.heap.size W w') := fun W hW => containsOutS_any a cap ts W (HS.out.below hW) (by omega)
    have HT : Hid (∀ W, Below w.heap.size w W → Calls Tryz.prog 202 #[.slice a ts.length cap] W fun e w' => e = .returned (.bool (twiceS ts)) ∧ Below W.heap.size W w') := fun W hW => hasTwice_any a cap ts W (HS.out.below hW) (by omega) HL.out
    have HR : Hid (∀ W, Below w.heap.size w W → Calls Tryz.prog 203 #[.slice a ts.length cap, .func (.func 204) #[] #[]] W fun e w' => e = .returned (.bool (riseTo cmpS ts ts.length)) ∧ Below W.heap.size W w') := fun W hW => riseS_any a cap ts W (HS.out.below hW) (by omega)
    clear HS HL
    generalize ts.any outS = B1 at *
    generalize twiceS ts = B2 at *
    generalize riseTo cmpS ts ts.length = B3 at *
    go_enter Tryz.func146, Tryz.ntmps146
    go_wp2_with fail
    refine HZ.out.mono ?_
    rintro e w1 ⟨rfl, hb1⟩
    go_wp2_with fail
    refine (HO.out w1 hb1).mono ?_
    rintro e w2 ⟨rfl, hb2⟩
    have hB2 : Below w.heap.size w w2 := hb1.trans (hb2.mono hb1.size)
    cases B1 with
    | true =>
      go_wp2_with fail
      go_ret
      exact ⟨rfl, hB2⟩
    | false =>
      go_wp2_with fail
      refine (HT.out w2 hB2).mono ?_
      rintro e w3 ⟨rfl, hb3⟩
      have hB3 : Below w.heap.size w w3 := hB2.trans (hb3.mono hB2.size)
      cases B2 with
      | true =>
        go_wp2_with fail
        go_ret
        exact ⟨rfl, hB3⟩
      | false =>
        go_wp2_with fail
        refine (HR.out w3 hB3).mono ?_
        rintro e w4 ⟨rfl, hb4⟩
        have hB4 : Below w.heap.size w w4 := hB3.trans (hb4.mono hB3.size)
        cases B3 with
        | true =>
          go_wp2_with fail
          go_ret
          exact ⟨rfl, hB4⟩
        | false =>
          go_wp2_with fail
          go_ret
          exact ⟨rfl, hB4⟩
  · have hv : scoreT ts = sizeT ts.length (ts.any longS) := by rw [scoreT, if_pos h0]
    have hb : (sizeT ts.length (ts.any longS) == 0) = false := by rw [beq_eq_false_iff_ne]; exact h0
    have hn : (sizeT ts.length (ts.any longS) != 0) = true := by rw [bne_iff_ne]; exact h0
    rw [hv]
    clear hv
    generalize sizeT ts.length (ts.any longS) = Z at *
    go_enter Tryz.func146, Tryz.ntmps146
    go_wp2_with fail
    refine HZ.out.mono ?_
    rintro e w1 ⟨rfl, hb1⟩
    go_wp2_with fail
    go_ret
    exact ⟨rfl, hb1⟩
end Go.Proofs.YtcidoodaiimhfaaGreat

/- WALK of the check of an item. -/
namespace Go.Proofs.YtcidoodaiimhfaaGreat
open Go.RowKit

/-- an item that lies in memory -/
structure ItemIs (w : World) (v : Value) (x : Itm) : Prop where
  ex : ∃ a1 c1 a2 c2 a3 c3, v = .agg #[.int .i64 x.k, .string x.t, .slice a1 x.l.length c1, .slice a2 x.p.length c2, .slice a3 x.s.length c3] ∧ TextsAt w a1 x.l ∧ PairsAt w a2 x.p ∧ ScoresAt w a3 x.s
  tz : x.t.size ≤ maxLen
  lz : ∀ t ∈ x.l, t.size ≤ maxLen
  pz : ∀ t ∈ x.p, t.1.size ≤ maxLen ∧ t.2.size ≤ maxLen
  sz : ∀ t ∈ x.s, t.2.size ≤ maxLen
  ll : x.l.length ≤ 281474976710656
  pl : x.p.length ≤ 281474976710656
  sl : x.s.length ≤ 281474976710656
theorem ItemIs.below {w w' : World} {v : Value} {x : Itm} (h : ItemIs w v x) (hb : Below w.heap.size w w') : ItemIs w' v x := by
  obtain ⟨⟨a1, c1, a2, c2, a3, c3, e, h1, h2, h3⟩, tz, lz, pz, sz, ll, pl, sl⟩ := h
  exact ⟨⟨a1, c1, a2, c2, a3, c3, e, h1.below hb, h2.below hb, h3.below hb⟩, tz, lz, pz, sz, ll, pl, sl⟩
theorem len_pos_b {α : Type} (l : List α) : decide ((0 : Int) < ((l.length : Nat) : Int)) = decide (0 < l.length) := by simp

set_option maxRecDepth 100000 in
set_option maxHeartbeats 4000000 in
theorem hasOther_any (k : Int) (t : ByteArray) (a1 a2 a3 : Option Addr) (n1 n2 n3 c1 c2 c3 : Nat) (w : World) :
    Calls Tryz.prog 141 #[.agg #[.int .i64 k, .string t, .slice a1 n1 c1, .slice a2 n2 c2, .slice a3 n3 c3]] w fun e w' => e = .returned (.bool (decide ((k ≠ 1 ∧ ¬ t.toList = []) ∨ (¬ (k = 2 ∨ k = 3) ∧ 0 < n1) ∨ (k ≠ 4 ∧ 0 < n2) ∨ (k ≠ 5 ∧ 0 < n3)))) ∧ Below w.heap.size w w' := by
  go_enter Tryz.func141, Tryz.ntmps141
  go_wp2
  all_goals go_ret
  all_goals refine ⟨?_, (Below.refl _ _).alloc (Nat.le_refl _) _⟩
  all_goals first | (simp [*]; done) | (simp [*]; omega)
end Go.Proofs.YtcidoodaiimhfaaGreat

/- WALK of the check of an item, whole. -/
namespace Go.Proofs.YtcidoodaiimhfaaGreat
open Go.RowKit

set_option maxRecDepth 100000 in
set_option maxHeartbeats 4000000 in
theorem check_any (v : Value) (x : Itm) (w : World) (h : ItemIs w v x) :
    Calls Tryz.prog 75 #[v] w fun e w' => e = .returned (.int .i64 (chkI x)) ∧ Below w.heap.size w w' := by
  obtain ⟨⟨a1, c1, a2, c2, a3, c3, rfl, h1, h2, h3⟩, tz, lz, pz, sz, ll, pl, sl⟩ := h
  obtain ⟨k, t, l, p, s⟩ := x
  simp only at *
  by_cases h0 : k < 1 ∨ 5 < k
  · have hp : chkI ⟨k, t, l, p, s⟩ = 7 := by rw [chkI, if_pos h0]
    rw [hp]
    clear hp
    rcases h0 with h0 | h0
    · go_enter Tryz.func75, Tryz.ntmps75
      go_wp2_with fail
      go_ret
      exact ⟨rfl, (Below.refl _ _).alloc (Nat.le_refl _) _⟩
    · have h0' : ¬ k < 1 := by omega
      go_enter Tryz.func75, Tryz.ntmps75
      go_wp2_with fail
      go_ret
      exact ⟨rfl, (Below.refl _ _).alloc (Nat.le_refl _) _⟩
  have hk1 : ¬ k < 1 := by omega
  have hk5 : ¬ 5 < k := by omega
  have HO : Hid (∀ W, Calls Tryz.prog 141 #[.agg #[.int .i64 k, .string t, .slice a1 l.length c1, .slice a2 p.length c2, .slice a3 s.length c3]] W fun e w' => e = .returned (.bool (otherI ⟨k, t, l, p, s⟩)) ∧ Below W.heap.size W w') := fun W => hasOther_any k t a1 a2 a3 l.length p.length s.length c1 c2 c3 W
  cases ho : otherI ⟨k, t, l, p, s⟩ with
  | true =>
    have hp : chkI ⟨k, t, l, p, s⟩ = 1 := by rw [chkI, if_neg h0, if_pos ho]
    rw [hp]
    rw [ho] at HO
    clear hp h0 ho
    go_enter Tryz.func75, Tryz.ntmps75
    go_wp2_with fail
    refine (HO.out _).mono ?_
    rintro e w1 ⟨rfl, hb1⟩
    go_wp2_with fail
    go_ret
    exact ⟨rfl, ((Below.refl _ w).alloc (Nat.le_refl _) _).trans (hb1.mono (by simp))⟩
  | false =>
    have hp : chkI ⟨k, t, l, p, s⟩ = if k = 2 then sizeT l.length (l.any longT) else if k = 3 then setT l else if k = 4 then hashT p else if k = 5 then scoreT s else if longT t = true then 2 else 0 := by
      rw [chkI, if_neg h0, if_neg (by rw [ho]; decide)]
    rw [hp]
    rw [ho] at HO
    clear hp h0 ho
    have hkk : k = 1 ∨ k = 2 ∨ k = 3 ∨ k = 4 ∨ k = 5 := by omega
    have H1 : Hid (TextsAt w a1 l) := h1
    have H2 : Hid (PairsAt w a2 p) := h2
    have H3 : Hid (ScoresAt w a3 s) := h3
    have HZ : Hid (∀ t ∈ s, t.2.size ≤ maxLen) := sz
    clear h1 h2 h3 lz pz sz hk1 hk5
    rcases hkk with rfl | rfl | rfl | rfl | rfl
    · rw [if_neg (by decide), if_neg (by decide), if_neg (by decide), if_neg (by decide)]
      have HL : Hid (∀ W, Calls Tryz.prog 143 #[.string t] W fun e w' => e = .returned (.bool (longT t)) ∧ w' = W) := fun W => isLong_any t W
      generalize longT t = B at *
      go_enter Tryz.func75, Tryz.ntmps75
      go_wp2_with fail
      refine (HO.out _).mono ?_
      rintro e w1 ⟨rfl, hb1⟩
      obtain ⟨hc, hf⟩ := bcell hb1
      have hz : w.heap.size < w1.heap.size := by have := hb1.size; simp at this; omega
      have hB1 : Below w.heap.size w w1 := ((Below.refl _ w).alloc (Nat.le_refl _) _).trans (hb1.mono (by simp))
      go_wp2_with fail
      refine (HL.out _).mono ?_
      rintro e w2 ⟨rfl, rfl⟩
      cases B with
      | true =>
        go_wp2_with fail
        go_ret
        exact ⟨rfl, hB1⟩
      | false =>
        go_wp2_with fail
        go_ret
        exact ⟨rfl, hB1⟩
    · rw [if_pos rfl]
      have HC : Hid (∀ W, Below w.heap.size w W → Calls Tryz.prog 142 #[.slice a1 l.length c1, .func (.func 143) #[] #[]] W fun e w' => e = .returned (.int .i64 (sizeT l.length (l.any longT))) ∧ Below W.heap.size W w') := fun W hW => checkSizeT_any a1 c1 l W (H1.out.below hW)
      generalize sizeT l.length (l.any longT) = Z at *
      go_enter Tryz.func75, Tryz.ntmps75
      go_wp2_with fail
      refine (HO.out _).mono ?_
      rintro e w1 ⟨rfl, hb1⟩
      obtain ⟨hc, hf⟩ := bcell hb1
      have hz : w.heap.size < w1.heap.size := by have := hb1.size; simp at this; omega
      have hB1 : Below w.heap.size w w1 := ((Below.refl _ w).alloc (Nat.le_refl _) _).trans (hb1.mono (by simp))
      go_wp2_with fail
      refine (HC.out w1 hB1).mono ?_
      rintro e w2 ⟨rfl, hb2⟩
      go_wp2_with fail
      go_ret
      exact ⟨rfl, hB1.trans (hb2.mono hB1.size)⟩
    · rw [if_neg (by decide), if_pos rfl]
      have HC : Hid (∀ W, Below w.heap.size w W → Calls Tryz.prog 144 #[.slice a1 l.length c1] W fun e w' => e = .returned (.int .i64 (setT l)) ∧ Below W.heap.size W w') := fun W hW => checkSet_any a1 c1 l W (H1.out.below hW)
      generalize setT l = Z at *
      go_enter Tryz.func75, Tryz.ntmps75
      go_wp2_with fail
      refine (HO.out _).mono ?_
      rintro e w1 ⟨rfl, hb1⟩
      obtain ⟨hc, hf⟩ := bcell hb1
      have hz : w.heap.size < w1.heap.size := by have := hb1.size; simp at this; omega
      have hB1 : Below w.heap.size w w1 := ((Below.refl _ w).alloc (Nat.le_refl _) _).trans (hb1.mono (by simp))
      go_wp2_with fail
      refine (HC.out w1 hB1).mono ?_
      rintro e w2 ⟨rfl, hb2⟩
      go_wp2_with fail
      go_ret
      exact ⟨rfl, hB1.trans (hb2.mono hB1.size)⟩
    · rw [if_neg (by decide), if_neg (by decide), if_pos rfl]
      have HC : Hid (∀ W, Below w.heap.size w W → Calls Tryz.prog 145 #[.slice a2 p.length c2] W fun e w' => e = .returned (.int .i64 (hashT p)) ∧ Below W.heap.size W w') := fun W hW => checkHash_any a2 c2 p W (H2.out.below hW)
      generalize hashT p = Z at *
      go_enter Tryz.func75, Tryz.ntmps75
      go_wp2_with fail
      refine (HO.out _).mono ?_
      rintro e w1 ⟨rfl, hb1⟩
      obtain ⟨hc, hf⟩ := bcell hb1
      have hz : w.heap.size < w1.heap.size := by have := hb1.size; simp at this; omega
      have hB1 : Below w.heap.size w w1 := ((Below.refl _ w).alloc (Nat.le_refl _) _).trans (hb1.mono (by simp))
      go_wp2_with fail
      refine (HC.out w1 hB1).mono ?_
      rintro e w2 ⟨rfl, hb2⟩
      go_wp2_with fail
      go_ret
      exact ⟨rfl, hB1.trans (hb2.mono hB1.size)⟩
    · rw [if_neg (by decide), if_neg (by decide), if_neg (by decide), if_pos rfl]
      have HC : Hid (∀ W, Below w.heap.size w W → Calls Tryz.prog 146 #[.slice a3 s.length c3] W fun e w' => e = .returned (.int .i64 (scoreT s)) ∧ Below W.heap.size W w') := fun W hW => checkScores_any a3 c3 s W (H3.out.below hW) HZ.out
      generalize scoreT s = Z at *
      go_enter Tryz.func75, Tryz.ntmps75
      go_wp2_with fail
      refine (HO.out _).mono ?_
      rintro e w1 ⟨rfl, hb1⟩
      obtain ⟨hc, hf⟩ := bcell hb1
      have hz : w.heap.size < w1.heap.size := by have := hb1.size; simp at this; omega
      have hB1 : Below w.heap.size w w1 := ((Below.refl _ w).alloc (Nat.le_refl _) _).trans (hb1.mono (by simp))
      go_wp2_with fail
      refine (HC.out w1 hB1).mono ?_
      rintro e w2 ⟨rfl, hb2⟩
      go_wp2_with fail
      go_ret
      exact ⟨rfl, hB1.trans (hb2.mono hB1.size)⟩
end Go.Proofs.YtcidoodaiimhfaaGreat

/- WALKS of what the layers of items have in common: nothing, or of a kind. -/
namespace Go.Proofs.YtcidoodaiimhfaaGreat
open Go.RowKit

set_option maxRecDepth 100000 in
set_option maxHeartbeats 4000000 in
theorem isNothing_any (k : Int) (t : ByteArray) (a1 a2 a3 : Option Addr) (n1 n2 n3 c1 c2 c3 : Nat) (w : World) :
    Calls Tryz.prog 57 #[.agg #[.int .i64 k, .string t, .slice a1 n1 c1, .slice a2 n2 c2, .slice a3 n3 c3]] w fun e w' => e = .returned (.bool (decide (k = 0 ∧ t.toList = [] ∧ n1 = 0 ∧ n2 = 0 ∧ n3 = 0))) ∧ Below w.heap.size w w' := by
  go_enter Tryz.func57, Tryz.ntmps57
  go_wp2
  all_goals go_ret
  all_goals refine ⟨?_, (Below.refl _ _).alloc (Nat.le_refl _) _⟩
  all_goals first | (simp [*]; done) | (simp [*]; rw [Bool.eq_iff_iff]; simp; done)
theorem isNone_len (x : Itm) : decide (x.k = 0 ∧ x.t.toList = [] ∧ x.l.length = 0 ∧ x.p.length = 0 ∧ x.s.length = 0) = x.isNone := by
  unfold Itm.isNone
  simp

/-- what is wrong with an item; nothing is right -/
def rightI (x : Itm) : Int := if x.isNone = true then 0 else chkI x
theorem asI_right (x : Itm) (kind : Int) : asI x kind = if rightI x ≠ 0 then rightI x else if x.isNone = true then 0 else if x.k ≠ kind then 7 else 0 := by
  unfold asI rightI
  cases x.isNone <;> simp
set_option maxRecDepth 100000 in
set_option maxHeartbeats 4000000 in
theorem right_any (v : Value) (x : Itm) (w : World) (h : ItemIs w v x) :
    Calls Tryz.prog 54 #[v] w fun e w' => e = .returned (.int .i64 (rightI x)) ∧ Below w.heap.size w w' := by
  have HI := hide h
  obtain ⟨⟨a1, c1, a2, c2, a3, c3, rfl, -, -, -⟩, -, -, -, -, -, -, -⟩ := h
  have HN : Hid (∀ W, Calls Tryz.prog 57 #[.agg #[.int .i64 x.k, .string x.t, .slice a1 x.l.length c1, .slice a2 x.p.length c2, .slice a3 x.s.length c3]] W fun e w' => e = .returned (.bool x.isNone) ∧ Below W.heap.size W w') := fun W => by rw [← isNone_len]; exact isNothing_any x.k x.t a1 a2 a3 x.l.length x.p.length x.s.length c1 c2 c3 W
  have HC : Hid (∀ W, Below w.heap.size w W → Calls Tryz.prog 75 #[.agg #[.int .i64 x.k, .string x.t, .slice a1 x.l.length c1, .slice a2 x.p.length c2, .slice a3 x.s.length c3]] W fun e w' => e = .returned (.int .i64 (chkI x)) ∧ Below W.heap.size W w') := fun W hW => check_any _ x W (HI.out.below hW)
  clear HI
  unfold rightI
  cases hn : x.isNone with
  | true =>
    rw [hn] at HN
    rw [if_pos rfl]
    clear hn
    go_enter Tryz.func54, Tryz.ntmps54
    go_wp2_with fail
    refine (HN.out _).mono ?_
    rintro e w1 ⟨rfl, hb1⟩
    obtain ⟨hc, hf⟩ := bcell hb1
    have hz : w.heap.size < w1.heap.size := by have := hb1.size; simp at this; omega
    have hB1 : Below w.heap.size w w1 := ((Below.refl _ w).alloc (Nat.le_refl _) _).trans (hb1.mono (by simp))
    go_wp2_with fail
    go_ret
    exact ⟨rfl, hB1⟩
  | false =>
    rw [hn] at HN
    rw [if_neg (by decide)]
    clear hn
    generalize chkI x = C at *
    generalize x.l.length = n1 at *
    generalize x.p.length = n2 at *
    generalize x.s.length = n3 at *
    generalize x.k = k at *
    generalize x.t = t at *
    go_enter Tryz.func54, Tryz.ntmps54
    go_wp2_with fail
    refine (HN.out _).mono ?_
    rintro e w1 ⟨rfl, hb1⟩
    obtain ⟨hc, hf⟩ := bcell hb1
    have hz : w.heap.size < w1.heap.size := by have := hb1.size; simp at this; omega
    have hB1 : Below w.heap.size w w1 := ((Below.refl _ w).alloc (Nat.le_refl _) _).trans (hb1.mono (by simp))
    go_wp2_with fail
    refine (HC.out w1 hB1).mono ?_
    rintro e w2 ⟨rfl, hb2⟩
    obtain ⟨hc2, hf2⟩ := bcell hb2
    have hz2 : w.heap.size < w2.heap.size := by have := hb2.size; omega
    have hB2 : Below w.heap.size w w2 := hB1.trans (hb2.mono hB1.size)
    go_wp2_with fail
    go_ret
    exact ⟨rfl, hB2⟩
end Go.Proofs.YtcidoodaiimhfaaGreat

/- WALK of common.Check. -/
namespace Go.Proofs.YtcidoodaiimhfaaGreat
open Go.RowKit

set_option maxRecDepth 100000 in
set_option maxHeartbeats 4000000 in
theorem common_any (v : Value) (x : Itm) (kind : Int) (w : World) (h : ItemIs w v x) :
    Calls Tryz.prog 85 #[v, .int .i64 kind] w fun e w' => e = .returned (.int .i64 (asI x kind)) ∧ Below w.heap.size w w' := by
  have HI := hide h
  obtain ⟨⟨a1, c1, a2, c2, a3, c3, rfl, -, -, -⟩, -, -, -, -, -, -, -⟩ := h
  have HN : Hid (∀ W, Calls Tryz.prog 57 #[.agg #[.int .i64 x.k, .string x.t, .slice a1 x.l.length c1, .slice a2 x.p.length c2, .slice a3 x.s.length c3]] W fun e w' => e = .returned (.bool x.isNone) ∧ Below W.heap.size W w') := fun W => by rw [← isNone_len]; exact isNothing_any x.k x.t a1 a2 a3 x.l.length x.p.length x.s.length c1 c2 c3 W
  have HC : Hid (∀ W, Below w.heap.size w W → Calls Tryz.prog 54 #[.agg #[.int .i64 x.k, .string x.t, .slice a1 x.l.length c1, .slice a2 x.p.length c2, .slice a3 x.s.length c3]] W fun e w' => e = .returned (.int .i64 (rightI x)) ∧ Below W.heap.size W w') := fun W hW => right_any _ x W (HI.out.below hW)
  clear HI
  rw [asI_right]
  generalize rightI x = C at *
  by_cases h0 : C = 0
  · subst h0
    rw [if_neg (by simp)]
    cases hn : x.isNone with
    | true =>
      rw [hn] at HN
      rw [if_pos rfl]
      clear hn
      generalize x.l.length = n1 at *
      generalize x.p.length = n2 at *
      generalize x.s.length = n3 at *
      generalize x.k = k at *
      generalize x.t = t at *
      go_enter Tryz.func85, Tryz.ntmps85
      go_wp2_with fail
      refine (HC.out _ ((Below.refl _ w).alloc (Nat.le_refl _) _)).mono ?_
      rintro e w1 ⟨rfl, hb1⟩
      obtain ⟨hc, hf⟩ := bcell hb1
      have hz : w.heap.size < w1.heap.size := by have := hb1.size; simp at this; omega
      have hB1 : Below w.heap.size w w1 := ((Below.refl _ w).alloc (Nat.le_refl _) _).trans (hb1.mono (by simp))
      go_wp2_with fail
      refine (HN.out _).mono ?_
      rintro e w2 ⟨rfl, hb2⟩
      obtain ⟨hc2, hf2⟩ := bcell hb2
      have hz2 : w.heap.size < w2.heap.size := by have := hb2.size; omega
      have hB2 : Below w.heap.size w w2 := hB1.trans (hb2.mono hB1.size)
      go_wp2_with fail
      go_ret
      exact ⟨rfl, hB2⟩
    | false =>
      rw [hn] at HN
      rw [if_neg (by decide)]
      clear hn
      generalize x.l.length = n1 at *
      generalize x.p.length = n2 at *
      generalize x.s.length = n3 at *
      generalize x.k = k at *
      generalize x.t = t at *
      by_cases hk : k = kind
      · subst hk
        rw [if_neg (by simp)]
        go_enter Tryz.func85, Tryz.ntmps85
        go_wp2_with fail
        refine (HC.out _ ((Below.refl _ w).alloc (Nat.le_refl _) _)).mono ?_
        rintro e w1 ⟨rfl, hb1⟩
        obtain ⟨hc, hf⟩ := bcell hb1
        have hz : w.heap.size < w1.heap.size := by have := hb1.size; simp at this; omega
        have hB1 : Below w.heap.size w w1 := ((Below.refl _ w).alloc (Nat.le_refl _) _).trans (hb1.mono (by simp))
        go_wp2_with fail
        refine (HN.out _).mono ?_
        rintro e w2 ⟨rfl, hb2⟩
        obtain ⟨hc2, hf2⟩ := bcell hb2
        have hz2 : w.heap.size < w2.heap.size := by have := hb2.size; omega
        have hB2 : Below w.heap.size w w2 := hB1.trans (hb2.mono hB1.size)
        go_wp2_with fail
        go_ret
        exact ⟨rfl, hB2⟩
      · rw [if_pos hk]
        have hk' : (k == kind) = false := by rw [beq_eq_false_iff_ne]; exact hk
        go_enter Tryz.func85, Tryz.ntmps85
        go_wp2_with fail
        refine (HC.out _ ((Below.refl _ w).alloc (Nat.le_refl _) _)).mono ?_
        rintro e w1 ⟨rfl, hb1⟩
        obtain ⟨hc, hf⟩ := bcell hb1
        have hz : w.heap.size < w1.heap.size := by have := hb1.size; simp at this; omega
        have hB1 : Below w.heap.size w w1 := ((Below.refl _ w).alloc (Nat.le_refl _) _).trans (hb1.mono (by simp))
        go_wp2_with fail
        refine (HN.out _).mono ?_
        rintro e w2 ⟨rfl, hb2⟩
        obtain ⟨hc2, hf2⟩ := bcell hb2
        have hz2 : w.heap.size < w2.heap.size := by have := hb2.size; omega
        have hB2 : Below w.heap.size w w2 := hB1.trans (hb2.mono hB1.size)
        go_wp2_with fail
        go_ret
        exact ⟨rfl, hB2⟩
  · rw [if_pos h0]
    have h0' : (C == 0) = false := by rw [beq_eq_false_iff_ne]; exact h0
    clear HN
    generalize x.l.length = n1 at *
    generalize x.p.length = n2 at *
    generalize x.s.length = n3 at *
    generalize x.k = k at *
    generalize x.t = t at *
    go_enter Tryz.func85, Tryz.ntmps85
    go_wp2_with fail
    refine (HC.out _ ((Below.refl _ w).alloc (Nat.le_refl _) _)).mono ?_
    rintro e w1 ⟨rfl, hb1⟩
    obtain ⟨hc, hf⟩ := bcell hb1
    have hz : w.heap.size < w1.heap.size := by have := hb1.size; simp at this; omega
    have hB1 : Below w.heap.size w w1 := ((Below.refl _ w).alloc (Nat.le_refl _) _).trans (hb1.mono (by simp))
    go_wp2_with fail
    go_ret
    exact ⟨rfl, hB1⟩

end Go.Proofs.YtcidoodaiimhfaaGreat

/- WALKS of what the layers of items have in common: places of a range. -/
namespace Go.Proofs.YtcidoodaiimhfaaGreat
open Go.RowKit

/-- a place from the beginning -/
def fromB (n : Nat) (f : Int) : Int := if f < 0 then n + f else f
theorem fromEnd_any (n : Nat) (f : Int) (w : World) (hn : n ≤ 9223372036854775807) (hf : -9223372036854775808 ≤ f) : Calls Tryz.prog 155 #[.int .i64 n, .int .i64 f] w fun e w' => e = .returned (.int .i64 (fromB n f)) ∧ w' = w := by
  by_cases h : f < 0
  · rw [show fromB n f = n + f by rw [fromB, if_pos h]]
    go_enter Tryz.func155, Tryz.ntmps155
    go_wp2_with fail
    go_ret
    exact ⟨rfl, rfl⟩
  · rw [show fromB n f = f by rw [fromB, if_neg h]]
    go_enter Tryz.func155, Tryz.ntmps155
    go_wp2_with fail
    go_ret
    exact ⟨rfl, rfl⟩
/-- the first place, and the one behind the last -/
def place1 (n : Nat) (f t : Int) : Nat := if min (fromB n t) (n - 1) < max (fromB n f) 0 then 0 else (max (fromB n f) 0).toNat
def place2 (n : Nat) (f t : Int) : Nat := if min (fromB n t) (n - 1) < max (fromB n f) 0 then 0 else (min (fromB n t) (n - 1)).toNat + 1
theorem place_le (n : Nat) (f t : Int) : place1 n f t ≤ place2 n f t ∧ place2 n f t ≤ n := by
  unfold place1 place2
  split <;> omega
set_option maxHeartbeats 1000000 in
theorem places_any (n : Nat) (f t : Int) (w : World) (hn : n ≤ 9223372036854775807) (hf : -9223372036854775808 ≤ f) (ht : -9223372036854775808 ≤ t) (hf2 : f ≤ 9223372036854775807) (ht2 : t ≤ 9223372036854775807) :
    Calls Tryz.prog 91 #[.int .i64 n, .int .i64 f, .int .i64 t] w fun e w' => e = .returned (.tuple #[.int .i64 (place1 n f t), .int .i64 (place2 n f t)]) ∧ w' = w := by
  have H1 : Hid (∀ W, Calls Tryz.prog 155 #[.int .i64 n, .int .i64 f] W fun e w' => e = .returned (.int .i64 (fromB n f)) ∧ w' = W) := fun W => fromEnd_any n f W hn hf
  have H2 : Hid (∀ W, Calls Tryz.prog 155 #[.int .i64 n, .int .i64 t] W fun e w' => e = .returned (.int .i64 (fromB n t)) ∧ w' = W) := fun W => fromEnd_any n t W hn ht
  have b1 : fromB n f ≤ 9223372036854775807 ∧ -9223372036854775808 ≤ fromB n f := by unfold fromB; split <;> omega
  have b2 : fromB n t ≤ 9223372036854775807 ∧ -9223372036854775808 ≤ fromB n t := by unfold fromB; split <;> omega
  have P1 : Hid (((place1 n f t : Nat) : Int) = if min (fromB n t) (n - 1) < max (fromB n f) 0 then 0 else max (fromB n f) 0) := by unfold place1; split <;> (simp only [Hid]; omega)
  have P2 : Hid (((place2 n f t : Nat) : Int) = if min (fromB n t) (n - 1) < max (fromB n f) 0 then 0 else min (fromB n t) (n - 1) + 1) := by unfold place2; split <;> (simp only [Hid]; omega)
  rw [P1.out, P2.out]
  clear P1 P2
  generalize fromB n f = F at *
  generalize fromB n t = T at *
  obtain ⟨b1, b1'⟩ := b1
  obtain ⟨b2, b2'⟩ := b2
  rcases Int.lt_or_le F 0 with hF | hF
  · rw [show max F 0 = 0 by omega]
    rcases Int.lt_or_le ((n : Int) - 1) T with hT | hT
    · rw [show min T ((n : Int) - 1) = (n : Int) - 1 by omega]
      by_cases hL : (n : Int) - 1 < 0
      · rw [if_pos hL, if_pos hL]
        go_enter Tryz.func91, Tryz.ntmps91
        go_wp2_with fail
        refine (H1.out _).mono ?_
        rintro e w1 ⟨rfl, rfl⟩
        go_wp2_with fail
        refine (H2.out _).mono ?_
        rintro e w1 ⟨rfl, rfl⟩
        go_wp2_with fail
        go_ret2
        first | exact ⟨rfl, rfl⟩ | (refine ⟨?_, rfl⟩; simp [go_sem]; omega)
      · rw [if_neg hL, if_neg hL, show (n : Int) - 1 + 1 = n by omega]
        go_enter Tryz.func91, Tryz.ntmps91
        go_wp2_with fail
        refine (H1.out _).mono ?_
        rintro e w1 ⟨rfl, rfl⟩
        go_wp2_with fail
        refine (H2.out _).mono ?_
        rintro e w1 ⟨rfl, rfl⟩
        go_wp2_with fail
        go_ret2
        first | exact ⟨rfl, rfl⟩ | (refine ⟨?_, rfl⟩; simp [go_sem]; omega)
    · rw [show min T ((n : Int) - 1) = T by omega]
      by_cases hL : T < 0
      · rw [if_pos hL, if_pos hL]
        go_enter Tryz.func91, Tryz.ntmps91
        go_wp2_with fail
        refine (H1.out _).mono ?_
        rintro e w1 ⟨rfl, rfl⟩
        go_wp2_with fail
        refine (H2.out _).mono ?_
        rintro e w1 ⟨rfl, rfl⟩
        go_wp2_with fail
        go_ret2
        first | exact ⟨rfl, rfl⟩ | (refine ⟨?_, rfl⟩; simp [go_sem]; omega)
      · rw [if_neg hL, if_neg hL]
        go_enter Tryz.func91, Tryz.ntmps91
        go_wp2_with fail
        refine (H1.out _).mono ?_
        rintro e w1 ⟨rfl, rfl⟩
        go_wp2_with fail
        refine (H2.out _).mono ?_
        rintro e w1 ⟨rfl, rfl⟩
        go_wp2_with fail
        go_ret2
        first | exact ⟨rfl, rfl⟩ | (refine ⟨?_, rfl⟩; simp [go_sem]; omega)
  · rw [show max F 0 = F by omega]
    rcases Int.lt_or_le ((n : Int) - 1) T with hT | hT
    · rw [show min T ((n : Int) - 1) = (n : Int) - 1 by omega]
      by_cases hL : (n : Int) - 1 < F
      · rw [if_pos hL, if_pos hL]
        go_enter Tryz.func91, Tryz.ntmps91
        go_wp2_with fail
        refine (H1.out _).mono ?_
        rintro e w1 ⟨rfl, rfl⟩
        go_wp2_with fail
        refine (H2.out _).mono ?_
        rintro e w1 ⟨rfl, rfl⟩
        go_wp2_with fail
        go_ret2
        first | exact ⟨rfl, rfl⟩ | (refine ⟨?_, rfl⟩; simp [go_sem]; omega)
      · rw [if_neg hL, if_neg hL, show (n : Int) - 1 + 1 = n by omega]
        go_enter Tryz.func91, Tryz.ntmps91
        go_wp2_with fail
        refine (H1.out _).mono ?_
        rintro e w1 ⟨rfl, rfl⟩
        go_wp2_with fail
        refine (H2.out _).mono ?_
        rintro e w1 ⟨rfl, rfl⟩
        go_wp2_with fail
        go_ret2
        first | exact ⟨rfl, rfl⟩ | (refine ⟨?_, rfl⟩; simp [go_sem]; omega)
    · rw [show min T ((n : Int) - 1) = T by omega]
      by_cases hL : T < F
      · rw [if_pos hL, if_pos hL]
        go_enter Tryz.func91, Tryz.ntmps91
        go_wp2_with fail
        refine (H1.out _).mono ?_
        rintro e w1 ⟨rfl, rfl⟩
        go_wp2_with fail
        refine (H2.out _).mono ?_
        rintro e w1 ⟨rfl, rfl⟩
        go_wp2_with fail
        go_ret2
        first | exact ⟨rfl, rfl⟩ | (refine ⟨?_, rfl⟩; simp [go_sem]; omega)
      · rw [if_neg hL, if_neg hL]
        go_enter Tryz.func91, Tryz.ntmps91
        go_wp2_with fail
        refine (H1.out _).mono ?_
        rintro e w1 ⟨rfl, rfl⟩
        go_wp2_with fail
        refine (H2.out _).mono ?_
        rintro e w1 ⟨rfl, rfl⟩
        go_wp2_with fail
        go_ret2
        first | exact ⟨rfl, rfl⟩ | (refine ⟨?_, rfl⟩; simp [go_sem]; omega)
end Go.Proofs.YtcidoodaiimhfaaGreat

/- WALKS of whether texts, and items, are the same. -/
namespace Go.Proofs.YtcidoodaiimhfaaGreat
open Go.RowKit

theorem below_drewN {B : Nat} {a w : World} (h : Below B a w) (n : Nat) : Below B a (w.drewN n) := ⟨h.os, h.tape, h.output, h.size, h.block⟩
theorem bytes_inj {a b : ByteArray} (h : a.toList = b.toList) : a = b := by
  rw [ByteArray.toList_eq, ByteArray.toList_eq] at h
  cases a; cases b
  congr 1
  exact Array.toList_inj.1 h

set_option maxRecDepth 100000 in
set_option maxHeartbeats 1000000 in
theorem sameT_any (a b : Option Addr) (c d : Nat) (xs ys : List ByteArray) (w : World) (hx : TextsAt w a xs) (hy : TextsAt w b ys) (hmax : ys.length ≤ 281474976710656) :
    Calls Tryz.prog 24 #[.slice a xs.length c, .slice b ys.length d] w fun e w' => e = .returned (.bool (decide (xs = ys))) ∧ Below w.heap.size w w' := by
  by_cases hl : xs.length = ys.length
  · have HX := hide hx
    have HY := hide hy
    clear hx hy
    rw [hl]
    go_enter Tryz.func24, Tryz.ntmps24
    have h0 : ((ys.length : Int) == ys.length) = true := by simp
    go_wp2_with fail
    go_loopw [5] (fun i wr => ∃ k : Nat, k ≤ ys.length ∧ i = .int .i64 k ∧ Below w.heap.size w wr ∧ Hid (xs.take k = ys.take k)) (fun i _ => ys.length - (intOf i).toNat)
    case atStart => exact ⟨0, Nat.zero_le _, rfl, Below.refl _ _, by simp [Hid]⟩
    case round =>
      obtain ⟨k, hk, rfl, hb, HE⟩ := hrel
      by_cases hlt : k < ys.length
      · have hltx : k < xs.length := by omega
        obtain ⟨g1, o1, rfl, hc1⟩ : ∃ g o, a = some ⟨g, o, none⟩ ∧ ∀ i (h : i < xs.length), w.cell? ⟨g, o + i, none⟩ = some (.string xs[i]) := by
          rcases HX.out with h | h
          · subst h; simp at hltx
          · exact h
        obtain ⟨g2, o2, rfl, hc2⟩ : ∃ g o, b = some ⟨g, o, none⟩ ∧ ∀ i (h : i < ys.length), w.cell? ⟨g, o + i, none⟩ = some (.string ys[i]) := by
          rcases HY.out with h | h
          · subst h; simp at hlt
          · exact h
        have HB : Hid (∀ g o v, w.cell? ⟨g, o, none⟩ = some v → wr.cell? ⟨g, o, none⟩ = some v) := fun g o _ hv => (hb.cell (p := ⟨g, o, none⟩) (World.block_lt_of_cell? _ _ hv)).trans hv
        have e1 : wr.cell? ⟨g1, o1 + k, none⟩ = some (.string xs[k]) := HB.out _ _ _ (hc1 k hltx)
        have e2 : wr.cell? ⟨g2, o2 + k, none⟩ = some (.string ys[k]) := HB.out _ _ _ (hc2 k hlt)
        have HT : Hid (xs[k] = ys[k] → xs.take (k + 1) = ys.take (k + 1)) := fun heq => by
          rw [List.take_succ_eq_append_getElem hltx, List.take_succ_eq_append_getElem hlt, HE.out, heq]
        have HF : Hid (xs[k] ≠ ys[k] → decide (xs = ys) = false) := fun hne => decide_eq_false (fun e => hne (by subst e; rfl))
        clear hc1 hc2 HX HY HB
        generalize xs[k] = X at *
        generalize ys[k] = Y at *
        by_cases hXY : X = Y
        · subst hXY
          have HT' := hide (HT.out rfl)
          clear HT HF
          go_wp2_with fail
          go_quiet (fail)
          have hb2 : Below w.heap.size w (wr.drewN nq) := below_drewN hb nq
          go_wp2_with fail
          go_roundw
          case rel => exact ⟨k + 1, by omega, by go_num, hb2, HT'⟩
          case measure => simp [intOf]; omega
        · have HF' := hide (HF.out hXY)
          have hne : (X.toList == Y.toList) = false := by rw [beq_eq_false_iff_ne]; exact fun e => hXY (bytes_inj e)
          clear HT HF
          go_wp2_with fail
          go_quiet (fail)
          have hb2 : Below w.heap.size w (wr.drewN nq) := below_drewN hb nq
          go_wp2_with fail
          go_ret
          rw [HF'.out]
          exact ⟨rfl, hb2⟩
      · have hd : Hid (decide (xs = ys) = true) := by
          have h1 := HE.out
          rw [List.take_of_length_le (by omega), List.take_of_length_le (by omega)] at h1
          exact decide_eq_true h1
        go_wp2_with fail
        go_ret
        rw [hd.out]
        exact ⟨rfl, hb⟩
  · have hd : decide (xs = ys) = false := decide_eq_false (fun e => hl (by rw [e]))
    have h0 : ((xs.length : Int) == ys.length) = false := by rw [beq_eq_false_iff_ne]; omega
    rw [hd]
    clear hx hy hd
    go_enter Tryz.func24, Tryz.ntmps24
    go_wp2_with fail
    go_ret
    exact ⟨rfl, Below.refl _ _⟩
end Go.Proofs.YtcidoodaiimhfaaGreat

/- WALK of whether items are the same. -/
namespace Go.Proofs.YtcidoodaiimhfaaGreat
open Go.RowKit

def sameI (x y : Itm) : Bool := decide (x.k = y.k ∧ x.t = y.t ∧ x.l = y.l ∧ x.p = y.p ∧ x.s = y.s)

set_option maxRecDepth 100000 in
set_option maxHeartbeats 4000000 in
theorem sameItem_any (v u : Value) (x y : Itm) (w : World) (hx : ItemIs w v x) (hy : ItemIs w u y) :
    Calls Tryz.prog 22 #[v, u] w fun e w' => e = .returned (.bool (sameI x y)) ∧ Below w.heap.size w w' := by
  obtain ⟨⟨al1, cl1, ap1, cp1, as1, cs1, rfl, L1, P1, S1⟩, -, -, -, -, ll1, pl1, sl1⟩ := hx
  obtain ⟨⟨al2, cl2, ap2, cp2, as2, cs2, rfl, L2, P2, S2⟩, -, -, -, -, ll2, pl2, sl2⟩ := hy
  obtain ⟨k1, t1, l1, p1, s1⟩ := x
  obtain ⟨k2, t2, l2, p2, s2⟩ := y
  simp only [sameI] at *
  have HS : Hid (∀ W, Below w.heap.size w W → Calls Tryz.prog 24 #[.slice al1 l1.length cl1, .slice al2 l2.length cl2] W fun e w' => e = .returned (.bool (decide (l1 = l2))) ∧ Below W.heap.size W w') := fun W hW => sameT_any _ _ _ _ _ _ W (L1.below hW) (L2.below hW) ll2
  clear L1 L2
  replace P1 := hide P1
  replace P2 := hide P2
  replace S1 := hide S1
  replace S2 := hide S2
  by_cases hk : k1 = k2
  rotate_left
  · have hk' : (k1 == k2) = false := by rw [beq_eq_false_iff_ne]; exact hk
    rw [decide_eq_false (show ¬ (k1 = k2 ∧ t1 = t2 ∧ l1 = l2 ∧ p1 = p2 ∧ s1 = s2) from fun h => hk h.1)]
    go_enter Tryz.func22, Tryz.ntmps22
    go_wp2_with fail
    go_ret
    exact ⟨rfl, ((Below.refl _ w).alloc (Nat.le_refl _) _).alloc (by simp) _⟩
  subst hk
  by_cases ht : t1 = t2
  rotate_left
  · have ht' : (t1.toList == t2.toList) = false := by rw [beq_eq_false_iff_ne]; exact fun e => ht (bytes_inj e)
    rw [decide_eq_false (show ¬ (k1 = k1 ∧ t1 = t2 ∧ l1 = l2 ∧ p1 = p2 ∧ s1 = s2) from fun h => ht h.2.1)]
    go_enter Tryz.func22, Tryz.ntmps22
    go_wp2_with fail
    go_ret
    exact ⟨rfl, ((Below.refl _ w).alloc (Nat.le_refl _) _).alloc (by simp) _⟩
  subst ht
  by_cases hl : l1 = l2
  rotate_left
  · rw [decide_eq_false hl] at HS
    rw [decide_eq_false (show ¬ (k1 = k1 ∧ t1 = t1 ∧ l1 = l2 ∧ p1 = p2 ∧ s1 = s2) from fun h => hl h.2.2.1)]
    go_enter Tryz.func22, Tryz.ntmps22
    go_wp2_with fail
    refine (HS.out _ (((Below.refl _ w).alloc (Nat.le_refl _) _).alloc (by simp) _)).mono ?_
    rintro e w1 ⟨rfl, hb1⟩
    obtain ⟨hc1, hf1⟩ := bcell hb1
    have hz1 : w.heap.size + 1 < w1.heap.size := by have := hb1.size; simp at this; omega
    have B1 : Below w.heap.size w w1 := (((Below.refl _ w).alloc (Nat.le_refl _) _).alloc (by simp) _).trans (hb1.mono (by simp; omega))
    go_wp2_with fail
    go_ret
    exact ⟨rfl, B1⟩
  subst hl
  rw [decide_eq_true (rfl : l1 = l1)] at HS
  by_cases hlp : p1.length = p2.length
  rotate_left
  · have hlp' : (((p1.length : Nat) : Int) == ((p2.length : Nat) : Int)) = false := by rw [beq_eq_false_iff_ne]; omega
    rw [decide_eq_false (show ¬ (k1 = k1 ∧ t1 = t1 ∧ l1 = l1 ∧ p1 = p2 ∧ s1 = s2) from fun h => hlp (by rw [h.2.2.2.1]))]
    go_enter Tryz.func22, Tryz.ntmps22
    go_wp2_with fail
    refine (HS.out _ (((Below.refl _ w).alloc (Nat.le_refl _) _).alloc (by simp) _)).mono ?_
    rintro e w1 ⟨rfl, hb1⟩
    obtain ⟨hc1, hf1⟩ := bcell hb1
    have hz1 : w.heap.size + 1 < w1.heap.size := by have := hb1.size; simp at this; omega
    have B1 : Below w.heap.size w w1 := (((Below.refl _ w).alloc (Nat.le_refl _) _).alloc (by simp) _).trans (hb1.mono (by simp; omega))
    go_wp2_with fail
    go_ret
    exact ⟨rfl, B1⟩
  by_cases hls : s1.length = s2.length
  rotate_left
  · have hls' : (((s1.length : Nat) : Int) == ((s2.length : Nat) : Int)) = false := by rw [beq_eq_false_iff_ne]; omega
    rw [hlp]
    rw [decide_eq_false (show ¬ (k1 = k1 ∧ t1 = t1 ∧ l1 = l1 ∧ p1 = p2 ∧ s1 = s2) from fun h => hls (by rw [h.2.2.2.2]))]
    go_enter Tryz.func22, Tryz.ntmps22
    go_wp2_with fail
    refine (HS.out _ (((Below.refl _ w).alloc (Nat.le_refl _) _).alloc (by simp) _)).mono ?_
    rintro e w1 ⟨rfl, hb1⟩
    obtain ⟨hc1, hf1⟩ := bcell hb1
    have hz1 : w.heap.size + 1 < w1.heap.size := by have := hb1.size; simp at this; omega
    have B1 : Below w.heap.size w w1 := (((Below.refl _ w).alloc (Nat.le_refl _) _).alloc (by simp) _).trans (hb1.mono (by simp; omega))
    go_wp2_with fail
    go_ret
    exact ⟨rfl, B1⟩
  rw [hlp, hls]
  generalize hR : decide (k1 = k1 ∧ t1 = t1 ∧ l1 = l1 ∧ p1 = p2 ∧ s1 = s2) = R
  have HR := hide hR
  clear hR
  go_enter Tryz.func22, Tryz.ntmps22
  go_wp2_with fail
  refine (HS.out _ (((Below.refl _ w).alloc (Nat.le_refl _) _).alloc (by simp) _)).mono ?_
  rintro e w1 ⟨rfl, hb1⟩
  obtain ⟨hc1, hf1⟩ := bcell hb1
  have hz1 : w.heap.size + 1 < w1.heap.size := by have := hb1.size; simp at this; omega
  have B1 : Below w.heap.size w w1 := (((Below.refl _ w).alloc (Nat.le_refl _) _).alloc (by simp) _).trans (hb1.mono (by simp; omega))
  go_wp2_with fail
  go_loopw [5] (fun i wr => ∃ k : Nat, k ≤ p2.length ∧ i = .int .i64 k ∧ Below w1.heap.size w1 wr ∧ Hid (p1.take k = p2.take k)) (fun i _ => p2.length - (intOf i).toNat)
  case atStart => exact ⟨0, Nat.zero_le _, rfl, Below.refl _ _, by simp [Hid]⟩
  case round =>
    obtain ⟨k, hk, rfl, hbrP, HE⟩ := hrel
    have q1 : wr.cell? ⟨w.heap.size, 3, none⟩ = some (.slice ap1 p2.length cp1) := ((hbrP.cell (p := ⟨w.heap.size, 3, none⟩) (by simp only; omega)).trans (hc1 _ _ (by simp; omega))).trans (by simp [go_sem])
    have q2 : wr.cell? ⟨w.heap.size + 1, 3, none⟩ = some (.slice ap2 p2.length cp2) := ((hbrP.cell (p := ⟨w.heap.size + 1, 3, none⟩) (by simp only; omega)).trans (hc1 _ _ (by simp))).trans (by simp [go_sem])
    have hBrP : Below w.heap.size w wr := B1.trans (hbrP.mono B1.size)
    by_cases hlt : k < p2.length
    · have hltx : k < p1.length := by omega
      obtain ⟨g1, o1, rfl, e1⟩ : ∃ g o, ap1 = some ⟨g, o, none⟩ ∧ ∀ i (h : i < p1.length), w.cell? ⟨g, o + i * 2, none⟩ = some (.string p1[i].1) ∧ w.cell? ⟨g, o + i * 2 + 1, none⟩ = some (.string p1[i].2) := by
        rcases P1.out with h | h
        · rw [h] at hltx; simp at hltx
        · exact h
      obtain ⟨g2, o2, rfl, e2⟩ : ∃ g o, ap2 = some ⟨g, o, none⟩ ∧ ∀ i (h : i < p2.length), w.cell? ⟨g, o + i * 2, none⟩ = some (.string p2[i].1) ∧ w.cell? ⟨g, o + i * 2 + 1, none⟩ = some (.string p2[i].2) := by
        rcases P2.out with h | h
        · rw [h] at hlt; simp at hlt
        · exact h
      have HB : Hid (∀ g o v, w.cell? ⟨g, o, none⟩ = some v → wr.cell? ⟨g, o, none⟩ = some v) := fun g o _ hv => (hBrP.cell (p := ⟨g, o, none⟩) (World.block_lt_of_cell? _ _ hv)).trans hv
      have x1 : wr.cell? ⟨g1, o1 + k * 2, none⟩ = some (.string p1[k].1) := HB.out _ _ _ (e1 k hltx).1
      have x2 : wr.cell? ⟨g1, o1 + k * 2 + 1, none⟩ = some (.string p1[k].2) := HB.out _ _ _ (e1 k hltx).2
      have y1 : wr.cell? ⟨g2, o2 + k * 2, none⟩ = some (.string p2[k].1) := HB.out _ _ _ (e2 k hlt).1
      have y2 : wr.cell? ⟨g2, o2 + k * 2 + 1, none⟩ = some (.string p2[k].2) := HB.out _ _ _ (e2 k hlt).2
      have HT : Hid (p1[k] = p2[k] → p1.take (k + 1) = p2.take (k + 1)) := fun heq => by
        rw [List.take_succ_eq_append_getElem hltx, List.take_succ_eq_append_getElem hlt, HE.out, heq]
      have HF : Hid (p1[k] ≠ p2[k] → p1 ≠ p2) := fun hne e => hne (by subst e; rfl)
      clear e1 e2 HB HS 
      generalize p1[k] = X at *
      generalize p2[k] = Y at *
      obtain ⟨X1, X2⟩ := X
      obtain ⟨Y1, Y2⟩ := Y
      by_cases hX1 : X1 = Y1
      · subst hX1
        by_cases hX2 : X2 = Y2
        · subst hX2
          have HT' := hide (HT.out rfl)
          clear HT HF
          go_wp2_with fail
          go_quiet (fail)
          have hb2 : Below w1.heap.size w1 (wr.drewN nq) := below_drewN hbrP nq
          go_wp2_with fail
          go_roundw
          case rel => exact ⟨k + 1, by omega, by go_num, hb2, HT'⟩
          case measure => simp [intOf]; omega
        · have HF' := hide (HF.out (fun e => hX2 (by injection e)))
          have hne : (X2.toList == Y2.toList) = false := by rw [beq_eq_false_iff_ne]; exact fun e => hX2 (bytes_inj e)
          clear HT HF
          go_wp2_with fail
          go_quiet (fail)
          have hb2 : Below w.heap.size w (wr.drewN nq) := below_drewN hBrP nq
          go_wp2_with fail
          go_ret
          rw [show R = false by rw [← HR.out]; exact decide_eq_false (fun h => HF'.out h.2.2.2.1)]
          exact ⟨rfl, hb2⟩
      · have HF' := hide (HF.out (fun e => hX1 (by injection e)))
        have hne : (X1.toList == Y1.toList) = false := by rw [beq_eq_false_iff_ne]; exact fun e => hX1 (bytes_inj e)
        clear HT HF
        go_wp2_with fail
        go_quiet (fail)
        have hb2 : Below w.heap.size w (wr.drewN nq) := below_drewN hBrP nq
        go_wp2_with fail
        go_ret
        rw [show R = false by rw [← HR.out]; exact decide_eq_false (fun h => HF'.out h.2.2.2.1)]
        exact ⟨rfl, hb2⟩
    · have HQP : Hid (p1 = p2) := by
        have h1 := HE.out
        rw [List.take_of_length_le (by omega), List.take_of_length_le (by omega)] at h1
        exact h1
      go_wp2_with fail
      go_loopw [6] (fun i wr => ∃ k : Nat, k ≤ s2.length ∧ i = .int .i64 k ∧ Below w1.heap.size w1 wr ∧ Hid (s1.take k = s2.take k)) (fun i _ => s2.length - (intOf i).toNat)
      case atStart => exact ⟨0, Nat.zero_le _, rfl, hbrP, by simp [Hid]⟩
      case round =>
        obtain ⟨k, hk, rfl, hbrS, HE⟩ := hrel
        have q1 : wr.cell? ⟨w.heap.size, 4, none⟩ = some (.slice as1 s2.length cs1) := ((hbrS.cell (p := ⟨w.heap.size, 4, none⟩) (by simp only; omega)).trans (hc1 _ _ (by simp; omega))).trans (by simp [go_sem])
        have q2 : wr.cell? ⟨w.heap.size + 1, 4, none⟩ = some (.slice as2 s2.length cs2) := ((hbrS.cell (p := ⟨w.heap.size + 1, 4, none⟩) (by simp only; omega)).trans (hc1 _ _ (by simp))).trans (by simp [go_sem])
        have hBrS : Below w.heap.size w wr := B1.trans (hbrS.mono B1.size)
        by_cases hlt : k < s2.length
        · have hltx : k < s1.length := by omega
          obtain ⟨g1, o1, rfl, e1⟩ : ∃ g o, as1 = some ⟨g, o, none⟩ ∧ ∀ i (h : i < s1.length), w.cell? ⟨g, o + i * 2, none⟩ = some (.int .i64 s1[i].1) ∧ w.cell? ⟨g, o + i * 2 + 1, none⟩ = some (.string s1[i].2) := by
            rcases S1.out with h | h
            · rw [h] at hltx; simp at hltx
            · exact h
          obtain ⟨g2, o2, rfl, e2⟩ : ∃ g o, as2 = some ⟨g, o, none⟩ ∧ ∀ i (h : i < s2.length), w.cell? ⟨g, o + i * 2, none⟩ = some (.int .i64 s2[i].1) ∧ w.cell? ⟨g, o + i * 2 + 1, none⟩ = some (.string s2[i].2) := by
            rcases S2.out with h | h
            · rw [h] at hlt; simp at hlt
            · exact h
          have HB : Hid (∀ g o v, w.cell? ⟨g, o, none⟩ = some v → wr.cell? ⟨g, o, none⟩ = some v) := fun g o _ hv => (hBrS.cell (p := ⟨g, o, none⟩) (World.block_lt_of_cell? _ _ hv)).trans hv
          have x1 : wr.cell? ⟨g1, o1 + k * 2, none⟩ = some (.int .i64 s1[k].1) := HB.out _ _ _ (e1 k hltx).1
          have x2 : wr.cell? ⟨g1, o1 + k * 2 + 1, none⟩ = some (.string s1[k].2) := HB.out _ _ _ (e1 k hltx).2
          have y1 : wr.cell? ⟨g2, o2 + k * 2, none⟩ = some (.int .i64 s2[k].1) := HB.out _ _ _ (e2 k hlt).1
          have y2 : wr.cell? ⟨g2, o2 + k * 2 + 1, none⟩ = some (.string s2[k].2) := HB.out _ _ _ (e2 k hlt).2
          have HT : Hid (s1[k] = s2[k] → s1.take (k + 1) = s2.take (k + 1)) := fun heq => by
            rw [List.take_succ_eq_append_getElem hltx, List.take_succ_eq_append_getElem hlt, HE.out, heq]
          have HF : Hid (s1[k] ≠ s2[k] → s1 ≠ s2) := fun hne e => hne (by subst e; rfl)
          clear e1 e2 HB HS 
          generalize s1[k] = X at *
          generalize s2[k] = Y at *
          obtain ⟨X1, X2⟩ := X
          obtain ⟨Y1, Y2⟩ := Y
          by_cases hX1 : X1 = Y1
          · subst hX1
            by_cases hX2 : X2 = Y2
            · subst hX2
              have HT' := hide (HT.out rfl)
              clear HT HF
              go_wp2_with fail
              go_quiet (fail)
              have hb2 : Below w1.heap.size w1 (wr.drewN nq) := below_drewN hbrS nq
              go_wp2_with fail
              go_roundw
              case rel => exact ⟨k + 1, by omega, by go_num, hb2, HT'⟩
              case measure => simp [intOf]; omega
            · have HF' := hide (HF.out (fun e => hX2 (by injection e)))
              have hne : (X2.toList == Y2.toList) = false := by rw [beq_eq_false_iff_ne]; exact fun e => hX2 (bytes_inj e)
              clear HT HF
              go_wp2_with fail
              go_quiet (fail)
              have hb2 : Below w.heap.size w (wr.drewN nq) := below_drewN hBrS nq
              go_wp2_with fail
              go_ret
              rw [show R = false by rw [← HR.out]; exact decide_eq_false (fun h => HF'.out h.2.2.2.2)]
              exact ⟨rfl, hb2⟩
          · have HF' := hide (HF.out (fun e => hX1 (by injection e)))
            have hne : (X1 == Y1) = false := by rw [beq_eq_false_iff_ne]; exact fun e => hX1 e
            clear HT HF
            go_wp2_with fail
            go_quiet (fail)
            have hb2 : Below w.heap.size w (wr.drewN nq) := below_drewN hBrS nq
            go_wp2_with fail
            go_ret
            rw [show R = false by rw [← HR.out]; exact decide_eq_false (fun h => HF'.out h.2.2.2.2)]
            exact ⟨rfl, hb2⟩
        · have HQS : Hid (s1 = s2) := by
            have h1 := HE.out
            rw [List.take_of_length_le (by omega), List.take_of_length_le (by omega)] at h1
            exact h1
          go_wp2_with fail
          go_ret
          rw [show R = true by rw [← HR.out]; exact decide_eq_true ⟨by trivial, by trivial, by trivial, HQP.out, HQS.out⟩]
          exact ⟨rfl, hBrS⟩
end Go.Proofs.YtcidoodaiimhfaaGreat

/- Nothing, as it lies in memory. -/
namespace Go.Proofs.YtcidoodaiimhfaaGreat
open Go.RowKit

theorem sameI_refl (x : Itm) : sameI x x = true := by simp [sameI]
theorem zero_is (w : World) : ItemIs w (.agg #[.int .i64 0, .string ⟨#[]⟩, .slice none 0 0, .slice none 0 0, .slice none 0 0]) Itm.none :=
  ⟨⟨none, 0, none, 0, none, 0, rfl, .inl rfl, .inl rfl, .inl rfl⟩, (show (0 : Nat) ≤ maxLen by simp), by simp [Itm.none], by simp [Itm.none], by simp [Itm.none], by simp [Itm.none], by simp [Itm.none], by simp [Itm.none]⟩
end Go.Proofs.YtcidoodaiimhfaaGreat

/- Memory of its own: from a block on, and open to be written. -/
namespace Go.Proofs.YtcidoodaiimhfaaGreat
open Go.RowKit

theorem five_apart (w : World) (b : Nat) (v0 v1 v2 v3 v4 : Value) (g o : Nat) (hg : g ≠ b) : (((((w.setCell ⟨b, 0, none⟩ v0).setCell ⟨b, 1, none⟩ v1).setCell ⟨b, 2, none⟩ v2).setCell ⟨b, 3, none⟩ v3).setCell ⟨b, 4, none⟩ v4).cell? ⟨g, o, none⟩ = w.cell? ⟨g, o, none⟩ := by
  rw [World.cell?_setCell_other _ _ _ _ (by intro e; injection e with e1; omega), World.cell?_setCell_other _ _ _ _ (by intro e; injection e with e1; omega), World.cell?_setCell_other _ _ _ _ (by intro e; injection e with e1; omega), World.cell?_setCell_other _ _ _ _ (by intro e; injection e with e1; omega), World.cell?_setCell_other _ _ _ _ (by intro e; injection e with e1; omega)]
/-- an item whose memory lies from block B on -/
def ItemFrom (B : Nat) (w : World) (v : Value) (x : Itm) : Prop := ∀ w', (∀ g o u, B ≤ g → w.cell? ⟨g, o, none⟩ = some u → w'.cell? ⟨g, o, none⟩ = some u) → ItemIs w' v x
theorem ItemFrom.is {B : Nat} {w : World} {v : Value} {x : Itm} (h : ItemFrom B w v x) : ItemIs w v x := h w (fun _ _ _ _ hu => hu)
theorem ItemFrom.moved {B : Nat} {w w' : World} {v : Value} {x : Itm} (h : ItemFrom B w v x) (hw : ∀ g o u, B ≤ g → w.cell? ⟨g, o, none⟩ = some u → w'.cell? ⟨g, o, none⟩ = some u) : ItemFrom B w' v x := fun w'' h2 => h w'' (fun g o u hg hu => h2 g o u hg (hw g o u hg hu))
theorem ItemFrom.low {B C : Nat} {w : World} {v : Value} {x : Itm} (h : ItemFrom B w v x) (hC : C ≤ B) : ItemFrom C w v x := fun w' hw => h w' (fun g o u hg hu => hw g o u (Nat.le_trans hC hg) hu)
theorem wrap_small (a : Int) (h1 : -9223372036854775808 ≤ a) (h2 : a ≤ 9223372036854775807) : IntKind.i64.wrap a = a := by
  simp only [IntKind.wrap, IntKind.bits, IntKind.signed]
  first | omega | (simp; omega)
/-- .. where what may not be written to may change, too: so none of it lies there -/
def ItemOwn (B : Nat) (w : World) (v : Value) (x : Itm) : Prop := ∀ w', (∀ g o u, B ≤ g → w.cell? ⟨g, o, none⟩ = some u → w.frozen? ⟨g, o, none⟩ = false → w'.cell? ⟨g, o, none⟩ = some u) → ItemIs w' v x
theorem ItemOwn.from {B : Nat} {w : World} {v : Value} {x : Itm} (h : ItemOwn B w v x) : ItemFrom B w v x := fun w' hw => h w' (fun g o u hg hu _ => hw g o u hg hu)
theorem ItemOwn.is {B : Nat} {w : World} {v : Value} {x : Itm} (h : ItemOwn B w v x) : ItemIs w v x := h.from.is
theorem ItemOwn.low {B C : Nat} {w : World} {v : Value} {x : Itm} (h : ItemOwn B w v x) (hC : C ≤ B) : ItemOwn C w v x := fun w' hw => h w' (fun g o u hg hu hf => hw g o u (Nat.le_trans hC hg) hu hf)
/-- texts, likewise -/
def TextsOwn (B : Nat) (w : World) (a : Option Addr) (l : List ByteArray) : Prop := ∀ w', (∀ g o u, B ≤ g → w.cell? ⟨g, o, none⟩ = some u → w.frozen? ⟨g, o, none⟩ = false → w'.cell? ⟨g, o, none⟩ = some u) → TextsAt w' a l
theorem TextsOwn.at {B : Nat} {w : World} {a : Option Addr} {l : List ByteArray} (h : TextsOwn B w a l) : TextsAt w a l := h w (fun _ _ _ _ hu _ => hu)
theorem ItemOwn.texts {B : Nat} {w : World} {k : Int} {t : ByteArray} {a1 a2 a3 : Option Addr} {n1 n2 n3 c1 c2 c3 : Nat} {x : Itm} (h : ItemOwn B w (.agg #[.int .i64 k, .string t, .slice a1 n1 c1, .slice a2 n2 c2, .slice a3 n3 c3]) x) : TextsOwn B w a1 x.l := fun w' hw => by
  obtain ⟨⟨b1, d1, b2, d2, b3, d3, e, h1, -, -⟩, -⟩ := h w' hw
  simp only [Value.agg.injEq, Array.mk.injEq, List.cons.injEq, Value.slice.injEq] at e
  rw [e.2.2.1.1]
  exact h1
end Go.Proofs.YtcidoodaiimhfaaGreat

/- WALKS of what elements stay. -/
namespace Go.Proofs.YtcidoodaiimhfaaGreat
open Go.RowKit

theorem infoStr : (Tryz.prog.info? 9).map (fun i => (i.zero, i.size, i.bytes)) = some (some (.string ⟨#[]⟩), 1, 16) := by kernel_rfl
/-- a list as an item: nothing, if it has no elements -/
def lstI (l : List ByteArray) : Itm := if l = [] then Itm.none else ⟨2, ⟨#[]⟩, l, [], []⟩
def strs (l : List ByteArray) : List Value := l.map Value.string
/-- those of the first k that stay -/
def keptTo (goes : Nat → ByteArray → Bool) (l : List ByteArray) (k : Nat) : List ByteArray := ((List.range k).filter fun i => !goes i l[i]!).map fun i => l[i]!
theorem keptTo_go {goes : Nat → ByteArray → Bool} {l : List ByteArray} {k : Nat} (hk : k < l.length) (h : goes k l[k] = true) : keptTo goes l (k + 1) = keptTo goes l k := by
  unfold keptTo
  rw [List.range_succ, List.filter_append, List.map_append]
  simp [hk, h]
theorem keptTo_stay {goes : Nat → ByteArray → Bool} {l : List ByteArray} {k : Nat} (hk : k < l.length) (h : goes k l[k] = false) : keptTo goes l (k + 1) = keptTo goes l k ++ [l[k]] := by
  unfold keptTo
  rw [List.range_succ, List.filter_append, List.map_append]
  simp [hk, h]
theorem keptTo_len (goes : Nat → ByteArray → Bool) (l : List ByteArray) (k : Nat) : (keptTo goes l k).length ≤ k := by
  unfold keptTo
  rw [List.length_map]
  have := List.length_filter_le (fun i => !goes i l[i]!) (List.range k)
  simpa using this
theorem keptTo_mem {goes : Nat → ByteArray → Bool} {l : List ByteArray} {k : Nat} (hk : k ≤ l.length) : ∀ t ∈ keptTo goes l k, t ∈ l := by
  intro t ht
  unfold keptTo at ht
  obtain ⟨i, hi, rfl⟩ := List.mem_map.1 ht
  have := List.mem_range.1 (List.mem_filter.1 hi).1
  rw [getElem!_pos l i (by omega)]
  exact List.getElem_mem _
/-- texts of a row of one's own -/
theorem texts_own {w : World} {base : Nat} {a : Option Addr} {cap : Nat} {xs : List ByteArray} (h : w.ownsRow base 9 1 (.slice a xs.length cap) xs.length (strs xs)) : TextsAt w a xs := by
  rcases h.2 with ⟨hv, h0⟩ | ⟨g, cp, cur, hv, _⟩
  · exact .inl (List.eq_nil_of_length_eq_zero h0)
  · injection hv with h1 h2 h3
    subst h1
    refine .inr ⟨g, 0, rfl, fun i hi => ?_⟩
    have := h.cellAt i (by omega)
    rw [Nat.zero_add, this]
    simp [strs, hi]
theorem texts_apart {w w' : World} {base b : Nat} {a : Option Addr} {cap : Nat} {xs : List ByteArray} (h : w.ownsRow base 9 1 (.slice a xs.length cap) xs.length (strs xs)) (hb : b < base) (hw : ∀ g o, g ≠ b → w'.cell? ⟨g, o, none⟩ = w.cell? ⟨g, o, none⟩) : TextsAt w' a xs := by
  rcases h.2 with ⟨hv, h0⟩ | ⟨g, cp, cur, hv, hg, _⟩
  · exact .inl (List.eq_nil_of_length_eq_zero h0)
  · injection hv with h1 h2 h3
    subst h1
    refine .inr ⟨g, 0, rfl, fun i hi => ?_⟩
    have := h.cellAt i (by omega)
    rw [hw _ _ (by omega), Nat.zero_add, this]
    simp [strs, hi]
theorem texts_from {w w' : World} {base : Nat} {a : Option Addr} {cap : Nat} {xs : List ByteArray} (h : w.ownsRow base 9 1 (.slice a xs.length cap) xs.length (strs xs)) (hw : ∀ g o u, base ≤ g → w.cell? ⟨g, o, none⟩ = some u → w'.cell? ⟨g, o, none⟩ = some u) : TextsAt w' a xs := by
  rcases h.2 with ⟨hv, h0⟩ | ⟨g, cp, cur, hv, hg, _⟩
  · exact .inl (List.eq_nil_of_length_eq_zero h0)
  · injection hv with h1 h2 h3
    subst h1
    refine .inr ⟨g, 0, rfl, fun i hi => ?_⟩
    have := h.cellAt i (by omega)
    refine hw _ _ _ hg ?_
    rw [Nat.zero_add, this]
    simp [strs, hi]
theorem texts_ownF {w w' : World} {base : Nat} {a : Option Addr} {cap : Nat} {xs : List ByteArray} (h : w.ownsRow base 9 1 (.slice a xs.length cap) xs.length (strs xs)) (hw : ∀ g o u, base ≤ g → w.cell? ⟨g, o, none⟩ = some u → w.frozen? ⟨g, o, none⟩ = false → w'.cell? ⟨g, o, none⟩ = some u) : TextsAt w' a xs := by
  rcases h.2 with ⟨hv, h0⟩ | ⟨g, cp, cur, hv, hg, hh, _⟩
  · exact .inl (List.eq_nil_of_length_eq_zero h0)
  · injection hv with h1 h2 h3
    subst h1
    refine .inr ⟨g, 0, rfl, fun i hi => ?_⟩
    have := h.cellAt i (by omega)
    refine hw _ _ _ hg ?_ (by simp [World.frozen?, hh])
    rw [Nat.zero_add, this]
    simp [strs, hi]
theorem slice_own {w : World} {b e s : Nat} {v : Value} {n : Nat} {xs : List Value} (h : w.ownsRow b e s v n xs) : ∃ ao cp, v = .slice ao n cp := by
  rcases h.2 with ⟨rfl, rfl⟩ | ⟨g, cap, cur, rfl, _⟩
  · exact ⟨none, 0, rfl⟩
  · exact ⟨_, _, rfl⟩
theorem lstI_is {w : World} {a : Option Addr} {cap : Nat} {l : List ByteArray} (h : TextsAt w a l) (hne : l ≠ []) (hz : ∀ t ∈ l, t.size ≤ maxLen) (hl : l.length ≤ 281474976710656) : ItemIs w (.agg #[.int .i64 2, .string ⟨#[]⟩, .slice a l.length cap, .slice none 0 0, .slice none 0 0]) (lstI l) := by
  rw [lstI, if_neg hne]
  exact ⟨⟨a, cap, none, 0, none, 0, rfl, h, .inl rfl, .inl rfl⟩, (show (0 : Nat) ≤ maxLen by simp), hz, by simp, by simp, hl, by simp, by simp⟩

theorem popAt_any (b at_ i : Nat) (t : ByteArray) (w : World) (h : w.cell? ⟨b, 0, none⟩ = some (.int .i64 at_)) : Calls Tryz.prog 90 #[.int .i64 i, .string t, .pointer (some ⟨b, 0, none⟩)] w fun e w' => e = .returned (.bool (decide (i = at_))) ∧ w' = w := by
  have hd : (((i : Nat) : Int) == ((at_ : Nat) : Int)) = decide (i = at_) := by rw [Bool.eq_iff_iff]; simp; omega
  go_enter Tryz.func90, Tryz.ntmps90
  go_wp2_with fail
  go_ret
  rw [← hd]
  exact ⟨rfl, rfl⟩

set_option maxRecDepth 100000 in
set_option maxHeartbeats 2000000 in
theorem withoutP_any (b at_ : Nat) (a : Option Addr) (cap : Nat) (l : List ByteArray) (w : World) (hs : TextsAt w a l) (hn : l.length ≤ 1000) (hz : ∀ t ∈ l, t.size ≤ maxLen) (hc : w.cell? ⟨b, 0, none⟩ = some (.int .i64 at_)) :
    Calls Tryz.prog 89 #[.slice a l.length cap, .func (.func 90) #[] #[.pointer (some ⟨b, 0, none⟩)]] w fun e w' => ∃ v, e = .returned v ∧ ItemOwn w.heap.size w' v (lstI (keptTo (fun i _ => decide (i = at_)) l l.length)) ∧ Below w.heap.size w w' := by
  obtain ⟨i0, hi, hz0, hz1, hz2⟩ := info_parts infoStr
  have HS := hide hs
  have HZ := hide hz
  clear hs hz
  go_enter Tryz.func89, Tryz.ntmps89
  go_wp2_with fail
  generalize hW0 : World.alloc w _ = W0
  have q0 : W0.cell? ⟨w.heap.size, 0, none⟩ = some (.int .i64 0) := by rw [← hW0]; simp [go_sem]
  have q1 : W0.cell? ⟨w.heap.size, 1, none⟩ = some (.string ⟨#[]⟩) := by rw [← hW0]; simp [go_sem]
  have q2 : W0.cell? ⟨w.heap.size, 2, none⟩ = some (.slice none 0 0) := by rw [← hW0]; simp [go_sem]
  have q3 : W0.cell? ⟨w.heap.size, 3, none⟩ = some (.slice none 0 0) := by rw [← hW0]; simp [go_sem]
  have q4 : W0.cell? ⟨w.heap.size, 4, none⟩ = some (.slice none 0 0) := by rw [← hW0]; simp [go_sem]
  have f0 : W0.frozen? ⟨w.heap.size, 0, none⟩ = false := by rw [← hW0]; simp [go_sem]
  have f1 : W0.frozen? ⟨w.heap.size, 1, none⟩ = false := by rw [← hW0]; simp [go_sem]
  have f2 : W0.frozen? ⟨w.heap.size, 2, none⟩ = false := by rw [← hW0]; simp [go_sem]
  have f3 : W0.frozen? ⟨w.heap.size, 3, none⟩ = false := by rw [← hW0]; simp [go_sem]
  have f4 : W0.frozen? ⟨w.heap.size, 4, none⟩ = false := by rw [← hW0]; simp [go_sem]
  have zW : W0.heap.size = w.heap.size + 1 := by rw [← hW0]; simp
  have BW : Below w.heap.size w W0 := by rw [← hW0]; exact (Below.refl _ _).alloc (Nat.le_refl _) _
  clear hW0
  have Q0 := hide q0
  have Q1 := hide q1
  have Q2 := hide q2
  have Q3 := hide q3
  have Q4 := hide q4
  have F0 := hide f0
  have F1 := hide f1
  have F2 := hide f2
  have F3 := hide f3
  have F4 := hide f4
  clear q0 q1 q2 q3 q4 f0 f1 f2 f3 f4
  go_loopw [5, 10] (fun v i wr => ∃ k : Nat, k ≤ l.length ∧ i = .int .i64 k ∧ wr.ownsRow (w.heap.size + 1) 9 1 v (keptTo (fun i _ => decide (i = at_)) l k).length (strs (keptTo (fun i _ => decide (i = at_)) l k)) ∧ Below (w.heap.size + 1) W0 wr) (fun _ i _ => l.length - (intOf i).toNat)
  case atStart => exact ⟨0, Nat.zero_le _, rfl, World.ownsRow_nil _ _ _ _, Below.refl _ _⟩
  case round =>
    obtain ⟨k, hk, rfl, hown, hbr⟩ := hrel
    have hsz := hbr.size
    have BR : Below w.heap.size w wr := BW.trans (hbr.mono (by omega))
    have HB : Hid (∀ g o v, w.cell? ⟨g, o, none⟩ = some v → wr.cell? ⟨g, o, none⟩ = some v) := fun g o _ hv => (BR.cell (p := ⟨g, o, none⟩) (World.block_lt_of_cell? _ _ hv)).trans hv
    by_cases hlt : k < l.length
    · have hlt' : ((k : Nat) : Int) < ((l.length : Nat) : Int) := by omega
      obtain ⟨g, o, rfl, hcs⟩ : ∃ g o, a = some ⟨g, o, none⟩ ∧ ∀ i (h : i < l.length), w.cell? ⟨g, o + i, none⟩ = some (.string l[i]) := by
        rcases HS.out with h | h
        · subst h; simp at hlt
        · exact h
      have d0 : wr.cell? ⟨g, o + k, none⟩ = some (.string l[k]) := HB.out _ _ _ (hcs k hlt)
      have hc1 : wr.cell? ⟨b, 0, none⟩ = some (.int .i64 at_) := HB.out _ _ _ hc
      have HC := hide (popAt_any b at_ k l[k] wr hc1)
      have hkl := keptTo_len (fun i _ => decide (i = at_)) l k
      cases hx : (fun i _ => decide (i = at_)) k l[k] with
      | true =>
        have HY := hide (keptTo_go (goes := fun i _ => decide (i = at_)) hlt hx)
        have HX := hide hx
        clear hcs HS HZ hx HB
        go_wp2_with fail
        refine HC.out.mono ?_
        rintro e w1 ⟨rfl, rfl⟩
        rw [HX.out]
        go_wp2_with fail
        go_roundw
        case rel => exact ⟨k + 1, by omega, by go_num, by rw [HY.out]; exact hown, hbr⟩
        case measure => simp [intOf]; omega
      | false =>
        have HY := hide (keptTo_stay (goes := fun i _ => decide (i = at_)) hlt hx)
        have HX := hide hx
        clear hcs HS HZ hx HB
        generalize l[k] = X at *
        go_wp2_with fail
        refine HC.out.mono ?_
        rintro e w1 ⟨rfl, rfl⟩
        rw [HX.out]
        go_wp2_with (at_builtin; refine wpList_append_own _ rfl _ _ 24 rfl (w.heap.size + 1) 9 i0 (.string ⟨#[]⟩) 1 16 Tryz.underlying24 hi hz0 hz1 hz2 rfl (by decide) _ _ _ rfl (hown.alloc _) ⟨w1.heap.size, 0, none⟩ 1 1 [.string X] rfl rfl ?c1 ?c2 ?c3 ?c4 ?c5 ?_)
        case c1 =>
          intro j u hj
          match j, hj with
          | 0, hj => simp at hj; subst hj; simp [Addr.add]
        case c2 => intro u hu; simp at hu; subst hu; rfl
        case c3 => unfold maxLen; omega
        case c4 => omega
        case c5 => simp; omega
        intro v' w4 hown4 hgrow _
        have hb4 : Below (w.heap.size + 1) W0 w4 := (hbr.alloc (by omega) _).grown hgrow (by simp; omega) (fun j hj => (hown.lt j hj).1)
        have hown5 : w4.ownsRow (w.heap.size + 1) 9 1 v' (keptTo (fun i _ => decide (i = at_)) l (k + 1)).length (strs (keptTo (fun i _ => decide (i = at_)) l (k + 1))) := by
          rw [HY.out]
          simpa [strs] using hown4
        go_wp2_with fail
        go_roundw
        case rel => exact ⟨k + 1, by omega, by go_num, hown5, hb4⟩
        case measure => simp [intOf]; omega
    · have hge : ¬ ((k : Nat) : Int) < ((l.length : Nat) : Int) := by omega
      obtain rfl : k = l.length := by omega
      have q0 := (hbr.cell (p := ⟨w.heap.size, 0, none⟩) (by simp)).trans Q0.out
      have q1 := (hbr.cell (p := ⟨w.heap.size, 1, none⟩) (by simp)).trans Q1.out
      have q2 := (hbr.cell (p := ⟨w.heap.size, 2, none⟩) (by simp)).trans Q2.out
      have q3 := (hbr.cell (p := ⟨w.heap.size, 3, none⟩) (by simp)).trans Q3.out
      have q4 := (hbr.cell (p := ⟨w.heap.size, 4, none⟩) (by simp)).trans Q4.out
      have f0 := (hbr.frozen (p := ⟨w.heap.size, 0, none⟩) (by simp)).trans F0.out
      have f1 := (hbr.frozen (p := ⟨w.heap.size, 1, none⟩) (by simp)).trans F1.out
      have f2 := (hbr.frozen (p := ⟨w.heap.size, 2, none⟩) (by simp)).trans F2.out
      have f3 := (hbr.frozen (p := ⟨w.heap.size, 3, none⟩) (by simp)).trans F3.out
      have f4 := (hbr.frozen (p := ⟨w.heap.size, 4, none⟩) (by simp)).trans F4.out
      have hkl := keptTo_len (fun i _ => decide (i = at_)) l l.length
      have HM : Hid (∀ t ∈ keptTo (fun i _ => decide (i = at_)) l l.length, t.size ≤ maxLen) := fun t ht => HZ.out t (keptTo_mem (Nat.le_refl _) t ht)
      clear HS HZ HB Q0 Q1 Q2 Q3 Q4 F0 F1 F2 F3 F4
      generalize hK : keptTo (fun i _ => decide (i = at_)) l l.length = K at *
      have HK := hide hK
      clear hK
      obtain ⟨ao, cp, rfl⟩ := slice_own hown
      by_cases h0 : K = []
      · subst h0
        clear hown
        go_wp2_with fail
        refine bodyPost_ret (v := .agg #[.int .i64 0, .string ⟨#[]⟩, .slice none 0 0, .slice none 0 0, .slice none 0 0]) (by simp [results, Tryz.results89, go_sem, q0, q1, q2, q3, q4]) rfl ⟨_, rfl, ?_, ?_⟩
        · rw [HK.out, lstI, if_pos rfl]; exact fun w'' _ => zero_is w''
        · go_grown
      · have hKl : K.length ≠ 0 := fun e => h0 (List.eq_nil_of_length_eq_zero e)
        have hKb : (((K.length : Nat) : Int) == 0) = false := by rw [beq_eq_false_iff_ne]; omega
        have HT : Hid (∀ w', (∀ g o u, w.heap.size + 1 ≤ g → wr.cell? ⟨g, o, none⟩ = some u → wr.frozen? ⟨g, o, none⟩ = false → w'.cell? ⟨g, o, none⟩ = some u) → TextsAt w' ao K) := fun w' hw => texts_ownF hown hw
        clear hown
        have HNE := hide h0
        clear h0
        generalize hLL : K.length = n at *
        go_wp2_with fail
        refine bodyPost_ret (v := .agg #[.int .i64 2, .string ⟨#[]⟩, .slice ao n cp, .slice none 0 0, .slice none 0 0]) (by simp [results, Tryz.results89, go_sem, q0, q1, q2, q3, q4]) rfl ⟨_, rfl, ?_, ?_⟩
        · subst hLL
          rw [HK.out]
          exact fun w'' hw => lstI_is (HT.out w'' (fun g o u hg hu hf => hw g o u (by omega) ((five_apart _ _ _ _ _ _ _ g o (by omega)).trans hu) (by simpa using hf))) HNE.out HM.out (by omega)
        · go_grown
end Go.Proofs.YtcidoodaiimhfaaGreat

/- Appending texts; Grow, Concat of two. -/
namespace Go.Proofs.YtcidoodaiimhfaaGreat
open Go.RowKit

theorem run_append_none (P : Program) (w : World) (base : Nat) (t ty e : TypeId) (i : TypeInfo) (size : Nat) (ht : P.underlying t = some (.slice e)) (hi : P.info? e = some i)
    (v : Value) (n : Nat) (xs : List Value) (hown : w.ownsRow base e size v n xs) (c : Nat) :
    (Builtin.append_ #[t, t] ty #[v, .slice none 0 c]).run P w = .ok v w := by
  rcases hown.2 with ⟨rfl, rfl⟩ | ⟨g, cap, cur, rfl, _, _, hnc, _⟩
  · simp [Builtin.append_, run_underlying ht, sizeOf, typeInfo, hi, Builtin.lenOf, Builtin.firstCells]
  · simp [Builtin.append_, run_underlying ht, sizeOf, typeInfo, hi, Builtin.lenOf, Builtin.firstCells, hnc, storeCells]
theorem strs_one (l : List ByteArray) : ∀ u ∈ strs l, u.oneCell' = true := by
  intro u hu
  obtain ⟨t, _, rfl⟩ := List.mem_map.1 hu
  rfl
theorem texts_news {w : World} {g o : Nat} {l : List ByteArray} (h : ∀ i (hi : i < l.length), w.cell? ⟨g, o + i, none⟩ = some (.string l[i])) : ∀ j u, (strs l)[j]? = some u → w.cell? ((⟨g, o, none⟩ : Addr).add j) = some u := by
  intro j u hj
  have hjl : j < l.length := by
    have := (List.getElem?_eq_some_iff.1 hj).1
    simpa [strs] using this
  have e : (⟨g, o, none⟩ : Addr).add j = ⟨g, o + j, none⟩ := by
    unfold Addr.add
    split
    · rename_i h; subst h; rfl
    · rfl
  rw [e, h j hjl, ← hj]
  simp [strs, hjl]
/-- append of texts to a row of one's own -/
theorem wpList_append_texts {w : World} {ops : Array Oper} {rest : List Oper} {o : Oper} {a : Act} {Q : Exit → Act → World → Prop}
    (hg : o.guard = none) (s x : Operand) (hop : o.op = .call { callee := .builtin .append, args := #[s, x], argTypes := #[24, 24] })
    (base : Nat) (v : Value) (n : Nat) (xs : List Value) (hs : a.eval s = v) (hown : w.ownsRow base 9 1 v n xs)
    (ad : Option Addr) (c : Nat) (l : List ByteArray) (hx : a.eval x = .slice ad l.length c) (hl : TextsAt w ad l) (h63 : n + l.length ≤ 2000000) (hbase : base ≤ w.heap.size)
    (hK : ∀ v' w', w'.ownsRow base 9 1 v' (n + l.length) (xs ++ strs l) → w.grownBy w' v.ownBlock → wpList Tryz.prog ops Q rest (a.put o.dst v') w') :
    wpList Tryz.prog ops Q (o :: rest) a w := by
  obtain ⟨i0, hi, hz0, hz1, hz2⟩ := info_parts infoStr
  refine wpList_plain hg fun K' hK' => ?_
  cases ad with
  | none =>
    obtain rfl : l = [] := by
      rcases hl with h | ⟨g, o, h, _⟩
      · exact h
      · cases h
    have hr := run_append_none Tryz.prog w base 24 o.type 9 i0 1 Tryz.underlying24 hi v n xs hown c
    unfold Oper.wp execOp
    simp only [hop, resolve, invoke, builtin, Sem.run_bind, Sem.run_pure, Result.andThen_ok, List.map_toArray, List.map_cons, List.map_nil, hs, hx, List.length_nil, hr]
    exact hK' _ _ (hK v w (by simpa [strs] using hown) (World.grownBy.refl _ _))
  | some ad =>
    refine wp_append_own (P := Tryz.prog) w s x 24 hop base 9 i0 (.string ⟨#[]⟩) 1 16 Tryz.underlying24 hi hz0 hz1 hz2 rfl (by decide) v n xs hs hown ad l.length c (strs l) hx (by simp [strs]) ?_ (strs_one l) (by unfold maxLen; omega) (by omega) hbase ?_
    · rcases hl with h | ⟨g, o, h, hc⟩
      · subst h
        intro j u hj
        simp [strs] at hj
      · injection h with h
        subst h
        exact texts_news hc
    · intro v' w' h1 h2 _
      exact hK' _ _ (hK v' w' h1 h2)

/-- append of so many noughts to nothing -/
theorem wpList_append_zeros {w : World} {ops : Array Oper} {rest : List Oper} {o : Oper} {a : Act} {Q : Exit → Act → World → Prop}
    (hg : o.guard = none) (s x : Operand) (hop : o.op = .call { callee := .builtin .append, args := #[s, x], argTypes := #[24, 3] })
    (n : Nat) (hs : a.eval s = .slice none 0 0) (hx : a.eval x = .int .i64 n) (h0 : 0 < n) (hn : n ≤ 2000000)
    (hK : ∀ w' cap, n ≤ cap → w'.ownsRow w.heap.size 9 1 (.slice (some ⟨w.heap.size, 0, none⟩) 0 cap) 0 [] → Below w.heap.size w w' → wpList Tryz.prog ops Q rest (a.put o.dst (.slice (some ⟨w.heap.size, 0, none⟩) n cap)) w') :
    wpList Tryz.prog ops Q (o :: rest) a w := by
  obtain ⟨i0, hi, hz0, hz1, hz2⟩ := info_parts infoStr
  refine wpList_plain hg fun K' hK' => ?_
  have hr := Lib.run_append_nil_zeros (P := Tryz.prog) w 24 3 o.type 9 i0 (.string ⟨#[]⟩) .i64 .i64 Tryz.underlying24 Tryz.underlying3 hi hz0 n h0 (by omega) (by omega) (by rw [hz2]; omega)
  unfold Oper.wp execOp
  simp only [hop, resolve, invoke, builtin, Sem.run_bind, Sem.run_pure, Result.andThen_ok, List.map_toArray, List.map_cons, List.map_nil, hs, hx, hr]
  have hge := grownCap_ge w n 0 9
  have hle := grownCap_le_maxLen w n 0 9 (by unfold maxLen; omega)
  generalize grownCap w n 0 9 = cap at *
  refine hK' _ _ (hK _ cap hge ?_ ((Below.refl _ _).drew.alloc (Nat.le_refl _) _))
  have := World.ownsRow_made (base := w.heap.size) (e := 9) (size := 1) w.drew (Builtin.zeroCells (Value.string ⟨#[]⟩).cells n ++ Builtin.zeroCells (Value.string ⟨#[]⟩).cells (cap - n)) cap (Nat.le_refl _) hle (by
    rw [Array.size_append, size_zeroCells, size_zeroCells]
    have : (Value.string ⟨#[]⟩).cells.size = 1 := rfl
    rw [this]
    omega)
  exact this

set_option maxRecDepth 100000 in
set_option maxHeartbeats 1000000 in
theorem grow_any (n : Nat) (w : World) (h0 : 0 < n) (hn : n ≤ 2000000) : Calls Tryz.prog 156 #[.slice none 0 0, .int .i64 n] w fun e w' => ∃ cap, e = .returned (.slice (some ⟨w.heap.size, 0, none⟩) 0 cap) ∧ w'.ownsRow w.heap.size 9 1 (.slice (some ⟨w.heap.size, 0, none⟩) 0 cap) 0 [] ∧ Below w.heap.size w w' := by
  have h1 : ¬ ((n : Nat) : Int) < 0 := by omega
  have h2 : (0 : Int) < ((n : Nat) : Int) := by omega
  go_enter Tryz.func156, Tryz.ntmps156
  go_wp2_with (at_builtin; refine wpList_append_zeros rfl _ _ rfl n rfl rfl h0 hn ?_)
  intro w' cap hcap hown hb
  have hc0 : (0 : Int) ≤ ((cap : Nat) : Int) := by omega
  go_wp2_with fail
  go_ret
  exact ⟨cap, rfl, hown, hb⟩

set_option maxRecDepth 100000 in
set_option maxHeartbeats 2000000 in
theorem concat_any (g : Nat) (a1 a2 : Option Addr) (c1 c2 : Nat) (l1 l2 : List ByteArray) (w : World) (h0 : w.cell? ⟨g, 0, none⟩ = some (.slice a1 l1.length c1)) (h1 : w.cell? ⟨g, 1, none⟩ = some (.slice a2 l2.length c2))
    (hl1 : TextsAt w a1 l1) (hl2 : TextsAt w a2 l2) (hpos : 0 < l1.length + l2.length) (hn : l1.length + l2.length ≤ 2000000) :
    Calls Tryz.prog 94 #[.slice (some ⟨g, 0, none⟩) 2 2] w fun e w' => ∃ v, e = .returned v ∧ w'.ownsRow w.heap.size 9 1 v (l1 ++ l2).length (strs (l1 ++ l2)) ∧ Below w.heap.size w w' := by
  have hgl : g < w.heap.size := World.block_lt_of_cell? _ _ h0
  have H1 := hide hl1
  have H2 := hide hl2
  clear hl1 hl2
  have HG : Hid (Calls Tryz.prog 156 #[.slice none 0 0, .int .i64 (((l1.length : Nat) : Int) + ((l2.length : Nat) : Int))] w fun e w' => ∃ cap, e = .returned (.slice (some ⟨w.heap.size, 0, none⟩) 0 cap) ∧ w'.ownsRow w.heap.size 9 1 (.slice (some ⟨w.heap.size, 0, none⟩) 0 cap) 0 [] ∧ Below w.heap.size w w') := by
    have hh := grow_any (l1.length + l2.length) w hpos hn
    rw [Int.natCast_add] at hh
    exact hh
  have n1 : ¬ ((l1.length : Nat) : Int) < 0 := by omega
  have n2 : ¬ ((l1.length : Nat) : Int) + ((l2.length : Nat) : Int) < 0 := by omega
  go_enter Tryz.func94, Tryz.ntmps94
  go_wp2_with fail
  refine wp_loop_rounds 3 ?_
  rw [rounds_succ]
  go_wp2_with fail
  rw [rounds_succ]
  go_wp2_with fail
  rw [rounds_succ]
  go_wp2_with fail
  refine HG.out.mono ?_
  rintro e w1 ⟨cap, rfl, hown1, hb1⟩
  have e0 : w1.cell? ⟨g, 0, none⟩ = some (.slice a1 l1.length c1) := (hb1.cell (p := ⟨g, 0, none⟩) hgl).trans h0
  have e1 : w1.cell? ⟨g, 1, none⟩ = some (.slice a2 l2.length c2) := (hb1.cell (p := ⟨g, 1, none⟩) hgl).trans h1
  have hz1 := hb1.size
  go_wp2_with fail
  refine wp_loop_rounds 3 ?_
  rw [rounds_succ]
  go_wp2_with (at_builtin; refine wpList_append_texts rfl _ _ rfl w.heap.size _ 0 [] rfl hown1 a1 c1 l1 rfl (H1.out.below hb1) (by omega) hz1 ?_)
  intro v2 w2 hown2 hg2
  have hb2 : Below w.heap.size w w2 := hb1.grown hg2 hz1 (fun j hj => (hown1.lt j hj).1)
  have hz2 := hb2.size
  have k0 : w2.cell? ⟨g, 0, none⟩ = some (.slice a1 l1.length c1) := (hb2.cell (p := ⟨g, 0, none⟩) hgl).trans h0
  have k1 : w2.cell? ⟨g, 1, none⟩ = some (.slice a2 l2.length c2) := (hb2.cell (p := ⟨g, 1, none⟩) hgl).trans h1
  go_wp2_with fail
  rw [rounds_succ]
  go_wp2_with (at_builtin; refine wpList_append_texts rfl _ _ rfl w.heap.size _ _ _ rfl hown2 a2 c2 l2 rfl (H2.out.below hb2) (by omega) hz2 ?_)
  intro v3 w3 hown3 hg3
  have hb3 : Below w.heap.size w w3 := hb2.grown hg3 hz2 (fun j hj => (hown2.lt j hj).1)
  go_wp2_with fail
  rw [rounds_succ]
  go_wp2_with fail
  go_ret
  refine ⟨v3, rfl, ?_, hb3⟩
  simpa [strs] using hown3
end Go.Proofs.YtcidoodaiimhfaaGreat

/- Library contracts, laid at this program. -/
namespace Go.Proofs
open Go.Shelf
def Tryz.laysNm217_ren : Go.Shelf.Ren := ⟨fun | 17 => 154 | n => n, fun | 24 => 24 | 9 => 9 | 3 => 3 | 4 => 4 | 0 => 0 | n => n, fun | n => n⟩
theorem Tryz.laysNm217 : Go.Proofs.Lays2.n17 Tryz.prog Tryz.laysNm217_ren := {
  mixed := by kernel_rfl
  f17 := Tryz.func154.trans (congrArg some (by kernel_rfl))
  t0 := Tryz.underlying0
  a0 := Tryz.isAgg0
  z0 := Tryz.sizeOf0
  v0 := Tryz.zeroValue0
  t3 := Tryz.underlying3
  a3 := Tryz.isAgg3
  z3 := Tryz.sizeOf3
  v3 := Tryz.zeroValue3
  t4 := Tryz.underlying4
  a4 := Tryz.isAgg4
  z4 := Tryz.sizeOf4
  v4 := Tryz.zeroValue4
  t9 := Tryz.underlying9
  a9 := Tryz.isAgg9
  z9 := Tryz.sizeOf9
  v9 := Tryz.zeroValue9
  t24 := Tryz.underlying24
  a24 := Tryz.isAgg24
  z24 := Tryz.sizeOf24
  v24 := Tryz.zeroValue24 }
def Tryz.laysNm216_ren : Go.Shelf.Ren := ⟨fun | 16 => 99 | n => n, fun | 24 => 24 | 9 => 9 | 4 => 4 | n => n, fun | n => n⟩
theorem Tryz.laysNm216 : Go.Proofs.Lays2.n16 Tryz.prog Tryz.laysNm216_ren := {
  mixed := by kernel_rfl
  f16 := Tryz.func99.trans (congrArg some (by kernel_rfl))
  t4 := Tryz.underlying4
  a4 := Tryz.isAgg4
  z4 := Tryz.sizeOf4
  v4 := Tryz.zeroValue4
  t9 := Tryz.underlying9
  a9 := Tryz.isAgg9
  z9 := Tryz.sizeOf9
  v9 := Tryz.zeroValue9
  t24 := Tryz.underlying24
  a24 := Tryz.isAgg24
  z24 := Tryz.sizeOf24
  v24 := Tryz.zeroValue24
  i9 := by kernel_rfl }
open Go.RowKit Go.Lib in
theorem Tryz.slices_Clone_string (b off n c : Nat) (zs : List ByteArray) (w : World) (hz : n ≤ zs.length) (hbig : n * 16 ≤ 140737488355328) (hc : ∀ j, j < zs.length → w.cell? ⟨b, off + j, none⟩ = some (.string (zs.getD j ByteArray.empty))) :
    Calls Tryz.prog 99 #[.slice (some ⟨b, off, none⟩) n c] w fun e w' => ∃ v', e = .returned v' ∧ w'.ownsRow w.heap.size 9 1 v' n ((zs.take n).map (Value.string)) ∧ v' ≠ .slice none 0 0 ∧ Below w.heap.size w w' := Any.slices_Clone_string Tryz.laysNm216 b off n c zs w hz hbig hc
open Go.RowKit Go.Lib in
theorem Tryz.slices_Clone_string_nil (n c : Nat) (w : World) :
    Calls Tryz.prog 99 #[.slice none n c] w fun e w' => e = .returned (.slice none 0 0) ∧ w' = w := Any.slices_Clone_string_nil Tryz.laysNm216 n c w
open Go.RowKit Go.Lib in
theorem Tryz.slices_Clone_string_zero (a : Addr) (c : Nat) (w : World) :
    Calls Tryz.prog 99 #[.slice (some a) 0 c] w fun e w' => ∃ v', e = .returned v' ∧ w'.ownsRow w.heap.size 9 1 v' 0 [] ∧ v' ≠ .slice none 0 0 ∧ Below w.heap.size w w' := Any.slices_Clone_string_zero Tryz.laysNm216 a c w
open Go.RowKit Go.Lib Go.Sort in
theorem Tryz.slices_Reverse_string_cells (b off n c : Nat) (Sx : Nat → ByteArray) (w : World) (hbig : n ≤ 9223372036854775807) (hc : ∀ i, i < n → w.cell? ⟨b, off + i, none⟩ = some (.string (Sx i))) (hf : ∀ j, j < n → w.frozen? ⟨b, off + j, none⟩ = false) :
    Calls Tryz.prog 154 #[.slice (some ⟨b, off, none⟩) n c] w fun e w' => e = .returned (.tuple #[]) ∧ ∃ q, w' = (w.drewN q).setCells b off ((Lib.strsOf Sx n).reverse.map encStr) := Any.slices_Reverse_string_cells Tryz.laysNm217 b off n c Sx w hbig hc hf
end Go.Proofs

/- WALK of together. -/
namespace Go.Proofs.YtcidoodaiimhfaaGreat
open Go.RowKit Go.Lib Go.Sort

theorem below_setCells {B : Nat} {a : World} (b : Nat) (hb : B ≤ b) : ∀ (vs : List Value) (o : Nat) (w : World), Below B a w → Below B a (w.setCells b o vs)
  | [], _, _, h => h
  | v :: vs, o, w, h => below_setCells b hb vs (o + 1) (w.setCell ⟨b, o, none⟩ v) (h.setCell (p := ⟨b, o, none⟩) hb v)
theorem rev_list (l : List ByteArray) : (Lib.strsOf (fun i => l.getD i ByteArray.empty) l.length).reverse.map encStr = strs l.reverse := by
  have e : Lib.strsOf (fun i => l.getD i ByteArray.empty) l.length = l.map (fun t => t.data.toList) := by
    unfold Lib.strsOf
    apply List.ext_getElem
    · simp
    · intro i h1 h2
      simp at h1 h2
      simp [h1]
  rw [e, ← List.map_reverse, List.map_map, strs]
  congr 1
/-- the clone, turned round -/
theorem turned_any (a : Option Addr) (c : Nat) (l : List ByteArray) (w : World) (hl : TextsAt w a l) (hne : l ≠ []) (hn : l.length ≤ 1000) :
    Calls Tryz.prog 99 #[.slice a l.length c] w fun e w' => ∃ g cap, e = .returned (.slice (some ⟨g, 0, none⟩) l.length cap) ∧ w.heap.size ≤ g ∧ Below w.heap.size w w' ∧
      ∀ W, Below w'.heap.size w' W → Calls Tryz.prog 154 #[.slice (some ⟨g, 0, none⟩) l.length cap] W fun e w'' => e = .returned (.tuple #[]) ∧ TextsAt w'' (some ⟨g, 0, none⟩) l.reverse ∧ Below w.heap.size W w'' := by
  obtain ⟨g0, o0, rfl, hc⟩ : ∃ g o, a = some ⟨g, o, none⟩ ∧ ∀ i (h : i < l.length), w.cell? ⟨g, o + i, none⟩ = some (.string l[i]) := by
    rcases hl with h | h
    · exact absurd h hne
    · exact h
  refine (Tryz.slices_Clone_string g0 o0 l.length c l w (Nat.le_refl _) (by omega) (fun j hj => by rw [hc j hj]; simp [hj])).mono ?_
  rintro e w' ⟨v', rfl, hown, hnn, hb⟩
  rw [List.take_length] at hown
  rcases hown.2 with ⟨hv, _⟩ | ⟨g, cap, cur, rfl, hbg, hgg, rest⟩
  · exact absurd hv hnn
  · refine ⟨g, cap, rfl, hbg, hb, fun W hW => ?_⟩
    have hgl : g < w'.heap.size := (hown.lt g rfl).2
    have hcs : ∀ i, i < l.length → W.cell? ⟨g, 0 + i, none⟩ = some (.string (l.getD i ByteArray.empty)) := fun i hi => by
      have h1 := (hW.cell (p := ⟨g, i, none⟩) hgl).trans (hown.cellAt i (by omega))
      rw [Nat.zero_add, h1]
      simp [hi]
    refine (Tryz.slices_Reverse_string_cells g 0 l.length cap (fun i => l.getD i ByteArray.empty) W (by omega) hcs (fun j hj => by rw [Nat.zero_add]; exact (hW.frozen (p := ⟨g, j, none⟩) hgl).trans (hown.frozenAt j))).mono ?_
    rintro e w'' ⟨rfl, q, rfl⟩
    refine ⟨rfl, ?_, ?_⟩
    · rw [rev_list]
      refine .inr ⟨g, 0, rfl, fun i hi => ?_⟩
      have hl2 : (strs l.reverse).length = l.length := by simp [strs]
      have := World.cell?_setCells_in g (strs l.reverse) 0 (W.drewN q) (fun j hj => by
        have h3 := hcs j (by omega)
        show (W.cell? ⟨g, 0 + j, none⟩).isSome = true
        rw [h3]
        rfl) i (by simp at hi; omega)
      rw [this]
      simp [strs]
    · have hd : Below w.heap.size W (W.drewN q) := ⟨rfl, rfl, rfl, Nat.le_refl _, fun _ _ => rfl⟩
      exact below_setCells g hbg _ 0 _ hd

theorem own_low {w : World} {b1 b2 e s : Nat} {v : Value} {n : Nat} {xs : List Value} (h : w.ownsRow b1 e s v n xs) (hb : b2 ≤ b1) : w.ownsRow b2 e s v n xs := by
  refine ⟨h.1, ?_⟩
  rcases h.2 with hn | ⟨g, cap, cur, hv, hbg, rest⟩
  · exact .inl hn
  · exact .inr ⟨g, cap, cur, hv, Nat.le_trans hb hbg, rest⟩
def pushL (there : List ByteArray) (left : Bool) (l : List ByteArray) : List ByteArray := if left then l.reverse ++ there else there ++ l
set_option maxRecDepth 100000 in
set_option maxHeartbeats 1000000 in
theorem together_any (a1 a2 : Option Addr) (c1 c2 : Nat) (there l : List ByteArray) (left : Bool) (w : World) (h1 : TextsAt w a1 there) (h2 : TextsAt w a2 l) (hne : l ≠ []) (hn : there.length + l.length ≤ 1000) :
    Calls Tryz.prog 88 #[.slice a1 there.length c1, .bool left, .slice a2 l.length c2] w fun e w' => ∃ v, e = .returned v ∧ w'.ownsRow w.heap.size 9 1 v (pushL there left l).length (strs (pushL there left l)) ∧ Below w.heap.size w w' := by
  have hlp : 0 < l.length := List.length_pos_iff.2 hne
  cases left with
  | false =>
    have H1 := hide h1
    have H2 := hide h2
    clear h1 h2
    go_enter Tryz.func88, Tryz.ntmps88
    go_wp2_with fail
    refine (concat_any w.heap.size a1 a2 c1 c2 there l _ (by simp [go_sem]) (by simp [go_sem]) (H1.out.below ((Below.refl _ _).alloc (Nat.le_refl _) _)) (H2.out.below ((Below.refl _ _).alloc (Nat.le_refl _) _)) (by omega) (by omega)).mono ?_
    rintro e w1 ⟨v, rfl, hown, hb⟩
    go_wp2_with fail
    go_ret
    refine ⟨v, rfl, ?_, ((Below.refl _ w).alloc (Nat.le_refl _) _).trans (hb.mono (by simp))⟩
    simp only [pushL, Bool.false_eq_true, if_false]
    exact own_low hown (by simp)
  | true =>
    have HT := hide (turned_any a2 c2 l w h2 hne (by omega))
    have H1 := hide h1
    clear h1 h2
    go_enter Tryz.func88, Tryz.ntmps88
    go_wp2_with fail
    refine HT.out.mono ?_
    rintro e w1 ⟨g, cap, rfl, hg, hb1, HR⟩
    have HRR := hide (HR w1 (Below.refl _ _))
    clear HR
    go_wp2_with fail
    refine HRR.out.mono ?_
    rintro e w2 ⟨rfl, ht2, hb2⟩
    have B2 : Below w.heap.size w w2 := hb1.trans hb2
    have HT2 := hide ht2
    clear ht2
    go_wp2_with fail
    have hz2 := B2.size
    refine (concat_any w2.heap.size (some ⟨g, 0, none⟩) a1 cap c1 l.reverse there _ (by simp [go_sem]) (by simp [go_sem]) (HT2.out.below ((Below.refl _ _).alloc (Nat.le_refl _) _)) (H1.out.below (B2.alloc B2.size _)) (by simp; omega) (by simp; omega)).mono ?_
    rintro e w3 ⟨v, rfl, hown, hb⟩
    go_wp2_with fail
    go_ret
    refine ⟨v, rfl, ?_, (B2.alloc B2.size _).trans (hb.mono (by simp; omega))⟩
    simp only [pushL, if_true]
    exact own_low hown (by simp; omega)
end Go.Proofs.YtcidoodaiimhfaaGreat

/- WALKS of the reference's small functions: between, IsInt. -/
namespace Go.Proofs.YtcidoodaiimhfaaGreat
open Go.RowKit

set_option maxRecDepth 100000 in
set_option maxHeartbeats 1000000 in
theorem between_any (n lo hi : Int) (w : World) :
    Calls Tryz.prog 64 #[.int .i64 n, .int .i64 lo, .int .i64 hi] w fun e w' => e = .returned (.bool (decide (lo ≤ n ∧ n ≤ hi))) ∧ w' = w := by
  by_cases h1 : lo ≤ n
  · by_cases h2 : n ≤ hi
    · rw [decide_eq_true (⟨h1, h2⟩ : lo ≤ n ∧ n ≤ hi)]
      go_enter Tryz.func64, Tryz.ntmps64
      go_wp2
      go_ret
      exact ⟨rfl, rfl⟩
    · rw [decide_eq_false (fun h : lo ≤ n ∧ n ≤ hi => h2 h.2)]
      go_enter Tryz.func64, Tryz.ntmps64
      go_wp2
      go_ret
      exact ⟨rfl, rfl⟩
  · rw [decide_eq_false (fun h : lo ≤ n ∧ n ≤ hi => h1 h.1)]
    go_enter Tryz.func64, Tryz.ntmps64
    go_wp2
    go_ret
    exact ⟨rfl, rfl⟩

set_option maxRecDepth 100000 in
set_option maxHeartbeats 1000000 in
theorem isInt_any (n : Int) (w : World) :
    Calls Tryz.prog 66 #[.int .i64 n] w fun e w' => e = .returned (.bool (decide (-999999999 ≤ n ∧ n ≤ 999999999))) ∧ w' = w := by
  go_enter Tryz.func66, Tryz.ntmps66
  go_wp2_with (go_at_call 64; refine (between_any _ _ _ _).mono ?_; rintro e w' ⟨rfl, rfl⟩)
  go_ret
  refine ⟨?_, rfl⟩
  rw [Bool.decide_and]
  rfl

theorem bt (lo n hi : Int) (w : World) (h : lo ≤ n) (h' : n ≤ hi) : Calls Tryz.prog 64 #[.int .i64 n, .int .i64 lo, .int .i64 hi] w fun e w' => e = .returned (.bool true) ∧ w' = w := by
  have := between_any n lo hi w
  rw [decide_eq_true (⟨h, h'⟩ : lo ≤ n ∧ n ≤ hi)] at this
  exact this
theorem bf (lo n hi : Int) (w : World) (h : n < lo ∨ hi < n) : Calls Tryz.prog 64 #[.int .i64 n, .int .i64 lo, .int .i64 hi] w fun e w' => e = .returned (.bool false) ∧ w' = w := by
  have := between_any n lo hi w
  rw [decide_eq_false (show ¬ (lo ≤ n ∧ n ≤ hi) by omega)] at this
  exact this
end Go.Proofs.YtcidoodaiimhfaaGreat

/- WALKS of the reference's order of texts and of scores. -/
namespace Go.Proofs.YtcidoodaiimhfaaGreat
open Go.RowKit

theorem below_drewN' {B : Nat} {a w : World} (h : Below B a w) (n : Nat) : Below B a (w.drewN n) := ⟨h.os, h.tape, h.output, h.size, h.block⟩
theorem drewN_add' (w : World) (a b : Nat) : (w.drewN a).drewN b = w.drewN (a + b) := by
  simp [World.drewN, Nat.add_assoc]
theorem get_data (s : ByteArray) (k : Nat) (h : k < s.size) : s.data.toList.drop k = s[k] :: s.data.toList.drop (k + 1) := by
  rw [List.drop_eq_getElem_cons (by rw [size_list]; exact h)]
  rfl

set_option maxRecDepth 100000 in
set_option maxHeartbeats 1000000 in
theorem textOrder_any (a b : ByteArray) (w : World) (ha : a.size ≤ maxLen) :
    Calls Tryz.prog 65 #[.string a, .string b] w fun e w' => e = .returned (.int .i64 (cmpT a b)) ∧ ∃ q, w' = w.drewN q := by
  unfold maxLen at ha
  go_enter Tryz.func65, Tryz.ntmps65
  go_wp2_with fail
  go_loopw [5] (fun i wr => ∃ k : Nat, k ≤ a.size ∧ k ≤ b.size ∧ i = .int .i64 k ∧ (∃ q, wr = w.drewN q) ∧ Hid (cmpT a b = Lib.compareBytes (a.data.toList.drop k) (b.data.toList.drop k))) (fun i _ => a.size - (intOf i).toNat)
  case atStart => exact ⟨0, Nat.zero_le _, Nat.zero_le _, rfl, ⟨0, rfl⟩, rfl⟩
  case round =>
    obtain ⟨k, hk, hkb, rfl, ⟨q0, rfl⟩, HC⟩ := hrel
    by_cases hlt : k < a.size
    · by_cases hltb : k < b.size
      · have HS : Hid (cmpT a b = if a[k] < b[k] then -1 else if b[k] < a[k] then 1 else Lib.compareBytes (a.data.toList.drop (k + 1)) (b.data.toList.drop (k + 1))) := by
          rw [Hid, HC.out, get_data a k hlt, get_data b k hltb, Lib.compareBytes]
        have hi1 : ((k : Nat) : Int) < ((a.size : Nat) : Int) := by omega
        have hi2 : ((k : Nat) : Int) < ((b.size : Nat) : Int) := by omega
        rcases Nat.lt_trichotomy a[k].toNat b[k].toNat with hc | hc | hc
        · have HR : Hid (cmpT a b = -1) := by rw [Hid, HS.out, if_pos (UInt8.lt_iff_toNat_lt.2 hc)]
          have hc' : ((a[k].toNat : Nat) : Int) < ((b[k].toNat : Nat) : Int) := by omega
          clear HS HC
          go_wp2_with fail
          go_quiet (fail)
          go_wp2_with fail
          go_ret
          rw [HR.out]
          exact ⟨rfl, _, by first | rfl | exact drewN_add' _ _ _ | (rw [drewN_add', drewN_add'])⟩
        · have HR : Hid (cmpT a b = Lib.compareBytes (a.data.toList.drop (k + 1)) (b.data.toList.drop (k + 1))) := by
            rw [Hid, HS.out, if_neg (by rw [UInt8.lt_iff_toNat_lt]; omega), if_neg (by rw [UInt8.lt_iff_toNat_lt]; omega)]
          have hc1 : decide (((a[k].toNat : Nat) : Int) < ((b[k].toNat : Nat) : Int)) = false := decide_eq_false (by omega)
          have hc2 : decide (((b[k].toNat : Nat) : Int) < ((a[k].toNat : Nat) : Int)) = false := decide_eq_false (by omega)
          have hc3 : ¬ ((a[k].toNat : Nat) : Int) < ((b[k].toNat : Nat) : Int) := by omega
          have hc4 : ¬ ((b[k].toNat : Nat) : Int) < ((a[k].toNat : Nat) : Int) := by omega
          clear HS HC hc
          go_wp2_with fail
          go_quiet (fail)
          go_wp2_with fail
          go_quiet (fail)
          go_wp2_with fail
          go_roundw
          case rel => exact ⟨k + 1, by omega, by omega, by go_num, ⟨_, rfl⟩, HR⟩
          case measure => simp [intOf]; omega
        · have HR : Hid (cmpT a b = 1) := by rw [Hid, HS.out, if_neg (by rw [UInt8.lt_iff_toNat_lt]; omega), if_pos (UInt8.lt_iff_toNat_lt.2 hc)]
          have hc1 : ¬ ((a[k].toNat : Nat) : Int) < ((b[k].toNat : Nat) : Int) := by omega
          have hc' : ((b[k].toNat : Nat) : Int) < ((a[k].toNat : Nat) : Int) := by omega
          clear HS HC
          go_wp2_with fail
          go_quiet (fail)
          go_wp2_with fail
          go_quiet (fail)
          go_wp2_with fail
          go_ret
          rw [HR.out]
          exact ⟨rfl, _, by first | rfl | exact drewN_add' _ _ _ | (rw [drewN_add', drewN_add'])⟩
      · have hkb' : k = b.size := by omega
        have HR : Hid (cmpT a b = 1) := by
          rw [Hid, HC.out, get_data a k hlt, List.drop_of_length_le (l := b.data.toList) (by rw [size_list]; omega), Lib.compareBytes]
        have h1 : ¬ ((k : Nat) : Int) < ((b.size : Nat) : Int) := by omega
        have h2 : ((b.size : Nat) : Int) < ((a.size : Nat) : Int) := by omega
        have h3 : ¬ ((a.size : Nat) : Int) < ((b.size : Nat) : Int) := by omega
        clear hkb' HC
        go_wp2_with fail
        go_ret
        rw [HR.out]
        exact ⟨rfl, q0, rfl⟩
    · have hka' : k = a.size := by omega
      rcases Nat.lt_or_eq_of_le (show a.size ≤ b.size by omega) with hl | hl
      · have HR : Hid (cmpT a b = -1) := by
          rw [Hid, HC.out, get_data b k (by omega), List.drop_of_length_le (l := a.data.toList) (by rw [size_list]; omega), Lib.compareBytes]
        have h1 : ¬ ((k : Nat) : Int) < ((a.size : Nat) : Int) := by omega
        have h2 : ((a.size : Nat) : Int) < ((b.size : Nat) : Int) := by omega
        clear hka' HC
        go_wp2_with fail
        go_ret
        rw [HR.out]
        exact ⟨rfl, q0, rfl⟩
      · have HR : Hid (cmpT a b = 0) := by
          rw [Hid, HC.out, List.drop_of_length_le (l := a.data.toList) (by rw [size_list]; omega), List.drop_of_length_le (l := b.data.toList) (by rw [size_list]; omega), Lib.compareBytes]
        have h1 : ¬ ((k : Nat) : Int) < ((a.size : Nat) : Int) := by omega
        have h2 : ¬ ((a.size : Nat) : Int) < ((b.size : Nat) : Int) := by omega
        have h3 : ¬ ((b.size : Nat) : Int) < ((a.size : Nat) : Int) := by omega
        clear hka' HC hl
        go_wp2_with fail
        go_ret
        rw [HR.out]
        exact ⟨rfl, q0, rfl⟩

theorem textOrder_below (a b : ByteArray) (w : World) (ha : a.size ≤ maxLen) :
    Calls Tryz.prog 65 #[.string a, .string b] w fun e w' => e = .returned (.int .i64 (cmpT a b)) ∧ Below w.heap.size w w' :=
  (textOrder_any a b w ha).mono fun _ _ ⟨h1, q, h2⟩ => ⟨h1, by subst h2; exact below_drewN' (Below.refl _ _) q⟩
theorem cmpS_less (a b : Int × ByteArray) : decide (cmpS a b < 0) = (decide (a.1 < b.1) || (decide (a.1 = b.1) && decide (cmpT a.2 b.2 < 0))) := by
  unfold cmpS
  by_cases h1 : a.1 < b.1
  · simp [h1]
  · by_cases h2 : b.1 < a.1
    · have : ¬ a.1 = b.1 := by omega
      simp [h1, h2, this]
    · have : a.1 = b.1 := by omega
      simp [this]
set_option maxRecDepth 100000 in
set_option maxHeartbeats 1000000 in
theorem scoreLess_any (x y : Int × ByteArray) (w : World) (hx : x.2.size ≤ maxLen) :
    Calls Tryz.prog 67 #[.agg #[.int .i64 x.1, .string x.2], .agg #[.int .i64 y.1, .string y.2]] w fun e w' => e = .returned (.bool (decide (cmpS x y < 0))) ∧ Below w.heap.size w w' := by
  rw [cmpS_less]
  obtain ⟨x1, x2⟩ := x
  obtain ⟨y1, y2⟩ := y
  simp only at *
  have HT : Hid (∀ W, Calls Tryz.prog 65 #[.string x2, .string y2] W fun e w' => e = .returned (.int .i64 (cmpT x2 y2)) ∧ Below W.heap.size W w') := fun W => textOrder_below _ _ W hx
  generalize cmpT x2 y2 = C at *
  by_cases h1 : x1 < y1
  · rw [decide_eq_true h1, Bool.true_or]
    go_enter Tryz.func67, Tryz.ntmps67
    go_wp2_with fail
    go_ret
    exact ⟨rfl, ((Below.refl _ w).alloc (Nat.le_refl _) _).alloc (by simp) _⟩
  · by_cases h2 : x1 = y1
    · subst h2
      rw [decide_eq_false h1, decide_eq_true (rfl : x1 = x1), Bool.false_or, Bool.true_and]
      go_enter Tryz.func67, Tryz.ntmps67
      go_wp2_with fail
      refine (HT.out _).mono ?_
      rintro e w1 ⟨rfl, hb1⟩
      have B1 : Below w.heap.size w w1 := (((Below.refl _ w).alloc (Nat.le_refl _) _).alloc (by simp) _).trans (hb1.mono (by simp; omega))
      go_wp2_with fail
      go_ret
      exact ⟨rfl, B1⟩
    · rw [decide_eq_false h1, decide_eq_false h2, Bool.false_or, Bool.false_and]
      have h2' : (x1 == y1) = false := by rw [beq_eq_false_iff_ne]; exact h2
      go_enter Tryz.func67, Tryz.ntmps67
      go_wp2_with fail
      go_ret
      exact ⟨rfl, ((Below.refl _ w).alloc (Nat.le_refl _) _).alloc (by simp) _⟩
end Go.Proofs.YtcidoodaiimhfaaGreat

