/- Part 1 of what the proof leans on: Base, IDef, IChk1, IChk5, IChk2, IChk3, IChk6, IChk7, IChk8, IChk9, IChk4, IChk10, ISame, ISame2, RZer, OwnF, YRow, IChk11, SPl, YDef, Boxes, YCopy, YChk. -/
import Derived.WalkKit
import Derived.Deep.QuietTactic
import Derived.Lib.Bytealg
import Derived.Test.YtcidoodaiimhfaaGreatChecked
import Derived.Handy
import Derived.BigQuiet
import Derived.Deep.RegionHeld3
import Derived.Maps.OwnSet
import Derived.Lib.AppendZeros
import Derived.Laws.OwnMore
import Derived.Lib.SlicesCompact
import Derived.Laws.Cover1
import Derived.Sort.Walk0
/- What a call leaves: 'Kept S w w2': of the blocks that were there, none outside S has turned. -/
namespace Go.Proofs.YtcidoodaiimhfaaGreat
open Go.RowKit

theorem hide {p : Prop} (h : p) : Hid p := h
theorem unhide {p : Prop} (h : Hid p) : p := h

structure Kept (S : Nat → Prop) (w w' : World) : Prop where
  os : w'.os = w.os
  tape : w'.tape = w.tape
  output : w'.output = w.output
  size : w.heap.size ≤ w'.heap.size
  block : ∀ k, k < w.heap.size → ¬ S k → w'.heap[k]? = w.heap[k]?

theorem Kept.refl (S : Nat → Prop) (w : World) : Kept S w w := ⟨rfl, rfl, rfl, Nat.le_refl _, fun _ _ _ => rfl⟩

theorem Kept.trans {S : Nat → Prop} {a b c : World} (h : Kept S a b) (k : Kept S b c) : Kept S a c :=
  ⟨k.os.trans h.os, k.tape.trans h.tape, k.output.trans h.output, Nat.le_trans h.size k.size, fun i hi hs => (k.block i (Nat.lt_of_lt_of_le hi h.size) hs).trans (h.block i hi hs)⟩

theorem Kept.mono {S T : Nat → Prop} {w w' : World} (h : Kept S w w') (hS : ∀ k, k < w.heap.size → S k → T k) : Kept T w w' :=
  ⟨h.os, h.tape, h.output, h.size, fun k hk ht => h.block k hk (fun hs => ht (hS k hk hs))⟩

theorem Kept.drew {S : Nat → Prop} {a w : World} (h : Kept S a w) : Kept S a w.drew := ⟨h.os, h.tape, h.output, h.size, h.block⟩

theorem Kept.drewN {S : Nat → Prop} {a w : World} (h : Kept S a w) (n : Nat) : Kept S a (w.drewN n) := ⟨h.os, h.tape, h.output, h.size, h.block⟩

theorem Kept.alloc {S : Nat → Prop} {a w : World} (h : Kept S a w) (o : Obj) : Kept S a (w.alloc o) :=
  h.trans ⟨rfl, rfl, rfl, by simp, fun k hk _ => Below.heap_alloc _ _ _ hk⟩

theorem Kept.setCell {S : Nat → Prop} {a w : World} (h : Kept S a w) {p : Addr} (hp : S p.block ∨ a.heap.size ≤ p.block) (u : Value) : Kept S a (w.setCell p u) :=
  ⟨h.os, h.tape, h.output, by simpa [World.setCell] using h.size, fun k hk hs => (Below.heap_setCell _ _ _ _ (by rcases hp with hp | hp; exact fun e => hs (e ▸ hp); omega)).trans (h.block k hk hs)⟩

theorem Kept.grown {S : Nat → Prop} {a w w' : World} {row : Option Nat} (h : Kept S a w) (hg : w.grownBy w' row) (hr : ∀ k, row = some k → S k ∨ a.heap.size ≤ k) : Kept S a w' :=
  ⟨hg.os.trans h.os, hg.tape.trans h.tape, hg.output.trans h.output, Nat.le_trans h.size hg.size, fun k hk hs =>
    (hg.block k (Nat.lt_of_lt_of_le hk h.size) (fun e => by rcases hr k e.symm with hp | hp; exact hs hp; omega)).trans (h.block k hk hs)⟩

theorem Kept.cell {S : Nat → Prop} {w w' : World} (h : Kept S w w') {p : Addr} (hp : p.block < w.heap.size) (hs : ¬ S p.block) : w'.cell? p = w.cell? p :=
  World.cell?_of_block (w := w) (h.block p.block hp hs)

theorem Kept.frozen {S : Nat → Prop} {w w' : World} (h : Kept S w w') {p : Addr} (hp : p.block < w.heap.size) (hs : ¬ S p.block) : w'.frozen? p = w.frozen? p :=
  World.frozen?_of_block (w := w) (h.block p.block hp hs)

/-- a cell that holds something keeps it -/
theorem Kept.cell' {S : Nat → Prop} {w w' : World} (h : Kept S w w') {p : Addr} {v : Value} (hc : w.cell? p = some v) (hs : ¬ S p.block) : w'.cell? p = some v :=
  (h.cell (World.block_lt_of_cell? w p hc) hs).trans hc

theorem Kept.below {S : Nat → Prop} {w w' : World} (h : Kept S w w') {B : Nat} (hB : B ≤ w.heap.size) (hS : ∀ k, S k → B ≤ k) : Below B w w' :=
  ⟨h.os, h.tape, h.output, h.size, fun k hk => h.block k (by omega) (fun hs => by have := hS k hs; omega)⟩

theorem Kept.of_below {w w' : World} (h : Below w.heap.size w w') (S : Nat → Prop) : Kept S w w' :=
  ⟨h.os, h.tape, h.output, h.size, fun k hk _ => h.block k hk⟩

theorem Kept.owns {S : Nat → Prop} {w w' : World} (h : Kept S w w') {base : Nat} {e : TypeId} {size : Nat} {v : Value} {n : Nat} {xs : List Value} (ho : w.ownsRow base e size v n xs)
    (hs : ∀ k, v.ownBlock = some k → ¬ S k) : w'.ownsRow base e size v n xs := by
  refine ⟨ho.1, ?_⟩
  rcases ho.2 with hn | ⟨g, cap, cur, rfl, hb, hgg, rest⟩
  · exact .inl hn
  · refine .inr ⟨g, cap, cur, rfl, hb, ?_, rest⟩
    rw [h.block g (Array.getElem?_eq_some_iff.1 hgg).1 (hs g rfl)]
    exact hgg

/-- A walk over s stands at k: its struct lies in block b. -/
structure At (b : Nat) (s : ByteArray) (k : Nat) (w : World) : Prop where
  text : w.cell? ⟨b, 0, none⟩ = some (.string s)
  at_ : w.cell? ⟨b, 1, none⟩ = some (.int .i64 k)
  fz : w.frozen? ⟨b, 1, none⟩ = false
  le : k ≤ s.size
  small : s.size ≤ maxLen

theorem At.lt {b : Nat} {s : ByteArray} {k : Nat} {w : World} (h : At b s k w) : b < w.heap.size := World.block_lt_of_cell? w _ h.text

theorem At.kept {b : Nat} {s : ByteArray} {k : Nat} {w w' : World} (h : At b s k w) {S : Nat → Prop} (hk : Kept S w w') (hs : ¬ S b) : At b s k w' :=
  ⟨hk.cell' h.text hs, hk.cell' h.at_ hs, (hk.frozen (p := ⟨b, 1, none⟩) h.lt hs).trans h.fz, h.le, h.small⟩

theorem At.drewN {b : Nat} {s : ByteArray} {k : Nat} {w : World} (h : At b s k w) (n : Nat) : At b s k (w.drewN n) := ⟨h.text, h.at_, h.fz, h.le, h.small⟩

theorem At.set {b : Nat} {s : ByteArray} {k : Nat} {w : World} (h : At b s k w) {j : Nat} (hj : j ≤ s.size) : At b s j (w.setCell ⟨b, 1, none⟩ (.int .i64 j)) := by
  refine ⟨?_, ?_, ?_, hj, h.small⟩
  · rw [World.cell?_setCell_other _ _ _ _ (by simp)]; exact h.text
  · exact World.cell?_setCell_same _ _ _ h.at_
  · simp [h.fz]

/-- the set of one block -/
def one (b : Nat) : Nat → Prop := fun k => k = b

theorem Kept.set1 {b : Nat} {a w : World} (h : Kept (one b) a w) (o : Nat) (u : Value) : Kept (one b) a (w.setCell ⟨b, o, none⟩ u) := h.setCell (S := one b) (p := ⟨b, o, none⟩) (Or.inl rfl) u
theorem Kept.setNew {S : Nat → Prop} {a w : World} (h : Kept S a w) {g o : Nat} (hg : a.heap.size ≤ g) (u : Value) : Kept S a (w.setCell ⟨g, o, none⟩ u) := h.setCell (p := ⟨g, o, none⟩) (Or.inr hg) u

theorem drop_of_suffix {l t : List UInt8} (h : l <:+ t) : t.drop (t.length - l.length) = l := by
  obtain ⟨p, rfl⟩ := h
  simp

theorem suffix_cons {c : UInt8} {r t : List UInt8} (h : (c :: r) <:+ t) : r <:+ t := (List.suffix_cons c r).trans h

theorem size_list (s : ByteArray) : s.data.toList.length = s.size := by rw [Array.length_toList]; rfl

/-- A walk over s, of which the bytes l are left. -/
def AtL (b : Nat) (s : ByteArray) (l : List UInt8) (w : World) : Prop := At b s (s.size - l.length) w ∧ l <:+ s.data.toList

theorem AtL.kept {b : Nat} {s : ByteArray} {l : List UInt8} {w w' : World} (h : AtL b s l w) {S : Nat → Prop} (hk : Kept S w w') (hs : ¬ S b) : AtL b s l w' := ⟨h.1.kept hk hs, h.2⟩
theorem AtL.lt {b : Nat} {s : ByteArray} {l : List UInt8} {w : World} (h : AtL b s l w) : b < w.heap.size := h.1.lt
theorem AtL.alloc {b : Nat} {s : ByteArray} {l : List UInt8} {w : World} (h : AtL b s l w) (o : Obj) : AtL b s l (w.alloc o) :=
  h.kept (S := fun _ => False) ((Kept.refl _ _).alloc o) (fun x => x)
theorem AtL.setOther {b : Nat} {s : ByteArray} {l : List UInt8} {w : World} (h : AtL b s l w) {g o : Nat} (hg : g ≠ b) (u : Value) : AtL b s l (w.setCell ⟨g, o, none⟩ u) :=
  h.kept (S := one g) ((Kept.refl _ _).set1 o u) (fun x => hg x.symm)
theorem AtL.drew {b : Nat} {s : ByteArray} {l : List UInt8} {w : World} (h : AtL b s l w) : AtL b s l w.drew := h.kept (S := fun _ => False) ((Kept.refl _ _).drew) (fun x => x)
theorem AtL.drewN {b : Nat} {s : ByteArray} {l : List UInt8} {w : World} (h : AtL b s l w) (n : Nat) : AtL b s l (w.drewN n) := h.kept (S := fun _ => False) ((Kept.refl _ _).drewN n) (fun x => x)
theorem AtL.len {b : Nat} {s : ByteArray} {l : List UInt8} {w : World} (h : AtL b s l w) : l.length ≤ s.size := by rw [← size_list]; exact h.2.length_le

theorem get_of_suffix {s : ByteArray} {c : UInt8} {r : List UInt8} (h : (c :: r) <:+ s.data.toList) (hk : s.size - (r.length + 1) < s.size) : s[s.size - (r.length + 1)] = c := by
  have h1 := drop_of_suffix h
  rw [size_list] at h1
  have h2 : s.data.toList[s.size - (r.length + 1)]? = some c := by
    have h3 := congrArg (fun x => x[0]?) h1
    simpa using h3
  have h4 : s.data.toList[s.size - (r.length + 1)]? = some s[s.size - (r.length + 1)] := by
    rw [List.getElem?_eq_getElem (by rw [size_list]; exact hk)]
    rfl
  rw [h4] at h2
  exact Option.some.inj h2

theorem extract_list (s : ByteArray) (a b : Nat) : s.extract a b = ⟨((s.data.toList.drop a).take (b - a)).toArray⟩ := by
  have h := ByteArray.extract_mk s.data.toList a b
  rw [Array.toArray_toList] at h
  exact h

theorem extract_suffix {s : ByteArray} {l : List UInt8} (h : l <:+ s.data.toList) (n : Nat) : s.extract (s.size - l.length) (s.size - l.length + n) = ⟨(l.take n).toArray⟩ := by
  rw [extract_list]
  have h1 := drop_of_suffix h
  rw [size_list] at h1
  rw [h1, Nat.add_sub_cancel_left]

theorem extract_suffix_all {s : ByteArray} {l : List UInt8} (h : l <:+ s.data.toList) : s.extract (s.size - l.length) s.size = ⟨l.toArray⟩ := by
  have h2 : l.length ≤ s.size := by rw [← size_list]; exact h.length_le
  have h3 := extract_suffix h l.length
  rw [Nat.sub_add_cancel h2, List.take_length] at h3
  exact h3

/-- how many bytes are left of a walk, read off the world: for a loop's measure -/
def leftOf (b : Nat) (s : ByteArray) (w : World) : Nat := s.size - (match w.cell? ⟨b, 1, none⟩ with | some (.int _ q) => q.toNat | _ => 0)
theorem AtL.left {b : Nat} {s : ByteArray} {l : List UInt8} {w : World} (h : AtL b s l w) : leftOf b s w = l.length := by
  have hl := h.len
  have e : leftOf b s w = s.size - ((s.size - l.length : Nat) : Int).toNat := by simp only [leftOf, h.1.at_]
  rw [e, Int.toNat_natCast]
  omega

theorem size_mk (l : List UInt8) : (ByteArray.mk l.toArray).size = l.length := by simp [ByteArray.size]
theorem toList_mk (l : List UInt8) : (ByteArray.mk l.toArray).data.toList = l := by simp

theorem bcell {W w1 : World} (hb : Below W.heap.size W w1) : (∀ b o, b < W.heap.size → w1.cell? ⟨b, o, none⟩ = W.cell? ⟨b, o, none⟩) ∧ (∀ b o, b < W.heap.size → w1.frozen? ⟨b, o, none⟩ = W.frozen? ⟨b, o, none⟩) :=
  ⟨fun b o h => hb.cell (p := ⟨b, o, none⟩) h, fun b o h => hb.frozen (p := ⟨b, o, none⟩) h⟩
theorem list_append (a b : ByteArray) : (a ++ b).data.toList = a.data.toList ++ b.data.toList := by
  rw [ByteArray.data_append, Array.toList_append]

end Go.Proofs.YtcidoodaiimhfaaGreat

/- Items as plain data, and what is wrong with one. -/
namespace Go.Proofs.YtcidoodaiimhfaaGreat

/-- an item -/
structure Itm where
  k : Int
  t : ByteArray
  l : List ByteArray
  p : List (ByteArray × ByteArray)
  s : List (Int × ByteArray)
/-- what a key has that is not there -/
def Itm.none : Itm := ⟨0, ⟨#[]⟩, [], [], []⟩
def Itm.isNone (x : Itm) : Bool := decide (x.k = 0 ∧ x.t.toList = [] ∧ x.l = [] ∧ x.p = [] ∧ x.s = [])

def longT (t : ByteArray) : Bool := decide (60 < t.size)
def longP (x : ByteArray × ByteArray) : Bool := longT x.1 || longT x.2
def longS (x : Int × ByteArray) : Bool := longT x.2
def outS (x : Int × ByteArray) : Bool := decide (x.1 < -999999999) || decide (999999999 < x.1)
/-- how many there are, and how long -/
def sizeT (n : Nat) (long : Bool) : Int := if n = 0 then 5 else if 24 < n ∨ long = true then 2 else 0
theorem sizeT_small {n : Nat} {b : Bool} (h : sizeT n b = 0) : n ≤ 24 := by
  unfold sizeT at h
  split at h
  · cases h
  · split at h
    · cases h
    · omega
theorem sizeT_short {n : Nat} {b : Bool} (h : sizeT n b = 0) : b = false := by
  unfold sizeT at h
  split at h
  · cases h
  · split at h
    · cases h
    · rename_i hx
      cases b
      · rfl
      · exact absurd (Or.inr rfl) hx
theorem sizeT_pos {n : Nat} {b : Bool} (h : sizeT n b = 0) : 0 < n := by
  unfold sizeT at h
  split at h
  · cases h
  · omega
/-- the order of texts -/
def cmpT (a b : ByteArray) : Int := Lib.compareBytes a.data.toList b.data.toList
def cmpP (a b : ByteArray × ByteArray) : Int := cmpT a.1 b.1
def cmpS (a b : Int × ByteArray) : Int := if a.1 < b.1 then -1 else if b.1 < a.1 then 1 else cmpT a.2 b.2
/-- do the first so many rise? -/
def riseTo {α : Type} [Inhabited α] (cmp : α → α → Int) (ts : List α) (n : Nat) : Bool := (List.range (n - 1)).all fun j => decide (cmp ts[j]! ts[j + 1]! < 0)
theorem riseTo_succ {α : Type} [Inhabited α] (cmp : α → α → Int) (ts : List α) (k : Nat) (hk : 1 ≤ k) : riseTo cmp ts (k + 1) = (riseTo cmp ts k && decide (cmp ts[k - 1]! ts[k]! < 0)) := by
  obtain ⟨m, rfl⟩ : ∃ m, k = m + 1 := ⟨k - 1, by omega⟩
  unfold riseTo
  rw [show m + 1 + 1 - 1 = m + 1 by omega, show m + 1 - 1 = m by omega, List.range_succ, List.all_append]
  simp
theorem riseTo_false {α : Type} [Inhabited α] {cmp : α → α → Int} {ts : List α} {k n : Nat} (h : riseTo cmp ts k = false) (hk : k ≤ n) : riseTo cmp ts n = false := by
  rw [riseTo, List.all_eq_false] at h ⊢
  obtain ⟨x, hx, hf⟩ := h
  rw [List.mem_range] at hx
  exact ⟨x, List.mem_range.2 (by omega), hf⟩
/-- is a member there twice? -/
def twiceS (l : List (Int × ByteArray)) : Bool := !decide ((l.map Prod.snd).Nodup)
def setT (ts : List ByteArray) : Int :=
  if sizeT ts.length (ts.any longT) ≠ 0 then sizeT ts.length (ts.any longT) else if riseTo cmpT ts ts.length = true then 0 else 4
def hashT (ts : List (ByteArray × ByteArray)) : Int :=
  if sizeT ts.length (ts.any longP) ≠ 0 then sizeT ts.length (ts.any longP) else if riseTo cmpP ts ts.length = true then 0 else 4
def scoreT (ts : List (Int × ByteArray)) : Int :=
  if sizeT ts.length (ts.any longS) ≠ 0 then sizeT ts.length (ts.any longS) else if ts.any outS = true then 3 else if twiceS ts = true then 6 else if riseTo cmpS ts ts.length = true then 0 else 4
/-- has it something that its kind does not name? -/
def otherI (x : Itm) : Bool :=
  decide ((x.k ≠ 1 ∧ ¬ x.t.toList = []) ∨ (¬ (x.k = 2 ∨ x.k = 3) ∧ 0 < x.l.length) ∨ (x.k ≠ 4 ∧ 0 < x.p.length) ∨ (x.k ≠ 5 ∧ 0 < x.s.length))
/-- what is wrong with an item -/
def chkI (x : Itm) : Int :=
  if x.k < 1 ∨ 5 < x.k then 7 else if otherI x = true then 1 else
    if x.k = 2 then sizeT x.l.length (x.l.any longT) else if x.k = 3 then setT x.l else if x.k = 4 then hashT x.p else if x.k = 5 then scoreT x.s else
    if longT x.t = true then 2 else 0
/-- .. that must be nothing, or of a kind -/
def asI (x : Itm) (kind : Int) : Int := if x.isNone = true then 0 else if chkI x ≠ 0 then chkI x else if x.k ≠ kind then 7 else 0
/-- is a text there? -/
def hasT (ts : List ByteArray) (s : ByteArray) : Bool := ts.any fun t => decide (t = s)
theorem hasT_iff {ts : List ByteArray} {s : ByteArray} : hasT ts s = true ↔ s ∈ ts := by
  simp [hasT, List.any_eq_true]
theorem hasT_not {ts : List ByteArray} {s : ByteArray} (h : s ∉ ts) : hasT ts s = false := by
  cases hb : hasT ts s
  · rfl
  · exact absurd (hasT_iff.1 hb) h
end Go.Proofs.YtcidoodaiimhfaaGreat

/- WALKS of the item's checks: how many, and how long (lists of texts). -/
namespace Go.Proofs.YtcidoodaiimhfaaGreat
open Go.RowKit

theorem isLong_any (t : ByteArray) (w : World) : Calls Tryz.prog 143 #[.string t] w fun e w' => e = .returned (.bool (longT t)) ∧ w' = w := by
  have h : decide ((60 : Int) < ((t.size : Nat) : Int)) = longT t := by unfold longT; simp; omega
  go_enter Tryz.func143, Tryz.ntmps143
  go_wp2_with fail
  go_ret
  exact ⟨rfl, rfl⟩
theorem isLong_below (t : ByteArray) (w : World) : Calls Tryz.prog 143 #[.string t] w fun e w' => e = .returned (.bool (longT t)) ∧ Below w.heap.size w w' :=
  (isLong_any t w).mono fun _ _ ⟨h1, h2⟩ => ⟨h1, by subst h2; exact Below.refl _ _⟩
/-- what lies in memory -/
def TextsAt (w : World) (a : Option Addr) (ts : List ByteArray) : Prop :=
  ts = [] ∨ ∃ g o, a = some ⟨g, o, none⟩ ∧ ∀ i (h : i < ts.length), w.cell? ⟨g, o + i, none⟩ = some (.string ts[i])
theorem TextsAt.nil (w : World) : TextsAt w none [] := .inl rfl
theorem TextsAt.moved {w w' : World} {a : Option Addr} {ts : List ByteArray} (h : TextsAt w a ts) (hb : ∀ g o v, w.cell? ⟨g, o, none⟩ = some v → w'.cell? ⟨g, o, none⟩ = some v) : TextsAt w' a ts := by
  rcases h with h | ⟨g, o, ha, hc⟩
  · exact .inl h
  · exact .inr ⟨g, o, ha, fun i hi => hb _ _ _ (hc i hi)⟩
theorem TextsAt.below {w w' : World} {a : Option Addr} {ts : List ByteArray} (h : TextsAt w a ts) (hb : Below w.heap.size w w') : TextsAt w' a ts :=
  h.moved (fun g o _ hv => (hb.cell (p := ⟨g, o, none⟩) (World.block_lt_of_cell? _ _ hv)).trans hv)
/-- what lies in memory -/
def PairsAt (w : World) (a : Option Addr) (ts : List (ByteArray × ByteArray)) : Prop :=
  ts = [] ∨ ∃ g o, a = some ⟨g, o, none⟩ ∧ ∀ i (h : i < ts.length), w.cell? ⟨g, o + i * 2, none⟩ = some (.string ts[i].1) ∧ w.cell? ⟨g, o + i * 2 + 1, none⟩ = some (.string ts[i].2)
theorem PairsAt.nil (w : World) : PairsAt w none [] := .inl rfl
theorem PairsAt.moved {w w' : World} {a : Option Addr} {ts : List (ByteArray × ByteArray)} (h : PairsAt w a ts) (hb : ∀ g o v, w.cell? ⟨g, o, none⟩ = some v → w'.cell? ⟨g, o, none⟩ = some v) : PairsAt w' a ts := by
  rcases h with h | ⟨g, o, ha, hc⟩
  · exact .inl h
  · exact .inr ⟨g, o, ha, fun i hi => ⟨hb _ _ _ (hc i hi).1, hb _ _ _ (hc i hi).2⟩⟩
theorem PairsAt.below {w w' : World} {a : Option Addr} {ts : List (ByteArray × ByteArray)} (h : PairsAt w a ts) (hb : Below w.heap.size w w') : PairsAt w' a ts :=
  h.moved (fun g o _ hv => (hb.cell (p := ⟨g, o, none⟩) (World.block_lt_of_cell? _ _ hv)).trans hv)
/-- what lies in memory -/
def ScoresAt (w : World) (a : Option Addr) (ts : List (Int × ByteArray)) : Prop :=
  ts = [] ∨ ∃ g o, a = some ⟨g, o, none⟩ ∧ ∀ i (h : i < ts.length), w.cell? ⟨g, o + i * 2, none⟩ = some (.int .i64 ts[i].1) ∧ w.cell? ⟨g, o + i * 2 + 1, none⟩ = some (.string ts[i].2)
theorem ScoresAt.nil (w : World) : ScoresAt w none [] := .inl rfl
theorem ScoresAt.moved {w w' : World} {a : Option Addr} {ts : List (Int × ByteArray)} (h : ScoresAt w a ts) (hb : ∀ g o v, w.cell? ⟨g, o, none⟩ = some v → w'.cell? ⟨g, o, none⟩ = some v) : ScoresAt w' a ts := by
  rcases h with h | ⟨g, o, ha, hc⟩
  · exact .inl h
  · exact .inr ⟨g, o, ha, fun i hi => ⟨hb _ _ _ (hc i hi).1, hb _ _ _ (hc i hi).2⟩⟩
theorem ScoresAt.below {w w' : World} {a : Option Addr} {ts : List (Int × ByteArray)} (h : ScoresAt w a ts) (hb : Below w.heap.size w w') : ScoresAt w' a ts :=
  h.moved (fun g o _ hv => (hb.cell (p := ⟨g, o, none⟩) (World.block_lt_of_cell? _ _ hv)).trans hv)

set_option maxRecDepth 100000 in
set_option maxHeartbeats 1000000 in
theorem idxLong_any (a : Option Addr) (cap : Nat) (ts : List ByteArray) (w : World) (hs : TextsAt w a ts) (hn : ts.length ≤ 1000000) :
    Calls Tryz.prog 153 #[.slice a ts.length cap, .func (.func 143) #[] #[]] w fun e w' => (∃ n : Int, e = .returned (.int .i64 n) ∧ (decide (0 ≤ n) = ts.any longT)) ∧ Below w.heap.size w w' := by
  have HS := hide hs
  clear hs
  go_enter Tryz.func153, Tryz.ntmps153
  go_wp2_with fail
  go_loopw [8] (fun i wr => ∃ k : Nat, k ≤ ts.length ∧ i = .int .i64 k ∧ Below w.heap.size w wr ∧ Hid ((ts.take k).any longT = false)) (fun i _ => ts.length - (intOf i).toNat)
  case atStart => exact ⟨0, Nat.zero_le _, rfl, Below.refl _ _, by simp [Hid]⟩
  case round =>
    obtain ⟨k, hk, rfl, hb, HA⟩ := hrel
    by_cases hlt : k < ts.length
    · obtain ⟨g, o, rfl, hcs⟩ : ∃ g o, a = some ⟨g, o, none⟩ ∧ ∀ i (h : i < ts.length), w.cell? ⟨g, o + i, none⟩ = some (.string ts[i]) := by
        rcases HS.out with h | h
        · subst h; simp at hlt
        · exact h
      have HB : Hid (∀ g o v, w.cell? ⟨g, o, none⟩ = some v → wr.cell? ⟨g, o, none⟩ = some v) := fun g o _ hv => (hb.cell (p := ⟨g, o, none⟩) (World.block_lt_of_cell? _ _ hv)).trans hv
      have d0 : wr.cell? ⟨g, o + k, none⟩ = some (.string ts[k]) := HB.out _ _ _ (hcs k hlt)
      have HT : Hid ((ts.take (k + 1)).any longT = ((ts.take k).any longT || longT ts[k])) := by
        rw [Hid, List.take_succ_eq_append_getElem hlt, List.any_append]
        simp
      have HF : Hid (longT ts[k] = true → ts.any longT = true) := fun hx => List.any_eq_true.mpr ⟨ts[k], List.getElem_mem hlt, hx⟩
      clear hcs HS HB
      go_wp2_with fail
      refine (isLong_below ts[k] wr).mono ?_
      rintro e w1 ⟨rfl, hb1⟩
      have hb2 : Below w.heap.size w w1 := hb.trans (hb1.mono hb.size)
      cases hx : longT ts[k] with
      | true =>
        have HY := hide (HF.out hx)
        clear HF HT hx
        go_wp2_with fail
        go_ret
        exact ⟨⟨_, rfl, by rw [HY.out]; simp⟩, hb2⟩
      | false =>
        have HY : Hid ((ts.take (k + 1)).any longT = false) := by rw [Hid, HT.out, HA.out, hx]; rfl
        clear HF HT hx
        go_wp2_with fail
        go_roundw
        case rel => exact ⟨k + 1, by omega, by go_num, hb2, HY⟩
        case measure => simp [intOf]; omega
    · have hkk : k = ts.length := by omega
      subst hkk
      have HY : Hid (ts.any longT = false) := by have := HA.out; rw [List.take_length] at this; exact this
      go_wp2_with fail
      go_ret
      exact ⟨⟨-1, rfl, by rw [HY.out]; rfl⟩, hb⟩
theorem containsLong_any (a : Option Addr) (cap : Nat) (ts : List ByteArray) (w : World) (hs : TextsAt w a ts) (hn : ts.length ≤ 1000000) :
    Calls Tryz.prog 86 #[.slice a ts.length cap, .func (.func 143) #[] #[]] w fun e w' => e = .returned (.bool (ts.any longT)) ∧ Below w.heap.size w w' := by
  have HI := hide (idxLong_any a cap ts w hs hn)
  clear hs
  go_enter Tryz.func86, Tryz.ntmps86
  go_wp2_with fail
  refine HI.out.mono ?_
  rintro e w1 ⟨⟨n, rfl, hd⟩, hb⟩
  have HD := hide hd
  clear hd
  go_wp2_with fail
  go_ret
  exact ⟨by rw [← HD.out]; rfl, hb⟩

theorem checkSizeT_any (a : Option Addr) (cap : Nat) (ts : List ByteArray) (w : World) (hs : TextsAt w a ts) :
    Calls Tryz.prog 142 #[.slice a ts.length cap, .func (.func 143) #[] #[]] w fun e w' => e = .returned (.int .i64 (sizeT ts.length (ts.any longT))) ∧ Below w.heap.size w w' := by
  by_cases h0 : ts.length = 0
  · have hv : sizeT ts.length (ts.any longT) = 5 := by rw [sizeT, if_pos h0]
    rw [hv]
    clear hv
    go_enter Tryz.func142, Tryz.ntmps142
    go_wp2_with fail
    go_ret
    exact ⟨rfl, Below.refl _ _⟩
  · have h0b : ((ts.length : Int) == 0) = false := by rw [beq_eq_false_iff_ne]; omega
    by_cases h24 : 24 < ts.length
    · have hv : sizeT ts.length (ts.any longT) = 2 := by rw [sizeT, if_neg h0, if_pos (.inl h24)]
      have h24' : (24 : Int) < ((ts.length : Nat) : Int) := by omega
      rw [hv]
      clear hv
      go_enter Tryz.func142, Tryz.ntmps142
      go_wp2_with fail
      go_ret
      exact ⟨rfl, Below.refl _ _⟩
    · have h24' : ¬ (24 : Int) < ((ts.length : Nat) : Int) := by omega
      have HC := hide (containsLong_any a cap ts w hs (by omega))
      cases hl : ts.any longT with
      | true =>
        have hv : sizeT ts.length true = 2 := by rw [sizeT, if_neg h0, if_pos (.inr rfl)]
        rw [hl] at HC
        rw [hv]
        clear hv hs hl
        go_enter Tryz.func142, Tryz.ntmps142
        go_wp2_with fail
        refine HC.out.mono ?_
        rintro e w1 ⟨rfl, hb1⟩
        go_wp2_with fail
        go_ret
        exact ⟨rfl, hb1⟩
      | false =>
        have hv : sizeT ts.length false = 0 := by rw [sizeT, if_neg h0, if_neg (by rintro (h | h); omega; cases h)]
        rw [hl] at HC
        rw [hv]
        clear hv hs hl
        go_enter Tryz.func142, Tryz.ntmps142
        go_wp2_with fail
        refine HC.out.mono ?_
        rintro e w1 ⟨rfl, hb1⟩
        go_wp2_with fail
        go_ret
        exact ⟨rfl, hb1⟩
end Go.Proofs.YtcidoodaiimhfaaGreat

/- WALKS of the item's checks: how many, and how long (pairs and scores). -/
namespace Go.Proofs.YtcidoodaiimhfaaGreat
open Go.RowKit

theorem longP_any (x : ByteArray × ByteArray) (w : World) : Calls Tryz.prog 194 #[.agg #[.string x.1, .string x.2]] w fun e w' => e = .returned (.bool (longP x)) ∧ Below w.heap.size w w' := by
  obtain ⟨x1, x2⟩ := x
  cases h1 : longT x1 with
  | true =>
    have hv : longP (x1, x2) = true := by simp [longP, h1]
    rw [hv]
    clear hv
    go_enter Tryz.func194, Tryz.ntmps194
    go_wp2_with fail
    refine (isLong_any x1 _).mono ?_
    rintro e w1 ⟨rfl, rfl⟩
    rw [h1]
    go_wp2_with fail
    go_ret
    exact ⟨rfl, (Below.refl _ _).alloc (Nat.le_refl _) _⟩
  | false =>
    have hv : longP (x1, x2) = longT x2 := by simp [longP, h1]
    rw [hv]
    clear hv
    go_enter Tryz.func194, Tryz.ntmps194
    go_wp2_with fail
    refine (isLong_any x1 _).mono ?_
    rintro e w1 ⟨rfl, rfl⟩
    rw [h1]
    go_wp2_with fail
    refine (isLong_any x2 _).mono ?_
    rintro e w1 ⟨rfl, rfl⟩
    go_wp2_with fail
    go_ret
    exact ⟨rfl, (Below.refl _ _).alloc (Nat.le_refl _) _⟩
theorem longS_any (x : Int × ByteArray) (w : World) : Calls Tryz.prog 199 #[.agg #[.int .i64 x.1, .string x.2]] w fun e w' => e = .returned (.bool (longS x)) ∧ Below w.heap.size w w' := by
  obtain ⟨x1, x2⟩ := x
  have hv : longS (x1, x2) = longT x2 := rfl
  rw [hv]
  clear hv
  go_enter Tryz.func199, Tryz.ntmps199
  go_wp2_with fail
  refine (isLong_any x2 _).mono ?_
  rintro e w1 ⟨rfl, rfl⟩
  go_wp2_with fail
  go_ret
  exact ⟨rfl, (Below.refl _ _).alloc (Nat.le_refl _) _⟩
theorem outS_any (x : Int × ByteArray) (w : World) : Calls Tryz.prog 201 #[.agg #[.int .i64 x.1, .string x.2]] w fun e w' => e = .returned (.bool (outS x)) ∧ Below w.heap.size w w' := by
  obtain ⟨x1, x2⟩ := x
  by_cases h1 : x1 < -999999999
  · have hv : outS (x1, x2) = true := by simp [outS, h1]
    rw [hv]
    clear hv
    go_enter Tryz.func201, Tryz.ntmps201
    go_wp2_with fail
    go_ret
    exact ⟨rfl, (Below.refl _ _).alloc (Nat.le_refl _) _⟩
  · have hv : outS (x1, x2) = decide (999999999 < x1) := by simp [outS, h1]
    rw [hv]
    clear hv
    go_enter Tryz.func201, Tryz.ntmps201
    go_wp2_with fail
    go_ret
    exact ⟨rfl, (Below.refl _ _).alloc (Nat.le_refl _) _⟩

set_option maxRecDepth 100000 in
set_option maxHeartbeats 1000000 in
theorem idxLongP_any (a : Option Addr) (cap : Nat) (ts : List (ByteArray × ByteArray)) (w : World) (hs : PairsAt w a ts) (hn : ts.length ≤ 1000000) :
    Calls Tryz.prog 148 #[.slice a ts.length cap, .func (.func 194) #[] #[]] w fun e w' => (∃ n : Int, e = .returned (.int .i64 n) ∧ (decide (0 ≤ n) = ts.any longP)) ∧ Below w.heap.size w w' := by
  have HS := hide hs
  clear hs
  go_enter Tryz.func148, Tryz.ntmps148
  go_wp2_with fail
  go_loopw [8] (fun i wr => ∃ k : Nat, k ≤ ts.length ∧ i = .int .i64 k ∧ Below w.heap.size w wr ∧ Hid ((ts.take k).any longP = false)) (fun i _ => ts.length - (intOf i).toNat)
  case atStart => exact ⟨0, Nat.zero_le _, rfl, Below.refl _ _, by simp [Hid]⟩
  case round =>
    obtain ⟨k, hk, rfl, hb, HA⟩ := hrel
    by_cases hlt : k < ts.length
    · obtain ⟨g, o, rfl, hcs⟩ : ∃ g o, a = some ⟨g, o, none⟩ ∧ ∀ i (h : i < ts.length), w.cell? ⟨g, o + i * 2, none⟩ = some (.string ts[i].1) ∧ w.cell? ⟨g, o + i * 2 + 1, none⟩ = some (.string ts[i].2) := by
        rcases HS.out with h | h
        · subst h; simp at hlt
        · exact h
      have HB : Hid (∀ g o v, w.cell? ⟨g, o, none⟩ = some v → wr.cell? ⟨g, o, none⟩ = some v) := fun g o _ hv => (hb.cell (p := ⟨g, o, none⟩) (World.block_lt_of_cell? _ _ hv)).trans hv
      have d0 : wr.cell? ⟨g, o + k * 2, none⟩ = some (.string ts[k].1) := HB.out _ _ _ ((hcs k hlt).1)
      have d1 : wr.cell? ⟨g, o + k * 2 + 1, none⟩ = some (.string ts[k].2) := HB.out _ _ _ ((hcs k hlt).2)
      have HT : Hid ((ts.take (k + 1)).any longP = ((ts.take k).any longP || longP ts[k])) := by
        rw [Hid, List.take_succ_eq_append_getElem hlt, List.any_append]
        simp
      have HF : Hid (longP ts[k] = true → ts.any longP = true) := fun hx => List.any_eq_true.mpr ⟨ts[k], List.getElem_mem hlt, hx⟩
      clear hcs HS HB
      go_wp2_with fail
      refine (longP_any ts[k] wr).mono ?_
      rintro e w1 ⟨rfl, hb1⟩
      have hb2 : Below w.heap.size w w1 := hb.trans (hb1.mono hb.size)
      cases hx : longP ts[k] with
      | true =>
        have HY := hide (HF.out hx)
        clear HF HT hx
        go_wp2_with fail
        go_ret
        exact ⟨⟨_, rfl, by rw [HY.out]; simp⟩, hb2⟩
      | false =>
        have HY : Hid ((ts.take (k + 1)).any longP = false) := by rw [Hid, HT.out, HA.out, hx]; rfl
        clear HF HT hx
        go_wp2_with fail
        go_roundw
        case rel => exact ⟨k + 1, by omega, by go_num, hb2, HY⟩
        case measure => simp [intOf]; omega
    · have hkk : k = ts.length := by omega
      subst hkk
      have HY : Hid (ts.any longP = false) := by have := HA.out; rw [List.take_length] at this; exact this
      go_wp2_with fail
      go_ret
      exact ⟨⟨-1, rfl, by rw [HY.out]; rfl⟩, hb⟩
theorem containsLongP_any (a : Option Addr) (cap : Nat) (ts : List (ByteArray × ByteArray)) (w : World) (hs : PairsAt w a ts) (hn : ts.length ≤ 1000000) :
    Calls Tryz.prog 106 #[.slice a ts.length cap, .func (.func 194) #[] #[]] w fun e w' => e = .returned (.bool (ts.any longP)) ∧ Below w.heap.size w w' := by
  have HI := hide (idxLongP_any a cap ts w hs hn)
  clear hs
  go_enter Tryz.func106, Tryz.ntmps106
  go_wp2_with fail
  refine HI.out.mono ?_
  rintro e w1 ⟨⟨n, rfl, hd⟩, hb⟩
  have HD := hide hd
  clear hd
  go_wp2_with fail
  go_ret
  exact ⟨by rw [← HD.out]; rfl, hb⟩

theorem checkSizeP_any (a : Option Addr) (cap : Nat) (ts : List (ByteArray × ByteArray)) (w : World) (hs : PairsAt w a ts) :
    Calls Tryz.prog 195 #[.slice a ts.length cap, .func (.func 194) #[] #[]] w fun e w' => e = .returned (.int .i64 (sizeT ts.length (ts.any longP))) ∧ Below w.heap.size w w' := by
  by_cases h0 : ts.length = 0
  · have hv : sizeT ts.length (ts.any longP) = 5 := by rw [sizeT, if_pos h0]
    rw [hv]
    clear hv
    go_enter Tryz.func195, Tryz.ntmps195
    go_wp2_with fail
    go_ret
    exact ⟨rfl, Below.refl _ _⟩
  · have h0b : ((ts.length : Int) == 0) = false := by rw [beq_eq_false_iff_ne]; omega
    by_cases h24 : 24 < ts.length
    · have hv : sizeT ts.length (ts.any longP) = 2 := by rw [sizeT, if_neg h0, if_pos (.inl h24)]
      have h24' : (24 : Int) < ((ts.length : Nat) : Int) := by omega
      rw [hv]
      clear hv
      go_enter Tryz.func195, Tryz.ntmps195
      go_wp2_with fail
      go_ret
      exact ⟨rfl, Below.refl _ _⟩
    · have h24' : ¬ (24 : Int) < ((ts.length : Nat) : Int) := by omega
      have HC := hide (containsLongP_any a cap ts w hs (by omega))
      cases hl : ts.any longP with
      | true =>
        have hv : sizeT ts.length true = 2 := by rw [sizeT, if_neg h0, if_pos (.inr rfl)]
        rw [hl] at HC
        rw [hv]
        clear hv hs hl
        go_enter Tryz.func195, Tryz.ntmps195
        go_wp2_with fail
        refine HC.out.mono ?_
        rintro e w1 ⟨rfl, hb1⟩
        go_wp2_with fail
        go_ret
        exact ⟨rfl, hb1⟩
      | false =>
        have hv : sizeT ts.length false = 0 := by rw [sizeT, if_neg h0, if_neg (by rintro (h | h); omega; cases h)]
        rw [hl] at HC
        rw [hv]
        clear hv hs hl
        go_enter Tryz.func195, Tryz.ntmps195
        go_wp2_with fail
        refine HC.out.mono ?_
        rintro e w1 ⟨rfl, hb1⟩
        go_wp2_with fail
        go_ret
        exact ⟨rfl, hb1⟩

set_option maxRecDepth 100000 in
set_option maxHeartbeats 1000000 in
theorem idxLongS_any (a : Option Addr) (cap : Nat) (ts : List (Int × ByteArray)) (w : World) (hs : ScoresAt w a ts) (hn : ts.length ≤ 1000000) :
    Calls Tryz.prog 150 #[.slice a ts.length cap, .func (.func 199) #[] #[]] w fun e w' => (∃ n : Int, e = .returned (.int .i64 n) ∧ (decide (0 ≤ n) = ts.any longS)) ∧ Below w.heap.size w w' := by
  have HS := hide hs
  clear hs
  go_enter Tryz.func150, Tryz.ntmps150
  go_wp2_with fail
  go_loopw [8] (fun i wr => ∃ k : Nat, k ≤ ts.length ∧ i = .int .i64 k ∧ Below w.heap.size w wr ∧ Hid ((ts.take k).any longS = false)) (fun i _ => ts.length - (intOf i).toNat)
  case atStart => exact ⟨0, Nat.zero_le _, rfl, Below.refl _ _, by simp [Hid]⟩
  case round =>
    obtain ⟨k, hk, rfl, hb, HA⟩ := hrel
    by_cases hlt : k < ts.length
    · obtain ⟨g, o, rfl, hcs⟩ : ∃ g o, a = some ⟨g, o, none⟩ ∧ ∀ i (h : i < ts.length), w.cell? ⟨g, o + i * 2, none⟩ = some (.int .i64 ts[i].1) ∧ w.cell? ⟨g, o + i * 2 + 1, none⟩ = some (.string ts[i].2) := by
        rcases HS.out with h | h
        · subst h; simp at hlt
        · exact h
      have HB : Hid (∀ g o v, w.cell? ⟨g, o, none⟩ = some v → wr.cell? ⟨g, o, none⟩ = some v) := fun g o _ hv => (hb.cell (p := ⟨g, o, none⟩) (World.block_lt_of_cell? _ _ hv)).trans hv
      have d0 : wr.cell? ⟨g, o + k * 2, none⟩ = some (.int .i64 ts[k].1) := HB.out _ _ _ ((hcs k hlt).1)
      have d1 : wr.cell? ⟨g, o + k * 2 + 1, none⟩ = some (.string ts[k].2) := HB.out _ _ _ ((hcs k hlt).2)
      have HT : Hid ((ts.take (k + 1)).any longS = ((ts.take k).any longS || longS ts[k])) := by
        rw [Hid, List.take_succ_eq_append_getElem hlt, List.any_append]
        simp
      have HF : Hid (longS ts[k] = true → ts.any longS = true) := fun hx => List.any_eq_true.mpr ⟨ts[k], List.getElem_mem hlt, hx⟩
      clear hcs HS HB
      go_wp2_with fail
      refine (longS_any ts[k] wr).mono ?_
      rintro e w1 ⟨rfl, hb1⟩
      have hb2 : Below w.heap.size w w1 := hb.trans (hb1.mono hb.size)
      cases hx : longS ts[k] with
      | true =>
        have HY := hide (HF.out hx)
        clear HF HT hx
        go_wp2_with fail
        go_ret
        exact ⟨⟨_, rfl, by rw [HY.out]; simp⟩, hb2⟩
      | false =>
        have HY : Hid ((ts.take (k + 1)).any longS = false) := by rw [Hid, HT.out, HA.out, hx]; rfl
        clear HF HT hx
        go_wp2_with fail
        go_roundw
        case rel => exact ⟨k + 1, by omega, by go_num, hb2, HY⟩
        case measure => simp [intOf]; omega
    · have hkk : k = ts.length := by omega
      subst hkk
      have HY : Hid (ts.any longS = false) := by have := HA.out; rw [List.take_length] at this; exact this
      go_wp2_with fail
      go_ret
      exact ⟨⟨-1, rfl, by rw [HY.out]; rfl⟩, hb⟩
theorem containsLongS_any (a : Option Addr) (cap : Nat) (ts : List (Int × ByteArray)) (w : World) (hs : ScoresAt w a ts) (hn : ts.length ≤ 1000000) :
    Calls Tryz.prog 200 #[.slice a ts.length cap, .func (.func 199) #[] #[]] w fun e w' => e = .returned (.bool (ts.any longS)) ∧ Below w.heap.size w w' := by
  have HI := hide (idxLongS_any a cap ts w hs hn)
  clear hs
  go_enter Tryz.func200, Tryz.ntmps200
  go_wp2_with fail
  refine HI.out.mono ?_
  rintro e w1 ⟨⟨n, rfl, hd⟩, hb⟩
  have HD := hide hd
  clear hd
  go_wp2_with fail
  go_ret
  exact ⟨by rw [← HD.out]; rfl, hb⟩

theorem checkSizeS_any (a : Option Addr) (cap : Nat) (ts : List (Int × ByteArray)) (w : World) (hs : ScoresAt w a ts) :
    Calls Tryz.prog 198 #[.slice a ts.length cap, .func (.func 199) #[] #[]] w fun e w' => e = .returned (.int .i64 (sizeT ts.length (ts.any longS))) ∧ Below w.heap.size w w' := by
  by_cases h0 : ts.length = 0
  · have hv : sizeT ts.length (ts.any longS) = 5 := by rw [sizeT, if_pos h0]
    rw [hv]
    clear hv
    go_enter Tryz.func198, Tryz.ntmps198
    go_wp2_with fail
    go_ret
    exact ⟨rfl, Below.refl _ _⟩
  · have h0b : ((ts.length : Int) == 0) = false := by rw [beq_eq_false_iff_ne]; omega
    by_cases h24 : 24 < ts.length
    · have hv : sizeT ts.length (ts.any longS) = 2 := by rw [sizeT, if_neg h0, if_pos (.inl h24)]
      have h24' : (24 : Int) < ((ts.length : Nat) : Int) := by omega
      rw [hv]
      clear hv
      go_enter Tryz.func198, Tryz.ntmps198
      go_wp2_with fail
      go_ret
      exact ⟨rfl, Below.refl _ _⟩
    · have h24' : ¬ (24 : Int) < ((ts.length : Nat) : Int) := by omega
      have HC := hide (containsLongS_any a cap ts w hs (by omega))
      cases hl : ts.any longS with
      | true =>
        have hv : sizeT ts.length true = 2 := by rw [sizeT, if_neg h0, if_pos (.inr rfl)]
        rw [hl] at HC
        rw [hv]
        clear hv hs hl
        go_enter Tryz.func198, Tryz.ntmps198
        go_wp2_with fail
        refine HC.out.mono ?_
        rintro e w1 ⟨rfl, hb1⟩
        go_wp2_with fail
        go_ret
        exact ⟨rfl, hb1⟩
      | false =>
        have hv : sizeT ts.length false = 0 := by rw [sizeT, if_neg h0, if_neg (by rintro (h | h); omega; cases h)]
        rw [hl] at HC
        rw [hv]
        clear hv hs hl
        go_enter Tryz.func198, Tryz.ntmps198
        go_wp2_with fail
        refine HC.out.mono ?_
        rintro e w1 ⟨rfl, hb1⟩
        go_wp2_with fail
        go_ret
        exact ⟨rfl, hb1⟩

set_option maxRecDepth 100000 in
set_option maxHeartbeats 1000000 in
theorem idxOutS_any (a : Option Addr) (cap : Nat) (ts : List (Int × ByteArray)) (w : World) (hs : ScoresAt w a ts) (hn : ts.length ≤ 1000000) :
    Calls Tryz.prog 150 #[.slice a ts.length cap, .func (.func 201) #[] #[]] w fun e w' => (∃ n : Int, e = .returned (.int .i64 n) ∧ (decide (0 ≤ n) = ts.any outS)) ∧ Below w.heap.size w w' := by
  have HS := hide hs
  clear hs
  go_enter Tryz.func150, Tryz.ntmps150
  go_wp2_with fail
  go_loopw [8] (fun i wr => ∃ k : Nat, k ≤ ts.length ∧ i = .int .i64 k ∧ Below w.heap.size w wr ∧ Hid ((ts.take k).any outS = false)) (fun i _ => ts.length - (intOf i).toNat)
  case atStart => exact ⟨0, Nat.zero_le _, rfl, Below.refl _ _, by simp [Hid]⟩
  case round =>
    obtain ⟨k, hk, rfl, hb, HA⟩ := hrel
    by_cases hlt : k < ts.length
    · obtain ⟨g, o, rfl, hcs⟩ : ∃ g o, a = some ⟨g, o, none⟩ ∧ ∀ i (h : i < ts.length), w.cell? ⟨g, o + i * 2, none⟩ = some (.int .i64 ts[i].1) ∧ w.cell? ⟨g, o + i * 2 + 1, none⟩ = some (.string ts[i].2) := by
        rcases HS.out with h | h
        · subst h; simp at hlt
        · exact h
      have HB : Hid (∀ g o v, w.cell? ⟨g, o, none⟩ = some v → wr.cell? ⟨g, o, none⟩ = some v) := fun g o _ hv => (hb.cell (p := ⟨g, o, none⟩) (World.block_lt_of_cell? _ _ hv)).trans hv
      have d0 : wr.cell? ⟨g, o + k * 2, none⟩ = some (.int .i64 ts[k].1) := HB.out _ _ _ ((hcs k hlt).1)
      have d1 : wr.cell? ⟨g, o + k * 2 + 1, none⟩ = some (.string ts[k].2) := HB.out _ _ _ ((hcs k hlt).2)
      have HT : Hid ((ts.take (k + 1)).any outS = ((ts.take k).any outS || outS ts[k])) := by
        rw [Hid, List.take_succ_eq_append_getElem hlt, List.any_append]
        simp
      have HF : Hid (outS ts[k] = true → ts.any outS = true) := fun hx => List.any_eq_true.mpr ⟨ts[k], List.getElem_mem hlt, hx⟩
      clear hcs HS HB
      go_wp2_with fail
      refine (outS_any ts[k] wr).mono ?_
      rintro e w1 ⟨rfl, hb1⟩
      have hb2 : Below w.heap.size w w1 := hb.trans (hb1.mono hb.size)
      cases hx : outS ts[k] with
      | true =>
        have HY := hide (HF.out hx)
        clear HF HT hx
        go_wp2_with fail
        go_ret
        exact ⟨⟨_, rfl, by rw [HY.out]; simp⟩, hb2⟩
      | false =>
        have HY : Hid ((ts.take (k + 1)).any outS = false) := by rw [Hid, HT.out, HA.out, hx]; rfl
        clear HF HT hx
        go_wp2_with fail
        go_roundw
        case rel => exact ⟨k + 1, by omega, by go_num, hb2, HY⟩
        case measure => simp [intOf]; omega
    · have hkk : k = ts.length := by omega
      subst hkk
      have HY : Hid (ts.any outS = false) := by have := HA.out; rw [List.take_length] at this; exact this
      go_wp2_with fail
      go_ret
      exact ⟨⟨-1, rfl, by rw [HY.out]; rfl⟩, hb⟩
theorem containsOutS_any (a : Option Addr) (cap : Nat) (ts : List (Int × ByteArray)) (w : World) (hs : ScoresAt w a ts) (hn : ts.length ≤ 1000000) :
    Calls Tryz.prog 200 #[.slice a ts.length cap, .func (.func 201) #[] #[]] w fun e w' => e = .returned (.bool (ts.any outS)) ∧ Below w.heap.size w w' := by
  have HI := hide (idxOutS_any a cap ts w hs hn)
  clear hs
  go_enter Tryz.func200, Tryz.ntmps200
  go_wp2_with fail
  refine HI.out.mono ?_
  rintro e w1 ⟨⟨n, rfl, hd⟩, hb⟩
  have HD := hide hd
  clear hd
  go_wp2_with fail
  go_ret
  exact ⟨by rw [← HD.out]; rfl, hb⟩
end Go.Proofs.YtcidoodaiimhfaaGreat

/- WALK of the order of texts. -/
namespace Go.Proofs.YtcidoodaiimhfaaGreat
open Go.RowKit

set_option maxRecDepth 100000 in
theorem cmpString_any (a b : ByteArray) (w : World) :
    Calls Tryz.prog 185 #[.string a, .string b] w fun e w' => e = .returned (.int .i64 (Lib.compareBytes a.data.toList b.data.toList)) ∧ w' = w := by
  go_enter Tryz.func185, Tryz.ntmps185
  go_wp2
  rw [run_callFunc_extern Tryz.func227 (by kernel_rfl) (by kernel_rfl) (by kernel_rfl) (e := Extern.BytealgCompare.compare) (by kernel_rfl), Lib.run_compareString]
  simp only [Result.andThen]
  rw [Oper.upon_value]
  go_wp2
  go_ret
  exact ⟨rfl, rfl⟩
theorem compare_any (a b : ByteArray) (w : World) :
    Calls Tryz.prog 133 #[.string a, .string b] w fun e w' => e = .returned (.int .i64 (Lib.compareBytes a.data.toList b.data.toList)) ∧ w' = w := by
  have HC := hide (cmpString_any a b w)
  generalize Lib.compareBytes a.data.toList b.data.toList = R at *
  go_enter Tryz.func133, Tryz.ntmps133
  go_wp2_with fail
  refine HC.out.mono ?_
  rintro e w1 ⟨rfl, rfl⟩
  go_wp2_with fail
  go_ret
  exact ⟨rfl, rfl⟩
end Go.Proofs.YtcidoodaiimhfaaGreat

/- WALK of whether texts rise. -/
namespace Go.Proofs.YtcidoodaiimhfaaGreat
open Go.RowKit

theorem compare_below (a b : ByteArray) (w : World) : Calls Tryz.prog 133 #[.string a, .string b] w fun e w' => e = .returned (.int .i64 (cmpT a b)) ∧ Below w.heap.size w w' :=
  (compare_any a b w).mono fun _ _ ⟨h1, h2⟩ => ⟨h1, by subst h2; exact Below.refl _ _⟩

set_option maxRecDepth 100000 in
set_option maxHeartbeats 1000000 in
theorem riseT_any (a : Option Addr) (cap : Nat) (ts : List ByteArray) (w : World) (hs : TextsAt w a ts) (hn : ts.length ≤ 1000000) :
    Calls Tryz.prog 193 #[.slice a ts.length cap, .func (.func 133) #[] #[]] w fun e w' => e = .returned (.bool (riseTo cmpT ts ts.length)) ∧ Below w.heap.size w w' := by
  have HS := hide hs
  clear hs
  go_enter Tryz.func193, Tryz.ntmps193
  go_wp2_with fail
  go_loopw [5] (fun vi wr => ∃ (k : Nat), 1 ≤ k ∧ (k ≤ ts.length ∨ k = 1) ∧ vi = .int .i64 k ∧ Below w.heap.size w wr ∧ Hid (riseTo cmpT ts k = true)) (fun vi _ => ts.length + 1 - (intOf vi).toNat)
  case atStart => exact ⟨1, Nat.le_refl _, .inr rfl, rfl, Below.refl _ _, rfl⟩
  case round =>
    obtain ⟨k, hk1, hk, rfl, hb, HA⟩ := hrel
    by_cases hlt : k < ts.length
    · obtain ⟨g, o, rfl, hcs⟩ : ∃ g o, a = some ⟨g, o, none⟩ ∧ ∀ i (h : i < ts.length), w.cell? ⟨g, o + i, none⟩ = some (.string ts[i]) := by
        rcases HS.out with h | h
        · subst h; simp at hlt
        · exact h
      obtain ⟨m, rfl⟩ : ∃ m, k = m + 1 := ⟨k - 1, by omega⟩
      have HB : Hid (∀ g o v, w.cell? ⟨g, o, none⟩ = some v → wr.cell? ⟨g, o, none⟩ = some v) := fun g o _ hv => (hb.cell (p := ⟨g, o, none⟩) (World.block_lt_of_cell? _ _ hv)).trans hv
      have d0 : (World.drew wr).cell? ⟨g, o + m, none⟩ = some (.string ts[m]) := HB.out _ _ _ (hcs m (by omega))
      have e0 : (World.drew wr).cell? ⟨g, o + (m + 1), none⟩ = some (.string ts[m + 1]) := HB.out _ _ _ (hcs (m + 1) hlt)
      have p0 : wr.cell? ⟨g, o + m, none⟩ = some (.string ts[m]) := HB.out _ _ _ (hcs m (by omega))
      have q0 : wr.cell? ⟨g, o + (m + 1), none⟩ = some (.string ts[m + 1]) := HB.out _ _ _ (hcs (m + 1) hlt)
      have hmm : IntKind.i64.wrap ((m : Nat) : Int) = ((m : Nat) : Int) := by rw [IntKind.wrap_i64]; omega
      have hm' : m < ts.length := by omega
      have hm2 : ((m : Nat) : Int) < ((ts.length : Nat) : Int) := by omega
      have hm4 : (0 : Int) ≤ ((m : Nat) : Int) + 1 := by omega
      have hm5 : (((m : Nat) : Int) + 1).toNat = m + 1 := by omega
      have hm3 : ((m : Nat) : Int) + 1 < ((ts.length : Nat) : Int) := by omega
      have HT : Hid (riseTo cmpT ts (m + 1 + 1) = decide (cmpT ts[m] ts[m + 1] < 0)) := by
        rw [Hid, riseTo_succ cmpT ts (m + 1) (by omega), HA.out, Bool.true_and, show m + 1 - 1 = m by omega, getElem!_pos ts m (by omega), getElem!_pos ts (m + 1) hlt]
      have HC : Hid (∀ W, Calls Tryz.prog 133 #[.string ts[m], .string ts[m + 1]] W fun e w' => e = .returned (.int .i64 (cmpT ts[m] ts[m + 1])) ∧ Below W.heap.size W w') := fun W => compare_below _ _ W
      generalize cmpT ts[m] ts[m + 1] = C at *
      clear hcs HS HB
      by_cases hC : C < 0
      · have hC' : ¬ (0 : Int) ≤ C := by omega
        have HY : Hid (riseTo cmpT ts (m + 1 + 1) = true) := by rw [Hid, HT.out]; exact decide_eq_true hC
        go_wp2_with fail
        refine wp_region_any (by kernel_rfl) ?_
        change wpAny _ _ _ _ _ _ _ (World.drew _)
        refine wpAny_take (i := 0) (v := .func (.func 133) #[] #[]) rfl (by kernel_rfl) (by kernel_rfl) (by kernel_rfl) (fun _ _ _ h => h) (Or.inl ⟨by rfl, by intro w; go_simp⟩) ?_
        refine wpAny_take (i := 1) (v := .slice (some ⟨g, o, none⟩) ts.length cap) rfl (by kernel_rfl) (by kernel_rfl) (by kernel_rfl) (fun _ _ _ h => h) (Or.inl ⟨by rfl, by intro w; go_simp⟩) ?_
        refine wpAny_take (i := 2) (v := .int .i64 (((m : Nat) : Int) + 1)) rfl (by kernel_rfl) (by kernel_rfl) (by kernel_rfl) (fun _ _ _ h => h) (Or.inl ⟨by rfl, by intro w; go_simp⟩) ?_
        refine wpAny_take (i := 3) (v := .int .i64 ((m : Nat) : Int)) rfl (by kernel_rfl) (by kernel_rfl) (by kernel_rfl) (fun _ _ _ h => h) (Or.inl ⟨by rfl, by intro w; go_simp⟩) ?_
        refine wpAny_take (i := 4) (v := .pointer (some ⟨g, o + m, none⟩)) rfl (by kernel_rfl) (by kernel_rfl) (by kernel_rfl) (fun _ _ _ h => h) (Or.inl ⟨by rfl, by intro w; go_simp⟩) ?_
        refine wpAny_take (i := 6) (v := .slice (some ⟨g, o, none⟩) ts.length cap) rfl (by kernel_rfl) (by kernel_rfl) (by kernel_rfl) (fun _ _ _ h => h) (Or.inl ⟨by rfl, by intro w; go_simp⟩) ?_
        refine wpAny_take (i := 7) (v := .int .i64 (((m : Nat) : Int) + 1)) rfl (by kernel_rfl) (by kernel_rfl) (by kernel_rfl) (fun _ _ _ h => h) (Or.inl ⟨by rfl, by intro w; go_simp⟩) ?_
        refine wpAny_take (i := 8) (v := .pointer (some ⟨g, o + (m + 1), none⟩)) rfl (by kernel_rfl) (by kernel_rfl) (by kernel_rfl) (fun _ _ _ h => h) (Or.inl ⟨by rfl, by intro w; go_simp⟩) ?_
        refine wpAny_ready (rs := [5, 9]) (by kernel_rfl) (by simp) ?_
        refine AllReady.cons rfl (fun K hK => ?_) ?_
        · go_simp
          refine hK _ _ ?_
          clear hK K
          refine wpAny_ready (rs := [9]) (by kernel_rfl) (by simp) ?_
          refine AllReady.cons rfl (fun K hK => ?_) AllReady.nil
          go_simp
          refine hK _ _ ?_
          clear hK K
          refine wpAny_ready (rs := [10]) (by kernel_rfl) (by simp) ?_
          refine AllReady.cons rfl (fun K hK => ?_) AllReady.nil
          go_simp
          refine (HC.out _).mono ?_
          rintro e w1 ⟨rfl, hb1⟩
          have hb2 : Below w.heap.size w w1 := (hb.drew).trans (hb1.mono hb.size)
          clear hb1
          refine hK _ _ ?_
          clear hK K
          refine wpAny_take (i := 11) (v := .bool false) rfl (by kernel_rfl) (by kernel_rfl) (by kernel_rfl) (fun _ _ _ h => h) (Or.inl ⟨by rfl, by intro w; go_simp⟩) ?_
          refine wpAny_done (by kernel_rfl) ?_ _
          go_wp2_with fail
          go_roundw
          case rel => exact ⟨m + 1 + 1, by omega, .inl (by omega), by go_num, hb2, HY⟩
          case measure => simp only [intOf]; omega
        · refine AllReady.cons rfl (fun K hK => ?_) AllReady.nil
          go_simp
          refine hK _ _ ?_
          clear hK K
          refine wpAny_ready (rs := [5]) (by kernel_rfl) (by simp) ?_
          refine AllReady.cons rfl (fun K hK => ?_) AllReady.nil
          go_simp
          refine hK _ _ ?_
          clear hK K
          refine wpAny_ready (rs := [10]) (by kernel_rfl) (by simp) ?_
          refine AllReady.cons rfl (fun K hK => ?_) AllReady.nil
          go_simp
          refine (HC.out _).mono ?_
          rintro e w1 ⟨rfl, hb1⟩
          have hb2 : Below w.heap.size w w1 := (hb.drew).trans (hb1.mono hb.size)
          clear hb1
          refine hK _ _ ?_
          clear hK K
          refine wpAny_take (i := 11) (v := .bool false) rfl (by kernel_rfl) (by kernel_rfl) (by kernel_rfl) (fun _ _ _ h => h) (Or.inl ⟨by rfl, by intro w; go_simp⟩) ?_
          refine wpAny_done (by kernel_rfl) ?_ _
          go_wp2_with fail
          go_roundw
          case rel => exact ⟨m + 1 + 1, by omega, .inl (by omega), by go_num, hb2, HY⟩
          case measure => simp only [intOf]; omega
      · have hC' : (0 : Int) ≤ C := by omega
        have HY : Hid (riseTo cmpT ts ts.length = false) := riseTo_false (k := m + 1 + 1) (by rw [HT.out]; exact decide_eq_false hC) (by omega)
        go_wp2_with fail
        refine wp_region_any (by kernel_rfl) ?_
        change wpAny _ _ _ _ _ _ _ (World.drew _)
        refine wpAny_take (i := 0) (v := .func (.func 133) #[] #[]) rfl (by kernel_rfl) (by kernel_rfl) (by kernel_rfl) (fun _ _ _ h => h) (Or.inl ⟨by rfl, by intro w; go_simp⟩) ?_
        refine wpAny_take (i := 1) (v := .slice (some ⟨g, o, none⟩) ts.length cap) rfl (by kernel_rfl) (by kernel_rfl) (by kernel_rfl) (fun _ _ _ h => h) (Or.inl ⟨by rfl, by intro w; go_simp⟩) ?_
        refine wpAny_take (i := 2) (v := .int .i64 (((m : Nat) : Int) + 1)) rfl (by kernel_rfl) (by kernel_rfl) (by kernel_rfl) (fun _ _ _ h => h) (Or.inl ⟨by rfl, by intro w; go_simp⟩) ?_
        refine wpAny_take (i := 3) (v := .int .i64 ((m : Nat) : Int)) rfl (by kernel_rfl) (by kernel_rfl) (by kernel_rfl) (fun _ _ _ h => h) (Or.inl ⟨by rfl, by intro w; go_simp⟩) ?_
        refine wpAny_take (i := 4) (v := .pointer (some ⟨g, o + m, none⟩)) rfl (by kernel_rfl) (by kernel_rfl) (by kernel_rfl) (fun _ _ _ h => h) (Or.inl ⟨by rfl, by intro w; go_simp⟩) ?_
        refine wpAny_take (i := 6) (v := .slice (some ⟨g, o, none⟩) ts.length cap) rfl (by kernel_rfl) (by kernel_rfl) (by kernel_rfl) (fun _ _ _ h => h) (Or.inl ⟨by rfl, by intro w; go_simp⟩) ?_
        refine wpAny_take (i := 7) (v := .int .i64 (((m : Nat) : Int) + 1)) rfl (by kernel_rfl) (by kernel_rfl) (by kernel_rfl) (fun _ _ _ h => h) (Or.inl ⟨by rfl, by intro w; go_simp⟩) ?_
        refine wpAny_take (i := 8) (v := .pointer (some ⟨g, o + (m + 1), none⟩)) rfl (by kernel_rfl) (by kernel_rfl) (by kernel_rfl) (fun _ _ _ h => h) (Or.inl ⟨by rfl, by intro w; go_simp⟩) ?_
        refine wpAny_ready (rs := [5, 9]) (by kernel_rfl) (by simp) ?_
        refine AllReady.cons rfl (fun K hK => ?_) ?_
        · go_simp
          refine hK _ _ ?_
          clear hK K
          refine wpAny_ready (rs := [9]) (by kernel_rfl) (by simp) ?_
          refine AllReady.cons rfl (fun K hK => ?_) AllReady.nil
          go_simp
          refine hK _ _ ?_
          clear hK K
          refine wpAny_ready (rs := [10]) (by kernel_rfl) (by simp) ?_
          refine AllReady.cons rfl (fun K hK => ?_) AllReady.nil
          go_simp
          refine (HC.out _).mono ?_
          rintro e w1 ⟨rfl, hb1⟩
          have hb2 : Below w.heap.size w w1 := (hb.drew).trans (hb1.mono hb.size)
          clear hb1
          refine hK _ _ ?_
          clear hK K
          refine wpAny_take (i := 11) (v := .bool true) rfl (by kernel_rfl) (by kernel_rfl) (by kernel_rfl) (fun _ _ _ h => h) (Or.inl ⟨by rfl, by intro w; go_simp⟩) ?_
          refine wpAny_done (by kernel_rfl) ?_ _
          go_wp2_with fail
          go_ret
          rw [HY.out]
          exact ⟨rfl, hb2⟩
        · refine AllReady.cons rfl (fun K hK => ?_) AllReady.nil
          go_simp
          refine hK _ _ ?_
          clear hK K
          refine wpAny_ready (rs := [5]) (by kernel_rfl) (by simp) ?_
          refine AllReady.cons rfl (fun K hK => ?_) AllReady.nil
          go_simp
          refine hK _ _ ?_
          clear hK K
          refine wpAny_ready (rs := [10]) (by kernel_rfl) (by simp) ?_
          refine AllReady.cons rfl (fun K hK => ?_) AllReady.nil
          go_simp
          refine (HC.out _).mono ?_
          rintro e w1 ⟨rfl, hb1⟩
          have hb2 : Below w.heap.size w w1 := (hb.drew).trans (hb1.mono hb.size)
          clear hb1
          refine hK _ _ ?_
          clear hK K
          refine wpAny_take (i := 11) (v := .bool true) rfl (by kernel_rfl) (by kernel_rfl) (by kernel_rfl) (fun _ _ _ h => h) (Or.inl ⟨by rfl, by intro w; go_simp⟩) ?_
          refine wpAny_done (by kernel_rfl) ?_ _
          go_wp2_with fail
          go_ret
          rw [HY.out]
          exact ⟨rfl, hb2⟩
    · have hge : ¬ ((k : Nat) : Int) < ((ts.length : Nat) : Int) := by omega
      have HY : Hid (riseTo cmpT ts ts.length = true) := by
        rcases hk with hk | hk
        · have : k = ts.length := by omega
          rw [← this]; exact HA.out
        · unfold riseTo
          rw [show ts.length - 1 = 0 by omega]
          rfl
      go_wp2_with fail
      go_ret
      rw [HY.out]
      exact ⟨rfl, hb⟩
end Go.Proofs.YtcidoodaiimhfaaGreat

/- WALK of whether pairs and scores rise. -/
namespace Go.Proofs.YtcidoodaiimhfaaGreat
open Go.RowKit

theorem cmpP_any (x y : ByteArray × ByteArray) (w : World) : Calls Tryz.prog 197 #[.agg #[.string x.1, .string x.2], .agg #[.string y.1, .string y.2]] w fun e w' => e = .returned (.int .i64 (cmpP x y)) ∧ Below w.heap.size w w' := by
  obtain ⟨x1, x2⟩ := x
  obtain ⟨y1, y2⟩ := y
  have hv : cmpP (x1, x2) (y1, y2) = cmpT x1 y1 := rfl
  rw [hv]
  clear hv
  go_enter Tryz.func197, Tryz.ntmps197
  go_wp2_with fail
  refine (compare_any x1 y1 _).mono ?_
  rintro e w1 ⟨rfl, rfl⟩
  go_wp2_with fail
  go_ret
  exact ⟨rfl, ((Below.refl _ _).alloc (Nat.le_refl _) _).alloc (by simp) _⟩

set_option maxRecDepth 100000 in
set_option maxHeartbeats 1000000 in
theorem riseP_any (a : Option Addr) (cap : Nat) (ts : List (ByteArray × ByteArray)) (w : World) (hs : PairsAt w a ts) (hn : ts.length ≤ 1000000) :
    Calls Tryz.prog 196 #[.slice a ts.length cap, .func (.func 197) #[] #[]] w fun e w' => e = .returned (.bool (riseTo cmpP ts ts.length)) ∧ Below w.heap.size w w' := by
  have HS := hide hs
  clear hs
  go_enter Tryz.func196, Tryz.ntmps196
  go_wp2_with fail
  go_loopw [5] (fun vi wr => ∃ (k : Nat), 1 ≤ k ∧ (k ≤ ts.length ∨ k = 1) ∧ vi = .int .i64 k ∧ Below w.heap.size w wr ∧ Hid (riseTo cmpP ts k = true)) (fun vi _ => ts.length + 1 - (intOf vi).toNat)
  case atStart => exact ⟨1, Nat.le_refl _, .inr rfl, rfl, Below.refl _ _, rfl⟩
  case round =>
    obtain ⟨k, hk1, hk, rfl, hb, HA⟩ := hrel
    by_cases hlt : k < ts.length
    · obtain ⟨g, o, rfl, hcs⟩ : ∃ g o, a = some ⟨g, o, none⟩ ∧ ∀ i (h : i < ts.length), w.cell? ⟨g, o + i * 2, none⟩ = some (.string ts[i].1) ∧ w.cell? ⟨g, o + i * 2 + 1, none⟩ = some (.string ts[i].2) := by
        rcases HS.out with h | h
        · subst h; simp at hlt
        · exact h
      obtain ⟨m, rfl⟩ : ∃ m, k = m + 1 := ⟨k - 1, by omega⟩
      have HB : Hid (∀ g o v, w.cell? ⟨g, o, none⟩ = some v → wr.cell? ⟨g, o, none⟩ = some v) := fun g o _ hv => (hb.cell (p := ⟨g, o, none⟩) (World.block_lt_of_cell? _ _ hv)).trans hv
      have d0 : (World.drew wr).cell? ⟨g, o + m * 2, none⟩ = some (.string ts[m].1) := HB.out _ _ _ ((hcs m (by omega)).1)
      have d1 : (World.drew wr).cell? ⟨g, o + m * 2 + 1, none⟩ = some (.string ts[m].2) := HB.out _ _ _ ((hcs m (by omega)).2)
      have e0 : (World.drew wr).cell? ⟨g, o + (m + 1) * 2, none⟩ = some (.string ts[m + 1].1) := HB.out _ _ _ ((hcs (m + 1) hlt).1)
      have e1 : (World.drew wr).cell? ⟨g, o + (m + 1) * 2 + 1, none⟩ = some (.string ts[m + 1].2) := HB.out _ _ _ ((hcs (m + 1) hlt).2)
      have p0 : wr.cell? ⟨g, o + m * 2, none⟩ = some (.string ts[m].1) := HB.out _ _ _ ((hcs m (by omega)).1)
      have p1 : wr.cell? ⟨g, o + m * 2 + 1, none⟩ = some (.string ts[m].2) := HB.out _ _ _ ((hcs m (by omega)).2)
      have q0 : wr.cell? ⟨g, o + (m + 1) * 2, none⟩ = some (.string ts[m + 1].1) := HB.out _ _ _ ((hcs (m + 1) hlt).1)
      have q1 : wr.cell? ⟨g, o + (m + 1) * 2 + 1, none⟩ = some (.string ts[m + 1].2) := HB.out _ _ _ ((hcs (m + 1) hlt).2)
      have hmm : IntKind.i64.wrap ((m : Nat) : Int) = ((m : Nat) : Int) := by rw [IntKind.wrap_i64]; omega
      have hm' : m < ts.length := by omega
      have hm2 : ((m : Nat) : Int) < ((ts.length : Nat) : Int) := by omega
      have hm4 : (0 : Int) ≤ ((m : Nat) : Int) + 1 := by omega
      have hm5 : (((m : Nat) : Int) + 1).toNat = m + 1 := by omega
      have hm3 : ((m : Nat) : Int) + 1 < ((ts.length : Nat) : Int) := by omega
      have HT : Hid (riseTo cmpP ts (m + 1 + 1) = decide (cmpP ts[m] ts[m + 1] < 0)) := by
        rw [Hid, riseTo_succ cmpP ts (m + 1) (by omega), HA.out, Bool.true_and, show m + 1 - 1 = m by omega, getElem!_pos ts m (by omega), getElem!_pos ts (m + 1) hlt]
      have HC : Hid (∀ W, Calls Tryz.prog 197 #[.agg #[.string ts[m].1, .string ts[m].2], .agg #[.string ts[m + 1].1, .string ts[m + 1].2]] W fun e w' => e = .returned (.int .i64 (cmpP ts[m] ts[m + 1])) ∧ Below W.heap.size W w') := fun W => cmpP_any _ _ W
      generalize cmpP ts[m] ts[m + 1] = C at *
      clear hcs HS HB
      by_cases hC : C < 0
      · have hC' : ¬ (0 : Int) ≤ C := by omega
        have HY : Hid (riseTo cmpP ts (m + 1 + 1) = true) := by rw [Hid, HT.out]; exact decide_eq_true hC
        go_wp2_with fail
        refine wp_region_any (by kernel_rfl) ?_
        change wpAny _ _ _ _ _ _ _ (World.drew _)
        refine wpAny_take (i := 0) (v := .func (.func 197) #[] #[]) rfl (by kernel_rfl) (by kernel_rfl) (by kernel_rfl) (fun _ _ _ h => h) (Or.inl ⟨by rfl, by intro w; go_simp⟩) ?_
        refine wpAny_take (i := 1) (v := .slice (some ⟨g, o, none⟩) ts.length cap) rfl (by kernel_rfl) (by kernel_rfl) (by kernel_rfl) (fun _ _ _ h => h) (Or.inl ⟨by rfl, by intro w; go_simp⟩) ?_
        refine wpAny_take (i := 2) (v := .int .i64 (((m : Nat) : Int) + 1)) rfl (by kernel_rfl) (by kernel_rfl) (by kernel_rfl) (fun _ _ _ h => h) (Or.inl ⟨by rfl, by intro w; go_simp⟩) ?_
        refine wpAny_take (i := 3) (v := .int .i64 ((m : Nat) : Int)) rfl (by kernel_rfl) (by kernel_rfl) (by kernel_rfl) (fun _ _ _ h => h) (Or.inl ⟨by rfl, by intro w; go_simp⟩) ?_
        refine wpAny_take (i := 4) (v := .pointer (some ⟨g, o + m * 2, none⟩)) rfl (by kernel_rfl) (by kernel_rfl) (by kernel_rfl) (fun _ _ _ h => h) (Or.inl ⟨by rfl, by intro w; go_simp⟩) ?_
        refine wpAny_take (i := 6) (v := .slice (some ⟨g, o, none⟩) ts.length cap) rfl (by kernel_rfl) (by kernel_rfl) (by kernel_rfl) (fun _ _ _ h => h) (Or.inl ⟨by rfl, by intro w; go_simp⟩) ?_
        refine wpAny_take (i := 7) (v := .int .i64 (((m : Nat) : Int) + 1)) rfl (by kernel_rfl) (by kernel_rfl) (by kernel_rfl) (fun _ _ _ h => h) (Or.inl ⟨by rfl, by intro w; go_simp⟩) ?_
        refine wpAny_take (i := 8) (v := .pointer (some ⟨g, o + (m + 1) * 2, none⟩)) rfl (by kernel_rfl) (by kernel_rfl) (by kernel_rfl) (fun _ _ _ h => h) (Or.inl ⟨by rfl, by intro w; go_simp⟩) ?_
        refine wpAny_ready (rs := [5, 9]) (by kernel_rfl) (by simp) ?_
        refine AllReady.cons rfl (fun K hK => ?_) ?_
        · go_simp
          refine hK _ _ ?_
          clear hK K
          refine wpAny_ready (rs := [9]) (by kernel_rfl) (by simp) ?_
          refine AllReady.cons rfl (fun K hK => ?_) AllReady.nil
          go_simp
          refine hK _ _ ?_
          clear hK K
          refine wpAny_ready (rs := [10]) (by kernel_rfl) (by simp) ?_
          refine AllReady.cons rfl (fun K hK => ?_) AllReady.nil
          go_simp
          refine (HC.out _).mono ?_
          rintro e w1 ⟨rfl, hb1⟩
          have hb2 : Below w.heap.size w w1 := (hb.drew).trans (hb1.mono hb.size)
          clear hb1
          refine hK _ _ ?_
          clear hK K
          refine wpAny_take (i := 11) (v := .bool false) rfl (by kernel_rfl) (by kernel_rfl) (by kernel_rfl) (fun _ _ _ h => h) (Or.inl ⟨by rfl, by intro w; go_simp⟩) ?_
          refine wpAny_done (by kernel_rfl) ?_ _
          go_wp2_with fail
          go_roundw
          case rel => exact ⟨m + 1 + 1, by omega, .inl (by omega), by go_num, hb2, HY⟩
          case measure => simp only [intOf]; omega
        · refine AllReady.cons rfl (fun K hK => ?_) AllReady.nil
          go_simp
          refine hK _ _ ?_
          clear hK K
          refine wpAny_ready (rs := [5]) (by kernel_rfl) (by simp) ?_
          refine AllReady.cons rfl (fun K hK => ?_) AllReady.nil
          go_simp
          refine hK _ _ ?_
          clear hK K
          refine wpAny_ready (rs := [10]) (by kernel_rfl) (by simp) ?_
          refine AllReady.cons rfl (fun K hK => ?_) AllReady.nil
          go_simp
          refine (HC.out _).mono ?_
          rintro e w1 ⟨rfl, hb1⟩
          have hb2 : Below w.heap.size w w1 := (hb.drew).trans (hb1.mono hb.size)
          clear hb1
          refine hK _ _ ?_
          clear hK K
          refine wpAny_take (i := 11) (v := .bool false) rfl (by kernel_rfl) (by kernel_rfl) (by kernel_rfl) (fun _ _ _ h => h) (Or.inl ⟨by rfl, by intro w; go_simp⟩) ?_
          refine wpAny_done (by kernel_rfl) ?_ _
          go_wp2_with fail
          go_roundw
          case rel => exact ⟨m + 1 + 1, by omega, .inl (by omega), by go_num, hb2, HY⟩
          case measure => simp only [intOf]; omega
      · have hC' : (0 : Int) ≤ C := by omega
        have HY : Hid (riseTo cmpP ts ts.length = false) := riseTo_false (k := m + 1 + 1) (by rw [HT.out]; exact decide_eq_false hC) (by omega)
        go_wp2_with fail
        refine wp_region_any (by kernel_rfl) ?_
        change wpAny _ _ _ _ _ _ _ (World.drew _)
        refine wpAny_take (i := 0) (v := .func (.func 197) #[] #[]) rfl (by kernel_rfl) (by kernel_rfl) (by kernel_rfl) (fun _ _ _ h => h) (Or.inl ⟨by rfl, by intro w; go_simp⟩) ?_
        refine wpAny_take (i := 1) (v := .slice (some ⟨g, o, none⟩) ts.length cap) rfl (by kernel_rfl) (by kernel_rfl) (by kernel_rfl) (fun _ _ _ h => h) (Or.inl ⟨by rfl, by intro w; go_simp⟩) ?_
        refine wpAny_take (i := 2) (v := .int .i64 (((m : Nat) : Int) + 1)) rfl (by kernel_rfl) (by kernel_rfl) (by kernel_rfl) (fun _ _ _ h => h) (Or.inl ⟨by rfl, by intro w; go_simp⟩) ?_
        refine wpAny_take (i := 3) (v := .int .i64 ((m : Nat) : Int)) rfl (by kernel_rfl) (by kernel_rfl) (by kernel_rfl) (fun _ _ _ h => h) (Or.inl ⟨by rfl, by intro w; go_simp⟩) ?_
        refine wpAny_take (i := 4) (v := .pointer (some ⟨g, o + m * 2, none⟩)) rfl (by kernel_rfl) (by kernel_rfl) (by kernel_rfl) (fun _ _ _ h => h) (Or.inl ⟨by rfl, by intro w; go_simp⟩) ?_
        refine wpAny_take (i := 6) (v := .slice (some ⟨g, o, none⟩) ts.length cap) rfl (by kernel_rfl) (by kernel_rfl) (by kernel_rfl) (fun _ _ _ h => h) (Or.inl ⟨by rfl, by intro w; go_simp⟩) ?_
        refine wpAny_take (i := 7) (v := .int .i64 (((m : Nat) : Int) + 1)) rfl (by kernel_rfl) (by kernel_rfl) (by kernel_rfl) (fun _ _ _ h => h) (Or.inl ⟨by rfl, by intro w; go_simp⟩) ?_
        refine wpAny_take (i := 8) (v := .pointer (some ⟨g, o + (m + 1) * 2, none⟩)) rfl (by kernel_rfl) (by kernel_rfl) (by kernel_rfl) (fun _ _ _ h => h) (Or.inl ⟨by rfl, by intro w; go_simp⟩) ?_
        refine wpAny_ready (rs := [5, 9]) (by kernel_rfl) (by simp) ?_
        refine AllReady.cons rfl (fun K hK => ?_) ?_
        · go_simp
          refine hK _ _ ?_
          clear hK K
          refine wpAny_ready (rs := [9]) (by kernel_rfl) (by simp) ?_
          refine AllReady.cons rfl (fun K hK => ?_) AllReady.nil
          go_simp
          refine hK _ _ ?_
          clear hK K
          refine wpAny_ready (rs := [10]) (by kernel_rfl) (by simp) ?_
          refine AllReady.cons rfl (fun K hK => ?_) AllReady.nil
          go_simp
          refine (HC.out _).mono ?_
          rintro e w1 ⟨rfl, hb1⟩
          have hb2 : Below w.heap.size w w1 := (hb.drew).trans (hb1.mono hb.size)
          clear hb1
          refine hK _ _ ?_
          clear hK K
          refine wpAny_take (i := 11) (v := .bool true) rfl (by kernel_rfl) (by kernel_rfl) (by kernel_rfl) (fun _ _ _ h => h) (Or.inl ⟨by rfl, by intro w; go_simp⟩) ?_
          refine wpAny_done (by kernel_rfl) ?_ _
          go_wp2_with fail
          go_ret
          rw [HY.out]
          exact ⟨rfl, hb2⟩
        · refine AllReady.cons rfl (fun K hK => ?_) AllReady.nil
          go_simp
          refine hK _ _ ?_
          clear hK K
          refine wpAny_ready (rs := [5]) (by kernel_rfl) (by simp) ?_
          refine AllReady.cons rfl (fun K hK => ?_) AllReady.nil
          go_simp
          refine hK _ _ ?_
          clear hK K
          refine wpAny_ready (rs := [10]) (by kernel_rfl) (by simp) ?_
          refine AllReady.cons rfl (fun K hK => ?_) AllReady.nil
          go_simp
          refine (HC.out _).mono ?_
          rintro e w1 ⟨rfl, hb1⟩
          have hb2 : Below w.heap.size w w1 := (hb.drew).trans (hb1.mono hb.size)
          clear hb1
          refine hK _ _ ?_
          clear hK K
          refine wpAny_take (i := 11) (v := .bool true) rfl (by kernel_rfl) (by kernel_rfl) (by kernel_rfl) (fun _ _ _ h => h) (Or.inl ⟨by rfl, by intro w; go_simp⟩) ?_
          refine wpAny_done (by kernel_rfl) ?_ _
          go_wp2_with fail
          go_ret
          rw [HY.out]
          exact ⟨rfl, hb2⟩
    · have hge : ¬ ((k : Nat) : Int) < ((ts.length : Nat) : Int) := by omega
      have HY : Hid (riseTo cmpP ts ts.length = true) := by
        rcases hk with hk | hk
        · have : k = ts.length := by omega
          rw [← this]; exact HA.out
        · unfold riseTo
          rw [show ts.length - 1 = 0 by omega]
          rfl
      go_wp2_with fail
      go_ret
      rw [HY.out]
      exact ⟨rfl, hb⟩
end Go.Proofs.YtcidoodaiimhfaaGreat

/- WALK of the order of scores. -/
namespace Go.Proofs.YtcidoodaiimhfaaGreat
open Go.RowKit

def cmpN (a b : Int) : Int := if a < b then -1 else if b < a then 1 else 0
def orN (a b : Int) : Int := if a ≠ 0 then a else b
theorem cmpS_or (x y : Int × ByteArray) : orN (cmpN x.1 y.1) (cmpT x.2 y.2) = cmpS x y := by
  unfold orN cmpN cmpS
  by_cases h1 : x.1 < y.1
  · simp [h1]
  · by_cases h2 : y.1 < x.1
    · simp [h1, h2]
    · simp [h1, h2]
theorem isNaN_any (a : Int) (w : World) : Calls Tryz.prog 224 #[.int .i64 a] w fun e w' => e = .returned (.bool false) ∧ w' = w := by
  go_enter Tryz.func224, Tryz.ntmps224
  go_wp2_with fail
  go_ret
  exact ⟨by simp, rfl⟩
set_option maxRecDepth 100000 in
theorem cmpInt_any (a b : Int) (w : World) : Calls Tryz.prog 170 #[.int .i64 a, .int .i64 b] w fun e w' => e = .returned (.int .i64 (cmpN a b)) ∧ w' = w := by
  by_cases h1 : a < b
  · rw [show cmpN a b = -1 by rw [cmpN, if_pos h1]]
    go_enter Tryz.func170, Tryz.ntmps170
    go_wp2_with (go_at_call 224; refine (isNaN_any _ _).mono ?_; rintro e w' ⟨rfl, rfl⟩)
    go_ret
    exact ⟨rfl, rfl⟩
  · by_cases h2 : b < a
    · rw [show cmpN a b = 1 by rw [cmpN, if_neg h1, if_pos h2]]
      go_enter Tryz.func170, Tryz.ntmps170
      go_wp2_with (go_at_call 224; refine (isNaN_any _ _).mono ?_; rintro e w' ⟨rfl, rfl⟩)
      go_ret
      exact ⟨rfl, rfl⟩
    · rw [show cmpN a b = 0 by rw [cmpN, if_neg h1, if_neg h2]]
      go_enter Tryz.func170, Tryz.ntmps170
      go_wp2_with (go_at_call 224; refine (isNaN_any _ _).mono ?_; rintro e w' ⟨rfl, rfl⟩)
      go_ret
      exact ⟨rfl, rfl⟩
set_option maxRecDepth 100000 in
theorem orInt_any (g : Nat) (a b : Int) (w : World) (h0 : w.cell? ⟨g, 0, none⟩ = some (.int .i64 a)) (h1 : w.cell? ⟨g, 1, none⟩ = some (.int .i64 b)) : Calls Tryz.prog 169 #[.slice (some ⟨g, 0, none⟩) 2 2] w fun e w' => e = .returned (.int .i64 (orN a b)) ∧ w' = w := by
  by_cases ha : a = 0
  · subst ha
    rw [show orN 0 b = b by simp [orN]]
    by_cases hb : b = 0
    · subst hb
      go_enter Tryz.func169, Tryz.ntmps169
      go_wp2_with fail
      go_rounds 3
      go_ret
      exact ⟨rfl, rfl⟩
    · have hb' : (b == 0) = false := by rw [beq_eq_false_iff_ne]; exact hb
      go_enter Tryz.func169, Tryz.ntmps169
      go_wp2_with fail
      go_rounds 3
      go_ret
      exact ⟨rfl, rfl⟩
  · rw [show orN a b = a by simp [orN, ha]]
    have ha' : (a == 0) = false := by rw [beq_eq_false_iff_ne]; exact ha
    go_enter Tryz.func169, Tryz.ntmps169
    go_wp2_with fail
    go_rounds 3
    go_ret
    exact ⟨rfl, rfl⟩
set_option maxRecDepth 100000 in
set_option maxHeartbeats 1000000 in
theorem cmpS_any (x y : Int × ByteArray) (w : World) : Calls Tryz.prog 204 #[.agg #[.int .i64 x.1, .string x.2], .agg #[.int .i64 y.1, .string y.2]] w fun e w' => e = .returned (.int .i64 (cmpS x y)) ∧ Below w.heap.size w w' := by
  rw [← cmpS_or]
  obtain ⟨x1, x2⟩ := x
  obtain ⟨y1, y2⟩ := y
  have HA : Hid (∀ W, Calls Tryz.prog 170 #[.int .i64 x1, .int .i64 y1] W fun e w' => e = .returned (.int .i64 (cmpN x1 y1)) ∧ w' = W) := fun W => cmpInt_any _ _ W
  have HT : Hid (∀ W, Calls Tryz.prog 133 #[.string x2, .string y2] W fun e w' => e = .returned (.int .i64 (cmpT x2 y2)) ∧ w' = W) := fun W => compare_any _ _ W
  simp only
  generalize cmpN x1 y1 = C1 at *
  generalize cmpT x2 y2 = C2 at *
  go_enter Tryz.func204, Tryz.ntmps204
  go_wp2_with fail
  go_region_held3 (fun w' => w'.cell? ⟨w.heap.size, 0, none⟩ = some (.int .i64 x1) ∧ w'.cell? ⟨w.heap.size, 1, none⟩ = some (.string x2) ∧ w'.cell? ⟨w.heap.size + 1, 0, none⟩ = some (.int .i64 y1) ∧ w'.cell? ⟨w.heap.size + 1, 1, none⟩ = some (.string y2)) (go_keep)
    ((first | (go_at_call 170; refine (HA.out _).mono ?_; rintro e w2 ⟨rfl, rfl⟩) | (go_at_call 133; refine (HT.out _).mono ?_; rintro e w2 ⟨rfl, rfl⟩) | (go_at_call 169; refine (orInt_any _ C1 C2 _ (by go_simp) (by go_simp)).mono ?_; rintro e w2 ⟨rfl, rfl⟩)))
  all_goals
    go_wp2_with fail
    go_ret
    refine ⟨rfl, ?_⟩
    go_grown
end Go.Proofs.YtcidoodaiimhfaaGreat

/- WALK of whether scores rise. -/
namespace Go.Proofs.YtcidoodaiimhfaaGreat
open Go.RowKit

set_option maxRecDepth 100000 in
set_option maxHeartbeats 1000000 in
theorem riseS_any (a : Option Addr) (cap : Nat) (ts : List (Int × ByteArray)) (w : World) (hs : ScoresAt w a ts) (hn : ts.length ≤ 1000000) :
    Calls Tryz.prog 203 #[.slice a ts.length cap, .func (.func 204) #[] #[]] w fun e w' => e = .returned (.bool (riseTo cmpS ts ts.length)) ∧ Below w.heap.size w w' := by
  have HS := hide hs
  clear hs
  go_enter Tryz.func203, Tryz.ntmps203
  go_wp2_with fail
  go_loopw [5] (fun vi wr => ∃ (k : Nat), 1 ≤ k ∧ (k ≤ ts.length ∨ k = 1) ∧ vi = .int .i64 k ∧ Below w.heap.size w wr ∧ Hid (riseTo cmpS ts k = true)) (fun vi _ => ts.length + 1 - (intOf vi).toNat)
  case atStart => exact ⟨1, Nat.le_refl _, .inr rfl, rfl, Below.refl _ _, rfl⟩
  case round =>
    obtain ⟨k, hk1, hk, rfl, hb, HA⟩ := hrel
    by_cases hlt : k < ts.length
    · obtain ⟨g, o, rfl, hcs⟩ : ∃ g o, a = some ⟨g, o, none⟩ ∧ ∀ i (h : i < ts.length), w.cell? ⟨g, o + i * 2, none⟩ = some (.int .i64 ts[i].1) ∧ w.cell? ⟨g, o + i * 2 + 1, none⟩ = some (.string ts[i].2) := by
        rcases HS.out with h | h
        · subst h; simp at hlt
        · exact h
      obtain ⟨m, rfl⟩ : ∃ m, k = m + 1 := ⟨k - 1, by omega⟩
      have HB : Hid (∀ g o v, w.cell? ⟨g, o, none⟩ = some v → wr.cell? ⟨g, o, none⟩ = some v) := fun g o _ hv => (hb.cell (p := ⟨g, o, none⟩) (World.block_lt_of_cell? _ _ hv)).trans hv
      have d0 : (World.drew wr).cell? ⟨g, o + m * 2, none⟩ = some (.int .i64 ts[m].1) := HB.out _ _ _ ((hcs m (by omega)).1)
      have d1 : (World.drew wr).cell? ⟨g, o + m * 2 + 1, none⟩ = some (.string ts[m].2) := HB.out _ _ _ ((hcs m (by omega)).2)
      have e0 : (World.drew wr).cell? ⟨g, o + (m + 1) * 2, none⟩ = some (.int .i64 ts[m + 1].1) := HB.out _ _ _ ((hcs (m + 1) hlt).1)
      have e1 : (World.drew wr).cell? ⟨g, o + (m + 1) * 2 + 1, none⟩ = some (.string ts[m + 1].2) := HB.out _ _ _ ((hcs (m + 1) hlt).2)
      have p0 : wr.cell? ⟨g, o + m * 2, none⟩ = some (.int .i64 ts[m].1) := HB.out _ _ _ ((hcs m (by omega)).1)
      have p1 : wr.cell? ⟨g, o + m * 2 + 1, none⟩ = some (.string ts[m].2) := HB.out _ _ _ ((hcs m (by omega)).2)
      have q0 : wr.cell? ⟨g, o + (m + 1) * 2, none⟩ = some (.int .i64 ts[m + 1].1) := HB.out _ _ _ ((hcs (m + 1) hlt).1)
      have q1 : wr.cell? ⟨g, o + (m + 1) * 2 + 1, none⟩ = some (.string ts[m + 1].2) := HB.out _ _ _ ((hcs (m + 1) hlt).2)
      have hmm : IntKind.i64.wrap ((m : Nat) : Int) = ((m : Nat) : Int) := by rw [IntKind.wrap_i64]; omega
      have hm' : m < ts.length := by omega
      have hm2 : ((m : Nat) : Int) < ((ts.length : Nat) : Int) := by omega
      have hm4 : (0 : Int) ≤ ((m : Nat) : Int) + 1 := by omega
      have hm5 : (((m : Nat) : Int) + 1).toNat = m + 1 := by omega
      have hm3 : ((m : Nat) : Int) + 1 < ((ts.length : Nat) : Int) := by omega
      have HT : Hid (riseTo cmpS ts (m + 1 + 1) = decide (cmpS ts[m] ts[m + 1] < 0)) := by
        rw [Hid, riseTo_succ cmpS ts (m + 1) (by omega), HA.out, Bool.true_and, show m + 1 - 1 = m by omega, getElem!_pos ts m (by omega), getElem!_pos ts (m + 1) hlt]
      have HC : Hid (∀ W, Calls Tryz.prog 204 #[.agg #[.int .i64 ts[m].1, .string ts[m].2], .agg #[.int .i64 ts[m + 1].1, .string ts[m + 1].2]] W fun e w' => e = .returned (.int .i64 (cmpS ts[m] ts[m + 1])) ∧ Below W.heap.size W w') := fun W => cmpS_any _ _ W
      generalize cmpS ts[m] ts[m + 1] = C at *
      clear hcs HS HB
      by_cases hC : C < 0
      · have hC' : ¬ (0 : Int) ≤ C := by omega
        have HY : Hid (riseTo cmpS ts (m + 1 + 1) = true) := by rw [Hid, HT.out]; exact decide_eq_true hC
        go_wp2_with fail
        refine wp_region_any (by kernel_rfl) ?_
        change wpAny _ _ _ _ _ _ _ (World.drew _)
        refine wpAny_take (i := 0) (v := .func (.func 204) #[] #[]) rfl (by kernel_rfl) (by kernel_rfl) (by kernel_rfl) (fun _ _ _ h => h) (Or.inl ⟨by rfl, by intro w; go_simp⟩) ?_
        refine wpAny_take (i := 1) (v := .slice (some ⟨g, o, none⟩) ts.length cap) rfl (by kernel_rfl) (by kernel_rfl) (by kernel_rfl) (fun _ _ _ h => h) (Or.inl ⟨by rfl, by intro w; go_simp⟩) ?_
        refine wpAny_take (i := 2) (v := .int .i64 (((m : Nat) : Int) + 1)) rfl (by kernel_rfl) (by kernel_rfl) (by kernel_rfl) (fun _ _ _ h => h) (Or.inl ⟨by rfl, by intro w; go_simp⟩) ?_
        refine wpAny_take (i := 3) (v := .int .i64 ((m : Nat) : Int)) rfl (by kernel_rfl) (by kernel_rfl) (by kernel_rfl) (fun _ _ _ h => h) (Or.inl ⟨by rfl, by intro w; go_simp⟩) ?_
        refine wpAny_take (i := 4) (v := .pointer (some ⟨g, o + m * 2, none⟩)) rfl (by kernel_rfl) (by kernel_rfl) (by kernel_rfl) (fun _ _ _ h => h) (Or.inl ⟨by rfl, by intro w; go_simp⟩) ?_
        refine wpAny_take (i := 6) (v := .slice (some ⟨g, o, none⟩) ts.length cap) rfl (by kernel_rfl) (by kernel_rfl) (by kernel_rfl) (fun _ _ _ h => h) (Or.inl ⟨by rfl, by intro w; go_simp⟩) ?_
        refine wpAny_take (i := 7) (v := .int .i64 (((m : Nat) : Int) + 1)) rfl (by kernel_rfl) (by kernel_rfl) (by kernel_rfl) (fun _ _ _ h => h) (Or.inl ⟨by rfl, by intro w; go_simp⟩) ?_
        refine wpAny_take (i := 8) (v := .pointer (some ⟨g, o + (m + 1) * 2, none⟩)) rfl (by kernel_rfl) (by kernel_rfl) (by kernel_rfl) (fun _ _ _ h => h) (Or.inl ⟨by rfl, by intro w; go_simp⟩) ?_
        refine wpAny_ready (rs := [5, 9]) (by kernel_rfl) (by simp) ?_
        refine AllReady.cons rfl (fun K hK => ?_) ?_
        · go_simp
          refine hK _ _ ?_
          clear hK K
          refine wpAny_ready (rs := [9]) (by kernel_rfl) (by simp) ?_
          refine AllReady.cons rfl (fun K hK => ?_) AllReady.nil
          go_simp
          refine hK _ _ ?_
          clear hK K
          refine wpAny_ready (rs := [10]) (by kernel_rfl) (by simp) ?_
          refine AllReady.cons rfl (fun K hK => ?_) AllReady.nil
          go_simp
          refine (HC.out _).mono ?_
          rintro e w1 ⟨rfl, hb1⟩
          have hb2 : Below w.heap.size w w1 := (hb.drew).trans (hb1.mono hb.size)
          clear hb1
          refine hK _ _ ?_
          clear hK K
          refine wpAny_take (i := 11) (v := .bool false) rfl (by kernel_rfl) (by kernel_rfl) (by kernel_rfl) (fun _ _ _ h => h) (Or.inl ⟨by rfl, by intro w; go_simp⟩) ?_
          refine wpAny_done (by kernel_rfl) ?_ _
          go_wp2_with fail
          go_roundw
          case rel => exact ⟨m + 1 + 1, by omega, .inl (by omega), by go_num, hb2, HY⟩
          case measure => simp only [intOf]; omega
        · refine AllReady.cons rfl (fun K hK => ?_) AllReady.nil
          go_simp
          refine hK _ _ ?_
          clear hK K
          refine wpAny_ready (rs := [5]) (by kernel_rfl) (by simp) ?_
          refine AllReady.cons rfl (fun K hK => ?_) AllReady.nil
          go_simp
          refine hK _ _ ?_
          clear hK K
          refine wpAny_ready (rs := [10]) (by kernel_rfl) (by simp) ?_
          refine AllReady.cons rfl (fun K hK => ?_) AllReady.nil
          go_simp
          refine (HC.out _).mono ?_
          rintro e w1 ⟨rfl, hb1⟩
          have hb2 : Below w.heap.size w w1 := (hb.drew).trans (hb1.mono hb.size)
          clear hb1
          refine hK _ _ ?_
          clear hK K
          refine wpAny_take (i := 11) (v := .bool false) rfl (by kernel_rfl) (by kernel_rfl) (by kernel_rfl) (fun _ _ _ h => h) (Or.inl ⟨by rfl, by intro w; go_simp⟩) ?_
          refine wpAny_done (by kernel_rfl) ?_ _
          go_wp2_with fail
          go_roundw
          case rel => exact ⟨m + 1 + 1, by omega, .inl (by omega), by go_num, hb2, HY⟩
          case measure => simp only [intOf]; omega
      · have hC' : (0 : Int) ≤ C := by omega
        have HY : Hid (riseTo cmpS ts ts.length = false) := riseTo_false (k := m + 1 + 1) (by rw [HT.out]; exact decide_eq_false hC) (by omega)
        go_wp2_with fail
        refine wp_region_any (by kernel_rfl) ?_
        change wpAny _ _ _ _ _ _ _ (World.drew _)
        refine wpAny_take (i := 0) (v := .func (.func 204) #[] #[]) rfl (by kernel_rfl) (by kernel_rfl) (by kernel_rfl) (fun _ _ _ h => h) (Or.inl ⟨by rfl, by intro w; go_simp⟩) ?_
        refine wpAny_take (i := 1) (v := .slice (some ⟨g, o, none⟩) ts.length cap) rfl (by kernel_rfl) (by kernel_rfl) (by kernel_rfl) (fun _ _ _ h => h) (Or.inl ⟨by rfl, by intro w; go_simp⟩) ?_
        refine wpAny_take (i := 2) (v := .int .i64 (((m : Nat) : Int) + 1)) rfl (by kernel_rfl) (by kernel_rfl) (by kernel_rfl) (fun _ _ _ h => h) (Or.inl ⟨by rfl, by intro w; go_simp⟩) ?_
        refine wpAny_take (i := 3) (v := .int .i64 ((m : Nat) : Int)) rfl (by kernel_rfl) (by kernel_rfl) (by kernel_rfl) (fun _ _ _ h => h) (Or.inl ⟨by rfl, by intro w; go_simp⟩) ?_
        refine wpAny_take (i := 4) (v := .pointer (some ⟨g, o + m * 2, none⟩)) rfl (by kernel_rfl) (by kernel_rfl) (by kernel_rfl) (fun _ _ _ h => h) (Or.inl ⟨by rfl, by intro w; go_simp⟩) ?_
        refine wpAny_take (i := 6) (v := .slice (some ⟨g, o, none⟩) ts.length cap) rfl (by kernel_rfl) (by kernel_rfl) (by kernel_rfl) (fun _ _ _ h => h) (Or.inl ⟨by rfl, by intro w; go_simp⟩) ?_
        refine wpAny_take (i := 7) (v := .int .i64 (((m : Nat) : Int) + 1)) rfl (by kernel_rfl) (by kernel_rfl) (by kernel_rfl) (fun _ _ _ h => h) (Or.inl ⟨by rfl, by intro w; go_simp⟩) ?_
        refine wpAny_take (i := 8) (v := .pointer (some ⟨g, o + (m + 1) * 2, none⟩)) rfl (by kernel_rfl) (by kernel_rfl) (by kernel_rfl) (fun _ _ _ h => h) (Or.inl ⟨by rfl, by intro w; go_simp⟩) ?_
        refine wpAny_ready (rs := [5, 9]) (by kernel_rfl) (by simp) ?_
        refine AllReady.cons rfl (fun K hK => ?_) ?_
        · go_simp
          refine hK _ _ ?_
          clear hK K
          refine wpAny_ready (rs := [9]) (by kernel_rfl) (by simp) ?_
          refine AllReady.cons rfl (fun K hK => ?_) AllReady.nil
          go_simp
          refine hK _ _ ?_
          clear hK K
          refine wpAny_ready (rs := [10]) (by kernel_rfl) (by simp) ?_
          refine AllReady.cons rfl (fun K hK => ?_) AllReady.nil
          go_simp
          refine (HC.out _).mono ?_
          rintro e w1 ⟨rfl, hb1⟩
          have hb2 : Below w.heap.size w w1 := (hb.drew).trans (hb1.mono hb.size)
          clear hb1
          refine hK _ _ ?_
          clear hK K
          refine wpAny_take (i := 11) (v := .bool true) rfl (by kernel_rfl) (by kernel_rfl) (by kernel_rfl) (fun _ _ _ h => h) (Or.inl ⟨by rfl, by intro w; go_simp⟩) ?_
          refine wpAny_done (by kernel_rfl) ?_ _
          go_wp2_with fail
          go_ret
          rw [HY.out]
          exact ⟨rfl, hb2⟩
        · refine AllReady.cons rfl (fun K hK => ?_) AllReady.nil
          go_simp
          refine hK _ _ ?_
          clear hK K
          refine wpAny_ready (rs := [5]) (by kernel_rfl) (by simp) ?_
          refine AllReady.cons rfl (fun K hK => ?_) AllReady.nil
          go_simp
          refine hK _ _ ?_
          clear hK K
          refine wpAny_ready (rs := [10]) (by kernel_rfl) (by simp) ?_
          refine AllReady.cons rfl (fun K hK => ?_) AllReady.nil
          go_simp
          refine (HC.out _).mono ?_
          rintro e w1 ⟨rfl, hb1⟩
          have hb2 : Below w.heap.size w w1 := (hb.drew).trans (hb1.mono hb.size)
          clear hb1
          refine hK _ _ ?_
          clear hK K
          refine wpAny_take (i := 11) (v := .bool true) rfl (by kernel_rfl) (by kernel_rfl) (by kernel_rfl) (fun _ _ _ h => h) (Or.inl ⟨by rfl, by intro w; go_simp⟩) ?_
          refine wpAny_done (by kernel_rfl) ?_ _
          go_wp2_with fail
          go_ret
          rw [HY.out]
          exact ⟨rfl, hb2⟩
    · have hge : ¬ ((k : Nat) : Int) < ((ts.length : Nat) : Int) := by omega
      have HY : Hid (riseTo cmpS ts ts.length = true) := by
        rcases hk with hk | hk
        · have : k = ts.length := by omega
          rw [← this]; exact HA.out
        · unfold riseTo
          rw [show ts.length - 1 = 0 by omega]
          rfl
      go_wp2_with fail
      go_ret
      rw [HY.out]
      exact ⟨rfl, hb⟩
end Go.Proofs.YtcidoodaiimhfaaGreat

/- WALK of whether a member is there twice. -/
namespace Go.Proofs.YtcidoodaiimhfaaGreat
open Go.RowKit Go.Maps Go.WideMaps

def mkeys (ts : List (Int × ByteArray)) (k : Nat) : List Lit := (ts.take k).map fun x => .string x.2.data.toList
def mset (ts : List (Int × ByteArray)) (k : Nat) : DataW Unit := setOf (.agg []) (mkeys ts k)
theorem mset_zero (ts : List (Int × ByteArray)) : mset ts 0 = .map [] := by simp [mset, mkeys, setOf]
theorem mset_succ (ts : List (Int × ByteArray)) (k : Nat) (hk : k < ts.length) : mset ts (k + 1) = (mset ts k).put (.string ts[k].2.data.toList) (.agg []) := by
  have e : mkeys ts (k + 1) = mkeys ts k ++ [.string ts[k].2.data.toList] := by
    unfold mkeys
    rw [List.take_succ_eq_append_getElem hk, List.map_append]
    rfl
  rw [mset, e, setOf_snoc]
  rfl
theorem addKey_le (x : Lit) (L : List Lit) : (addKey L x).length ≤ L.length + 1 := by
  unfold addKey
  split <;> simp
theorem addKeys_le : ∀ (xs L : List Lit), (xs.foldl addKey L).length ≤ L.length + xs.length
  | [], L => by simp
  | x :: r, L => by
    rw [List.foldl_cons]
    have h1 := addKeys_le r (addKey L x)
    have h2 := addKey_le x L
    simp only [List.length_cons]
    omega
/-- all different: as many as there are -/
theorem addKeys_eq : ∀ (xs L : List Lit), (∀ x ∈ xs, WideAt.IsKeyLit x) → ((xs.foldl addKey L).length = L.length + xs.length ↔ xs.Nodup ∧ ∀ x ∈ xs, x ∉ L)
  | [], L, _ => by simp
  | x :: r, L, hk => by
    rw [List.foldl_cons]
    have hx := hk x (by simp)
    have hr : ∀ y ∈ r, WideAt.IsKeyLit y := fun y hy => hk y (by simp [hy])
    by_cases hin : x ∈ L
    · have e : addKey L x = L := by
        unfold addKey
        rw [if_pos (show (L.any fun y => y.sameKey x) = true from List.any_eq_true.2 ⟨x, hin, WideAt.sameKey_self hx⟩)]
      rw [e]
      have h1 := addKeys_le r L
      refine ⟨fun h => ?_, fun h => absurd hin (h.2 x (by simp))⟩
      simp only [List.length_cons] at h
      omega
    · have e : addKey L x = L ++ [x] := by
        unfold addKey
        rw [if_neg]
        intro h
        obtain ⟨y, hy, hs⟩ := List.any_eq_true.1 h
        exact hin (WideAt.sameKey_eq hs ▸ hy)
      rw [e]
      have ih := addKeys_eq r (L ++ [x]) hr
      rw [List.length_append, List.length_singleton] at ih
      rw [List.length_cons, show L.length + (r.length + 1) = L.length + 1 + r.length by omega, ih]
      constructor
      · rintro ⟨h1, h2⟩
        refine ⟨List.nodup_cons.2 ⟨fun hm => h2 x hm (by simp), h1⟩, fun y hy => ?_⟩
        rcases List.mem_cons.1 hy with rfl | hy
        · exact hin
        · exact fun hm => h2 y hy (by simp [hm])
      · rintro ⟨h1, h2⟩
        obtain ⟨h3, h4⟩ := List.nodup_cons.1 h1
        refine ⟨h4, fun y hy hm => ?_⟩
        rcases List.mem_append.1 hm with hm | hm
        · exact h2 y (by simp [hy]) hm
        · simp at hm; subst hm; exact h3 hy
theorem mkeys_key (ts : List (Int × ByteArray)) (k : Nat) : ∀ x ∈ mkeys ts k, WideAt.IsKeyLit x := by
  intro x hx
  unfold mkeys at hx
  obtain ⟨y, _, rfl⟩ := List.mem_map.1 hx
  trivial
theorem list_inj {a b : ByteArray} (h : a.data.toList = b.data.toList) : a = b := by
  cases a; cases b
  congr 1
  exact Array.toList_inj.1 h
theorem twice_size (ts : List (Int × ByteArray)) : decide (Maps.size (mset ts ts.length) < ts.length) = twiceS ts := by
  rw [mset, size_setOf _ _ (mkeys_key ts _)]
  have h1 := addKeys_le (mkeys ts ts.length) []
  have h2 := addKeys_eq (mkeys ts ts.length) [] (mkeys_key ts _)
  have e : (mkeys ts ts.length).length = ts.length := by simp [mkeys]
  have hn : (mkeys ts ts.length).Nodup ↔ (ts.map Prod.snd).Nodup := by
    have e2 : mkeys ts ts.length = (ts.map Prod.snd).map (fun x => Lit.string x.data.toList) := by
      rw [mkeys, List.take_length, List.map_map]
      rfl
    rw [e2]
    constructor
    · intro h
      exact List.Pairwise.of_map _ (fun a b hab he => hab (by rw [he])) h
    · intro h
      refine List.Pairwise.map _ (fun a b hab he => hab ?_) h
      injection he with he
      exact list_inj he
  rw [e] at h1 h2
  simp only [List.length_nil, Nat.zero_add] at h1 h2
  unfold twiceS
  by_cases hd : (ts.map Prod.snd).Nodup
  · have := h2.2 ⟨hn.2 hd, by simp⟩
    rw [decide_eq_true hd, this]
    simp
  · have hne : (List.foldl addKey [] (mkeys ts ts.length)).length ≠ ts.length := fun h => hd (hn.1 (h2.1 h).1)
    rw [decide_eq_false hd]
    simp only [Bool.not_false, decide_eq_true_eq]
    omega

theorem keyLaw : Keyed Tryz.prog 9 := string_keyed Tryz.underlying9
set_option maxRecDepth 100000 in
set_option maxHeartbeats 1000000 in
theorem hasTwice_any (a : Option Addr) (cap : Nat) (ts : List (Int × ByteArray)) (w : World) (hs : ScoresAt w a ts) (hn : ts.length ≤ 1000000) (hsz : ∀ x ∈ ts, x.2.size ≤ maxLen) :
    Calls Tryz.prog 202 #[.slice a ts.length cap] w fun e w' => e = .returned (.bool (twiceS ts)) ∧ Below w.heap.size w w' := by
  have hmm := @run_makeMap Tryz.prog
  have HS := hide hs
  have HZ := hide hsz
  clear hs hsz
  go_enter Tryz.func202, Tryz.ntmps202
  go_wp2_with fail
  go_loopw [9] (fun i wr => ∃ k : Nat, k ≤ ts.length ∧ i = .int .i64 k ∧ wr.ownsMap Tryz.prog 9 (unitElem (H := Unit)) w.heap.size k (mset ts k) ∧ Below w.heap.size w wr ∧ w.heap.size < wr.heap.size) (fun i _ => ts.length - (intOf i).toNat)
  case atStart => exact ⟨0, Nat.zero_le _, rfl, by rw [mset_zero]; exact World.ownsMap_made _ _ _ _, (Below.refl _ _).alloc (Nat.le_refl _) _, by simp⟩
  case round =>
    obtain ⟨k, hk, rfl, hown, hb, hlw⟩ := hrel
    by_cases hlt : k < ts.length
    · obtain ⟨g, o, rfl, hcs⟩ : ∃ g o, a = some ⟨g, o, none⟩ ∧ ∀ i (h : i < ts.length), w.cell? ⟨g, o + i * 2, none⟩ = some (.int .i64 ts[i].1) ∧ w.cell? ⟨g, o + i * 2 + 1, none⟩ = some (.string ts[i].2) := by
        rcases HS.out with h | h
        · subst h; simp at hlt
        · exact h
      have HB : Hid (∀ g o v, w.cell? ⟨g, o, none⟩ = some v → wr.cell? ⟨g, o, none⟩ = some v) := fun g o _ hv => (hb.cell (p := ⟨g, o, none⟩) (World.block_lt_of_cell? _ _ hv)).trans hv
      have d0 : wr.cell? ⟨g, o + k * 2, none⟩ = some (.int .i64 ts[k].1) := HB.out _ _ _ (hcs k hlt).1
      have d1 : wr.cell? ⟨g, o + k * 2 + 1, none⟩ = some (.string ts[k].2) := HB.out _ _ _ (hcs k hlt).2
      have HM := hide (mset_succ ts k hlt)
      have hkey : keyOf Tryz.prog 9 (.string ts[k].2) = some (.string ts[k].2.data.toList) := keyOf_string_mk Tryz.underlying9 (HZ.out _ (List.getElem_mem hlt))
      have HK := hide hkey
      clear hcs HB HS HZ hkey
      generalize ts[k].1 = X1 at *
      generalize ts[k].2 = X2 at *
      go_wp2_with (first
        | (at_mapUpdate; refine wpList_mapUpdate_own _ rfl _ _ _ 247 rfl 9 248 keyLaw Tryz.underlying247 (unitElem (H := Unit)) w.heap.size k _ rfl (hown.alloc _) (by unfold maxLen; omega) _ _ _ rfl rfl HK.out _ [] unitElem_mk ?_; intro w1 hown1 hgrow1)
        | fail)
      go_roundw
      case rel => exact ⟨k + 1, by omega, by go_num, HM.out.symm ▸ hown1, (hb.alloc hb.size _).grown hgrow1 (by simp; omega) (fun j hj => by cases hj; exact Nat.le_refl _), by have := hgrow1.size; simp at this; omega⟩
      case measure => simp [intOf]; omega
    · have hkk : k = ts.length := by omega
      subst hkk
      have HW := hide (twice_size ts)
      have hge : ¬ ((ts.length : Nat) : Int) < ((ts.length : Nat) : Int) := by omega
      go_wp2_with (first
        | (at_len; refine wpList_len_own _ rfl _ 247 rfl 9 248 Tryz.underlying247 _ w.heap.size _ _ rfl hown ?_)
        | fail)
      go_ret
      refine ⟨?_, hb⟩
      rw [← HW.out]
      simp
end Go.Proofs.YtcidoodaiimhfaaGreat

/- WALKS of the checks of a set, a hash, scores. -/
namespace Go.Proofs.YtcidoodaiimhfaaGreat
open Go.RowKit

set_option maxRecDepth 100000 in
set_option maxHeartbeats 1000000 in
theorem checkSet_any (a : Option Addr) (cap : Nat) (ts : List ByteArray) (w : World) (hs : TextsAt w a ts) :
    Calls Tryz.prog 144 #[.slice a ts.length cap] w fun e w' => e = .returned (.int .i64 (setT ts)) ∧ Below w.heap.size w w' := by
  have HZ := hide (checkSizeT_any a cap ts w hs)
  have HS := hide hs
  clear hs
  by_cases h0 : sizeT ts.length (ts.any longT) = 0
  · have hsm := sizeT_small h0
    rw [h0] at HZ
    cases hr : riseTo cmpT ts ts.length with
    | true =>
      have hv : setT ts = 0 := by rw [setT, if_neg (by simp [h0]), if_pos hr]
      rw [hv]
      have HR := hide hr
      clear hv h0 hr
      go_enter Tryz.func144, Tryz.ntmps144
      go_wp2_with fail
      refine HZ.out.mono ?_
      rintro e w1 ⟨rfl, hb1⟩
      go_wp2_with fail
      refine (riseT_any a cap ts w1 (HS.out.below hb1) (by omega)).mono ?_
      rintro e w2 ⟨rfl, hb2⟩
      rw [HR.out]
      go_wp2_with fail
      go_ret
      exact ⟨rfl, hb1.trans (hb2.mono hb1.size)⟩
    | false =>
      have hv : setT ts = 4 := by rw [setT, if_neg (by simp [h0]), if_neg (by rw [hr]; decide)]
      rw [hv]
      have HR := hide hr
      clear hv h0 hr
      go_enter Tryz.func144, Tryz.ntmps144
      go_wp2_with fail
      refine HZ.out.mono ?_
      rintro e w1 ⟨rfl, hb1⟩
      go_wp2_with fail
      refine (riseT_any a cap ts w1 (HS.out.below hb1) (by omega)).mono ?_
      rintro e w2 ⟨rfl, hb2⟩
      rw [HR.out]
      go_wp2_with fail
      go_ret
      exact ⟨rfl, hb1.trans (hb2.mono hb1.size)⟩
  · have hv : setT ts = sizeT ts.length (ts.any longT) := by rw [setT, if_pos h0]
    have hb : (sizeT ts.length (ts.any longT) == 0) = false := by rw [beq_eq_false_iff_ne]; exact h0
    have hn : (sizeT ts.length (ts.any longT) != 0) = true := by rw [bne_iff_ne]; exact h0
    rw [hv]
    clear hv
    generalize sizeT ts.length (ts.any longT) = Z at *
    go_enter Tryz.func144, Tryz.ntmps144
    go_wp2_with fail
    refine HZ.out.mono ?_
    rintro e w1 ⟨rfl, hb1⟩
    go_wp2_with fail
    go_ret
    exact ⟨rfl, hb1⟩

set_option maxRecDepth 100000 in
set_option maxHeartbeats 1000000 in
theorem checkHash_any (a : Option Addr) (cap : Nat) (ts : List (ByteArray × ByteArray)) (w : World) (hs : PairsAt w a ts) :
    Calls Tryz.prog 145 #[.slice a ts.length cap] w fun e w' => e = .returned (.int .i64 (hashT ts)) ∧ Below w.heap.size w w' := by
  have HZ := hide (checkSizeP_any a cap ts w hs)
  have HS := hide hs
  clear hs
  by_cases h0 : sizeT ts.length (ts.any longP) = 0
  · have hsm := sizeT_small h0
    rw [h0] at HZ
    cases hr : riseTo cmpP ts ts.length with
    | true =>
      have hv : hashT ts = 0 := by rw [hashT, if_neg (by simp [h0]), if_pos hr]
      rw [hv]
      have HR := hide hr
      clear hv h0 hr
      go_enter Tryz.func145, Tryz.ntmps145
      go_wp2_with fail
      refine HZ.out.mono ?_
      rintro e w1 ⟨rfl, hb1⟩
      go_wp2_with fail
      refine (riseP_any a cap ts w1 (HS.out.below hb1) (by omega)).mono ?_
      rintro e w2 ⟨rfl, hb2⟩
      rw [HR.out]
      go_wp2_with fail
      go_ret
      exact ⟨rfl, hb1.trans (hb2.mono hb1.size)⟩
    | false =>
      have hv : hashT ts = 4 := by rw [hashT, if_neg (by simp [h0]), if_neg (by rw [hr]; decide)]
      rw [hv]
      have HR := hide hr
      clear hv h0 hr
      go_enter Tryz.func145, Tryz.ntmps145
      go_wp2_with fail
      refine HZ.out.mono ?_
      rintro e w1 ⟨rfl, hb1⟩
      go_wp2_with fail
      refine (riseP_any a cap ts w1 (HS.out.below hb1) (by omega)).mono ?_
      rintro e w2 ⟨rfl, hb2⟩
      rw [HR.out]
      go_wp2_with fail
      go_ret
      exact ⟨rfl, hb1.trans (hb2.mono hb1.size)⟩
  · have hv : hashT ts = sizeT ts.length (ts.any longP) := by rw [hashT, if_pos h0]
    have hb : (sizeT ts.length (ts.any longP) == 0) = false := by rw [beq_eq_false_iff_ne]; exact h0
    have hn : (sizeT ts.length (ts.any longP) != 0) = true := by rw [bne_iff_ne]; exact h0
    rw [hv]
    clear hv
    generalize sizeT ts.length (ts.any longP) = Z at *
    go_enter Tryz.func145, Tryz.ntmps145
    go_wp2_with fail
    refine HZ.out.mono ?_
    rintro e w1 ⟨rfl, hb1⟩
    go_wp2_with fail
    go_ret
    exact ⟨rfl, hb1⟩

set_option maxRecDepth 100000 in
set_option maxHeartbeats 1000000 in
theorem checkScores_any (a : Option Addr) (cap : Nat) (ts : List (Int × ByteArray)) (w : World) (hs : ScoresAt w a ts) (hsz : ∀ x ∈ ts, x.2.size ≤ maxLen) :
    Calls Tryz.prog 146 #[.slice a ts.length cap] w fun e w' => e = .returned (.int .i64 (scoreT ts)) ∧ Below w.heap.size w w' := by
  have HZ := hide (checkSizeS_any a cap ts w hs)
  have HS := hide hs
  have HL := hide hsz
  clear hs hsz
  by_cases h0 : sizeT ts.length (ts.any longS) = 0
  · have hsm := sizeT_small h0
    rw [h0] at HZ
    have hv0 : scoreT ts = if ts.any outS = true then 3 else if twiceS ts = true then 6 else if riseTo cmpS ts ts.length = true then 0 else 4 := by
      rw [scoreT, if_neg (by simp [h0])]
    rw [hv0]
    clear hv0 h0
    have HO : Hid (∀ W, Below w.heap.size w W → Calls Tryz.prog 200 #[.slice a ts.length cap, .func (.func 201) #[] #[]] W fun e w' => e = .returned (.bool (ts.any outS)) ∧ Below W.heap.size W w') := fun W hW => containsOutS_any a cap ts W (HS.out.below hW) (by omega)
    have HT : Hid (∀ W, Below w.heap.size w W → Calls Tryz.prog 202 #[.slice a ts.length cap] W fun e w' => e = .returned (.bool (twiceS ts)) ∧ Below W.heap.size W w') := fun W hW => hasTwice_any a cap ts W (HS.out.below hW) (by omega) HL.out
    have HR : Hid (∀ W, Below w.heap.size w W → Calls Tryz.prog 203 #[.slice a ts.length cap, .func (.func 204) #[] #[]] W fun e w' => e = .returned (.bool (riseTo cmpS ts ts.length)) ∧ Below W.heap.size W w') := fun W hW => riseS_any a cap ts W (HS.out.below hW) (by omega)
    clear HS HL
    generalize ts.any outS = B1 at *
    generalize twiceS ts = B2 at *
    generalize riseTo cmpS ts ts.length = B3 at *
    go_enter Tryz.func146, Tryz.ntmps146
    go_wp2_with fail
    refine HZ.out.mono ?_
    rintro e w1 ⟨rfl, hb1⟩
    go_wp2_with fail
    refine (HO.out w1 hb1).mono ?_
    rintro e w2 ⟨rfl, hb2⟩
    have hB2 : Below w.heap.size w w2 := hb1.trans (hb2.mono hb1.size)
    cases B1 with
    | true =>
      go_wp2_with fail
      go_ret
      exact ⟨rfl, hB2⟩
    | false =>
      go_wp2_with fail
      refine (HT.out w2 hB2).mono ?_
      rintro e w3 ⟨rfl, hb3⟩
      have hB3 : Below w.heap.size w w3 := hB2.trans (hb3.mono hB2.size)
      cases B2 with
      | true =>
        go_wp2_with fail
        go_ret
        exact ⟨rfl, hB3⟩
      | false =>
        go_wp2_with fail
        refine (HR.out w3 hB3).mono ?_
        rintro e w4 ⟨rfl, hb4⟩
        have hB4 : Below w.heap.size w w4 := hB3.trans (hb4.mono hB3.size)
        cases B3 with
        | true =>
          go_wp2_with fail
          go_ret
          exact ⟨rfl, hB4⟩
        | false =>
          go_wp2_with fail
          go_ret
          exact ⟨rfl, hB4⟩
  · have hv : scoreT ts = sizeT ts.length (ts.any longS) := by rw [scoreT, if_pos h0]
    have hb : (sizeT ts.length (ts.any longS) == 0) = false := by rw [beq_eq_false_iff_ne]; exact h0
    have hn : (sizeT ts.length (ts.any longS) != 0) = true := by rw [bne_iff_ne]; exact h0
    rw [hv]
    clear hv
    generalize sizeT ts.length (ts.any longS) = Z at *
    go_enter Tryz.func146, Tryz.ntmps146
    go_wp2_with fail
    refine HZ.out.mono ?_
    rintro e w1 ⟨rfl, hb1⟩
    go_wp2_with fail
    go_ret
    exact ⟨rfl, hb1⟩
end Go.Proofs.YtcidoodaiimhfaaGreat

/- WALK of the check of an item. -/
namespace Go.Proofs.YtcidoodaiimhfaaGreat
open Go.RowKit

/-- an item that lies in memory -/
structure ItemIs (w : World) (v : Value) (x : Itm) : Prop where
  ex : ∃ a1 c1 a2 c2 a3 c3, v = .agg #[.int .i64 x.k, .string x.t, .slice a1 x.l.length c1, .slice a2 x.p.length c2, .slice a3 x.s.length c3] ∧ TextsAt w a1 x.l ∧ PairsAt w a2 x.p ∧ ScoresAt w a3 x.s
  tz : x.t.size ≤ maxLen
  lz : ∀ t ∈ x.l, t.size ≤ maxLen
  pz : ∀ t ∈ x.p, t.1.size ≤ maxLen ∧ t.2.size ≤ maxLen
  sz : ∀ t ∈ x.s, t.2.size ≤ maxLen
  ll : x.l.length ≤ 281474976710656
  pl : x.p.length ≤ 281474976710656
  sl : x.s.length ≤ 281474976710656
theorem ItemIs.below {w w' : World} {v : Value} {x : Itm} (h : ItemIs w v x) (hb : Below w.heap.size w w') : ItemIs w' v x := by
  obtain ⟨⟨a1, c1, a2, c2, a3, c3, e, h1, h2, h3⟩, tz, lz, pz, sz, ll, pl, sl⟩ := h
  exact ⟨⟨a1, c1, a2, c2, a3, c3, e, h1.below hb, h2.below hb, h3.below hb⟩, tz, lz, pz, sz, ll, pl, sl⟩
theorem len_pos_b {α : Type} (l : List α) : decide ((0 : Int) < ((l.length : Nat) : Int)) = decide (0 < l.length) := by simp

set_option maxRecDepth 100000 in
set_option maxHeartbeats 4000000 in
theorem hasOther_any (k : Int) (t : ByteArray) (a1 a2 a3 : Option Addr) (n1 n2 n3 c1 c2 c3 : Nat) (w : World) :
    Calls Tryz.prog 141 #[.agg #[.int .i64 k, .string t, .slice a1 n1 c1, .slice a2 n2 c2, .slice a3 n3 c3]] w fun e w' => e = .returned (.bool (decide ((k ≠ 1 ∧ ¬ t.toList = []) ∨ (¬ (k = 2 ∨ k = 3) ∧ 0 < n1) ∨ (k ≠ 4 ∧ 0 < n2) ∨ (k ≠ 5 ∧ 0 < n3)))) ∧ Below w.heap.size w w' := by
  go_enter Tryz.func141, Tryz.ntmps141
  go_wp2
  all_goals go_ret
  all_goals refine ⟨?_, (Below.refl _ _).alloc (Nat.le_refl _) _⟩
  all_goals first | (simp [*]; done) | (simp [*]; omega)
end Go.Proofs.YtcidoodaiimhfaaGreat

/- WALKS of whether texts, and items, are the same. -/
namespace Go.Proofs.YtcidoodaiimhfaaGreat
open Go.RowKit

theorem below_drewN {B : Nat} {a w : World} (h : Below B a w) (n : Nat) : Below B a (w.drewN n) := ⟨h.os, h.tape, h.output, h.size, h.block⟩
theorem bytes_inj {a b : ByteArray} (h : a.toList = b.toList) : a = b := by
  rw [ByteArray.toList_eq, ByteArray.toList_eq] at h
  cases a; cases b
  congr 1
  exact Array.toList_inj.1 h

set_option maxRecDepth 100000 in
set_option maxHeartbeats 1000000 in
theorem sameT_any (a b : Option Addr) (c d : Nat) (xs ys : List ByteArray) (w : World) (hx : TextsAt w a xs) (hy : TextsAt w b ys) (hmax : ys.length ≤ 281474976710656) :
    Calls Tryz.prog 24 #[.slice a xs.length c, .slice b ys.length d] w fun e w' => e = .returned (.bool (decide (xs = ys))) ∧ Below w.heap.size w w' := by
  by_cases hl : xs.length = ys.length
  · have HX := hide hx
    have HY := hide hy
    clear hx hy
    rw [hl]
    go_enter Tryz.func24, Tryz.ntmps24
    have h0 : ((ys.length : Int) == ys.length) = true := by simp
    go_wp2_with fail
    go_loopw [5] (fun i wr => ∃ k : Nat, k ≤ ys.length ∧ i = .int .i64 k ∧ Below w.heap.size w wr ∧ Hid (xs.take k = ys.take k)) (fun i _ => ys.length - (intOf i).toNat)
    case atStart => exact ⟨0, Nat.zero_le _, rfl, Below.refl _ _, by simp [Hid]⟩
    case round =>
      obtain ⟨k, hk, rfl, hb, HE⟩ := hrel
      by_cases hlt : k < ys.length
      · have hltx : k < xs.length := by omega
        obtain ⟨g1, o1, rfl, hc1⟩ : ∃ g o, a = some ⟨g, o, none⟩ ∧ ∀ i (h : i < xs.length), w.cell? ⟨g, o + i, none⟩ = some (.string xs[i]) := by
          rcases HX.out with h | h
          · subst h; simp at hltx
          · exact h
        obtain ⟨g2, o2, rfl, hc2⟩ : ∃ g o, b = some ⟨g, o, none⟩ ∧ ∀ i (h : i < ys.length), w.cell? ⟨g, o + i, none⟩ = some (.string ys[i]) := by
          rcases HY.out with h | h
          · subst h; simp at hlt
          · exact h
        have HB : Hid (∀ g o v, w.cell? ⟨g, o, none⟩ = some v → wr.cell? ⟨g, o, none⟩ = some v) := fun g o _ hv => (hb.cell (p := ⟨g, o, none⟩) (World.block_lt_of_cell? _ _ hv)).trans hv
        have e1 : wr.cell? ⟨g1, o1 + k, none⟩ = some (.string xs[k]) := HB.out _ _ _ (hc1 k hltx)
        have e2 : wr.cell? ⟨g2, o2 + k, none⟩ = some (.string ys[k]) := HB.out _ _ _ (hc2 k hlt)
        have HT : Hid (xs[k] = ys[k] → xs.take (k + 1) = ys.take (k + 1)) := fun heq => by
          rw [List.take_succ_eq_append_getElem hltx, List.take_succ_eq_append_getElem hlt, HE.out, heq]
        have HF : Hid (xs[k] ≠ ys[k] → decide (xs = ys) = false) := fun hne => decide_eq_false (fun e => hne (by subst e; rfl))
        clear hc1 hc2 HX HY HB
        generalize xs[k] = X at *
        generalize ys[k] = Y at *
        by_cases hXY : X = Y
        · subst hXY
          have HT' := hide (HT.out rfl)
          clear HT HF
          go_wp2_with fail
          go_quiet (fail)
          have hb2 : Below w.heap.size w (wr.drewN nq) := below_drewN hb nq
          go_wp2_with fail
          go_roundw
          case rel => exact ⟨k + 1, by omega, by go_num, hb2, HT'⟩
          case measure => simp [intOf]; omega
        · have HF' := hide (HF.out hXY)
          have hne : (X.toList == Y.toList) = false := by rw [beq_eq_false_iff_ne]; exact fun e => hXY (bytes_inj e)
          clear HT HF
          go_wp2_with fail
          go_quiet (fail)
          have hb2 : Below w.heap.size w (wr.drewN nq) := below_drewN hb nq
          go_wp2_with fail
          go_ret
          rw [HF'.out]
          exact ⟨rfl, hb2⟩
      · have hd : Hid (decide (xs = ys) = true) := by
          have h1 := HE.out
          rw [List.take_of_length_le (by omega), List.take_of_length_le (by omega)] at h1
          exact decide_eq_true h1
        go_wp2_with fail
        go_ret
        rw [hd.out]
        exact ⟨rfl, hb⟩
  · have hd : decide (xs = ys) = false := decide_eq_false (fun e => hl (by rw [e]))
    have h0 : ((xs.length : Int) == ys.length) = false := by rw [beq_eq_false_iff_ne]; omega
    rw [hd]
    clear hx hy hd
    go_enter Tryz.func24, Tryz.ntmps24
    go_wp2_with fail
    go_ret
    exact ⟨rfl, Below.refl _ _⟩
end Go.Proofs.YtcidoodaiimhfaaGreat

/- WALK of whether items are the same. -/
namespace Go.Proofs.YtcidoodaiimhfaaGreat
open Go.RowKit

def sameI (x y : Itm) : Bool := decide (x.k = y.k ∧ x.t = y.t ∧ x.l = y.l ∧ x.p = y.p ∧ x.s = y.s)

set_option maxRecDepth 100000 in
set_option maxHeartbeats 4000000 in
theorem sameItem_any (v u : Value) (x y : Itm) (w : World) (hx : ItemIs w v x) (hy : ItemIs w u y) :
    Calls Tryz.prog 22 #[v, u] w fun e w' => e = .returned (.bool (sameI x y)) ∧ Below w.heap.size w w' := by
  obtain ⟨⟨al1, cl1, ap1, cp1, as1, cs1, rfl, L1, P1, S1⟩, -, -, -, -, ll1, pl1, sl1⟩ := hx
  obtain ⟨⟨al2, cl2, ap2, cp2, as2, cs2, rfl, L2, P2, S2⟩, -, -, -, -, ll2, pl2, sl2⟩ := hy
  obtain ⟨k1, t1, l1, p1, s1⟩ := x
  obtain ⟨k2, t2, l2, p2, s2⟩ := y
  simp only [sameI] at *
  have HS : Hid (∀ W, Below w.heap.size w W → Calls Tryz.prog 24 #[.slice al1 l1.length cl1, .slice al2 l2.length cl2] W fun e w' => e = .returned (.bool (decide (l1 = l2))) ∧ Below W.heap.size W w') := fun W hW => sameT_any _ _ _ _ _ _ W (L1.below hW) (L2.below hW) ll2
  clear L1 L2
  replace P1 := hide P1
  replace P2 := hide P2
  replace S1 := hide S1
  replace S2 := hide S2
  by_cases hk : k1 = k2
  rotate_left
  · have hk' : (k1 == k2) = false := by rw [beq_eq_false_iff_ne]; exact hk
    rw [decide_eq_false (show ¬ (k1 = k2 ∧ t1 = t2 ∧ l1 = l2 ∧ p1 = p2 ∧ s1 = s2) from fun h => hk h.1)]
    go_enter Tryz.func22, Tryz.ntmps22
    go_wp2_with fail
    go_ret
    exact ⟨rfl, ((Below.refl _ w).alloc (Nat.le_refl _) _).alloc (by simp) _⟩
  subst hk
  by_cases ht : t1 = t2
  rotate_left
  · have ht' : (t1.toList == t2.toList) = false := by rw [beq_eq_false_iff_ne]; exact fun e => ht (bytes_inj e)
    rw [decide_eq_false (show ¬ (k1 = k1 ∧ t1 = t2 ∧ l1 = l2 ∧ p1 = p2 ∧ s1 = s2) from fun h => ht h.2.1)]
    go_enter Tryz.func22, Tryz.ntmps22
    go_wp2_with fail
    go_ret
    exact ⟨rfl, ((Below.refl _ w).alloc (Nat.le_refl _) _).alloc (by simp) _⟩
  subst ht
  by_cases hl : l1 = l2
  rotate_left
  · rw [decide_eq_false hl] at HS
    rw [decide_eq_false (show ¬ (k1 = k1 ∧ t1 = t1 ∧ l1 = l2 ∧ p1 = p2 ∧ s1 = s2) from fun h => hl h.2.2.1)]
    go_enter Tryz.func22, Tryz.ntmps22
    go_wp2_with fail
    refine (HS.out _ (((Below.refl _ w).alloc (Nat.le_refl _) _).alloc (by simp) _)).mono ?_
    rintro e w1 ⟨rfl, hb1⟩
    obtain ⟨hc1, hf1⟩ := bcell hb1
    have hz1 : w.heap.size + 1 < w1.heap.size := by have := hb1.size; simp at this; omega
    have B1 : Below w.heap.size w w1 := (((Below.refl _ w).alloc (Nat.le_refl _) _).alloc (by simp) _).trans (hb1.mono (by simp; omega))
    go_wp2_with fail
    go_ret
    exact ⟨rfl, B1⟩
  subst hl
  rw [decide_eq_true (rfl : l1 = l1)] at HS
  by_cases hlp : p1.length = p2.length
  rotate_left
  · have hlp' : (((p1.length : Nat) : Int) == ((p2.length : Nat) : Int)) = false := by rw [beq_eq_false_iff_ne]; omega
    rw [decide_eq_false (show ¬ (k1 = k1 ∧ t1 = t1 ∧ l1 = l1 ∧ p1 = p2 ∧ s1 = s2) from fun h => hlp (by rw [h.2.2.2.1]))]
    go_enter Tryz.func22, Tryz.ntmps22
    go_wp2_with fail
    refine (HS.out _ (((Below.refl _ w).alloc (Nat.le_refl _) _).alloc (by simp) _)).mono ?_
    rintro e w1 ⟨rfl, hb1⟩
    obtain ⟨hc1, hf1⟩ := bcell hb1
    have hz1 : w.heap.size + 1 < w1.heap.size := by have := hb1.size; simp at this; omega
    have B1 : Below w.heap.size w w1 := (((Below.refl _ w).alloc (Nat.le_refl _) _).alloc (by simp) _).trans (hb1.mono (by simp; omega))
    go_wp2_with fail
    go_ret
    exact ⟨rfl, B1⟩
  by_cases hls : s1.length = s2.length
  rotate_left
  · have hls' : (((s1.length : Nat) : Int) == ((s2.length : Nat) : Int)) = false := by rw [beq_eq_false_iff_ne]; omega
    rw [hlp]
    rw [decide_eq_false (show ¬ (k1 = k1 ∧ t1 = t1 ∧ l1 = l1 ∧ p1 = p2 ∧ s1 = s2) from fun h => hls (by rw [h.2.2.2.2]))]
    go_enter Tryz.func22, Tryz.ntmps22
    go_wp2_with fail
    refine (HS.out _ (((Below.refl _ w).alloc (Nat.le_refl _) _).alloc (by simp) _)).mono ?_
    rintro e w1 ⟨rfl, hb1⟩
    obtain ⟨hc1, hf1⟩ := bcell hb1
    have hz1 : w.heap.size + 1 < w1.heap.size := by have := hb1.size; simp at this; omega
    have B1 : Below w.heap.size w w1 := (((Below.refl _ w).alloc (Nat.le_refl _) _).alloc (by simp) _).trans (hb1.mono (by simp; omega))
    go_wp2_with fail
    go_ret
    exact ⟨rfl, B1⟩
  rw [hlp, hls]
  generalize hR : decide (k1 = k1 ∧ t1 = t1 ∧ l1 = l1 ∧ p1 = p2 ∧ s1 = s2) = R
  have HR := hide hR
  clear hR
  go_enter Tryz.func22, Tryz.ntmps22
  go_wp2_with fail
  refine (HS.out _ (((Below.refl _ w).alloc (Nat.le_refl _) _).alloc (by simp) _)).mono ?_
  rintro e w1 ⟨rfl, hb1⟩
  obtain ⟨hc1, hf1⟩ := bcell hb1
  have hz1 : w.heap.size + 1 < w1.heap.size := by have := hb1.size; simp at this; omega
  have B1 : Below w.heap.size w w1 := (((Below.refl _ w).alloc (Nat.le_refl _) _).alloc (by simp) _).trans (hb1.mono (by simp; omega))
  go_wp2_with fail
  go_loopw [5] (fun i wr => ∃ k : Nat, k ≤ p2.length ∧ i = .int .i64 k ∧ Below w1.heap.size w1 wr ∧ Hid (p1.take k = p2.take k)) (fun i _ => p2.length - (intOf i).toNat)
  case atStart => exact ⟨0, Nat.zero_le _, rfl, Below.refl _ _, by simp [Hid]⟩
  case round =>
    obtain ⟨k, hk, rfl, hbrP, HE⟩ := hrel
    have q1 : wr.cell? ⟨w.heap.size, 3, none⟩ = some (.slice ap1 p2.length cp1) := ((hbrP.cell (p := ⟨w.heap.size, 3, none⟩) (by simp only; omega)).trans (hc1 _ _ (by simp; omega))).trans (by simp [go_sem])
    have q2 : wr.cell? ⟨w.heap.size + 1, 3, none⟩ = some (.slice ap2 p2.length cp2) := ((hbrP.cell (p := ⟨w.heap.size + 1, 3, none⟩) (by simp only; omega)).trans (hc1 _ _ (by simp))).trans (by simp [go_sem])
    have hBrP : Below w.heap.size w wr := B1.trans (hbrP.mono B1.size)
    by_cases hlt : k < p2.length
    · have hltx : k < p1.length := by omega
      obtain ⟨g1, o1, rfl, e1⟩ : ∃ g o, ap1 = some ⟨g, o, none⟩ ∧ ∀ i (h : i < p1.length), w.cell? ⟨g, o + i * 2, none⟩ = some (.string p1[i].1) ∧ w.cell? ⟨g, o + i * 2 + 1, none⟩ = some (.string p1[i].2) := by
        rcases P1.out with h | h
        · rw [h] at hltx; simp at hltx
        · exact h
      obtain ⟨g2, o2, rfl, e2⟩ : ∃ g o, ap2 = some ⟨g, o, none⟩ ∧ ∀ i (h : i < p2.length), w.cell? ⟨g, o + i * 2, none⟩ = some (.string p2[i].1) ∧ w.cell? ⟨g, o + i * 2 + 1, none⟩ = some (.string p2[i].2) := by
        rcases P2.out with h | h
        · rw [h] at hlt; simp at hlt
        · exact h
      have HB : Hid (∀ g o v, w.cell? ⟨g, o, none⟩ = some v → wr.cell? ⟨g, o, none⟩ = some v) := fun g o _ hv => (hBrP.cell (p := ⟨g, o, none⟩) (World.block_lt_of_cell? _ _ hv)).trans hv
      have x1 : wr.cell? ⟨g1, o1 + k * 2, none⟩ = some (.string p1[k].1) := HB.out _ _ _ (e1 k hltx).1
      have x2 : wr.cell? ⟨g1, o1 + k * 2 + 1, none⟩ = some (.string p1[k].2) := HB.out _ _ _ (e1 k hltx).2
      have y1 : wr.cell? ⟨g2, o2 + k * 2, none⟩ = some (.string p2[k].1) := HB.out _ _ _ (e2 k hlt).1
      have y2 : wr.cell? ⟨g2, o2 + k * 2 + 1, none⟩ = some (.string p2[k].2) := HB.out _ _ _ (e2 k hlt).2
      have HT : Hid (p1[k] = p2[k] → p1.take (k + 1) = p2.take (k + 1)) := fun heq => by
        rw [List.take_succ_eq_append_getElem hltx, List.take_succ_eq_append_getElem hlt, HE.out, heq]
      have HF : Hid (p1[k] ≠ p2[k] → p1 ≠ p2) := fun hne e => hne (by subst e; rfl)
      clear e1 e2 HB HS 
      generalize p1[k] = X at *
      generalize p2[k] = Y at *
      obtain ⟨X1, X2⟩ := X
      obtain ⟨Y1, Y2⟩ := Y
      by_cases hX1 : X1 = Y1
      · subst hX1
        by_cases hX2 : X2 = Y2
        · subst hX2
          have HT' := hide (HT.out rfl)
          clear HT HF
          go_wp2_with fail
          go_quiet (fail)
          have hb2 : Below w1.heap.size w1 (wr.drewN nq) := below_drewN hbrP nq
          go_wp2_with fail
          go_roundw
          case rel => exact ⟨k + 1, by omega, by go_num, hb2, HT'⟩
          case measure => simp [intOf]; omega
        · have HF' := hide (HF.out (fun e => hX2 (by injection e)))
          have hne : (X2.toList == Y2.toList) = false := by rw [beq_eq_false_iff_ne]; exact fun e => hX2 (bytes_inj e)
          clear HT HF
          go_wp2_with fail
          go_quiet (fail)
          have hb2 : Below w.heap.size w (wr.drewN nq) := below_drewN hBrP nq
          go_wp2_with fail
          go_ret
          rw [show R = false by rw [← HR.out]; exact decide_eq_false (fun h => HF'.out h.2.2.2.1)]
          exact ⟨rfl, hb2⟩
      · have HF' := hide (HF.out (fun e => hX1 (by injection e)))
        have hne : (X1.toList == Y1.toList) = false := by rw [beq_eq_false_iff_ne]; exact fun e => hX1 (bytes_inj e)
        clear HT HF
        go_wp2_with fail
        go_quiet (fail)
        have hb2 : Below w.heap.size w (wr.drewN nq) := below_drewN hBrP nq
        go_wp2_with fail
        go_ret
        rw [show R = false by rw [← HR.out]; exact decide_eq_false (fun h => HF'.out h.2.2.2.1)]
        exact ⟨rfl, hb2⟩
    · have HQP : Hid (p1 = p2) := by
        have h1 := HE.out
        rw [List.take_of_length_le (by omega), List.take_of_length_le (by omega)] at h1
        exact h1
      go_wp2_with fail
      go_loopw [6] (fun i wr => ∃ k : Nat, k ≤ s2.length ∧ i = .int .i64 k ∧ Below w1.heap.size w1 wr ∧ Hid (s1.take k = s2.take k)) (fun i _ => s2.length - (intOf i).toNat)
      case atStart => exact ⟨0, Nat.zero_le _, rfl, hbrP, by simp [Hid]⟩
      case round =>
        obtain ⟨k, hk, rfl, hbrS, HE⟩ := hrel
        have q1 : wr.cell? ⟨w.heap.size, 4, none⟩ = some (.slice as1 s2.length cs1) := ((hbrS.cell (p := ⟨w.heap.size, 4, none⟩) (by simp only; omega)).trans (hc1 _ _ (by simp; omega))).trans (by simp [go_sem])
        have q2 : wr.cell? ⟨w.heap.size + 1, 4, none⟩ = some (.slice as2 s2.length cs2) := ((hbrS.cell (p := ⟨w.heap.size + 1, 4, none⟩) (by simp only; omega)).trans (hc1 _ _ (by simp))).trans (by simp [go_sem])
        have hBrS : Below w.heap.size w wr := B1.trans (hbrS.mono B1.size)
        by_cases hlt : k < s2.length
        · have hltx : k < s1.length := by omega
          obtain ⟨g1, o1, rfl, e1⟩ : ∃ g o, as1 = some ⟨g, o, none⟩ ∧ ∀ i (h : i < s1.length), w.cell? ⟨g, o + i * 2, none⟩ = some (.int .i64 s1[i].1) ∧ w.cell? ⟨g, o + i * 2 + 1, none⟩ = some (.string s1[i].2) := by
            rcases S1.out with h | h
            · rw [h] at hltx; simp at hltx
            · exact h
          obtain ⟨g2, o2, rfl, e2⟩ : ∃ g o, as2 = some ⟨g, o, none⟩ ∧ ∀ i (h : i < s2.length), w.cell? ⟨g, o + i * 2, none⟩ = some (.int .i64 s2[i].1) ∧ w.cell? ⟨g, o + i * 2 + 1, none⟩ = some (.string s2[i].2) := by
            rcases S2.out with h | h
            · rw [h] at hlt; simp at hlt
            · exact h
          have HB : Hid (∀ g o v, w.cell? ⟨g, o, none⟩ = some v → wr.cell? ⟨g, o, none⟩ = some v) := fun g o _ hv => (hBrS.cell (p := ⟨g, o, none⟩) (World.block_lt_of_cell? _ _ hv)).trans hv
          have x1 : wr.cell? ⟨g1, o1 + k * 2, none⟩ = some (.int .i64 s1[k].1) := HB.out _ _ _ (e1 k hltx).1
          have x2 : wr.cell? ⟨g1, o1 + k * 2 + 1, none⟩ = some (.string s1[k].2) := HB.out _ _ _ (e1 k hltx).2
          have y1 : wr.cell? ⟨g2, o2 + k * 2, none⟩ = some (.int .i64 s2[k].1) := HB.out _ _ _ (e2 k hlt).1
          have y2 : wr.cell? ⟨g2, o2 + k * 2 + 1, none⟩ = some (.string s2[k].2) := HB.out _ _ _ (e2 k hlt).2
          have HT : Hid (s1[k] = s2[k] → s1.take (k + 1) = s2.take (k + 1)) := fun heq => by
            rw [List.take_succ_eq_append_getElem hltx, List.take_succ_eq_append_getElem hlt, HE.out, heq]
          have HF : Hid (s1[k] ≠ s2[k] → s1 ≠ s2) := fun hne e => hne (by subst e; rfl)
          clear e1 e2 HB HS 
          generalize s1[k] = X at *
          generalize s2[k] = Y at *
          obtain ⟨X1, X2⟩ := X
          obtain ⟨Y1, Y2⟩ := Y
          by_cases hX1 : X1 = Y1
          · subst hX1
            by_cases hX2 : X2 = Y2
            · subst hX2
              have HT' := hide (HT.out rfl)
              clear HT HF
              go_wp2_with fail
              go_quiet (fail)
              have hb2 : Below w1.heap.size w1 (wr.drewN nq) := below_drewN hbrS nq
              go_wp2_with fail
              go_roundw
              case rel => exact ⟨k + 1, by omega, by go_num, hb2, HT'⟩
              case measure => simp [intOf]; omega
            · have HF' := hide (HF.out (fun e => hX2 (by injection e)))
              have hne : (X2.toList == Y2.toList) = false := by rw [beq_eq_false_iff_ne]; exact fun e => hX2 (bytes_inj e)
              clear HT HF
              go_wp2_with fail
              go_quiet (fail)
              have hb2 : Below w.heap.size w (wr.drewN nq) := below_drewN hBrS nq
              go_wp2_with fail
              go_ret
              rw [show R = false by rw [← HR.out]; exact decide_eq_false (fun h => HF'.out h.2.2.2.2)]
              exact ⟨rfl, hb2⟩
          · have HF' := hide (HF.out (fun e => hX1 (by injection e)))
            have hne : (X1 == Y1) = false := by rw [beq_eq_false_iff_ne]; exact fun e => hX1 e
            clear HT HF
            go_wp2_with fail
            go_quiet (fail)
            have hb2 : Below w.heap.size w (wr.drewN nq) := below_drewN hBrS nq
            go_wp2_with fail
            go_ret
            rw [show R = false by rw [← HR.out]; exact decide_eq_false (fun h => HF'.out h.2.2.2.2)]
            exact ⟨rfl, hb2⟩
        · have HQS : Hid (s1 = s2) := by
            have h1 := HE.out
            rw [List.take_of_length_le (by omega), List.take_of_length_le (by omega)] at h1
            exact h1
          go_wp2_with fail
          go_ret
          rw [show R = true by rw [← HR.out]; exact decide_eq_true ⟨by trivial, by trivial, by trivial, HQP.out, HQS.out⟩]
          exact ⟨rfl, hBrS⟩
end Go.Proofs.YtcidoodaiimhfaaGreat

/- Nothing, as it lies in memory. -/
namespace Go.Proofs.YtcidoodaiimhfaaGreat
open Go.RowKit

theorem sameI_refl (x : Itm) : sameI x x = true := by simp [sameI]
theorem zero_is (w : World) : ItemIs w (.agg #[.int .i64 0, .string ⟨#[]⟩, .slice none 0 0, .slice none 0 0, .slice none 0 0]) Itm.none :=
  ⟨⟨none, 0, none, 0, none, 0, rfl, .inl rfl, .inl rfl, .inl rfl⟩, (show (0 : Nat) ≤ maxLen by simp), by simp [Itm.none], by simp [Itm.none], by simp [Itm.none], by simp [Itm.none], by simp [Itm.none], by simp [Itm.none]⟩
end Go.Proofs.YtcidoodaiimhfaaGreat

/- Memory of its own: from a block on, and open to be written. -/
namespace Go.Proofs.YtcidoodaiimhfaaGreat
open Go.RowKit

theorem five_apart (w : World) (b : Nat) (v0 v1 v2 v3 v4 : Value) (g o : Nat) (hg : g ≠ b) : (((((w.setCell ⟨b, 0, none⟩ v0).setCell ⟨b, 1, none⟩ v1).setCell ⟨b, 2, none⟩ v2).setCell ⟨b, 3, none⟩ v3).setCell ⟨b, 4, none⟩ v4).cell? ⟨g, o, none⟩ = w.cell? ⟨g, o, none⟩ := by
  rw [World.cell?_setCell_other _ _ _ _ (by intro e; injection e with e1; omega), World.cell?_setCell_other _ _ _ _ (by intro e; injection e with e1; omega), World.cell?_setCell_other _ _ _ _ (by intro e; injection e with e1; omega), World.cell?_setCell_other _ _ _ _ (by intro e; injection e with e1; omega), World.cell?_setCell_other _ _ _ _ (by intro e; injection e with e1; omega)]
/-- an item whose memory lies from block B on -/
def ItemFrom (B : Nat) (w : World) (v : Value) (x : Itm) : Prop := ∀ w', (∀ g o u, B ≤ g → w.cell? ⟨g, o, none⟩ = some u → w'.cell? ⟨g, o, none⟩ = some u) → ItemIs w' v x
theorem ItemFrom.is {B : Nat} {w : World} {v : Value} {x : Itm} (h : ItemFrom B w v x) : ItemIs w v x := h w (fun _ _ _ _ hu => hu)
theorem ItemFrom.moved {B : Nat} {w w' : World} {v : Value} {x : Itm} (h : ItemFrom B w v x) (hw : ∀ g o u, B ≤ g → w.cell? ⟨g, o, none⟩ = some u → w'.cell? ⟨g, o, none⟩ = some u) : ItemFrom B w' v x := fun w'' h2 => h w'' (fun g o u hg hu => h2 g o u hg (hw g o u hg hu))
theorem ItemFrom.low {B C : Nat} {w : World} {v : Value} {x : Itm} (h : ItemFrom B w v x) (hC : C ≤ B) : ItemFrom C w v x := fun w' hw => h w' (fun g o u hg hu => hw g o u (Nat.le_trans hC hg) hu)
theorem wrap_small (a : Int) (h1 : -9223372036854775808 ≤ a) (h2 : a ≤ 9223372036854775807) : IntKind.i64.wrap a = a := by
  simp only [IntKind.wrap, IntKind.bits, IntKind.signed]
  first | omega | (simp; omega)
/-- .. where what may not be written to may change, too: so none of it lies there -/
def ItemOwn (B : Nat) (w : World) (v : Value) (x : Itm) : Prop := ∀ w', (∀ g o u, B ≤ g → w.cell? ⟨g, o, none⟩ = some u → w.frozen? ⟨g, o, none⟩ = false → w'.cell? ⟨g, o, none⟩ = some u) → ItemIs w' v x
theorem ItemOwn.from {B : Nat} {w : World} {v : Value} {x : Itm} (h : ItemOwn B w v x) : ItemFrom B w v x := fun w' hw => h w' (fun g o u hg hu _ => hw g o u hg hu)
theorem ItemOwn.is {B : Nat} {w : World} {v : Value} {x : Itm} (h : ItemOwn B w v x) : ItemIs w v x := h.from.is
theorem ItemOwn.low {B C : Nat} {w : World} {v : Value} {x : Itm} (h : ItemOwn B w v x) (hC : C ≤ B) : ItemOwn C w v x := fun w' hw => h w' (fun g o u hg hu hf => hw g o u (Nat.le_trans hC hg) hu hf)
/-- texts, likewise -/
def TextsOwn (B : Nat) (w : World) (a : Option Addr) (l : List ByteArray) : Prop := ∀ w', (∀ g o u, B ≤ g → w.cell? ⟨g, o, none⟩ = some u → w.frozen? ⟨g, o, none⟩ = false → w'.cell? ⟨g, o, none⟩ = some u) → TextsAt w' a l
theorem TextsOwn.at {B : Nat} {w : World} {a : Option Addr} {l : List ByteArray} (h : TextsOwn B w a l) : TextsAt w a l := h w (fun _ _ _ _ hu _ => hu)
theorem ItemOwn.texts {B : Nat} {w : World} {k : Int} {t : ByteArray} {a1 a2 a3 : Option Addr} {n1 n2 n3 c1 c2 c3 : Nat} {x : Itm} (h : ItemOwn B w (.agg #[.int .i64 k, .string t, .slice a1 n1 c1, .slice a2 n2 c2, .slice a3 n3 c3]) x) : TextsOwn B w a1 x.l := fun w' hw => by
  obtain ⟨⟨b1, d1, b2, d2, b3, d3, e, h1, -, -⟩, -⟩ := h w' hw
  simp only [Value.agg.injEq, Array.mk.injEq, List.cons.injEq, Value.slice.injEq] at e
  rw [e.2.2.1.1]
  exact h1
end Go.Proofs.YtcidoodaiimhfaaGreat

/- Rows of texts, pairs, scores: appending them, copies of them. -/
namespace Go.Proofs.YtcidoodaiimhfaaGreat.YT
open Go.RowKit
theorem infoStr : (Tryz.prog.info? 9).map (fun i => (i.zero, i.size, i.bytes)) = some (some (.string ⟨#[]⟩), 1, 16) := by kernel_rfl
def strs (l : List ByteArray) : List Value := l.map Value.string
theorem run_append_none (P : Program) (w : World) (base : Nat) (t ty e : TypeId) (i : TypeInfo) (size : Nat) (ht : P.underlying t = some (.slice e)) (hi : P.info? e = some i)
    (v : Value) (n : Nat) (xs : List Value) (hown : w.ownsRow base e size v n xs) (c : Nat) :
    (Builtin.append_ #[t, t] ty #[v, .slice none 0 c]).run P w = .ok v w := by
  rcases hown.2 with ⟨rfl, rfl⟩ | ⟨g, cap, cur, rfl, _, _, hnc, _⟩
  · simp [Builtin.append_, run_underlying ht, sizeOf, typeInfo, hi, Builtin.lenOf, Builtin.firstCells]
  · simp [Builtin.append_, run_underlying ht, sizeOf, typeInfo, hi, Builtin.lenOf, Builtin.firstCells, hnc, storeCells]
theorem strs_one (l : List ByteArray) : ∀ u ∈ strs l, u.oneCell' = true := by
  intro u hu
  obtain ⟨t, _, rfl⟩ := List.mem_map.1 hu
  rfl
theorem texts_news {w : World} {g o : Nat} {l : List ByteArray} (h : ∀ i (hi : i < l.length), w.cell? ⟨g, o + i, none⟩ = some (.string l[i])) : ∀ j u, (strs l)[j]? = some u → w.cell? ((⟨g, o, none⟩ : Addr).add j) = some u := by
  intro j u hj
  have hjl : j < l.length := by
    have := (List.getElem?_eq_some_iff.1 hj).1
    simpa [strs] using this
  have e : (⟨g, o, none⟩ : Addr).add j = ⟨g, o + j, none⟩ := by
    unfold Addr.add
    split
    · rename_i h; subst h; rfl
    · rfl
  rw [e, h j hjl, ← hj]
  simp [strs, hjl]
/-- append of texts to a row of one's own -/
theorem wpList_append_texts {w : World} {ops : Array Oper} {rest : List Oper} {o : Oper} {a : Act} {Q : Exit → Act → World → Prop}
    (hg : o.guard = none) (s x : Operand) (hop : o.op = .call { callee := .builtin .append, args := #[s, x], argTypes := #[24, 24] })
    (base : Nat) (v : Value) (n : Nat) (xs : List Value) (hs : a.eval s = v) (hown : w.ownsRow base 9 1 v n xs)
    (ad : Option Addr) (c : Nat) (l : List ByteArray) (hx : a.eval x = .slice ad l.length c) (hl : TextsAt w ad l) (h63 : n + l.length ≤ 2000000) (hbase : base ≤ w.heap.size)
    (hK : ∀ v' w', w'.ownsRow base 9 1 v' (n + l.length) (xs ++ strs l) → w.grownBy w' v.ownBlock → wpList Tryz.prog ops Q rest (a.put o.dst v') w') :
    wpList Tryz.prog ops Q (o :: rest) a w := by
  obtain ⟨i0, hi, hz0, hz1, hz2⟩ := info_parts infoStr
  refine wpList_plain hg fun K' hK' => ?_
  cases ad with
  | none =>
    obtain rfl : l = [] := by
      rcases hl with h | ⟨g, o, h, _⟩
      · exact h
      · cases h
    have hr := run_append_none Tryz.prog w base 24 o.type 9 i0 1 Tryz.underlying24 hi v n xs hown c
    unfold Oper.wp execOp
    simp only [hop, resolve, invoke, builtin, Sem.run_bind, Sem.run_pure, Result.andThen_ok, List.map_toArray, List.map_cons, List.map_nil, hs, hx, List.length_nil, hr]
    exact hK' _ _ (hK v w (by simpa [strs] using hown) (World.grownBy.refl _ _))
  | some ad =>
    refine wp_append_own (P := Tryz.prog) w s x 24 hop base 9 i0 (.string ⟨#[]⟩) 1 16 Tryz.underlying24 hi hz0 hz1 hz2 rfl (by decide) v n xs hs hown ad l.length c (strs l) hx (by simp [strs]) ?_ (strs_one l) (by unfold maxLen; omega) (by omega) hbase ?_
    · rcases hl with h | ⟨g, o, h, hc⟩
      · subst h
        intro j u hj
        simp [strs] at hj
      · injection h with h
        subst h
        exact texts_news hc
    · intro v' w' h1 h2 _
      exact hK' _ _ (hK v' w' h1 h2)

set_option maxRecDepth 100000 in
set_option maxHeartbeats 1000000 in
theorem cloneP_any (a : Option Addr) (c : Nat) (L : List ByteArray) (w : World) (hL : TextsAt w a L) (hn : L.length ≤ 1000000) :
    Calls Tryz.prog 99 #[.slice a L.length c] w fun e w' => ∃ v, e = .returned v ∧ w'.ownsRow w.heap.size 9 1 v L.length (strs L) ∧ Below w.heap.size w w' := by
  cases a with
  | none =>
    obtain rfl : L = [] := by
      rcases hL with h | ⟨g, o, h, _⟩
      · exact h
      · cases h
    have he : ∀ w : World, (binOp .eql 24 (.slice none 0 c) (.slice none 0 0)).run Tryz.prog w = .ok (.bool true) w := fun _ => rfl
    go_enter Tryz.func99, Tryz.ntmps99
    go_wp2_with fail
    go_ret
    exact ⟨_, rfl, World.ownsRow_nil _ _ _ _, Below.refl _ _⟩
  | some ad =>
    have HL := hide hL
    clear hL
    have HB : Below w.heap.size w (w.alloc (.cells #[] 9)) := (Below.refl _ w).alloc (Nat.le_refl _) _
    have HO : (w.alloc (.cells #[] 9)).ownsRow w.heap.size 9 1 (.slice (some ⟨w.heap.size, 0, none⟩) 0 0) 0 [] := World.ownsRow_lit w #[] 0 (Nat.le_refl _) (Nat.zero_le _) rfl
    have HLB := HL.out.below HB
    have he : ∀ w : World, (binOp .eql 24 (.slice (some ad) L.length c) (.slice none 0 0)).run Tryz.prog w = .ok (.bool false) w := fun _ => rfl
    go_enter Tryz.func99, Tryz.ntmps99
    go_wp2_with (at_builtin; refine wpList_append_texts rfl _ _ rfl w.heap.size _ 0 [] rfl HO (some ad) c L rfl HLB (by omega) (by simp) ?_)
    intro v2 w2 hown2 hg2
    have hb2 : Below w.heap.size w w2 := HB.grown hg2 HB.size (fun j hj => (HO.lt j hj).1)
    go_wp2_with fail
    go_ret
    exact ⟨v2, rfl, hown2, hb2⟩

end Go.Proofs.YtcidoodaiimhfaaGreat.YT
namespace Go.Proofs.YtcidoodaiimhfaaGreat.YP
open Go.RowKit
def rowP (l : List (ByteArray × ByteArray)) : List Value := (l.map fun p => [Value.string p.1, Value.string p.2]).flatten
theorem rowP_len (l : List (ByteArray × ByteArray)) : (rowP l).length = l.length * 2 := by
  induction l with
  | nil => rfl
  | cons p r ih => simp [rowP] at ih ⊢; omega
theorem rowP_snoc (l : List (ByteArray × ByteArray)) (p : ByteArray × ByteArray) : rowP (l ++ [p]) = rowP l ++ [.string p.1, .string p.2] := by simp [rowP]
theorem infoPair : (Tryz.prog.info? 87).map (fun i => (i.zero, i.size, i.bytes)) = some (some (.agg #[.string ⟨#[]⟩, .string ⟨#[]⟩]), 2, 32) := by kernel_rfl

theorem run_append_noneP (P : Program) (w : World) (base : Nat) (t ty e : TypeId) (i : TypeInfo) (size : Nat) (ht : P.underlying t = some (.slice e)) (hi : P.info? e = some i)
    (v : Value) (n : Nat) (xs : List Value) (hown : w.ownsRow base e size v n xs) (c : Nat) :
    (Builtin.append_ #[t, t] ty #[v, .slice none 0 c]).run P w = .ok v w := by
  rcases hown.2 with ⟨rfl, rfl⟩ | ⟨g, cap, cur, rfl, _, _, hnc, _⟩
  · simp [Builtin.append_, run_underlying ht, sizeOf, typeInfo, hi, Builtin.lenOf, Builtin.firstCells]
  · simp [Builtin.append_, run_underlying ht, sizeOf, typeInfo, hi, Builtin.lenOf, Builtin.firstCells, hnc, storeCells]
theorem rowP_one (l : List (ByteArray × ByteArray)) : ∀ u ∈ rowP l, u.oneCell' = true := by
  induction l with
  | nil => intro u hu; cases hu
  | cons p r ih =>
    intro u hu
    have e : rowP (p :: r) = .string p.1 :: .string p.2 :: rowP r := rfl
    rw [e] at hu
    rcases List.mem_cons.1 hu with rfl | hu
    · rfl
    · rcases List.mem_cons.1 hu with rfl | hu
      · rfl
      · exact ih u hu
theorem rowP_at (l : List (ByteArray × ByteArray)) (i : Nat) (h : i < l.length) : (rowP l)[i * 2]? = some (.string l[i].1) ∧ (rowP l)[i * 2 + 1]? = some (.string l[i].2) := by
  induction l generalizing i with
  | nil => simp at h
  | cons p r ih =>
    have e : rowP (p :: r) = .string p.1 :: .string p.2 :: rowP r := rfl
    rw [e]
    cases i with
    | zero => exact ⟨rfl, rfl⟩
    | succ i =>
      have := ih i (by simpa using h)
      rw [show (i + 1) * 2 = i * 2 + 1 + 1 by omega]
      simpa using this
theorem pairs_news {w : World} {g o : Nat} {l : List (ByteArray × ByteArray)} (h : ∀ i (hi : i < l.length), w.cell? ⟨g, o + i * 2, none⟩ = some (.string l[i].1) ∧ w.cell? ⟨g, o + i * 2 + 1, none⟩ = some (.string l[i].2)) : ∀ j u, (rowP l)[j]? = some u → w.cell? ((⟨g, o, none⟩ : Addr).add j) = some u := by
  intro j u hj
  have hjl : j < l.length * 2 := by
    have := (List.getElem?_eq_some_iff.1 hj).1
    rwa [rowP_len] at this
  have e : (⟨g, o, none⟩ : Addr).add j = ⟨g, o + j, none⟩ := by
    unfold Addr.add
    split
    · rename_i h; subst h; rfl
    · rfl
  have hq : j / 2 < l.length := by omega
  obtain ⟨r1, r2⟩ := rowP_at l (j / 2) hq
  obtain ⟨d1, d2⟩ := h (j / 2) hq
  rw [e]
  by_cases hm : j % 2 = 0
  · have e1 : j = j / 2 * 2 := by omega
    rw [← e1] at r1
    rw [show o + j = o + j / 2 * 2 by omega, d1, ← r1, hj]
  · have e1 : j = j / 2 * 2 + 1 := by omega
    rw [← e1] at r2
    rw [show o + j = o + j / 2 * 2 + 1 by omega, d2, ← r2, hj]
/-- append of texts to a row of one's own -/
theorem wpList_append_pairs {w : World} {ops : Array Oper} {rest : List Oper} {o : Oper} {a : Act} {Q : Exit → Act → World → Prop}
    (hg : o.guard = none) (s x : Operand) (hop : o.op = .call { callee := .builtin .append, args := #[s, x], argTypes := #[25, 25] })
    (base : Nat) (v : Value) (n : Nat) (xs : List Value) (hs : a.eval s = v) (hown : w.ownsRow base 87 2 v n xs)
    (ad : Option Addr) (c : Nat) (l : List (ByteArray × ByteArray)) (hx : a.eval x = .slice ad l.length c) (hl : PairsAt w ad l) (h63 : n + l.length ≤ 2000000) (hbase : base ≤ w.heap.size)
    (hK : ∀ v' w', w'.ownsRow base 87 2 v' (n + l.length) (xs ++ rowP l) → w.grownBy w' v.ownBlock → wpList Tryz.prog ops Q rest (a.put o.dst v') w') :
    wpList Tryz.prog ops Q (o :: rest) a w := by
  obtain ⟨i0, hi, hz0, hz1, hz2⟩ := info_parts infoPair
  refine wpList_plain hg fun K' hK' => ?_
  cases ad with
  | none =>
    obtain rfl : l = [] := by
      rcases hl with h | ⟨g, o, h, _⟩
      · exact h
      · cases h
    have hr := run_append_noneP Tryz.prog w base 25 o.type 87 i0 2 Tryz.underlying25 hi v n xs hown c
    unfold Oper.wp execOp
    simp only [hop, resolve, invoke, builtin, Sem.run_bind, Sem.run_pure, Result.andThen_ok, List.map_toArray, List.map_cons, List.map_nil, hs, hx, List.length_nil, hr]
    exact hK' _ _ (hK v w (by simpa [rowP] using hown) (World.grownBy.refl _ _))
  | some ad =>
    refine wp_append_own (P := Tryz.prog) w s x 25 hop base 87 i0 (.agg #[.string ⟨#[]⟩, .string ⟨#[]⟩]) 2 32 Tryz.underlying25 hi hz0 hz1 hz2 rfl (by decide) v n xs hs hown ad l.length c (rowP l) hx (by rw [rowP_len]) ?_ (rowP_one l) (by unfold maxLen; omega) (by omega) hbase ?_
    · rcases hl with h | ⟨g, o, h, hc⟩
      · subst h
        intro j u hj
        simp [rowP] at hj
      · injection h with h
        subst h
        exact pairs_news hc
    · intro v' w' h1 h2 _
      exact hK' _ _ (hK v' w' h1 h2)

set_option maxRecDepth 100000 in
set_option maxHeartbeats 1000000 in
theorem cloneP_any (a : Option Addr) (c : Nat) (L : List (ByteArray × ByteArray)) (w : World) (hL : PairsAt w a L) (hn : L.length ≤ 1000000) :
    Calls Tryz.prog 110 #[.slice a L.length c] w fun e w' => ∃ v, e = .returned v ∧ w'.ownsRow w.heap.size 87 2 v L.length (rowP L) ∧ Below w.heap.size w w' := by
  cases a with
  | none =>
    obtain rfl : L = [] := by
      rcases hL with h | ⟨g, o, h, _⟩
      · exact h
      · cases h
    have he : ∀ w : World, (binOp .eql 25 (.slice none 0 c) (.slice none 0 0)).run Tryz.prog w = .ok (.bool true) w := fun _ => rfl
    go_enter Tryz.func110, Tryz.ntmps110
    go_wp2_with fail
    go_ret
    exact ⟨_, rfl, World.ownsRow_nil _ _ _ _, Below.refl _ _⟩
  | some ad =>
    have HL := hide hL
    clear hL
    have HB : Below w.heap.size w (w.alloc (.cells #[] 87)) := (Below.refl _ w).alloc (Nat.le_refl _) _
    have HO : (w.alloc (.cells #[] 87)).ownsRow w.heap.size 87 2 (.slice (some ⟨w.heap.size, 0, none⟩) 0 0) 0 [] := World.ownsRow_lit w #[] 0 (Nat.le_refl _) (Nat.zero_le _) rfl
    have HLB := HL.out.below HB
    have he : ∀ w : World, (binOp .eql 25 (.slice (some ad) L.length c) (.slice none 0 0)).run Tryz.prog w = .ok (.bool false) w := fun _ => rfl
    go_enter Tryz.func110, Tryz.ntmps110
    go_wp2_with (at_builtin; refine wpList_append_pairs rfl _ _ rfl w.heap.size _ 0 [] rfl HO (some ad) c L rfl HLB (by omega) (by simp) ?_)
    intro v2 w2 hown2 hg2
    have hb2 : Below w.heap.size w w2 := HB.grown hg2 HB.size (fun j hj => (HO.lt j hj).1)
    go_wp2_with fail
    go_ret
    exact ⟨v2, rfl, hown2, hb2⟩

end Go.Proofs.YtcidoodaiimhfaaGreat.YP
namespace Go.Proofs.YtcidoodaiimhfaaGreat.YS
open Go.RowKit
def rowP (l : List (Int × ByteArray)) : List Value := (l.map fun p => [Value.int .i64 p.1, Value.string p.2]).flatten
theorem rowP_len (l : List (Int × ByteArray)) : (rowP l).length = l.length * 2 := by
  induction l with
  | nil => rfl
  | cons p r ih => simp [rowP] at ih ⊢; omega
theorem rowP_snoc (l : List (Int × ByteArray)) (p : Int × ByteArray) : rowP (l ++ [p]) = rowP l ++ [.int .i64 p.1, .string p.2] := by simp [rowP]
theorem infoScore : (Tryz.prog.info? 89).map (fun i => (i.zero, i.size, i.bytes)) = some (some (.agg #[.int .i64 0, .string ⟨#[]⟩]), 2, 24) := by kernel_rfl

theorem run_append_noneP (P : Program) (w : World) (base : Nat) (t ty e : TypeId) (i : TypeInfo) (size : Nat) (ht : P.underlying t = some (.slice e)) (hi : P.info? e = some i)
    (v : Value) (n : Nat) (xs : List Value) (hown : w.ownsRow base e size v n xs) (c : Nat) :
    (Builtin.append_ #[t, t] ty #[v, .slice none 0 c]).run P w = .ok v w := by
  rcases hown.2 with ⟨rfl, rfl⟩ | ⟨g, cap, cur, rfl, _, _, hnc, _⟩
  · simp [Builtin.append_, run_underlying ht, sizeOf, typeInfo, hi, Builtin.lenOf, Builtin.firstCells]
  · simp [Builtin.append_, run_underlying ht, sizeOf, typeInfo, hi, Builtin.lenOf, Builtin.firstCells, hnc, storeCells]
theorem rowP_one (l : List (Int × ByteArray)) : ∀ u ∈ rowP l, u.oneCell' = true := by
  induction l with
  | nil => intro u hu; cases hu
  | cons p r ih =>
    intro u hu
    have e : rowP (p :: r) = .int .i64 p.1 :: .string p.2 :: rowP r := rfl
    rw [e] at hu
    rcases List.mem_cons.1 hu with rfl | hu
    · rfl
    · rcases List.mem_cons.1 hu with rfl | hu
      · rfl
      · exact ih u hu
theorem rowP_at (l : List (Int × ByteArray)) (i : Nat) (h : i < l.length) : (rowP l)[i * 2]? = some (.int .i64 l[i].1) ∧ (rowP l)[i * 2 + 1]? = some (.string l[i].2) := by
  induction l generalizing i with
  | nil => simp at h
  | cons p r ih =>
    have e : rowP (p :: r) = .int .i64 p.1 :: .string p.2 :: rowP r := rfl
    rw [e]
    cases i with
    | zero => exact ⟨rfl, rfl⟩
    | succ i =>
      have := ih i (by simpa using h)
      rw [show (i + 1) * 2 = i * 2 + 1 + 1 by omega]
      simpa using this
theorem pairs_news {w : World} {g o : Nat} {l : List (Int × ByteArray)} (h : ∀ i (hi : i < l.length), w.cell? ⟨g, o + i * 2, none⟩ = some (.int .i64 l[i].1) ∧ w.cell? ⟨g, o + i * 2 + 1, none⟩ = some (.string l[i].2)) : ∀ j u, (rowP l)[j]? = some u → w.cell? ((⟨g, o, none⟩ : Addr).add j) = some u := by
  intro j u hj
  have hjl : j < l.length * 2 := by
    have := (List.getElem?_eq_some_iff.1 hj).1
    rwa [rowP_len] at this
  have e : (⟨g, o, none⟩ : Addr).add j = ⟨g, o + j, none⟩ := by
    unfold Addr.add
    split
    · rename_i h; subst h; rfl
    · rfl
  have hq : j / 2 < l.length := by omega
  obtain ⟨r1, r2⟩ := rowP_at l (j / 2) hq
  obtain ⟨d1, d2⟩ := h (j / 2) hq
  rw [e]
  by_cases hm : j % 2 = 0
  · have e1 : j = j / 2 * 2 := by omega
    rw [← e1] at r1
    rw [show o + j = o + j / 2 * 2 by omega, d1, ← r1, hj]
  · have e1 : j = j / 2 * 2 + 1 := by omega
    rw [← e1] at r2
    rw [show o + j = o + j / 2 * 2 + 1 by omega, d2, ← r2, hj]
/-- append of texts to a row of one's own -/
theorem wpList_append_pairs {w : World} {ops : Array Oper} {rest : List Oper} {o : Oper} {a : Act} {Q : Exit → Act → World → Prop}
    (hg : o.guard = none) (s x : Operand) (hop : o.op = .call { callee := .builtin .append, args := #[s, x], argTypes := #[26, 26] })
    (base : Nat) (v : Value) (n : Nat) (xs : List Value) (hs : a.eval s = v) (hown : w.ownsRow base 89 2 v n xs)
    (ad : Option Addr) (c : Nat) (l : List (Int × ByteArray)) (hx : a.eval x = .slice ad l.length c) (hl : ScoresAt w ad l) (h63 : n + l.length ≤ 2000000) (hbase : base ≤ w.heap.size)
    (hK : ∀ v' w', w'.ownsRow base 89 2 v' (n + l.length) (xs ++ rowP l) → w.grownBy w' v.ownBlock → wpList Tryz.prog ops Q rest (a.put o.dst v') w') :
    wpList Tryz.prog ops Q (o :: rest) a w := by
  obtain ⟨i0, hi, hz0, hz1, hz2⟩ := info_parts infoScore
  refine wpList_plain hg fun K' hK' => ?_
  cases ad with
  | none =>
    obtain rfl : l = [] := by
      rcases hl with h | ⟨g, o, h, _⟩
      · exact h
      · cases h
    have hr := run_append_noneP Tryz.prog w base 26 o.type 89 i0 2 Tryz.underlying26 hi v n xs hown c
    unfold Oper.wp execOp
    simp only [hop, resolve, invoke, builtin, Sem.run_bind, Sem.run_pure, Result.andThen_ok, List.map_toArray, List.map_cons, List.map_nil, hs, hx, List.length_nil, hr]
    exact hK' _ _ (hK v w (by simpa [rowP] using hown) (World.grownBy.refl _ _))
  | some ad =>
    refine wp_append_own (P := Tryz.prog) w s x 26 hop base 89 i0 (.agg #[.int .i64 0, .string ⟨#[]⟩]) 2 24 Tryz.underlying26 hi hz0 hz1 hz2 rfl (by decide) v n xs hs hown ad l.length c (rowP l) hx (by rw [rowP_len]) ?_ (rowP_one l) (by unfold maxLen; omega) (by omega) hbase ?_
    · rcases hl with h | ⟨g, o, h, hc⟩
      · subst h
        intro j u hj
        simp [rowP] at hj
      · injection h with h
        subst h
        exact pairs_news hc
    · intro v' w' h1 h2 _
      exact hK' _ _ (hK v' w' h1 h2)

set_option maxRecDepth 100000 in
set_option maxHeartbeats 1000000 in
theorem cloneP_any (a : Option Addr) (c : Nat) (L : List (Int × ByteArray)) (w : World) (hL : ScoresAt w a L) (hn : L.length ≤ 1000000) :
    Calls Tryz.prog 116 #[.slice a L.length c] w fun e w' => ∃ v, e = .returned v ∧ w'.ownsRow w.heap.size 89 2 v L.length (rowP L) ∧ Below w.heap.size w w' := by
  cases a with
  | none =>
    obtain rfl : L = [] := by
      rcases hL with h | ⟨g, o, h, _⟩
      · exact h
      · cases h
    have he : ∀ w : World, (binOp .eql 26 (.slice none 0 c) (.slice none 0 0)).run Tryz.prog w = .ok (.bool true) w := fun _ => rfl
    go_enter Tryz.func116, Tryz.ntmps116
    go_wp2_with fail
    go_ret
    exact ⟨_, rfl, World.ownsRow_nil _ _ _ _, Below.refl _ _⟩
  | some ad =>
    have HL := hide hL
    clear hL
    have HB : Below w.heap.size w (w.alloc (.cells #[] 89)) := (Below.refl _ w).alloc (Nat.le_refl _) _
    have HO : (w.alloc (.cells #[] 89)).ownsRow w.heap.size 89 2 (.slice (some ⟨w.heap.size, 0, none⟩) 0 0) 0 [] := World.ownsRow_lit w #[] 0 (Nat.le_refl _) (Nat.zero_le _) rfl
    have HLB := HL.out.below HB
    have he : ∀ w : World, (binOp .eql 26 (.slice (some ad) L.length c) (.slice none 0 0)).run Tryz.prog w = .ok (.bool false) w := fun _ => rfl
    go_enter Tryz.func116, Tryz.ntmps116
    go_wp2_with (at_builtin; refine wpList_append_pairs rfl _ _ rfl w.heap.size _ 0 [] rfl HO (some ad) c L rfl HLB (by omega) (by simp) ?_)
    intro v2 w2 hown2 hg2
    have hb2 : Below w.heap.size w w2 := HB.grown hg2 HB.size (fun j hj => (HO.lt j hj).1)
    go_wp2_with fail
    go_ret
    exact ⟨v2, rfl, hown2, hb2⟩

end Go.Proofs.YtcidoodaiimhfaaGreat.YS

/- WALK of the check of an item, whole. -/
namespace Go.Proofs.YtcidoodaiimhfaaGreat
open Go.RowKit

set_option maxRecDepth 100000 in
set_option maxHeartbeats 4000000 in
theorem check_any (v : Value) (x : Itm) (w : World) (h : ItemIs w v x) :
    Calls Tryz.prog 75 #[v] w fun e w' => e = .returned (.int .i64 (chkI x)) ∧ Below w.heap.size w w' := by
  obtain ⟨⟨a1, c1, a2, c2, a3, c3, rfl, h1, h2, h3⟩, tz, lz, pz, sz, ll, pl, sl⟩ := h
  obtain ⟨k, t, l, p, s⟩ := x
  simp only at *
  by_cases h0 : k < 1 ∨ 5 < k
  · have hp : chkI ⟨k, t, l, p, s⟩ = 7 := by rw [chkI, if_pos h0]
    rw [hp]
    clear hp
    rcases h0 with h0 | h0
    · go_enter Tryz.func75, Tryz.ntmps75
      go_wp2_with fail
      go_ret
      exact ⟨rfl, (Below.refl _ _).alloc (Nat.le_refl _) _⟩
    · have h0' : ¬ k < 1 := by omega
      go_enter Tryz.func75, Tryz.ntmps75
      go_wp2_with fail
      go_ret
      exact ⟨rfl, (Below.refl _ _).alloc (Nat.le_refl _) _⟩
  have hk1 : ¬ k < 1 := by omega
  have hk5 : ¬ 5 < k := by omega
  have HO : Hid (∀ W, Calls Tryz.prog 141 #[.agg #[.int .i64 k, .string t, .slice a1 l.length c1, .slice a2 p.length c2, .slice a3 s.length c3]] W fun e w' => e = .returned (.bool (otherI ⟨k, t, l, p, s⟩)) ∧ Below W.heap.size W w') := fun W => hasOther_any k t a1 a2 a3 l.length p.length s.length c1 c2 c3 W
  cases ho : otherI ⟨k, t, l, p, s⟩ with
  | true =>
    have hp : chkI ⟨k, t, l, p, s⟩ = 1 := by rw [chkI, if_neg h0, if_pos ho]
    rw [hp]
    rw [ho] at HO
    clear hp h0 ho
    go_enter Tryz.func75, Tryz.ntmps75
    go_wp2_with fail
    refine (HO.out _).mono ?_
    rintro e w1 ⟨rfl, hb1⟩
    go_wp2_with fail
    go_ret
    exact ⟨rfl, ((Below.refl _ w).alloc (Nat.le_refl _) _).trans (hb1.mono (by simp))⟩
  | false =>
    have hp : chkI ⟨k, t, l, p, s⟩ = if k = 2 then sizeT l.length (l.any longT) else if k = 3 then setT l else if k = 4 then hashT p else if k = 5 then scoreT s else if longT t = true then 2 else 0 := by
      rw [chkI, if_neg h0, if_neg (by rw [ho]; decide)]
    rw [hp]
    rw [ho] at HO
    clear hp h0 ho
    have hkk : k = 1 ∨ k = 2 ∨ k = 3 ∨ k = 4 ∨ k = 5 := by omega
    have H1 : Hid (TextsAt w a1 l) := h1
    have H2 : Hid (PairsAt w a2 p) := h2
    have H3 : Hid (ScoresAt w a3 s) := h3
    have HZ : Hid (∀ t ∈ s, t.2.size ≤ maxLen) := sz
    clear h1 h2 h3 lz pz sz hk1 hk5
    rcases hkk with rfl | rfl | rfl | rfl | rfl
    · rw [if_neg (by decide), if_neg (by decide), if_neg (by decide), if_neg (by decide)]
      have HL : Hid (∀ W, Calls Tryz.prog 143 #[.string t] W fun e w' => e = .returned (.bool (longT t)) ∧ w' = W) := fun W => isLong_any t W
      generalize longT t = B at *
      go_enter Tryz.func75, Tryz.ntmps75
      go_wp2_with fail
      refine (HO.out _).mono ?_
      rintro e w1 ⟨rfl, hb1⟩
      obtain ⟨hc, hf⟩ := bcell hb1
      have hz : w.heap.size < w1.heap.size := by have := hb1.size; simp at this; omega
      have hB1 : Below w.heap.size w w1 := ((Below.refl _ w).alloc (Nat.le_refl _) _).trans (hb1.mono (by simp))
      go_wp2_with fail
      refine (HL.out _).mono ?_
      rintro e w2 ⟨rfl, rfl⟩
      cases B with
      | true =>
        go_wp2_with fail
        go_ret
        exact ⟨rfl, hB1⟩
      | false =>
        go_wp2_with fail
        go_ret
        exact ⟨rfl, hB1⟩
    · rw [if_pos rfl]
      have HC : Hid (∀ W, Below w.heap.size w W → Calls Tryz.prog 142 #[.slice a1 l.length c1, .func (.func 143) #[] #[]] W fun e w' => e = .returned (.int .i64 (sizeT l.length (l.any longT))) ∧ Below W.heap.size W w') := fun W hW => checkSizeT_any a1 c1 l W (H1.out.below hW)
      generalize sizeT l.length (l.any longT) = Z at *
      go_enter Tryz.func75, Tryz.ntmps75
      go_wp2_with fail
      refine (HO.out _).mono ?_
      rintro e w1 ⟨rfl, hb1⟩
      obtain ⟨hc, hf⟩ := bcell hb1
      have hz : w.heap.size < w1.heap.size := by have := hb1.size; simp at this; omega
      have hB1 : Below w.heap.size w w1 := ((Below.refl _ w).alloc (Nat.le_refl _) _).trans (hb1.mono (by simp))
      go_wp2_with fail
      refine (HC.out w1 hB1).mono ?_
      rintro e w2 ⟨rfl, hb2⟩
      go_wp2_with fail
      go_ret
      exact ⟨rfl, hB1.trans (hb2.mono hB1.size)⟩
    · rw [if_neg (by decide), if_pos rfl]
      have HC : Hid (∀ W, Below w.heap.size w W → Calls Tryz.prog 144 #[.slice a1 l.length c1] W fun e w' => e = .returned (.int .i64 (setT l)) ∧ Below W.heap.size W w') := fun W hW => checkSet_any a1 c1 l W (H1.out.below hW)
      generalize setT l = Z at *
      go_enter Tryz.func75, Tryz.ntmps75
      go_wp2_with fail
      refine (HO.out _).mono ?_
      rintro e w1 ⟨rfl, hb1⟩
      obtain ⟨hc, hf⟩ := bcell hb1
      have hz : w.heap.size < w1.heap.size := by have := hb1.size; simp at this; omega
      have hB1 : Below w.heap.size w w1 := ((Below.refl _ w).alloc (Nat.le_refl _) _).trans (hb1.mono (by simp))
      go_wp2_with fail
      refine (HC.out w1 hB1).mono ?_
      rintro e w2 ⟨rfl, hb2⟩
      go_wp2_with fail
      go_ret
      exact ⟨rfl, hB1.trans (hb2.mono hB1.size)⟩
    · rw [if_neg (by decide), if_neg (by decide), if_pos rfl]
      have HC : Hid (∀ W, Below w.heap.size w W → Calls Tryz.prog 145 #[.slice a2 p.length c2] W fun e w' => e = .returned (.int .i64 (hashT p)) ∧ Below W.heap.size W w') := fun W hW => checkHash_any a2 c2 p W (H2.out.below hW)
      generalize hashT p = Z at *
      go_enter Tryz.func75, Tryz.ntmps75
      go_wp2_with fail
      refine (HO.out _).mono ?_
      rintro e w1 ⟨rfl, hb1⟩
      obtain ⟨hc, hf⟩ := bcell hb1
      have hz : w.heap.size < w1.heap.size := by have := hb1.size; simp at this; omega
      have hB1 : Below w.heap.size w w1 := ((Below.refl _ w).alloc (Nat.le_refl _) _).trans (hb1.mono (by simp))
      go_wp2_with fail
      refine (HC.out w1 hB1).mono ?_
      rintro e w2 ⟨rfl, hb2⟩
      go_wp2_with fail
      go_ret
      exact ⟨rfl, hB1.trans (hb2.mono hB1.size)⟩
    · rw [if_neg (by decide), if_neg (by decide), if_neg (by decide), if_pos rfl]
      have HC : Hid (∀ W, Below w.heap.size w W → Calls Tryz.prog 146 #[.slice a3 s.length c3] W fun e w' => e = .returned (.int .i64 (scoreT s)) ∧ Below W.heap.size W w') := fun W hW => checkScores_any a3 c3 s W (H3.out.below hW) HZ.out
      generalize scoreT s = Z at *
      go_enter Tryz.func75, Tryz.ntmps75
      go_wp2_with fail
      refine (HO.out _).mono ?_
      rintro e w1 ⟨rfl, hb1⟩
      obtain ⟨hc, hf⟩ := bcell hb1
      have hz : w.heap.size < w1.heap.size := by have := hb1.size; simp at this; omega
      have hB1 : Below w.heap.size w w1 := ((Below.refl _ w).alloc (Nat.le_refl _) _).trans (hb1.mono (by simp))
      go_wp2_with fail
      refine (HC.out w1 hB1).mono ?_
      rintro e w2 ⟨rfl, hb2⟩
      go_wp2_with fail
      go_ret
      exact ⟨rfl, hB1.trans (hb2.mono hB1.size)⟩
end Go.Proofs.YtcidoodaiimhfaaGreat

/- Sets as plain data: what rises, what is put in its place. -/
namespace Go.Proofs.YtcidoodaiimhfaaGreat

/-- a text ahead of another -/
def lessT (a b : ByteArray) : Prop := a.data.toList < b.data.toList
theorem cmpB_lt : ∀ a b : List UInt8, Lib.compareBytes a b < 0 ↔ a < b
  | [], [] => by simp [Lib.compareBytes]
  | [], _ :: _ => by simp [Lib.compareBytes]
  | _ :: _, [] => by simp [Lib.compareBytes]
  | a :: ar, b :: br => by
    rw [Lib.compareBytes, List.cons_lt_cons_iff]
    have hne : ∀ c : UInt8, ¬ c < c := fun c h => by rw [UInt8.lt_iff_toNat_lt] at h; omega
    split
    · rename_i h
      simp [h]
    · rename_i h
      split
      · rename_i h2
        have : a ≠ b := fun e => by subst e; exact hne _ h2
        simp [h, this]
      · rename_i h2
        have e : a = b := UInt8.toNat_inj.1 (by rw [UInt8.lt_iff_toNat_lt] at h h2; omega)
        subst e
        rw [cmpB_lt ar br]
        simp [hne]
theorem cmpB_gt : ∀ a b : List UInt8, 0 < Lib.compareBytes a b ↔ b < a
  | [], [] => by simp [Lib.compareBytes]
  | [], _ :: _ => by simp [Lib.compareBytes]
  | _ :: _, [] => by simp [Lib.compareBytes]
  | a :: ar, b :: br => by
    rw [Lib.compareBytes, List.cons_lt_cons_iff]
    have hne : ∀ c : UInt8, ¬ c < c := fun c h => by rw [UInt8.lt_iff_toNat_lt] at h; omega
    split
    · rename_i h
      have h3 : ¬ b < a := fun h2 => by rw [UInt8.lt_iff_toNat_lt] at h h2; omega
      have : b ≠ a := fun e => by subst e; exact hne _ h
      simp [h3, this]
    · rename_i h
      split
      · rename_i h2
        simp [h2]
      · rename_i h2
        have e : a = b := UInt8.toNat_inj.1 (by rw [UInt8.lt_iff_toNat_lt] at h h2; omega)
        subst e
        rw [cmpB_gt ar br]
        simp [hne]
theorem listLt_or_eq {a b : List UInt8} (h : a ≤ b) : a < b ∨ a = b := by
  by_cases h2 : a < b
  · exact .inl h2
  · exact .inr (List.le_antisymm h (List.not_lt.1 h2))
theorem cmpT_lt (a b : ByteArray) : cmpT a b < 0 ↔ lessT a b := cmpB_lt _ _
theorem cmpT_gt (a b : ByteArray) : 0 < cmpT a b ↔ lessT b a := cmpB_gt _ _
theorem lessT_irrefl (a : ByteArray) : ¬ lessT a a := List.lt_irrefl _
theorem lessT_trans {a b c : ByteArray} (h : lessT a b) (h2 : lessT b c) : lessT a c := List.lt_trans h h2
theorem bytes_eq {a b : ByteArray} (h : a.data.toList = b.data.toList) : a = b := by
  cases a; cases b
  congr 1
  exact Array.toList_inj.1 h
theorem lessT_or (a b : ByteArray) : lessT a b ∨ a = b ∨ lessT b a := by
  by_cases h : lessT a b
  · exact .inl h
  by_cases h2 : lessT b a
  · exact .inr (.inr h2)
  · exact .inr (.inl (bytes_eq (List.le_antisymm (List.not_lt.1 h2) (List.not_lt.1 h))))
/-- what rises -/
def Rises (l : List ByteArray) : Prop := l.Pairwise lessT
theorem Rises.nodup {l : List ByteArray} (h : Rises l) : l.Nodup := h.imp (fun hab e => by subst e; exact lessT_irrefl _ hab)
theorem rises_unique : ∀ {l m : List ByteArray}, Rises l → Rises m → (∀ x, x ∈ l ↔ x ∈ m) → l = m
  | [], [], _, _, _ => rfl
  | [], b :: m, _, _, h => by have := (h b).2 (by simp); cases this
  | a :: l, [], _, _, h => by have := (h a).1 (by simp); cases this
  | a :: l, b :: m, hl, hm, h => by
    have hl' := List.pairwise_cons.1 hl
    have hm' := List.pairwise_cons.1 hm
    have hab : a = b := by
      have h1 := (h a).1 (by simp)
      have h2 := (h b).2 (by simp)
      rcases List.mem_cons.1 h1 with e | h1
      · exact e
      rcases List.mem_cons.1 h2 with e | h2
      · exact e.symm
      exact absurd (lessT_trans (hm'.1 a h1) (hl'.1 b h2)) (lessT_irrefl _)
    subst hab
    congr 1
    refine rises_unique hl'.2 hm'.2 (fun x => ⟨fun hx => ?_, fun hx => ?_⟩)
    · rcases List.mem_cons.1 ((h x).1 (by simp [hx])) with e | h1
      · subst e; exact absurd (hl'.1 _ hx) (lessT_irrefl _)
      · exact h1
    · rcases List.mem_cons.1 ((h x).2 (by simp [hx])) with e | h1
      · subst e; exact absurd (hm'.1 _ hx) (lessT_irrefl _)
      · exact h1
theorem rises_of_riseTo {l : List ByteArray} (h : riseTo cmpT l l.length = true) : Rises l := by
  have hadj : ∀ j, j + 1 < l.length → lessT l[j]! l[j + 1]! := fun j hj => by
    rw [riseTo, List.all_eq_true] at h
    have := h j (List.mem_range.2 (by omega))
    simp only [decide_eq_true_eq] at this
    exact (cmpT_lt _ _).1 this
  have hfar : ∀ d i, i + d + 1 < l.length → lessT l[i]! l[i + d + 1]! := fun d => by
    induction d with
    | zero => exact fun i hi => hadj i hi
    | succ d ih => exact fun i hi => lessT_trans (ih i (by omega)) (hadj (i + d + 1) (by omega))
  rw [Rises, List.pairwise_iff_getElem]
  intro i j hi hj hij
  have := hfar (j - i - 1) i (by omega)
  rw [show i + (j - i - 1) + 1 = j by omega] at this
  simpa [hi, hj] using this
theorem riseTo_of_rises {l : List ByteArray} (h : Rises l) : riseTo cmpT l l.length = true := by
  rw [riseTo, List.all_eq_true]
  intro j hj
  rw [List.mem_range] at hj
  rw [Rises, List.pairwise_iff_getElem] at h
  have h1 := h j (j + 1) (by omega) (by omega) (by omega)
  have e1 : l[j]! = l[j]'(by omega) := by simp [show j < l.length by omega]
  have e2 : l[j + 1]! = l[j + 1]'(by omega) := by simp [show j + 1 < l.length by omega]
  rw [e1, e2, decide_eq_true_eq]
  exact (cmpT_lt _ _).2 h1
/-- a text put ahead of the first one that is behind it -/
def insT : List ByteArray → ByteArray → List ByteArray
  | [], s => [s]
  | a :: r, s => if 0 < cmpT a s then s :: a :: r else a :: insT r s
theorem mem_insT {l : List ByteArray} {s x : ByteArray} : x ∈ insT l s ↔ x = s ∨ x ∈ l := by
  induction l with
  | nil => simp [insT]
  | cons a r ih =>
    rw [insT]
    split
    · simp
    · rw [List.mem_cons, ih, List.mem_cons]
      exact ⟨fun h => by rcases h with h | h | h <;> simp [h], fun h => by rcases h with h | h | h <;> simp [h]⟩
theorem rises_insT {l : List ByteArray} {s : ByteArray} (h : Rises l) (hs : s ∉ l) : Rises (insT l s) := by
  induction l with
  | nil => simp [insT, Rises]
  | cons a r ih =>
    have h' := List.pairwise_cons.1 h
    rw [insT]
    split
    · rename_i hc
      have hsa := (cmpT_gt a s).1 hc
      refine List.pairwise_cons.2 ⟨fun b hb => ?_, h⟩
      rcases List.mem_cons.1 hb with rfl | hb
      · exact hsa
      · exact lessT_trans hsa (h'.1 b hb)
    · rename_i hc
      have hsa : lessT a s := by
        rcases lessT_or a s with h1 | h1 | h1
        · exact h1
        · subst h1; exact absurd (List.mem_cons_self ..) hs
        · exact absurd ((cmpT_gt a s).2 h1) hc
      refine List.pairwise_cons.2 ⟨fun b hb => ?_, ih h'.2 (fun hx => hs (List.mem_cons_of_mem _ hx))⟩
      rcases mem_insT.1 hb with rfl | hb
      · exact hsa
      · exact h'.1 b hb
/-- .. if it is not there -/
def putT (l : List ByteArray) (s : ByteArray) : List ByteArray := if hasT l s = true then l else insT l s
theorem mem_putT {l : List ByteArray} {s x : ByteArray} : x ∈ putT l s ↔ x = s ∨ x ∈ l := by
  unfold putT
  split
  · rename_i h
    rw [hasT_iff] at h
    exact ⟨.inr, fun hx => by
      rcases hx with rfl | hx
      · exact h
      · exact hx⟩
  · exact mem_insT
theorem rises_putT {l : List ByteArray} {s : ByteArray} (h : Rises l) : Rises (putT l s) := by
  unfold putT
  split
  · exact h
  · rename_i hn
    exact rises_insT h (fun hx => hn (hasT_iff.2 hx))
theorem insT_len (l : List ByteArray) (s : ByteArray) : (insT l s).length = l.length + 1 := by
  induction l with
  | nil => rfl
  | cons a r ih =>
    rw [insT]
    split
    · rfl
    · simp [ih]
theorem putT_len (l : List ByteArray) (s : ByteArray) : l.length ≤ (putT l s).length ∧ (putT l s).length ≤ l.length + 1 := by
  unfold putT
  split
  · omega
  · rw [insT_len]; omega
/-- many of them -/
def addT (l m : List ByteArray) : List ByteArray := m.foldl putT l
theorem addT_snoc (l m : List ByteArray) (s : ByteArray) : addT l (m ++ [s]) = putT (addT l m) s := by simp [addT]
theorem mem_addT {l m : List ByteArray} {x : ByteArray} : x ∈ addT l m ↔ x ∈ l ∨ x ∈ m := by
  induction m generalizing l with
  | nil => simp [addT]
  | cons a m ih =>
    show x ∈ addT (putT l a) m ↔ _
    rw [ih, mem_putT, List.mem_cons]
    exact ⟨fun h => by rcases h with (h | h) | h <;> simp [h], fun h => by rcases h with h | h | h <;> simp [h]⟩
theorem rises_addT {l m : List ByteArray} (h : Rises l) : Rises (addT l m) := by
  induction m generalizing l with
  | nil => exact h
  | cons a m ih => exact ih (rises_putT h)
theorem addT_len (l m : List ByteArray) : l.length ≤ (addT l m).length ∧ (addT l m).length ≤ l.length + m.length := by
  induction m generalizing l with
  | nil => simp [addT]
  | cons a m ih =>
    have h1 := ih (putT l a)
    have h2 := putT_len l a
    show l.length ≤ (addT (putT l a) m).length ∧ (addT (putT l a) m).length ≤ _
    rw [List.length_cons]
    omega
/-- what is sorted, each once -/
theorem compact_sorted {zs : List (List UInt8)} (h : zs.Pairwise (fun a b => a ≤ b)) : (Lib.compact zs).Pairwise (fun a b => a < b) ∧ ∀ x, x ∈ Lib.compact zs ↔ x ∈ zs := by
  have hg : ∀ j (hj : j < zs.length), zs.toArray[j]! = zs[j] := fun j hj => by simp [hj]
  rw [List.pairwise_iff_getElem] at h
  have hin : ∀ i, ∀ hi : i < zs.length, zs[i] ∈ Lib.compact zs := fun i => by
    induction i with
    | zero =>
      intro hi
      unfold Lib.compact Lib.compactUpTo
      rw [List.mem_map]
      exact ⟨0, List.mem_filter.2 ⟨List.mem_range.2 hi, by simp [Lib.keeps]⟩, hg 0 hi⟩
    | succ i ih =>
      intro hi
      by_cases e : zs[i + 1] = zs[i]
      · rw [e]
        exact ih (by omega)
      · unfold Lib.compact Lib.compactUpTo
        rw [List.mem_map]
        refine ⟨i + 1, List.mem_filter.2 ⟨List.mem_range.2 hi, ?_⟩, hg _ hi⟩
        unfold Lib.keeps
        rw [decide_eq_true_eq, hg _ hi, show i + 1 - 1 = i by omega, hg i (by omega)]
        exact .inr e
  refine ⟨?_, fun x => ⟨fun hx => ?_, fun hx => ?_⟩⟩
  · unfold Lib.compact Lib.compactUpTo
    rw [List.pairwise_map]
    have hp : ((List.range zs.length).filter (Lib.keeps zs.toArray)).Pairwise (fun i j => i < j) := List.pairwise_lt_range.filter _
    refine hp.imp_of_mem ?_
    intro i j hi hj hij
    have hj' := List.mem_filter.1 hj
    have hjl := List.mem_range.1 hj'.1
    rw [hg i (by omega), hg j hjl]
    have hk := hj'.2
    unfold Lib.keeps at hk
    rw [decide_eq_true_eq, hg j hjl, hg (j - 1) (by omega)] at hk
    rcases hk with hk | hk
    · omega
    · have h1 : zs[i] ≤ zs[j - 1] := by
        rcases Nat.lt_or_ge i (j - 1) with h2 | h2
        · exact h i (j - 1) (by omega) (by omega) h2
        · have e : i = j - 1 := by omega
          subst e
          exact List.le_refl _
      have h2 : zs[j - 1] ≤ zs[j] := h (j - 1) j (by omega) (by omega) (by omega)
      have h3 : zs[j - 1] < zs[j] := by
        rcases listLt_or_eq h2 with h3 | h3
        · exact h3
        · exact absurd h3.symm hk
      exact List.lt_of_le_of_lt h1 h3
  · unfold Lib.compact Lib.compactUpTo at hx
    rw [List.mem_map] at hx
    obtain ⟨j, hj, rfl⟩ := hx
    have hjl := List.mem_range.1 (List.mem_filter.1 hj).1
    rw [hg j hjl]
    exact List.getElem_mem _
  · obtain ⟨i, hi, rfl⟩ := List.getElem_of_mem hx
    exact hin i hi
def bytesL (l : List ByteArray) : List (List UInt8) := l.map fun t => t.data.toList
def textsL (l : List (List UInt8)) : List ByteArray := l.map fun t => ⟨t.toArray⟩
theorem texts_bytes (l : List ByteArray) : textsL (bytesL l) = l := by
  unfold textsL bytesL
  rw [List.map_map]
  refine (List.map_congr_left (fun a _ => ?_)).trans (List.map_id l)
  cases a
  simp
theorem sorted_bytes (l : List (List UInt8)) : (l.mergeSort fun x y => decide (x ≤ y)).Pairwise (fun a b => a ≤ b) := by
  have := List.pairwise_mergeSort (le := fun x y : List UInt8 => decide (x ≤ y)) (fun a b c h1 h2 => by
    rw [decide_eq_true_eq] at *
    exact List.le_trans h1 h2) (fun a b => by
    rw [Bool.or_eq_true, decide_eq_true_eq, decide_eq_true_eq]
    exact List.le_total _ _) l
  exact this.imp (fun h => by simpa using h)
theorem mem_textsL {l : List (List UInt8)} {x : ByteArray} : x ∈ textsL l ↔ x.data.toList ∈ l := by
  unfold textsL
  rw [List.mem_map]
  constructor
  · rintro ⟨a, ha, rfl⟩
    simpa using ha
  · intro h
    refine ⟨_, h, ?_⟩
    cases x
    simp
theorem mem_bytesL {l : List ByteArray} {x : List UInt8} : x ∈ bytesL l ↔ (⟨x.toArray⟩ : ByteArray) ∈ l := by
  unfold bytesL
  rw [List.mem_map]
  constructor
  · rintro ⟨a, ha, rfl⟩
    have e : (⟨a.data.toList.toArray⟩ : ByteArray) = a := by cases a; simp
    rw [e]
    exact ha
  · intro h
    exact ⟨_, h, by simp⟩
theorem rises_textsL {l : List (List UInt8)} (h : l.Pairwise (fun a b => a < b)) : Rises (textsL l) := by
  unfold Rises textsL
  rw [List.pairwise_map]
  exact h.imp (fun h => by simpa [lessT] using h)
/-- sorted, each once: as if each were put in its place -/
theorem compact_all_is (l m : List ByteArray) (hl : Rises l) : textsL (Lib.compact ((bytesL (l ++ m)).mergeSort fun x y => decide (x ≤ y))) = addT l m := by
  obtain ⟨h1, h2⟩ := compact_sorted (sorted_bytes (bytesL (l ++ m)))
  refine rises_unique (rises_textsL h1) (rises_addT hl) (fun x => ?_)
  rw [mem_textsL, h2, List.mem_mergeSort, mem_bytesL, mem_addT]
  have e : (⟨x.data.toList.toArray⟩ : ByteArray) = x := by cases x; simp
  rw [e, List.mem_append]
/-- sorted, of things none of which is there twice -/
theorem sorted_once {l : List ByteArray} (hl : l.Nodup) : Rises (textsL ((bytesL l).mergeSort fun x y => decide (x ≤ y))) ∧ ∀ x, x ∈ textsL ((bytesL l).mergeSort fun x y => decide (x ≤ y)) ↔ x ∈ l := by
  have hnd : (bytesL l).Nodup := by
    unfold bytesL
    unfold List.Nodup
    rw [List.pairwise_map]
    exact hl.imp (fun h e => h (bytes_eq e))
  have hp := (List.mergeSort_perm (bytesL l) (fun x y => decide (x ≤ y)))
  have hnd2 := hp.nodup_iff.2 hnd
  refine ⟨rises_textsL ?_, fun x => ?_⟩
  · have := (sorted_bytes (bytesL l)).and hnd2
    exact this.imp (fun ⟨h1, h2⟩ => by
      rcases listLt_or_eq h1 with h3 | h3
      · exact h3
      · exact absurd h3 h2)
  · rw [mem_textsL, List.mem_mergeSort, mem_bytesL]
end Go.Proofs.YtcidoodaiimhfaaGreat

/- Spaces: entries as plain data, and as they lie in memory. -/
namespace Go.Proofs.YtcidoodaiimhfaaGreat
open Go.RowKit

structure Ent where
  key : ByteArray
  item : Itm
  til : Int
def Ent.none : Ent := ⟨⟨#[]⟩, Itm.none, 0⟩
instance : Inhabited Ent := ⟨Ent.none⟩
/-- is it gone? -/
def goneE (e : Ent) (now : Int) : Bool := decide (e.til ≠ 0 ∧ e.til ≤ now)
def timeT (n : Int) : Bool := decide (0 ≤ n ∧ n ≤ 1000000)
/-- what is wrong with an entry -/
def chkE (e : Ent) : Int := if longT e.key = true then 2 else if chkI e.item ≠ 0 then chkI e.item else if timeT e.til = true then 0 else 3
instance decLessT (a b : ByteArray) : Decidable (lessT a b) := inferInstanceAs (Decidable (a.data.toList < b.data.toList))
/-- does it stand behind? -/
def behindE : Option ByteArray → Ent → Bool
  | none, _ => true
  | some k, e => decide (lessT k e.key)
/-- what is wrong with entries, behind a key -/
def chkFrom : Option ByteArray → List Ent → Int
  | _, [] => 0
  | p, e :: r => if chkE e ≠ 0 then chkE e else if behindE p e = true then chkFrom (some e.key) r else 4
/-- .. with a space -/
def chkSp (s : List Ent) : Int := if 16 < s.length then 2 else chkFrom none s
/-- .. and with what time it is -/
def chkAt (s : List Ent) (now : Int) : Int := if chkSp s ≠ 0 then chkSp s else if timeT now = true then 0 else 3
/-- .. and with a key that is asked for -/
def chkKey (s : List Ent) (now : Int) (key : ByteArray) : Int := if chkAt s now ≠ 0 then chkAt s now else if longT key = true then 2 else 0
/-- the key ahead of a place -/
def aheadE (s : List Ent) (i : Nat) : Option ByteArray := if i = 0 then none else some (s[i - 1]!).key
theorem chkFrom_at (s : List Ent) (i : Nat) (hi : i < s.length) : chkFrom (aheadE s i) (s.drop i) = if chkE s[i] ≠ 0 then chkE s[i] else if behindE (aheadE s i) s[i] = true then chkFrom (aheadE s (i + 1)) (s.drop (i + 1)) else 4 := by
  rw [List.drop_eq_getElem_cons hi, chkFrom]
  have e : aheadE s (i + 1) = some s[i].key := by rw [aheadE, if_neg (by omega)]; simp [hi]
  rw [e]
/-- what a right space has -/
structure SpRight (s : List Ent) : Prop where
  n : s.length ≤ 16
  e : ∀ x ∈ s, chkE x = 0
  r : s.Pairwise fun a b => lessT a.key b.key
theorem chkFrom_right : ∀ (p : Option ByteArray) (s : List Ent), chkFrom p s = 0 → (∀ x ∈ s, chkE x = 0) ∧ (s.Pairwise fun a b => lessT a.key b.key) ∧ ∀ k, p = some k → ∀ x ∈ s, lessT k x.key
  | _, [], _ => ⟨by simp, List.Pairwise.nil, by simp⟩
  | p, e :: r, h => by
    rw [chkFrom] at h
    split at h
    · rename_i h1; exact absurd h h1
    · rename_i h1
      have h1 : chkE e = 0 := by simpa using h1
      split at h
      · rename_i h2
        obtain ⟨a, b, c⟩ := chkFrom_right (some e.key) r h
        have hb := c e.key rfl
        refine ⟨fun x hx => ?_, List.pairwise_cons.2 ⟨hb, b⟩, fun k hk x hx => ?_⟩
        · rcases List.mem_cons.1 hx with rfl | hx
          · exact h1
          · exact a x hx
        · subst hk
          have h3 : lessT k e.key := by simpa [behindE] using h2
          rcases List.mem_cons.1 hx with rfl | hx
          · exact h3
          · exact lessT_trans h3 (hb x hx)
      · cases h
theorem spRight {s : List Ent} (h : chkSp s = 0) : SpRight s := by
  unfold chkSp at h
  split at h
  · cases h
  · rename_i h1
    obtain ⟨a, b, -⟩ := chkFrom_right none s h
    exact ⟨by omega, a, b⟩
theorem chkE_right {e : Ent} (h : chkE e = 0) : e.key.size ≤ 60 ∧ chkI e.item = 0 ∧ 0 ≤ e.til ∧ e.til ≤ 1000000 := by
  unfold chkE at h
  split at h
  · cases h
  · rename_i h1
    split at h
    · rename_i h2; exact absurd h h2
    · rename_i h2
      split at h
      · rename_i h3
        unfold timeT at h3
        have h4 : longT e.key = false := by simpa using h1
        unfold longT at h4
        simp at h3 h4 h2
        exact ⟨by omega, h2, h3.1, h3.2⟩
      · cases h
theorem small_sp {s : List Ent} (h : chkSp s = 0) : s.length ≤ 1000000 := by
  have := (spRight h).n
  omega
theorem small_at {s : List Ent} {now : Int} (h : chkAt s now = 0) : s.length ≤ 1000000 := by
  unfold chkAt at h
  by_cases h1 : chkSp s = 0
  · exact small_sp h1
  · rw [if_pos h1] at h; exact absurd h h1
theorem small_key {s : List Ent} {now : Int} {key : ByteArray} (h : chkKey s now key = 0) : s.length ≤ 1000000 := by
  unfold chkKey at h
  by_cases h1 : chkAt s now = 0
  · exact small_at h1
  · rw [if_pos h1] at h; exact absurd h h1
/-- an entry that lies in memory -/
def EntAt (w : World) (g o : Nat) (e : Ent) : Prop := ∃ a1 c1 a2 c2 a3 c3,
  (w.cell? ⟨g, o, none⟩ = some (.string e.key) ∧ w.cell? ⟨g, o + 1, none⟩ = some (.int .i64 e.item.k) ∧ w.cell? ⟨g, o + 2, none⟩ = some (.string e.item.t) ∧ w.cell? ⟨g, o + 3, none⟩ = some (.slice a1 e.item.l.length c1) ∧ w.cell? ⟨g, o + 4, none⟩ = some (.slice a2 e.item.p.length c2) ∧ w.cell? ⟨g, o + 5, none⟩ = some (.slice a3 e.item.s.length c3) ∧ w.cell? ⟨g, o + 6, none⟩ = some (.int .i64 e.til)) ∧
  ItemIs w (.agg #[.int .i64 e.item.k, .string e.item.t, .slice a1 e.item.l.length c1, .slice a2 e.item.p.length c2, .slice a3 e.item.s.length c3]) e.item
theorem EntAt.below {w w' : World} {g o : Nat} {e : Ent} (h : EntAt w g o e) (hb : Below w.heap.size w w') : EntAt w' g o e := by
  have hm : ∀ g o v, w.cell? ⟨g, o, none⟩ = some v → w'.cell? ⟨g, o, none⟩ = some v := fun g o v hv => (hb.cell (p := ⟨g, o, none⟩) (World.block_lt_of_cell? _ _ hv)).trans hv
  obtain ⟨a1, c1, a2, c2, a3, c3, ⟨h0, h1, h2, h3, h4, h5, h6⟩, hi⟩ := h
  exact ⟨a1, c1, a2, c2, a3, c3, ⟨hm _ _ _ h0, hm _ _ _ h1, hm _ _ _ h2, hm _ _ _ h3, hm _ _ _ h4, hm _ _ _ h5, hm _ _ _ h6⟩, hi.below hb⟩
/-- a space that lies in memory -/
def SpaceAt (w : World) (a : Option Addr) (s : List Ent) : Prop := s = [] ∨ ∃ g o, a = some ⟨g, o, none⟩ ∧ ∀ i (h : i < s.length), EntAt w g (o + i * 7) s[i]
theorem SpaceAt.below {w w' : World} {a : Option Addr} {s : List Ent} (h : SpaceAt w a s) (hb : Below w.heap.size w w') : SpaceAt w' a s := by
  rcases h with h | ⟨g, o, ha, hc⟩
  · exact .inl h
  · exact .inr ⟨g, o, ha, fun i hi => (hc i hi).below hb⟩
/-- an entry as a value -/
def EntIs (w : World) (v : Value) (e : Ent) : Prop := ∃ a1 c1 a2 c2 a3 c3,
  v = .agg #[.string e.key, .int .i64 e.item.k, .string e.item.t, .slice a1 e.item.l.length c1, .slice a2 e.item.p.length c2, .slice a3 e.item.s.length c3, .int .i64 e.til] ∧
  ItemIs w (.agg #[.int .i64 e.item.k, .string e.item.t, .slice a1 e.item.l.length c1, .slice a2 e.item.p.length c2, .slice a3 e.item.s.length c3]) e.item
theorem EntIs.below {w w' : World} {v : Value} {e : Ent} (h : EntIs w v e) (hb : Below w.heap.size w w') : EntIs w' v e := by
  obtain ⟨a1, c1, a2, c2, a3, c3, h0, hi⟩ := h
  exact ⟨a1, c1, a2, c2, a3, c3, h0, hi.below hb⟩
end Go.Proofs.YtcidoodaiimhfaaGreat

/- Boxes of five cells, and what becomes of them. -/
namespace Go.Proofs.YtcidoodaiimhfaaGreat
open Go.RowKit

/-- five cells lie in a block -/
structure BoxAt (w : World) (b : Nat) (v0 v1 v2 v3 v4 : Value) : Prop where
  c0 : w.cell? ⟨b, 0, none⟩ = some v0
  c1 : w.cell? ⟨b, 1, none⟩ = some v1
  c2 : w.cell? ⟨b, 2, none⟩ = some v2
  c3 : w.cell? ⟨b, 3, none⟩ = some v3
  c4 : w.cell? ⟨b, 4, none⟩ = some v4
  lt : b < w.heap.size
theorem BoxAt.below {w w' : World} {b : Nat} {v0 v1 v2 v3 v4 : Value} (h : BoxAt w b v0 v1 v2 v3 v4) (hb : Below w.heap.size w w') : BoxAt w' b v0 v1 v2 v3 v4 :=
  ⟨(hb.cell (p := ⟨b, 0, none⟩) h.lt).trans h.c0, (hb.cell (p := ⟨b, 1, none⟩) h.lt).trans h.c1, (hb.cell (p := ⟨b, 2, none⟩) h.lt).trans h.c2, (hb.cell (p := ⟨b, 3, none⟩) h.lt).trans h.c3, (hb.cell (p := ⟨b, 4, none⟩) h.lt).trans h.c4, Nat.lt_of_lt_of_le h.lt hb.size⟩
theorem BoxAt.alloc {w : World} {b : Nat} {v0 v1 v2 v3 v4 : Value} (h : BoxAt w b v0 v1 v2 v3 v4) (o : Obj) : BoxAt (w.alloc o) b v0 v1 v2 v3 v4 :=
  h.below ((Below.refl _ _).alloc (Nat.le_refl _) _)
theorem BoxAt.new (w : World) (v0 v1 v2 v3 v4 : Value) (T : TypeId) : BoxAt (w.alloc (.cells #[v0, v1, v2, v3, v4] T)) w.heap.size v0 v1 v2 v3 v4 :=
  ⟨by simp [go_sem], by simp [go_sem], by simp [go_sem], by simp [go_sem], by simp [go_sem], by simp⟩
theorem BoxAt.drewN {w : World} {b : Nat} {v0 v1 v2 v3 v4 : Value} (h : BoxAt w b v0 v1 v2 v3 v4) (n : Nat) : BoxAt (w.drewN n) b v0 v1 v2 v3 v4 :=
  ⟨h.c0, h.c1, h.c2, h.c3, h.c4, h.lt⟩
end Go.Proofs.YtcidoodaiimhfaaGreat

/- An item as new memory: common.Copy. -/
namespace Go.Proofs.YtcidoodaiimhfaaGreat
open Go.RowKit

theorem slice_ownY {w : World} {b e s : Nat} {v : Value} {n : Nat} {xs : List Value} (h : w.ownsRow b e s v n xs) : ∃ ao cp, v = .slice ao n cp := by
  rcases h.2 with ⟨rfl, rfl⟩ | ⟨g, cap, cur, rfl, _⟩
  · exact ⟨none, 0, rfl⟩
  · exact ⟨_, _, rfl⟩
/-- an item whose lists lie in memory of its own, from a block on -/
def OwnItem (B : Nat) (w : World) (v : Value) (x : Itm) : Prop := ∃ a1 c1 a2 c2 a3 c3,
  v = .agg #[.int .i64 x.k, .string x.t, .slice a1 x.l.length c1, .slice a2 x.p.length c2, .slice a3 x.s.length c3] ∧
  w.ownsRow B 9 1 (.slice a1 x.l.length c1) x.l.length (YT.strs x.l) ∧ w.ownsRow B 87 2 (.slice a2 x.p.length c2) x.p.length (YP.rowP x.p) ∧ w.ownsRow B 89 2 (.slice a3 x.s.length c3) x.s.length (YS.rowP x.s)
theorem row_keptY {B B2 T s : Nat} {w w' : World} {v : Value} {n : Nat} {xs : List Value} (h : w.ownsRow B T s v n xs) {S : Nat → Prop} (hk : Kept S w w') (hb : B2 ≤ B) (hT : T ≠ 45)
    (hS : ∀ k cs T, B ≤ k → w.heap[k]? = some (.cells cs T (0, 0)) → T ≠ 45 → ¬ S k) : w'.ownsRow B2 T s v n xs := by
  have hlt : ∀ {k : Nat} {o : Obj}, w.heap[k]? = some o → k < w.heap.size := fun {k o} hx => by
    rcases Nat.lt_or_ge k w.heap.size with h | h
    · exact h
    · rw [Array.getElem?_eq_none (by simpa using h)] at hx; simp at hx
  refine ⟨h.1, ?_⟩
  rcases h.2 with hn | ⟨g, cp, cur, e1, e2, e3, rest⟩
  · exact .inl hn
  · exact .inr ⟨g, cp, cur, e1, by omega, (hk.block g (hlt e3) (hS g _ T e2 e3 hT)).trans e3, rest⟩
theorem row_belowY {B T s : Nat} {w w' : World} {v : Value} {n : Nat} {xs : List Value} (h : w.ownsRow B T s v n xs) (hb : Below w.heap.size w w') : w'.ownsRow B T s v n xs := by
  refine ⟨h.1, ?_⟩
  rcases h.2 with hn | ⟨g, cp, cur, e1, e2, e3, rest⟩
  · exact .inl hn
  · exact .inr ⟨g, cp, cur, e1, e2, (hb.block g (Array.getElem?_eq_some_iff.1 e3).1).trans e3, rest⟩
theorem row_lowY {B B2 T s : Nat} {w : World} {v : Value} {n : Nat} {xs : List Value} (h : w.ownsRow B T s v n xs) (hb : B2 ≤ B) : w.ownsRow B2 T s v n xs := by
  refine ⟨h.1, ?_⟩
  rcases h.2 with hn | ⟨g, cp, cur, e1, e2, rest⟩
  · exact .inl hn
  · exact .inr ⟨g, cp, cur, e1, by omega, rest⟩
theorem setCell_heapY {w : World} {g : Nat} {cs : Array Value} {T : Nat} {fr : Nat × Nat} (h : w.heap[g]? = some (.cells cs T fr)) (o : Nat) (u : Value) : (w.setCell ⟨g, o, none⟩ u).heap[g]? = some (.cells (cs.setIfInBounds o u) T fr) := by
  simp [World.setCell, Array.getElem?_modify, h]
theorem allocY_new (w : World) (o : Obj) : (w.alloc o).heap[w.heap.size]? = some o := by
  show (w.heap.push o)[w.heap.size]? = some o
  simp
theorem OwnItem.kept {B B2 : Nat} {w w' : World} {v : Value} {x : Itm} (h : OwnItem B w v x) {S : Nat → Prop} (hk : Kept S w w') (hb : B2 ≤ B)
    (hS : ∀ k cs T, B ≤ k → w.heap[k]? = some (.cells cs T (0, 0)) → T ≠ 45 → ¬ S k) : OwnItem B2 w' v x := by
  obtain ⟨a1, c1, a2, c2, a3, c3, h0, h1, h2, h3⟩ := h
  exact ⟨a1, c1, a2, c2, a3, c3, h0, row_keptY h1 hk hb (by decide) hS, row_keptY h2 hk hb (by decide) hS, row_keptY h3 hk hb (by decide) hS⟩

set_option maxRecDepth 100000 in
set_option maxHeartbeats 4000000 in
theorem copy_any (v : Value) (x : Itm) (w : World) (h : ItemIs w v x) (hl : x.l.length ≤ 1000000) (hp : x.p.length ≤ 1000000) (hs : x.s.length ≤ 1000000) :
    Calls Tryz.prog 53 #[v] w fun e w' => ∃ v', e = .returned v' ∧ OwnItem w.heap.size w' v' x ∧ Below w.heap.size w w' := by
  obtain ⟨a1, c1, a2, c2, a3, c3, rfl, h1, h2, h3⟩ := h.ex
  have H1 : Hid (∀ W, Below w.heap.size w W → Calls Tryz.prog 99 #[.slice a1 x.l.length c1] W fun e w' => ∃ v, e = .returned v ∧ w'.ownsRow W.heap.size 9 1 v x.l.length (YT.strs x.l) ∧ Below W.heap.size W w') := fun W hW => YT.cloneP_any a1 c1 x.l W (h1.below hW) hl
  have H2 : Hid (∀ W, Below w.heap.size w W → Calls Tryz.prog 110 #[.slice a2 x.p.length c2] W fun e w' => ∃ v, e = .returned v ∧ w'.ownsRow W.heap.size 87 2 v x.p.length (YP.rowP x.p) ∧ Below W.heap.size W w') := fun W hW => YP.cloneP_any a2 c2 x.p W (h2.below hW) hp
  have H3 : Hid (∀ W, Below w.heap.size w W → Calls Tryz.prog 116 #[.slice a3 x.s.length c3] W fun e w' => ∃ v, e = .returned v ∧ w'.ownsRow W.heap.size 89 2 v x.s.length (YS.rowP x.s) ∧ Below W.heap.size W w') := fun W hW => YS.cloneP_any a3 c3 x.s W (h3.below hW) hs
  clear h1 h2 h3
  obtain ⟨k, hk⟩ : ∃ k, x.k = k := ⟨_, rfl⟩
  obtain ⟨t, ht⟩ : ∃ t, x.t = t := ⟨_, rfl⟩
  rw [hk, ht]
  have HKT := hide (And.intro hk ht)
  clear hk ht
  obtain ⟨W1, hW1⟩ : ∃ W1, (w.alloc (.cells #[.int .i64 k, .string t, .slice a1 x.l.length c1, .slice a2 x.p.length c2, .slice a3 x.s.length c3] 28)).alloc (.cells #[.int .i64 0, .string ⟨#[]⟩, .slice none 0 0, .slice none 0 0, .slice none 0 0] 28) = W1 := ⟨_, rfl⟩
  have HB : Below w.heap.size w W1 := hW1 ▸ ((Below.refl _ w).alloc (Nat.le_refl _) _).alloc (by simp) _
  have HH : W1.heap[w.heap.size]? = some (.cells #[.int .i64 k, .string t, .slice a1 x.l.length c1, .slice a2 x.p.length c2, .slice a3 x.s.length c3] 28 (0, 0)) := by
    rw [← hW1]
    have h1 := allocY_new w (.cells #[.int .i64 k, .string t, .slice a1 x.l.length c1, .slice a2 x.p.length c2, .slice a3 x.s.length c3] 28)
    exact (((Below.refl _ _).alloc (Nat.le_refl _) _ : Below _ _ _).block _ (Array.getElem?_eq_some_iff.1 h1).1).trans h1
  have HR : W1.heap[w.heap.size + 1]? = some (.cells #[.int .i64 0, .string ⟨#[]⟩, .slice none 0 0, .slice none 0 0, .slice none 0 0] 28 (0, 0)) := by
    rw [← hW1]
    have h1 := allocY_new (w.alloc (.cells #[.int .i64 k, .string t, .slice a1 x.l.length c1, .slice a2 x.p.length c2, .slice a3 x.s.length c3] 28)) (.cells #[.int .i64 0, .string ⟨#[]⟩, .slice none 0 0, .slice none 0 0, .slice none 0 0] 28)
    rwa [World.size_alloc] at h1
  have q2 : W1.cell? ⟨w.heap.size, 2, none⟩ = some (.slice a1 x.l.length c1) := by simp [World.cell?, HH]
  have z1 : w.heap.size < W1.heap.size := (Array.getElem?_eq_some_iff.1 HH).1
  have z2 : w.heap.size + 1 < W1.heap.size := (Array.getElem?_eq_some_iff.1 HR).1
  go_enter Tryz.func53, Tryz.ntmps53
  go_wp2_with fail
  refine (H1.out W1 HB).mono ?_
  rintro e V1 ⟨u1, rfl, ho1, hb1⟩
  obtain ⟨b1, d1, rfl⟩ := slice_ownY ho1
  have G1 := (hb1.block _ z1).trans HH
  have R1 := (hb1.block _ z2).trans HR
  have y1 : w.heap.size < V1.heap.size := (Array.getElem?_eq_some_iff.1 G1).1
  have yy1 : w.heap.size + 1 < V1.heap.size := (Array.getElem?_eq_some_iff.1 R1).1
  have B1 : Below w.heap.size w V1 := HB.trans (hb1.mono HB.size)
  have cc : V1.cell? ⟨w.heap.size, 2, none⟩ = some (.slice a1 x.l.length c1) := by simp [World.cell?, G1]
  have ff : V1.frozen? ⟨w.heap.size, 2, none⟩ = false := by simp [World.frozen?, G1]
  have K1 : Kept (one w.heap.size) V1 (V1.setCell ⟨w.heap.size, 2, none⟩ (.slice b1 x.l.length d1)) := (Kept.refl (one w.heap.size) V1).set1 2 _
  have P1 : (V1.setCell ⟨w.heap.size, 2, none⟩ (.slice b1 x.l.length d1)).heap[w.heap.size]? = some (.cells #[.int .i64 k, .string t, .slice b1 x.l.length d1, .slice a2 x.p.length c2, .slice a3 x.s.length c3] 28 (0, 0)) := by rw [setCell_heapY G1]; rfl
  have Q1 : (V1.setCell ⟨w.heap.size, 2, none⟩ (.slice b1 x.l.length d1)).heap[w.heap.size + 1]? = some (.cells #[.int .i64 0, .string ⟨#[]⟩, .slice none 0 0, .slice none 0 0, .slice none 0 0] 28 (0, 0)) := (K1.block _ yy1 (by simp [one])).trans R1
  have CB1 : Below w.heap.size w (V1.setCell ⟨w.heap.size, 2, none⟩ (.slice b1 x.l.length d1)) := B1.setCell (p := ⟨w.heap.size, 2, none⟩) (Nat.le_refl _) _
  have kz1 : W1.heap.size ≤ V1.heap.size := hb1.size
  have o1 : (V1.setCell ⟨w.heap.size, 2, none⟩ (.slice b1 x.l.length d1)).ownsRow W1.heap.size 9 1 (.slice b1 x.l.length d1) x.l.length (YT.strs x.l) := K1.owns ho1 (fun j hj e => by have := (ho1.lt j hj).1; simp only [one] at e; omega)
  obtain ⟨W2, hW2⟩ : ∃ W', V1.setCell ⟨w.heap.size, 2, none⟩ (.slice b1 x.l.length d1) = W' := ⟨_, rfl⟩
  rw [hW2] at K1 P1 Q1 CB1 o1
  have z11 : w.heap.size < W2.heap.size := (Array.getElem?_eq_some_iff.1 P1).1
  have z21 : w.heap.size + 1 < W2.heap.size := (Array.getElem?_eq_some_iff.1 Q1).1
  have q3 : W2.cell? ⟨w.heap.size, 3, none⟩ = some (.slice a2 x.p.length c2) := by simp [World.cell?, P1]
  go_wp2_with fail
  refine (H2.out W2 CB1).mono ?_
  rintro e V2 ⟨u2, rfl, ho2, hb2⟩
  obtain ⟨b2, d2, rfl⟩ := slice_ownY ho2
  have G2 := (hb2.block _ z11).trans P1
  have R2 := (hb2.block _ z21).trans Q1
  have y2 : w.heap.size < V2.heap.size := (Array.getElem?_eq_some_iff.1 G2).1
  have yy2 : w.heap.size + 1 < V2.heap.size := (Array.getElem?_eq_some_iff.1 R2).1
  have B2 : Below w.heap.size w V2 := CB1.trans (hb2.mono CB1.size)
  have cc : V2.cell? ⟨w.heap.size, 3, none⟩ = some (.slice a2 x.p.length c2) := by simp [World.cell?, G2]
  have ff : V2.frozen? ⟨w.heap.size, 3, none⟩ = false := by simp [World.frozen?, G2]
  have K2 : Kept (one w.heap.size) V2 (V2.setCell ⟨w.heap.size, 3, none⟩ (.slice b2 x.p.length d2)) := (Kept.refl (one w.heap.size) V2).set1 3 _
  have P2 : (V2.setCell ⟨w.heap.size, 3, none⟩ (.slice b2 x.p.length d2)).heap[w.heap.size]? = some (.cells #[.int .i64 k, .string t, .slice b1 x.l.length d1, .slice b2 x.p.length d2, .slice a3 x.s.length c3] 28 (0, 0)) := by rw [setCell_heapY G2]; rfl
  have Q2 : (V2.setCell ⟨w.heap.size, 3, none⟩ (.slice b2 x.p.length d2)).heap[w.heap.size + 1]? = some (.cells #[.int .i64 0, .string ⟨#[]⟩, .slice none 0 0, .slice none 0 0, .slice none 0 0] 28 (0, 0)) := (K2.block _ yy2 (by simp [one])).trans R2
  have CB2 : Below w.heap.size w (V2.setCell ⟨w.heap.size, 3, none⟩ (.slice b2 x.p.length d2)) := B2.setCell (p := ⟨w.heap.size, 3, none⟩) (Nat.le_refl _) _
  have kz2 : W2.heap.size ≤ V2.heap.size := hb2.size
  have o2 : (V2.setCell ⟨w.heap.size, 3, none⟩ (.slice b2 x.p.length d2)).ownsRow W2.heap.size 87 2 (.slice b2 x.p.length d2) x.p.length (YP.rowP x.p) := K2.owns ho2 (fun j hj e => by have := (ho2.lt j hj).1; simp only [one] at e; omega)
  have o1 := (K2.owns (row_belowY o1 hb2) (fun j hj e => by have := (o1.lt j hj).1; simp only [one] at e; omega))
  obtain ⟨W3, hW3⟩ : ∃ W', V2.setCell ⟨w.heap.size, 3, none⟩ (.slice b2 x.p.length d2) = W' := ⟨_, rfl⟩
  rw [hW3] at K2 P2 Q2 CB2 o1 o2
  have z12 : w.heap.size < W3.heap.size := (Array.getElem?_eq_some_iff.1 P2).1
  have z22 : w.heap.size + 1 < W3.heap.size := (Array.getElem?_eq_some_iff.1 Q2).1
  have q4 : W3.cell? ⟨w.heap.size, 4, none⟩ = some (.slice a3 x.s.length c3) := by simp [World.cell?, P2]
  go_wp2_with fail
  refine (H3.out W3 CB2).mono ?_
  rintro e V3 ⟨u3, rfl, ho3, hb3⟩
  obtain ⟨b3, d3, rfl⟩ := slice_ownY ho3
  have G3 := (hb3.block _ z12).trans P2
  have R3 := (hb3.block _ z22).trans Q2
  have y3 : w.heap.size < V3.heap.size := (Array.getElem?_eq_some_iff.1 G3).1
  have yy3 : w.heap.size + 1 < V3.heap.size := (Array.getElem?_eq_some_iff.1 R3).1
  have B3 : Below w.heap.size w V3 := CB2.trans (hb3.mono CB2.size)
  have cc : V3.cell? ⟨w.heap.size, 4, none⟩ = some (.slice a3 x.s.length c3) := by simp [World.cell?, G3]
  have ff : V3.frozen? ⟨w.heap.size, 4, none⟩ = false := by simp [World.frozen?, G3]
  have K3 : Kept (one w.heap.size) V3 (V3.setCell ⟨w.heap.size, 4, none⟩ (.slice b3 x.s.length d3)) := (Kept.refl (one w.heap.size) V3).set1 4 _
  have P3 : (V3.setCell ⟨w.heap.size, 4, none⟩ (.slice b3 x.s.length d3)).heap[w.heap.size]? = some (.cells #[.int .i64 k, .string t, .slice b1 x.l.length d1, .slice b2 x.p.length d2, .slice b3 x.s.length d3] 28 (0, 0)) := by rw [setCell_heapY G3]; rfl
  have Q3 : (V3.setCell ⟨w.heap.size, 4, none⟩ (.slice b3 x.s.length d3)).heap[w.heap.size + 1]? = some (.cells #[.int .i64 0, .string ⟨#[]⟩, .slice none 0 0, .slice none 0 0, .slice none 0 0] 28 (0, 0)) := (K3.block _ yy3 (by simp [one])).trans R3
  have CB3 : Below w.heap.size w (V3.setCell ⟨w.heap.size, 4, none⟩ (.slice b3 x.s.length d3)) := B3.setCell (p := ⟨w.heap.size, 4, none⟩) (Nat.le_refl _) _
  have kz3 : W3.heap.size ≤ V3.heap.size := hb3.size
  have o3 : (V3.setCell ⟨w.heap.size, 4, none⟩ (.slice b3 x.s.length d3)).ownsRow W3.heap.size 89 2 (.slice b3 x.s.length d3) x.s.length (YS.rowP x.s) := K3.owns ho3 (fun j hj e => by have := (ho3.lt j hj).1; simp only [one] at e; omega)
  have o1 := (K3.owns (row_belowY o1 hb3) (fun j hj e => by have := (o1.lt j hj).1; simp only [one] at e; omega))
  have o2 := (K3.owns (row_belowY o2 hb3) (fun j hj e => by have := (o2.lt j hj).1; simp only [one] at e; omega))
  obtain ⟨W4, hW4⟩ : ∃ W', V3.setCell ⟨w.heap.size, 4, none⟩ (.slice b3 x.s.length d3) = W' := ⟨_, rfl⟩
  rw [hW4] at K3 P3 Q3 CB3 o1 o2 o3
  have z13 : w.heap.size < W4.heap.size := (Array.getElem?_eq_some_iff.1 P3).1
  have z23 : w.heap.size + 1 < W4.heap.size := (Array.getElem?_eq_some_iff.1 Q3).1
  have r0 : W4.cell? ⟨w.heap.size, 0, none⟩ = some (.int .i64 k) := by simp [World.cell?, P3]
  have r1 : W4.cell? ⟨w.heap.size, 1, none⟩ = some (.string t) := by simp [World.cell?, P3]
  have r2 : W4.cell? ⟨w.heap.size, 2, none⟩ = some (.slice b1 x.l.length d1) := by simp [World.cell?, P3]
  have r3 : W4.cell? ⟨w.heap.size, 3, none⟩ = some (.slice b2 x.p.length d2) := by simp [World.cell?, P3]
  have r4 : W4.cell? ⟨w.heap.size, 4, none⟩ = some (.slice b3 x.s.length d3) := by simp [World.cell?, P3]
  have s0 : W4.cell? ⟨w.heap.size + 1, 0, none⟩ = some (.int .i64 0) := by simp [World.cell?, Q3]
  have s1 : W4.cell? ⟨w.heap.size + 1, 1, none⟩ = some (.string ⟨#[]⟩) := by simp [World.cell?, Q3]
  have s2 : W4.cell? ⟨w.heap.size + 1, 2, none⟩ = some (.slice none 0 0) := by simp [World.cell?, Q3]
  have s3 : W4.cell? ⟨w.heap.size + 1, 3, none⟩ = some (.slice none 0 0) := by simp [World.cell?, Q3]
  have s4 : W4.cell? ⟨w.heap.size + 1, 4, none⟩ = some (.slice none 0 0) := by simp [World.cell?, Q3]
  have f0 : W4.frozen? ⟨w.heap.size + 1, 0, none⟩ = false := by simp [World.frozen?, Q3]
  have f1 : W4.frozen? ⟨w.heap.size + 1, 1, none⟩ = false := by simp [World.frozen?, Q3]
  have f2 : W4.frozen? ⟨w.heap.size + 1, 2, none⟩ = false := by simp [World.frozen?, Q3]
  have f3 : W4.frozen? ⟨w.heap.size + 1, 3, none⟩ = false := by simp [World.frozen?, Q3]
  have f4 : W4.frozen? ⟨w.heap.size + 1, 4, none⟩ = false := by simp [World.frozen?, Q3]
  go_wp2_with fail
  have hH : (((((W4.setCell ⟨w.heap.size + 1, 0, none⟩ (.int .i64 k)).setCell ⟨w.heap.size + 1, 1, none⟩ (.string t)).setCell ⟨w.heap.size + 1, 2, none⟩ (.slice b1 x.l.length d1)).setCell ⟨w.heap.size + 1, 3, none⟩ (.slice b2 x.p.length d2)).setCell ⟨w.heap.size + 1, 4, none⟩ (.slice b3 x.s.length d3)).heap[w.heap.size + 1]? = some (.cells #[.int .i64 k, .string t, .slice b1 x.l.length d1, .slice b2 x.p.length d2, .slice b3 x.s.length d3] 28 (0, 0)) := by
    rw [setCell_heapY (setCell_heapY (setCell_heapY (setCell_heapY (setCell_heapY Q3 0 _) 1 _) 2 _) 3 _) 4 _]; rfl
  have hK : Kept (one (w.heap.size + 1)) W4 (((((W4.setCell ⟨w.heap.size + 1, 0, none⟩ (.int .i64 k)).setCell ⟨w.heap.size + 1, 1, none⟩ (.string t)).setCell ⟨w.heap.size + 1, 2, none⟩ (.slice b1 x.l.length d1)).setCell ⟨w.heap.size + 1, 3, none⟩ (.slice b2 x.p.length d2)).setCell ⟨w.heap.size + 1, 4, none⟩ (.slice b3 x.s.length d3)) := (((((Kept.refl (one (w.heap.size + 1)) W4).set1 0 _).set1 1 _).set1 2 _).set1 3 _).set1 4 _
  have hB : Below w.heap.size w (((((W4.setCell ⟨w.heap.size + 1, 0, none⟩ (.int .i64 k)).setCell ⟨w.heap.size + 1, 1, none⟩ (.string t)).setCell ⟨w.heap.size + 1, 2, none⟩ (.slice b1 x.l.length d1)).setCell ⟨w.heap.size + 1, 3, none⟩ (.slice b2 x.p.length d2)).setCell ⟨w.heap.size + 1, 4, none⟩ (.slice b3 x.s.length d3)) := ((((CB3.setCell (p := ⟨w.heap.size + 1, 0, none⟩) (Nat.le_succ _) _).setCell (p := ⟨w.heap.size + 1, 1, none⟩) (Nat.le_succ _) _).setCell (p := ⟨w.heap.size + 1, 2, none⟩) (Nat.le_succ _) _).setCell (p := ⟨w.heap.size + 1, 3, none⟩) (Nat.le_succ _) _).setCell (p := ⟨w.heap.size + 1, 4, none⟩) (Nat.le_succ _) _
  obtain ⟨W5, hW5⟩ : ∃ W5, ((((W4.setCell ⟨w.heap.size + 1, 0, none⟩ (.int .i64 k)).setCell ⟨w.heap.size + 1, 1, none⟩ (.string t)).setCell ⟨w.heap.size + 1, 2, none⟩ (.slice b1 x.l.length d1)).setCell ⟨w.heap.size + 1, 3, none⟩ (.slice b2 x.p.length d2)).setCell ⟨w.heap.size + 1, 4, none⟩ (.slice b3 x.s.length d3) = W5 := ⟨_, rfl⟩
  rw [hW5] at hH hK hB ⊢
  clear hW5
  have p0 : W5.cell? ⟨w.heap.size + 1, 0, none⟩ = some (.int .i64 k) := by simp [World.cell?, hH]
  have p1 : W5.cell? ⟨w.heap.size + 1, 1, none⟩ = some (.string t) := by simp [World.cell?, hH]
  have p2 : W5.cell? ⟨w.heap.size + 1, 2, none⟩ = some (.slice b1 x.l.length d1) := by simp [World.cell?, hH]
  have p3 : W5.cell? ⟨w.heap.size + 1, 3, none⟩ = some (.slice b2 x.p.length d2) := by simp [World.cell?, hH]
  have p4 : W5.cell? ⟨w.heap.size + 1, 4, none⟩ = some (.slice b3 x.s.length d3) := by simp [World.cell?, hH]
  have y4 : w.heap.size + 1 < W1.heap.size := z2
  refine bodyPost_ret (v := .agg #[.int .i64 k, .string t, .slice b1 x.l.length d1, .slice b2 x.p.length d2, .slice b3 x.s.length d3]) (by simp [results, Tryz.results53, go_sem, p0, p1, p2, p3, p4]) rfl ⟨_, rfl, ⟨b1, d1, b2, d2, b3, d3, by rw [HKT.out.1, HKT.out.2], ?_, ?_, ?_⟩, hB⟩
  · exact row_lowY (hK.owns o1 (fun j hj e => by have := (o1.lt j hj).1; simp only [one] at e; omega)) (by omega)
  · exact row_lowY (hK.owns o2 (fun j hj e => by have := (o2.lt j hj).1; simp only [one] at e; omega)) (by omega)
  · exact row_lowY (hK.owns o3 (fun j hj e => by have := (o3.lt j hj).1; simp only [one] at e; omega)) (by omega)
end Go.Proofs.YtcidoodaiimhfaaGreat

/- WALKS of spaces: what is wrong with an entry, a space, a time, a key; what is gone. -/
namespace Go.Proofs.YtcidoodaiimhfaaGreat
open Go.RowKit

theorem longY_below (t : ByteArray) (w : World) : Calls Tryz.prog 87 #[.string t] w fun e w' => e = .returned (.bool (longT t)) ∧ w' = w := by
  have h : decide ((60 : Int) < ((t.size : Nat) : Int)) = longT t := by unfold longT; simp; omega
  go_enter Tryz.func87, Tryz.ntmps87
  go_wp2_with fail
  go_ret
  exact ⟨by rw [← h]; rfl, rfl⟩
theorem timeY_any (n : Int) (w : World) : Calls Tryz.prog 135 #[.int .i64 n] w fun e w' => e = .returned (.bool (timeT n)) ∧ w' = w := by
  by_cases h1 : 0 ≤ n
  · have hv : timeT n = decide (n ≤ 1000000) := by simp [timeT, h1]
    rw [hv]
    clear hv
    go_enter Tryz.func135, Tryz.ntmps135
    go_wp2_with fail
    go_ret
    exact ⟨rfl, rfl⟩
  · have hv : timeT n = false := by simp [timeT, h1]
    rw [hv]
    clear hv
    go_enter Tryz.func135, Tryz.ntmps135
    go_wp2_with fail
    go_ret
    exact ⟨rfl, rfl⟩
set_option maxRecDepth 100000 in
theorem isGone_any (v : Value) (x : Ent) (now : Int) (w : World) (h : EntIs w v x) : Calls Tryz.prog 62 #[v, .int .i64 now] w fun e w' => e = .returned (.bool (goneE x now)) ∧ Below w.heap.size w w' := by
  obtain ⟨a1, c1, a2, c2, a3, c3, rfl, -⟩ := h
  by_cases h0 : x.til = 0
  · have hv : goneE x now = false := by simp [goneE, h0]
    rw [hv, h0]
    clear hv h0
    go_enter Tryz.func62, Tryz.ntmps62
    go_wp2_with fail
    go_ret
    exact ⟨rfl, (Below.refl _ w).alloc (Nat.le_refl _) _⟩
  · have hv : goneE x now = decide (x.til ≤ now) := by simp [goneE, h0]
    rw [hv]
    clear hv
    generalize x.til = T at *
    go_enter Tryz.func62, Tryz.ntmps62
    go_wp2_with fail
    go_ret
    refine ⟨?_, (Below.refl _ w).alloc (Nat.le_refl _) _⟩
    simp [h0]
set_option maxRecDepth 100000 in
set_option maxHeartbeats 2000000 in
theorem checkEntry_any (v : Value) (x : Ent) (w : World) (h : EntIs w v x) : Calls Tryz.prog 73 #[v] w fun e w' => e = .returned (.int .i64 (chkE x)) ∧ Below w.heap.size w w' := by
  obtain ⟨a1, c1, a2, c2, a3, c3, rfl, hi⟩ := h
  have HO : Hid (∀ W, Calls Tryz.prog 87 #[.string x.key] W fun e w' => e = .returned (.bool (longT x.key)) ∧ w' = W) := fun W => longY_below _ W
  have HI : Hid (∀ W, Below w.heap.size w W → Calls Tryz.prog 75 #[.agg #[.int .i64 x.item.k, .string x.item.t, .slice a1 x.item.l.length c1, .slice a2 x.item.p.length c2, .slice a3 x.item.s.length c3]] W fun e w' => e = .returned (.int .i64 (chkI x.item)) ∧ Below W.heap.size W w') := fun W hW => check_any _ x.item W (hi.below hW)
  have HT : Hid (∀ W, Calls Tryz.prog 135 #[.int .i64 x.til] W fun e w' => e = .returned (.bool (timeT x.til)) ∧ w' = W) := fun W => timeY_any _ W
  clear hi
  unfold chkE
  generalize chkI x.item = CI at *
  generalize timeT x.til = TT at *
  generalize longT x.key = LT at *
  generalize x.key = K at *
  generalize x.til = T at *
  generalize x.item.k = k at *
  generalize x.item.t = t at *
  generalize x.item.l.length = n1 at *
  generalize x.item.p.length = n2 at *
  generalize x.item.s.length = n3 at *
  cases LT with
  | true =>
    rw [if_pos rfl]
    go_enter Tryz.func73, Tryz.ntmps73
    go_wp2_with fail
    refine (HO.out _).mono ?_
    rintro e w1 ⟨rfl, rfl⟩
    go_wp2_with fail
    go_ret
    exact ⟨rfl, (Below.refl _ w).alloc (Nat.le_refl _) _⟩
  | false =>
    rw [if_neg (by decide)]
    have C0 : Below w.heap.size w (w.alloc (.cells #[.string K, .int .i64 k, .string t, .slice a1 n1 c1, .slice a2 n2 c2, .slice a3 n3 c3, .int .i64 T] 45)) := (Below.refl _ w).alloc (Nat.le_refl _) _
    by_cases hc : CI = 0
    · rw [if_neg (by simp [hc])]
      rw [hc] at HI
      clear hc
      cases TT with
      | true =>
        rw [if_pos rfl]
        go_enter Tryz.func73, Tryz.ntmps73
        go_wp2_with fail
        refine (HO.out _).mono ?_
        rintro e w1 ⟨rfl, rfl⟩
        go_wp2_with fail
        refine (HI.out _ C0).mono ?_
        rintro e w2 ⟨rfl, hb2⟩
        obtain ⟨hc, hf⟩ := bcell hb2
        have C2 := C0.trans (hb2.mono C0.size)
        have q6 : w2.cell? ⟨w.heap.size, 6, none⟩ = some (.int .i64 T) := (hc _ _ (by simp)).trans (by simp [go_sem])
        clear hc hf hb2
        go_wp2_with fail
        refine (HT.out _).mono ?_
        rintro e w3 ⟨rfl, rfl⟩
        go_wp2_with fail
        go_ret
        exact ⟨rfl, C2⟩
      | false =>
        rw [if_neg (by decide)]
        go_enter Tryz.func73, Tryz.ntmps73
        go_wp2_with fail
        refine (HO.out _).mono ?_
        rintro e w1 ⟨rfl, rfl⟩
        go_wp2_with fail
        refine (HI.out _ C0).mono ?_
        rintro e w2 ⟨rfl, hb2⟩
        obtain ⟨hc, hf⟩ := bcell hb2
        have C2 := C0.trans (hb2.mono C0.size)
        have q6 : w2.cell? ⟨w.heap.size, 6, none⟩ = some (.int .i64 T) := (hc _ _ (by simp)).trans (by simp [go_sem])
        clear hc hf hb2
        go_wp2_with fail
        refine (HT.out _).mono ?_
        rintro e w3 ⟨rfl, rfl⟩
        go_wp2_with fail
        go_ret
        exact ⟨rfl, C2⟩
    · rw [if_pos hc]
      have hc' : (CI == 0) = false := by rw [beq_eq_false_iff_ne]; exact hc
      clear hc
      go_enter Tryz.func73, Tryz.ntmps73
      go_wp2_with fail
      refine (HO.out _).mono ?_
      rintro e w1 ⟨rfl, rfl⟩
      go_wp2_with fail
      refine (HI.out _ C0).mono ?_
      rintro e w2 ⟨rfl, hb2⟩
      have C2 := C0.trans (hb2.mono C0.size)
      go_wp2_with fail
      go_ret
      exact ⟨rfl, C2⟩
end Go.Proofs.YtcidoodaiimhfaaGreat

