/- Part 1 of what the proof leans on: Base, IDef, IChk1, IChk5, IChk2, IChk3, IChk6, IChk7, IChk8, IChk9, IChk4. -/
import Derived.WalkKit
import Derived.Deep.QuietTactic
import Derived.Lib.Bytealg
import Derived.Test.YtmaancidkpfopaaGreatDoorChecked
import Derived.Handy
import Derived.BigQuiet
import Derived.Deep.RegionHeld3
import Derived.Maps.OwnSet
/- What a call leaves: 'Kept S w w2': of the blocks that were there, none outside S has turned. -/
namespace Go.Proofs.YtmaancidkpfopaaGreatDoor
open Go.RowKit

theorem hide {p : Prop} (h : p) : Hid p := h
theorem unhide {p : Prop} (h : Hid p) : p := h

structure Kept (S : Nat → Prop) (w w' : World) : Prop where
  os : w'.os = w.os
  tape : w'.tape = w.tape
  output : w'.output = w.output
  size : w.heap.size ≤ w'.heap.size
  block : ∀ k, k < w.heap.size → ¬ S k → w'.heap[k]? = w.heap[k]?

theorem Kept.refl (S : Nat → Prop) (w : World) : Kept S w w := ⟨rfl, rfl, rfl, Nat.le_refl _, fun _ _ _ => rfl⟩

theorem Kept.trans {S : Nat → Prop} {a b c : World} (h : Kept S a b) (k : Kept S b c) : Kept S a c :=
  ⟨k.os.trans h.os, k.tape.trans h.tape, k.output.trans h.output, Nat.le_trans h.size k.size, fun i hi hs => (k.block i (Nat.lt_of_lt_of_le hi h.size) hs).trans (h.block i hi hs)⟩

theorem Kept.mono {S T : Nat → Prop} {w w' : World} (h : Kept S w w') (hS : ∀ k, k < w.heap.size → S k → T k) : Kept T w w' :=
  ⟨h.os, h.tape, h.output, h.size, fun k hk ht => h.block k hk (fun hs => ht (hS k hk hs))⟩

theorem Kept.drew {S : Nat → Prop} {a w : World} (h : Kept S a w) : Kept S a w.drew := ⟨h.os, h.tape, h.output, h.size, h.block⟩

theorem Kept.drewN {S : Nat → Prop} {a w : World} (h : Kept S a w) (n : Nat) : Kept S a (w.drewN n) := ⟨h.os, h.tape, h.output, h.size, h.block⟩

theorem Kept.alloc {S : Nat → Prop} {a w : World} (h : Kept S a w) (o : Obj) : Kept S a (w.alloc o) :=
  h.trans ⟨rfl, rfl, rfl, by simp, fun k hk _ => Below.heap_alloc _ _ _ hk⟩

theorem Kept.setCell {S : Nat → Prop} {a w : World} (h : Kept S a w) {p : Addr} (hp : S p.block ∨ a.heap.size ≤ p.block) (u : Value) : Kept S a (w.setCell p u) :=
  ⟨h.os, h.tape, h.output, by simpa [World.setCell] using h.size, fun k hk hs => (Below.heap_setCell _ _ _ _ (by rcases hp with hp | hp; exact fun e => hs (e ▸ hp); omega)).trans (h.block k hk hs)⟩

theorem Kept.grown {S : Nat → Prop} {a w w' : World} {row : Option Nat} (h : Kept S a w) (hg : w.grownBy w' row) (hr : ∀ k, row = some k → S k ∨ a.heap.size ≤ k) : Kept S a w' :=
  ⟨hg.os.trans h.os, hg.tape.trans h.tape, hg.output.trans h.output, Nat.le_trans h.size hg.size, fun k hk hs =>
    (hg.block k (Nat.lt_of_lt_of_le hk h.size) (fun e => by rcases hr k e.symm with hp | hp; exact hs hp; omega)).trans (h.block k hk hs)⟩

theorem Kept.cell {S : Nat → Prop} {w w' : World} (h : Kept S w w') {p : Addr} (hp : p.block < w.heap.size) (hs : ¬ S p.block) : w'.cell? p = w.cell? p :=
  World.cell?_of_block (w := w) (h.block p.block hp hs)

theorem Kept.frozen {S : Nat → Prop} {w w' : World} (h : Kept S w w') {p : Addr} (hp : p.block < w.heap.size) (hs : ¬ S p.block) : w'.frozen? p = w.frozen? p :=
  World.frozen?_of_block (w := w) (h.block p.block hp hs)

/-- a cell that holds something keeps it -/
theorem Kept.cell' {S : Nat → Prop} {w w' : World} (h : Kept S w w') {p : Addr} {v : Value} (hc : w.cell? p = some v) (hs : ¬ S p.block) : w'.cell? p = some v :=
  (h.cell (World.block_lt_of_cell? w p hc) hs).trans hc

theorem Kept.below {S : Nat → Prop} {w w' : World} (h : Kept S w w') {B : Nat} (hB : B ≤ w.heap.size) (hS : ∀ k, S k → B ≤ k) : Below B w w' :=
  ⟨h.os, h.tape, h.output, h.size, fun k hk => h.block k (by omega) (fun hs => by have := hS k hs; omega)⟩

theorem Kept.of_below {w w' : World} (h : Below w.heap.size w w') (S : Nat → Prop) : Kept S w w' :=
  ⟨h.os, h.tape, h.output, h.size, fun k hk _ => h.block k hk⟩

theorem Kept.owns {S : Nat → Prop} {w w' : World} (h : Kept S w w') {base : Nat} {e : TypeId} {size : Nat} {v : Value} {n : Nat} {xs : List Value} (ho : w.ownsRow base e size v n xs)
    (hs : ∀ k, v.ownBlock = some k → ¬ S k) : w'.ownsRow base e size v n xs := by
  refine ⟨ho.1, ?_⟩
  rcases ho.2 with hn | ⟨g, cap, cur, rfl, hb, hgg, rest⟩
  · exact .inl hn
  · refine .inr ⟨g, cap, cur, rfl, hb, ?_, rest⟩
    rw [h.block g (Array.getElem?_eq_some_iff.1 hgg).1 (hs g rfl)]
    exact hgg

/-- A walk over s stands at k: its struct lies in block b. -/
structure At (b : Nat) (s : ByteArray) (k : Nat) (w : World) : Prop where
  text : w.cell? ⟨b, 0, none⟩ = some (.string s)
  at_ : w.cell? ⟨b, 1, none⟩ = some (.int .i64 k)
  fz : w.frozen? ⟨b, 1, none⟩ = false
  le : k ≤ s.size
  small : s.size ≤ maxLen

theorem At.lt {b : Nat} {s : ByteArray} {k : Nat} {w : World} (h : At b s k w) : b < w.heap.size := World.block_lt_of_cell? w _ h.text

theorem At.kept {b : Nat} {s : ByteArray} {k : Nat} {w w' : World} (h : At b s k w) {S : Nat → Prop} (hk : Kept S w w') (hs : ¬ S b) : At b s k w' :=
  ⟨hk.cell' h.text hs, hk.cell' h.at_ hs, (hk.frozen (p := ⟨b, 1, none⟩) h.lt hs).trans h.fz, h.le, h.small⟩

theorem At.drewN {b : Nat} {s : ByteArray} {k : Nat} {w : World} (h : At b s k w) (n : Nat) : At b s k (w.drewN n) := ⟨h.text, h.at_, h.fz, h.le, h.small⟩

theorem At.set {b : Nat} {s : ByteArray} {k : Nat} {w : World} (h : At b s k w) {j : Nat} (hj : j ≤ s.size) : At b s j (w.setCell ⟨b, 1, none⟩ (.int .i64 j)) := by
  refine ⟨?_, ?_, ?_, hj, h.small⟩
  · rw [World.cell?_setCell_other _ _ _ _ (by simp)]; exact h.text
  · exact World.cell?_setCell_same _ _ _ h.at_
  · simp [h.fz]

/-- the set of one block -/
def one (b : Nat) : Nat → Prop := fun k => k = b

theorem Kept.set1 {b : Nat} {a w : World} (h : Kept (one b) a w) (o : Nat) (u : Value) : Kept (one b) a (w.setCell ⟨b, o, none⟩ u) := h.setCell (S := one b) (p := ⟨b, o, none⟩) (Or.inl rfl) u
theorem Kept.setNew {S : Nat → Prop} {a w : World} (h : Kept S a w) {g o : Nat} (hg : a.heap.size ≤ g) (u : Value) : Kept S a (w.setCell ⟨g, o, none⟩ u) := h.setCell (p := ⟨g, o, none⟩) (Or.inr hg) u

theorem drop_of_suffix {l t : List UInt8} (h : l <:+ t) : t.drop (t.length - l.length) = l := by
  obtain ⟨p, rfl⟩ := h
  simp

theorem suffix_cons {c : UInt8} {r t : List UInt8} (h : (c :: r) <:+ t) : r <:+ t := (List.suffix_cons c r).trans h

theorem size_list (s : ByteArray) : s.data.toList.length = s.size := by rw [Array.length_toList]; rfl

/-- A walk over s, of which the bytes l are left. -/
def AtL (b : Nat) (s : ByteArray) (l : List UInt8) (w : World) : Prop := At b s (s.size - l.length) w ∧ l <:+ s.data.toList

theorem AtL.kept {b : Nat} {s : ByteArray} {l : List UInt8} {w w' : World} (h : AtL b s l w) {S : Nat → Prop} (hk : Kept S w w') (hs : ¬ S b) : AtL b s l w' := ⟨h.1.kept hk hs, h.2⟩
theorem AtL.lt {b : Nat} {s : ByteArray} {l : List UInt8} {w : World} (h : AtL b s l w) : b < w.heap.size := h.1.lt
theorem AtL.alloc {b : Nat} {s : ByteArray} {l : List UInt8} {w : World} (h : AtL b s l w) (o : Obj) : AtL b s l (w.alloc o) :=
  h.kept (S := fun _ => False) ((Kept.refl _ _).alloc o) (fun x => x)
theorem AtL.setOther {b : Nat} {s : ByteArray} {l : List UInt8} {w : World} (h : AtL b s l w) {g o : Nat} (hg : g ≠ b) (u : Value) : AtL b s l (w.setCell ⟨g, o, none⟩ u) :=
  h.kept (S := one g) ((Kept.refl _ _).set1 o u) (fun x => hg x.symm)
theorem AtL.drew {b : Nat} {s : ByteArray} {l : List UInt8} {w : World} (h : AtL b s l w) : AtL b s l w.drew := h.kept (S := fun _ => False) ((Kept.refl _ _).drew) (fun x => x)
theorem AtL.drewN {b : Nat} {s : ByteArray} {l : List UInt8} {w : World} (h : AtL b s l w) (n : Nat) : AtL b s l (w.drewN n) := h.kept (S := fun _ => False) ((Kept.refl _ _).drewN n) (fun x => x)
theorem AtL.len {b : Nat} {s : ByteArray} {l : List UInt8} {w : World} (h : AtL b s l w) : l.length ≤ s.size := by rw [← size_list]; exact h.2.length_le

theorem get_of_suffix {s : ByteArray} {c : UInt8} {r : List UInt8} (h : (c :: r) <:+ s.data.toList) (hk : s.size - (r.length + 1) < s.size) : s[s.size - (r.length + 1)] = c := by
  have h1 := drop_of_suffix h
  rw [size_list] at h1
  have h2 : s.data.toList[s.size - (r.length + 1)]? = some c := by
    have h3 := congrArg (fun x => x[0]?) h1
    simpa using h3
  have h4 : s.data.toList[s.size - (r.length + 1)]? = some s[s.size - (r.length + 1)] := by
    rw [List.getElem?_eq_getElem (by rw [size_list]; exact hk)]
    rfl
  rw [h4] at h2
  exact Option.some.inj h2

theorem extract_list (s : ByteArray) (a b : Nat) : s.extract a b = ⟨((s.data.toList.drop a).take (b - a)).toArray⟩ := by
  have h := ByteArray.extract_mk s.data.toList a b
  rw [Array.toArray_toList] at h
  exact h

theorem extract_suffix {s : ByteArray} {l : List UInt8} (h : l <:+ s.data.toList) (n : Nat) : s.extract (s.size - l.length) (s.size - l.length + n) = ⟨(l.take n).toArray⟩ := by
  rw [extract_list]
  have h1 := drop_of_suffix h
  rw [size_list] at h1
  rw [h1, Nat.add_sub_cancel_left]

theorem extract_suffix_all {s : ByteArray} {l : List UInt8} (h : l <:+ s.data.toList) : s.extract (s.size - l.length) s.size = ⟨l.toArray⟩ := by
  have h2 : l.length ≤ s.size := by rw [← size_list]; exact h.length_le
  have h3 := extract_suffix h l.length
  rw [Nat.sub_add_cancel h2, List.take_length] at h3
  exact h3

/-- how many bytes are left of a walk, read off the world: for a loop's measure -/
def leftOf (b : Nat) (s : ByteArray) (w : World) : Nat := s.size - (match w.cell? ⟨b, 1, none⟩ with | some (.int _ q) => q.toNat | _ => 0)
theorem AtL.left {b : Nat} {s : ByteArray} {l : List UInt8} {w : World} (h : AtL b s l w) : leftOf b s w = l.length := by
  have hl := h.len
  have e : leftOf b s w = s.size - ((s.size - l.length : Nat) : Int).toNat := by simp only [leftOf, h.1.at_]
  rw [e, Int.toNat_natCast]
  omega

theorem size_mk (l : List UInt8) : (ByteArray.mk l.toArray).size = l.length := by simp [ByteArray.size]
theorem toList_mk (l : List UInt8) : (ByteArray.mk l.toArray).data.toList = l := by simp

theorem bcell {W w1 : World} (hb : Below W.heap.size W w1) : (∀ b o, b < W.heap.size → w1.cell? ⟨b, o, none⟩ = W.cell? ⟨b, o, none⟩) ∧ (∀ b o, b < W.heap.size → w1.frozen? ⟨b, o, none⟩ = W.frozen? ⟨b, o, none⟩) :=
  ⟨fun b o h => hb.cell (p := ⟨b, o, none⟩) h, fun b o h => hb.frozen (p := ⟨b, o, none⟩) h⟩
theorem list_append (a b : ByteArray) : (a ++ b).data.toList = a.data.toList ++ b.data.toList := by
  rw [ByteArray.data_append, Array.toList_append]

end Go.Proofs.YtmaancidkpfopaaGreatDoor

/- Items as plain data, and what is wrong with one. -/
namespace Go.Proofs.YtmaancidkpfopaaGreatDoor

/-- an item -/
structure Itm where
  k : Int
  t : ByteArray
  l : List ByteArray
  p : List (ByteArray × ByteArray)
  s : List (Int × ByteArray)
/-- what a key has that is not there -/
def Itm.none : Itm := ⟨0, ⟨#[]⟩, [], [], []⟩
def Itm.isNone (x : Itm) : Bool := decide (x.k = 0 ∧ x.t.toList = [] ∧ x.l = [] ∧ x.p = [] ∧ x.s = [])

def longT (t : ByteArray) : Bool := decide (60 < t.size)
def longP (x : ByteArray × ByteArray) : Bool := longT x.1 || longT x.2
def longS (x : Int × ByteArray) : Bool := longT x.2
def outS (x : Int × ByteArray) : Bool := decide (x.1 < -999999999) || decide (999999999 < x.1)
/-- how many there are, and how long -/
def sizeT (n : Nat) (long : Bool) : Int := if n = 0 then 5 else if 24 < n ∨ long = true then 2 else 0
theorem sizeT_small {n : Nat} {b : Bool} (h : sizeT n b = 0) : n ≤ 24 := by
  unfold sizeT at h
  split at h
  · cases h
  · split at h
    · cases h
    · omega
theorem sizeT_short {n : Nat} {b : Bool} (h : sizeT n b = 0) : b = false := by
  unfold sizeT at h
  split at h
  · cases h
  · split at h
    · cases h
    · rename_i hx
      cases b
      · rfl
      · exact absurd (Or.inr rfl) hx
theorem sizeT_pos {n : Nat} {b : Bool} (h : sizeT n b = 0) : 0 < n := by
  unfold sizeT at h
  split at h
  · cases h
  · omega
/-- the order of texts -/
def cmpT (a b : ByteArray) : Int := Lib.compareBytes a.data.toList b.data.toList
def cmpP (a b : ByteArray × ByteArray) : Int := cmpT a.1 b.1
def cmpS (a b : Int × ByteArray) : Int := if a.1 < b.1 then -1 else if b.1 < a.1 then 1 else cmpT a.2 b.2
/-- do the first so many rise? -/
def riseTo {α : Type} [Inhabited α] (cmp : α → α → Int) (ts : List α) (n : Nat) : Bool := (List.range (n - 1)).all fun j => decide (cmp ts[j]! ts[j + 1]! < 0)
theorem riseTo_succ {α : Type} [Inhabited α] (cmp : α → α → Int) (ts : List α) (k : Nat) (hk : 1 ≤ k) : riseTo cmp ts (k + 1) = (riseTo cmp ts k && decide (cmp ts[k - 1]! ts[k]! < 0)) := by
  obtain ⟨m, rfl⟩ : ∃ m, k = m + 1 := ⟨k - 1, by omega⟩
  unfold riseTo
  rw [show m + 1 + 1 - 1 = m + 1 by omega, show m + 1 - 1 = m by omega, List.range_succ, List.all_append]
  simp
theorem riseTo_false {α : Type} [Inhabited α] {cmp : α → α → Int} {ts : List α} {k n : Nat} (h : riseTo cmp ts k = false) (hk : k ≤ n) : riseTo cmp ts n = false := by
  rw [riseTo, List.all_eq_false] at h ⊢
  obtain ⟨x, hx, hf⟩ := h
  rw [List.mem_range] at hx
  exact ⟨x, List.mem_range.2 (by omega), hf⟩
/-- is a member there twice? -/
def twiceS (l : List (Int × ByteArray)) : Bool := !decide ((l.map Prod.snd).Nodup)
def setT (ts : List ByteArray) : Int :=
  if sizeT ts.length (ts.any longT) ≠ 0 then sizeT ts.length (ts.any longT) else if riseTo cmpT ts ts.length = true then 0 else 4
def hashT (ts : List (ByteArray × ByteArray)) : Int :=
  if sizeT ts.length (ts.any longP) ≠ 0 then sizeT ts.length (ts.any longP) else if riseTo cmpP ts ts.length = true then 0 else 4
def scoreT (ts : List (Int × ByteArray)) : Int :=
  if sizeT ts.length (ts.any longS) ≠ 0 then sizeT ts.length (ts.any longS) else if ts.any outS = true then 3 else if twiceS ts = true then 6 else if riseTo cmpS ts ts.length = true then 0 else 4
/-- has it something that its kind does not name? -/
def otherI (x : Itm) : Bool :=
  decide ((x.k ≠ 1 ∧ ¬ x.t.toList = []) ∨ (¬ (x.k = 2 ∨ x.k = 3) ∧ 0 < x.l.length) ∨ (x.k ≠ 4 ∧ 0 < x.p.length) ∨ (x.k ≠ 5 ∧ 0 < x.s.length))
/-- what is wrong with an item -/
def chkI (x : Itm) : Int :=
  if x.k < 1 ∨ 5 < x.k then 7 else if otherI x = true then 1 else
    if x.k = 2 then sizeT x.l.length (x.l.any longT) else if x.k = 3 then setT x.l else if x.k = 4 then hashT x.p else if x.k = 5 then scoreT x.s else
    if longT x.t = true then 2 else 0
/-- .. that must be nothing, or of a kind -/
def asI (x : Itm) (kind : Int) : Int := if x.isNone = true then 0 else if chkI x ≠ 0 then chkI x else if x.k ≠ kind then 7 else 0
/-- is a text there? -/
def hasT (ts : List ByteArray) (s : ByteArray) : Bool := ts.any fun t => decide (t = s)
theorem hasT_iff {ts : List ByteArray} {s : ByteArray} : hasT ts s = true ↔ s ∈ ts := by
  simp [hasT, List.any_eq_true]
theorem hasT_not {ts : List ByteArray} {s : ByteArray} (h : s ∉ ts) : hasT ts s = false := by
  cases hb : hasT ts s
  · rfl
  · exact absurd (hasT_iff.1 hb) h
end Go.Proofs.YtmaancidkpfopaaGreatDoor

/- WALKS of the item's checks: how many, and how long (lists of texts). -/
namespace Go.Proofs.YtmaancidkpfopaaGreatDoor
open Go.RowKit

theorem isLong_any (t : ByteArray) (w : World) : Calls Tryz.prog 46 #[.string t] w fun e w' => e = .returned (.bool (longT t)) ∧ w' = w := by
  have h : decide ((60 : Int) < ((t.size : Nat) : Int)) = longT t := by unfold longT; simp; omega
  go_enter Tryz.func46, Tryz.ntmps46
  go_wp2_with fail
  go_ret
  exact ⟨rfl, rfl⟩
theorem isLong_below (t : ByteArray) (w : World) : Calls Tryz.prog 46 #[.string t] w fun e w' => e = .returned (.bool (longT t)) ∧ Below w.heap.size w w' :=
  (isLong_any t w).mono fun _ _ ⟨h1, h2⟩ => ⟨h1, by subst h2; exact Below.refl _ _⟩
/-- what lies in memory -/
def TextsAt (w : World) (a : Option Addr) (ts : List ByteArray) : Prop :=
  ts = [] ∨ ∃ g o, a = some ⟨g, o, none⟩ ∧ ∀ i (h : i < ts.length), w.cell? ⟨g, o + i, none⟩ = some (.string ts[i])
theorem TextsAt.nil (w : World) : TextsAt w none [] := .inl rfl
theorem TextsAt.moved {w w' : World} {a : Option Addr} {ts : List ByteArray} (h : TextsAt w a ts) (hb : ∀ g o v, w.cell? ⟨g, o, none⟩ = some v → w'.cell? ⟨g, o, none⟩ = some v) : TextsAt w' a ts := by
  rcases h with h | ⟨g, o, ha, hc⟩
  · exact .inl h
  · exact .inr ⟨g, o, ha, fun i hi => hb _ _ _ (hc i hi)⟩
theorem TextsAt.below {w w' : World} {a : Option Addr} {ts : List ByteArray} (h : TextsAt w a ts) (hb : Below w.heap.size w w') : TextsAt w' a ts :=
  h.moved (fun g o _ hv => (hb.cell (p := ⟨g, o, none⟩) (World.block_lt_of_cell? _ _ hv)).trans hv)
/-- what lies in memory -/
def PairsAt (w : World) (a : Option Addr) (ts : List (ByteArray × ByteArray)) : Prop :=
  ts = [] ∨ ∃ g o, a = some ⟨g, o, none⟩ ∧ ∀ i (h : i < ts.length), w.cell? ⟨g, o + i * 2, none⟩ = some (.string ts[i].1) ∧ w.cell? ⟨g, o + i * 2 + 1, none⟩ = some (.string ts[i].2)
theorem PairsAt.nil (w : World) : PairsAt w none [] := .inl rfl
theorem PairsAt.moved {w w' : World} {a : Option Addr} {ts : List (ByteArray × ByteArray)} (h : PairsAt w a ts) (hb : ∀ g o v, w.cell? ⟨g, o, none⟩ = some v → w'.cell? ⟨g, o, none⟩ = some v) : PairsAt w' a ts := by
  rcases h with h | ⟨g, o, ha, hc⟩
  · exact .inl h
  · exact .inr ⟨g, o, ha, fun i hi => ⟨hb _ _ _ (hc i hi).1, hb _ _ _ (hc i hi).2⟩⟩
theorem PairsAt.below {w w' : World} {a : Option Addr} {ts : List (ByteArray × ByteArray)} (h : PairsAt w a ts) (hb : Below w.heap.size w w') : PairsAt w' a ts :=
  h.moved (fun g o _ hv => (hb.cell (p := ⟨g, o, none⟩) (World.block_lt_of_cell? _ _ hv)).trans hv)
/-- what lies in memory -/
def ScoresAt (w : World) (a : Option Addr) (ts : List (Int × ByteArray)) : Prop :=
  ts = [] ∨ ∃ g o, a = some ⟨g, o, none⟩ ∧ ∀ i (h : i < ts.length), w.cell? ⟨g, o + i * 2, none⟩ = some (.int .i64 ts[i].1) ∧ w.cell? ⟨g, o + i * 2 + 1, none⟩ = some (.string ts[i].2)
theorem ScoresAt.nil (w : World) : ScoresAt w none [] := .inl rfl
theorem ScoresAt.moved {w w' : World} {a : Option Addr} {ts : List (Int × ByteArray)} (h : ScoresAt w a ts) (hb : ∀ g o v, w.cell? ⟨g, o, none⟩ = some v → w'.cell? ⟨g, o, none⟩ = some v) : ScoresAt w' a ts := by
  rcases h with h | ⟨g, o, ha, hc⟩
  · exact .inl h
  · exact .inr ⟨g, o, ha, fun i hi => ⟨hb _ _ _ (hc i hi).1, hb _ _ _ (hc i hi).2⟩⟩
theorem ScoresAt.below {w w' : World} {a : Option Addr} {ts : List (Int × ByteArray)} (h : ScoresAt w a ts) (hb : Below w.heap.size w w') : ScoresAt w' a ts :=
  h.moved (fun g o _ hv => (hb.cell (p := ⟨g, o, none⟩) (World.block_lt_of_cell? _ _ hv)).trans hv)

set_option maxRecDepth 100000 in
set_option maxHeartbeats 1000000 in
theorem idxLong_any (a : Option Addr) (cap : Nat) (ts : List ByteArray) (w : World) (hs : TextsAt w a ts) (hn : ts.length ≤ 1000000) :
    Calls Tryz.prog 208 #[.slice a ts.length cap, .func (.func 46) #[] #[]] w fun e w' => (∃ n : Int, e = .returned (.int .i64 n) ∧ (decide (0 ≤ n) = ts.any longT)) ∧ Below w.heap.size w w' := by
  have HS := hide hs
  clear hs
  go_enter Tryz.func208, Tryz.ntmps208
  go_wp2_with fail
  go_loopw [8] (fun i wr => ∃ k : Nat, k ≤ ts.length ∧ i = .int .i64 k ∧ Below w.heap.size w wr ∧ Hid ((ts.take k).any longT = false)) (fun i _ => ts.length - (intOf i).toNat)
  case atStart => exact ⟨0, Nat.zero_le _, rfl, Below.refl _ _, by simp [Hid]⟩
  case round =>
    obtain ⟨k, hk, rfl, hb, HA⟩ := hrel
    by_cases hlt : k < ts.length
    · obtain ⟨g, o, rfl, hcs⟩ : ∃ g o, a = some ⟨g, o, none⟩ ∧ ∀ i (h : i < ts.length), w.cell? ⟨g, o + i, none⟩ = some (.string ts[i]) := by
        rcases HS.out with h | h
        · subst h; simp at hlt
        · exact h
      have HB : Hid (∀ g o v, w.cell? ⟨g, o, none⟩ = some v → wr.cell? ⟨g, o, none⟩ = some v) := fun g o _ hv => (hb.cell (p := ⟨g, o, none⟩) (World.block_lt_of_cell? _ _ hv)).trans hv
      have d0 : wr.cell? ⟨g, o + k, none⟩ = some (.string ts[k]) := HB.out _ _ _ (hcs k hlt)
      have HT : Hid ((ts.take (k + 1)).any longT = ((ts.take k).any longT || longT ts[k])) := by
        rw [Hid, List.take_succ_eq_append_getElem hlt, List.any_append]
        simp
      have HF : Hid (longT ts[k] = true → ts.any longT = true) := fun hx => List.any_eq_true.mpr ⟨ts[k], List.getElem_mem hlt, hx⟩
      clear hcs HS HB
      go_wp2_with fail
      refine (isLong_below ts[k] wr).mono ?_
      rintro e w1 ⟨rfl, hb1⟩
      have hb2 : Below w.heap.size w w1 := hb.trans (hb1.mono hb.size)
      cases hx : longT ts[k] with
      | true =>
        have HY := hide (HF.out hx)
        clear HF HT hx
        go_wp2_with fail
        go_ret
        exact ⟨⟨_, rfl, by rw [HY.out]; simp⟩, hb2⟩
      | false =>
        have HY : Hid ((ts.take (k + 1)).any longT = false) := by rw [Hid, HT.out, HA.out, hx]; rfl
        clear HF HT hx
        go_wp2_with fail
        go_roundw
        case rel => exact ⟨k + 1, by omega, by go_num, hb2, HY⟩
        case measure => simp [intOf]; omega
    · have hkk : k = ts.length := by omega
      subst hkk
      have HY : Hid (ts.any longT = false) := by have := HA.out; rw [List.take_length] at this; exact this
      go_wp2_with fail
      go_ret
      exact ⟨⟨-1, rfl, by rw [HY.out]; rfl⟩, hb⟩
theorem containsLong_any (a : Option Addr) (cap : Nat) (ts : List ByteArray) (w : World) (hs : TextsAt w a ts) (hn : ts.length ≤ 1000000) :
    Calls Tryz.prog 131 #[.slice a ts.length cap, .func (.func 46) #[] #[]] w fun e w' => e = .returned (.bool (ts.any longT)) ∧ Below w.heap.size w w' := by
  have HI := hide (idxLong_any a cap ts w hs hn)
  clear hs
  go_enter Tryz.func131, Tryz.ntmps131
  go_wp2_with fail
  refine HI.out.mono ?_
  rintro e w1 ⟨⟨n, rfl, hd⟩, hb⟩
  have HD := hide hd
  clear hd
  go_wp2_with fail
  go_ret
  exact ⟨by rw [← HD.out]; rfl, hb⟩

theorem checkSizeT_any (a : Option Addr) (cap : Nat) (ts : List ByteArray) (w : World) (hs : TextsAt w a ts) :
    Calls Tryz.prog 45 #[.slice a ts.length cap, .func (.func 46) #[] #[]] w fun e w' => e = .returned (.int .i64 (sizeT ts.length (ts.any longT))) ∧ Below w.heap.size w w' := by
  by_cases h0 : ts.length = 0
  · have hv : sizeT ts.length (ts.any longT) = 5 := by rw [sizeT, if_pos h0]
    rw [hv]
    clear hv
    go_enter Tryz.func45, Tryz.ntmps45
    go_wp2_with fail
    go_ret
    exact ⟨rfl, Below.refl _ _⟩
  · have h0b : ((ts.length : Int) == 0) = false := by rw [beq_eq_false_iff_ne]; omega
    by_cases h24 : 24 < ts.length
    · have hv : sizeT ts.length (ts.any longT) = 2 := by rw [sizeT, if_neg h0, if_pos (.inl h24)]
      have h24' : (24 : Int) < ((ts.length : Nat) : Int) := by omega
      rw [hv]
      clear hv
      go_enter Tryz.func45, Tryz.ntmps45
      go_wp2_with fail
      go_ret
      exact ⟨rfl, Below.refl _ _⟩
    · have h24' : ¬ (24 : Int) < ((ts.length : Nat) : Int) := by omega
      have HC := hide (containsLong_any a cap ts w hs (by omega))
      cases hl : ts.any longT with
      | true =>
        have hv : sizeT ts.length true = 2 := by rw [sizeT, if_neg h0, if_pos (.inr rfl)]
        rw [hl] at HC
        rw [hv]
        clear hv hs hl
        go_enter Tryz.func45, Tryz.ntmps45
        go_wp2_with fail
        refine HC.out.mono ?_
        rintro e w1 ⟨rfl, hb1⟩
        go_wp2_with fail
        go_ret
        exact ⟨rfl, hb1⟩
      | false =>
        have hv : sizeT ts.length false = 0 := by rw [sizeT, if_neg h0, if_neg (by rintro (h | h); omega; cases h)]
        rw [hl] at HC
        rw [hv]
        clear hv hs hl
        go_enter Tryz.func45, Tryz.ntmps45
        go_wp2_with fail
        refine HC.out.mono ?_
        rintro e w1 ⟨rfl, hb1⟩
        go_wp2_with fail
        go_ret
        exact ⟨rfl, hb1⟩
end Go.Proofs.YtmaancidkpfopaaGreatDoor

/- WALKS of the item's checks: how many, and how long (pairs and scores). -/
namespace Go.Proofs.YtmaancidkpfopaaGreatDoor
open Go.RowKit

theorem longP_any (x : ByteArray × ByteArray) (w : World) : Calls Tryz.prog 134 #[.agg #[.string x.1, .string x.2]] w fun e w' => e = .returned (.bool (longP x)) ∧ Below w.heap.size w w' := by
  obtain ⟨x1, x2⟩ := x
  cases h1 : longT x1 with
  | true =>
    have hv : longP (x1, x2) = true := by simp [longP, h1]
    rw [hv]
    clear hv
    go_enter Tryz.func134, Tryz.ntmps134
    go_wp2_with fail
    refine (isLong_any x1 _).mono ?_
    rintro e w1 ⟨rfl, rfl⟩
    rw [h1]
    go_wp2_with fail
    go_ret
    exact ⟨rfl, (Below.refl _ _).alloc (Nat.le_refl _) _⟩
  | false =>
    have hv : longP (x1, x2) = longT x2 := by simp [longP, h1]
    rw [hv]
    clear hv
    go_enter Tryz.func134, Tryz.ntmps134
    go_wp2_with fail
    refine (isLong_any x1 _).mono ?_
    rintro e w1 ⟨rfl, rfl⟩
    rw [h1]
    go_wp2_with fail
    refine (isLong_any x2 _).mono ?_
    rintro e w1 ⟨rfl, rfl⟩
    go_wp2_with fail
    go_ret
    exact ⟨rfl, (Below.refl _ _).alloc (Nat.le_refl _) _⟩
theorem longS_any (x : Int × ByteArray) (w : World) : Calls Tryz.prog 139 #[.agg #[.int .i64 x.1, .string x.2]] w fun e w' => e = .returned (.bool (longS x)) ∧ Below w.heap.size w w' := by
  obtain ⟨x1, x2⟩ := x
  have hv : longS (x1, x2) = longT x2 := rfl
  rw [hv]
  clear hv
  go_enter Tryz.func139, Tryz.ntmps139
  go_wp2_with fail
  refine (isLong_any x2 _).mono ?_
  rintro e w1 ⟨rfl, rfl⟩
  go_wp2_with fail
  go_ret
  exact ⟨rfl, (Below.refl _ _).alloc (Nat.le_refl _) _⟩
theorem outS_any (x : Int × ByteArray) (w : World) : Calls Tryz.prog 141 #[.agg #[.int .i64 x.1, .string x.2]] w fun e w' => e = .returned (.bool (outS x)) ∧ Below w.heap.size w w' := by
  obtain ⟨x1, x2⟩ := x
  by_cases h1 : x1 < -999999999
  · have hv : outS (x1, x2) = true := by simp [outS, h1]
    rw [hv]
    clear hv
    go_enter Tryz.func141, Tryz.ntmps141
    go_wp2_with fail
    go_ret
    exact ⟨rfl, (Below.refl _ _).alloc (Nat.le_refl _) _⟩
  · have hv : outS (x1, x2) = decide (999999999 < x1) := by simp [outS, h1]
    rw [hv]
    clear hv
    go_enter Tryz.func141, Tryz.ntmps141
    go_wp2_with fail
    go_ret
    exact ⟨rfl, (Below.refl _ _).alloc (Nat.le_refl _) _⟩

set_option maxRecDepth 100000 in
set_option maxHeartbeats 1000000 in
theorem idxLongP_any (a : Option Addr) (cap : Nat) (ts : List (ByteArray × ByteArray)) (w : World) (hs : PairsAt w a ts) (hn : ts.length ≤ 1000000) :
    Calls Tryz.prog 191 #[.slice a ts.length cap, .func (.func 134) #[] #[]] w fun e w' => (∃ n : Int, e = .returned (.int .i64 n) ∧ (decide (0 ≤ n) = ts.any longP)) ∧ Below w.heap.size w w' := by
  have HS := hide hs
  clear hs
  go_enter Tryz.func191, Tryz.ntmps191
  go_wp2_with fail
  go_loopw [8] (fun i wr => ∃ k : Nat, k ≤ ts.length ∧ i = .int .i64 k ∧ Below w.heap.size w wr ∧ Hid ((ts.take k).any longP = false)) (fun i _ => ts.length - (intOf i).toNat)
  case atStart => exact ⟨0, Nat.zero_le _, rfl, Below.refl _ _, by simp [Hid]⟩
  case round =>
    obtain ⟨k, hk, rfl, hb, HA⟩ := hrel
    by_cases hlt : k < ts.length
    · obtain ⟨g, o, rfl, hcs⟩ : ∃ g o, a = some ⟨g, o, none⟩ ∧ ∀ i (h : i < ts.length), w.cell? ⟨g, o + i * 2, none⟩ = some (.string ts[i].1) ∧ w.cell? ⟨g, o + i * 2 + 1, none⟩ = some (.string ts[i].2) := by
        rcases HS.out with h | h
        · subst h; simp at hlt
        · exact h
      have HB : Hid (∀ g o v, w.cell? ⟨g, o, none⟩ = some v → wr.cell? ⟨g, o, none⟩ = some v) := fun g o _ hv => (hb.cell (p := ⟨g, o, none⟩) (World.block_lt_of_cell? _ _ hv)).trans hv
      have d0 : wr.cell? ⟨g, o + k * 2, none⟩ = some (.string ts[k].1) := HB.out _ _ _ ((hcs k hlt).1)
      have d1 : wr.cell? ⟨g, o + k * 2 + 1, none⟩ = some (.string ts[k].2) := HB.out _ _ _ ((hcs k hlt).2)
      have HT : Hid ((ts.take (k + 1)).any longP = ((ts.take k).any longP || longP ts[k])) := by
        rw [Hid, List.take_succ_eq_append_getElem hlt, List.any_append]
        simp
      have HF : Hid (longP ts[k] = true → ts.any longP = true) := fun hx => List.any_eq_true.mpr ⟨ts[k], List.getElem_mem hlt, hx⟩
      clear hcs HS HB
      go_wp2_with fail
      refine (longP_any ts[k] wr).mono ?_
      rintro e w1 ⟨rfl, hb1⟩
      have hb2 : Below w.heap.size w w1 := hb.trans (hb1.mono hb.size)
      cases hx : longP ts[k] with
      | true =>
        have HY := hide (HF.out hx)
        clear HF HT hx
        go_wp2_with fail
        go_ret
        exact ⟨⟨_, rfl, by rw [HY.out]; simp⟩, hb2⟩
      | false =>
        have HY : Hid ((ts.take (k + 1)).any longP = false) := by rw [Hid, HT.out, HA.out, hx]; rfl
        clear HF HT hx
        go_wp2_with fail
        go_roundw
        case rel => exact ⟨k + 1, by omega, by go_num, hb2, HY⟩
        case measure => simp [intOf]; omega
    · have hkk : k = ts.length := by omega
      subst hkk
      have HY : Hid (ts.any longP = false) := by have := HA.out; rw [List.take_length] at this; exact this
      go_wp2_with fail
      go_ret
      exact ⟨⟨-1, rfl, by rw [HY.out]; rfl⟩, hb⟩
theorem containsLongP_any (a : Option Addr) (cap : Nat) (ts : List (ByteArray × ByteArray)) (w : World) (hs : PairsAt w a ts) (hn : ts.length ≤ 1000000) :
    Calls Tryz.prog 187 #[.slice a ts.length cap, .func (.func 134) #[] #[]] w fun e w' => e = .returned (.bool (ts.any longP)) ∧ Below w.heap.size w w' := by
  have HI := hide (idxLongP_any a cap ts w hs hn)
  clear hs
  go_enter Tryz.func187, Tryz.ntmps187
  go_wp2_with fail
  refine HI.out.mono ?_
  rintro e w1 ⟨⟨n, rfl, hd⟩, hb⟩
  have HD := hide hd
  clear hd
  go_wp2_with fail
  go_ret
  exact ⟨by rw [← HD.out]; rfl, hb⟩

theorem checkSizeP_any (a : Option Addr) (cap : Nat) (ts : List (ByteArray × ByteArray)) (w : World) (hs : PairsAt w a ts) :
    Calls Tryz.prog 135 #[.slice a ts.length cap, .func (.func 134) #[] #[]] w fun e w' => e = .returned (.int .i64 (sizeT ts.length (ts.any longP))) ∧ Below w.heap.size w w' := by
  by_cases h0 : ts.length = 0
  · have hv : sizeT ts.length (ts.any longP) = 5 := by rw [sizeT, if_pos h0]
    rw [hv]
    clear hv
    go_enter Tryz.func135, Tryz.ntmps135
    go_wp2_with fail
    go_ret
    exact ⟨rfl, Below.refl _ _⟩
  · have h0b : ((ts.length : Int) == 0) = false := by rw [beq_eq_false_iff_ne]; omega
    by_cases h24 : 24 < ts.length
    · have hv : sizeT ts.length (ts.any longP) = 2 := by rw [sizeT, if_neg h0, if_pos (.inl h24)]
      have h24' : (24 : Int) < ((ts.length : Nat) : Int) := by omega
      rw [hv]
      clear hv
      go_enter Tryz.func135, Tryz.ntmps135
      go_wp2_with fail
      go_ret
      exact ⟨rfl, Below.refl _ _⟩
    · have h24' : ¬ (24 : Int) < ((ts.length : Nat) : Int) := by omega
      have HC := hide (containsLongP_any a cap ts w hs (by omega))
      cases hl : ts.any longP with
      | true =>
        have hv : sizeT ts.length true = 2 := by rw [sizeT, if_neg h0, if_pos (.inr rfl)]
        rw [hl] at HC
        rw [hv]
        clear hv hs hl
        go_enter Tryz.func135, Tryz.ntmps135
        go_wp2_with fail
        refine HC.out.mono ?_
        rintro e w1 ⟨rfl, hb1⟩
        go_wp2_with fail
        go_ret
        exact ⟨rfl, hb1⟩
      | false =>
        have hv : sizeT ts.length false = 0 := by rw [sizeT, if_neg h0, if_neg (by rintro (h | h); omega; cases h)]
        rw [hl] at HC
        rw [hv]
        clear hv hs hl
        go_enter Tryz.func135, Tryz.ntmps135
        go_wp2_with fail
        refine HC.out.mono ?_
        rintro e w1 ⟨rfl, hb1⟩
        go_wp2_with fail
        go_ret
        exact ⟨rfl, hb1⟩

set_option maxRecDepth 100000 in
set_option maxHeartbeats 1000000 in
theorem idxLongS_any (a : Option Addr) (cap : Nat) (ts : List (Int × ByteArray)) (w : World) (hs : ScoresAt w a ts) (hn : ts.length ≤ 1000000) :
    Calls Tryz.prog 201 #[.slice a ts.length cap, .func (.func 139) #[] #[]] w fun e w' => (∃ n : Int, e = .returned (.int .i64 n) ∧ (decide (0 ≤ n) = ts.any longS)) ∧ Below w.heap.size w w' := by
  have HS := hide hs
  clear hs
  go_enter Tryz.func201, Tryz.ntmps201
  go_wp2_with fail
  go_loopw [8] (fun i wr => ∃ k : Nat, k ≤ ts.length ∧ i = .int .i64 k ∧ Below w.heap.size w wr ∧ Hid ((ts.take k).any longS = false)) (fun i _ => ts.length - (intOf i).toNat)
  case atStart => exact ⟨0, Nat.zero_le _, rfl, Below.refl _ _, by simp [Hid]⟩
  case round =>
    obtain ⟨k, hk, rfl, hb, HA⟩ := hrel
    by_cases hlt : k < ts.length
    · obtain ⟨g, o, rfl, hcs⟩ : ∃ g o, a = some ⟨g, o, none⟩ ∧ ∀ i (h : i < ts.length), w.cell? ⟨g, o + i * 2, none⟩ = some (.int .i64 ts[i].1) ∧ w.cell? ⟨g, o + i * 2 + 1, none⟩ = some (.string ts[i].2) := by
        rcases HS.out with h | h
        · subst h; simp at hlt
        · exact h
      have HB : Hid (∀ g o v, w.cell? ⟨g, o, none⟩ = some v → wr.cell? ⟨g, o, none⟩ = some v) := fun g o _ hv => (hb.cell (p := ⟨g, o, none⟩) (World.block_lt_of_cell? _ _ hv)).trans hv
      have d0 : wr.cell? ⟨g, o + k * 2, none⟩ = some (.int .i64 ts[k].1) := HB.out _ _ _ ((hcs k hlt).1)
      have d1 : wr.cell? ⟨g, o + k * 2 + 1, none⟩ = some (.string ts[k].2) := HB.out _ _ _ ((hcs k hlt).2)
      have HT : Hid ((ts.take (k + 1)).any longS = ((ts.take k).any longS || longS ts[k])) := by
        rw [Hid, List.take_succ_eq_append_getElem hlt, List.any_append]
        simp
      have HF : Hid (longS ts[k] = true → ts.any longS = true) := fun hx => List.any_eq_true.mpr ⟨ts[k], List.getElem_mem hlt, hx⟩
      clear hcs HS HB
      go_wp2_with fail
      refine (longS_any ts[k] wr).mono ?_
      rintro e w1 ⟨rfl, hb1⟩
      have hb2 : Below w.heap.size w w1 := hb.trans (hb1.mono hb.size)
      cases hx : longS ts[k] with
      | true =>
        have HY := hide (HF.out hx)
        clear HF HT hx
        go_wp2_with fail
        go_ret
        exact ⟨⟨_, rfl, by rw [HY.out]; simp⟩, hb2⟩
      | false =>
        have HY : Hid ((ts.take (k + 1)).any longS = false) := by rw [Hid, HT.out, HA.out, hx]; rfl
        clear HF HT hx
        go_wp2_with fail
        go_roundw
        case rel => exact ⟨k + 1, by omega, by go_num, hb2, HY⟩
        case measure => simp [intOf]; omega
    · have hkk : k = ts.length := by omega
      subst hkk
      have HY : Hid (ts.any longS = false) := by have := HA.out; rw [List.take_length] at this; exact this
      go_wp2_with fail
      go_ret
      exact ⟨⟨-1, rfl, by rw [HY.out]; rfl⟩, hb⟩
theorem containsLongS_any (a : Option Addr) (cap : Nat) (ts : List (Int × ByteArray)) (w : World) (hs : ScoresAt w a ts) (hn : ts.length ≤ 1000000) :
    Calls Tryz.prog 140 #[.slice a ts.length cap, .func (.func 139) #[] #[]] w fun e w' => e = .returned (.bool (ts.any longS)) ∧ Below w.heap.size w w' := by
  have HI := hide (idxLongS_any a cap ts w hs hn)
  clear hs
  go_enter Tryz.func140, Tryz.ntmps140
  go_wp2_with fail
  refine HI.out.mono ?_
  rintro e w1 ⟨⟨n, rfl, hd⟩, hb⟩
  have HD := hide hd
  clear hd
  go_wp2_with fail
  go_ret
  exact ⟨by rw [← HD.out]; rfl, hb⟩

theorem checkSizeS_any (a : Option Addr) (cap : Nat) (ts : List (Int × ByteArray)) (w : World) (hs : ScoresAt w a ts) :
    Calls Tryz.prog 138 #[.slice a ts.length cap, .func (.func 139) #[] #[]] w fun e w' => e = .returned (.int .i64 (sizeT ts.length (ts.any longS))) ∧ Below w.heap.size w w' := by
  by_cases h0 : ts.length = 0
  · have hv : sizeT ts.length (ts.any longS) = 5 := by rw [sizeT, if_pos h0]
    rw [hv]
    clear hv
    go_enter Tryz.func138, Tryz.ntmps138
    go_wp2_with fail
    go_ret
    exact ⟨rfl, Below.refl _ _⟩
  · have h0b : ((ts.length : Int) == 0) = false := by rw [beq_eq_false_iff_ne]; omega
    by_cases h24 : 24 < ts.length
    · have hv : sizeT ts.length (ts.any longS) = 2 := by rw [sizeT, if_neg h0, if_pos (.inl h24)]
      have h24' : (24 : Int) < ((ts.length : Nat) : Int) := by omega
      rw [hv]
      clear hv
      go_enter Tryz.func138, Tryz.ntmps138
      go_wp2_with fail
      go_ret
      exact ⟨rfl, Below.refl _ _⟩
    · have h24' : ¬ (24 : Int) < ((ts.length : Nat) : Int) := by omega
      have HC := hide (containsLongS_any a cap ts w hs (by omega))
      cases hl : ts.any longS with
      | true =>
        have hv : sizeT ts.length true = 2 := by rw [sizeT, if_neg h0, if_pos (.inr rfl)]
        rw [hl] at HC
        rw [hv]
        clear hv hs hl
        go_enter Tryz.func138, Tryz.ntmps138
        go_wp2_with fail
        refine HC.out.mono ?_
        rintro e w1 ⟨rfl, hb1⟩
        go_wp2_with fail
        go_ret
        exact ⟨rfl, hb1⟩
      | false =>
        have hv : sizeT ts.length false = 0 := by rw [sizeT, if_neg h0, if_neg (by rintro (h | h); omega; cases h)]
        rw [hl] at HC
        rw [hv]
        clear hv hs hl
        go_enter Tryz.func138, Tryz.ntmps138
        go_wp2_with fail
        refine HC.out.mono ?_
        rintro e w1 ⟨rfl, hb1⟩
        go_wp2_with fail
        go_ret
        exact ⟨rfl, hb1⟩

set_option maxRecDepth 100000 in
set_option maxHeartbeats 1000000 in
theorem idxOutS_any (a : Option Addr) (cap : Nat) (ts : List (Int × ByteArray)) (w : World) (hs : ScoresAt w a ts) (hn : ts.length ≤ 1000000) :
    Calls Tryz.prog 201 #[.slice a ts.length cap, .func (.func 141) #[] #[]] w fun e w' => (∃ n : Int, e = .returned (.int .i64 n) ∧ (decide (0 ≤ n) = ts.any outS)) ∧ Below w.heap.size w w' := by
  have HS := hide hs
  clear hs
  go_enter Tryz.func201, Tryz.ntmps201
  go_wp2_with fail
  go_loopw [8] (fun i wr => ∃ k : Nat, k ≤ ts.length ∧ i = .int .i64 k ∧ Below w.heap.size w wr ∧ Hid ((ts.take k).any outS = false)) (fun i _ => ts.length - (intOf i).toNat)
  case atStart => exact ⟨0, Nat.zero_le _, rfl, Below.refl _ _, by simp [Hid]⟩
  case round =>
    obtain ⟨k, hk, rfl, hb, HA⟩ := hrel
    by_cases hlt : k < ts.length
    · obtain ⟨g, o, rfl, hcs⟩ : ∃ g o, a = some ⟨g, o, none⟩ ∧ ∀ i (h : i < ts.length), w.cell? ⟨g, o + i * 2, none⟩ = some (.int .i64 ts[i].1) ∧ w.cell? ⟨g, o + i * 2 + 1, none⟩ = some (.string ts[i].2) := by
        rcases HS.out with h | h
        · subst h; simp at hlt
        · exact h
      have HB : Hid (∀ g o v, w.cell? ⟨g, o, none⟩ = some v → wr.cell? ⟨g, o, none⟩ = some v) := fun g o _ hv => (hb.cell (p := ⟨g, o, none⟩) (World.block_lt_of_cell? _ _ hv)).trans hv
      have d0 : wr.cell? ⟨g, o + k * 2, none⟩ = some (.int .i64 ts[k].1) := HB.out _ _ _ ((hcs k hlt).1)
      have d1 : wr.cell? ⟨g, o + k * 2 + 1, none⟩ = some (.string ts[k].2) := HB.out _ _ _ ((hcs k hlt).2)
      have HT : Hid ((ts.take (k + 1)).any outS = ((ts.take k).any outS || outS ts[k])) := by
        rw [Hid, List.take_succ_eq_append_getElem hlt, List.any_append]
        simp
      have HF : Hid (outS ts[k] = true → ts.any outS = true) := fun hx => List.any_eq_true.mpr ⟨ts[k], List.getElem_mem hlt, hx⟩
      clear hcs HS HB
      go_wp2_with fail
      refine (outS_any ts[k] wr).mono ?_
      rintro e w1 ⟨rfl, hb1⟩
      have hb2 : Below w.heap.size w w1 := hb.trans (hb1.mono hb.size)
      cases hx : outS ts[k] with
      | true =>
        have HY := hide (HF.out hx)
        clear HF HT hx
        go_wp2_with fail
        go_ret
        exact ⟨⟨_, rfl, by rw [HY.out]; simp⟩, hb2⟩
      | false =>
        have HY : Hid ((ts.take (k + 1)).any outS = false) := by rw [Hid, HT.out, HA.out, hx]; rfl
        clear HF HT hx
        go_wp2_with fail
        go_roundw
        case rel => exact ⟨k + 1, by omega, by go_num, hb2, HY⟩
        case measure => simp [intOf]; omega
    · have hkk : k = ts.length := by omega
      subst hkk
      have HY : Hid (ts.any outS = false) := by have := HA.out; rw [List.take_length] at this; exact this
      go_wp2_with fail
      go_ret
      exact ⟨⟨-1, rfl, by rw [HY.out]; rfl⟩, hb⟩
theorem containsOutS_any (a : Option Addr) (cap : Nat) (ts : List (Int × ByteArray)) (w : World) (hs : ScoresAt w a ts) (hn : ts.length ≤ 1000000) :
    Calls Tryz.prog 140 #[.slice a ts.length cap, .func (.func 141) #[] #[]] w fun e w' => e = .returned (.bool (ts.any outS)) ∧ Below w.heap.size w w' := by
  have HI := hide (idxOutS_any a cap ts w hs hn)
  clear hs
  go_enter Tryz.func140, Tryz.ntmps140
  go_wp2_with fail
  refine HI.out.mono ?_
  rintro e w1 ⟨⟨n, rfl, hd⟩, hb⟩
  have HD := hide hd
  clear hd
  go_wp2_with fail
  go_ret
  exact ⟨by rw [← HD.out]; rfl, hb⟩
end Go.Proofs.YtmaancidkpfopaaGreatDoor

/- WALK of the order of texts. -/
namespace Go.Proofs.YtmaancidkpfopaaGreatDoor
open Go.RowKit

set_option maxRecDepth 100000 in
theorem cmpString_any (a b : ByteArray) (w : World) :
    Calls Tryz.prog 209 #[.string a, .string b] w fun e w' => e = .returned (.int .i64 (Lib.compareBytes a.data.toList b.data.toList)) ∧ w' = w := by
  go_enter Tryz.func209, Tryz.ntmps209
  go_wp2
  rw [run_callFunc_extern Tryz.func246 (by kernel_rfl) (by kernel_rfl) (by kernel_rfl) (e := Extern.BytealgCompare.compare) (by kernel_rfl), Lib.run_compareString]
  simp only [Result.andThen]
  rw [Oper.upon_value]
  go_wp2
  go_ret
  exact ⟨rfl, rfl⟩
theorem compare_any (a b : ByteArray) (w : World) :
    Calls Tryz.prog 133 #[.string a, .string b] w fun e w' => e = .returned (.int .i64 (Lib.compareBytes a.data.toList b.data.toList)) ∧ w' = w := by
  have HC := hide (cmpString_any a b w)
  generalize Lib.compareBytes a.data.toList b.data.toList = R at *
  go_enter Tryz.func133, Tryz.ntmps133
  go_wp2_with fail
  refine HC.out.mono ?_
  rintro e w1 ⟨rfl, rfl⟩
  go_wp2_with fail
  go_ret
  exact ⟨rfl, rfl⟩
end Go.Proofs.YtmaancidkpfopaaGreatDoor

/- WALK of whether texts rise. -/
namespace Go.Proofs.YtmaancidkpfopaaGreatDoor
open Go.RowKit

theorem compare_below (a b : ByteArray) (w : World) : Calls Tryz.prog 133 #[.string a, .string b] w fun e w' => e = .returned (.int .i64 (cmpT a b)) ∧ Below w.heap.size w w' :=
  (compare_any a b w).mono fun _ _ ⟨h1, h2⟩ => ⟨h1, by subst h2; exact Below.refl _ _⟩

set_option maxRecDepth 100000 in
set_option maxHeartbeats 1000000 in
theorem riseT_any (a : Option Addr) (cap : Nat) (ts : List ByteArray) (w : World) (hs : TextsAt w a ts) (hn : ts.length ≤ 1000000) :
    Calls Tryz.prog 132 #[.slice a ts.length cap, .func (.func 133) #[] #[]] w fun e w' => e = .returned (.bool (riseTo cmpT ts ts.length)) ∧ Below w.heap.size w w' := by
  have HS := hide hs
  clear hs
  go_enter Tryz.func132, Tryz.ntmps132
  go_wp2_with fail
  go_loopw [5] (fun vi wr => ∃ (k : Nat), 1 ≤ k ∧ (k ≤ ts.length ∨ k = 1) ∧ vi = .int .i64 k ∧ Below w.heap.size w wr ∧ Hid (riseTo cmpT ts k = true)) (fun vi _ => ts.length + 1 - (intOf vi).toNat)
  case atStart => exact ⟨1, Nat.le_refl _, .inr rfl, rfl, Below.refl _ _, rfl⟩
  case round =>
    obtain ⟨k, hk1, hk, rfl, hb, HA⟩ := hrel
    by_cases hlt : k < ts.length
    · obtain ⟨g, o, rfl, hcs⟩ : ∃ g o, a = some ⟨g, o, none⟩ ∧ ∀ i (h : i < ts.length), w.cell? ⟨g, o + i, none⟩ = some (.string ts[i]) := by
        rcases HS.out with h | h
        · subst h; simp at hlt
        · exact h
      obtain ⟨m, rfl⟩ : ∃ m, k = m + 1 := ⟨k - 1, by omega⟩
      have HB : Hid (∀ g o v, w.cell? ⟨g, o, none⟩ = some v → wr.cell? ⟨g, o, none⟩ = some v) := fun g o _ hv => (hb.cell (p := ⟨g, o, none⟩) (World.block_lt_of_cell? _ _ hv)).trans hv
      have d0 : (World.drew wr).cell? ⟨g, o + m, none⟩ = some (.string ts[m]) := HB.out _ _ _ (hcs m (by omega))
      have e0 : (World.drew wr).cell? ⟨g, o + (m + 1), none⟩ = some (.string ts[m + 1]) := HB.out _ _ _ (hcs (m + 1) hlt)
      have p0 : wr.cell? ⟨g, o + m, none⟩ = some (.string ts[m]) := HB.out _ _ _ (hcs m (by omega))
      have q0 : wr.cell? ⟨g, o + (m + 1), none⟩ = some (.string ts[m + 1]) := HB.out _ _ _ (hcs (m + 1) hlt)
      have hmm : IntKind.i64.wrap ((m : Nat) : Int) = ((m : Nat) : Int) := by rw [IntKind.wrap_i64]; omega
      have hm' : m < ts.length := by omega
      have hm2 : ((m : Nat) : Int) < ((ts.length : Nat) : Int) := by omega
      have hm4 : (0 : Int) ≤ ((m : Nat) : Int) + 1 := by omega
      have hm5 : (((m : Nat) : Int) + 1).toNat = m + 1 := by omega
      have hm3 : ((m : Nat) : Int) + 1 < ((ts.length : Nat) : Int) := by omega
      have HT : Hid (riseTo cmpT ts (m + 1 + 1) = decide (cmpT ts[m] ts[m + 1] < 0)) := by
        rw [Hid, riseTo_succ cmpT ts (m + 1) (by omega), HA.out, Bool.true_and, show m + 1 - 1 = m by omega, getElem!_pos ts m (by omega), getElem!_pos ts (m + 1) hlt]
      have HC : Hid (∀ W, Calls Tryz.prog 133 #[.string ts[m], .string ts[m + 1]] W fun e w' => e = .returned (.int .i64 (cmpT ts[m] ts[m + 1])) ∧ Below W.heap.size W w') := fun W => compare_below _ _ W
      generalize cmpT ts[m] ts[m + 1] = C at *
      clear hcs HS HB
      by_cases hC : C < 0
      · have hC' : ¬ (0 : Int) ≤ C := by omega
        have HY : Hid (riseTo cmpT ts (m + 1 + 1) = true) := by rw [Hid, HT.out]; exact decide_eq_true hC
        go_wp2_with fail
        refine wp_region_any (by kernel_rfl) ?_
        change wpAny _ _ _ _ _ _ _ (World.drew _)
        refine wpAny_take (i := 0) (v := .func (.func 133) #[] #[]) rfl (by kernel_rfl) (by kernel_rfl) (by kernel_rfl) (fun _ _ _ h => h) (Or.inl ⟨by rfl, by intro w; go_simp⟩) ?_
        refine wpAny_take (i := 1) (v := .slice (some ⟨g, o, none⟩) ts.length cap) rfl (by kernel_rfl) (by kernel_rfl) (by kernel_rfl) (fun _ _ _ h => h) (Or.inl ⟨by rfl, by intro w; go_simp⟩) ?_
        refine wpAny_take (i := 2) (v := .int .i64 (((m : Nat) : Int) + 1)) rfl (by kernel_rfl) (by kernel_rfl) (by kernel_rfl) (fun _ _ _ h => h) (Or.inl ⟨by rfl, by intro w; go_simp⟩) ?_
        refine wpAny_take (i := 3) (v := .int .i64 ((m : Nat) : Int)) rfl (by kernel_rfl) (by kernel_rfl) (by kernel_rfl) (fun _ _ _ h => h) (Or.inl ⟨by rfl, by intro w; go_simp⟩) ?_
        refine wpAny_take (i := 4) (v := .pointer (some ⟨g, o + m, none⟩)) rfl (by kernel_rfl) (by kernel_rfl) (by kernel_rfl) (fun _ _ _ h => h) (Or.inl ⟨by rfl, by intro w; go_simp⟩) ?_
        refine wpAny_take (i := 6) (v := .slice (some ⟨g, o, none⟩) ts.length cap) rfl (by kernel_rfl) (by kernel_rfl) (by kernel_rfl) (fun _ _ _ h => h) (Or.inl ⟨by rfl, by intro w; go_simp⟩) ?_
        refine wpAny_take (i := 7) (v := .int .i64 (((m : Nat) : Int) + 1)) rfl (by kernel_rfl) (by kernel_rfl) (by kernel_rfl) (fun _ _ _ h => h) (Or.inl ⟨by rfl, by intro w; go_simp⟩) ?_
        refine wpAny_take (i := 8) (v := .pointer (some ⟨g, o + (m + 1), none⟩)) rfl (by kernel_rfl) (by kernel_rfl) (by kernel_rfl) (fun _ _ _ h => h) (Or.inl ⟨by rfl, by intro w; go_simp⟩) ?_
        refine wpAny_ready (rs := [5, 9]) (by kernel_rfl) (by simp) ?_
        refine AllReady.cons rfl (fun K hK => ?_) ?_
        · go_simp
          refine hK _ _ ?_
          clear hK K
          refine wpAny_ready (rs := [9]) (by kernel_rfl) (by simp) ?_
          refine AllReady.cons rfl (fun K hK => ?_) AllReady.nil
          go_simp
          refine hK _ _ ?_
          clear hK K
          refine wpAny_ready (rs := [10]) (by kernel_rfl) (by simp) ?_
          refine AllReady.cons rfl (fun K hK => ?_) AllReady.nil
          go_simp
          refine (HC.out _).mono ?_
          rintro e w1 ⟨rfl, hb1⟩
          have hb2 : Below w.heap.size w w1 := (hb.drew).trans (hb1.mono hb.size)
          clear hb1
          refine hK _ _ ?_
          clear hK K
          refine wpAny_take (i := 11) (v := .bool false) rfl (by kernel_rfl) (by kernel_rfl) (by kernel_rfl) (fun _ _ _ h => h) (Or.inl ⟨by rfl, by intro w; go_simp⟩) ?_
          refine wpAny_done (by kernel_rfl) ?_ _
          go_wp2_with fail
          go_roundw
          case rel => exact ⟨m + 1 + 1, by omega, .inl (by omega), by go_num, hb2, HY⟩
          case measure => simp only [intOf]; omega
        · refine AllReady.cons rfl (fun K hK => ?_) AllReady.nil
          go_simp
          refine hK _ _ ?_
          clear hK K
          refine wpAny_ready (rs := [5]) (by kernel_rfl) (by simp) ?_
          refine AllReady.cons rfl (fun K hK => ?_) AllReady.nil
          go_simp
          refine hK _ _ ?_
          clear hK K
          refine wpAny_ready (rs := [10]) (by kernel_rfl) (by simp) ?_
          refine AllReady.cons rfl (fun K hK => ?_) AllReady.nil
          go_simp
          refine (HC.out _).mono ?_
          rintro e w1 ⟨rfl, hb1⟩
          have hb2 : Below w.heap.size w w1 := (hb.drew).trans (hb1.mono hb.size)
          clear hb1
          refine hK _ _ ?_
          clear hK K
          refine wpAny_take (i := 11) (v := .bool false) rfl (by kernel_rfl) (by kernel_rfl) (by kernel_rfl) (fun _ _ _ h => h) (Or.inl ⟨by rfl, by intro w; go_simp⟩) ?_
          refine wpAny_done (by kernel_rfl) ?_ _
          go_wp2_with fail
          go_roundw
          case rel => exact ⟨m + 1 + 1, by omega, .inl (by omega), by go_num, hb2, HY⟩
          case measure => simp only [intOf]; omega
      · have hC' : (0 : Int) ≤ C := by omega
        have HY : Hid (riseTo cmpT ts ts.length = false) := riseTo_false (k := m + 1 + 1) (by rw [HT.out]; exact decide_eq_false hC) (by omega)
        go_wp2_with fail
        refine wp_region_any (by kernel_rfl) ?_
        change wpAny _ _ _ _ _ _ _ (World.drew _)
        refine wpAny_take (i := 0) (v := .func (.func 133) #[] #[]) rfl (by kernel_rfl) (by kernel_rfl) (by kernel_rfl) (fun _ _ _ h => h) (Or.inl ⟨by rfl, by intro w; go_simp⟩) ?_
        refine wpAny_take (i := 1) (v := .slice (some ⟨g, o, none⟩) ts.length cap) rfl (by kernel_rfl) (by kernel_rfl) (by kernel_rfl) (fun _ _ _ h => h) (Or.inl ⟨by rfl, by intro w; go_simp⟩) ?_
        refine wpAny_take (i := 2) (v := .int .i64 (((m : Nat) : Int) + 1)) rfl (by kernel_rfl) (by kernel_rfl) (by kernel_rfl) (fun _ _ _ h => h) (Or.inl ⟨by rfl, by intro w; go_simp⟩) ?_
        refine wpAny_take (i := 3) (v := .int .i64 ((m : Nat) : Int)) rfl (by kernel_rfl) (by kernel_rfl) (by kernel_rfl) (fun _ _ _ h => h) (Or.inl ⟨by rfl, by intro w; go_simp⟩) ?_
        refine wpAny_take (i := 4) (v := .pointer (some ⟨g, o + m, none⟩)) rfl (by kernel_rfl) (by kernel_rfl) (by kernel_rfl) (fun _ _ _ h => h) (Or.inl ⟨by rfl, by intro w; go_simp⟩) ?_
        refine wpAny_take (i := 6) (v := .slice (some ⟨g, o, none⟩) ts.length cap) rfl (by kernel_rfl) (by kernel_rfl) (by kernel_rfl) (fun _ _ _ h => h) (Or.inl ⟨by rfl, by intro w; go_simp⟩) ?_
        refine wpAny_take (i := 7) (v := .int .i64 (((m : Nat) : Int) + 1)) rfl (by kernel_rfl) (by kernel_rfl) (by kernel_rfl) (fun _ _ _ h => h) (Or.inl ⟨by rfl, by intro w; go_simp⟩) ?_
        refine wpAny_take (i := 8) (v := .pointer (some ⟨g, o + (m + 1), none⟩)) rfl (by kernel_rfl) (by kernel_rfl) (by kernel_rfl) (fun _ _ _ h => h) (Or.inl ⟨by rfl, by intro w; go_simp⟩) ?_
        refine wpAny_ready (rs := [5, 9]) (by kernel_rfl) (by simp) ?_
        refine AllReady.cons rfl (fun K hK => ?_) ?_
        · go_simp
          refine hK _ _ ?_
          clear hK K
          refine wpAny_ready (rs := [9]) (by kernel_rfl) (by simp) ?_
          refine AllReady.cons rfl (fun K hK => ?_) AllReady.nil
          go_simp
          refine hK _ _ ?_
          clear hK K
          refine wpAny_ready (rs := [10]) (by kernel_rfl) (by simp) ?_
          refine AllReady.cons rfl (fun K hK => ?_) AllReady.nil
          go_simp
          refine (HC.out _).mono ?_
          rintro e w1 ⟨rfl, hb1⟩
          have hb2 : Below w.heap.size w w1 := (hb.drew).trans (hb1.mono hb.size)
          clear hb1
          refine hK _ _ ?_
          clear hK K
          refine wpAny_take (i := 11) (v := .bool true) rfl (by kernel_rfl) (by kernel_rfl) (by kernel_rfl) (fun _ _ _ h => h) (Or.inl ⟨by rfl, by intro w; go_simp⟩) ?_
          refine wpAny_done (by kernel_rfl) ?_ _
          go_wp2_with fail
          go_ret
          rw [HY.out]
          exact ⟨rfl, hb2⟩
        · refine AllReady.cons rfl (fun K hK => ?_) AllReady.nil
          go_simp
          refine hK _ _ ?_
          clear hK K
          refine wpAny_ready (rs := [5]) (by kernel_rfl) (by simp) ?_
          refine AllReady.cons rfl (fun K hK => ?_) AllReady.nil
          go_simp
          refine hK _ _ ?_
          clear hK K
          refine wpAny_ready (rs := [10]) (by kernel_rfl) (by simp) ?_
          refine AllReady.cons rfl (fun K hK => ?_) AllReady.nil
          go_simp
          refine (HC.out _).mono ?_
          rintro e w1 ⟨rfl, hb1⟩
          have hb2 : Below w.heap.size w w1 := (hb.drew).trans (hb1.mono hb.size)
          clear hb1
          refine hK _ _ ?_
          clear hK K
          refine wpAny_take (i := 11) (v := .bool true) rfl (by kernel_rfl) (by kernel_rfl) (by kernel_rfl) (fun _ _ _ h => h) (Or.inl ⟨by rfl, by intro w; go_simp⟩) ?_
          refine wpAny_done (by kernel_rfl) ?_ _
          go_wp2_with fail
          go_ret
          rw [HY.out]
          exact ⟨rfl, hb2⟩
    · have hge : ¬ ((k : Nat) : Int) < ((ts.length : Nat) : Int) := by omega
      have HY : Hid (riseTo cmpT ts ts.length = true) := by
        rcases hk with hk | hk
        · have : k = ts.length := by omega
          rw [← this]; exact HA.out
        · unfold riseTo
          rw [show ts.length - 1 = 0 by omega]
          rfl
      go_wp2_with fail
      go_ret
      rw [HY.out]
      exact ⟨rfl, hb⟩
end Go.Proofs.YtmaancidkpfopaaGreatDoor

/- WALK of whether pairs and scores rise. -/
namespace Go.Proofs.YtmaancidkpfopaaGreatDoor
open Go.RowKit

theorem cmpP_any (x y : ByteArray × ByteArray) (w : World) : Calls Tryz.prog 137 #[.agg #[.string x.1, .string x.2], .agg #[.string y.1, .string y.2]] w fun e w' => e = .returned (.int .i64 (cmpP x y)) ∧ Below w.heap.size w w' := by
  obtain ⟨x1, x2⟩ := x
  obtain ⟨y1, y2⟩ := y
  have hv : cmpP (x1, x2) (y1, y2) = cmpT x1 y1 := rfl
  rw [hv]
  clear hv
  go_enter Tryz.func137, Tryz.ntmps137
  go_wp2_with fail
  refine (compare_any x1 y1 _).mono ?_
  rintro e w1 ⟨rfl, rfl⟩
  go_wp2_with fail
  go_ret
  exact ⟨rfl, ((Below.refl _ _).alloc (Nat.le_refl _) _).alloc (by simp) _⟩

set_option maxRecDepth 100000 in
set_option maxHeartbeats 1000000 in
theorem riseP_any (a : Option Addr) (cap : Nat) (ts : List (ByteArray × ByteArray)) (w : World) (hs : PairsAt w a ts) (hn : ts.length ≤ 1000000) :
    Calls Tryz.prog 136 #[.slice a ts.length cap, .func (.func 137) #[] #[]] w fun e w' => e = .returned (.bool (riseTo cmpP ts ts.length)) ∧ Below w.heap.size w w' := by
  have HS := hide hs
  clear hs
  go_enter Tryz.func136, Tryz.ntmps136
  go_wp2_with fail
  go_loopw [5] (fun vi wr => ∃ (k : Nat), 1 ≤ k ∧ (k ≤ ts.length ∨ k = 1) ∧ vi = .int .i64 k ∧ Below w.heap.size w wr ∧ Hid (riseTo cmpP ts k = true)) (fun vi _ => ts.length + 1 - (intOf vi).toNat)
  case atStart => exact ⟨1, Nat.le_refl _, .inr rfl, rfl, Below.refl _ _, rfl⟩
  case round =>
    obtain ⟨k, hk1, hk, rfl, hb, HA⟩ := hrel
    by_cases hlt : k < ts.length
    · obtain ⟨g, o, rfl, hcs⟩ : ∃ g o, a = some ⟨g, o, none⟩ ∧ ∀ i (h : i < ts.length), w.cell? ⟨g, o + i * 2, none⟩ = some (.string ts[i].1) ∧ w.cell? ⟨g, o + i * 2 + 1, none⟩ = some (.string ts[i].2) := by
        rcases HS.out with h | h
        · subst h; simp at hlt
        · exact h
      obtain ⟨m, rfl⟩ : ∃ m, k = m + 1 := ⟨k - 1, by omega⟩
      have HB : Hid (∀ g o v, w.cell? ⟨g, o, none⟩ = some v → wr.cell? ⟨g, o, none⟩ = some v) := fun g o _ hv => (hb.cell (p := ⟨g, o, none⟩) (World.block_lt_of_cell? _ _ hv)).trans hv
      have d0 : (World.drew wr).cell? ⟨g, o + m * 2, none⟩ = some (.string ts[m].1) := HB.out _ _ _ ((hcs m (by omega)).1)
      have d1 : (World.drew wr).cell? ⟨g, o + m * 2 + 1, none⟩ = some (.string ts[m].2) := HB.out _ _ _ ((hcs m (by omega)).2)
      have e0 : (World.drew wr).cell? ⟨g, o + (m + 1) * 2, none⟩ = some (.string ts[m + 1].1) := HB.out _ _ _ ((hcs (m + 1) hlt).1)
      have e1 : (World.drew wr).cell? ⟨g, o + (m + 1) * 2 + 1, none⟩ = some (.string ts[m + 1].2) := HB.out _ _ _ ((hcs (m + 1) hlt).2)
      have p0 : wr.cell? ⟨g, o + m * 2, none⟩ = some (.string ts[m].1) := HB.out _ _ _ ((hcs m (by omega)).1)
      have p1 : wr.cell? ⟨g, o + m * 2 + 1, none⟩ = some (.string ts[m].2) := HB.out _ _ _ ((hcs m (by omega)).2)
      have q0 : wr.cell? ⟨g, o + (m + 1) * 2, none⟩ = some (.string ts[m + 1].1) := HB.out _ _ _ ((hcs (m + 1) hlt).1)
      have q1 : wr.cell? ⟨g, o + (m + 1) * 2 + 1, none⟩ = some (.string ts[m + 1].2) := HB.out _ _ _ ((hcs (m + 1) hlt).2)
      have hmm : IntKind.i64.wrap ((m : Nat) : Int) = ((m : Nat) : Int) := by rw [IntKind.wrap_i64]; omega
      have hm' : m < ts.length := by omega
      have hm2 : ((m : Nat) : Int) < ((ts.length : Nat) : Int) := by omega
      have hm4 : (0 : Int) ≤ ((m : Nat) : Int) + 1 := by omega
      have hm5 : (((m : Nat) : Int) + 1).toNat = m + 1 := by omega
      have hm3 : ((m : Nat) : Int) + 1 < ((ts.length : Nat) : Int) := by omega
      have HT : Hid (riseTo cmpP ts (m + 1 + 1) = decide (cmpP ts[m] ts[m + 1] < 0)) := by
        rw [Hid, riseTo_succ cmpP ts (m + 1) (by omega), HA.out, Bool.true_and, show m + 1 - 1 = m by omega, getElem!_pos ts m (by omega), getElem!_pos ts (m + 1) hlt]
      have HC : Hid (∀ W, Calls Tryz.prog 137 #[.agg #[.string ts[m].1, .string ts[m].2], .agg #[.string ts[m + 1].1, .string ts[m + 1].2]] W fun e w' => e = .returned (.int .i64 (cmpP ts[m] ts[m + 1])) ∧ Below W.heap.size W w') := fun W => cmpP_any _ _ W
      generalize cmpP ts[m] ts[m + 1] = C at *
      clear hcs HS HB
      by_cases hC : C < 0
      · have hC' : ¬ (0 : Int) ≤ C := by omega
        have HY : Hid (riseTo cmpP ts (m + 1 + 1) = true) := by rw [Hid, HT.out]; exact decide_eq_true hC
        go_wp2_with fail
        refine wp_region_any (by kernel_rfl) ?_
        change wpAny _ _ _ _ _ _ _ (World.drew _)
        refine wpAny_take (i := 0) (v := .func (.func 137) #[] #[]) rfl (by kernel_rfl) (by kernel_rfl) (by kernel_rfl) (fun _ _ _ h => h) (Or.inl ⟨by rfl, by intro w; go_simp⟩) ?_
        refine wpAny_take (i := 1) (v := .slice (some ⟨g, o, none⟩) ts.length cap) rfl (by kernel_rfl) (by kernel_rfl) (by kernel_rfl) (fun _ _ _ h => h) (Or.inl ⟨by rfl, by intro w; go_simp⟩) ?_
        refine wpAny_take (i := 2) (v := .int .i64 (((m : Nat) : Int) + 1)) rfl (by kernel_rfl) (by kernel_rfl) (by kernel_rfl) (fun _ _ _ h => h) (Or.inl ⟨by rfl, by intro w; go_simp⟩) ?_
        refine wpAny_take (i := 3) (v := .int .i64 ((m : Nat) : Int)) rfl (by kernel_rfl) (by kernel_rfl) (by kernel_rfl) (fun _ _ _ h => h) (Or.inl ⟨by rfl, by intro w; go_simp⟩) ?_
        refine wpAny_take (i := 4) (v := .pointer (some ⟨g, o + m * 2, none⟩)) rfl (by kernel_rfl) (by kernel_rfl) (by kernel_rfl) (fun _ _ _ h => h) (Or.inl ⟨by rfl, by intro w; go_simp⟩) ?_
        refine wpAny_take (i := 6) (v := .slice (some ⟨g, o, none⟩) ts.length cap) rfl (by kernel_rfl) (by kernel_rfl) (by kernel_rfl) (fun _ _ _ h => h) (Or.inl ⟨by rfl, by intro w; go_simp⟩) ?_
        refine wpAny_take (i := 7) (v := .int .i64 (((m : Nat) : Int) + 1)) rfl (by kernel_rfl) (by kernel_rfl) (by kernel_rfl) (fun _ _ _ h => h) (Or.inl ⟨by rfl, by intro w; go_simp⟩) ?_
        refine wpAny_take (i := 8) (v := .pointer (some ⟨g, o + (m + 1) * 2, none⟩)) rfl (by kernel_rfl) (by kernel_rfl) (by kernel_rfl) (fun _ _ _ h => h) (Or.inl ⟨by rfl, by intro w; go_simp⟩) ?_
        refine wpAny_ready (rs := [5, 9]) (by kernel_rfl) (by simp) ?_
        refine AllReady.cons rfl (fun K hK => ?_) ?_
        · go_simp
          refine hK _ _ ?_
          clear hK K
          refine wpAny_ready (rs := [9]) (by kernel_rfl) (by simp) ?_
          refine AllReady.cons rfl (fun K hK => ?_) AllReady.nil
          go_simp
          refine hK _ _ ?_
          clear hK K
          refine wpAny_ready (rs := [10]) (by kernel_rfl) (by simp) ?_
          refine AllReady.cons rfl (fun K hK => ?_) AllReady.nil
          go_simp
          refine (HC.out _).mono ?_
          rintro e w1 ⟨rfl, hb1⟩
          have hb2 : Below w.heap.size w w1 := (hb.drew).trans (hb1.mono hb.size)
          clear hb1
          refine hK _ _ ?_
          clear hK K
          refine wpAny_take (i := 11) (v := .bool false) rfl (by kernel_rfl) (by kernel_rfl) (by kernel_rfl) (fun _ _ _ h => h) (Or.inl ⟨by rfl, by intro w; go_simp⟩) ?_
          refine wpAny_done (by kernel_rfl) ?_ _
          go_wp2_with fail
          go_roundw
          case rel => exact ⟨m + 1 + 1, by omega, .inl (by omega), by go_num, hb2, HY⟩
          case measure => simp only [intOf]; omega
        · refine AllReady.cons rfl (fun K hK => ?_) AllReady.nil
          go_simp
          refine hK _ _ ?_
          clear hK K
          refine wpAny_ready (rs := [5]) (by kernel_rfl) (by simp) ?_
          refine AllReady.cons rfl (fun K hK => ?_) AllReady.nil
          go_simp
          refine hK _ _ ?_
          clear hK K
          refine wpAny_ready (rs := [10]) (by kernel_rfl) (by simp) ?_
          refine AllReady.cons rfl (fun K hK => ?_) AllReady.nil
          go_simp
          refine (HC.out _).mono ?_
          rintro e w1 ⟨rfl, hb1⟩
          have hb2 : Below w.heap.size w w1 := (hb.drew).trans (hb1.mono hb.size)
          clear hb1
          refine hK _ _ ?_
          clear hK K
          refine wpAny_take (i := 11) (v := .bool false) rfl (by kernel_rfl) (by kernel_rfl) (by kernel_rfl) (fun _ _ _ h => h) (Or.inl ⟨by rfl, by intro w; go_simp⟩) ?_
          refine wpAny_done (by kernel_rfl) ?_ _
          go_wp2_with fail
          go_roundw
          case rel => exact ⟨m + 1 + 1, by omega, .inl (by omega), by go_num, hb2, HY⟩
          case measure => simp only [intOf]; omega
      · have hC' : (0 : Int) ≤ C := by omega
        have HY : Hid (riseTo cmpP ts ts.length = false) := riseTo_false (k := m + 1 + 1) (by rw [HT.out]; exact decide_eq_false hC) (by omega)
        go_wp2_with fail
        refine wp_region_any (by kernel_rfl) ?_
        change wpAny _ _ _ _ _ _ _ (World.drew _)
        refine wpAny_take (i := 0) (v := .func (.func 137) #[] #[]) rfl (by kernel_rfl) (by kernel_rfl) (by kernel_rfl) (fun _ _ _ h => h) (Or.inl ⟨by rfl, by intro w; go_simp⟩) ?_
        refine wpAny_take (i := 1) (v := .slice (some ⟨g, o, none⟩) ts.length cap) rfl (by kernel_rfl) (by kernel_rfl) (by kernel_rfl) (fun _ _ _ h => h) (Or.inl ⟨by rfl, by intro w; go_simp⟩) ?_
        refine wpAny_take (i := 2) (v := .int .i64 (((m : Nat) : Int) + 1)) rfl (by kernel_rfl) (by kernel_rfl) (by kernel_rfl) (fun _ _ _ h => h) (Or.inl ⟨by rfl, by intro w; go_simp⟩) ?_
        refine wpAny_take (i := 3) (v := .int .i64 ((m : Nat) : Int)) rfl (by kernel_rfl) (by kernel_rfl) (by kernel_rfl) (fun _ _ _ h => h) (Or.inl ⟨by rfl, by intro w; go_simp⟩) ?_
        refine wpAny_take (i := 4) (v := .pointer (some ⟨g, o + m * 2, none⟩)) rfl (by kernel_rfl) (by kernel_rfl) (by kernel_rfl) (fun _ _ _ h => h) (Or.inl ⟨by rfl, by intro w; go_simp⟩) ?_
        refine wpAny_take (i := 6) (v := .slice (some ⟨g, o, none⟩) ts.length cap) rfl (by kernel_rfl) (by kernel_rfl) (by kernel_rfl) (fun _ _ _ h => h) (Or.inl ⟨by rfl, by intro w; go_simp⟩) ?_
        refine wpAny_take (i := 7) (v := .int .i64 (((m : Nat) : Int) + 1)) rfl (by kernel_rfl) (by kernel_rfl) (by kernel_rfl) (fun _ _ _ h => h) (Or.inl ⟨by rfl, by intro w; go_simp⟩) ?_
        refine wpAny_take (i := 8) (v := .pointer (some ⟨g, o + (m + 1) * 2, none⟩)) rfl (by kernel_rfl) (by kernel_rfl) (by kernel_rfl) (fun _ _ _ h => h) (Or.inl ⟨by rfl, by intro w; go_simp⟩) ?_
        refine wpAny_ready (rs := [5, 9]) (by kernel_rfl) (by simp) ?_
        refine AllReady.cons rfl (fun K hK => ?_) ?_
        · go_simp
          refine hK _ _ ?_
          clear hK K
          refine wpAny_ready (rs := [9]) (by kernel_rfl) (by simp) ?_
          refine AllReady.cons rfl (fun K hK => ?_) AllReady.nil
          go_simp
          refine hK _ _ ?_
          clear hK K
          refine wpAny_ready (rs := [10]) (by kernel_rfl) (by simp) ?_
          refine AllReady.cons rfl (fun K hK => ?_) AllReady.nil
          go_simp
          refine (HC.out _).mono ?_
          rintro e w1 ⟨rfl, hb1⟩
          have hb2 : Below w.heap.size w w1 := (hb.drew).trans (hb1.mono hb.size)
          clear hb1
          refine hK _ _ ?_
          clear hK K
          refine wpAny_take (i := 11) (v := .bool true) rfl (by kernel_rfl) (by kernel_rfl) (by kernel_rfl) (fun _ _ _ h => h) (Or.inl ⟨by rfl, by intro w; go_simp⟩) ?_
          refine wpAny_done (by kernel_rfl) ?_ _
          go_wp2_with fail
          go_ret
          rw [HY.out]
          exact ⟨rfl, hb2⟩
        · refine AllReady.cons rfl (fun K hK => ?_) AllReady.nil
          go_simp
          refine hK _ _ ?_
          clear hK K
          refine wpAny_ready (rs := [5]) (by kernel_rfl) (by simp) ?_
          refine AllReady.cons rfl (fun K hK => ?_) AllReady.nil
          go_simp
          refine hK _ _ ?_
          clear hK K
          refine wpAny_ready (rs := [10]) (by kernel_rfl) (by simp) ?_
          refine AllReady.cons rfl (fun K hK => ?_) AllReady.nil
          go_simp
          refine (HC.out _).mono ?_
          rintro e w1 ⟨rfl, hb1⟩
          have hb2 : Below w.heap.size w w1 := (hb.drew).trans (hb1.mono hb.size)
          clear hb1
          refine hK _ _ ?_
          clear hK K
          refine wpAny_take (i := 11) (v := .bool true) rfl (by kernel_rfl) (by kernel_rfl) (by kernel_rfl) (fun _ _ _ h => h) (Or.inl ⟨by rfl, by intro w; go_simp⟩) ?_
          refine wpAny_done (by kernel_rfl) ?_ _
          go_wp2_with fail
          go_ret
          rw [HY.out]
          exact ⟨rfl, hb2⟩
    · have hge : ¬ ((k : Nat) : Int) < ((ts.length : Nat) : Int) := by omega
      have HY : Hid (riseTo cmpP ts ts.length = true) := by
        rcases hk with hk | hk
        · have : k = ts.length := by omega
          rw [← this]; exact HA.out
        · unfold riseTo
          rw [show ts.length - 1 = 0 by omega]
          rfl
      go_wp2_with fail
      go_ret
      rw [HY.out]
      exact ⟨rfl, hb⟩
end Go.Proofs.YtmaancidkpfopaaGreatDoor

/- WALK of the order of scores. -/
namespace Go.Proofs.YtmaancidkpfopaaGreatDoor
open Go.RowKit

def cmpN (a b : Int) : Int := if a < b then -1 else if b < a then 1 else 0
def orN (a b : Int) : Int := if a ≠ 0 then a else b
theorem cmpS_or (x y : Int × ByteArray) : orN (cmpN x.1 y.1) (cmpT x.2 y.2) = cmpS x y := by
  unfold orN cmpN cmpS
  by_cases h1 : x.1 < y.1
  · simp [h1]
  · by_cases h2 : y.1 < x.1
    · simp [h1, h2]
    · simp [h1, h2]
theorem isNaN_any (a : Int) (w : World) : Calls Tryz.prog 247 #[.int .i64 a] w fun e w' => e = .returned (.bool false) ∧ w' = w := by
  go_enter Tryz.func247, Tryz.ntmps247
  go_wp2_with fail
  go_ret
  exact ⟨by simp, rfl⟩
set_option maxRecDepth 100000 in
theorem cmpInt_any (a b : Int) (w : World) : Calls Tryz.prog 211 #[.int .i64 a, .int .i64 b] w fun e w' => e = .returned (.int .i64 (cmpN a b)) ∧ w' = w := by
  by_cases h1 : a < b
  · rw [show cmpN a b = -1 by rw [cmpN, if_pos h1]]
    go_enter Tryz.func211, Tryz.ntmps211
    go_wp2_with (go_at_call 247; refine (isNaN_any _ _).mono ?_; rintro e w' ⟨rfl, rfl⟩)
    go_ret
    exact ⟨rfl, rfl⟩
  · by_cases h2 : b < a
    · rw [show cmpN a b = 1 by rw [cmpN, if_neg h1, if_pos h2]]
      go_enter Tryz.func211, Tryz.ntmps211
      go_wp2_with (go_at_call 247; refine (isNaN_any _ _).mono ?_; rintro e w' ⟨rfl, rfl⟩)
      go_ret
      exact ⟨rfl, rfl⟩
    · rw [show cmpN a b = 0 by rw [cmpN, if_neg h1, if_neg h2]]
      go_enter Tryz.func211, Tryz.ntmps211
      go_wp2_with (go_at_call 247; refine (isNaN_any _ _).mono ?_; rintro e w' ⟨rfl, rfl⟩)
      go_ret
      exact ⟨rfl, rfl⟩
set_option maxRecDepth 100000 in
theorem orInt_any (g : Nat) (a b : Int) (w : World) (h0 : w.cell? ⟨g, 0, none⟩ = some (.int .i64 a)) (h1 : w.cell? ⟨g, 1, none⟩ = some (.int .i64 b)) : Calls Tryz.prog 210 #[.slice (some ⟨g, 0, none⟩) 2 2] w fun e w' => e = .returned (.int .i64 (orN a b)) ∧ w' = w := by
  by_cases ha : a = 0
  · subst ha
    rw [show orN 0 b = b by simp [orN]]
    by_cases hb : b = 0
    · subst hb
      go_enter Tryz.func210, Tryz.ntmps210
      go_wp2_with fail
      go_rounds 3
      go_ret
      exact ⟨rfl, rfl⟩
    · have hb' : (b == 0) = false := by rw [beq_eq_false_iff_ne]; exact hb
      go_enter Tryz.func210, Tryz.ntmps210
      go_wp2_with fail
      go_rounds 3
      go_ret
      exact ⟨rfl, rfl⟩
  · rw [show orN a b = a by simp [orN, ha]]
    have ha' : (a == 0) = false := by rw [beq_eq_false_iff_ne]; exact ha
    go_enter Tryz.func210, Tryz.ntmps210
    go_wp2_with fail
    go_rounds 3
    go_ret
    exact ⟨rfl, rfl⟩
set_option maxRecDepth 100000 in
set_option maxHeartbeats 1000000 in
theorem cmpS_any (x y : Int × ByteArray) (w : World) : Calls Tryz.prog 144 #[.agg #[.int .i64 x.1, .string x.2], .agg #[.int .i64 y.1, .string y.2]] w fun e w' => e = .returned (.int .i64 (cmpS x y)) ∧ Below w.heap.size w w' := by
  rw [← cmpS_or]
  obtain ⟨x1, x2⟩ := x
  obtain ⟨y1, y2⟩ := y
  have HA : Hid (∀ W, Calls Tryz.prog 211 #[.int .i64 x1, .int .i64 y1] W fun e w' => e = .returned (.int .i64 (cmpN x1 y1)) ∧ w' = W) := fun W => cmpInt_any _ _ W
  have HT : Hid (∀ W, Calls Tryz.prog 133 #[.string x2, .string y2] W fun e w' => e = .returned (.int .i64 (cmpT x2 y2)) ∧ w' = W) := fun W => compare_any _ _ W
  simp only
  generalize cmpN x1 y1 = C1 at *
  generalize cmpT x2 y2 = C2 at *
  go_enter Tryz.func144, Tryz.ntmps144
  go_wp2_with fail
  go_region_held3 (fun w' => w'.cell? ⟨w.heap.size, 0, none⟩ = some (.int .i64 x1) ∧ w'.cell? ⟨w.heap.size, 1, none⟩ = some (.string x2) ∧ w'.cell? ⟨w.heap.size + 1, 0, none⟩ = some (.int .i64 y1) ∧ w'.cell? ⟨w.heap.size + 1, 1, none⟩ = some (.string y2)) (go_keep)
    ((first | (go_at_call 211; refine (HA.out _).mono ?_; rintro e w2 ⟨rfl, rfl⟩) | (go_at_call 133; refine (HT.out _).mono ?_; rintro e w2 ⟨rfl, rfl⟩) | (go_at_call 210; refine (orInt_any _ C1 C2 _ (by go_simp) (by go_simp)).mono ?_; rintro e w2 ⟨rfl, rfl⟩)))
  all_goals
    go_wp2_with fail
    go_ret
    refine ⟨rfl, ?_⟩
    go_grown
end Go.Proofs.YtmaancidkpfopaaGreatDoor

/- WALK of whether scores rise. -/
namespace Go.Proofs.YtmaancidkpfopaaGreatDoor
open Go.RowKit

set_option maxRecDepth 100000 in
set_option maxHeartbeats 1000000 in
theorem riseS_any (a : Option Addr) (cap : Nat) (ts : List (Int × ByteArray)) (w : World) (hs : ScoresAt w a ts) (hn : ts.length ≤ 1000000) :
    Calls Tryz.prog 143 #[.slice a ts.length cap, .func (.func 144) #[] #[]] w fun e w' => e = .returned (.bool (riseTo cmpS ts ts.length)) ∧ Below w.heap.size w w' := by
  have HS := hide hs
  clear hs
  go_enter Tryz.func143, Tryz.ntmps143
  go_wp2_with fail
  go_loopw [5] (fun vi wr => ∃ (k : Nat), 1 ≤ k ∧ (k ≤ ts.length ∨ k = 1) ∧ vi = .int .i64 k ∧ Below w.heap.size w wr ∧ Hid (riseTo cmpS ts k = true)) (fun vi _ => ts.length + 1 - (intOf vi).toNat)
  case atStart => exact ⟨1, Nat.le_refl _, .inr rfl, rfl, Below.refl _ _, rfl⟩
  case round =>
    obtain ⟨k, hk1, hk, rfl, hb, HA⟩ := hrel
    by_cases hlt : k < ts.length
    · obtain ⟨g, o, rfl, hcs⟩ : ∃ g o, a = some ⟨g, o, none⟩ ∧ ∀ i (h : i < ts.length), w.cell? ⟨g, o + i * 2, none⟩ = some (.int .i64 ts[i].1) ∧ w.cell? ⟨g, o + i * 2 + 1, none⟩ = some (.string ts[i].2) := by
        rcases HS.out with h | h
        · subst h; simp at hlt
        · exact h
      obtain ⟨m, rfl⟩ : ∃ m, k = m + 1 := ⟨k - 1, by omega⟩
      have HB : Hid (∀ g o v, w.cell? ⟨g, o, none⟩ = some v → wr.cell? ⟨g, o, none⟩ = some v) := fun g o _ hv => (hb.cell (p := ⟨g, o, none⟩) (World.block_lt_of_cell? _ _ hv)).trans hv
      have d0 : (World.drew wr).cell? ⟨g, o + m * 2, none⟩ = some (.int .i64 ts[m].1) := HB.out _ _ _ ((hcs m (by omega)).1)
      have d1 : (World.drew wr).cell? ⟨g, o + m * 2 + 1, none⟩ = some (.string ts[m].2) := HB.out _ _ _ ((hcs m (by omega)).2)
      have e0 : (World.drew wr).cell? ⟨g, o + (m + 1) * 2, none⟩ = some (.int .i64 ts[m + 1].1) := HB.out _ _ _ ((hcs (m + 1) hlt).1)
      have e1 : (World.drew wr).cell? ⟨g, o + (m + 1) * 2 + 1, none⟩ = some (.string ts[m + 1].2) := HB.out _ _ _ ((hcs (m + 1) hlt).2)
      have p0 : wr.cell? ⟨g, o + m * 2, none⟩ = some (.int .i64 ts[m].1) := HB.out _ _ _ ((hcs m (by omega)).1)
      have p1 : wr.cell? ⟨g, o + m * 2 + 1, none⟩ = some (.string ts[m].2) := HB.out _ _ _ ((hcs m (by omega)).2)
      have q0 : wr.cell? ⟨g, o + (m + 1) * 2, none⟩ = some (.int .i64 ts[m + 1].1) := HB.out _ _ _ ((hcs (m + 1) hlt).1)
      have q1 : wr.cell? ⟨g, o + (m + 1) * 2 + 1, none⟩ = some (.string ts[m + 1].2) := HB.out _ _ _ ((hcs (m + 1) hlt).2)
      have hmm : IntKind.i64.wrap ((m : Nat) : Int) = ((m : Nat) : Int) := by rw [IntKind.wrap_i64]; omega
      have hm' : m < ts.length := by omega
      have hm2 : ((m : Nat) : Int) < ((ts.length : Nat) : Int) := by omega
      have hm4 : (0 : Int) ≤ ((m : Nat) : Int) + 1 := by omega
      have hm5 : (((m : Nat) : Int) + 1).toNat = m + 1 := by omega
      have hm3 : ((m : Nat) : Int) + 1 < ((ts.length : Nat) : Int) := by omega
      have HT : Hid (riseTo cmpS ts (m + 1 + 1) = decide (cmpS ts[m] ts[m + 1] < 0)) := by
        rw [Hid, riseTo_succ cmpS ts (m + 1) (by omega), HA.out, Bool.true_and, show m + 1 - 1 = m by omega, getElem!_pos ts m (by omega), getElem!_pos ts (m + 1) hlt]
      have HC : Hid (∀ W, Calls Tryz.prog 144 #[.agg #[.int .i64 ts[m].1, .string ts[m].2], .agg #[.int .i64 ts[m + 1].1, .string ts[m + 1].2]] W fun e w' => e = .returned (.int .i64 (cmpS ts[m] ts[m + 1])) ∧ Below W.heap.size W w') := fun W => cmpS_any _ _ W
      generalize cmpS ts[m] ts[m + 1] = C at *
      clear hcs HS HB
      by_cases hC : C < 0
      · have hC' : ¬ (0 : Int) ≤ C := by omega
        have HY : Hid (riseTo cmpS ts (m + 1 + 1) = true) := by rw [Hid, HT.out]; exact decide_eq_true hC
        go_wp2_with fail
        refine wp_region_any (by kernel_rfl) ?_
        change wpAny _ _ _ _ _ _ _ (World.drew _)
        refine wpAny_take (i := 0) (v := .func (.func 144) #[] #[]) rfl (by kernel_rfl) (by kernel_rfl) (by kernel_rfl) (fun _ _ _ h => h) (Or.inl ⟨by rfl, by intro w; go_simp⟩) ?_
        refine wpAny_take (i := 1) (v := .slice (some ⟨g, o, none⟩) ts.length cap) rfl (by kernel_rfl) (by kernel_rfl) (by kernel_rfl) (fun _ _ _ h => h) (Or.inl ⟨by rfl, by intro w; go_simp⟩) ?_
        refine wpAny_take (i := 2) (v := .int .i64 (((m : Nat) : Int) + 1)) rfl (by kernel_rfl) (by kernel_rfl) (by kernel_rfl) (fun _ _ _ h => h) (Or.inl ⟨by rfl, by intro w; go_simp⟩) ?_
        refine wpAny_take (i := 3) (v := .int .i64 ((m : Nat) : Int)) rfl (by kernel_rfl) (by kernel_rfl) (by kernel_rfl) (fun _ _ _ h => h) (Or.inl ⟨by rfl, by intro w; go_simp⟩) ?_
        refine wpAny_take (i := 4) (v := .pointer (some ⟨g, o + m * 2, none⟩)) rfl (by kernel_rfl) (by kernel_rfl) (by kernel_rfl) (fun _ _ _ h => h) (Or.inl ⟨by rfl, by intro w; go_simp⟩) ?_
        refine wpAny_take (i := 6) (v := .slice (some ⟨g, o, none⟩) ts.length cap) rfl (by kernel_rfl) (by kernel_rfl) (by kernel_rfl) (fun _ _ _ h => h) (Or.inl ⟨by rfl, by intro w; go_simp⟩) ?_
        refine wpAny_take (i := 7) (v := .int .i64 (((m : Nat) : Int) + 1)) rfl (by kernel_rfl) (by kernel_rfl) (by kernel_rfl) (fun _ _ _ h => h) (Or.inl ⟨by rfl, by intro w; go_simp⟩) ?_
        refine wpAny_take (i := 8) (v := .pointer (some ⟨g, o + (m + 1) * 2, none⟩)) rfl (by kernel_rfl) (by kernel_rfl) (by kernel_rfl) (fun _ _ _ h => h) (Or.inl ⟨by rfl, by intro w; go_simp⟩) ?_
        refine wpAny_ready (rs := [5, 9]) (by kernel_rfl) (by simp) ?_
        refine AllReady.cons rfl (fun K hK => ?_) ?_
        · go_simp
          refine hK _ _ ?_
          clear hK K
          refine wpAny_ready (rs := [9]) (by kernel_rfl) (by simp) ?_
          refine AllReady.cons rfl (fun K hK => ?_) AllReady.nil
          go_simp
          refine hK _ _ ?_
          clear hK K
          refine wpAny_ready (rs := [10]) (by kernel_rfl) (by simp) ?_
          refine AllReady.cons rfl (fun K hK => ?_) AllReady.nil
          go_simp
          refine (HC.out _).mono ?_
          rintro e w1 ⟨rfl, hb1⟩
          have hb2 : Below w.heap.size w w1 := (hb.drew).trans (hb1.mono hb.size)
          clear hb1
          refine hK _ _ ?_
          clear hK K
          refine wpAny_take (i := 11) (v := .bool false) rfl (by kernel_rfl) (by kernel_rfl) (by kernel_rfl) (fun _ _ _ h => h) (Or.inl ⟨by rfl, by intro w; go_simp⟩) ?_
          refine wpAny_done (by kernel_rfl) ?_ _
          go_wp2_with fail
          go_roundw
          case rel => exact ⟨m + 1 + 1, by omega, .inl (by omega), by go_num, hb2, HY⟩
          case measure => simp only [intOf]; omega
        · refine AllReady.cons rfl (fun K hK => ?_) AllReady.nil
          go_simp
          refine hK _ _ ?_
          clear hK K
          refine wpAny_ready (rs := [5]) (by kernel_rfl) (by simp) ?_
          refine AllReady.cons rfl (fun K hK => ?_) AllReady.nil
          go_simp
          refine hK _ _ ?_
          clear hK K
          refine wpAny_ready (rs := [10]) (by kernel_rfl) (by simp) ?_
          refine AllReady.cons rfl (fun K hK => ?_) AllReady.nil
          go_simp
          refine (HC.out _).mono ?_
          rintro e w1 ⟨rfl, hb1⟩
          have hb2 : Below w.heap.size w w1 := (hb.drew).trans (hb1.mono hb.size)
          clear hb1
          refine hK _ _ ?_
          clear hK K
          refine wpAny_take (i := 11) (v := .bool false) rfl (by kernel_rfl) (by kernel_rfl) (by kernel_rfl) (fun _ _ _ h => h) (Or.inl ⟨by rfl, by intro w; go_simp⟩) ?_
          refine wpAny_done (by kernel_rfl) ?_ _
          go_wp2_with fail
          go_roundw
          case rel => exact ⟨m + 1 + 1, by omega, .inl (by omega), by go_num, hb2, HY⟩
          case measure => simp only [intOf]; omega
      · have hC' : (0 : Int) ≤ C := by omega
        have HY : Hid (riseTo cmpS ts ts.length = false) := riseTo_false (k := m + 1 + 1) (by rw [HT.out]; exact decide_eq_false hC) (by omega)
        go_wp2_with fail
        refine wp_region_any (by kernel_rfl) ?_
        change wpAny _ _ _ _ _ _ _ (World.drew _)
        refine wpAny_take (i := 0) (v := .func (.func 144) #[] #[]) rfl (by kernel_rfl) (by kernel_rfl) (by kernel_rfl) (fun _ _ _ h => h) (Or.inl ⟨by rfl, by intro w; go_simp⟩) ?_
        refine wpAny_take (i := 1) (v := .slice (some ⟨g, o, none⟩) ts.length cap) rfl (by kernel_rfl) (by kernel_rfl) (by kernel_rfl) (fun _ _ _ h => h) (Or.inl ⟨by rfl, by intro w; go_simp⟩) ?_
        refine wpAny_take (i := 2) (v := .int .i64 (((m : Nat) : Int) + 1)) rfl (by kernel_rfl) (by kernel_rfl) (by kernel_rfl) (fun _ _ _ h => h) (Or.inl ⟨by rfl, by intro w; go_simp⟩) ?_
        refine wpAny_take (i := 3) (v := .int .i64 ((m : Nat) : Int)) rfl (by kernel_rfl) (by kernel_rfl) (by kernel_rfl) (fun _ _ _ h => h) (Or.inl ⟨by rfl, by intro w; go_simp⟩) ?_
        refine wpAny_take (i := 4) (v := .pointer (some ⟨g, o + m * 2, none⟩)) rfl (by kernel_rfl) (by kernel_rfl) (by kernel_rfl) (fun _ _ _ h => h) (Or.inl ⟨by rfl, by intro w; go_simp⟩) ?_
        refine wpAny_take (i := 6) (v := .slice (some ⟨g, o, none⟩) ts.length cap) rfl (by kernel_rfl) (by kernel_rfl) (by kernel_rfl) (fun _ _ _ h => h) (Or.inl ⟨by rfl, by intro w; go_simp⟩) ?_
        refine wpAny_take (i := 7) (v := .int .i64 (((m : Nat) : Int) + 1)) rfl (by kernel_rfl) (by kernel_rfl) (by kernel_rfl) (fun _ _ _ h => h) (Or.inl ⟨by rfl, by intro w; go_simp⟩) ?_
        refine wpAny_take (i := 8) (v := .pointer (some ⟨g, o + (m + 1) * 2, none⟩)) rfl (by kernel_rfl) (by kernel_rfl) (by kernel_rfl) (fun _ _ _ h => h) (Or.inl ⟨by rfl, by intro w; go_simp⟩) ?_
        refine wpAny_ready (rs := [5, 9]) (by kernel_rfl) (by simp) ?_
        refine AllReady.cons rfl (fun K hK => ?_) ?_
        · go_simp
          refine hK _ _ ?_
          clear hK K
          refine wpAny_ready (rs := [9]) (by kernel_rfl) (by simp) ?_
          refine AllReady.cons rfl (fun K hK => ?_) AllReady.nil
          go_simp
          refine hK _ _ ?_
          clear hK K
          refine wpAny_ready (rs := [10]) (by kernel_rfl) (by simp) ?_
          refine AllReady.cons rfl (fun K hK => ?_) AllReady.nil
          go_simp
          refine (HC.out _).mono ?_
          rintro e w1 ⟨rfl, hb1⟩
          have hb2 : Below w.heap.size w w1 := (hb.drew).trans (hb1.mono hb.size)
          clear hb1
          refine hK _ _ ?_
          clear hK K
          refine wpAny_take (i := 11) (v := .bool true) rfl (by kernel_rfl) (by kernel_rfl) (by kernel_rfl) (fun _ _ _ h => h) (Or.inl ⟨by rfl, by intro w; go_simp⟩) ?_
          refine wpAny_done (by kernel_rfl) ?_ _
          go_wp2_with fail
          go_ret
          rw [HY.out]
          exact ⟨rfl, hb2⟩
        · refine AllReady.cons rfl (fun K hK => ?_) AllReady.nil
          go_simp
          refine hK _ _ ?_
          clear hK K
          refine wpAny_ready (rs := [5]) (by kernel_rfl) (by simp) ?_
          refine AllReady.cons rfl (fun K hK => ?_) AllReady.nil
          go_simp
          refine hK _ _ ?_
          clear hK K
          refine wpAny_ready (rs := [10]) (by kernel_rfl) (by simp) ?_
          refine AllReady.cons rfl (fun K hK => ?_) AllReady.nil
          go_simp
          refine (HC.out _).mono ?_
          rintro e w1 ⟨rfl, hb1⟩
          have hb2 : Below w.heap.size w w1 := (hb.drew).trans (hb1.mono hb.size)
          clear hb1
          refine hK _ _ ?_
          clear hK K
          refine wpAny_take (i := 11) (v := .bool true) rfl (by kernel_rfl) (by kernel_rfl) (by kernel_rfl) (fun _ _ _ h => h) (Or.inl ⟨by rfl, by intro w; go_simp⟩) ?_
          refine wpAny_done (by kernel_rfl) ?_ _
          go_wp2_with fail
          go_ret
          rw [HY.out]
          exact ⟨rfl, hb2⟩
    · have hge : ¬ ((k : Nat) : Int) < ((ts.length : Nat) : Int) := by omega
      have HY : Hid (riseTo cmpS ts ts.length = true) := by
        rcases hk with hk | hk
        · have : k = ts.length := by omega
          rw [← this]; exact HA.out
        · unfold riseTo
          rw [show ts.length - 1 = 0 by omega]
          rfl
      go_wp2_with fail
      go_ret
      rw [HY.out]
      exact ⟨rfl, hb⟩
end Go.Proofs.YtmaancidkpfopaaGreatDoor

/- WALK of whether a member is there twice. -/
namespace Go.Proofs.YtmaancidkpfopaaGreatDoor
open Go.RowKit Go.Maps Go.WideMaps

def mkeys (ts : List (Int × ByteArray)) (k : Nat) : List Lit := (ts.take k).map fun x => .string x.2.data.toList
def mset (ts : List (Int × ByteArray)) (k : Nat) : DataW Unit := setOf (.agg []) (mkeys ts k)
theorem mset_zero (ts : List (Int × ByteArray)) : mset ts 0 = .map [] := by simp [mset, mkeys, setOf]
theorem mset_succ (ts : List (Int × ByteArray)) (k : Nat) (hk : k < ts.length) : mset ts (k + 1) = (mset ts k).put (.string ts[k].2.data.toList) (.agg []) := by
  have e : mkeys ts (k + 1) = mkeys ts k ++ [.string ts[k].2.data.toList] := by
    unfold mkeys
    rw [List.take_succ_eq_append_getElem hk, List.map_append]
    rfl
  rw [mset, e, setOf_snoc]
  rfl
theorem addKey_le (x : Lit) (L : List Lit) : (addKey L x).length ≤ L.length + 1 := by
  unfold addKey
  split <;> simp
theorem addKeys_le : ∀ (xs L : List Lit), (xs.foldl addKey L).length ≤ L.length + xs.length
  | [], L => by simp
  | x :: r, L => by
    rw [List.foldl_cons]
    have h1 := addKeys_le r (addKey L x)
    have h2 := addKey_le x L
    simp only [List.length_cons]
    omega
/-- all different: as many as there are -/
theorem addKeys_eq : ∀ (xs L : List Lit), (∀ x ∈ xs, WideAt.IsKeyLit x) → ((xs.foldl addKey L).length = L.length + xs.length ↔ xs.Nodup ∧ ∀ x ∈ xs, x ∉ L)
  | [], L, _ => by simp
  | x :: r, L, hk => by
    rw [List.foldl_cons]
    have hx := hk x (by simp)
    have hr : ∀ y ∈ r, WideAt.IsKeyLit y := fun y hy => hk y (by simp [hy])
    by_cases hin : x ∈ L
    · have e : addKey L x = L := by
        unfold addKey
        rw [if_pos (show (L.any fun y => y.sameKey x) = true from List.any_eq_true.2 ⟨x, hin, WideAt.sameKey_self hx⟩)]
      rw [e]
      have h1 := addKeys_le r L
      refine ⟨fun h => ?_, fun h => absurd hin (h.2 x (by simp))⟩
      simp only [List.length_cons] at h
      omega
    · have e : addKey L x = L ++ [x] := by
        unfold addKey
        rw [if_neg]
        intro h
        obtain ⟨y, hy, hs⟩ := List.any_eq_true.1 h
        exact hin (WideAt.sameKey_eq hs ▸ hy)
      rw [e]
      have ih := addKeys_eq r (L ++ [x]) hr
      rw [List.length_append, List.length_singleton] at ih
      rw [List.length_cons, show L.length + (r.length + 1) = L.length + 1 + r.length by omega, ih]
      constructor
      · rintro ⟨h1, h2⟩
        refine ⟨List.nodup_cons.2 ⟨fun hm => h2 x hm (by simp), h1⟩, fun y hy => ?_⟩
        rcases List.mem_cons.1 hy with rfl | hy
        · exact hin
        · exact fun hm => h2 y hy (by simp [hm])
      · rintro ⟨h1, h2⟩
        obtain ⟨h3, h4⟩ := List.nodup_cons.1 h1
        refine ⟨h4, fun y hy hm => ?_⟩
        rcases List.mem_append.1 hm with hm | hm
        · exact h2 y (by simp [hy]) hm
        · simp at hm; subst hm; exact h3 hy
theorem mkeys_key (ts : List (Int × ByteArray)) (k : Nat) : ∀ x ∈ mkeys ts k, WideAt.IsKeyLit x := by
  intro x hx
  unfold mkeys at hx
  obtain ⟨y, _, rfl⟩ := List.mem_map.1 hx
  trivial
theorem list_inj {a b : ByteArray} (h : a.data.toList = b.data.toList) : a = b := by
  cases a; cases b
  congr 1
  exact Array.toList_inj.1 h
theorem twice_size (ts : List (Int × ByteArray)) : decide (Maps.size (mset ts ts.length) < ts.length) = twiceS ts := by
  rw [mset, size_setOf _ _ (mkeys_key ts _)]
  have h1 := addKeys_le (mkeys ts ts.length) []
  have h2 := addKeys_eq (mkeys ts ts.length) [] (mkeys_key ts _)
  have e : (mkeys ts ts.length).length = ts.length := by simp [mkeys]
  have hn : (mkeys ts ts.length).Nodup ↔ (ts.map Prod.snd).Nodup := by
    have e2 : mkeys ts ts.length = (ts.map Prod.snd).map (fun x => Lit.string x.data.toList) := by
      rw [mkeys, List.take_length, List.map_map]
      rfl
    rw [e2]
    constructor
    · intro h
      exact List.Pairwise.of_map _ (fun a b hab he => hab (by rw [he])) h
    · intro h
      refine List.Pairwise.map _ (fun a b hab he => hab ?_) h
      injection he with he
      exact list_inj he
  rw [e] at h1 h2
  simp only [List.length_nil, Nat.zero_add] at h1 h2
  unfold twiceS
  by_cases hd : (ts.map Prod.snd).Nodup
  · have := h2.2 ⟨hn.2 hd, by simp⟩
    rw [decide_eq_true hd, this]
    simp
  · have hne : (List.foldl addKey [] (mkeys ts ts.length)).length ≠ ts.length := fun h => hd (hn.1 (h2.1 h).1)
    rw [decide_eq_false hd]
    simp only [Bool.not_false, decide_eq_true_eq]
    omega

theorem keyLaw : Keyed Tryz.prog 9 := string_keyed Tryz.underlying9
set_option maxRecDepth 100000 in
set_option maxHeartbeats 1000000 in
theorem hasTwice_any (a : Option Addr) (cap : Nat) (ts : List (Int × ByteArray)) (w : World) (hs : ScoresAt w a ts) (hn : ts.length ≤ 1000000) (hsz : ∀ x ∈ ts, x.2.size ≤ maxLen) :
    Calls Tryz.prog 142 #[.slice a ts.length cap] w fun e w' => e = .returned (.bool (twiceS ts)) ∧ Below w.heap.size w w' := by
  have hmm := @run_makeMap Tryz.prog
  have HS := hide hs
  have HZ := hide hsz
  clear hs hsz
  go_enter Tryz.func142, Tryz.ntmps142
  go_wp2_with fail
  go_loopw [9] (fun i wr => ∃ k : Nat, k ≤ ts.length ∧ i = .int .i64 k ∧ wr.ownsMap Tryz.prog 9 (unitElem (H := Unit)) w.heap.size k (mset ts k) ∧ Below w.heap.size w wr ∧ w.heap.size < wr.heap.size) (fun i _ => ts.length - (intOf i).toNat)
  case atStart => exact ⟨0, Nat.zero_le _, rfl, by rw [mset_zero]; exact World.ownsMap_made _ _ _ _, (Below.refl _ _).alloc (Nat.le_refl _) _, by simp⟩
  case round =>
    obtain ⟨k, hk, rfl, hown, hb, hlw⟩ := hrel
    by_cases hlt : k < ts.length
    · obtain ⟨g, o, rfl, hcs⟩ : ∃ g o, a = some ⟨g, o, none⟩ ∧ ∀ i (h : i < ts.length), w.cell? ⟨g, o + i * 2, none⟩ = some (.int .i64 ts[i].1) ∧ w.cell? ⟨g, o + i * 2 + 1, none⟩ = some (.string ts[i].2) := by
        rcases HS.out with h | h
        · subst h; simp at hlt
        · exact h
      have HB : Hid (∀ g o v, w.cell? ⟨g, o, none⟩ = some v → wr.cell? ⟨g, o, none⟩ = some v) := fun g o _ hv => (hb.cell (p := ⟨g, o, none⟩) (World.block_lt_of_cell? _ _ hv)).trans hv
      have d0 : wr.cell? ⟨g, o + k * 2, none⟩ = some (.int .i64 ts[k].1) := HB.out _ _ _ (hcs k hlt).1
      have d1 : wr.cell? ⟨g, o + k * 2 + 1, none⟩ = some (.string ts[k].2) := HB.out _ _ _ (hcs k hlt).2
      have HM := hide (mset_succ ts k hlt)
      have hkey : keyOf Tryz.prog 9 (.string ts[k].2) = some (.string ts[k].2.data.toList) := keyOf_string_mk Tryz.underlying9 (HZ.out _ (List.getElem_mem hlt))
      have HK := hide hkey
      clear hcs HB HS HZ hkey
      generalize ts[k].1 = X1 at *
      generalize ts[k].2 = X2 at *
      go_wp2_with (first
        | (at_mapUpdate; refine wpList_mapUpdate_own _ rfl _ _ _ 200 rfl 9 201 keyLaw Tryz.underlying200 (unitElem (H := Unit)) w.heap.size k _ rfl (hown.alloc _) (by unfold maxLen; omega) _ _ _ rfl rfl HK.out _ [] unitElem_mk ?_; intro w1 hown1 hgrow1)
        | fail)
      go_roundw
      case rel => exact ⟨k + 1, by omega, by go_num, HM.out.symm ▸ hown1, (hb.alloc hb.size _).grown hgrow1 (by simp; omega) (fun j hj => by cases hj; exact Nat.le_refl _), by have := hgrow1.size; simp at this; omega⟩
      case measure => simp [intOf]; omega
    · have hkk : k = ts.length := by omega
      subst hkk
      have HW := hide (twice_size ts)
      have hge : ¬ ((ts.length : Nat) : Int) < ((ts.length : Nat) : Int) := by omega
      go_wp2_with (first
        | (at_len; refine wpList_len_own _ rfl _ 200 rfl 9 201 Tryz.underlying200 _ w.heap.size _ _ rfl hown ?_)
        | fail)
      go_ret
      refine ⟨?_, hb⟩
      rw [← HW.out]
      simp
end Go.Proofs.YtmaancidkpfopaaGreatDoor

/- WALKS of the checks of a set, a hash, scores. -/
namespace Go.Proofs.YtmaancidkpfopaaGreatDoor
open Go.RowKit

set_option maxRecDepth 100000 in
set_option maxHeartbeats 1000000 in
theorem checkSet_any (a : Option Addr) (cap : Nat) (ts : List ByteArray) (w : World) (hs : TextsAt w a ts) :
    Calls Tryz.prog 47 #[.slice a ts.length cap] w fun e w' => e = .returned (.int .i64 (setT ts)) ∧ Below w.heap.size w w' := by
  have HZ := hide (checkSizeT_any a cap ts w hs)
  have HS := hide hs
  clear hs
  by_cases h0 : sizeT ts.length (ts.any longT) = 0
  · have hsm := sizeT_small h0
    rw [h0] at HZ
    cases hr : riseTo cmpT ts ts.length with
    | true =>
      have hv : setT ts = 0 := by rw [setT, if_neg (by simp [h0]), if_pos hr]
      rw [hv]
      have HR := hide hr
      clear hv h0 hr
      go_enter Tryz.func47, Tryz.ntmps47
      go_wp2_with fail
      refine HZ.out.mono ?_
      rintro e w1 ⟨rfl, hb1⟩
      go_wp2_with fail
      refine (riseT_any a cap ts w1 (HS.out.below hb1) (by omega)).mono ?_
      rintro e w2 ⟨rfl, hb2⟩
      rw [HR.out]
      go_wp2_with fail
      go_ret
      exact ⟨rfl, hb1.trans (hb2.mono hb1.size)⟩
    | false =>
      have hv : setT ts = 4 := by rw [setT, if_neg (by simp [h0]), if_neg (by rw [hr]; decide)]
      rw [hv]
      have HR := hide hr
      clear hv h0 hr
      go_enter Tryz.func47, Tryz.ntmps47
      go_wp2_with fail
      refine HZ.out.mono ?_
      rintro e w1 ⟨rfl, hb1⟩
      go_wp2_with fail
      refine (riseT_any a cap ts w1 (HS.out.below hb1) (by omega)).mono ?_
      rintro e w2 ⟨rfl, hb2⟩
      rw [HR.out]
      go_wp2_with fail
      go_ret
      exact ⟨rfl, hb1.trans (hb2.mono hb1.size)⟩
  · have hv : setT ts = sizeT ts.length (ts.any longT) := by rw [setT, if_pos h0]
    have hb : (sizeT ts.length (ts.any longT) == 0) = false := by rw [beq_eq_false_iff_ne]; exact h0
    have hn : (sizeT ts.length (ts.any longT) != 0) = true := by rw [bne_iff_ne]; exact h0
    rw [hv]
    clear hv
    generalize sizeT ts.length (ts.any longT) = Z at *
    go_enter Tryz.func47, Tryz.ntmps47
    go_wp2_with fail
    refine HZ.out.mono ?_
    rintro e w1 ⟨rfl, hb1⟩
    go_wp2_with fail
    go_ret
    exact ⟨rfl, hb1⟩

set_option maxRecDepth 100000 in
set_option maxHeartbeats 1000000 in
theorem checkHash_any (a : Option Addr) (cap : Nat) (ts : List (ByteArray × ByteArray)) (w : World) (hs : PairsAt w a ts) :
    Calls Tryz.prog 48 #[.slice a ts.length cap] w fun e w' => e = .returned (.int .i64 (hashT ts)) ∧ Below w.heap.size w w' := by
  have HZ := hide (checkSizeP_any a cap ts w hs)
  have HS := hide hs
  clear hs
  by_cases h0 : sizeT ts.length (ts.any longP) = 0
  · have hsm := sizeT_small h0
    rw [h0] at HZ
    cases hr : riseTo cmpP ts ts.length with
    | true =>
      have hv : hashT ts = 0 := by rw [hashT, if_neg (by simp [h0]), if_pos hr]
      rw [hv]
      have HR := hide hr
      clear hv h0 hr
      go_enter Tryz.func48, Tryz.ntmps48
      go_wp2_with fail
      refine HZ.out.mono ?_
      rintro e w1 ⟨rfl, hb1⟩
      go_wp2_with fail
      refine (riseP_any a cap ts w1 (HS.out.below hb1) (by omega)).mono ?_
      rintro e w2 ⟨rfl, hb2⟩
      rw [HR.out]
      go_wp2_with fail
      go_ret
      exact ⟨rfl, hb1.trans (hb2.mono hb1.size)⟩
    | false =>
      have hv : hashT ts = 4 := by rw [hashT, if_neg (by simp [h0]), if_neg (by rw [hr]; decide)]
      rw [hv]
      have HR := hide hr
      clear hv h0 hr
      go_enter Tryz.func48, Tryz.ntmps48
      go_wp2_with fail
      refine HZ.out.mono ?_
      rintro e w1 ⟨rfl, hb1⟩
      go_wp2_with fail
      refine (riseP_any a cap ts w1 (HS.out.below hb1) (by omega)).mono ?_
      rintro e w2 ⟨rfl, hb2⟩
      rw [HR.out]
      go_wp2_with fail
      go_ret
      exact ⟨rfl, hb1.trans (hb2.mono hb1.size)⟩
  · have hv : hashT ts = sizeT ts.length (ts.any longP) := by rw [hashT, if_pos h0]
    have hb : (sizeT ts.length (ts.any longP) == 0) = false := by rw [beq_eq_false_iff_ne]; exact h0
    have hn : (sizeT ts.length (ts.any longP) != 0) = true := by rw [bne_iff_ne]; exact h0
    rw [hv]
    clear hv
    generalize sizeT ts.length (ts.any longP) = Z at *
    go_enter Tryz.func48, Tryz.ntmps48
    go_wp2_with fail
    refine HZ.out.mono ?_
    rintro e w1 ⟨rfl, hb1⟩
    go_wp2_with fail
    go_ret
    exact ⟨rfl, hb1⟩

set_option maxRecDepth 100000 in
set_option maxHeartbeats 1000000 in
theorem checkScores_any (a : Option Addr) (cap : Nat) (ts : List (Int × ByteArray)) (w : World) (hs : ScoresAt w a ts) (hsz : ∀ x ∈ ts, x.2.size ≤ maxLen) :
    Calls Tryz.prog 49 #[.slice a ts.length cap] w fun e w' => e = .returned (.int .i64 (scoreT ts)) ∧ Below w.heap.size w w' := by
  have HZ := hide (checkSizeS_any a cap ts w hs)
  have HS := hide hs
  have HL := hide hsz
  clear hs hsz
  by_cases h0 : sizeT ts.length (ts.any longS) = 0
  · have hsm := sizeT_small h0
    rw [h0] at HZ
    have hv0 : scoreT ts = if ts.any outS = true then 3 else if twiceS ts = true then 6 else if riseTo cmpS ts ts.length = true then 0 else 4 := by
      rw [scoreT, if_neg (by simp [h0])]
    rw [hv0]
    clear hv0 h0
    have HO : Hid (∀ W, Below w.heap.size w W → Calls Tryz.prog 140 #[.slice a ts.length cap, .func (.func 141) #[] #[]] W fun e w' => e = .returned (.bool (ts.any outS)) ∧ Below W.heap.size W w') := fun W hW => containsOutS_any a cap ts W (HS.out.below hW) (by omega)
    have HT : Hid (∀ W, Below w.heap.size w W → Calls Tryz.prog 142 #[.slice a ts.length cap] W fun e w' => e = .returned (.bool (twiceS ts)) ∧ Below W.heap.size W w') := fun W hW => hasTwice_any a cap ts W (HS.out.below hW) (by omega) HL.out
    have HR : Hid (∀ W, Below w.heap.size w W → Calls Tryz.prog 143 #[.slice a ts.length cap, .func (.func 144) #[] #[]] W fun e w' => e = .returned (.bool (riseTo cmpS ts ts.length)) ∧ Below W.heap.size W w') := fun W hW => riseS_any a cap ts W (HS.out.below hW) (by omega)
    clear HS HL
    generalize ts.any outS = B1 at *
    generalize twiceS ts = B2 at *
    generalize riseTo cmpS ts ts.length = B3 at *
    go_enter Tryz.func49, Tryz.ntmps49
    go_wp2_with fail
    refine HZ.out.mono ?_
    rintro e w1 ⟨rfl, hb1⟩
    go_wp2_with fail
    refine (HO.out w1 hb1).mono ?_
    rintro e w2 ⟨rfl, hb2⟩
    have hB2 : Below w.heap.size w w2 := hb1.trans (hb2.mono hb1.size)
    cases B1 with
    | true =>
      go_wp2_with fail
      go_ret
      exact ⟨rfl, hB2⟩
    | false =>
      go_wp2_with fail
      refine (HT.out w2 hB2).mono ?_
      rintro e w3 ⟨rfl, hb3⟩
      have hB3 : Below w.heap.size w w3 := hB2.trans (hb3.mono hB2.size)
      cases B2 with
      | true =>
        go_wp2_with fail
        go_ret
        exact ⟨rfl, hB3⟩
      | false =>
        go_wp2_with fail
        refine (HR.out w3 hB3).mono ?_
        rintro e w4 ⟨rfl, hb4⟩
        have hB4 : Below w.heap.size w w4 := hB3.trans (hb4.mono hB3.size)
        cases B3 with
        | true =>
          go_wp2_with fail
          go_ret
          exact ⟨rfl, hB4⟩
        | false =>
          go_wp2_with fail
          go_ret
          exact ⟨rfl, hB4⟩
  · have hv : scoreT ts = sizeT ts.length (ts.any longS) := by rw [scoreT, if_pos h0]
    have hb : (sizeT ts.length (ts.any longS) == 0) = false := by rw [beq_eq_false_iff_ne]; exact h0
    have hn : (sizeT ts.length (ts.any longS) != 0) = true := by rw [bne_iff_ne]; exact h0
    rw [hv]
    clear hv
    generalize sizeT ts.length (ts.any longS) = Z at *
    go_enter Tryz.func49, Tryz.ntmps49
    go_wp2_with fail
    refine HZ.out.mono ?_
    rintro e w1 ⟨rfl, hb1⟩
    go_wp2_with fail
    go_ret
    exact ⟨rfl, hb1⟩
end Go.Proofs.YtmaancidkpfopaaGreatDoor

