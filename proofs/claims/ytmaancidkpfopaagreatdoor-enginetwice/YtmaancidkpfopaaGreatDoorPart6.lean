/- Part 6 of what the proof leans on: ECmd, ERep, EDed1, ECat, EFit, Shelf2. -/
import Derived.Test.YtmaancidkpfopaaGreatDoorPart2
import Derived.Test.YtmaancidkpfopaaGreatDoorPart3
import Derived.Test.YtmaancidkpfopaaGreatDoorPart4
import Derived.Test.YtmaancidkpfopaaGreatDoorPart1
import Derived.Test.YtmaancidkpfopaaGreatDoorProg
import Derived.Lib.AppendZeros
import Derived.Laws.OwnMore
import Derived.Laws.EntriesVeiled
import Derived.Handy
import Derived.Test.YtmaancidkpfopaaGreatDoorPart5
import Derived.Deep.RegionHeld
import Derived.BigQuiet
import Derived.Shelf.LaysM
import Derived.Shelf.Strconv.Itoa3
import Derived.Shelf.LaysC
import Derived.Shelf.Strconv.AtoiAll
import Derived.Shelf.Strings.Prefix
/- WALKS of the table of commands. -/
namespace Go.Proofs.YtmaancidkpfopaaGreatDoor
open Go.RowKit

/-- what a command does: a function; one that holds another; one that holds another, that holds a bool -/
inductive Ded where
  | one (f : Nat)
  | cap (g f : Nat)
  | two (g h : Nat) (left : Bool)
structure Cmd where
  name : ByteArray
  once : ByteArray
  again : ByteArray
  ded : Ded
def DedAt (B : Nat) (w : World) (v : Value) : Ded → Prop
  | .one f => v = .func (.func f) #[] #[]
  | .cap g f => ∃ b, B ≤ b ∧ v = .func (.func g) #[] #[.pointer (some ⟨b, 0, none⟩)] ∧ w.cell? ⟨b, 0, none⟩ = some (.func (.func f) #[] #[])
  | .two g h l => ∃ b c, B ≤ b ∧ B ≤ c ∧ v = .func (.func g) #[] #[.pointer (some ⟨b, 0, none⟩)] ∧ w.cell? ⟨b, 0, none⟩ = some (.func (.func h) #[] #[.pointer (some ⟨c, 0, none⟩)]) ∧ w.cell? ⟨c, 0, none⟩ = some (.bool l)
theorem DedAt.moved {B C : Nat} {w w' : World} {v : Value} {d : Ded} (h : DedAt B w v d) (hC : C ≤ B) (hc : ∀ b u, B ≤ b → w.cell? ⟨b, 0, none⟩ = some u → w'.cell? ⟨b, 0, none⟩ = some u) : DedAt C w' v d := by
  cases d with
  | one f => exact h
  | cap g f =>
    obtain ⟨b, h0, h1, h2⟩ := h
    exact ⟨b, Nat.le_trans hC h0, h1, hc _ _ h0 h2⟩
  | two g f l =>
    obtain ⟨b, c, h0, h9, h1, h2, h3⟩ := h
    exact ⟨b, c, Nat.le_trans hC h0, Nat.le_trans hC h9, h1, hc _ _ h0 h2, hc _ _ h9 h3⟩
theorem DedAt.below {B C : Nat} {w w' : World} {v : Value} {d : Ded} (h : DedAt B w v d) (hb : Below w.heap.size w w') (hC : C ≤ B) : DedAt C w' v d :=
  h.moved hC (fun b _ _ hu => (hb.cell (p := ⟨b, 0, none⟩) (World.block_lt_of_cell? _ _ hu)).trans hu)
theorem btE {A B C : World} (h : Below A.heap.size A B) (k : Below B.heap.size B C) : Below A.heap.size A C := h.trans (k.mono h.size)
def RowC (B : Nat) (w : World) : List Cmd → List Value → Prop
  | [], r => r = []
  | c :: cs, r => ∃ v r', r = .string c.name :: .string c.once :: .string c.again :: v :: r' ∧ (DedAt B w v c.ded ∧ v.oneCell' = true) ∧ RowC B w cs r'
theorem RowC.below {B C : Nat} {w w' : World} (hb : Below w.heap.size w w') (hC : C ≤ B) : ∀ {l : List Cmd} {r : List Value}, RowC B w l r → RowC C w' l r
  | [], _, h => h
  | _ :: _, _, ⟨v, r', h1, h2, h3⟩ => ⟨v, r', h1, ⟨h2.1.below hb hC, h2.2⟩, RowC.below hb hC h3⟩
theorem RowC.len {B : Nat} {w : World} : ∀ {l : List Cmd} {r : List Value}, RowC B w l r → r.length = l.length * 4
  | [], _, h => by have h' : _ = [] := h; rw [h']; rfl
  | _ :: _, _, ⟨v, r', h1, h2, h3⟩ => by rw [h1]; simp [RowC.len h3]; omega
theorem RowC.cells {B : Nat} {w : World} : ∀ {l : List Cmd} {r : List Value}, RowC B w l r → ∀ u ∈ r, u.oneCell' = true
  | [], _, h, u, hu => by have h' : _ = [] := h; rw [h'] at hu; cases hu
  | _ :: _, _, ⟨v, r', h1, h2, h3⟩, u, hu => by
    rw [h1] at hu
    simp only [List.mem_cons] at hu
    rcases hu with rfl | rfl | rfl | rfl | hu
    · rfl
    · rfl
    · rfl
    · exact h2.2
    · exact RowC.cells h3 u hu
theorem RowC.append {B : Nat} {w : World} : ∀ {l m : List Cmd} {r s : List Value}, RowC B w l r → RowC B w m s → RowC B w (l ++ m) (r ++ s)
  | [], _, _, _, h, k => by have h' : _ = [] := h; rw [h']; exact k
  | _ :: _, _, _, _, ⟨v, r', h1, h2, h3⟩, k => ⟨v, r' ++ _, by rw [h1]; rfl, h2, RowC.append h3 k⟩
def cmdsKeys : List Cmd := [
  ⟨⟨#[112, 105, 110, 103]⟩, ⟨#[]⟩, ⟨#[]⟩, .one 56⟩,
  ⟨⟨#[100, 101, 108]⟩, ⟨#[]⟩, ⟨#[107]⟩, .one 58⟩,
  ⟨⟨#[101, 120, 105, 115, 116, 115]⟩, ⟨#[]⟩, ⟨#[107]⟩, .one 59⟩,
  ⟨⟨#[116, 121, 112, 101]⟩, ⟨#[107]⟩, ⟨#[]⟩, .cap 151 61⟩,
  ⟨⟨#[107, 101, 121, 115]⟩, ⟨#[112]⟩, ⟨#[]⟩, .one 63⟩,
  ⟨⟨#[101, 120, 112, 105, 114, 101]⟩, ⟨#[107, 110]⟩, ⟨#[]⟩, .one 66⟩,
  ⟨⟨#[116, 116, 108]⟩, ⟨#[107]⟩, ⟨#[]⟩, .one 67⟩,
  ⟨⟨#[112, 101, 114, 115, 105, 115, 116]⟩, ⟨#[107]⟩, ⟨#[]⟩, .one 68⟩]
def cmdsTexts : List Cmd := [
  ⟨⟨#[103, 101, 116]⟩, ⟨#[107]⟩, ⟨#[]⟩, .cap 151 69⟩,
  ⟨⟨#[115, 101, 116]⟩, ⟨#[107, 118]⟩, ⟨#[]⟩, .one 72⟩,
  ⟨⟨#[97, 112, 112, 101, 110, 100]⟩, ⟨#[107, 118]⟩, ⟨#[]⟩, .cap 162 75⟩,
  ⟨⟨#[115, 116, 114, 108, 101, 110]⟩, ⟨#[107]⟩, ⟨#[]⟩, .cap 151 78⟩,
  ⟨⟨#[105, 110, 99, 114, 98, 121]⟩, ⟨#[107, 110]⟩, ⟨#[]⟩, .cap 162 81⟩,
  ⟨⟨#[103, 101, 116, 114, 97, 110, 103, 101]⟩, ⟨#[107, 110, 110]⟩, ⟨#[]⟩, .cap 151 84⟩]
def cmdsLists : List Cmd := [
  ⟨⟨#[108, 112, 117, 115, 104]⟩, ⟨#[107]⟩, ⟨#[118]⟩, .two 162 165 true⟩,
  ⟨⟨#[114, 112, 117, 115, 104]⟩, ⟨#[107]⟩, ⟨#[118]⟩, .two 162 165 false⟩,
  ⟨⟨#[108, 112, 111, 112]⟩, ⟨#[107]⟩, ⟨#[]⟩, .two 162 167 true⟩,
  ⟨⟨#[114, 112, 111, 112]⟩, ⟨#[107]⟩, ⟨#[]⟩, .two 162 167 false⟩,
  ⟨⟨#[108, 114, 97, 110, 103, 101]⟩, ⟨#[107, 110, 110]⟩, ⟨#[]⟩, .cap 151 88⟩,
  ⟨⟨#[108, 116, 114, 105, 109]⟩, ⟨#[107, 110, 110]⟩, ⟨#[]⟩, .cap 162 90⟩,
  ⟨⟨#[108, 114, 101, 109]⟩, ⟨#[107, 118]⟩, ⟨#[]⟩, .cap 162 93⟩]
def cmdsSets : List Cmd := [
  ⟨⟨#[115, 97, 100, 100]⟩, ⟨#[107]⟩, ⟨#[118]⟩, .cap 162 95⟩,
  ⟨⟨#[115, 114, 101, 109]⟩, ⟨#[107]⟩, ⟨#[118]⟩, .cap 162 97⟩,
  ⟨⟨#[115, 105, 115, 109, 101, 109, 98, 101, 114]⟩, ⟨#[107, 118]⟩, ⟨#[]⟩, .cap 151 99⟩,
  ⟨⟨#[115, 109, 101, 109, 98, 101, 114, 115]⟩, ⟨#[107]⟩, ⟨#[]⟩, .cap 180 103⟩,
  ⟨⟨#[115, 105, 110, 116, 101, 114]⟩, ⟨#[]⟩, ⟨#[107]⟩, .cap 180 104⟩,
  ⟨⟨#[115, 117, 110, 105, 111, 110]⟩, ⟨#[]⟩, ⟨#[107]⟩, .cap 180 103⟩,
  ⟨⟨#[115, 100, 105, 102, 102]⟩, ⟨#[]⟩, ⟨#[107]⟩, .cap 180 105⟩]
def cmdsHashes : List Cmd := [
  ⟨⟨#[104, 115, 101, 116]⟩, ⟨#[107]⟩, ⟨#[102, 118]⟩, .cap 162 106⟩,
  ⟨⟨#[104, 103, 101, 116]⟩, ⟨#[107, 102]⟩, ⟨#[]⟩, .cap 151 109⟩,
  ⟨⟨#[104, 100, 101, 108]⟩, ⟨#[107]⟩, ⟨#[102]⟩, .cap 162 111⟩,
  ⟨⟨#[104, 103, 101, 116, 97, 108, 108]⟩, ⟨#[107]⟩, ⟨#[]⟩, .cap 151 113⟩]
def cmdsScores : List Cmd := [
  ⟨⟨#[122, 97, 100, 100]⟩, ⟨#[107]⟩, ⟨#[110, 109]⟩, .cap 162 116⟩,
  ⟨⟨#[122, 114, 101, 109]⟩, ⟨#[107]⟩, ⟨#[109]⟩, .cap 162 119⟩,
  ⟨⟨#[122, 115, 99, 111, 114, 101]⟩, ⟨#[107, 109]⟩, ⟨#[]⟩, .cap 151 121⟩,
  ⟨⟨#[122, 114, 97, 110, 107]⟩, ⟨#[107, 109]⟩, ⟨#[]⟩, .cap 151 123⟩,
  ⟨⟨#[122, 114, 97, 110, 103, 101]⟩, ⟨#[107, 110, 110]⟩, ⟨#[]⟩, .cap 151 125⟩,
  ⟨⟨#[122, 114, 97, 110, 103, 101, 98, 121, 115, 99, 111, 114, 101]⟩, ⟨#[107, 110, 110]⟩, ⟨#[]⟩, .cap 151 127⟩]
def cmds : List Cmd := cmdsKeys ++ (cmdsTexts ++ (cmdsLists ++ (cmdsSets ++ (cmdsHashes ++ cmdsScores))))
set_option maxRecDepth 100000 in
theorem reads_any (fu : Fn) (xs ys : Array Value) (w : World) : Calls Tryz.prog 60 #[.func fu xs ys] w fun e w' => (∃ b, w.heap.size ≤ b ∧ e = .returned (.func (.func 151) #[] #[.pointer (some ⟨b, 0, none⟩)]) ∧ w'.cell? ⟨b, 0, none⟩ = some (.func fu xs ys)) ∧ Below w.heap.size w w' := by
  have hmf : ∀ (fn : Fn) (first cap : Array Value) (w : World), (Instr.makeFunc fn first cap).run Tryz.prog w = .ok (.func fn first cap) w := fun _ _ _ _ => rfl
  go_enter Tryz.func60, Tryz.ntmps60
  go_wp2_with fail
  go_ret
  exact ⟨⟨_, Nat.le_refl _, rfl, by simp [go_sem]⟩, (Below.refl _ w).alloc (Nat.le_refl _) _⟩
set_option maxRecDepth 100000 in
theorem changes_any (fu : Fn) (xs ys : Array Value) (w : World) : Calls Tryz.prog 74 #[.func fu xs ys] w fun e w' => (∃ b, w.heap.size ≤ b ∧ e = .returned (.func (.func 162) #[] #[.pointer (some ⟨b, 0, none⟩)]) ∧ w'.cell? ⟨b, 0, none⟩ = some (.func fu xs ys)) ∧ Below w.heap.size w w' := by
  have hmf : ∀ (fn : Fn) (first cap : Array Value) (w : World), (Instr.makeFunc fn first cap).run Tryz.prog w = .ok (.func fn first cap) w := fun _ _ _ _ => rfl
  go_enter Tryz.func74, Tryz.ntmps74
  go_wp2_with fail
  go_ret
  exact ⟨⟨_, Nat.le_refl _, rfl, by simp [go_sem]⟩, (Below.refl _ w).alloc (Nat.le_refl _) _⟩
set_option maxRecDepth 100000 in
theorem ofAll_any (fu : Fn) (xs ys : Array Value) (w : World) : Calls Tryz.prog 102 #[.func fu xs ys] w fun e w' => (∃ b, w.heap.size ≤ b ∧ e = .returned (.func (.func 180) #[] #[.pointer (some ⟨b, 0, none⟩)]) ∧ w'.cell? ⟨b, 0, none⟩ = some (.func fu xs ys)) ∧ Below w.heap.size w w' := by
  have hmf : ∀ (fn : Fn) (first cap : Array Value) (w : World), (Instr.makeFunc fn first cap).run Tryz.prog w = .ok (.func fn first cap) w := fun _ _ _ _ => rfl
  go_enter Tryz.func102, Tryz.ntmps102
  go_wp2_with fail
  go_ret
  exact ⟨⟨_, Nat.le_refl _, rfl, by simp [go_sem]⟩, (Below.refl _ w).alloc (Nat.le_refl _) _⟩
set_option maxRecDepth 100000 in
theorem pushD_any (l : Bool) (w : World) : Calls Tryz.prog 86 #[.bool l] w fun e w' => (∃ b c, w.heap.size ≤ b ∧ w.heap.size ≤ c ∧ e = .returned (.func (.func 162) #[] #[.pointer (some ⟨b, 0, none⟩)]) ∧ w'.cell? ⟨b, 0, none⟩ = some (.func (.func 165) #[] #[.pointer (some ⟨c, 0, none⟩)]) ∧ w'.cell? ⟨c, 0, none⟩ = some (.bool l)) ∧ Below w.heap.size w w' := by
  have hmf : ∀ (fn : Fn) (first cap : Array Value) (w : World), (Instr.makeFunc fn first cap).run Tryz.prog w = .ok (.func fn first cap) w := fun _ _ _ _ => rfl
  have HC := hide changes_any
  go_enter Tryz.func86, Tryz.ntmps86
  go_wp2_with fail
  refine (HC.out _ _ _ _).mono ?_
  rintro e w1 ⟨⟨b, hlb, rfl, hc⟩, hb⟩
  have c1 : w1.cell? ⟨w.heap.size, 0, none⟩ = some (.bool l) := (hb.cell (p := ⟨w.heap.size, 0, none⟩) (by simp)).trans (by simp [go_sem])
  have B1 : Below w.heap.size w w1 := ((Below.refl _ w).alloc (Nat.le_refl _) _).trans (hb.mono (by simp))
  have HCC := hide (And.intro hc c1)
  have HLB := hide hlb
  clear hc c1 hlb
  go_wp2_with fail
  go_ret
  exact ⟨⟨b, _, Nat.le_trans (by simp) HLB.out, Nat.le_refl _, rfl, HCC.out.1, HCC.out.2⟩, B1⟩
set_option maxRecDepth 100000 in
theorem popD_any (l : Bool) (w : World) : Calls Tryz.prog 87 #[.bool l] w fun e w' => (∃ b c, w.heap.size ≤ b ∧ w.heap.size ≤ c ∧ e = .returned (.func (.func 162) #[] #[.pointer (some ⟨b, 0, none⟩)]) ∧ w'.cell? ⟨b, 0, none⟩ = some (.func (.func 167) #[] #[.pointer (some ⟨c, 0, none⟩)]) ∧ w'.cell? ⟨c, 0, none⟩ = some (.bool l)) ∧ Below w.heap.size w w' := by
  have hmf : ∀ (fn : Fn) (first cap : Array Value) (w : World), (Instr.makeFunc fn first cap).run Tryz.prog w = .ok (.func fn first cap) w := fun _ _ _ _ => rfl
  have HC := hide changes_any
  go_enter Tryz.func87, Tryz.ntmps87
  go_wp2_with fail
  refine (HC.out _ _ _ _).mono ?_
  rintro e w1 ⟨⟨b, hlb, rfl, hc⟩, hb⟩
  have c1 : w1.cell? ⟨w.heap.size, 0, none⟩ = some (.bool l) := (hb.cell (p := ⟨w.heap.size, 0, none⟩) (by simp)).trans (by simp [go_sem])
  have B1 : Below w.heap.size w w1 := ((Below.refl _ w).alloc (Nat.le_refl _) _).trans (hb.mono (by simp))
  have HCC := hide (And.intro hc c1)
  have HLB := hide hlb
  clear hc c1 hlb
  go_wp2_with fail
  go_ret
  exact ⟨⟨b, _, Nat.le_trans (by simp) HLB.out, Nat.le_refl _, rfl, HCC.out.1, HCC.out.2⟩, B1⟩
set_option maxRecDepth 100000 in
set_option maxHeartbeats 4000000 in
theorem ofKeys_any (w : World) : Calls Tryz.prog 32 #[] w fun e w' => (∃ g r, e = .returned (.slice (some ⟨g, 0, none⟩) 8 8) ∧ w'.heap[g]? = some (.cells (List.toArray r) 48 (0, 0)) ∧ RowC w.heap.size w' cmdsKeys r) ∧ Below w.heap.size w w' := by
  have HR := hide reads_any
  have HC := hide changes_any
  have HA := hide ofAll_any
  have HPU := hide pushD_any
  have HPO := hide popD_any
  clear HC
  clear HA
  clear HPU
  clear HPO
  go_enter Tryz.func32, Tryz.ntmps32
  go_wp2_with fail
  refine (HR.out _ _ _ _).mono ?_
  rintro e w4 ⟨⟨b3, lb3, rfl, c3⟩, bb3⟩
  have C3 := hide c3
  have LB3 := hide lb3
  clear c3 lb3
  go_wp2_with fail
  obtain ⟨V, hV⟩ : ∃ V, w4.alloc (.cells #[.string ⟨#[112, 105, 110, 103]⟩, .string ⟨#[]⟩, .string ⟨#[]⟩, .func (.func 56) #[] #[], .string ⟨#[100, 101, 108]⟩, .string ⟨#[]⟩, .string ⟨#[107]⟩, .func (.func 58) #[] #[], .string ⟨#[101, 120, 105, 115, 116, 115]⟩, .string ⟨#[]⟩, .string ⟨#[107]⟩, .func (.func 59) #[] #[], .string ⟨#[116, 121, 112, 101]⟩, .string ⟨#[107]⟩, .string ⟨#[]⟩, .func (.func 151) #[] #[.pointer (some ⟨b3, 0, none⟩)], .string ⟨#[107, 101, 121, 115]⟩, .string ⟨#[112]⟩, .string ⟨#[]⟩, .func (.func 63) #[] #[], .string ⟨#[101, 120, 112, 105, 114, 101]⟩, .string ⟨#[107, 110]⟩, .string ⟨#[]⟩, .func (.func 66) #[] #[], .string ⟨#[116, 116, 108]⟩, .string ⟨#[107]⟩, .string ⟨#[]⟩, .func (.func 67) #[] #[], .string ⟨#[112, 101, 114, 115, 105, 115, 116]⟩, .string ⟨#[107]⟩, .string ⟨#[]⟩, .func (.func 68) #[] #[]] 48) = V := ⟨_, rfl⟩
  have BA : Below w4.heap.size w4 V := hV ▸ (Below.refl _ w4).alloc (Nat.le_refl _) _
  have HV : V.heap[w4.heap.size]? = some (.cells #[.string ⟨#[112, 105, 110, 103]⟩, .string ⟨#[]⟩, .string ⟨#[]⟩, .func (.func 56) #[] #[], .string ⟨#[100, 101, 108]⟩, .string ⟨#[]⟩, .string ⟨#[107]⟩, .func (.func 58) #[] #[], .string ⟨#[101, 120, 105, 115, 116, 115]⟩, .string ⟨#[]⟩, .string ⟨#[107]⟩, .func (.func 59) #[] #[], .string ⟨#[116, 121, 112, 101]⟩, .string ⟨#[107]⟩, .string ⟨#[]⟩, .func (.func 151) #[] #[.pointer (some ⟨b3, 0, none⟩)], .string ⟨#[107, 101, 121, 115]⟩, .string ⟨#[112]⟩, .string ⟨#[]⟩, .func (.func 63) #[] #[], .string ⟨#[101, 120, 112, 105, 114, 101]⟩, .string ⟨#[107, 110]⟩, .string ⟨#[]⟩, .func (.func 66) #[] #[], .string ⟨#[116, 116, 108]⟩, .string ⟨#[107]⟩, .string ⟨#[]⟩, .func (.func 67) #[] #[], .string ⟨#[112, 101, 114, 115, 105, 115, 116]⟩, .string ⟨#[107]⟩, .string ⟨#[]⟩, .func (.func 68) #[] #[]] 48 (0, 0)) := by rw [← hV]; show (w4.heap.push _)[w4.heap.size]? = _; simp
  rw [hV]
  clear hV
  have HVV := hide HV
  clear HV
  refine bodyPost_ret (v := .slice (some ⟨w4.heap.size, 0, none⟩) 8 8) (by simp [results, Tryz.results32, go_sem]) rfl ⟨⟨w4.heap.size, _, rfl, HVV.out, ⟨_, _, rfl, ⟨rfl, rfl⟩, ⟨_, _, rfl, ⟨rfl, rfl⟩, ⟨_, _, rfl, ⟨rfl, rfl⟩, ⟨_, _, rfl, ⟨DedAt.below (d := .cap 151 61) (B := w.heap.size) ⟨b3, Nat.le_trans (Nat.le_refl _) LB3.out, rfl, C3.out⟩ BA (Nat.le_refl _), rfl⟩, ⟨_, _, rfl, ⟨rfl, rfl⟩, ⟨_, _, rfl, ⟨rfl, rfl⟩, ⟨_, _, rfl, ⟨rfl, rfl⟩, ⟨_, _, rfl, ⟨rfl, rfl⟩, rfl⟩⟩⟩⟩⟩⟩⟩⟩⟩, (btE bb3 BA)⟩
set_option maxRecDepth 100000 in
set_option maxHeartbeats 4000000 in
theorem ofTexts_any (w : World) : Calls Tryz.prog 33 #[] w fun e w' => (∃ g r, e = .returned (.slice (some ⟨g, 0, none⟩) 6 6) ∧ w'.heap[g]? = some (.cells (List.toArray r) 48 (0, 0)) ∧ RowC w.heap.size w' cmdsTexts r) ∧ Below w.heap.size w w' := by
  have HR := hide reads_any
  have HC := hide changes_any
  have HA := hide ofAll_any
  have HPU := hide pushD_any
  have HPO := hide popD_any
  clear HA
  clear HPU
  clear HPO
  go_enter Tryz.func33, Tryz.ntmps33
  go_wp2_with fail
  refine (HR.out _ _ _ _).mono ?_
  rintro e w1 ⟨⟨b0, lb0, rfl, c0⟩, bb0⟩
  have C0 := hide c0
  have LB0 := hide lb0
  clear c0 lb0
  go_wp2_with fail
  refine (HC.out _ _ _ _).mono ?_
  rintro e w3 ⟨⟨b2, lb2, rfl, c2⟩, bb2⟩
  have C2 := hide c2
  have LB2 := hide lb2
  clear c2 lb2
  go_wp2_with fail
  refine (HR.out _ _ _ _).mono ?_
  rintro e w4 ⟨⟨b3, lb3, rfl, c3⟩, bb3⟩
  have C3 := hide c3
  have LB3 := hide lb3
  clear c3 lb3
  go_wp2_with fail
  refine (HC.out _ _ _ _).mono ?_
  rintro e w5 ⟨⟨b4, lb4, rfl, c4⟩, bb4⟩
  have C4 := hide c4
  have LB4 := hide lb4
  clear c4 lb4
  go_wp2_with fail
  refine (HR.out _ _ _ _).mono ?_
  rintro e w6 ⟨⟨b5, lb5, rfl, c5⟩, bb5⟩
  have C5 := hide c5
  have LB5 := hide lb5
  clear c5 lb5
  go_wp2_with fail
  obtain ⟨V, hV⟩ : ∃ V, w6.alloc (.cells #[.string ⟨#[103, 101, 116]⟩, .string ⟨#[107]⟩, .string ⟨#[]⟩, .func (.func 151) #[] #[.pointer (some ⟨b0, 0, none⟩)], .string ⟨#[115, 101, 116]⟩, .string ⟨#[107, 118]⟩, .string ⟨#[]⟩, .func (.func 72) #[] #[], .string ⟨#[97, 112, 112, 101, 110, 100]⟩, .string ⟨#[107, 118]⟩, .string ⟨#[]⟩, .func (.func 162) #[] #[.pointer (some ⟨b2, 0, none⟩)], .string ⟨#[115, 116, 114, 108, 101, 110]⟩, .string ⟨#[107]⟩, .string ⟨#[]⟩, .func (.func 151) #[] #[.pointer (some ⟨b3, 0, none⟩)], .string ⟨#[105, 110, 99, 114, 98, 121]⟩, .string ⟨#[107, 110]⟩, .string ⟨#[]⟩, .func (.func 162) #[] #[.pointer (some ⟨b4, 0, none⟩)], .string ⟨#[103, 101, 116, 114, 97, 110, 103, 101]⟩, .string ⟨#[107, 110, 110]⟩, .string ⟨#[]⟩, .func (.func 151) #[] #[.pointer (some ⟨b5, 0, none⟩)]] 48) = V := ⟨_, rfl⟩
  have BA : Below w6.heap.size w6 V := hV ▸ (Below.refl _ w6).alloc (Nat.le_refl _) _
  have HV : V.heap[w6.heap.size]? = some (.cells #[.string ⟨#[103, 101, 116]⟩, .string ⟨#[107]⟩, .string ⟨#[]⟩, .func (.func 151) #[] #[.pointer (some ⟨b0, 0, none⟩)], .string ⟨#[115, 101, 116]⟩, .string ⟨#[107, 118]⟩, .string ⟨#[]⟩, .func (.func 72) #[] #[], .string ⟨#[97, 112, 112, 101, 110, 100]⟩, .string ⟨#[107, 118]⟩, .string ⟨#[]⟩, .func (.func 162) #[] #[.pointer (some ⟨b2, 0, none⟩)], .string ⟨#[115, 116, 114, 108, 101, 110]⟩, .string ⟨#[107]⟩, .string ⟨#[]⟩, .func (.func 151) #[] #[.pointer (some ⟨b3, 0, none⟩)], .string ⟨#[105, 110, 99, 114, 98, 121]⟩, .string ⟨#[107, 110]⟩, .string ⟨#[]⟩, .func (.func 162) #[] #[.pointer (some ⟨b4, 0, none⟩)], .string ⟨#[103, 101, 116, 114, 97, 110, 103, 101]⟩, .string ⟨#[107, 110, 110]⟩, .string ⟨#[]⟩, .func (.func 151) #[] #[.pointer (some ⟨b5, 0, none⟩)]] 48 (0, 0)) := by rw [← hV]; show (w6.heap.push _)[w6.heap.size]? = _; simp
  rw [hV]
  clear hV
  have HVV := hide HV
  clear HV
  refine bodyPost_ret (v := .slice (some ⟨w6.heap.size, 0, none⟩) 6 6) (by simp [results, Tryz.results33, go_sem]) rfl ⟨⟨w6.heap.size, _, rfl, HVV.out, ⟨_, _, rfl, ⟨DedAt.below (d := .cap 151 69) (B := w.heap.size) ⟨b0, Nat.le_trans (Nat.le_refl _) LB0.out, rfl, C0.out⟩ (btE (btE (btE (btE bb2 bb3) bb4) bb5) BA) (Nat.le_refl _), rfl⟩, ⟨_, _, rfl, ⟨rfl, rfl⟩, ⟨_, _, rfl, ⟨DedAt.below (d := .cap 162 75) (B := w.heap.size) ⟨b2, Nat.le_trans bb0.size LB2.out, rfl, C2.out⟩ (btE (btE (btE bb3 bb4) bb5) BA) (Nat.le_refl _), rfl⟩, ⟨_, _, rfl, ⟨DedAt.below (d := .cap 151 78) (B := w.heap.size) ⟨b3, Nat.le_trans (btE bb0 bb2).size LB3.out, rfl, C3.out⟩ (btE (btE bb4 bb5) BA) (Nat.le_refl _), rfl⟩, ⟨_, _, rfl, ⟨DedAt.below (d := .cap 162 81) (B := w.heap.size) ⟨b4, Nat.le_trans (btE (btE bb0 bb2) bb3).size LB4.out, rfl, C4.out⟩ (btE bb5 BA) (Nat.le_refl _), rfl⟩, ⟨_, _, rfl, ⟨DedAt.below (d := .cap 151 84) (B := w.heap.size) ⟨b5, Nat.le_trans (btE (btE (btE bb0 bb2) bb3) bb4).size LB5.out, rfl, C5.out⟩ BA (Nat.le_refl _), rfl⟩, rfl⟩⟩⟩⟩⟩⟩⟩, (btE (btE (btE (btE (btE bb0 bb2) bb3) bb4) bb5) BA)⟩
set_option maxRecDepth 100000 in
set_option maxHeartbeats 4000000 in
theorem ofLists_any (w : World) : Calls Tryz.prog 34 #[] w fun e w' => (∃ g r, e = .returned (.slice (some ⟨g, 0, none⟩) 7 7) ∧ w'.heap[g]? = some (.cells (List.toArray r) 48 (0, 0)) ∧ RowC w.heap.size w' cmdsLists r) ∧ Below w.heap.size w w' := by
  have HR := hide reads_any
  have HC := hide changes_any
  have HA := hide ofAll_any
  have HPU := hide pushD_any
  have HPO := hide popD_any
  clear HA
  go_enter Tryz.func34, Tryz.ntmps34
  go_wp2_with fail
  refine (HPU.out _ _).mono ?_
  rintro e w1 ⟨⟨b0, d0, lb0, ld0, rfl, c0⟩, bb0⟩
  have C0 := hide c0
  have LB0 := hide (And.intro lb0 ld0)
  clear c0 lb0 ld0
  go_wp2_with fail
  refine (HPU.out _ _).mono ?_
  rintro e w2 ⟨⟨b1, d1, lb1, ld1, rfl, c1⟩, bb1⟩
  have C1 := hide c1
  have LB1 := hide (And.intro lb1 ld1)
  clear c1 lb1 ld1
  go_wp2_with fail
  refine (HPO.out _ _).mono ?_
  rintro e w3 ⟨⟨b2, d2, lb2, ld2, rfl, c2⟩, bb2⟩
  have C2 := hide c2
  have LB2 := hide (And.intro lb2 ld2)
  clear c2 lb2 ld2
  go_wp2_with fail
  refine (HPO.out _ _).mono ?_
  rintro e w4 ⟨⟨b3, d3, lb3, ld3, rfl, c3⟩, bb3⟩
  have C3 := hide c3
  have LB3 := hide (And.intro lb3 ld3)
  clear c3 lb3 ld3
  go_wp2_with fail
  refine (HR.out _ _ _ _).mono ?_
  rintro e w5 ⟨⟨b4, lb4, rfl, c4⟩, bb4⟩
  have C4 := hide c4
  have LB4 := hide lb4
  clear c4 lb4
  go_wp2_with fail
  refine (HC.out _ _ _ _).mono ?_
  rintro e w6 ⟨⟨b5, lb5, rfl, c5⟩, bb5⟩
  have C5 := hide c5
  have LB5 := hide lb5
  clear c5 lb5
  go_wp2_with fail
  refine (HC.out _ _ _ _).mono ?_
  rintro e w7 ⟨⟨b6, lb6, rfl, c6⟩, bb6⟩
  have C6 := hide c6
  have LB6 := hide lb6
  clear c6 lb6
  go_wp2_with fail
  obtain ⟨V, hV⟩ : ∃ V, w7.alloc (.cells #[.string ⟨#[108, 112, 117, 115, 104]⟩, .string ⟨#[107]⟩, .string ⟨#[118]⟩, .func (.func 162) #[] #[.pointer (some ⟨b0, 0, none⟩)], .string ⟨#[114, 112, 117, 115, 104]⟩, .string ⟨#[107]⟩, .string ⟨#[118]⟩, .func (.func 162) #[] #[.pointer (some ⟨b1, 0, none⟩)], .string ⟨#[108, 112, 111, 112]⟩, .string ⟨#[107]⟩, .string ⟨#[]⟩, .func (.func 162) #[] #[.pointer (some ⟨b2, 0, none⟩)], .string ⟨#[114, 112, 111, 112]⟩, .string ⟨#[107]⟩, .string ⟨#[]⟩, .func (.func 162) #[] #[.pointer (some ⟨b3, 0, none⟩)], .string ⟨#[108, 114, 97, 110, 103, 101]⟩, .string ⟨#[107, 110, 110]⟩, .string ⟨#[]⟩, .func (.func 151) #[] #[.pointer (some ⟨b4, 0, none⟩)], .string ⟨#[108, 116, 114, 105, 109]⟩, .string ⟨#[107, 110, 110]⟩, .string ⟨#[]⟩, .func (.func 162) #[] #[.pointer (some ⟨b5, 0, none⟩)], .string ⟨#[108, 114, 101, 109]⟩, .string ⟨#[107, 118]⟩, .string ⟨#[]⟩, .func (.func 162) #[] #[.pointer (some ⟨b6, 0, none⟩)]] 48) = V := ⟨_, rfl⟩
  have BA : Below w7.heap.size w7 V := hV ▸ (Below.refl _ w7).alloc (Nat.le_refl _) _
  have HV : V.heap[w7.heap.size]? = some (.cells #[.string ⟨#[108, 112, 117, 115, 104]⟩, .string ⟨#[107]⟩, .string ⟨#[118]⟩, .func (.func 162) #[] #[.pointer (some ⟨b0, 0, none⟩)], .string ⟨#[114, 112, 117, 115, 104]⟩, .string ⟨#[107]⟩, .string ⟨#[118]⟩, .func (.func 162) #[] #[.pointer (some ⟨b1, 0, none⟩)], .string ⟨#[108, 112, 111, 112]⟩, .string ⟨#[107]⟩, .string ⟨#[]⟩, .func (.func 162) #[] #[.pointer (some ⟨b2, 0, none⟩)], .string ⟨#[114, 112, 111, 112]⟩, .string ⟨#[107]⟩, .string ⟨#[]⟩, .func (.func 162) #[] #[.pointer (some ⟨b3, 0, none⟩)], .string ⟨#[108, 114, 97, 110, 103, 101]⟩, .string ⟨#[107, 110, 110]⟩, .string ⟨#[]⟩, .func (.func 151) #[] #[.pointer (some ⟨b4, 0, none⟩)], .string ⟨#[108, 116, 114, 105, 109]⟩, .string ⟨#[107, 110, 110]⟩, .string ⟨#[]⟩, .func (.func 162) #[] #[.pointer (some ⟨b5, 0, none⟩)], .string ⟨#[108, 114, 101, 109]⟩, .string ⟨#[107, 118]⟩, .string ⟨#[]⟩, .func (.func 162) #[] #[.pointer (some ⟨b6, 0, none⟩)]] 48 (0, 0)) := by rw [← hV]; show (w7.heap.push _)[w7.heap.size]? = _; simp
  rw [hV]
  clear hV
  have HVV := hide HV
  clear HV
  refine bodyPost_ret (v := .slice (some ⟨w7.heap.size, 0, none⟩) 7 7) (by simp [results, Tryz.results34, go_sem]) rfl ⟨⟨w7.heap.size, _, rfl, HVV.out, ⟨_, _, rfl, ⟨DedAt.below (d := .two 162 165 true) (B := w.heap.size) ⟨b0, d0, Nat.le_trans (Nat.le_refl _) LB0.out.1, Nat.le_trans (Nat.le_refl _) LB0.out.2, rfl, C0.out.1, C0.out.2⟩ (btE (btE (btE (btE (btE (btE bb1 bb2) bb3) bb4) bb5) bb6) BA) (Nat.le_refl _), rfl⟩, ⟨_, _, rfl, ⟨DedAt.below (d := .two 162 165 false) (B := w.heap.size) ⟨b1, d1, Nat.le_trans bb0.size LB1.out.1, Nat.le_trans bb0.size LB1.out.2, rfl, C1.out.1, C1.out.2⟩ (btE (btE (btE (btE (btE bb2 bb3) bb4) bb5) bb6) BA) (Nat.le_refl _), rfl⟩, ⟨_, _, rfl, ⟨DedAt.below (d := .two 162 167 true) (B := w.heap.size) ⟨b2, d2, Nat.le_trans (btE bb0 bb1).size LB2.out.1, Nat.le_trans (btE bb0 bb1).size LB2.out.2, rfl, C2.out.1, C2.out.2⟩ (btE (btE (btE (btE bb3 bb4) bb5) bb6) BA) (Nat.le_refl _), rfl⟩, ⟨_, _, rfl, ⟨DedAt.below (d := .two 162 167 false) (B := w.heap.size) ⟨b3, d3, Nat.le_trans (btE (btE bb0 bb1) bb2).size LB3.out.1, Nat.le_trans (btE (btE bb0 bb1) bb2).size LB3.out.2, rfl, C3.out.1, C3.out.2⟩ (btE (btE (btE bb4 bb5) bb6) BA) (Nat.le_refl _), rfl⟩, ⟨_, _, rfl, ⟨DedAt.below (d := .cap 151 88) (B := w.heap.size) ⟨b4, Nat.le_trans (btE (btE (btE bb0 bb1) bb2) bb3).size LB4.out, rfl, C4.out⟩ (btE (btE bb5 bb6) BA) (Nat.le_refl _), rfl⟩, ⟨_, _, rfl, ⟨DedAt.below (d := .cap 162 90) (B := w.heap.size) ⟨b5, Nat.le_trans (btE (btE (btE (btE bb0 bb1) bb2) bb3) bb4).size LB5.out, rfl, C5.out⟩ (btE bb6 BA) (Nat.le_refl _), rfl⟩, ⟨_, _, rfl, ⟨DedAt.below (d := .cap 162 93) (B := w.heap.size) ⟨b6, Nat.le_trans (btE (btE (btE (btE (btE bb0 bb1) bb2) bb3) bb4) bb5).size LB6.out, rfl, C6.out⟩ BA (Nat.le_refl _), rfl⟩, rfl⟩⟩⟩⟩⟩⟩⟩⟩, (btE (btE (btE (btE (btE (btE (btE bb0 bb1) bb2) bb3) bb4) bb5) bb6) BA)⟩
set_option maxRecDepth 100000 in
set_option maxHeartbeats 4000000 in
theorem ofSets_any (w : World) : Calls Tryz.prog 35 #[] w fun e w' => (∃ g r, e = .returned (.slice (some ⟨g, 0, none⟩) 7 7) ∧ w'.heap[g]? = some (.cells (List.toArray r) 48 (0, 0)) ∧ RowC w.heap.size w' cmdsSets r) ∧ Below w.heap.size w w' := by
  have HR := hide reads_any
  have HC := hide changes_any
  have HA := hide ofAll_any
  have HPU := hide pushD_any
  have HPO := hide popD_any
  clear HPU
  clear HPO
  go_enter Tryz.func35, Tryz.ntmps35
  go_wp2_with fail
  refine (HC.out _ _ _ _).mono ?_
  rintro e w1 ⟨⟨b0, lb0, rfl, c0⟩, bb0⟩
  have C0 := hide c0
  have LB0 := hide lb0
  clear c0 lb0
  go_wp2_with fail
  refine (HC.out _ _ _ _).mono ?_
  rintro e w2 ⟨⟨b1, lb1, rfl, c1⟩, bb1⟩
  have C1 := hide c1
  have LB1 := hide lb1
  clear c1 lb1
  go_wp2_with fail
  refine (HR.out _ _ _ _).mono ?_
  rintro e w3 ⟨⟨b2, lb2, rfl, c2⟩, bb2⟩
  have C2 := hide c2
  have LB2 := hide lb2
  clear c2 lb2
  go_wp2_with fail
  refine (HA.out _ _ _ _).mono ?_
  rintro e w4 ⟨⟨b3, lb3, rfl, c3⟩, bb3⟩
  have C3 := hide c3
  have LB3 := hide lb3
  clear c3 lb3
  go_wp2_with fail
  refine (HA.out _ _ _ _).mono ?_
  rintro e w5 ⟨⟨b4, lb4, rfl, c4⟩, bb4⟩
  have C4 := hide c4
  have LB4 := hide lb4
  clear c4 lb4
  go_wp2_with fail
  refine (HA.out _ _ _ _).mono ?_
  rintro e w6 ⟨⟨b5, lb5, rfl, c5⟩, bb5⟩
  have C5 := hide c5
  have LB5 := hide lb5
  clear c5 lb5
  go_wp2_with fail
  refine (HA.out _ _ _ _).mono ?_
  rintro e w7 ⟨⟨b6, lb6, rfl, c6⟩, bb6⟩
  have C6 := hide c6
  have LB6 := hide lb6
  clear c6 lb6
  go_wp2_with fail
  obtain ⟨V, hV⟩ : ∃ V, w7.alloc (.cells #[.string ⟨#[115, 97, 100, 100]⟩, .string ⟨#[107]⟩, .string ⟨#[118]⟩, .func (.func 162) #[] #[.pointer (some ⟨b0, 0, none⟩)], .string ⟨#[115, 114, 101, 109]⟩, .string ⟨#[107]⟩, .string ⟨#[118]⟩, .func (.func 162) #[] #[.pointer (some ⟨b1, 0, none⟩)], .string ⟨#[115, 105, 115, 109, 101, 109, 98, 101, 114]⟩, .string ⟨#[107, 118]⟩, .string ⟨#[]⟩, .func (.func 151) #[] #[.pointer (some ⟨b2, 0, none⟩)], .string ⟨#[115, 109, 101, 109, 98, 101, 114, 115]⟩, .string ⟨#[107]⟩, .string ⟨#[]⟩, .func (.func 180) #[] #[.pointer (some ⟨b3, 0, none⟩)], .string ⟨#[115, 105, 110, 116, 101, 114]⟩, .string ⟨#[]⟩, .string ⟨#[107]⟩, .func (.func 180) #[] #[.pointer (some ⟨b4, 0, none⟩)], .string ⟨#[115, 117, 110, 105, 111, 110]⟩, .string ⟨#[]⟩, .string ⟨#[107]⟩, .func (.func 180) #[] #[.pointer (some ⟨b5, 0, none⟩)], .string ⟨#[115, 100, 105, 102, 102]⟩, .string ⟨#[]⟩, .string ⟨#[107]⟩, .func (.func 180) #[] #[.pointer (some ⟨b6, 0, none⟩)]] 48) = V := ⟨_, rfl⟩
  have BA : Below w7.heap.size w7 V := hV ▸ (Below.refl _ w7).alloc (Nat.le_refl _) _
  have HV : V.heap[w7.heap.size]? = some (.cells #[.string ⟨#[115, 97, 100, 100]⟩, .string ⟨#[107]⟩, .string ⟨#[118]⟩, .func (.func 162) #[] #[.pointer (some ⟨b0, 0, none⟩)], .string ⟨#[115, 114, 101, 109]⟩, .string ⟨#[107]⟩, .string ⟨#[118]⟩, .func (.func 162) #[] #[.pointer (some ⟨b1, 0, none⟩)], .string ⟨#[115, 105, 115, 109, 101, 109, 98, 101, 114]⟩, .string ⟨#[107, 118]⟩, .string ⟨#[]⟩, .func (.func 151) #[] #[.pointer (some ⟨b2, 0, none⟩)], .string ⟨#[115, 109, 101, 109, 98, 101, 114, 115]⟩, .string ⟨#[107]⟩, .string ⟨#[]⟩, .func (.func 180) #[] #[.pointer (some ⟨b3, 0, none⟩)], .string ⟨#[115, 105, 110, 116, 101, 114]⟩, .string ⟨#[]⟩, .string ⟨#[107]⟩, .func (.func 180) #[] #[.pointer (some ⟨b4, 0, none⟩)], .string ⟨#[115, 117, 110, 105, 111, 110]⟩, .string ⟨#[]⟩, .string ⟨#[107]⟩, .func (.func 180) #[] #[.pointer (some ⟨b5, 0, none⟩)], .string ⟨#[115, 100, 105, 102, 102]⟩, .string ⟨#[]⟩, .string ⟨#[107]⟩, .func (.func 180) #[] #[.pointer (some ⟨b6, 0, none⟩)]] 48 (0, 0)) := by rw [← hV]; show (w7.heap.push _)[w7.heap.size]? = _; simp
  rw [hV]
  clear hV
  have HVV := hide HV
  clear HV
  refine bodyPost_ret (v := .slice (some ⟨w7.heap.size, 0, none⟩) 7 7) (by simp [results, Tryz.results35, go_sem]) rfl ⟨⟨w7.heap.size, _, rfl, HVV.out, ⟨_, _, rfl, ⟨DedAt.below (d := .cap 162 95) (B := w.heap.size) ⟨b0, Nat.le_trans (Nat.le_refl _) LB0.out, rfl, C0.out⟩ (btE (btE (btE (btE (btE (btE bb1 bb2) bb3) bb4) bb5) bb6) BA) (Nat.le_refl _), rfl⟩, ⟨_, _, rfl, ⟨DedAt.below (d := .cap 162 97) (B := w.heap.size) ⟨b1, Nat.le_trans bb0.size LB1.out, rfl, C1.out⟩ (btE (btE (btE (btE (btE bb2 bb3) bb4) bb5) bb6) BA) (Nat.le_refl _), rfl⟩, ⟨_, _, rfl, ⟨DedAt.below (d := .cap 151 99) (B := w.heap.size) ⟨b2, Nat.le_trans (btE bb0 bb1).size LB2.out, rfl, C2.out⟩ (btE (btE (btE (btE bb3 bb4) bb5) bb6) BA) (Nat.le_refl _), rfl⟩, ⟨_, _, rfl, ⟨DedAt.below (d := .cap 180 103) (B := w.heap.size) ⟨b3, Nat.le_trans (btE (btE bb0 bb1) bb2).size LB3.out, rfl, C3.out⟩ (btE (btE (btE bb4 bb5) bb6) BA) (Nat.le_refl _), rfl⟩, ⟨_, _, rfl, ⟨DedAt.below (d := .cap 180 104) (B := w.heap.size) ⟨b4, Nat.le_trans (btE (btE (btE bb0 bb1) bb2) bb3).size LB4.out, rfl, C4.out⟩ (btE (btE bb5 bb6) BA) (Nat.le_refl _), rfl⟩, ⟨_, _, rfl, ⟨DedAt.below (d := .cap 180 103) (B := w.heap.size) ⟨b5, Nat.le_trans (btE (btE (btE (btE bb0 bb1) bb2) bb3) bb4).size LB5.out, rfl, C5.out⟩ (btE bb6 BA) (Nat.le_refl _), rfl⟩, ⟨_, _, rfl, ⟨DedAt.below (d := .cap 180 105) (B := w.heap.size) ⟨b6, Nat.le_trans (btE (btE (btE (btE (btE bb0 bb1) bb2) bb3) bb4) bb5).size LB6.out, rfl, C6.out⟩ BA (Nat.le_refl _), rfl⟩, rfl⟩⟩⟩⟩⟩⟩⟩⟩, (btE (btE (btE (btE (btE (btE (btE bb0 bb1) bb2) bb3) bb4) bb5) bb6) BA)⟩
set_option maxRecDepth 100000 in
set_option maxHeartbeats 4000000 in
theorem ofHashes_any (w : World) : Calls Tryz.prog 36 #[] w fun e w' => (∃ g r, e = .returned (.slice (some ⟨g, 0, none⟩) 4 4) ∧ w'.heap[g]? = some (.cells (List.toArray r) 48 (0, 0)) ∧ RowC w.heap.size w' cmdsHashes r) ∧ Below w.heap.size w w' := by
  have HR := hide reads_any
  have HC := hide changes_any
  have HA := hide ofAll_any
  have HPU := hide pushD_any
  have HPO := hide popD_any
  clear HA
  clear HPU
  clear HPO
  go_enter Tryz.func36, Tryz.ntmps36
  go_wp2_with fail
  refine (HC.out _ _ _ _).mono ?_
  rintro e w1 ⟨⟨b0, lb0, rfl, c0⟩, bb0⟩
  have C0 := hide c0
  have LB0 := hide lb0
  clear c0 lb0
  go_wp2_with fail
  refine (HR.out _ _ _ _).mono ?_
  rintro e w2 ⟨⟨b1, lb1, rfl, c1⟩, bb1⟩
  have C1 := hide c1
  have LB1 := hide lb1
  clear c1 lb1
  go_wp2_with fail
  refine (HC.out _ _ _ _).mono ?_
  rintro e w3 ⟨⟨b2, lb2, rfl, c2⟩, bb2⟩
  have C2 := hide c2
  have LB2 := hide lb2
  clear c2 lb2
  go_wp2_with fail
  refine (HR.out _ _ _ _).mono ?_
  rintro e w4 ⟨⟨b3, lb3, rfl, c3⟩, bb3⟩
  have C3 := hide c3
  have LB3 := hide lb3
  clear c3 lb3
  go_wp2_with fail
  obtain ⟨V, hV⟩ : ∃ V, w4.alloc (.cells #[.string ⟨#[104, 115, 101, 116]⟩, .string ⟨#[107]⟩, .string ⟨#[102, 118]⟩, .func (.func 162) #[] #[.pointer (some ⟨b0, 0, none⟩)], .string ⟨#[104, 103, 101, 116]⟩, .string ⟨#[107, 102]⟩, .string ⟨#[]⟩, .func (.func 151) #[] #[.pointer (some ⟨b1, 0, none⟩)], .string ⟨#[104, 100, 101, 108]⟩, .string ⟨#[107]⟩, .string ⟨#[102]⟩, .func (.func 162) #[] #[.pointer (some ⟨b2, 0, none⟩)], .string ⟨#[104, 103, 101, 116, 97, 108, 108]⟩, .string ⟨#[107]⟩, .string ⟨#[]⟩, .func (.func 151) #[] #[.pointer (some ⟨b3, 0, none⟩)]] 48) = V := ⟨_, rfl⟩
  have BA : Below w4.heap.size w4 V := hV ▸ (Below.refl _ w4).alloc (Nat.le_refl _) _
  have HV : V.heap[w4.heap.size]? = some (.cells #[.string ⟨#[104, 115, 101, 116]⟩, .string ⟨#[107]⟩, .string ⟨#[102, 118]⟩, .func (.func 162) #[] #[.pointer (some ⟨b0, 0, none⟩)], .string ⟨#[104, 103, 101, 116]⟩, .string ⟨#[107, 102]⟩, .string ⟨#[]⟩, .func (.func 151) #[] #[.pointer (some ⟨b1, 0, none⟩)], .string ⟨#[104, 100, 101, 108]⟩, .string ⟨#[107]⟩, .string ⟨#[102]⟩, .func (.func 162) #[] #[.pointer (some ⟨b2, 0, none⟩)], .string ⟨#[104, 103, 101, 116, 97, 108, 108]⟩, .string ⟨#[107]⟩, .string ⟨#[]⟩, .func (.func 151) #[] #[.pointer (some ⟨b3, 0, none⟩)]] 48 (0, 0)) := by rw [← hV]; show (w4.heap.push _)[w4.heap.size]? = _; simp
  rw [hV]
  clear hV
  have HVV := hide HV
  clear HV
  refine bodyPost_ret (v := .slice (some ⟨w4.heap.size, 0, none⟩) 4 4) (by simp [results, Tryz.results36, go_sem]) rfl ⟨⟨w4.heap.size, _, rfl, HVV.out, ⟨_, _, rfl, ⟨DedAt.below (d := .cap 162 106) (B := w.heap.size) ⟨b0, Nat.le_trans (Nat.le_refl _) LB0.out, rfl, C0.out⟩ (btE (btE (btE bb1 bb2) bb3) BA) (Nat.le_refl _), rfl⟩, ⟨_, _, rfl, ⟨DedAt.below (d := .cap 151 109) (B := w.heap.size) ⟨b1, Nat.le_trans bb0.size LB1.out, rfl, C1.out⟩ (btE (btE bb2 bb3) BA) (Nat.le_refl _), rfl⟩, ⟨_, _, rfl, ⟨DedAt.below (d := .cap 162 111) (B := w.heap.size) ⟨b2, Nat.le_trans (btE bb0 bb1).size LB2.out, rfl, C2.out⟩ (btE bb3 BA) (Nat.le_refl _), rfl⟩, ⟨_, _, rfl, ⟨DedAt.below (d := .cap 151 113) (B := w.heap.size) ⟨b3, Nat.le_trans (btE (btE bb0 bb1) bb2).size LB3.out, rfl, C3.out⟩ BA (Nat.le_refl _), rfl⟩, rfl⟩⟩⟩⟩⟩, (btE (btE (btE (btE bb0 bb1) bb2) bb3) BA)⟩
set_option maxRecDepth 100000 in
set_option maxHeartbeats 4000000 in
theorem ofScores_any (w : World) : Calls Tryz.prog 37 #[] w fun e w' => (∃ g r, e = .returned (.slice (some ⟨g, 0, none⟩) 6 6) ∧ w'.heap[g]? = some (.cells (List.toArray r) 48 (0, 0)) ∧ RowC w.heap.size w' cmdsScores r) ∧ Below w.heap.size w w' := by
  have HR := hide reads_any
  have HC := hide changes_any
  have HA := hide ofAll_any
  have HPU := hide pushD_any
  have HPO := hide popD_any
  clear HA
  clear HPU
  clear HPO
  go_enter Tryz.func37, Tryz.ntmps37
  go_wp2_with fail
  refine (HC.out _ _ _ _).mono ?_
  rintro e w1 ⟨⟨b0, lb0, rfl, c0⟩, bb0⟩
  have C0 := hide c0
  have LB0 := hide lb0
  clear c0 lb0
  go_wp2_with fail
  refine (HC.out _ _ _ _).mono ?_
  rintro e w2 ⟨⟨b1, lb1, rfl, c1⟩, bb1⟩
  have C1 := hide c1
  have LB1 := hide lb1
  clear c1 lb1
  go_wp2_with fail
  refine (HR.out _ _ _ _).mono ?_
  rintro e w3 ⟨⟨b2, lb2, rfl, c2⟩, bb2⟩
  have C2 := hide c2
  have LB2 := hide lb2
  clear c2 lb2
  go_wp2_with fail
  refine (HR.out _ _ _ _).mono ?_
  rintro e w4 ⟨⟨b3, lb3, rfl, c3⟩, bb3⟩
  have C3 := hide c3
  have LB3 := hide lb3
  clear c3 lb3
  go_wp2_with fail
  refine (HR.out _ _ _ _).mono ?_
  rintro e w5 ⟨⟨b4, lb4, rfl, c4⟩, bb4⟩
  have C4 := hide c4
  have LB4 := hide lb4
  clear c4 lb4
  go_wp2_with fail
  refine (HR.out _ _ _ _).mono ?_
  rintro e w6 ⟨⟨b5, lb5, rfl, c5⟩, bb5⟩
  have C5 := hide c5
  have LB5 := hide lb5
  clear c5 lb5
  go_wp2_with fail
  obtain ⟨V, hV⟩ : ∃ V, w6.alloc (.cells #[.string ⟨#[122, 97, 100, 100]⟩, .string ⟨#[107]⟩, .string ⟨#[110, 109]⟩, .func (.func 162) #[] #[.pointer (some ⟨b0, 0, none⟩)], .string ⟨#[122, 114, 101, 109]⟩, .string ⟨#[107]⟩, .string ⟨#[109]⟩, .func (.func 162) #[] #[.pointer (some ⟨b1, 0, none⟩)], .string ⟨#[122, 115, 99, 111, 114, 101]⟩, .string ⟨#[107, 109]⟩, .string ⟨#[]⟩, .func (.func 151) #[] #[.pointer (some ⟨b2, 0, none⟩)], .string ⟨#[122, 114, 97, 110, 107]⟩, .string ⟨#[107, 109]⟩, .string ⟨#[]⟩, .func (.func 151) #[] #[.pointer (some ⟨b3, 0, none⟩)], .string ⟨#[122, 114, 97, 110, 103, 101]⟩, .string ⟨#[107, 110, 110]⟩, .string ⟨#[]⟩, .func (.func 151) #[] #[.pointer (some ⟨b4, 0, none⟩)], .string ⟨#[122, 114, 97, 110, 103, 101, 98, 121, 115, 99, 111, 114, 101]⟩, .string ⟨#[107, 110, 110]⟩, .string ⟨#[]⟩, .func (.func 151) #[] #[.pointer (some ⟨b5, 0, none⟩)]] 48) = V := ⟨_, rfl⟩
  have BA : Below w6.heap.size w6 V := hV ▸ (Below.refl _ w6).alloc (Nat.le_refl _) _
  have HV : V.heap[w6.heap.size]? = some (.cells #[.string ⟨#[122, 97, 100, 100]⟩, .string ⟨#[107]⟩, .string ⟨#[110, 109]⟩, .func (.func 162) #[] #[.pointer (some ⟨b0, 0, none⟩)], .string ⟨#[122, 114, 101, 109]⟩, .string ⟨#[107]⟩, .string ⟨#[109]⟩, .func (.func 162) #[] #[.pointer (some ⟨b1, 0, none⟩)], .string ⟨#[122, 115, 99, 111, 114, 101]⟩, .string ⟨#[107, 109]⟩, .string ⟨#[]⟩, .func (.func 151) #[] #[.pointer (some ⟨b2, 0, none⟩)], .string ⟨#[122, 114, 97, 110, 107]⟩, .string ⟨#[107, 109]⟩, .string ⟨#[]⟩, .func (.func 151) #[] #[.pointer (some ⟨b3, 0, none⟩)], .string ⟨#[122, 114, 97, 110, 103, 101]⟩, .string ⟨#[107, 110, 110]⟩, .string ⟨#[]⟩, .func (.func 151) #[] #[.pointer (some ⟨b4, 0, none⟩)], .string ⟨#[122, 114, 97, 110, 103, 101, 98, 121, 115, 99, 111, 114, 101]⟩, .string ⟨#[107, 110, 110]⟩, .string ⟨#[]⟩, .func (.func 151) #[] #[.pointer (some ⟨b5, 0, none⟩)]] 48 (0, 0)) := by rw [← hV]; show (w6.heap.push _)[w6.heap.size]? = _; simp
  rw [hV]
  clear hV
  have HVV := hide HV
  clear HV
  refine bodyPost_ret (v := .slice (some ⟨w6.heap.size, 0, none⟩) 6 6) (by simp [results, Tryz.results37, go_sem]) rfl ⟨⟨w6.heap.size, _, rfl, HVV.out, ⟨_, _, rfl, ⟨DedAt.below (d := .cap 162 116) (B := w.heap.size) ⟨b0, Nat.le_trans (Nat.le_refl _) LB0.out, rfl, C0.out⟩ (btE (btE (btE (btE (btE bb1 bb2) bb3) bb4) bb5) BA) (Nat.le_refl _), rfl⟩, ⟨_, _, rfl, ⟨DedAt.below (d := .cap 162 119) (B := w.heap.size) ⟨b1, Nat.le_trans bb0.size LB1.out, rfl, C1.out⟩ (btE (btE (btE (btE bb2 bb3) bb4) bb5) BA) (Nat.le_refl _), rfl⟩, ⟨_, _, rfl, ⟨DedAt.below (d := .cap 151 121) (B := w.heap.size) ⟨b2, Nat.le_trans (btE bb0 bb1).size LB2.out, rfl, C2.out⟩ (btE (btE (btE bb3 bb4) bb5) BA) (Nat.le_refl _), rfl⟩, ⟨_, _, rfl, ⟨DedAt.below (d := .cap 151 123) (B := w.heap.size) ⟨b3, Nat.le_trans (btE (btE bb0 bb1) bb2).size LB3.out, rfl, C3.out⟩ (btE (btE bb4 bb5) BA) (Nat.le_refl _), rfl⟩, ⟨_, _, rfl, ⟨DedAt.below (d := .cap 151 125) (B := w.heap.size) ⟨b4, Nat.le_trans (btE (btE (btE bb0 bb1) bb2) bb3).size LB4.out, rfl, C4.out⟩ (btE bb5 BA) (Nat.le_refl _), rfl⟩, ⟨_, _, rfl, ⟨DedAt.below (d := .cap 151 127) (B := w.heap.size) ⟨b5, Nat.le_trans (btE (btE (btE (btE bb0 bb1) bb2) bb3) bb4).size LB5.out, rfl, C5.out⟩ BA (Nat.le_refl _), rfl⟩, rfl⟩⟩⟩⟩⟩⟩⟩, (btE (btE (btE (btE (btE (btE bb0 bb1) bb2) bb3) bb4) bb5) BA)⟩
end Go.Proofs.YtmaancidkpfopaaGreatDoor

/- WALKS: the replies of engine. -/
namespace Go.Proofs.YtmaancidkpfopaaGreatDoor
open Go.RowKit

/-- a reply's value, that has no list -/
def repV (k : Int) (t : ByteArray) (n : Int) : Value := .agg #[.int .i64 k, .string t, .int .i64 n, .slice none 0 0]
set_option maxRecDepth 100000 in
set_option maxHeartbeats 1000000 in
theorem errorReply_any (E : Int) (w : World) : Calls Tryz.prog 14 #[.int .i64 E] w fun e w' => e = .returned (repV 2 ⟨#[]⟩ E) ∧ Below w.heap.size w w' := by
  unfold repV
  go_enter Tryz.func14, Tryz.ntmps14
  go_wp2_with fail
  refine bodyPost_ret (v := .agg #[.int .i64 2, .string ⟨#[]⟩, .int .i64 E, .slice none 0 0]) (by simp [results, Tryz.results14, go_sem]) rfl ⟨rfl, (Below.refl _ w).alloc (Nat.le_refl _) _⟩
set_option maxRecDepth 100000 in
set_option maxHeartbeats 1000000 in
theorem wordReply_any (t : ByteArray) (w : World) : Calls Tryz.prog 57 #[.string t] w fun e w' => e = .returned (repV 1 t 0) ∧ Below w.heap.size w w' := by
  unfold repV
  go_enter Tryz.func57, Tryz.ntmps57
  go_wp2_with fail
  refine bodyPost_ret (v := .agg #[.int .i64 1, .string t, .int .i64 0, .slice none 0 0]) (by simp [results, Tryz.results57, go_sem]) rfl ⟨rfl, (Below.refl _ w).alloc (Nat.le_refl _) _⟩
set_option maxRecDepth 100000 in
set_option maxHeartbeats 1000000 in
theorem numberReply_any (n : Int) (w : World) : Calls Tryz.prog 150 #[.int .i64 n] w fun e w' => e = .returned (repV 3 ⟨#[]⟩ n) ∧ Below w.heap.size w w' := by
  unfold repV
  go_enter Tryz.func150, Tryz.ntmps150
  go_wp2_with fail
  refine bodyPost_ret (v := .agg #[.int .i64 3, .string ⟨#[]⟩, .int .i64 n, .slice none 0 0]) (by simp [results, Tryz.results150, go_sem]) rfl ⟨rfl, (Below.refl _ w).alloc (Nat.le_refl _) _⟩
set_option maxRecDepth 100000 in
set_option maxHeartbeats 1000000 in
theorem bytesReply_any (t : ByteArray) (w : World) : Calls Tryz.prog 159 #[.string t] w fun e w' => e = .returned (repV 4 t 0) ∧ Below w.heap.size w w' := by
  unfold repV
  go_enter Tryz.func159, Tryz.ntmps159
  go_wp2_with fail
  refine bodyPost_ret (v := .agg #[.int .i64 4, .string t, .int .i64 0, .slice none 0 0]) (by simp [results, Tryz.results159, go_sem]) rfl ⟨rfl, (Below.refl _ w).alloc (Nat.le_refl _) _⟩
/-- four cells of a block stored anew -/
theorem put4R {w : World} {b T : Nat} {x0 x1 x2 x3 : Value} (h : w.heap[b]? = some (.cells #[x0, x1, x2, x3] T (0, 0))) (y0 y1 y2 y3 : Value) :
    ((((w.setCell ⟨b, 0, none⟩ y0).setCell ⟨b, 1, none⟩ y1).setCell ⟨b, 2, none⟩ y2).setCell ⟨b, 3, none⟩ y3).heap[b]? = some (.cells #[y0, y1, y2, y3] T (0, 0)) ∧ Kept (one b) w ((((w.setCell ⟨b, 0, none⟩ y0).setCell ⟨b, 1, none⟩ y1).setCell ⟨b, 2, none⟩ y2).setCell ⟨b, 3, none⟩ y3) := by
  have hs : ∀ (v : World) (cs : Array Value) (o : Nat) (u : Value), v.heap[b]? = some (.cells cs T (0, 0)) → (v.setCell ⟨b, o, none⟩ u).heap[b]? = some (.cells (cs.setIfInBounds o u) T (0, 0)) := fun v cs o u hv => by simp [World.setCell, Array.getElem?_modify, hv]
  exact ⟨by rw [hs _ _ _ _ (hs _ _ _ _ (hs _ _ _ _ (hs _ _ _ _ h)))]; rfl, ((((Kept.refl (one b) w).set1 0 _).set1 1 _).set1 2 _).set1 3 _⟩
/-- the reply of a command that is refused -/
def refuseV (E : Int) : Value := if E = 5 then repV 5 ⟨#[]⟩ 0 else repV 2 ⟨#[]⟩ E
set_option maxRecDepth 100000 in
set_option maxHeartbeats 2000000 in
theorem refusal_any (E : Int) (w : World) : Calls Tryz.prog 15 #[.int .i64 E] w fun e w' => e = .returned (refuseV E) ∧ Below w.heap.size w w' := by
  by_cases h5 : E = 5
  · have e : refuseV E = repV 5 ⟨#[]⟩ 0 := if_pos h5
    subst h5
    rw [e]
    unfold repV
    go_enter Tryz.func15, Tryz.ntmps15
    go_wp2_with fail
    refine bodyPost_ret (v := .agg #[.int .i64 5, .string ⟨#[]⟩, .int .i64 0, .slice none 0 0]) (by simp [results, Tryz.results15, go_sem]) rfl ⟨rfl, (Below.refl _ w).alloc (Nat.le_refl _) _⟩
  · have e : refuseV E = repV 2 ⟨#[]⟩ E := if_neg h5
    have h5' : (E == 5) = false := by rw [beq_eq_false_iff_ne]; exact h5
    rw [e]
    have HE := hide (fun W => errorReply_any E W)
    unfold repV at HE ⊢
    obtain ⟨V, hV, AV, RB⟩ : ∃ V, w.alloc (.cells #[.int .i64 0, .string ⟨#[]⟩, .int .i64 0, .slice none 0 0] 27) = V ∧ Below w.heap.size w V ∧ V.heap[w.heap.size]? = some (.cells #[.int .i64 0, .string ⟨#[]⟩, .int .i64 0, .slice none 0 0] 27) := ⟨_, rfl, (Below.refl _ w).alloc (Nat.le_refl _) _, by show (w.heap.push _)[w.heap.size]? = _; simp⟩
    go_enter Tryz.func15, Tryz.ntmps15
    go_wp2_with fail
    refine (HE.out _).mono ?_
    rintro e w1 ⟨rfl, hb1⟩
    have hh := (hb1.block _ (Array.getElem?_eq_some_iff.1 RB).1).trans RB
    have m0 : w1.cell? ⟨w.heap.size, 0, none⟩ = some (.int .i64 0) := by simp [World.cell?, hh]
    have n0 : w1.frozen? ⟨w.heap.size, 0, none⟩ = false := by simp [World.frozen?, hh]
    have m1 : w1.cell? ⟨w.heap.size, 1, none⟩ = some (.string ⟨#[]⟩) := by simp [World.cell?, hh]
    have n1 : w1.frozen? ⟨w.heap.size, 1, none⟩ = false := by simp [World.frozen?, hh]
    have m2 : w1.cell? ⟨w.heap.size, 2, none⟩ = some (.int .i64 0) := by simp [World.cell?, hh]
    have n2 : w1.frozen? ⟨w.heap.size, 2, none⟩ = false := by simp [World.frozen?, hh]
    have m3 : w1.cell? ⟨w.heap.size, 3, none⟩ = some (.slice none 0 0) := by simp [World.cell?, hh]
    have n3 : w1.frozen? ⟨w.heap.size, 3, none⟩ = false := by simp [World.frozen?, hh]
    have HP := hide (put4R hh (.int .i64 2) (.string ⟨#[]⟩) (.int .i64 E) (.slice none 0 0))
    have HB := hide (AV.trans (hb1.mono AV.size))
    have hz : w.heap.size < w1.heap.size := (Array.getElem?_eq_some_iff.1 hh).1
    clear hV AV RB hb1 hh
    go_wp2_with fail
    obtain ⟨hH, hKp⟩ := HP.out
    generalize ((((w1.setCell ⟨w.heap.size, 0, none⟩ (.int .i64 2)).setCell ⟨w.heap.size, 1, none⟩ (.string ⟨#[]⟩)).setCell ⟨w.heap.size, 2, none⟩ (.int .i64 E)).setCell ⟨w.heap.size, 3, none⟩ (.slice none 0 0)) = V4 at *
    refine bodyPost_ret (v := .agg #[.int .i64 2, .string ⟨#[]⟩, .int .i64 E, .slice none 0 0]) (by simp [results, Tryz.results15, go_sem, World.cell?, hH]) rfl ⟨rfl, HB.out.trans (hKp.below (B := w.heap.size) (Nat.le_of_lt hz) (fun k hk => by simp only [one] at hk; omega))⟩
end Go.Proofs.YtmaancidkpfopaaGreatDoor

/- WALK: a deed that answers what an item tells. -/
namespace Go.Proofs.YtmaancidkpfopaaGreatDoor
open Go.RowKit

/-- the words behind the first one, as a slice -/
theorem rest_at {w : World} {g0 o0 cl : Nat} {x : ByteArray} {r : List ByteArray} (hl : ∀ i (h : i < (x :: r).length), w.cell? ⟨g0, o0 + i, none⟩ = some (.string (x :: r)[i])) (hcl : r.length + 1 ≤ cl) : TextsAt w (if cl = 1 then some (⟨g0, o0, none⟩ : Addr) else some ⟨g0, o0 + 1, none⟩) r := by
  by_cases h1 : cl = 1
  · exact .inl (List.eq_nil_of_length_eq_zero (by omega))
  · rw [if_neg h1]
    exact .inr ⟨g0, o0 + 1, rfl, fun i hi => by
      have := hl (i + 1) (by simpa using hi)
      rw [show o0 + 1 + i = o0 + (i + 1) by omega]
      simpa using this⟩
set_option maxRecDepth 100000 in
set_option maxHeartbeats 16000000 in
theorem readsDeed_any (f b bc : Nat) (s : List Ent) (now : Int) (g0 o0 cl : Nat) (x : ByteArray) (r : List ByteArray) (rk rn E : Int) (rt : ByteArray) (w : World) (h : KeepAt w b s now) (hf : w.cell? ⟨bc, 0, none⟩ = some (.func (.func f) #[] #[]))
    (hl : ∀ i (h : i < (x :: r).length), w.cell? ⟨g0, o0 + i, none⟩ = some (.string (x :: r)[i])) (hcl : r.length + 1 ≤ cl)
    (hcf : ∀ (args : Array Value) (W : World), (callFunc f args).run Tryz.prog W = .ok (.enter f args) W)
    (HF : ∀ W v a, Below w.heap.size w W → ItemIs W v (getR s now x) → TextsAt W a r → Calls Tryz.prog f #[v, .slice a r.length (cl - 1)] W fun e w' => e = .returned (.tuple #[.agg #[.int .i64 rk, .string rt, .int .i64 rn, .slice none 0 0], .int .i64 E]) ∧ Below W.heap.size W w') :
    Calls Tryz.prog 151 #[.pointer (some ⟨b, 0, none⟩), .slice (some ⟨g0, o0, none⟩) (r.length + 1) cl, .pointer (some ⟨bc, 0, none⟩)] w fun e w' => e = .returned (.tuple #[.agg #[.int .i64 rk, .string rt, .int .i64 rn, .slice none 0 0], .int .i64 E]) ∧ Below w.heap.size w w' := by
  obtain ⟨ar, har⟩ : ∃ ar, (if cl = 1 then some (⟨g0, o0, none⟩ : Addr) else some ⟨g0, o0 + 1, none⟩) = ar := ⟨_, rfl⟩
  have hTR : TextsAt w ar r := har ▸ rest_at hl hcl
  have hx := hl 0 (by simp)
  simp only [List.getElem_cons_zero, Nat.add_zero] at hx
  have HI := hide (fun W (hW : Below w.heap.size w W) => keepItem_any b s now x W (h.below hW))
  have HFF := hide (fun W v (hW : Below w.heap.size w W) (hv : ItemIs W v (getR s now x)) => HF W v ar hW hv (hTR.below hW))
  have hbc := World.block_lt_of_cell? _ _ hf
  have hbg := World.block_lt_of_cell? _ _ hx
  have hbcz : ¬ bc = w.heap.size := by simp only at hbc; omega
  have hbgz : ¬ g0 = w.heap.size := by simp only at hbg; omega
  have HD := hide (fun (W : World) (h1 : W.cell? ⟨bc, 0, none⟩ = w.cell? ⟨bc, 0, none⟩) (h2 : W.cell? ⟨g0, o0, none⟩ = w.cell? ⟨g0, o0, none⟩) => And.intro (h1.trans hf) (h2.trans hx))
  have HDB := hide (fun (W : World) (hW : Below w.heap.size w W) => And.intro ((hW.cell (p := ⟨bc, 0, none⟩) hbc).trans hf) ((hW.cell (p := ⟨g0, o0, none⟩) hbg).trans hx))
  obtain ⟨V, hV, AV, RB⟩ : ∃ V, w.alloc (.cells #[.int .i64 0, .string ⟨#[]⟩, .int .i64 0, .slice none 0 0] 27) = V ∧ Below w.heap.size w V ∧ V.heap[w.heap.size]? = some (.cells #[.int .i64 0, .string ⟨#[]⟩, .int .i64 0, .slice none 0 0] 27) := ⟨_, rfl, (Below.refl _ w).alloc (Nat.le_refl _) _, by show (w.heap.push _)[w.heap.size]? = _; simp⟩
  have HRB := hide RB
  have hwV : w.heap.size < V.heap.size := (Array.getElem?_eq_some_iff.1 RB).1
  have HWV := hide hwV
  have B0 : Below w.heap.size w V.drew := AV.drew
  have HB0 := hide B0
  have hlen : ((r.length : Nat) : Int) + 1 - 1 = (r.length : Int) := by omega
  have hcl2 : ((r.length : Nat) : Int) + 1 ≤ ((cl : Nat) : Int) := by omega
  have h1r : (1 : Int) ≤ ((r.length : Nat) : Int) + 1 := by omega
  have hpos : (0 : Int) < ((r.length : Nat) : Int) + 1 := by omega
  clear h hf hl hTR hx HF RB hwV B0 AV
  generalize getR s now x = X at *
  go_enter Tryz.func151, Tryz.ntmps151
  go_wp2_with fail
  clear hV
  refine wp_region_held_drew (S := (fun w' : World => w'.cell? ⟨bc, 0, none⟩ = some (.func (.func f) #[] #[]) ∧ w'.cell? ⟨g0, o0, none⟩ = some (.string x))) (by kernel_rfl) (HDB.out V.drew HB0.out) (fun hHeld => ?_)
  refine wpAnyH_take (i := 0) (v := .func (.func f) #[] #[]) rfl (by kernel_rfl) (by kernel_rfl) (by kernel_rfl) (fun _ _ _ h => h) (Or.inl ⟨by kernel_rfl, by intro w hSw; (try dsimp only at hSw); go_simp⟩) (by assumption) ?_
  refine wpAnyH_take (i := 1) (v := .pointer (some ⟨b, 0, none⟩)) rfl (by kernel_rfl) (by kernel_rfl) (by kernel_rfl) (fun _ _ _ h => h) (Or.inl ⟨by kernel_rfl, by intro w hSw; (try dsimp only at hSw); go_simp⟩) (by assumption) ?_
  refine wpAnyH_take (i := 2) (v := .slice (some ⟨g0, o0, none⟩) (r.length + 1) cl) rfl (by kernel_rfl) (by kernel_rfl) (by kernel_rfl) (fun _ _ _ h => h) (Or.inl ⟨by kernel_rfl, by intro w hSw; (try dsimp only at hSw); go_simp⟩) (by assumption) ?_
  refine wpAnyH_take (i := 3) (v := .pointer (some ⟨g0, o0, none⟩)) rfl (by kernel_rfl) (by kernel_rfl) (by kernel_rfl) (fun _ _ _ h => h) (Or.inl ⟨by kernel_rfl, by intro w hSw; (try dsimp only at hSw); go_simp⟩) (by assumption) ?_
  refine wpAnyH_take (i := 4) (v := .string x) rfl (by kernel_rfl) (by kernel_rfl) (by kernel_rfl) (fun _ _ _ h => h) (Or.inl ⟨by kernel_rfl, by intro w hSw; (try dsimp only at hSw); go_simp⟩) (by assumption) ?_
  refine wpAnyH_take (i := 6) (v := .slice (some ⟨g0, o0, none⟩) (r.length + 1) cl) rfl (by kernel_rfl) (by kernel_rfl) (by kernel_rfl) (fun _ _ _ h => h) (Or.inl ⟨by kernel_rfl, by intro w hSw; (try dsimp only at hSw); go_simp⟩) (by assumption) ?_
  refine wpAnyH_take (i := 7) (v := .slice ar r.length (cl - 1)) rfl (by kernel_rfl) (by kernel_rfl) (by kernel_rfl) (fun _ _ _ h => h) (Or.inl ⟨by kernel_rfl, by intro w hSw; (try dsimp only at hSw); go_simp⟩) (by assumption) ?_
  refine wpAnyH_ready (rs := [5]) (by kernel_rfl) (by simp) ?_
  refine AllReadyH.cons rfl (fun K hK => ?_) AllReadyH.nil
  go_simp
  refine (HI.out _ HB0.out).mono ?_
  rintro e w5 ⟨⟨v, rfl, hi5⟩, hb5⟩
  obtain ⟨a1, c1, a2, c2, a3, c3, rfl⟩ := shapeE hi5
  have B5 : Below w.heap.size w w5 := HB0.out.trans (hb5.mono HB0.out.size)
  have R5 := (hb5.block _ HWV.out).trans HRB.out
  refine hK.out _ _ (HDB.out w5 B5) (fun hHeld => ?_)
  clear hK K
  refine wpAnyH_ready (rs := [8]) (by kernel_rfl) (by simp) ?_
  refine AllReadyH.cons rfl (fun K hK => ?_) AllReadyH.nil
  go_simp
  refine (HFF.out _ _ B5 hi5).mono ?_
  rintro e w8 ⟨rfl, hb8⟩
  have B8 : Below w.heap.size w w8 := B5.trans (hb8.mono B5.size)
  have R8 := (hb8.block _ (Array.getElem?_eq_some_iff.1 R5).1).trans R5
  refine hK.out _ _ (HDB.out w8 B8) (fun hHeld => ?_)
  clear hK K hi5 hb5 hb8 R5
  refine wpAnyH_take (i := 9) (v := .agg #[.int .i64 rk, .string rt, .int .i64 rn, .slice none 0 0]) rfl (by kernel_rfl) (by kernel_rfl) (by kernel_rfl) (fun _ _ _ h => h) (Or.inl ⟨by kernel_rfl, by intro w hSw; (try dsimp only at hSw); go_simp⟩) (by assumption) ?_
  refine wpAnyH_take (i := 10) (v := .int .i64 E) rfl (by kernel_rfl) (by kernel_rfl) (by kernel_rfl) (fun _ _ _ h => h) (Or.inl ⟨by kernel_rfl, by intro w hSw; (try dsimp only at hSw); go_simp⟩) (by assumption) ?_
  have m0 : w8.cell? ⟨w.heap.size, 0, none⟩ = some (.int .i64 0) := by simp [World.cell?, R8]
  have n0 : w8.frozen? ⟨w.heap.size, 0, none⟩ = false := by simp [World.frozen?, R8]
  have m1 : w8.cell? ⟨w.heap.size, 1, none⟩ = some (.string ⟨#[]⟩) := by simp [World.cell?, R8]
  have n1 : w8.frozen? ⟨w.heap.size, 1, none⟩ = false := by simp [World.frozen?, R8]
  have m2 : w8.cell? ⟨w.heap.size, 2, none⟩ = some (.int .i64 0) := by simp [World.cell?, R8]
  have n2 : w8.frozen? ⟨w.heap.size, 2, none⟩ = false := by simp [World.frozen?, R8]
  have m3 : w8.cell? ⟨w.heap.size, 3, none⟩ = some (.slice none 0 0) := by simp [World.cell?, R8]
  have n3 : w8.frozen? ⟨w.heap.size, 3, none⟩ = false := by simp [World.frozen?, R8]
  have HP := hide (put4R R8 (.int .i64 rk) (.string rt) (.int .i64 rn) (.slice none 0 0))
  have hz8 : w.heap.size < w8.heap.size := (Array.getElem?_eq_some_iff.1 R8).1
  have HB8 := hide B8
  have HS8 := hide hHeld
  clear R8 B8 B5
  refine wpAnyH_ready (rs := [11]) (by kernel_rfl) (by simp) ?_
  refine AllReadyH.cons rfl (fun K hK => ?_) AllReadyH.nil
  go_simp
  obtain ⟨hH, hKp⟩ := HP.out
  generalize ((((w8.setCell ⟨w.heap.size, 0, none⟩ (.int .i64 rk)).setCell ⟨w.heap.size, 1, none⟩ (.string rt)).setCell ⟨w.heap.size, 2, none⟩ (.int .i64 rn)).setCell ⟨w.heap.size, 3, none⟩ (.slice none 0 0)) = V4 at *
  have HB4 : Hid (Below w.heap.size w V4) := HB8.out.trans (hKp.below (B := w.heap.size) (Nat.le_of_lt hz8) (fun k hk => by simp only [one] at hk; omega))
  refine hK.out _ _ (HDB.out V4 HB4.out) (fun hHeld => ?_)
  clear hK K m0 m1 m2 m3 n0 n1 n2 n3
  refine wpAnyH_take (i := 12) (v := .int .i64 E) rfl (by kernel_rfl) (by kernel_rfl) (by kernel_rfl) (fun _ _ _ h => h) (Or.inl ⟨by kernel_rfl, by intro w hSw; (try dsimp only at hSw); go_simp⟩) (by assumption) ?_
  refine wpAnyH_done (by kernel_rfl) ?_ _
  have HHH := hide hH
  clear hH hKp
  go_wp2_with fail
  have hH := HHH.out
  refine bodyPost_ret (v := .tuple #[.agg #[.int .i64 rk, .string rt, .int .i64 rn, .slice none 0 0], .int .i64 E]) (by simp [results, Tryz.results151, go_sem, World.cell?, hH]) rfl ⟨rfl, HB4.out⟩
end Go.Proofs.YtmaancidkpfopaaGreatDoor

/- WALKS: the lists of commands one behind the other; commands. -/
namespace Go.Proofs.YtmaancidkpfopaaGreatDoor
open Go.RowKit

theorem infoCmd : (Tryz.prog.info? 48).map (fun i => (i.zero, i.size, i.bytes)) = some (some (.agg #[.string ⟨#[]⟩, .string ⟨#[]⟩, .string ⟨#[]⟩, .nilFunc]), 4, 56) := by kernel_rfl
/-- append of commands -/
theorem wpList_append_cmds {w : World} {ops : Array Oper} {rest : List Oper} {o : Oper} {a : Act} {Q : Exit → Act → World → Prop}
    (hg : o.guard = none) (s x : Operand) (hop : o.op = .call { callee := .builtin .append, args := #[s, x], argTypes := #[63, 63] })
    (base : Nat) (v : Value) (n : Nat) (xs : List Value) (hs : a.eval s = v) (hown : w.ownsRow base 48 4 v n xs)
    (g m c : Nat) (r : List Value) (hx : a.eval x = .slice (some ⟨g, 0, none⟩) m c) (hk : w.heap[g]? = some (.cells r.toArray 48 (0, 0))) (hl : r.length = m * 4) (h1 : ∀ u ∈ r, u.oneCell' = true) (h63 : n + m ≤ 2000000) (hbase : base ≤ w.heap.size)
    (hK : ∀ v' w', w'.ownsRow base 48 4 v' (n + m) (xs ++ r) → w.grownBy w' v.ownBlock → wpList Tryz.prog ops Q rest (a.put o.dst v') w') :
    wpList Tryz.prog ops Q (o :: rest) a w := by
  obtain ⟨i0, hi, hz0, hz1, hz2⟩ := info_parts infoCmd
  refine wpList_plain hg fun K' hK' => ?_
  refine wp_append_own (P := Tryz.prog) w s x 63 hop base 48 i0 (.agg #[.string ⟨#[]⟩, .string ⟨#[]⟩, .string ⟨#[]⟩, .nilFunc]) 4 56 Tryz.underlying63 hi hz0 hz1 hz2 rfl (by decide) v n xs hs hown ⟨g, 0, none⟩ m c r hx hl ?_ h1 (by unfold maxLen; omega) (by omega) hbase ?_
  · intro j u hj
    have e : (⟨g, 0, none⟩ : Addr).add j = ⟨g, j, none⟩ := by
      unfold Addr.add
      split
      · rename_i h; subst h; rfl
      · simp
    rw [e]
    simp [World.cell?, hk, hj]
  · intro v' w' h1 h2 _
    exact hK' _ _ (hK v' w' h1 h2)
/-- append of so many noughts to nothing -/
theorem wpList_append_zerosC {w : World} {ops : Array Oper} {rest : List Oper} {o : Oper} {a : Act} {Q : Exit → Act → World → Prop}
    (hg : o.guard = none) (s x : Operand) (hop : o.op = .call { callee := .builtin .append, args := #[s, x], argTypes := #[63, 3] })
    (n : Nat) (hs : a.eval s = .slice none 0 0) (hx : a.eval x = .int .i64 n) (h0 : 0 < n) (hn : n ≤ 2000000)
    (hK : ∀ w' cap, n ≤ cap → w'.ownsRow w.heap.size 48 4 (.slice (some ⟨w.heap.size, 0, none⟩) 0 cap) 0 [] → Below w.heap.size w w' → wpList Tryz.prog ops Q rest (a.put o.dst (.slice (some ⟨w.heap.size, 0, none⟩) n cap)) w') :
    wpList Tryz.prog ops Q (o :: rest) a w := by
  obtain ⟨i0, hi, hz0, hz1, hz2⟩ := info_parts infoCmd
  refine wpList_plain hg fun K' hK' => ?_
  have hr := Lib.run_append_nil_zeros (P := Tryz.prog) w 63 3 o.type 48 i0 (.agg #[.string ⟨#[]⟩, .string ⟨#[]⟩, .string ⟨#[]⟩, .nilFunc]) .i64 .i64 Tryz.underlying63 Tryz.underlying3 hi hz0 n h0 (by omega) (by omega) (by rw [hz2]; omega)
  unfold Oper.wp execOp
  simp only [hop, resolve, invoke, builtin, Sem.run_bind, Sem.run_pure, Result.andThen_ok, List.map_toArray, List.map_cons, List.map_nil, hs, hx, hr]
  have hge := grownCap_ge w n 0 48
  have hle := grownCap_le_maxLen w n 0 48 (by unfold maxLen; omega)
  generalize grownCap w n 0 48 = cap at *
  refine hK' _ _ (hK _ cap hge ?_ ((Below.refl _ _).drew.alloc (Nat.le_refl _) _))
  have := World.ownsRow_made (base := w.heap.size) (e := 48) (size := 4) w.drew (Builtin.zeroCells (Value.agg #[.string ⟨#[]⟩, .string ⟨#[]⟩, .string ⟨#[]⟩, .nilFunc]).cells n ++ Builtin.zeroCells (Value.agg #[.string ⟨#[]⟩, .string ⟨#[]⟩, .string ⟨#[]⟩, .nilFunc]).cells (cap - n)) cap (Nat.le_refl _) hle (by
    rw [Array.size_append, size_zeroCells, size_zeroCells]
    have : (Value.agg #[.string ⟨#[]⟩, .string ⟨#[]⟩, .string ⟨#[]⟩, .nilFunc]).cells.size = 4 := rfl
    rw [this]
    omega)
  exact this
set_option maxRecDepth 100000 in
set_option maxHeartbeats 1000000 in
theorem growC_any (w : World) : Calls Tryz.prog 55 #[.slice none 0 0, .int .i64 38] w fun e w' => ∃ cap, e = .returned (.slice (some ⟨w.heap.size, 0, none⟩) 0 cap) ∧ w'.ownsRow w.heap.size 48 4 (.slice (some ⟨w.heap.size, 0, none⟩) 0 cap) 0 [] ∧ Below w.heap.size w w' := by
  go_enter Tryz.func55, Tryz.ntmps55
  go_wp2_with (at_builtin; refine wpList_append_zerosC rfl _ _ rfl 38 rfl rfl (by omega) (by omega) ?_)
  intro w' cap hcap hown hb
  have hc0 : (0 : Int) ≤ ((cap : Nat) : Int) := by omega
  go_wp2_with fail
  go_ret
  exact ⟨cap, rfl, hown, hb⟩
set_option maxRecDepth 100000 in
set_option maxHeartbeats 4000000 in
theorem concatC_any (g : Nat) (g0 g1 g2 g3 g4 g5 : Nat) (r0 r1 r2 r3 r4 r5 : List Value) (w : World) (h0 : w.cell? ⟨g, 0, none⟩ = some (.slice (some ⟨g0, 0, none⟩) 8 8)) (h1 : w.cell? ⟨g, 1, none⟩ = some (.slice (some ⟨g1, 0, none⟩) 6 6)) (h2 : w.cell? ⟨g, 2, none⟩ = some (.slice (some ⟨g2, 0, none⟩) 7 7)) (h3 : w.cell? ⟨g, 3, none⟩ = some (.slice (some ⟨g3, 0, none⟩) 7 7)) (h4 : w.cell? ⟨g, 4, none⟩ = some (.slice (some ⟨g4, 0, none⟩) 4 4)) (h5 : w.cell? ⟨g, 5, none⟩ = some (.slice (some ⟨g5, 0, none⟩) 6 6))
    (k0 : w.heap[g0]? = some (.cells r0.toArray 48 (0, 0))) (k1 : w.heap[g1]? = some (.cells r1.toArray 48 (0, 0))) (k2 : w.heap[g2]? = some (.cells r2.toArray 48 (0, 0))) (k3 : w.heap[g3]? = some (.cells r3.toArray 48 (0, 0))) (k4 : w.heap[g4]? = some (.cells r4.toArray 48 (0, 0))) (k5 : w.heap[g5]? = some (.cells r5.toArray 48 (0, 0))) (l0 : r0.length = 8 * 4) (l1 : r1.length = 6 * 4) (l2 : r2.length = 7 * 4) (l3 : r3.length = 7 * 4) (l4 : r4.length = 4 * 4) (l5 : r5.length = 6 * 4) (o0 : ∀ u ∈ r0, u.oneCell' = true) (o1 : ∀ u ∈ r1, u.oneCell' = true) (o2 : ∀ u ∈ r2, u.oneCell' = true) (o3 : ∀ u ∈ r3, u.oneCell' = true) (o4 : ∀ u ∈ r4, u.oneCell' = true) (o5 : ∀ u ∈ r5, u.oneCell' = true) :
    Calls Tryz.prog 31 #[.slice (some ⟨g, 0, none⟩) 6 6] w fun e w' => ∃ v, e = .returned v ∧ w'.ownsRow w.heap.size 48 4 v 38 (r0 ++ (r1 ++ (r2 ++ (r3 ++ (r4 ++ r5))))) ∧ Below w.heap.size w w' := by
  have hgl : g < w.heap.size := World.block_lt_of_cell? _ _ h0
  have HG := hide (growC_any w)
  have K0 := hide (And.intro k0 (And.intro l0 o0))
  clear k0 l0 o0
  have K1 := hide (And.intro k1 (And.intro l1 o1))
  clear k1 l1 o1
  have K2 := hide (And.intro k2 (And.intro l2 o2))
  clear k2 l2 o2
  have K3 := hide (And.intro k3 (And.intro l3 o3))
  clear k3 l3 o3
  have K4 := hide (And.intro k4 (And.intro l4 o4))
  clear k4 l4 o4
  have K5 := hide (And.intro k5 (And.intro l5 o5))
  clear k5 l5 o5
  go_enter Tryz.func31, Tryz.ntmps31
  go_wp2_with fail
  refine wp_loop_rounds 7 ?_
  rw [rounds_succ]
  go_wp2_with fail
  rw [rounds_succ]
  go_wp2_with fail
  rw [rounds_succ]
  go_wp2_with fail
  rw [rounds_succ]
  go_wp2_with fail
  rw [rounds_succ]
  go_wp2_with fail
  rw [rounds_succ]
  go_wp2_with fail
  rw [rounds_succ]
  go_wp2_with fail
  refine HG.out.mono ?_
  rintro e w1 ⟨cap, rfl, hown0, hb1⟩
  have e0 := (hb1.cell (p := ⟨g, 0, none⟩) hgl).trans h0
  have e1 := (hb1.cell (p := ⟨g, 1, none⟩) hgl).trans h1
  have e2 := (hb1.cell (p := ⟨g, 2, none⟩) hgl).trans h2
  have e3 := (hb1.cell (p := ⟨g, 3, none⟩) hgl).trans h3
  have e4 := (hb1.cell (p := ⟨g, 4, none⟩) hgl).trans h4
  have e5 := (hb1.cell (p := ⟨g, 5, none⟩) hgl).trans h5
  have hz1 := hb1.size
  have H0 := hide h0
  have H1 := hide h1
  have H2 := hide h2
  have H3 := hide h3
  have H4 := hide h4
  have H5 := hide h5
  clear h0 h1 h2 h3 h4 h5
  have HE := hide (And.intro e0 (And.intro e1 (And.intro e2 (And.intro e3 (And.intro e4 e5)))))
  go_wp2_with fail
  refine wp_loop_rounds 7 ?_
  rw [rounds_succ]
  have kk := (hb1.block g0 (Array.getElem?_eq_some_iff.1 K0.out.1).1).trans K0.out.1
  have HKK := hide kk
  clear kk
  go_wp2_with (at_builtin; refine wpList_append_cmds rfl _ _ rfl w.heap.size _ 0 _ rfl hown0 g0 8 8 r0 rfl HKK.out K0.out.2.1 K0.out.2.2 (by omega) hz1 ?_)
  intro v1 w2 hown1 hg1
  have hb2 : Below w.heap.size w w2 := hb1.grown hg1 hz1 (fun j hj => (hown0.lt j hj).1)
  have hz2 := hb2.size
  have q0 : ∀ j u, w.cell? ⟨g, j, none⟩ = some u → w2.cell? ⟨g, j, none⟩ = some u := fun j u hu => (hb2.cell (p := ⟨g, j, none⟩) hgl).trans hu
  clear hown0 HKK
  have e0 := q0 0 _ H0.out
  have e1 := q0 1 _ H1.out
  have e2 := q0 2 _ H2.out
  have e3 := q0 3 _ H3.out
  have e4 := q0 4 _ H4.out
  have e5 := q0 5 _ H5.out
  go_wp2_with fail
  clear q0
  rw [rounds_succ]
  have kk := (hb2.block g1 (Array.getElem?_eq_some_iff.1 K1.out.1).1).trans K1.out.1
  have HKK := hide kk
  clear kk
  go_wp2_with (at_builtin; refine wpList_append_cmds rfl _ _ rfl w.heap.size _ 8 _ rfl hown1 g1 6 6 r1 rfl HKK.out K1.out.2.1 K1.out.2.2 (by omega) hz2 ?_)
  intro v2 w3 hown2 hg2
  have hb3 : Below w.heap.size w w3 := hb2.grown hg2 hz2 (fun j hj => (hown1.lt j hj).1)
  have hz3 := hb3.size
  have q1 : ∀ j u, w.cell? ⟨g, j, none⟩ = some u → w3.cell? ⟨g, j, none⟩ = some u := fun j u hu => (hb3.cell (p := ⟨g, j, none⟩) hgl).trans hu
  clear hown1 HKK
  have e0 := q1 0 _ H0.out
  have e1 := q1 1 _ H1.out
  have e2 := q1 2 _ H2.out
  have e3 := q1 3 _ H3.out
  have e4 := q1 4 _ H4.out
  have e5 := q1 5 _ H5.out
  go_wp2_with fail
  clear q1
  rw [rounds_succ]
  have kk := (hb3.block g2 (Array.getElem?_eq_some_iff.1 K2.out.1).1).trans K2.out.1
  have HKK := hide kk
  clear kk
  go_wp2_with (at_builtin; refine wpList_append_cmds rfl _ _ rfl w.heap.size _ 14 _ rfl hown2 g2 7 7 r2 rfl HKK.out K2.out.2.1 K2.out.2.2 (by omega) hz3 ?_)
  intro v3 w4 hown3 hg3
  have hb4 : Below w.heap.size w w4 := hb3.grown hg3 hz3 (fun j hj => (hown2.lt j hj).1)
  have hz4 := hb4.size
  have q2 : ∀ j u, w.cell? ⟨g, j, none⟩ = some u → w4.cell? ⟨g, j, none⟩ = some u := fun j u hu => (hb4.cell (p := ⟨g, j, none⟩) hgl).trans hu
  clear hown2 HKK
  have e0 := q2 0 _ H0.out
  have e1 := q2 1 _ H1.out
  have e2 := q2 2 _ H2.out
  have e3 := q2 3 _ H3.out
  have e4 := q2 4 _ H4.out
  have e5 := q2 5 _ H5.out
  go_wp2_with fail
  clear q2
  rw [rounds_succ]
  have kk := (hb4.block g3 (Array.getElem?_eq_some_iff.1 K3.out.1).1).trans K3.out.1
  have HKK := hide kk
  clear kk
  go_wp2_with (at_builtin; refine wpList_append_cmds rfl _ _ rfl w.heap.size _ 21 _ rfl hown3 g3 7 7 r3 rfl HKK.out K3.out.2.1 K3.out.2.2 (by omega) hz4 ?_)
  intro v4 w5 hown4 hg4
  have hb5 : Below w.heap.size w w5 := hb4.grown hg4 hz4 (fun j hj => (hown3.lt j hj).1)
  have hz5 := hb5.size
  have q3 : ∀ j u, w.cell? ⟨g, j, none⟩ = some u → w5.cell? ⟨g, j, none⟩ = some u := fun j u hu => (hb5.cell (p := ⟨g, j, none⟩) hgl).trans hu
  clear hown3 HKK
  have e0 := q3 0 _ H0.out
  have e1 := q3 1 _ H1.out
  have e2 := q3 2 _ H2.out
  have e3 := q3 3 _ H3.out
  have e4 := q3 4 _ H4.out
  have e5 := q3 5 _ H5.out
  go_wp2_with fail
  clear q3
  rw [rounds_succ]
  have kk := (hb5.block g4 (Array.getElem?_eq_some_iff.1 K4.out.1).1).trans K4.out.1
  have HKK := hide kk
  clear kk
  go_wp2_with (at_builtin; refine wpList_append_cmds rfl _ _ rfl w.heap.size _ 28 _ rfl hown4 g4 4 4 r4 rfl HKK.out K4.out.2.1 K4.out.2.2 (by omega) hz5 ?_)
  intro v5 w6 hown5 hg5
  have hb6 : Below w.heap.size w w6 := hb5.grown hg5 hz5 (fun j hj => (hown4.lt j hj).1)
  have hz6 := hb6.size
  have q4 : ∀ j u, w.cell? ⟨g, j, none⟩ = some u → w6.cell? ⟨g, j, none⟩ = some u := fun j u hu => (hb6.cell (p := ⟨g, j, none⟩) hgl).trans hu
  clear hown4 HKK
  have e0 := q4 0 _ H0.out
  have e1 := q4 1 _ H1.out
  have e2 := q4 2 _ H2.out
  have e3 := q4 3 _ H3.out
  have e4 := q4 4 _ H4.out
  have e5 := q4 5 _ H5.out
  go_wp2_with fail
  clear q4
  rw [rounds_succ]
  have kk := (hb6.block g5 (Array.getElem?_eq_some_iff.1 K5.out.1).1).trans K5.out.1
  have HKK := hide kk
  clear kk
  go_wp2_with (at_builtin; refine wpList_append_cmds rfl _ _ rfl w.heap.size _ 32 _ rfl hown5 g5 6 6 r5 rfl HKK.out K5.out.2.1 K5.out.2.2 (by omega) hz6 ?_)
  intro v6 w7 hown6 hg6
  have hb7 : Below w.heap.size w w7 := hb6.grown hg6 hz6 (fun j hj => (hown5.lt j hj).1)
  have hz7 := hb7.size
  have q5 : ∀ j u, w.cell? ⟨g, j, none⟩ = some u → w7.cell? ⟨g, j, none⟩ = some u := fun j u hu => (hb7.cell (p := ⟨g, j, none⟩) hgl).trans hu
  clear hown5 HKK
  have e0 := q5 0 _ H0.out
  have e1 := q5 1 _ H1.out
  have e2 := q5 2 _ H2.out
  have e3 := q5 3 _ H3.out
  have e4 := q5 4 _ H4.out
  have e5 := q5 5 _ H5.out
  go_wp2_with fail
  clear q5
  rw [rounds_succ]
  go_wp2_with fail
  go_ret
  refine ⟨_, rfl, ?_, hb7⟩
  simpa using hown6
/-- commands that lie in memory -/
def CmdsAt (B : Nat) (w : World) (a : Option Addr) (l : List Cmd) : Prop := ∃ g, a = some ⟨g, 0, none⟩ ∧ ∀ i (h : i < l.length), ∃ v, (w.cell? ⟨g, i * 4, none⟩ = some (.string l[i].name) ∧ w.cell? ⟨g, i * 4 + 1, none⟩ = some (.string l[i].once) ∧ w.cell? ⟨g, i * 4 + 2, none⟩ = some (.string l[i].again) ∧ w.cell? ⟨g, i * 4 + 3, none⟩ = some v) ∧ DedAt B w v l[i].ded
theorem RowC.at {B : Nat} {w : World} : ∀ {l : List Cmd} {r : List Value}, RowC B w l r → ∀ i (h : i < l.length), ∃ v, (r[i * 4]? = some (.string l[i].name) ∧ r[i * 4 + 1]? = some (.string l[i].once) ∧ r[i * 4 + 2]? = some (.string l[i].again) ∧ r[i * 4 + 3]? = some v) ∧ DedAt B w v l[i].ded
  | _ :: _, _, ⟨v, r', h1, h2, h3⟩, 0, _ => ⟨v, by rw [h1]; exact ⟨rfl, rfl, rfl, rfl⟩, h2.1⟩
  | _ :: cs, _, ⟨v, r', h1, h2, h3⟩, i + 1, h => by
    obtain ⟨v', k1, k2⟩ := RowC.at h3 i (by simpa using h)
    refine ⟨v', ?_, k2⟩
    rw [h1, show (i + 1) * 4 = i * 4 + 1 + 1 + 1 + 1 by omega]
    simpa using k1
theorem RowC.owns {w : World} {A B : Nat} {v : Value} {l : List Cmd} {r : List Value} (h : RowC A w l r) (hl : l ≠ []) (ho : w.ownsRow B 48 4 v l.length r) : ∃ g c, v = .slice (some ⟨g, 0, none⟩) l.length c ∧ B ≤ g ∧ CmdsAt A w (some ⟨g, 0, none⟩) l := by
  rcases ho.2 with ⟨h1, h2⟩ | ⟨g, cp, cur, h1, h2, h3, h4, h5, h6, h7⟩
  · exact absurd (List.eq_nil_of_length_eq_zero h2) hl
  · refine ⟨g, cp, h1, h2, g, rfl, fun i hi => ?_⟩
    obtain ⟨u, ⟨k0, k1, k2, k3⟩, k4⟩ := h.at i hi
    have hc : ∀ j y, r[j]? = some y → w.cell? ⟨g, j, none⟩ = some y := fun j y hj => by
      have hlen : j < r.length := (List.getElem?_eq_some_iff.1 hj).1
      have e : cur[j]? = some y := by
        rw [← h7, List.getElem?_take] at hj
        split at hj
        · simpa using hj
        · cases hj
      simp [World.cell?, h3, e]
    exact ⟨u, ⟨hc _ _ k0, hc _ _ k1, hc _ _ k2, hc _ _ k3⟩, k4⟩
set_option maxRecDepth 100000 in
set_option maxHeartbeats 4000000 in
theorem commands_any (w : World) : Calls Tryz.prog 21 #[] w fun e w' => (∃ g c, e = .returned (.slice (some ⟨g, 0, none⟩) 38 c) ∧ w.heap.size ≤ g ∧ CmdsAt w.heap.size w' (some ⟨g, 0, none⟩) cmds) ∧ Below w.heap.size w w' := by
  have HC := hide concatC_any
  have H0 := hide ofKeys_any
  have H1 := hide ofTexts_any
  have H2 := hide ofLists_any
  have H3 := hide ofSets_any
  have H4 := hide ofHashes_any
  have H5 := hide ofScores_any
  go_enter Tryz.func21, Tryz.ntmps21
  go_wp2_with fail
  refine (H0.out _).mono ?_
  rintro e w1 ⟨⟨g0, r0, rfl, k0, R0⟩, b1⟩
  have K0 := hide k0
  clear k0 H0
  go_wp2_with fail
  refine (H1.out _).mono ?_
  rintro e w2 ⟨⟨g1, r1, rfl, k1, R1⟩, b2⟩
  have K1 := hide k1
  clear k1 H1
  go_wp2_with fail
  refine (H2.out _).mono ?_
  rintro e w3 ⟨⟨g2, r2, rfl, k2, R2⟩, b3⟩
  have K2 := hide k2
  clear k2 H2
  go_wp2_with fail
  refine (H3.out _).mono ?_
  rintro e w4 ⟨⟨g3, r3, rfl, k3, R3⟩, b4⟩
  have K3 := hide k3
  clear k3 H3
  go_wp2_with fail
  refine (H4.out _).mono ?_
  rintro e w5 ⟨⟨g4, r4, rfl, k4, R4⟩, b5⟩
  have K4 := hide k4
  clear k4 H4
  go_wp2_with fail
  refine (H5.out _).mono ?_
  rintro e w6 ⟨⟨g5, r5, rfl, k5, R5⟩, b6⟩
  have K5 := hide k5
  clear k5 H5
  go_wp2_with fail
  obtain ⟨V, hV⟩ : ∃ V, w6.alloc (.cells #[.slice (some ⟨g0, 0, none⟩) 8 8, .slice (some ⟨g1, 0, none⟩) 6 6, .slice (some ⟨g2, 0, none⟩) 7 7, .slice (some ⟨g3, 0, none⟩) 7 7, .slice (some ⟨g4, 0, none⟩) 4 4, .slice (some ⟨g5, 0, none⟩) 6 6] 63) = V := ⟨_, rfl⟩
  have BA : Below w6.heap.size w6 V := hV ▸ (Below.refl _ w6).alloc (Nat.le_refl _) _
  have HV : V.heap[w6.heap.size]? = some (.cells #[.slice (some ⟨g0, 0, none⟩) 8 8, .slice (some ⟨g1, 0, none⟩) 6 6, .slice (some ⟨g2, 0, none⟩) 7 7, .slice (some ⟨g3, 0, none⟩) 7 7, .slice (some ⟨g4, 0, none⟩) 4 4, .slice (some ⟨g5, 0, none⟩) 6 6] 63 (0, 0)) := by rw [← hV]; show (w6.heap.push _)[w6.heap.size]? = _; simp
  rw [hV]
  clear hV
  have k0 := ((btE (btE (btE (btE (btE b2 b3) b4) b5) b6) BA).block g0 (Array.getElem?_eq_some_iff.1 K0.out).1).trans K0.out
  have k1 := ((btE (btE (btE (btE b3 b4) b5) b6) BA).block g1 (Array.getElem?_eq_some_iff.1 K1.out).1).trans K1.out
  have k2 := ((btE (btE (btE b4 b5) b6) BA).block g2 (Array.getElem?_eq_some_iff.1 K2.out).1).trans K2.out
  have k3 := ((btE (btE b5 b6) BA).block g3 (Array.getElem?_eq_some_iff.1 K3.out).1).trans K3.out
  have k4 := ((btE b6 BA).block g4 (Array.getElem?_eq_some_iff.1 K4.out).1).trans K4.out
  have k5 := (BA.block g5 (Array.getElem?_eq_some_iff.1 K5.out).1).trans K5.out
  refine (HC.out w6.heap.size g0 g1 g2 g3 g4 g5 r0 r1 r2 r3 r4 r5 V (by simp [World.cell?, HV]) (by simp [World.cell?, HV]) (by simp [World.cell?, HV]) (by simp [World.cell?, HV]) (by simp [World.cell?, HV]) (by simp [World.cell?, HV]) k0 k1 k2 k3 k4 k5 R0.len R1.len R2.len R3.len R4.len R5.len R0.cells R1.cells R2.cells R3.cells R4.cells R5.cells).mono ?_
  rintro e z ⟨v, rfl, ho, hbz⟩
  have hrow : RowC w.heap.size z cmds (r0 ++ (r1 ++ (r2 ++ (r3 ++ (r4 ++ r5))))) := ((R0.below (btE (btE (btE (btE (btE (btE b2 b3) b4) b5) b6) BA) hbz) (Nat.le_refl _)).append ((R1.below (btE (btE (btE (btE (btE b3 b4) b5) b6) BA) hbz) b1.size).append ((R2.below (btE (btE (btE (btE b4 b5) b6) BA) hbz) (btE b1 b2).size).append ((R3.below (btE (btE (btE b5 b6) BA) hbz) (btE (btE b1 b2) b3).size).append ((R4.below (btE (btE b6 BA) hbz) (btE (btE (btE b1 b2) b3) b4).size).append (R5.below (btE BA hbz) (btE (btE (btE (btE b1 b2) b3) b4) b5).size))))))
  obtain ⟨a, c, rfl, hga, hca⟩ := hrow.owns (by decide) ho
  have HGA := hide (Nat.le_trans (btE (btE (btE (btE (btE (btE b1 b2) b3) b4) b5) b6) BA).size hga)
  clear hga
  have HCA := hide hca
  have HB := hide (btE (btE (btE (btE (btE (btE (btE b1 b2) b3) b4) b5) b6) BA) hbz)
  clear hca hrow ho HV k0 k1 k2 k3 k4 k5 b1 b2 b3 b4 b5 b6 BA hbz
  go_wp2_with fail
  go_ret
  exact ⟨⟨a, c, rfl, HGA.out, HCA.out⟩, HB.out⟩
end Go.Proofs.YtmaancidkpfopaaGreatDoor

/- WALKS: how many words stand behind a command's name, and which are numbers. -/
namespace Go.Proofs.YtmaancidkpfopaaGreatDoor
open Go.RowKit

theorem text_nilE {t : ByteArray} (h : t.toList = []) : t.size = 0 := by
  rw [ByteArray.toList_eq] at h
  have := congrArg List.length h
  rw [Array.length_toList] at this
  exact this
def fitsP (once again : ByteArray) (n : Nat) : Bool := if again.size = 0 then decide (n = once.size) else decide (once.size < n ∧ (n - once.size) % again.size = 0)
def letterP (once again : ByteArray) (i : Nat) : UInt8 := if i < once.size then once.data.toList.getD i 0 else again.data.toList.getD ((i - once.size) % again.size) 0
set_option maxRecDepth 100000 in
set_option maxHeartbeats 2000000 in
theorem fits_any (nm once again : ByteArray) (fv : Value) (n : Nat) (w : World) (ho : once.size ≤ 100) (ha : again.size ≤ 100) (hn : n ≤ 1000) (hf : ∃ fu xs ys, fv = .func fu xs ys) :
    Calls Tryz.prog 38 #[.agg #[.string nm, .string once, .string again, fv], .int .i64 n] w fun e w' => e = .returned (.bool (fitsP once again n)) ∧ Below w.heap.size w w' := by
  obtain ⟨fu, xs, ys, rfl⟩ := hf
  have hw : IntKind.i64.wrap ((n : Int) - (once.size : Int)) = (n : Int) - (once.size : Int) := by
    simp only [IntKind.wrap, IntKind.bits, IntKind.signed]
    first | omega | (simp; omega)
  by_cases h0 : again = ⟨#[]⟩
  · subst h0
    have e : fitsP once ⟨#[]⟩ n = ((n : Int) - (once.size : Int) == 0) := by
      have hz : (⟨#[]⟩ : ByteArray).size = 0 := rfl
      unfold fitsP
      rw [if_pos hz, Bool.eq_iff_iff]
      simp
      omega
    rw [e]
    go_enter Tryz.func38, Tryz.ntmps38
    go_wp2_with fail
    go_ret
    exact ⟨rfl, (Below.refl _ _).alloc (Nat.le_refl _) _⟩
  · have hz : again.size ≠ 0 := fun h => h0 (ByteArray.ext (Array.eq_empty_of_size_eq_zero h))
    have hz' : ¬ ((again.size : Nat) : Int) = 0 := by omega
    have hE : again.toList.isEmpty = false := by
      cases hl : again.toList with
      | nil => exact absurd (text_nilE hl) hz
      | cons _ _ => rfl
    by_cases hm : once.size < n
    · obtain ⟨m, hm2⟩ : ∃ m : Nat, (n : Int) - (once.size : Int) = m := ⟨n - once.size, by omega⟩
      have hpos : (0 : Int) < (m : Int) := by omega
      have e : fitsP once again n = ((m : Int) % (again.size : Int) == 0) := by
        unfold fitsP
        rw [if_neg hz, show n - once.size = m by omega, Bool.eq_iff_iff]
        simp
        omega
      rw [e]
      rw [hm2] at hw
      go_enter Tryz.func38, Tryz.ntmps38
      go_wp2_with fail
      go_ret
      exact ⟨rfl, (Below.refl _ _).alloc (Nat.le_refl _) _⟩
    · have hneg : ¬ (0 : Int) < (n : Int) - (once.size : Int) := by omega
      have e : fitsP once again n = false := by
        unfold fitsP
        rw [if_neg hz]
        simp
        omega
      rw [e]
      go_enter Tryz.func38, Tryz.ntmps38
      go_wp2_with fail
      go_ret
      exact ⟨rfl, (Below.refl _ _).alloc (Nat.le_refl _) _⟩
theorem below_drewE {B : Nat} {a w : World} (h : Below B a w) (n : Nat) : Below B a (w.drewN n) := ⟨h.os, h.tape, h.output, h.size, h.block⟩
theorem letter_once {once again : ByteArray} {i : Nat} (h : i < once.size) : letterP once again i = once[i] := by
  have h' : i < once.data.size := h
  unfold letterP
  rw [if_pos h]
  show (once.data.toList[i]?).getD 0 = once.data[i]
  rw [Array.getElem?_toList, Array.getElem?_eq_getElem h']
  rfl
theorem letter_again {once again : ByteArray} {i r : Nat} (h : ¬ i < once.size) (hr : (i - once.size) % again.size = r) (h2 : r < again.size) : letterP once again i = again[r] := by
  have h' : r < again.data.size := h2
  unfold letterP
  rw [if_neg h, hr]
  show (again.data.toList[r]?).getD 0 = again.data[r]
  rw [Array.getElem?_toList, Array.getElem?_eq_getElem h']
  rfl
set_option maxRecDepth 100000 in
set_option maxHeartbeats 2000000 in
theorem letter_any (nm once again : ByteArray) (fu : Fn) (xs ys : Array Value) (i : Nat) (w : World) (ho : once.size ≤ 100) (ha : again.size ≤ 100) (hi : i ≤ 1000) (hok : i < once.size ∨ again.size ≠ 0) :
    Calls Tryz.prog 40 #[.agg #[.string nm, .string once, .string again, .func fu xs ys], .int .i64 i] w fun e w' => e = .returned (.int .u8 ((letterP once again i).toNat : Int)) ∧ Below w.heap.size w w' := by
  by_cases h : i < once.size
  · have h' : ((i : Nat) : Int) < ((once.size : Nat) : Int) := by omega
    rw [letter_once h]
    go_enter Tryz.func40, Tryz.ntmps40
    go_wp2_with fail
    go_ret
    exact ⟨rfl, (Below.refl _ _).alloc (Nat.le_refl _) _⟩
  · have h' : ¬ ((i : Nat) : Int) < ((once.size : Nat) : Int) := by omega
    have hz : again.size ≠ 0 := hok.resolve_left h
    have hz' : ¬ ((again.size : Nat) : Int) = 0 := by omega
    obtain ⟨m, hm2⟩ : ∃ m : Nat, (i : Int) - (once.size : Int) = m := ⟨i - once.size, by omega⟩
    obtain ⟨r, hr⟩ : ∃ r, m % again.size = r := ⟨_, rfl⟩
    have hlt : r < again.size := hr ▸ Nat.mod_lt _ (by omega)
    have hlt' : ((r : Nat) : Int) < ((again.size : Nat) : Int) := by omega
    have hrm : (m : Int) % (again.size : Int) = (r : Int) := by omega
    rw [letter_again h (by rw [← hr, show i - once.size = m by omega]) hlt]
    have hwr : IntKind.i64.wrap (m : Int) = m := by
      simp only [IntKind.wrap, IntKind.bits, IntKind.signed]
      first | omega | (simp; omega)
    clear hr
    go_enter Tryz.func40, Tryz.ntmps40
    go_wp2_with fail
    go_quiet (fail)
    go_wp2_with fail
    go_ret
    exact ⟨rfl, below_drewE ((Below.refl _ _).alloc (Nat.le_refl _) _) _⟩
end Go.Proofs.YtmaancidkpfopaaGreatDoor

/- Library contracts, laid at this program. -/
namespace Go.Proofs
open Go.Shelf
def Tryz.laysM171_ren : Go.Shelf.Ren := ⟨fun | 171 => 53 | 243 => 147 | 246 => 216 | 283 => 249 | 284 => 250 | 285 => 251 | 286 => 252 | 129 => 276 | 317 => 288 | 318 => 289 | 319 => 290 | 320 => 291 | 337 => 315 | 338 => 316 | n => n, fun | 3 => 3 | 9 => 9 | 2 => 2 | 4 => 4 | 171 => 248 | 0 => 0 | 53 => 249 | 37 => 76 | 5 => 5 | 173 => 252 | 212 => 293 | 51 => 277 | 20 => 20 | 213 => 294 | 46 => 224 | 232 => 339 | 233 => 340 | n => n, fun | 17 => 3 | 18 => 4 | 19 => 5 | n => n⟩
theorem Tryz.laysM171 : Go.Proofs.LaysM.n171 Tryz.prog Tryz.laysM171_ren := {
  mixed := by kernel_rfl
  f129 := Tryz.func276.trans (congrArg some (by kernel_rfl))
  f171 := Tryz.func53.trans (congrArg some (by kernel_rfl))
  f243 := Tryz.func147.trans (congrArg some (by kernel_rfl))
  f246 := Tryz.func216.trans (congrArg some (by kernel_rfl))
  f283 := Tryz.func249.trans (congrArg some (by kernel_rfl))
  f284 := Tryz.func250.trans (congrArg some (by kernel_rfl))
  f285 := Tryz.func251.trans (congrArg some (by kernel_rfl))
  f286 := Tryz.func252.trans (congrArg some (by kernel_rfl))
  f317 := Tryz.func288.trans (congrArg some (by kernel_rfl))
  f318 := Tryz.func289.trans (congrArg some (by kernel_rfl))
  f319 := Tryz.func290.trans (congrArg some (by kernel_rfl))
  f320 := Tryz.func291.trans (congrArg some (by kernel_rfl))
  f337 := Tryz.func315.trans (congrArg some (by kernel_rfl))
  f338 := Tryz.func316.trans (congrArg some (by kernel_rfl))
  t0 := Tryz.underlying0
  a0 := Tryz.isAgg0
  z0 := Tryz.sizeOf0
  v0 := Tryz.zeroValue0
  t2 := Tryz.underlying2
  a2 := Tryz.isAgg2
  z2 := Tryz.sizeOf2
  v2 := Tryz.zeroValue2
  t3 := Tryz.underlying3
  a3 := Tryz.isAgg3
  z3 := Tryz.sizeOf3
  v3 := Tryz.zeroValue3
  t4 := Tryz.underlying4
  a4 := Tryz.isAgg4
  z4 := Tryz.sizeOf4
  v4 := Tryz.zeroValue4
  t5 := Tryz.underlying5
  a5 := Tryz.isAgg5
  z5 := Tryz.sizeOf5
  v5 := Tryz.zeroValue5
  t9 := Tryz.underlying9
  a9 := Tryz.isAgg9
  z9 := Tryz.sizeOf9
  v9 := Tryz.zeroValue9
  t20 := Tryz.underlying20
  a20 := Tryz.isAgg20
  z20 := Tryz.sizeOf20
  v20 := Tryz.zeroValue20
  t37 := Tryz.underlying76
  a37 := Tryz.isAgg76
  z37 := Tryz.sizeOf76
  v37 := Tryz.zeroValue76
  t46 := Tryz.underlying224
  a46 := Tryz.isAgg224
  z46 := Tryz.sizeOf224
  v46 := Tryz.zeroValue224
  t51 := Tryz.underlying277
  a51 := Tryz.isAgg277
  z51 := Tryz.sizeOf277
  v51 := Tryz.zeroValue277
  t53 := Tryz.underlying249
  a53 := Tryz.isAgg249
  z53 := Tryz.sizeOf249
  v53 := Tryz.zeroValue249
  t171 := Tryz.underlying248
  a171 := Tryz.isAgg248
  z171 := Tryz.sizeOf248
  v171 := Tryz.zeroValue248
  t173 := Tryz.underlying252
  a173 := Tryz.isAgg252
  z173 := Tryz.sizeOf252
  v173 := Tryz.zeroValue252
  t212 := Tryz.underlying293
  a212 := Tryz.isAgg293
  z212 := Tryz.sizeOf293
  v212 := Tryz.zeroValue293
  t213 := Tryz.underlying294
  a213 := Tryz.isAgg294
  z213 := Tryz.sizeOf294
  t232 := Tryz.underlying339
  a232 := Tryz.isAgg339
  z232 := Tryz.sizeOf339
  v232 := Tryz.zeroValue339
  t233 := Tryz.underlying340
  a233 := Tryz.isAgg340
  z233 := Tryz.sizeOf340
  v233 := Tryz.zeroValue340
  g17 := by kernel_rfl
  g18 := by kernel_rfl
  g19 := by kernel_rfl
  i0 := by kernel_rfl
  i2 := by kernel_rfl
  i3 := by kernel_rfl
  i4 := by kernel_rfl
  i5 := by kernel_rfl
  i9 := by kernel_rfl
  i20 := by kernel_rfl
  i37 := by kernel_rfl
  i46 := by kernel_rfl
  i51 := by kernel_rfl
  i53 := by kernel_rfl
  i171 := by kernel_rfl
  i173 := by kernel_rfl
  i212 := by kernel_rfl
  i232 := by kernel_rfl
  i233 := by kernel_rfl
  m17 := by kernel_rfl
  m18 := by kernel_rfl
  m19 := by kernel_rfl }
open Go.RowKit Go.Sort Go.Lib in
theorem Tryz.strconv_Itoa (n : Int) (h0 : -9223372036854775808 ≤ n) (h1 : n ≤ 9223372036854775807) (w : World) (htab : Lib.TabIs Tryz.prog w "internal/strconv.uint64pow10" .u64 Lib.pow10Tab) :
    Calls Tryz.prog 53 #[.int .i64 n] w fun e w' => e = .returned (.string ⟨(Lib.itoa n).toArray⟩) ∧ ∃ k os, w' = grow (w.drewN k) os := Any.strconv_Itoa Tryz.laysM171 n h0 h1 w htab
def Tryz.laysC172_ren : Go.Shelf.Ren := ⟨fun | 172 => 129 | 244 => 206 | 245 => 207 | 247 => 241 | 279 => 242 | 280 => 243 | 281 => 244 | 282 => 245 | 287 => 285 | 316 => 286 | 171 => 53 | 205 => 287 | 321 => 313 | 322 => 314 | 243 => 147 | 246 => 216 | 283 => 249 | 284 => 250 | 285 => 251 | 286 => 252 | 129 => 276 | 317 => 288 | 318 => 289 | 319 => 290 | 320 => 291 | 337 => 315 | 338 => 316 | n => n, fun | 9 => 9 | 3 => 3 | 75 => 94 | 76 => 95 | 4 => 4 | 5 => 5 | 167 => 240 | 37 => 76 | 0 => 0 | 85 => 241 | 2 => 2 | 168 => 243 | 53 => 249 | 175 => 286 | 46 => 224 | 210 => 289 | 127 => 155 | 145 => 319 | 143 => 317 | 21 => 21 | 171 => 248 | 173 => 252 | 212 => 293 | 51 => 277 | 20 => 20 | 213 => 294 | 232 => 339 | 233 => 340 | 80 => 98 | n => n, fun | 15 => 1 | 16 => 2 | 17 => 3 | 18 => 4 | 19 => 5 | n => n⟩
theorem Tryz.laysC172 : Go.Proofs.LaysC.n172 Tryz.prog Tryz.laysC172_ren := {
  mixed := by kernel_rfl
  f129 := Tryz.func276.trans (congrArg some (by kernel_rfl))
  f171 := Tryz.func53.trans (congrArg some (by kernel_rfl))
  f172 := Tryz.func129.trans (congrArg some (by kernel_rfl))
  f205 := Tryz.func287.trans (congrArg some (by kernel_rfl))
  f243 := Tryz.func147.trans (congrArg some (by kernel_rfl))
  f244 := Tryz.func206.trans (congrArg some (by kernel_rfl))
  f245 := Tryz.func207.trans (congrArg some (by kernel_rfl))
  f246 := Tryz.func216.trans (congrArg some (by kernel_rfl))
  f247 := Tryz.func241.trans (congrArg some (by kernel_rfl))
  f279 := Tryz.func242.trans (congrArg some (by kernel_rfl))
  f280 := Tryz.func243.trans (congrArg some (by kernel_rfl))
  f281 := Tryz.func244.trans (congrArg some (by kernel_rfl))
  f282 := Tryz.func245.trans (congrArg some (by kernel_rfl))
  f283 := Tryz.func249.trans (congrArg some (by kernel_rfl))
  f284 := Tryz.func250.trans (congrArg some (by kernel_rfl))
  f285 := Tryz.func251.trans (congrArg some (by kernel_rfl))
  f286 := Tryz.func252.trans (congrArg some (by kernel_rfl))
  f287 := Tryz.func285.trans (congrArg some (by kernel_rfl))
  f316 := Tryz.func286.trans (congrArg some (by kernel_rfl))
  f317 := Tryz.func288.trans (congrArg some (by kernel_rfl))
  f318 := Tryz.func289.trans (congrArg some (by kernel_rfl))
  f319 := Tryz.func290.trans (congrArg some (by kernel_rfl))
  f320 := Tryz.func291.trans (congrArg some (by kernel_rfl))
  f321 := Tryz.func313.trans (congrArg some (by kernel_rfl))
  f322 := Tryz.func314.trans (congrArg some (by kernel_rfl))
  f337 := Tryz.func315.trans (congrArg some (by kernel_rfl))
  f338 := Tryz.func316.trans (congrArg some (by kernel_rfl))
  t0 := Tryz.underlying0
  a0 := Tryz.isAgg0
  z0 := Tryz.sizeOf0
  v0 := Tryz.zeroValue0
  t2 := Tryz.underlying2
  a2 := Tryz.isAgg2
  z2 := Tryz.sizeOf2
  v2 := Tryz.zeroValue2
  t3 := Tryz.underlying3
  a3 := Tryz.isAgg3
  z3 := Tryz.sizeOf3
  v3 := Tryz.zeroValue3
  t4 := Tryz.underlying4
  a4 := Tryz.isAgg4
  z4 := Tryz.sizeOf4
  v4 := Tryz.zeroValue4
  t5 := Tryz.underlying5
  a5 := Tryz.isAgg5
  z5 := Tryz.sizeOf5
  v5 := Tryz.zeroValue5
  t9 := Tryz.underlying9
  a9 := Tryz.isAgg9
  z9 := Tryz.sizeOf9
  v9 := Tryz.zeroValue9
  t20 := Tryz.underlying20
  a20 := Tryz.isAgg20
  z20 := Tryz.sizeOf20
  v20 := Tryz.zeroValue20
  t21 := Tryz.underlying21
  a21 := Tryz.isAgg21
  z21 := Tryz.sizeOf21
  v21 := Tryz.zeroValue21
  t37 := Tryz.underlying76
  a37 := Tryz.isAgg76
  z37 := Tryz.sizeOf76
  v37 := Tryz.zeroValue76
  t46 := Tryz.underlying224
  a46 := Tryz.isAgg224
  z46 := Tryz.sizeOf224
  v46 := Tryz.zeroValue224
  t51 := Tryz.underlying277
  a51 := Tryz.isAgg277
  z51 := Tryz.sizeOf277
  v51 := Tryz.zeroValue277
  t53 := Tryz.underlying249
  a53 := Tryz.isAgg249
  z53 := Tryz.sizeOf249
  v53 := Tryz.zeroValue249
  t75 := Tryz.underlying94
  a75 := Tryz.isAgg94
  z75 := Tryz.sizeOf94
  v75 := Tryz.zeroValue94
  t76 := Tryz.underlying95
  a76 := Tryz.isAgg95
  z76 := Tryz.sizeOf95
  v76 := Tryz.zeroValue95
  t85 := Tryz.underlying241
  a85 := Tryz.isAgg241
  z85 := Tryz.sizeOf241
  v85 := Tryz.zeroValue241
  t127 := Tryz.underlying155
  a127 := Tryz.isAgg155
  z127 := Tryz.sizeOf155
  v127 := Tryz.zeroValue155
  t143 := Tryz.underlying317
  a143 := Tryz.isAgg317
  z143 := Tryz.sizeOf317
  v143 := Tryz.zeroValue317
  t145 := Tryz.underlying319
  a145 := Tryz.isAgg319
  z145 := Tryz.sizeOf319
  v145 := Tryz.zeroValue319
  t167 := Tryz.underlying240
  a167 := Tryz.isAgg240
  z167 := Tryz.sizeOf240
  v167 := Tryz.zeroValue240
  t168 := Tryz.underlying243
  a168 := Tryz.isAgg243
  z168 := Tryz.sizeOf243
  v168 := Tryz.zeroValue243
  t171 := Tryz.underlying248
  a171 := Tryz.isAgg248
  z171 := Tryz.sizeOf248
  v171 := Tryz.zeroValue248
  t173 := Tryz.underlying252
  a173 := Tryz.isAgg252
  z173 := Tryz.sizeOf252
  v173 := Tryz.zeroValue252
  t175 := Tryz.underlying286
  a175 := Tryz.isAgg286
  z175 := Tryz.sizeOf286
  v175 := Tryz.zeroValue286
  t210 := Tryz.underlying289
  a210 := Tryz.isAgg289
  z210 := Tryz.sizeOf289
  v210 := Tryz.zeroValue289
  t212 := Tryz.underlying293
  a212 := Tryz.isAgg293
  z212 := Tryz.sizeOf293
  v212 := Tryz.zeroValue293
  t213 := Tryz.underlying294
  a213 := Tryz.isAgg294
  z213 := Tryz.sizeOf294
  t232 := Tryz.underlying339
  a232 := Tryz.isAgg339
  z232 := Tryz.sizeOf339
  v232 := Tryz.zeroValue339
  t233 := Tryz.underlying340
  a233 := Tryz.isAgg340
  z233 := Tryz.sizeOf340
  v233 := Tryz.zeroValue340
  g15 := by kernel_rfl
  g16 := by kernel_rfl
  g17 := by kernel_rfl
  g18 := by kernel_rfl
  g19 := by kernel_rfl
  t80 := Tryz.underlying98
  a80 := Tryz.isAgg98
  z80 := Tryz.sizeOf98
  v80 := Tryz.zeroValue98
  i0 := by kernel_rfl
  i2 := by kernel_rfl
  i3 := by kernel_rfl
  i4 := by kernel_rfl
  i5 := by kernel_rfl
  i9 := by kernel_rfl
  i20 := by kernel_rfl
  i21 := by kernel_rfl
  i37 := by kernel_rfl
  i46 := by kernel_rfl
  i51 := by kernel_rfl
  i53 := by kernel_rfl
  i75 := by kernel_rfl
  i76 := by kernel_rfl
  i80 := by kernel_rfl
  i85 := by kernel_rfl
  i127 := by kernel_rfl
  i143 := by kernel_rfl
  i145 := by kernel_rfl
  i167 := by kernel_rfl
  i168 := by kernel_rfl
  i171 := by kernel_rfl
  i173 := by kernel_rfl
  i175 := by kernel_rfl
  i210 := by kernel_rfl
  i212 := by kernel_rfl
  i232 := by kernel_rfl
  i233 := by kernel_rfl
  m15 := by kernel_rfl
  m16 := by kernel_rfl
  m17 := by kernel_rfl
  m18 := by kernel_rfl
  m19 := by kernel_rfl
  c0 := by kernel_rfl
  c2 := by kernel_rfl
  c3 := by kernel_rfl
  c4 := by kernel_rfl
  c5 := by kernel_rfl
  c9 := by kernel_rfl
  c20 := by kernel_rfl
  c21 := by kernel_rfl
  c37 := by kernel_rfl
  c46 := by kernel_rfl
  c51 := by kernel_rfl
  c53 := by kernel_rfl
  c75 := by kernel_rfl
  c76 := by kernel_rfl
  c80 := by kernel_rfl
  c85 := by kernel_rfl
  c127 := by kernel_rfl
  c143 := by kernel_rfl
  c145 := by kernel_rfl
  c167 := by kernel_rfl
  c168 := by kernel_rfl
  c171 := by kernel_rfl
  c173 := by kernel_rfl
  c175 := by kernel_rfl
  c210 := by kernel_rfl
  c212 := by kernel_rfl
  c213 := by kernel_rfl
  c232 := by kernel_rfl
  c233 := by kernel_rfl }
open Go.RowKit in
theorem Tryz.strconv_Atoi_ok (s : ByteArray) (hmax : s.size ≤ 9223372036854775806) (v : Int) (h : Lib.atoiAll s.data.toList = .ok v) (w : World) :
    Calls Tryz.prog 129 #[.string s] w fun e w' => e = .returned (.tuple #[.int .i64 v, .nilIface]) ∧ (w' = w ∨ ∃ t, w' = Lib.bytesWorld w 5 t) := Any.strconv_Atoi_ok Tryz.laysC172 s hmax v h w
open Go.RowKit in
theorem Tryz.strconv_Atoi_syntax (s : ByteArray) (hlim : s.size ≤ 281474976710656) (h : Lib.atoiAll s.data.toList = .«syntax») (ev : Value) (w : World) (hv : w.cell? ⟨1, 0, none⟩ = some ev) (hev : ev = .nilIface ∨ ∃ te pe, ev = .iface te pe) :
    Calls Tryz.prog 129 #[.string s] w fun e w' => ∃ N, e = .returned (.tuple #[.int .i64 (0), .iface 243 (.pointer (some ⟨N, 0, none⟩))]) ∧ w.heap.size ≤ N ∧ w'.heap[N]? = some (.cells #[.string ⟨#[65, 116, 111, 105]⟩, .string s, ev] 289 (0, 0)) ∧ Below w.heap.size w w' := Any.strconv_Atoi_syntax Tryz.laysC172 s hlim h ev w hv hev
open Go.RowKit in
theorem Tryz.strconv_Atoi_range (s : ByteArray) (hlim : s.size ≤ 281474976710656) (h : Lib.atoiAll s.data.toList = .range) (ev : Value) (w : World) (hv : w.cell? ⟨2, 0, none⟩ = some ev) (hev : ev = .nilIface ∨ ∃ te pe, ev = .iface te pe) :
    Calls Tryz.prog 129 #[.string s] w fun e w' => ∃ N, e = .returned (.tuple #[.int .i64 (Lib.atoiSat s.data.toList), .iface 243 (.pointer (some ⟨N, 0, none⟩))]) ∧ w.heap.size ≤ N ∧ w'.heap[N]? = some (.cells #[.string ⟨#[65, 116, 111, 105]⟩, .string s, ev] 289 (0, 0)) ∧ Below w.heap.size w w' := Any.strconv_Atoi_range Tryz.laysC172 s hlim h ev w hv hev
def Tryz.lays99_ren : Go.Shelf.Ren := ⟨fun | 99 => 318 | 206 => 342 | n => n, fun | 9 => 9 | 4 => 4 | 3 => 3 | n => n, fun | n => n⟩
theorem Tryz.lays99 : Go.Proofs.Lays.n99 Tryz.prog Tryz.lays99_ren := {
  mixed := by kernel_rfl
  f99 := Tryz.func318.trans (congrArg some (by kernel_rfl))
  f206 := Tryz.func342.trans (congrArg some (by kernel_rfl))
  t3 := Tryz.underlying3
  a3 := Tryz.isAgg3
  z3 := Tryz.sizeOf3
  v3 := Tryz.zeroValue3
  t4 := Tryz.underlying4
  a4 := Tryz.isAgg4
  z4 := Tryz.sizeOf4
  v4 := Tryz.zeroValue4
  t9 := Tryz.underlying9
  a9 := Tryz.isAgg9
  z9 := Tryz.sizeOf9
  v9 := Tryz.zeroValue9 }
open Go.RowKit Go.Lib in
theorem Tryz.strings_HasPrefix (s p : ByteArray) (w : World) :
    Calls Tryz.prog 318 #[.string s, .string p] w fun e w' => e = .returned (.bool (Lib.hasPrefix s.data.toList p.data.toList)) ∧ w' = w := Any.strings_HasPrefix Tryz.lays99 s p w
end Go.Proofs

