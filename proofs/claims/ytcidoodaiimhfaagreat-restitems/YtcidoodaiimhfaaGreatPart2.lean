/- Part 2 of what the proof leans on: RChk2, RChk3, RChk4, RChk5, RChk6, Lst4, Lst5, Lst6, Lst9, Lst1b, Lst7, Lst8, LBeg, SPl, HPl, HVal, HCol. -/
import Derived.Test.YtcidoodaiimhfaaGreatPart1
import Derived.Handy
import Derived.BigQuiet
import Derived.Deep.RegionHeld3
import Derived.BigRegion
import Derived.Lib.SlicesCompact
import Derived.Sort.KeysCollected
import Derived.Sort.MapsRangeIn
import Derived.Maps.OwnIn
import Derived.RangeFuncMany
import Derived.RangeFuncLeaves
import Derived.RangeFuncKeeps
import Derived.WalkKit
import Derived.OwnWalkIn
import Derived.TacticsInMore
import Derived.RegionIn
import Derived.LoopNIn
import Derived.LoopIn
import Derived.Shelf.Abstract
import Derived.Shelf.AbstractIn
import Derived.RangeFuncNested
import Derived.RangeFuncBound
import Derived.RangeFuncCalls
import Derived.RangeFuncBox
import Derived.Maps.AppendAt
import Derived.Shelf.RegionOpen
/- WALKS of the reference's check of an item: kinds, what is other, texts. -/
namespace Go.Proofs.YtcidoodaiimhfaaGreat
open Go.RowKit

theorem between15 (k : Int) (w : World) (h : 1 ≤ k ∧ k ≤ 5) : Calls Tryz.prog 64 #[.int .i64 k, .int .i64 1, .int .i64 5] w fun e w' => e = .returned (.bool true) ∧ w' = w := by
  have hh := between_any k 1 5 w
  rw [decide_eq_true h] at hh
  exact hh
set_option maxRecDepth 100000 in
set_option maxHeartbeats 4000000 in
theorem refC_bad (k : Int) (t : ByteArray) (a1 a2 a3 : Option Addr) (c1 c2 c3 : Nat) (n1 n2 n3 : Nat) (w : World) (h : k < 1 ∨ 5 < k) :
    Calls Tryz.prog 13 #[.agg #[.int .i64 k, .string t, .slice a1 n1 c1, .slice a2 n2 c2, .slice a3 n3 c3]] w fun e w' => e = .returned (.int .i64 7) ∧ Below w.heap.size w w' := by
  have HB : Hid (∀ W, Calls Tryz.prog 64 #[.int .i64 k, .int .i64 1, .int .i64 5] W fun e w' => e = .returned (.bool false) ∧ w' = W) := fun W => by
    have hh := between_any k 1 5 W
    rw [decide_eq_false (by omega)] at hh
    exact hh
  go_enter Tryz.func13, Tryz.ntmps13
  go_wp2_with fail
  refine (HB.out _).mono ?_
  rintro e w1 ⟨rfl, rfl⟩
  go_wp2_with fail
  go_ret
  exact ⟨rfl, (Below.refl _ _).alloc (Nat.le_refl _) _⟩
set_option maxRecDepth 100000 in
set_option maxHeartbeats 4000000 in
theorem refC_o1l (t : ByteArray) (n1 : Nat) (n2 : Nat) (n3 : Nat) (a1 a2 a3 : Option Addr) (c1 c2 c3 : Nat) (w : World) (h : 0 < n1) :
    Calls Tryz.prog 13 #[.agg #[.int .i64 1, .string t, .slice a1 n1 c1, .slice a2 n2 c2, .slice a3 n3 c3]] w fun e w' => e = .returned (.int .i64 1) ∧ Below w.heap.size w w' := by
  have h1 : (0 : Int) < ((n1 : Nat) : Int) := by omega
  have h2 : ¬ n1 = 0 := by omega
  go_enter Tryz.func13, Tryz.ntmps13
  go_wp2_with fail
  refine (between15 _ _ (by decide)).mono ?_
  rintro e w1 ⟨rfl, rfl⟩
  go_wp2_with fail
  go_ret
  exact ⟨rfl, (Below.refl _ _).alloc (Nat.le_refl _) _⟩
set_option maxRecDepth 100000 in
set_option maxHeartbeats 4000000 in
theorem refC_o1p (t : ByteArray) (n2 : Nat) (n3 : Nat) (a1 a2 a3 : Option Addr) (c1 c2 c3 : Nat) (w : World) (h : 0 < n2) :
    Calls Tryz.prog 13 #[.agg #[.int .i64 1, .string t, .slice a1 0 c1, .slice a2 n2 c2, .slice a3 n3 c3]] w fun e w' => e = .returned (.int .i64 1) ∧ Below w.heap.size w w' := by
  have h1 : (0 : Int) < ((n2 : Nat) : Int) := by omega
  have h2 : ¬ n2 = 0 := by omega
  go_enter Tryz.func13, Tryz.ntmps13
  go_wp2_with fail
  refine (between15 _ _ (by decide)).mono ?_
  rintro e w1 ⟨rfl, rfl⟩
  go_wp2_with fail
  go_ret
  exact ⟨rfl, (Below.refl _ _).alloc (Nat.le_refl _) _⟩
set_option maxRecDepth 100000 in
set_option maxHeartbeats 4000000 in
theorem refC_o1s (t : ByteArray) (n3 : Nat) (a1 a2 a3 : Option Addr) (c1 c2 c3 : Nat) (w : World) (h : 0 < n3) :
    Calls Tryz.prog 13 #[.agg #[.int .i64 1, .string t, .slice a1 0 c1, .slice a2 0 c2, .slice a3 n3 c3]] w fun e w' => e = .returned (.int .i64 1) ∧ Below w.heap.size w w' := by
  have h1 : (0 : Int) < ((n3 : Nat) : Int) := by omega
  have h2 : ¬ n3 = 0 := by omega
  go_enter Tryz.func13, Tryz.ntmps13
  go_wp2_with fail
  refine (between15 _ _ (by decide)).mono ?_
  rintro e w1 ⟨rfl, rfl⟩
  go_wp2_with fail
  go_ret
  exact ⟨rfl, (Below.refl _ _).alloc (Nat.le_refl _) _⟩
set_option maxRecDepth 100000 in
set_option maxHeartbeats 4000000 in
theorem refC_o2t (t : ByteArray) (n1 : Nat) (n2 : Nat) (n3 : Nat) (a1 a2 a3 : Option Addr) (c1 c2 c3 : Nat) (w : World) (h : ¬ t.toList = []) :
    Calls Tryz.prog 13 #[.agg #[.int .i64 2, .string t, .slice a1 n1 c1, .slice a2 n2 c2, .slice a3 n3 c3]] w fun e w' => e = .returned (.int .i64 1) ∧ Below w.heap.size w w' := by
  have h1 : (t.toList == []) = false := by rw [beq_eq_false_iff_ne]; exact h
  go_enter Tryz.func13, Tryz.ntmps13
  go_wp2_with fail
  refine (between15 _ _ (by decide)).mono ?_
  rintro e w1 ⟨rfl, rfl⟩
  go_wp2_with fail
  go_ret
  exact ⟨rfl, (Below.refl _ _).alloc (Nat.le_refl _) _⟩
set_option maxRecDepth 100000 in
set_option maxHeartbeats 4000000 in
theorem refC_o2p (n1 : Nat) (n2 : Nat) (n3 : Nat) (a1 a2 a3 : Option Addr) (c1 c2 c3 : Nat) (w : World) (h : 0 < n2) :
    Calls Tryz.prog 13 #[.agg #[.int .i64 2, .string ⟨#[]⟩, .slice a1 n1 c1, .slice a2 n2 c2, .slice a3 n3 c3]] w fun e w' => e = .returned (.int .i64 1) ∧ Below w.heap.size w w' := by
  have h1 : (0 : Int) < ((n2 : Nat) : Int) := by omega
  have h2 : ¬ n2 = 0 := by omega
  go_enter Tryz.func13, Tryz.ntmps13
  go_wp2_with fail
  refine (between15 _ _ (by decide)).mono ?_
  rintro e w1 ⟨rfl, rfl⟩
  go_wp2_with fail
  go_ret
  exact ⟨rfl, (Below.refl _ _).alloc (Nat.le_refl _) _⟩
set_option maxRecDepth 100000 in
set_option maxHeartbeats 4000000 in
theorem refC_o2s (n1 : Nat) (n3 : Nat) (a1 a2 a3 : Option Addr) (c1 c2 c3 : Nat) (w : World) (h : 0 < n3) :
    Calls Tryz.prog 13 #[.agg #[.int .i64 2, .string ⟨#[]⟩, .slice a1 n1 c1, .slice a2 0 c2, .slice a3 n3 c3]] w fun e w' => e = .returned (.int .i64 1) ∧ Below w.heap.size w w' := by
  have h1 : (0 : Int) < ((n3 : Nat) : Int) := by omega
  have h2 : ¬ n3 = 0 := by omega
  go_enter Tryz.func13, Tryz.ntmps13
  go_wp2_with fail
  refine (between15 _ _ (by decide)).mono ?_
  rintro e w1 ⟨rfl, rfl⟩
  go_wp2_with fail
  go_ret
  exact ⟨rfl, (Below.refl _ _).alloc (Nat.le_refl _) _⟩
set_option maxRecDepth 100000 in
set_option maxHeartbeats 4000000 in
theorem refC_o3t (t : ByteArray) (n1 : Nat) (n2 : Nat) (n3 : Nat) (a1 a2 a3 : Option Addr) (c1 c2 c3 : Nat) (w : World) (h : ¬ t.toList = []) :
    Calls Tryz.prog 13 #[.agg #[.int .i64 3, .string t, .slice a1 n1 c1, .slice a2 n2 c2, .slice a3 n3 c3]] w fun e w' => e = .returned (.int .i64 1) ∧ Below w.heap.size w w' := by
  have h1 : (t.toList == []) = false := by rw [beq_eq_false_iff_ne]; exact h
  go_enter Tryz.func13, Tryz.ntmps13
  go_wp2_with fail
  refine (between15 _ _ (by decide)).mono ?_
  rintro e w1 ⟨rfl, rfl⟩
  go_wp2_with fail
  go_ret
  exact ⟨rfl, (Below.refl _ _).alloc (Nat.le_refl _) _⟩
set_option maxRecDepth 100000 in
set_option maxHeartbeats 4000000 in
theorem refC_o3p (n1 : Nat) (n2 : Nat) (n3 : Nat) (a1 a2 a3 : Option Addr) (c1 c2 c3 : Nat) (w : World) (h : 0 < n2) :
    Calls Tryz.prog 13 #[.agg #[.int .i64 3, .string ⟨#[]⟩, .slice a1 n1 c1, .slice a2 n2 c2, .slice a3 n3 c3]] w fun e w' => e = .returned (.int .i64 1) ∧ Below w.heap.size w w' := by
  have h1 : (0 : Int) < ((n2 : Nat) : Int) := by omega
  have h2 : ¬ n2 = 0 := by omega
  go_enter Tryz.func13, Tryz.ntmps13
  go_wp2_with fail
  refine (between15 _ _ (by decide)).mono ?_
  rintro e w1 ⟨rfl, rfl⟩
  go_wp2_with fail
  go_ret
  exact ⟨rfl, (Below.refl _ _).alloc (Nat.le_refl _) _⟩
set_option maxRecDepth 100000 in
set_option maxHeartbeats 4000000 in
theorem refC_o3s (n1 : Nat) (n3 : Nat) (a1 a2 a3 : Option Addr) (c1 c2 c3 : Nat) (w : World) (h : 0 < n3) :
    Calls Tryz.prog 13 #[.agg #[.int .i64 3, .string ⟨#[]⟩, .slice a1 n1 c1, .slice a2 0 c2, .slice a3 n3 c3]] w fun e w' => e = .returned (.int .i64 1) ∧ Below w.heap.size w w' := by
  have h1 : (0 : Int) < ((n3 : Nat) : Int) := by omega
  have h2 : ¬ n3 = 0 := by omega
  go_enter Tryz.func13, Tryz.ntmps13
  go_wp2_with fail
  refine (between15 _ _ (by decide)).mono ?_
  rintro e w1 ⟨rfl, rfl⟩
  go_wp2_with fail
  go_ret
  exact ⟨rfl, (Below.refl _ _).alloc (Nat.le_refl _) _⟩
set_option maxRecDepth 100000 in
set_option maxHeartbeats 4000000 in
theorem refC_o4t (t : ByteArray) (n1 : Nat) (n2 : Nat) (n3 : Nat) (a1 a2 a3 : Option Addr) (c1 c2 c3 : Nat) (w : World) (h : ¬ t.toList = []) :
    Calls Tryz.prog 13 #[.agg #[.int .i64 4, .string t, .slice a1 n1 c1, .slice a2 n2 c2, .slice a3 n3 c3]] w fun e w' => e = .returned (.int .i64 1) ∧ Below w.heap.size w w' := by
  have h1 : (t.toList == []) = false := by rw [beq_eq_false_iff_ne]; exact h
  go_enter Tryz.func13, Tryz.ntmps13
  go_wp2_with fail
  refine (between15 _ _ (by decide)).mono ?_
  rintro e w1 ⟨rfl, rfl⟩
  go_wp2_with fail
  go_ret
  exact ⟨rfl, (Below.refl _ _).alloc (Nat.le_refl _) _⟩
set_option maxRecDepth 100000 in
set_option maxHeartbeats 4000000 in
theorem refC_o4l (n1 : Nat) (n2 : Nat) (n3 : Nat) (a1 a2 a3 : Option Addr) (c1 c2 c3 : Nat) (w : World) (h : 0 < n1) :
    Calls Tryz.prog 13 #[.agg #[.int .i64 4, .string ⟨#[]⟩, .slice a1 n1 c1, .slice a2 n2 c2, .slice a3 n3 c3]] w fun e w' => e = .returned (.int .i64 1) ∧ Below w.heap.size w w' := by
  have h1 : (0 : Int) < ((n1 : Nat) : Int) := by omega
  have h2 : ¬ n1 = 0 := by omega
  go_enter Tryz.func13, Tryz.ntmps13
  go_wp2_with fail
  refine (between15 _ _ (by decide)).mono ?_
  rintro e w1 ⟨rfl, rfl⟩
  go_wp2_with fail
  go_ret
  exact ⟨rfl, (Below.refl _ _).alloc (Nat.le_refl _) _⟩
set_option maxRecDepth 100000 in
set_option maxHeartbeats 4000000 in
theorem refC_o4s (n2 : Nat) (n3 : Nat) (a1 a2 a3 : Option Addr) (c1 c2 c3 : Nat) (w : World) (h : 0 < n3) :
    Calls Tryz.prog 13 #[.agg #[.int .i64 4, .string ⟨#[]⟩, .slice a1 0 c1, .slice a2 n2 c2, .slice a3 n3 c3]] w fun e w' => e = .returned (.int .i64 1) ∧ Below w.heap.size w w' := by
  have h1 : (0 : Int) < ((n3 : Nat) : Int) := by omega
  have h2 : ¬ n3 = 0 := by omega
  go_enter Tryz.func13, Tryz.ntmps13
  go_wp2_with fail
  refine (between15 _ _ (by decide)).mono ?_
  rintro e w1 ⟨rfl, rfl⟩
  go_wp2_with fail
  go_ret
  exact ⟨rfl, (Below.refl _ _).alloc (Nat.le_refl _) _⟩
set_option maxRecDepth 100000 in
set_option maxHeartbeats 4000000 in
theorem refC_o5t (t : ByteArray) (n1 : Nat) (n2 : Nat) (n3 : Nat) (a1 a2 a3 : Option Addr) (c1 c2 c3 : Nat) (w : World) (h : ¬ t.toList = []) :
    Calls Tryz.prog 13 #[.agg #[.int .i64 5, .string t, .slice a1 n1 c1, .slice a2 n2 c2, .slice a3 n3 c3]] w fun e w' => e = .returned (.int .i64 1) ∧ Below w.heap.size w w' := by
  have h1 : (t.toList == []) = false := by rw [beq_eq_false_iff_ne]; exact h
  go_enter Tryz.func13, Tryz.ntmps13
  go_wp2_with fail
  refine (between15 _ _ (by decide)).mono ?_
  rintro e w1 ⟨rfl, rfl⟩
  go_wp2_with fail
  go_ret
  exact ⟨rfl, (Below.refl _ _).alloc (Nat.le_refl _) _⟩
set_option maxRecDepth 100000 in
set_option maxHeartbeats 4000000 in
theorem refC_o5l (n1 : Nat) (n2 : Nat) (n3 : Nat) (a1 a2 a3 : Option Addr) (c1 c2 c3 : Nat) (w : World) (h : 0 < n1) :
    Calls Tryz.prog 13 #[.agg #[.int .i64 5, .string ⟨#[]⟩, .slice a1 n1 c1, .slice a2 n2 c2, .slice a3 n3 c3]] w fun e w' => e = .returned (.int .i64 1) ∧ Below w.heap.size w w' := by
  have h1 : (0 : Int) < ((n1 : Nat) : Int) := by omega
  have h2 : ¬ n1 = 0 := by omega
  go_enter Tryz.func13, Tryz.ntmps13
  go_wp2_with fail
  refine (between15 _ _ (by decide)).mono ?_
  rintro e w1 ⟨rfl, rfl⟩
  go_wp2_with fail
  go_ret
  exact ⟨rfl, (Below.refl _ _).alloc (Nat.le_refl _) _⟩
set_option maxRecDepth 100000 in
set_option maxHeartbeats 4000000 in
theorem refC_o5p (n2 : Nat) (n3 : Nat) (a1 a2 a3 : Option Addr) (c1 c2 c3 : Nat) (w : World) (h : 0 < n2) :
    Calls Tryz.prog 13 #[.agg #[.int .i64 5, .string ⟨#[]⟩, .slice a1 0 c1, .slice a2 n2 c2, .slice a3 n3 c3]] w fun e w' => e = .returned (.int .i64 1) ∧ Below w.heap.size w w' := by
  have h1 : (0 : Int) < ((n2 : Nat) : Int) := by omega
  have h2 : ¬ n2 = 0 := by omega
  go_enter Tryz.func13, Tryz.ntmps13
  go_wp2_with fail
  refine (between15 _ _ (by decide)).mono ?_
  rintro e w1 ⟨rfl, rfl⟩
  go_wp2_with fail
  go_ret
  exact ⟨rfl, (Below.refl _ _).alloc (Nat.le_refl _) _⟩
set_option maxRecDepth 100000 in
set_option maxHeartbeats 4000000 in
theorem refC_1 (t : ByteArray) (a1 a2 a3 : Option Addr) (c1 c2 c3 : Nat) (w : World) :
    Calls Tryz.prog 13 #[.agg #[.int .i64 1, .string t, .slice a1 0 c1, .slice a2 0 c2, .slice a3 0 c3]] w fun e w' => e = .returned (.int .i64 (if longT t = true then 2 else 0)) ∧ Below w.heap.size w w' := by
  by_cases h : 60 < t.size
  · rw [if_pos (show longT t = true by unfold longT; exact decide_eq_true h)]
    have h' : (60 : Int) < ((t.size : Nat) : Int) := by omega
    go_enter Tryz.func13, Tryz.ntmps13
    go_wp2_with fail
    refine (between15 _ _ (by decide)).mono ?_
    rintro e w1 ⟨rfl, rfl⟩
    go_wp2_with fail
    go_ret
    exact ⟨rfl, (Below.refl _ _).alloc (Nat.le_refl _) _⟩
  · rw [if_neg (show ¬ longT t = true by unfold longT; simp; omega)]
    have h' : ¬ (60 : Int) < ((t.size : Nat) : Int) := by omega
    go_enter Tryz.func13, Tryz.ntmps13
    go_wp2_with fail
    refine (between15 _ _ (by decide)).mono ?_
    rintro e w1 ⟨rfl, rfl⟩
    go_wp2_with fail
    go_ret
    exact ⟨rfl, (Below.refl _ _).alloc (Nat.le_refl _) _⟩
end Go.Proofs.YtcidoodaiimhfaaGreat

/- WALKS of the reference's check of lists and sets. -/
namespace Go.Proofs.YtcidoodaiimhfaaGreat
open Go.RowKit

set_option maxRecDepth 100000 in
set_option maxHeartbeats 4000000 in
theorem refC_2 (a1 a2 a3 : Option Addr) (c1 c2 c3 : Nat) (l : List ByteArray) (w : World) (hs : TextsAt w a1 l) (hn : l.length ≤ 281474976710656) :
    Calls Tryz.prog 13 #[.agg #[.int .i64 2, .string ⟨#[]⟩, .slice a1 l.length c1, .slice a2 0 c2, .slice a3 0 c3]] w fun e w' => e = .returned (.int .i64 (sizeT (l).length ((l).any longT))) ∧ Below w.heap.size w w' := by
  have HS := hide hs
  clear hs
  by_cases h0 : l.length = 0
  · obtain rfl : l = [] := List.eq_nil_of_length_eq_zero h0
    rw [show (sizeT (([] : List ByteArray)).length ((([] : List ByteArray)).any longT)) = 5 from rfl]
    clear h0
    go_enter Tryz.func13, Tryz.ntmps13
    go_wp2_with fail
    refine (between15 _ _ (by decide)).mono ?_
    rintro e w1 ⟨rfl, rfl⟩
    go_wp2_with fail
    go_ret
    exact ⟨rfl, (Below.refl _ _).alloc (Nat.le_refl _) _⟩
  have h0b : (((l.length : Nat) : Int) == 0) = false := by rw [beq_eq_false_iff_ne]; omega
  by_cases h24 : 24 < l.length
  · rw [show (sizeT (l).length ((l).any longT)) = 2 by rw [sizeT, if_neg h0, if_pos (.inl h24)]]
    have h24' : (24 : Int) < ((l.length : Nat) : Int) := by omega
    go_enter Tryz.func13, Tryz.ntmps13
    go_wp2_with fail
    refine (between15 _ _ (by decide)).mono ?_
    rintro e w1 ⟨rfl, rfl⟩
    go_wp2_with fail
    go_ret
    exact ⟨rfl, (Below.refl _ _).alloc (Nat.le_refl _) _⟩
  have h24' : ¬ (24 : Int) < ((l.length : Nat) : Int) := by omega
  go_enter Tryz.func13, Tryz.ntmps13
  go_wp2_with fail
  refine (between15 _ _ (by decide)).mono ?_
  rintro e w1 ⟨rfl, rfl⟩
  go_wp2_with fail
  generalize hW0 : World.alloc w _ = W0
  have q2 : W0.cell? ⟨w.heap.size, 2, none⟩ = some (.slice a1 l.length c1) := by rw [← hW0]; simp [go_sem]
  have q3 : W0.cell? ⟨w.heap.size, 3, none⟩ = some (.slice a2 0 c2) := by rw [← hW0]; simp [go_sem]
  have q4 : W0.cell? ⟨w.heap.size, 4, none⟩ = some (.slice a3 0 c3) := by rw [← hW0]; simp [go_sem]
  have BW : Below w.heap.size w W0 := by rw [← hW0]; exact (Below.refl _ _).alloc (Nat.le_refl _) _
  have HB : Hid (∀ g o v, w.cell? ⟨g, o, none⟩ = some v → W0.cell? ⟨g, o, none⟩ = some v) := fun g o _ hv => (BW.cell (p := ⟨g, o, none⟩) (World.block_lt_of_cell? _ _ hv)).trans hv
  have zW : w.heap.size < W0.heap.size := by rw [← hW0]; simp
  clear hW0
  go_loop [5] (fun i => ∃ k : Nat, k ≤ l.length ∧ i = .int .i64 k ∧ Hid ((l.take k).any longT = false)) (fun i => l.length - (intOf i).toNat)
  case atStart => exact ⟨0, Nat.zero_le _, rfl, by simp [Hid]⟩
  case round =>
    obtain ⟨k, hk, rfl, HA⟩ := hrel
    by_cases hlt : k < l.length
    · have hlt' : ((k : Nat) : Int) < ((l.length : Nat) : Int) := by omega
      have HT : Hid ((l.take (k + 1)).any longT = ((l.take k).any longT || longT l[k])) := by
        rw [Hid, List.take_succ_eq_append_getElem hlt, List.any_append]
        simp
      have HF : Hid (longT l[k] = true → l.any longT = true) := fun hx => List.any_eq_true.mpr ⟨l[k], List.getElem_mem hlt, hx⟩
      obtain ⟨g, o, rfl, hcs⟩ : ∃ g o, a1 = some ⟨g, o, none⟩ ∧ ∀ i (h : i < l.length), w.cell? ⟨g, o + i, none⟩ = some (.string l[i]) := by
        rcases HS.out with h | h
        · subst h; simp at hlt
        · exact h
      have d0 : W0.cell? ⟨g, o + k, none⟩ = some (.string l[k]) := HB.out _ _ _ (hcs k hlt)
      clear hcs HS HB
      by_cases hx : 60 < l[k].size
      · have HY := hide (HF.out (by unfold longT; exact decide_eq_true hx))
        have hx' : (60 : Int) < ((l[k].size : Nat) : Int) := by omega
        clear HF HT
        go_wp2_with fail
        go_ret
        rw [show (sizeT (l).length ((l).any longT)) = 2 by rw [sizeT, if_neg h0, if_pos (.inr HY.out)]]
        exact ⟨rfl, BW⟩
      · have HY : Hid ((l.take (k + 1)).any longT = false) := by rw [Hid, HT.out, HA.out]; unfold longT; simp; omega
        have hx' : ¬ (60 : Int) < ((l[k].size : Nat) : Int) := by omega
        clear HF HT
        go_wp2_with fail
        go_round
        case rel => exact ⟨k + 1, by omega, by go_num, HY⟩
        case measure => simp [intOf]; omega
    · have hge : ¬ ((k : Nat) : Int) < ((l.length : Nat) : Int) := by omega
      have HY : Hid (l.any longT = false) := by have := HA.out; rw [List.take_of_length_le (by omega)] at this; exact this
      have HOK : Hid (sizeT l.length (l.any longT) = 0) := show sizeT l.length (l.any longT) = 0 by rw [sizeT, if_neg h0, if_neg (by rw [HY.out]; rintro (h | h); omega; cases h)]
      clear HA
      go_wp2_with fail
      refine wp_loop_rounds 1 ?_
      rw [rounds_succ]
      go_wp2_with fail
      refine wp_loop_rounds 1 ?_
      rw [rounds_succ]
      go_wp2_with fail
      go_loopw [8] (fun i wr => ∃ j : Nat, 1 ≤ j ∧ j ≤ l.length ∧ i = .int .i64 j ∧ Below W0.heap.size W0 wr) (fun i _ => l.length + 1 - (intOf i).toNat)
      case atStart => exact ⟨1, Nat.le_refl _, by omega, rfl, Below.refl _ _⟩
      case round =>
        obtain ⟨j, hj1, hj, rfl, hbr⟩ := hrel
        have r2 := (hbr.cell (p := ⟨w.heap.size, 2, none⟩) zW).trans q2
        have r3 := (hbr.cell (p := ⟨w.heap.size, 3, none⟩) zW).trans q3
        have r4 := (hbr.cell (p := ⟨w.heap.size, 4, none⟩) zW).trans q4
        have BR : Below w.heap.size w wr := BW.trans (hbr.mono BW.size)
        have HB2 : Hid (∀ g o v, w.cell? ⟨g, o, none⟩ = some v → wr.cell? ⟨g, o, none⟩ = some v) := fun g o _ hv => (BR.cell (p := ⟨g, o, none⟩) (World.block_lt_of_cell? _ _ hv)).trans hv
        clear q2 q3 q4 HB
        by_cases hjl : j < l.length
        · have hjl' : ((j : Nat) : Int) < ((l.length : Nat) : Int) := by omega
          go_wp2_with fail
          go_quiet (fail)
          go_wp2_with fail
          go_roundw
          case rel => exact ⟨j + 1, by omega, by omega, by go_num, below_drewN' hbr _⟩
          case measure => simp [intOf]; omega
        · have hjl' : ¬ ((j : Nat) : Int) < ((l.length : Nat) : Int) := by omega
          go_wp2_with fail
          refine wp_loop_rounds 1 ?_
          rw [rounds_succ]
          go_wp2_with fail
          refine wp_loop_rounds 1 ?_
          rw [rounds_succ]
          go_wp2_with fail
          refine wp_loop_rounds 1 ?_
          rw [rounds_succ]
          go_wp2_with fail
          refine wp_loop_rounds 1 ?_
          rw [rounds_succ]
          go_wp2_with fail
          go_ret
          rw [HOK.out]
          exact ⟨rfl, BR⟩

set_option maxRecDepth 100000 in
set_option maxHeartbeats 4000000 in
theorem refC_3 (a1 a2 a3 : Option Addr) (c1 c2 c3 : Nat) (l : List ByteArray) (w : World) (hs : TextsAt w a1 l) (hn : l.length ≤ 281474976710656) (hz : ∀ t ∈ l, t.size ≤ maxLen) :
    Calls Tryz.prog 13 #[.agg #[.int .i64 3, .string ⟨#[]⟩, .slice a1 l.length c1, .slice a2 0 c2, .slice a3 0 c3]] w fun e w' => e = .returned (.int .i64 (setT l)) ∧ Below w.heap.size w w' := by
  have HS := hide hs
  clear hs
  have HZ := hide hz
  clear hz
  by_cases h0 : l.length = 0
  · obtain rfl : l = [] := List.eq_nil_of_length_eq_zero h0
    rw [show (setT ([] : List ByteArray)) = 5 from rfl]
    clear h0
    go_enter Tryz.func13, Tryz.ntmps13
    go_wp2_with fail
    refine (between15 _ _ (by decide)).mono ?_
    rintro e w1 ⟨rfl, rfl⟩
    go_wp2_with fail
    go_ret
    exact ⟨rfl, (Below.refl _ _).alloc (Nat.le_refl _) _⟩
  have h0b : (((l.length : Nat) : Int) == 0) = false := by rw [beq_eq_false_iff_ne]; omega
  by_cases h24 : 24 < l.length
  · rw [show (setT l) = 2 by rw [setT, if_pos (by rw [sizeT, if_neg h0, if_pos (.inl h24)]; decide), sizeT, if_neg h0, if_pos (.inl h24)]]
    have h24' : (24 : Int) < ((l.length : Nat) : Int) := by omega
    go_enter Tryz.func13, Tryz.ntmps13
    go_wp2_with fail
    refine (between15 _ _ (by decide)).mono ?_
    rintro e w1 ⟨rfl, rfl⟩
    go_wp2_with fail
    go_ret
    exact ⟨rfl, (Below.refl _ _).alloc (Nat.le_refl _) _⟩
  have h24' : ¬ (24 : Int) < ((l.length : Nat) : Int) := by omega
  go_enter Tryz.func13, Tryz.ntmps13
  go_wp2_with fail
  refine (between15 _ _ (by decide)).mono ?_
  rintro e w1 ⟨rfl, rfl⟩
  go_wp2_with fail
  generalize hW0 : World.alloc w _ = W0
  have q2 : W0.cell? ⟨w.heap.size, 2, none⟩ = some (.slice a1 l.length c1) := by rw [← hW0]; simp [go_sem]
  have q3 : W0.cell? ⟨w.heap.size, 3, none⟩ = some (.slice a2 0 c2) := by rw [← hW0]; simp [go_sem]
  have q4 : W0.cell? ⟨w.heap.size, 4, none⟩ = some (.slice a3 0 c3) := by rw [← hW0]; simp [go_sem]
  have BW : Below w.heap.size w W0 := by rw [← hW0]; exact (Below.refl _ _).alloc (Nat.le_refl _) _
  have HB : Hid (∀ g o v, w.cell? ⟨g, o, none⟩ = some v → W0.cell? ⟨g, o, none⟩ = some v) := fun g o _ hv => (BW.cell (p := ⟨g, o, none⟩) (World.block_lt_of_cell? _ _ hv)).trans hv
  have zW : w.heap.size < W0.heap.size := by rw [← hW0]; simp
  clear hW0
  go_loop [5] (fun i => ∃ k : Nat, k ≤ l.length ∧ i = .int .i64 k ∧ Hid ((l.take k).any longT = false)) (fun i => l.length - (intOf i).toNat)
  case atStart => exact ⟨0, Nat.zero_le _, rfl, by simp [Hid]⟩
  case round =>
    obtain ⟨k, hk, rfl, HA⟩ := hrel
    by_cases hlt : k < l.length
    · have hlt' : ((k : Nat) : Int) < ((l.length : Nat) : Int) := by omega
      have HT : Hid ((l.take (k + 1)).any longT = ((l.take k).any longT || longT l[k])) := by
        rw [Hid, List.take_succ_eq_append_getElem hlt, List.any_append]
        simp
      have HF : Hid (longT l[k] = true → l.any longT = true) := fun hx => List.any_eq_true.mpr ⟨l[k], List.getElem_mem hlt, hx⟩
      obtain ⟨g, o, rfl, hcs⟩ : ∃ g o, a1 = some ⟨g, o, none⟩ ∧ ∀ i (h : i < l.length), w.cell? ⟨g, o + i, none⟩ = some (.string l[i]) := by
        rcases HS.out with h | h
        · subst h; simp at hlt
        · exact h
      have d0 : W0.cell? ⟨g, o + k, none⟩ = some (.string l[k]) := HB.out _ _ _ (hcs k hlt)
      clear hcs HS HB
      by_cases hx : 60 < l[k].size
      · have HY := hide (HF.out (by unfold longT; exact decide_eq_true hx))
        have hx' : (60 : Int) < ((l[k].size : Nat) : Int) := by omega
        clear HF HT
        go_wp2_with fail
        go_ret
        rw [show (setT l) = 2 by rw [setT, if_pos (by rw [sizeT, if_neg h0, if_pos (.inr HY.out)]; decide), sizeT, if_neg h0, if_pos (.inr HY.out)]]
        exact ⟨rfl, BW⟩
      · have HY : Hid ((l.take (k + 1)).any longT = false) := by rw [Hid, HT.out, HA.out]; unfold longT; simp; omega
        have hx' : ¬ (60 : Int) < ((l[k].size : Nat) : Int) := by omega
        clear HF HT
        go_wp2_with fail
        go_round
        case rel => exact ⟨k + 1, by omega, by go_num, HY⟩
        case measure => simp [intOf]; omega
    · have hge : ¬ ((k : Nat) : Int) < ((l.length : Nat) : Int) := by omega
      have HY : Hid (l.any longT = false) := by have := HA.out; rw [List.take_of_length_le (by omega)] at this; exact this
      have HOK : Hid (sizeT l.length (l.any longT) = 0) := show sizeT l.length (l.any longT) = 0 by rw [sizeT, if_neg h0, if_neg (by rw [HY.out]; rintro (h | h); omega; cases h)]
      clear HA
      go_wp2_with fail
      refine wp_loop_rounds 1 ?_
      rw [rounds_succ]
      go_wp2_with fail
      refine wp_loop_rounds 1 ?_
      rw [rounds_succ]
      go_wp2_with fail
      go_loopw [8] (fun i wr => ∃ j : Nat, 1 ≤ j ∧ j ≤ l.length ∧ i = .int .i64 j ∧ Below W0.heap.size W0 wr ∧ Hid (riseTo cmpT l j = true)) (fun i _ => l.length + 1 - (intOf i).toNat)
      case atStart => exact ⟨1, Nat.le_refl _, by omega, rfl, Below.refl _ _, rfl⟩
      case round =>
        obtain ⟨j, hj1, hj, rfl, hbr, HA⟩ := hrel
        have r2 := (hbr.cell (p := ⟨w.heap.size, 2, none⟩) zW).trans q2
        have r3 := (hbr.cell (p := ⟨w.heap.size, 3, none⟩) zW).trans q3
        have r4 := (hbr.cell (p := ⟨w.heap.size, 4, none⟩) zW).trans q4
        have BR : Below w.heap.size w wr := BW.trans (hbr.mono BW.size)
        have HB2 : Hid (∀ g o v, w.cell? ⟨g, o, none⟩ = some v → wr.cell? ⟨g, o, none⟩ = some v) := fun g o _ hv => (BR.cell (p := ⟨g, o, none⟩) (World.block_lt_of_cell? _ _ hv)).trans hv
        clear q2 q3 q4 HB
        by_cases hjl : j < l.length
        · have hjl' : ((j : Nat) : Int) < ((l.length : Nat) : Int) := by omega
          obtain ⟨g, o, rfl, hcs⟩ : ∃ g o, a1 = some ⟨g, o, none⟩ ∧ ∀ i (h : i < l.length), w.cell? ⟨g, o + i, none⟩ = some (.string l[i]) := by
            rcases HS.out with h | h
            · subst h; simp at hjl
            · exact h
          obtain ⟨m, rfl⟩ : ∃ m, j = m + 1 := ⟨j - 1, by omega⟩
          have d0 : wr.cell? ⟨g, o + m, none⟩ = some (.string l[m]) := HB2.out _ _ _ (hcs m (by omega))
          have d1 : wr.cell? ⟨g, o + (m + 1), none⟩ = some (.string l[m + 1]) := HB2.out _ _ _ (hcs (m + 1) hjl)
          have hmm : IntKind.i64.wrap ((m : Nat) : Int) = ((m : Nat) : Int) := by rw [IntKind.wrap_i64]; omega
          have hm2 : ((m : Nat) : Int) < ((l.length : Nat) : Int) := by omega
          have hm3 : ((m : Nat) : Int) + 1 < ((l.length : Nat) : Int) := by omega
          have hm4 : (0 : Int) ≤ ((m : Nat) : Int) + 1 := by omega
          have hm5 : (((m : Nat) : Int) + 1).toNat = m + 1 := by omega
          have HT : Hid (riseTo cmpT l (m + 1 + 1) = decide (cmpT l[m] l[m + 1] < 0)) := by
            rw [Hid, riseTo_succ cmpT l (m + 1) (by omega), HA.out, Bool.true_and, show m + 1 - 1 = m by omega, getElem!_pos l m (by omega), getElem!_pos l (m + 1) hjl]
          have HC : Hid (∀ W, Calls Tryz.prog 65 #[.string l[m], .string l[m + 1]] W fun e w' => e = .returned (.int .i64 (cmpT l[m] l[m + 1])) ∧ ∃ q, w' = W.drewN q) := fun W => textOrder_any _ _ W (HZ.out _ (List.getElem_mem _))
          generalize cmpT l[m] l[m + 1] = C at *
          clear hcs HS HB2 HZ
          by_cases hC : C < 0
          · have hC' : ¬ (0 : Int) ≤ C := by omega
            have HY : Hid (riseTo cmpT l (m + 1 + 1) = true) := by rw [Hid, HT.out]; exact decide_eq_true hC
            go_wp2_with fail
            go_quiet ((go_at_call 65; exact Calls.quiet_of (HC.out _)))
            go_wp2_with fail
            go_roundw
            case rel => exact ⟨m + 1 + 1, by omega, by omega, by go_num, below_drewN' hbr _, HY⟩
            case measure => simp [intOf]; omega
          · have hC' : (0 : Int) ≤ C := by omega
            have HY : Hid (riseTo cmpT l l.length = false) := riseTo_false (k := m + 1 + 1) (by rw [HT.out]; exact decide_eq_false hC) (by omega)
            go_wp2_with fail
            go_quiet ((go_at_call 65; exact Calls.quiet_of (HC.out _)))
            go_wp2_with fail
            go_ret
            rw [show setT l = 4 by rw [setT, if_neg (by simp [HOK.out]), if_neg (by rw [HY.out]; decide)]]
            exact ⟨rfl, below_drewN' BR _⟩
        · have hjl' : ¬ ((j : Nat) : Int) < ((l.length : Nat) : Int) := by omega
          have HY : Hid (riseTo cmpT l l.length = true) := by have : j = l.length := by omega
                                                              rw [← this]; exact HA.out
          go_wp2_with fail
          refine wp_loop_rounds 1 ?_
          rw [rounds_succ]
          go_wp2_with fail
          refine wp_loop_rounds 1 ?_
          rw [rounds_succ]
          go_wp2_with fail
          refine wp_loop_rounds 1 ?_
          rw [rounds_succ]
          go_wp2_with fail
          refine wp_loop_rounds 1 ?_
          rw [rounds_succ]
          go_wp2_with fail
          go_ret
          rw [show setT l = 0 by rw [setT, if_neg (by simp [HOK.out]), if_pos HY.out]]
          exact ⟨rfl, BR⟩
end Go.Proofs.YtcidoodaiimhfaaGreat

/- WALKS of the reference's check of hashes. -/
namespace Go.Proofs.YtcidoodaiimhfaaGreat
open Go.RowKit

set_option maxRecDepth 100000 in
set_option maxHeartbeats 4000000 in
theorem refC_4 (a1 a2 a3 : Option Addr) (c1 c2 c3 : Nat) (l : List (ByteArray × ByteArray)) (w : World) (hs : PairsAt w a2 l) (hn : l.length ≤ 281474976710656) (hz : ∀ t ∈ l, t.1.size ≤ maxLen ∧ t.2.size ≤ maxLen) :
    Calls Tryz.prog 13 #[.agg #[.int .i64 4, .string ⟨#[]⟩, .slice a1 0 c1, .slice a2 l.length c2, .slice a3 0 c3]] w fun e w' => e = .returned (.int .i64 (hashT l)) ∧ Below w.heap.size w w' := by
  have HS := hide hs
  clear hs
  have HZ := hide hz
  clear hz
  by_cases h0 : l.length = 0
  · obtain rfl : l = [] := List.eq_nil_of_length_eq_zero h0
    rw [show (hashT ([] : List (ByteArray × ByteArray))) = 5 from rfl]
    clear h0
    go_enter Tryz.func13, Tryz.ntmps13
    go_wp2_with fail
    refine (between15 _ _ (by decide)).mono ?_
    rintro e w1 ⟨rfl, rfl⟩
    go_wp2_with fail
    go_ret
    exact ⟨rfl, (Below.refl _ _).alloc (Nat.le_refl _) _⟩
  have h0b : (((l.length : Nat) : Int) == 0) = false := by rw [beq_eq_false_iff_ne]; omega
  by_cases h24 : 24 < l.length
  · rw [show (hashT l) = 2 by rw [hashT, if_pos (by rw [sizeT, if_neg h0, if_pos (.inl h24)]; decide), sizeT, if_neg h0, if_pos (.inl h24)]]
    have h24' : (24 : Int) < ((l.length : Nat) : Int) := by omega
    go_enter Tryz.func13, Tryz.ntmps13
    go_wp2_with fail
    refine (between15 _ _ (by decide)).mono ?_
    rintro e w1 ⟨rfl, rfl⟩
    go_wp2_with fail
    go_ret
    exact ⟨rfl, (Below.refl _ _).alloc (Nat.le_refl _) _⟩
  have h24' : ¬ (24 : Int) < ((l.length : Nat) : Int) := by omega
  go_enter Tryz.func13, Tryz.ntmps13
  go_wp2_with fail
  refine (between15 _ _ (by decide)).mono ?_
  rintro e w1 ⟨rfl, rfl⟩
  go_wp2_with fail
  generalize hW0 : World.alloc w _ = W0
  have q2 : W0.cell? ⟨w.heap.size, 2, none⟩ = some (.slice a1 0 c1) := by rw [← hW0]; simp [go_sem]
  have q3 : W0.cell? ⟨w.heap.size, 3, none⟩ = some (.slice a2 l.length c2) := by rw [← hW0]; simp [go_sem]
  have q4 : W0.cell? ⟨w.heap.size, 4, none⟩ = some (.slice a3 0 c3) := by rw [← hW0]; simp [go_sem]
  have BW : Below w.heap.size w W0 := by rw [← hW0]; exact (Below.refl _ _).alloc (Nat.le_refl _) _
  have HB : Hid (∀ g o v, w.cell? ⟨g, o, none⟩ = some v → W0.cell? ⟨g, o, none⟩ = some v) := fun g o _ hv => (BW.cell (p := ⟨g, o, none⟩) (World.block_lt_of_cell? _ _ hv)).trans hv
  have zW : w.heap.size < W0.heap.size := by rw [← hW0]; simp
  clear hW0
  refine wp_loop_rounds 1 ?_
  rw [rounds_succ]
  go_wp2_with fail
  go_loop [6] (fun i => ∃ k : Nat, k ≤ l.length ∧ i = .int .i64 k ∧ Hid ((l.take k).any longP = false)) (fun i => l.length - (intOf i).toNat)
  case atStart => exact ⟨0, Nat.zero_le _, rfl, by simp [Hid]⟩
  case round =>
    obtain ⟨k, hk, rfl, HA⟩ := hrel
    by_cases hlt : k < l.length
    · have hlt' : ((k : Nat) : Int) < ((l.length : Nat) : Int) := by omega
      have HT : Hid ((l.take (k + 1)).any longP = ((l.take k).any longP || longP l[k])) := by
        rw [Hid, List.take_succ_eq_append_getElem hlt, List.any_append]
        simp
      have HF : Hid (longP l[k] = true → l.any longP = true) := fun hx => List.any_eq_true.mpr ⟨l[k], List.getElem_mem hlt, hx⟩
      obtain ⟨g, o, rfl, hcs⟩ : ∃ g o, a2 = some ⟨g, o, none⟩ ∧ ∀ i (h : i < l.length), w.cell? ⟨g, o + i * 2, none⟩ = some (.string l[i].1) ∧ w.cell? ⟨g, o + i * 2 + 1, none⟩ = some (.string l[i].2) := by
        rcases HS.out with h | h
        · subst h; simp at hlt
        · exact h
      have d0 : W0.cell? ⟨g, o + k * 2, none⟩ = some (.string l[k].1) := HB.out _ _ _ (hcs k hlt).1
      have d1 : W0.cell? ⟨g, o + k * 2 + 1, none⟩ = some (.string l[k].2) := HB.out _ _ _ (hcs k hlt).2
      clear hcs HS HB HZ
      by_cases hx : 60 < l[k].1.size
      · have HY := hide (HF.out (by simp only [longP, longT, decide_eq_true hx, Bool.true_or]))
        have hx' : (60 : Int) < ((l[k].1.size : Nat) : Int) := by omega
        clear HF HT
        go_wp2_with fail
        go_ret
        rw [show (hashT l) = 2 by rw [hashT, if_pos (by rw [sizeT, if_neg h0, if_pos (.inr HY.out)]; decide), sizeT, if_neg h0, if_pos (.inr HY.out)]]
        exact ⟨rfl, BW⟩
      · have hx' : ¬ (60 : Int) < ((l[k].1.size : Nat) : Int) := by omega
        by_cases hy : 60 < l[k].2.size
        · have HY := hide (HF.out (by simp only [longP, longT, decide_eq_true hy, Bool.or_true]))
          have hy' : (60 : Int) < ((l[k].2.size : Nat) : Int) := by omega
          clear HF HT
          go_wp2_with fail
          go_ret
          rw [show (hashT l) = 2 by rw [hashT, if_pos (by rw [sizeT, if_neg h0, if_pos (.inr HY.out)]; decide), sizeT, if_neg h0, if_pos (.inr HY.out)]]
          exact ⟨rfl, BW⟩
        · have HY : Hid ((l.take (k + 1)).any longP = false) := by rw [Hid, HT.out, HA.out]; simp only [longP, longT, decide_eq_false hx, decide_eq_false hy, Bool.or_self]
          have hy' : ¬ (60 : Int) < ((l[k].2.size : Nat) : Int) := by omega
          clear HF HT
          go_wp2_with fail
          go_round
          case rel => exact ⟨k + 1, by omega, by go_num, HY⟩
          case measure => simp [intOf]; omega
    · have hge : ¬ ((k : Nat) : Int) < ((l.length : Nat) : Int) := by omega
      have HY : Hid (l.any longP = false) := by have := HA.out; rw [List.take_of_length_le (by omega)] at this; exact this
      have HOK : Hid (sizeT l.length (l.any longP) = 0) := show sizeT l.length (l.any longP) = 0 by rw [sizeT, if_neg h0, if_neg (by rw [HY.out]; rintro (h | h); omega; cases h)]
      clear HA
      go_wp2_with fail
      refine wp_loop_rounds 1 ?_
      rw [rounds_succ]
      go_wp2_with fail
      refine wp_loop_rounds 1 ?_
      rw [rounds_succ]
      go_wp2_with fail
      go_loopw [9] (fun i wr => ∃ j : Nat, 1 ≤ j ∧ j ≤ l.length ∧ i = .int .i64 j ∧ Below W0.heap.size W0 wr ∧ Hid (riseTo cmpP l j = true)) (fun i _ => l.length + 1 - (intOf i).toNat)
      case atStart => exact ⟨1, Nat.le_refl _, by omega, rfl, Below.refl _ _, rfl⟩
      case round =>
        obtain ⟨j, hj1, hj, rfl, hbr, HA⟩ := hrel
        have r2 := (hbr.cell (p := ⟨w.heap.size, 2, none⟩) zW).trans q2
        have r3 := (hbr.cell (p := ⟨w.heap.size, 3, none⟩) zW).trans q3
        have r4 := (hbr.cell (p := ⟨w.heap.size, 4, none⟩) zW).trans q4
        have BR : Below w.heap.size w wr := BW.trans (hbr.mono BW.size)
        have HB2 : Hid (∀ g o v, w.cell? ⟨g, o, none⟩ = some v → wr.cell? ⟨g, o, none⟩ = some v) := fun g o _ hv => (BR.cell (p := ⟨g, o, none⟩) (World.block_lt_of_cell? _ _ hv)).trans hv
        clear q2 q3 q4 HB
        by_cases hjl : j < l.length
        · have hjl' : ((j : Nat) : Int) < ((l.length : Nat) : Int) := by omega
          obtain ⟨g, o, rfl, hcs⟩ : ∃ g o, a2 = some ⟨g, o, none⟩ ∧ ∀ i (h : i < l.length), w.cell? ⟨g, o + i * 2, none⟩ = some (.string l[i].1) ∧ w.cell? ⟨g, o + i * 2 + 1, none⟩ = some (.string l[i].2) := by
            rcases HS.out with h | h
            · subst h; simp at hjl
            · exact h
          obtain ⟨m, rfl⟩ : ∃ m, j = m + 1 := ⟨j - 1, by omega⟩
          have d0 : wr.cell? ⟨g, o + m * 2, none⟩ = some (.string l[m].1) := HB2.out _ _ _ (hcs m (by omega)).1
          have d1 : wr.cell? ⟨g, o + (m + 1) * 2, none⟩ = some (.string l[m + 1].1) := HB2.out _ _ _ (hcs (m + 1) hjl).1
          have hmm : IntKind.i64.wrap ((m : Nat) : Int) = ((m : Nat) : Int) := by rw [IntKind.wrap_i64]; omega
          have hm2 : ((m : Nat) : Int) < ((l.length : Nat) : Int) := by omega
          have hm3 : ((m : Nat) : Int) + 1 < ((l.length : Nat) : Int) := by omega
          have hm4 : (0 : Int) ≤ ((m : Nat) : Int) + 1 := by omega
          have hm5 : (((m : Nat) : Int) + 1).toNat = m + 1 := by omega
          have HT : Hid (riseTo cmpP l (m + 1 + 1) = decide (cmpT l[m].1 l[m + 1].1 < 0)) := by
            rw [Hid, riseTo_succ cmpP l (m + 1) (by omega), HA.out, Bool.true_and, show m + 1 - 1 = m by omega, getElem!_pos l m (by omega), getElem!_pos l (m + 1) hjl]
            rfl
          have HC : Hid (∀ W, Calls Tryz.prog 65 #[.string l[m].1, .string l[m + 1].1] W fun e w' => e = .returned (.int .i64 (cmpT l[m].1 l[m + 1].1)) ∧ ∃ q, w' = W.drewN q) := fun W => textOrder_any _ _ W (HZ.out _ (List.getElem_mem _)).1
          generalize cmpT l[m].1 l[m + 1].1 = C at *
          clear hcs HS HB2 HZ
          by_cases hC : C < 0
          · have hC' : ¬ (0 : Int) ≤ C := by omega
            have HY : Hid (riseTo cmpP l (m + 1 + 1) = true) := by rw [Hid, HT.out]; exact decide_eq_true hC
            go_wp2_with fail
            go_quiet ((go_at_call 65; exact Calls.quiet_of (HC.out _)))
            go_wp2_with fail
            go_roundw
            case rel => exact ⟨m + 1 + 1, by omega, by omega, by go_num, below_drewN' hbr _, HY⟩
            case measure => simp [intOf]; omega
          · have hC' : (0 : Int) ≤ C := by omega
            have HY : Hid (riseTo cmpP l l.length = false) := riseTo_false (k := m + 1 + 1) (by rw [HT.out]; exact decide_eq_false hC) (by omega)
            go_wp2_with fail
            go_quiet ((go_at_call 65; exact Calls.quiet_of (HC.out _)))
            go_wp2_with fail
            go_ret
            rw [show hashT l = 4 by rw [hashT, if_neg (by simp [HOK.out]), if_neg (by rw [HY.out]; decide)]]
            exact ⟨rfl, below_drewN' BR _⟩
        · have hjl' : ¬ ((j : Nat) : Int) < ((l.length : Nat) : Int) := by omega
          have HY : Hid (riseTo cmpP l l.length = true) := by have : j = l.length := by omega
                                                              rw [← this]; exact HA.out
          go_wp2_with fail
          refine wp_loop_rounds 1 ?_
          rw [rounds_succ]
          go_wp2_with fail
          refine wp_loop_rounds 1 ?_
          rw [rounds_succ]
          go_wp2_with fail
          refine wp_loop_rounds 1 ?_
          rw [rounds_succ]
          go_wp2_with fail
          go_ret
          rw [show hashT l = 0 by rw [hashT, if_neg (by simp [HOK.out]), if_pos HY.out]]
          exact ⟨rfl, BR⟩
end Go.Proofs.YtcidoodaiimhfaaGreat

/- WALK of the reference's check of scores. -/
namespace Go.Proofs.YtcidoodaiimhfaaGreat
open Go.RowKit

theorem bytes_inj' {a b : ByteArray} (h : a.toList = b.toList) : a = b := by
  rw [ByteArray.toList_eq, ByteArray.toList_eq] at h
  cases a; cases b
  congr 1
  exact Array.toList_inj.1 h
theorem outS_not (x : Int × ByteArray) : (!outS x) = decide (-999999999 ≤ x.1 ∧ x.1 ≤ 999999999) := by
  unfold outS
  rw [Bool.eq_iff_iff]
  simp
theorem twice_of {l : List (Int × ByteArray)} {m k : Nat} (hm : m < k) (hk : k < l.length) (h : l[m].2 = l[k].2) : twiceS l = true := by
  unfold twiceS
  simp only [Bool.not_eq_true', decide_eq_false_iff_not]
  intro hn
  have := List.pairwise_iff_getElem.1 hn m k (by simp; omega) (by simp; omega) hm
  simp only [List.getElem_map] at this
  exact this h
theorem nodup_step {l : List (Int × ByteArray)} {k : Nat} (hk : k < l.length) (h : ((l.map Prod.snd).take k).Nodup) (hj : ∀ j (h : j < k), l[j].2 ≠ l[k].2) : ((l.map Prod.snd).take (k + 1)).Nodup := by
  rw [List.take_succ_eq_append_getElem (by simp; omega), List.nodup_append]
  refine ⟨h, by simp, ?_⟩
  intro a ha b hb
  simp at hb
  subst hb
  obtain ⟨i, hi, rfl⟩ := List.getElem_of_mem ha
  simp at hi ⊢
  exact hj i (by omega)

set_option maxRecDepth 100000 in
set_option maxHeartbeats 4000000 in
theorem refC_5 (a1 a2 a3 : Option Addr) (c1 c2 c3 : Nat) (l : List (Int × ByteArray)) (w : World) (hs : ScoresAt w a3 l) (hn : l.length ≤ 281474976710656) (hz : ∀ t ∈ l, t.2.size ≤ maxLen) :
    Calls Tryz.prog 13 #[.agg #[.int .i64 5, .string ⟨#[]⟩, .slice a1 0 c1, .slice a2 0 c2, .slice a3 l.length c3]] w fun e w' => e = .returned (.int .i64 (scoreT l)) ∧ Below w.heap.size w w' := by
  have HS := hide hs
  clear hs
  have HZ := hide hz
  clear hz
  by_cases h0 : l.length = 0
  · obtain rfl : l = [] := List.eq_nil_of_length_eq_zero h0
    rw [show (scoreT ([] : List (Int × ByteArray))) = 5 from rfl]
    clear h0
    go_enter Tryz.func13, Tryz.ntmps13
    go_wp2_with fail
    refine (between15 _ _ (by decide)).mono ?_
    rintro e w1 ⟨rfl, rfl⟩
    go_wp2_with fail
    go_ret
    exact ⟨rfl, (Below.refl _ _).alloc (Nat.le_refl _) _⟩
  have h0b : (((l.length : Nat) : Int) == 0) = false := by rw [beq_eq_false_iff_ne]; omega
  by_cases h24 : 24 < l.length
  · rw [show (scoreT l) = 2 by rw [scoreT, if_pos (by rw [sizeT, if_neg h0, if_pos (.inl h24)]; decide), sizeT, if_neg h0, if_pos (.inl h24)]]
    have h24' : (24 : Int) < ((l.length : Nat) : Int) := by omega
    go_enter Tryz.func13, Tryz.ntmps13
    go_wp2_with fail
    refine (between15 _ _ (by decide)).mono ?_
    rintro e w1 ⟨rfl, rfl⟩
    go_wp2_with fail
    go_ret
    exact ⟨rfl, (Below.refl _ _).alloc (Nat.le_refl _) _⟩
  have h24' : ¬ (24 : Int) < ((l.length : Nat) : Int) := by omega
  go_enter Tryz.func13, Tryz.ntmps13
  go_wp2_with fail
  refine (between15 _ _ (by decide)).mono ?_
  rintro e w1 ⟨rfl, rfl⟩
  go_wp2_with fail
  generalize hW0 : World.alloc w _ = W0
  have q2 : W0.cell? ⟨w.heap.size, 2, none⟩ = some (.slice a1 0 c1) := by rw [← hW0]; simp [go_sem]
  have q3 : W0.cell? ⟨w.heap.size, 3, none⟩ = some (.slice a2 0 c2) := by rw [← hW0]; simp [go_sem]
  have q4 : W0.cell? ⟨w.heap.size, 4, none⟩ = some (.slice a3 l.length c3) := by rw [← hW0]; simp [go_sem]
  have BW : Below w.heap.size w W0 := by rw [← hW0]; exact (Below.refl _ _).alloc (Nat.le_refl _) _
  have HB : Hid (∀ g o v, w.cell? ⟨g, o, none⟩ = some v → W0.cell? ⟨g, o, none⟩ = some v) := fun g o _ hv => (BW.cell (p := ⟨g, o, none⟩) (World.block_lt_of_cell? _ _ hv)).trans hv
  have zW : w.heap.size < W0.heap.size := by rw [← hW0]; simp
  clear hW0
  refine wp_loop_rounds 1 ?_
  rw [rounds_succ]
  go_wp2_with fail
  refine wp_loop_rounds 1 ?_
  rw [rounds_succ]
  go_wp2_with fail
  go_loop [7] (fun i => ∃ k : Nat, k ≤ l.length ∧ i = .int .i64 k ∧ Hid ((l.take k).any longS = false)) (fun i => l.length - (intOf i).toNat)
  case atStart => exact ⟨0, Nat.zero_le _, rfl, by simp [Hid]⟩
  case round =>
    obtain ⟨k, hk, rfl, HA⟩ := hrel
    by_cases hlt : k < l.length
    · have hlt' : ((k : Nat) : Int) < ((l.length : Nat) : Int) := by omega
      have HT : Hid ((l.take (k + 1)).any longS = ((l.take k).any longS || longS l[k])) := by
        rw [Hid, List.take_succ_eq_append_getElem hlt, List.any_append]
        simp
      have HF : Hid (longS l[k] = true → l.any longS = true) := fun hx => List.any_eq_true.mpr ⟨l[k], List.getElem_mem hlt, hx⟩
      obtain ⟨g, o, rfl, hcs⟩ : ∃ g o, a3 = some ⟨g, o, none⟩ ∧ ∀ i (h : i < l.length), w.cell? ⟨g, o + i * 2, none⟩ = some (.int .i64 l[i].1) ∧ w.cell? ⟨g, o + i * 2 + 1, none⟩ = some (.string l[i].2) := by
        rcases HS.out with h | h
        · subst h; simp at hlt
        · exact h
      have d1 : W0.cell? ⟨g, o + k * 2 + 1, none⟩ = some (.string l[k].2) := HB.out _ _ _ (hcs k hlt).2
      clear hcs HS HB HZ
      by_cases hx : 60 < l[k].2.size
      · have HY := hide (HF.out (by simp only [longS, longT, decide_eq_true hx]))
        have hx' : (60 : Int) < ((l[k].2.size : Nat) : Int) := by omega
        clear HF HT
        go_wp2_with fail
        go_ret
        rw [show (scoreT l) = 2 by rw [scoreT, if_pos (by rw [sizeT, if_neg h0, if_pos (.inr HY.out)]; decide), sizeT, if_neg h0, if_pos (.inr HY.out)]]
        exact ⟨rfl, BW⟩
      · have HY : Hid ((l.take (k + 1)).any longS = false) := by rw [Hid, HT.out, HA.out]; simp only [longS, longT, decide_eq_false hx, Bool.or_self]
        have hx' : ¬ (60 : Int) < ((l[k].2.size : Nat) : Int) := by omega
        clear HF HT
        go_wp2_with fail
        go_round
        case rel => exact ⟨k + 1, by omega, by go_num, HY⟩
        case measure => simp [intOf]; omega
    · have hge : ¬ ((k : Nat) : Int) < ((l.length : Nat) : Int) := by omega
      have HY : Hid (l.any longS = false) := by have := HA.out; rw [List.take_of_length_le (by omega)] at this; exact this
      have HOK : Hid (sizeT l.length (l.any longS) = 0) := show sizeT l.length (l.any longS) = 0 by rw [sizeT, if_neg h0, if_neg (by rw [HY.out]; rintro (h | h); omega; cases h)]
      clear HA
      go_wp2_with fail
      refine wp_loop_rounds 1 ?_
      rw [rounds_succ]
      go_wp2_with fail
      refine wp_loop_rounds 1 ?_
      rw [rounds_succ]
      go_wp2_with fail
      go_loop [10] (fun i => ∃ k : Nat, k ≤ l.length ∧ i = .int .i64 k ∧ Hid ((l.take k).any outS = false)) (fun i => l.length - (intOf i).toNat)
      case atStart => exact ⟨0, Nat.zero_le _, rfl, by simp [Hid]⟩
      case round =>
        obtain ⟨k, hk, rfl, HA⟩ := hrel
        by_cases hlt : k < l.length
        · have hlt' : ((k : Nat) : Int) < ((l.length : Nat) : Int) := by omega
          have HT : Hid ((l.take (k + 1)).any outS = ((l.take k).any outS || outS l[k])) := by
            rw [Hid, List.take_succ_eq_append_getElem hlt, List.any_append]
            simp
          have HF : Hid (outS l[k] = true → l.any outS = true) := fun hx => List.any_eq_true.mpr ⟨l[k], List.getElem_mem hlt, hx⟩
          obtain ⟨g, o, rfl, hcs⟩ : ∃ g o, a3 = some ⟨g, o, none⟩ ∧ ∀ i (h : i < l.length), w.cell? ⟨g, o + i * 2, none⟩ = some (.int .i64 l[i].1) ∧ w.cell? ⟨g, o + i * 2 + 1, none⟩ = some (.string l[i].2) := by
            rcases HS.out with h | h
            · subst h; simp at hlt
            · exact h
          have d0 : W0.cell? ⟨g, o + k * 2, none⟩ = some (.int .i64 l[k].1) := HB.out _ _ _ (hcs k hlt).1
          have HI : Hid (∀ W, Calls Tryz.prog 66 #[.int .i64 l[k].1] W fun e w' => e = .returned (.bool (!outS l[k])) ∧ w' = W) := fun W => by
            rw [outS_not]
            exact isInt_any _ W
          clear hcs HS HB HZ
          cases hx : outS l[k] with
          | true =>
            have HY := hide (HF.out hx)
            rw [hx] at HI
            clear HF HT hx
            go_wp2_with fail
            refine (HI.out _).mono ?_
            rintro e w1 ⟨rfl, rfl⟩
            go_wp2_with fail
            go_ret
            rw [show scoreT l = 3 by rw [scoreT, if_neg (by simp [HOK.out]), if_pos HY.out]]
            exact ⟨rfl, BW⟩
          | false =>
            have HY : Hid ((l.take (k + 1)).any outS = false) := by rw [Hid, HT.out, HA.out, hx]; rfl
            rw [hx] at HI
            clear HF HT hx
            go_wp2_with fail
            refine (HI.out _).mono ?_
            rintro e w1 ⟨rfl, rfl⟩
            go_wp2_with fail
            go_round
            case rel => exact ⟨k + 1, by omega, by go_num, HY⟩
            case measure => simp [intOf]; omega
        · have hge : ¬ ((k : Nat) : Int) < ((l.length : Nat) : Int) := by omega
          have HY : Hid (l.any outS = false) := by have := HA.out; rw [List.take_of_length_le (by omega)] at this; exact this
          have HIN : Hid (l.any outS = false) := HY
          clear HA HY
          go_wp2_with fail
          go_loopw [11] (fun i wr => ∃ k : Nat, k ≤ l.length ∧ i = .int .i64 k ∧ Below W0.heap.size W0 wr ∧ Hid (((l.map Prod.snd).take k).Nodup)) (fun i _ => l.length - (intOf i).toNat)
          case atStart => exact ⟨0, Nat.zero_le _, rfl, Below.refl _ _, by simp [Hid]⟩
          case round =>
            obtain ⟨k, hk, rfl, hbo, HN⟩ := hrel
            have r4 := (hbo.cell (p := ⟨w.heap.size, 4, none⟩) zW).trans q4
            have BO : Below w.heap.size w wr := BW.trans (hbo.mono BW.size)
            have HB3 : Hid (∀ g o v, w.cell? ⟨g, o, none⟩ = some v → wr.cell? ⟨g, o, none⟩ = some v) := fun g o _ hv => (BO.cell (p := ⟨g, o, none⟩) (World.block_lt_of_cell? _ _ hv)).trans hv
            by_cases hlt : k < l.length
            · have hlt' : ((k : Nat) : Int) < ((l.length : Nat) : Int) := by omega
              go_wp2_with fail
              go_loopw [12] (fun i wi => ∃ m : Nat, m ≤ k ∧ i = .int .i64 m ∧ Below W0.heap.size W0 wi ∧ Hid (∀ j (h : j < m) (h2 : j < l.length), l[j].2 ≠ l[k].2)) (fun i _ => k - (intOf i).toNat)
              case atStart => exact ⟨0, Nat.zero_le _, rfl, hbo, fun j h _ => absurd h (by omega)⟩
              case round =>
                clear r4
                obtain ⟨m, hm, rfl, hbi, HM⟩ := hrel
                have r4 := (hbi.cell (p := ⟨w.heap.size, 4, none⟩) zW).trans q4
                have BI : Below w.heap.size w wr := BW.trans (hbi.mono BW.size)
                have HB4 : Hid (∀ g o v, w.cell? ⟨g, o, none⟩ = some v → wr.cell? ⟨g, o, none⟩ = some v) := fun g o _ hv => (BI.cell (p := ⟨g, o, none⟩) (World.block_lt_of_cell? _ _ hv)).trans hv
                by_cases hmk : m < k
                · have hmk' : ((m : Nat) : Int) < ((k : Nat) : Int) := by omega
                  have hml' : ((m : Nat) : Int) < ((l.length : Nat) : Int) := by omega
                  obtain ⟨g, o, rfl, hcs⟩ : ∃ g o, a3 = some ⟨g, o, none⟩ ∧ ∀ i (h : i < l.length), w.cell? ⟨g, o + i * 2, none⟩ = some (.int .i64 l[i].1) ∧ w.cell? ⟨g, o + i * 2 + 1, none⟩ = some (.string l[i].2) := by
                    rcases HS.out with h | h
                    · subst h; simp at hlt
                    · exact h
                  have d1 : wr.cell? ⟨g, o + m * 2 + 1, none⟩ = some (.string l[m].2) := HB4.out _ _ _ (hcs m (by omega)).2
                  have e1 : wr.cell? ⟨g, o + k * 2 + 1, none⟩ = some (.string l[k].2) := HB4.out _ _ _ (hcs k hlt).2
                  have HX : Hid (l[m].2 = l[k].2 → twiceS l = true) := fun h => twice_of hmk hlt h
                  have HX2 : Hid (l[m].2 ≠ l[k].2 → ∀ j (h : j < m + 1) (h2 : j < l.length), l[j].2 ≠ l[k].2) := fun h j hj h2 => by
                    by_cases e : j = m
                    · subst e; exact h
                    · exact HM.out j (by omega) h2
                  clear hcs HS HB HB3 HB4 HZ HM
                  generalize l[m].2 = X at *
                  generalize hYY : l[k].2 = Y at *
                  by_cases hXY : X = Y
                  · subst hXY
                    have HY := hide (HX.out rfl)
                    clear HX HX2 hYY
                    go_wp2_with fail
                    go_quiet (fail)
                    go_wp2_with fail
                    go_ret
                    rw [show scoreT l = 6 by rw [scoreT, if_neg (by simp [HOK.out]), if_neg (by simp [HIN.out]), if_pos HY.out]]
                    exact ⟨rfl, below_drewN' BI _⟩
                  · have hne : (X.toList == Y.toList) = false := by rw [beq_eq_false_iff_ne]; exact fun e => hXY (bytes_inj' e)
                    have HY := hide (HX2.out hXY)
                    clear HX HX2
                    go_wp2_with fail
                    go_quiet (fail)
                    go_wp2_with fail
                    go_roundw
                    case rel => exact ⟨m + 1, by omega, by go_num, below_drewN' hbi _, HY.out⟩
                    case measure => simp [intOf]; omega
                · have hmk' : ¬ ((m : Nat) : Int) < ((k : Nat) : Int) := by omega
                  have HNN : Hid (((l.map Prod.snd).take (k + 1)).Nodup) := nodup_step hlt HN.out (fun j hj => HM.out j (by omega) (by omega))
                  go_wp2_with fail
                  go_roundw
                  case rel => exact ⟨k + 1, by omega, by go_num, hbi, HNN⟩
                  case measure => simp [intOf]; omega
            · have hge : ¬ ((k : Nat) : Int) < ((l.length : Nat) : Int) := by omega
              have HTW : Hid (twiceS l = false) := by
                have h1 := HN.out
                rw [List.take_of_length_le (by simp; omega)] at h1
                simp [Hid, twiceS, h1]
              clear HN HB3
              go_wp2_with fail
              go_loopw [13] (fun i wr => ∃ j : Nat, 1 ≤ j ∧ j ≤ l.length ∧ i = .int .i64 j ∧ Below W0.heap.size W0 wr ∧ Hid (riseTo cmpS l j = true)) (fun i _ => l.length + 1 - (intOf i).toNat)
              case atStart => exact ⟨1, Nat.le_refl _, by omega, rfl, hbo, rfl⟩
              case round =>
                obtain ⟨j, hj1, hj, rfl, hbr, HA⟩ := hrel
                have r4 := (hbr.cell (p := ⟨w.heap.size, 4, none⟩) zW).trans q4
                have BR : Below w.heap.size w wr := BW.trans (hbr.mono BW.size)
                have HB2 : Hid (∀ g o v, w.cell? ⟨g, o, none⟩ = some v → wr.cell? ⟨g, o, none⟩ = some v) := fun g o _ hv => (BR.cell (p := ⟨g, o, none⟩) (World.block_lt_of_cell? _ _ hv)).trans hv
                have zr : w.heap.size < wr.heap.size := Nat.lt_of_lt_of_le zW hbr.size
                by_cases hjl : j < l.length
                · have hjl' : ((j : Nat) : Int) < ((l.length : Nat) : Int) := by omega
                  obtain ⟨g, o, rfl, hcs⟩ : ∃ g o, a3 = some ⟨g, o, none⟩ ∧ ∀ i (h : i < l.length), w.cell? ⟨g, o + i * 2, none⟩ = some (.int .i64 l[i].1) ∧ w.cell? ⟨g, o + i * 2 + 1, none⟩ = some (.string l[i].2) := by
                    rcases HS.out with h | h
                    · subst h; simp at hjl
                    · exact h
                  obtain ⟨m, rfl⟩ : ∃ m, j = m + 1 := ⟨j - 1, by omega⟩
                  have d0 : wr.cell? ⟨g, o + m * 2, none⟩ = some (.int .i64 l[m].1) := HB2.out _ _ _ (hcs m (by omega)).1
                  have d1 : wr.cell? ⟨g, o + m * 2 + 1, none⟩ = some (.string l[m].2) := HB2.out _ _ _ (hcs m (by omega)).2
                  have e0 : wr.cell? ⟨g, o + (m + 1) * 2, none⟩ = some (.int .i64 l[m + 1].1) := HB2.out _ _ _ (hcs (m + 1) hjl).1
                  have e1 : wr.cell? ⟨g, o + (m + 1) * 2 + 1, none⟩ = some (.string l[m + 1].2) := HB2.out _ _ _ (hcs (m + 1) hjl).2
                  have hgl : g < wr.heap.size := World.block_lt_of_cell? _ _ d0
                  have hmm : IntKind.i64.wrap ((m : Nat) : Int) = ((m : Nat) : Int) := by rw [IntKind.wrap_i64]; omega
                  have hm2 : ((m : Nat) : Int) < ((l.length : Nat) : Int) := by omega
                  have hm3 : ((m : Nat) : Int) + 1 < ((l.length : Nat) : Int) := by omega
                  have hm4 : (0 : Int) ≤ ((m : Nat) : Int) + 1 := by omega
                  have hm5 : (((m : Nat) : Int) + 1).toNat = m + 1 := by omega
                  have HT : Hid (riseTo cmpS l (m + 1 + 1) = decide (cmpS l[m] l[m + 1] < 0)) := by
                    rw [Hid, riseTo_succ cmpS l (m + 1) (by omega), HA.out, Bool.true_and, show m + 1 - 1 = m by omega, getElem!_pos l m (by omega), getElem!_pos l (m + 1) hjl]
                  have HC : Hid (∀ W, Calls Tryz.prog 67 #[.agg #[.int .i64 l[m].1, .string l[m].2], .agg #[.int .i64 l[m + 1].1, .string l[m + 1].2]] W fun e w' => e = .returned (.bool (decide (cmpS l[m] l[m + 1] < 0))) ∧ Below W.heap.size W w') := fun W => scoreLess_any _ _ W (HZ.out _ (List.getElem_mem _))
                  generalize decide (cmpS l[m] l[m + 1] < 0) = C at *
                  clear hcs HS HB2 HZ
                  generalize l[m].1 = X1 at *
                  generalize l[m].2 = X2 at *
                  generalize l[m + 1].1 = Y1 at *
                  generalize l[m + 1].2 = Y2 at *
                  cases C with
                  | true =>
                    have HY : Hid (riseTo cmpS l (m + 1 + 1) = true) := HT.out
                    go_wp2_with fail
                    go_region_held3 (fun w' => w'.cell? ⟨w.heap.size, 4, none⟩ = some (.slice (some ⟨g, o, none⟩) l.length c3) ∧ w'.cell? ⟨g, o + m * 2, none⟩ = some (.int .i64 X1) ∧ w'.cell? ⟨g, o + m * 2 + 1, none⟩ = some (.string X2) ∧ w'.cell? ⟨g, o + (m + 1) * 2, none⟩ = some (.int .i64 Y1) ∧ w'.cell? ⟨g, o + (m + 1) * 2 + 1, none⟩ = some (.string Y2)) (go_keep)
                      ((go_at_call 67; refine (HC.out _).mono ?_; rintro e w2 ⟨rfl, hb2⟩; have s4 := (hb2.cell (p := ⟨w.heap.size, 4, none⟩) zr).trans r4; have s0 := (hb2.cell (p := ⟨g, o + m * 2, none⟩) hgl).trans d0; have s1 := (hb2.cell (p := ⟨g, o + m * 2 + 1, none⟩) hgl).trans d1; have t0 := (hb2.cell (p := ⟨g, o + (m + 1) * 2, none⟩) hgl).trans e0; have t1 := (hb2.cell (p := ⟨g, o + (m + 1) * 2 + 1, none⟩) hgl).trans e1))
                    all_goals
                      go_wp2_with fail
                      go_roundw
                      case rel => exact ⟨m + 1 + 1, by omega, by omega, by go_num, hbr.drew.trans (hb2.mono hbr.size), HY⟩
                      case measure => simp [intOf]; omega
                  | false =>
                    have HY : Hid (riseTo cmpS l l.length = false) := riseTo_false (k := m + 1 + 1) HT.out (by omega)
                    go_wp2_with fail
                    go_region_held3 (fun w' => w'.cell? ⟨w.heap.size, 4, none⟩ = some (.slice (some ⟨g, o, none⟩) l.length c3) ∧ w'.cell? ⟨g, o + m * 2, none⟩ = some (.int .i64 X1) ∧ w'.cell? ⟨g, o + m * 2 + 1, none⟩ = some (.string X2) ∧ w'.cell? ⟨g, o + (m + 1) * 2, none⟩ = some (.int .i64 Y1) ∧ w'.cell? ⟨g, o + (m + 1) * 2 + 1, none⟩ = some (.string Y2)) (go_keep)
                      ((go_at_call 67; refine (HC.out _).mono ?_; rintro e w2 ⟨rfl, hb2⟩; have s4 := (hb2.cell (p := ⟨w.heap.size, 4, none⟩) zr).trans r4; have s0 := (hb2.cell (p := ⟨g, o + m * 2, none⟩) hgl).trans d0; have s1 := (hb2.cell (p := ⟨g, o + m * 2 + 1, none⟩) hgl).trans d1; have t0 := (hb2.cell (p := ⟨g, o + (m + 1) * 2, none⟩) hgl).trans e0; have t1 := (hb2.cell (p := ⟨g, o + (m + 1) * 2 + 1, none⟩) hgl).trans e1))
                    all_goals
                      go_wp2_with fail
                      go_ret
                      rw [show scoreT l = 4 by rw [scoreT, if_neg (by simp [HOK.out]), if_neg (by simp [HIN.out]), if_neg (by simp [HTW.out]), if_neg (by rw [HY.out]; decide)]]
                      exact ⟨rfl, BR.drew.trans (hb2.mono BR.size)⟩
                · have hjl' : ¬ ((j : Nat) : Int) < ((l.length : Nat) : Int) := by omega
                  have HY : Hid (riseTo cmpS l l.length = true) := by have : j = l.length := by omega
                                                                      rw [← this]; exact HA.out
                  go_wp2_with fail
                  go_ret
                  rw [show scoreT l = 0 by rw [scoreT, if_neg (by simp [HOK.out]), if_neg (by simp [HIN.out]), if_neg (by simp [HTW.out]), if_pos HY.out]]
                  exact ⟨rfl, BR⟩
end Go.Proofs.YtcidoodaiimhfaaGreat

/- The reference's check of an item, whole. -/
namespace Go.Proofs.YtcidoodaiimhfaaGreat
open Go.RowKit

theorem empty_bytes {t : ByteArray} (h : t.toList = []) : t = ⟨#[]⟩ := bytes_inj' (by rw [h, ByteArray.toList_eq])
theorem refCheck_any (v : Value) (x : Itm) (w : World) (h : ItemIs w v x) :
    Calls Tryz.prog 13 #[v] w fun e w' => e = .returned (.int .i64 (chkI x)) ∧ Below w.heap.size w w' := by
  obtain ⟨⟨a1, c1, a2, c2, a3, c3, rfl, h1, h2, h3⟩, tz, lz, pz, sz, ll, pl, sl⟩ := h
  obtain ⟨k, t, l, p, s⟩ := x
  simp only at *
  by_cases h0 : k < 1 ∨ 5 < k
  · rw [show chkI ⟨k, t, l, p, s⟩ = 7 by rw [chkI, if_pos h0]]
    exact refC_bad k t a1 a2 a3 c1 c2 c3 _ _ _ w h0
  cases ho : otherI ⟨k, t, l, p, s⟩ with
  | true =>
    rw [show chkI ⟨k, t, l, p, s⟩ = 1 by rw [chkI, if_neg h0, if_pos ho]]
    have ho' := of_decide_eq_true ho
    simp only at ho'
    have hkk : k = 1 ∨ k = 2 ∨ k = 3 ∨ k = 4 ∨ k = 5 := by omega
    rcases hkk with rfl | rfl | rfl | rfl | rfl
    · by_cases hl : 0 < l.length
      · exact refC_o1l t _ _ _ a1 a2 a3 c1 c2 c3 w hl
      · obtain rfl : l = [] := List.eq_nil_of_length_eq_zero (by omega)
        by_cases hp : 0 < p.length
        · exact refC_o1p t _ _ a1 a2 a3 c1 c2 c3 w hp
        · obtain rfl : p = [] := List.eq_nil_of_length_eq_zero (by omega)
          have hs : 0 < s.length := by simpa using ho'
          exact refC_o1s t _ a1 a2 a3 c1 c2 c3 w hs
    · by_cases ht : t.toList = []
      · obtain rfl := empty_bytes ht
        by_cases hp : 0 < p.length
        · exact refC_o2p _ _ _ a1 a2 a3 c1 c2 c3 w hp
        · obtain rfl : p = [] := List.eq_nil_of_length_eq_zero (by omega)
          have hs : 0 < s.length := by simpa using ho'
          exact refC_o2s _ _ a1 a2 a3 c1 c2 c3 w hs
      · exact refC_o2t t _ _ _ a1 a2 a3 c1 c2 c3 w ht
    · by_cases ht : t.toList = []
      · obtain rfl := empty_bytes ht
        by_cases hp : 0 < p.length
        · exact refC_o3p _ _ _ a1 a2 a3 c1 c2 c3 w hp
        · obtain rfl : p = [] := List.eq_nil_of_length_eq_zero (by omega)
          have hs : 0 < s.length := by simpa using ho'
          exact refC_o3s _ _ a1 a2 a3 c1 c2 c3 w hs
      · exact refC_o3t t _ _ _ a1 a2 a3 c1 c2 c3 w ht
    · by_cases ht : t.toList = []
      · obtain rfl := empty_bytes ht
        by_cases hl : 0 < l.length
        · exact refC_o4l _ _ _ a1 a2 a3 c1 c2 c3 w hl
        · obtain rfl : l = [] := List.eq_nil_of_length_eq_zero (by omega)
          have hs : 0 < s.length := by simpa using ho'
          exact refC_o4s _ _ a1 a2 a3 c1 c2 c3 w hs
      · exact refC_o4t t _ _ _ a1 a2 a3 c1 c2 c3 w ht
    · by_cases ht : t.toList = []
      · obtain rfl := empty_bytes ht
        by_cases hl : 0 < l.length
        · exact refC_o5l _ _ _ a1 a2 a3 c1 c2 c3 w hl
        · obtain rfl : l = [] := List.eq_nil_of_length_eq_zero (by omega)
          have hp : 0 < p.length := by simpa using ho'
          exact refC_o5p _ _ a1 a2 a3 c1 c2 c3 w hp
      · exact refC_o5t t _ _ _ a1 a2 a3 c1 c2 c3 w ht
  | false =>
    have hp : chkI ⟨k, t, l, p, s⟩ = if k = 2 then sizeT l.length (l.any longT) else if k = 3 then setT l else if k = 4 then hashT p else if k = 5 then scoreT s else if longT t = true then 2 else 0 := by
      rw [chkI, if_neg h0, if_neg (by rw [ho]; decide)]
    rw [hp]
    have ho' := of_decide_eq_false ho
    simp only at ho'
    have hkk : k = 1 ∨ k = 2 ∨ k = 3 ∨ k = 4 ∨ k = 5 := by omega
    rcases hkk with rfl | rfl | rfl | rfl | rfl
    · obtain rfl : l = [] := List.eq_nil_of_length_eq_zero (by by_cases hx : 0 < l.length; exact absurd (Or.inr (Or.inl ⟨by decide, hx⟩)) ho'; omega)
      obtain rfl : p = [] := List.eq_nil_of_length_eq_zero (by by_cases hx : 0 < p.length; exact absurd (Or.inr (Or.inr (Or.inl ⟨by decide, hx⟩))) ho'; omega)
      obtain rfl : s = [] := List.eq_nil_of_length_eq_zero (by by_cases hx : 0 < s.length; exact absurd (Or.inr (Or.inr (Or.inr ⟨by decide, hx⟩))) ho'; omega)
      rw [if_neg (by decide), if_neg (by decide), if_neg (by decide), if_neg (by decide)]
      exact refC_1 t a1 a2 a3 c1 c2 c3 w
    · obtain rfl := empty_bytes (t := t) (by by_cases ht : t.toList = []; exact ht; exact absurd (Or.inl ⟨by decide, ht⟩) ho')
      obtain rfl : p = [] := List.eq_nil_of_length_eq_zero (by by_cases hx : 0 < p.length; exact absurd (Or.inr (Or.inr (Or.inl ⟨by decide, hx⟩))) ho'; omega)
      obtain rfl : s = [] := List.eq_nil_of_length_eq_zero (by by_cases hx : 0 < s.length; exact absurd (Or.inr (Or.inr (Or.inr ⟨by decide, hx⟩))) ho'; omega)
      rw [if_pos rfl]
      exact refC_2 a1 a2 a3 c1 c2 c3 l w h1 ll
    · obtain rfl := empty_bytes (t := t) (by by_cases ht : t.toList = []; exact ht; exact absurd (Or.inl ⟨by decide, ht⟩) ho')
      obtain rfl : p = [] := List.eq_nil_of_length_eq_zero (by by_cases hx : 0 < p.length; exact absurd (Or.inr (Or.inr (Or.inl ⟨by decide, hx⟩))) ho'; omega)
      obtain rfl : s = [] := List.eq_nil_of_length_eq_zero (by by_cases hx : 0 < s.length; exact absurd (Or.inr (Or.inr (Or.inr ⟨by decide, hx⟩))) ho'; omega)
      rw [if_neg (by decide), if_pos rfl]
      exact refC_3 a1 a2 a3 c1 c2 c3 l w h1 ll lz
    · obtain rfl := empty_bytes (t := t) (by by_cases ht : t.toList = []; exact ht; exact absurd (Or.inl ⟨by decide, ht⟩) ho')
      obtain rfl : l = [] := List.eq_nil_of_length_eq_zero (by by_cases hx : 0 < l.length; exact absurd (Or.inr (Or.inl ⟨by decide, hx⟩)) ho'; omega)
      obtain rfl : s = [] := List.eq_nil_of_length_eq_zero (by by_cases hx : 0 < s.length; exact absurd (Or.inr (Or.inr (Or.inr ⟨by decide, hx⟩))) ho'; omega)
      rw [if_neg (by decide), if_neg (by decide), if_pos rfl]
      exact refC_4 a1 a2 a3 c1 c2 c3 p w h2 pl pz
    · obtain rfl := empty_bytes (t := t) (by by_cases ht : t.toList = []; exact ht; exact absurd (Or.inl ⟨by decide, ht⟩) ho')
      obtain rfl : l = [] := List.eq_nil_of_length_eq_zero (by by_cases hx : 0 < l.length; exact absurd (Or.inr (Or.inl ⟨by decide, hx⟩)) ho'; omega)
      obtain rfl : p = [] := List.eq_nil_of_length_eq_zero (by by_cases hx : 0 < p.length; exact absurd (Or.inr (Or.inr (Or.inl ⟨by decide, hx⟩))) ho'; omega)
      rw [if_neg (by decide), if_neg (by decide), if_neg (by decide), if_pos rfl]
      exact refC_5 a1 a2 a3 c1 c2 c3 s w h3 sl sz
end Go.Proofs.YtcidoodaiimhfaaGreat

/- WALK of Push. -/
namespace Go.Proofs.YtcidoodaiimhfaaGreat
open Go.RowKit

theorem pushLong_below (t : ByteArray) (w : World) : Calls Tryz.prog 87 #[.string t] w fun e w' => e = .returned (.bool (longT t)) ∧ Below w.heap.size w w' := by
  have h : decide ((60 : Int) < ((t.size : Nat) : Int)) = longT t := by unfold longT; simp; omega
  go_enter Tryz.func87, Tryz.ntmps87
  go_wp2_with fail
  go_ret
  exact ⟨rfl, Below.refl _ _⟩

set_option maxRecDepth 100000 in
set_option maxHeartbeats 1000000 in
theorem idxPushLong_any (a : Option Addr) (cap : Nat) (ts : List ByteArray) (w : World) (hs : TextsAt w a ts) (hn : ts.length ≤ 2000000) :
    Calls Tryz.prog 153 #[.slice a ts.length cap, .func (.func 87) #[] #[]] w fun e w' => (∃ n : Int, e = .returned (.int .i64 n) ∧ (decide (0 ≤ n) = ts.any longT)) ∧ Below w.heap.size w w' := by
  have HS := hide hs
  clear hs
  go_enter Tryz.func153, Tryz.ntmps153
  go_wp2_with fail
  go_loopw [8] (fun i wr => ∃ k : Nat, k ≤ ts.length ∧ i = .int .i64 k ∧ Below w.heap.size w wr ∧ Hid ((ts.take k).any longT = false)) (fun i _ => ts.length - (intOf i).toNat)
  case atStart => exact ⟨0, Nat.zero_le _, rfl, Below.refl _ _, by simp [Hid]⟩
  case round =>
    obtain ⟨k, hk, rfl, hb, HA⟩ := hrel
    by_cases hlt : k < ts.length
    · obtain ⟨g, o, rfl, hcs⟩ : ∃ g o, a = some ⟨g, o, none⟩ ∧ ∀ i (h : i < ts.length), w.cell? ⟨g, o + i, none⟩ = some (.string ts[i]) := by
        rcases HS.out with h | h
        · subst h; simp at hlt
        · exact h
      have HB : Hid (∀ g o v, w.cell? ⟨g, o, none⟩ = some v → wr.cell? ⟨g, o, none⟩ = some v) := fun g o _ hv => (hb.cell (p := ⟨g, o, none⟩) (World.block_lt_of_cell? _ _ hv)).trans hv
      have d0 : wr.cell? ⟨g, o + k, none⟩ = some (.string ts[k]) := HB.out _ _ _ (hcs k hlt)
      have HT : Hid ((ts.take (k + 1)).any longT = ((ts.take k).any longT || longT ts[k])) := by
        rw [Hid, List.take_succ_eq_append_getElem hlt, List.any_append]
        simp
      have HF : Hid (longT ts[k] = true → ts.any longT = true) := fun hx => List.any_eq_true.mpr ⟨ts[k], List.getElem_mem hlt, hx⟩
      clear hcs HS HB
      go_wp2_with fail
      refine (pushLong_below ts[k] wr).mono ?_
      rintro e w1 ⟨rfl, hb1⟩
      have hb2 : Below w.heap.size w w1 := hb.trans (hb1.mono hb.size)
      cases hx : longT ts[k] with
      | true =>
        have HY := hide (HF.out hx)
        clear HF HT hx
        go_wp2_with fail
        go_ret
        exact ⟨⟨_, rfl, by rw [HY.out]; simp⟩, hb2⟩
      | false =>
        have HY : Hid ((ts.take (k + 1)).any longT = false) := by rw [Hid, HT.out, HA.out, hx]; rfl
        clear HF HT hx
        go_wp2_with fail
        go_roundw
        case rel => exact ⟨k + 1, by omega, by go_num, hb2, HY⟩
        case measure => simp [intOf]; omega
    · have hkk : k = ts.length := by omega
      subst hkk
      have HY : Hid (ts.any longT = false) := by have := HA.out; rw [List.take_length] at this; exact this
      go_wp2_with fail
      go_ret
      exact ⟨⟨-1, rfl, by rw [HY.out]; rfl⟩, hb⟩
theorem containsPushLong_any (a : Option Addr) (cap : Nat) (ts : List ByteArray) (w : World) (hs : TextsAt w a ts) (hn : ts.length ≤ 2000000) :
    Calls Tryz.prog 86 #[.slice a ts.length cap, .func (.func 87) #[] #[]] w fun e w' => e = .returned (.bool (ts.any longT)) ∧ Below w.heap.size w w' := by
  have HI := hide (idxPushLong_any a cap ts w hs hn)
  clear hs
  go_enter Tryz.func86, Tryz.ntmps86
  go_wp2_with fail
  refine HI.out.mono ?_
  rintro e w1 ⟨⟨n, rfl, hd⟩, hb⟩
  have HD := hide hd
  clear hd
  go_wp2_with fail
  go_ret
  exact ⟨by rw [← HD.out]; rfl, hb⟩

/-- an item that is right as a list -/
theorem asI_list {x : Itm} (h : asI x 2 = 0) : x = lstI x.l ∧ x.l.length ≤ 24 ∧ x.l.any longT = false := by
  obtain ⟨k, t, l, p, s⟩ := x
  unfold asI at h
  split at h
  · rename_i hn
    simp only [Itm.isNone, decide_eq_true_eq] at hn
    obtain ⟨rfl, ht, rfl, rfl, rfl⟩ := hn
    obtain rfl := empty_bytes ht
    exact ⟨rfl, by simp, rfl⟩
  · split at h
    · rename_i h1; exact absurd h h1
    · rename_i h1
      split at h
      · cases h
      · rename_i hk
        have hk1 : k = 2 := by
          rcases Int.lt_trichotomy k 2 with h' | h' | h'
          · exact absurd (show k ≠ 2 by omega) hk
          · exact h'
          · exact absurd (show k ≠ 2 by omega) hk
        subst hk1
        have h2 : chkI ⟨2, t, l, p, s⟩ = 0 := by
          rcases Classical.em (chkI ⟨2, t, l, p, s⟩ = 0) with h' | h'
          · exact h'
          · exact absurd h' h1
        unfold chkI at h2
        rw [if_neg (show ¬ ((2 : Int) < 1 ∨ 5 < (2 : Int)) by decide)] at h2
        split at h2
        · cases h2
        · rename_i ho
          rw [if_pos rfl] at h2
          simp only [otherI, decide_eq_true_eq] at ho
          have ht : t.toList = [] := by
            rcases Classical.em (t.toList = []) with h' | h'
            · exact h'
            · exact absurd (Or.inl ⟨by decide, h'⟩) ho
          obtain rfl := empty_bytes ht
          obtain rfl : p = [] := List.eq_nil_of_length_eq_zero (by by_cases hx : 0 < p.length; exact absurd (Or.inr (Or.inr (Or.inl ⟨by decide, hx⟩))) ho; omega)
          obtain rfl : s = [] := List.eq_nil_of_length_eq_zero (by by_cases hx : 0 < s.length; exact absurd (Or.inr (Or.inr (Or.inr ⟨by decide, hx⟩))) ho; omega)
          have hp := sizeT_pos h2
          refine ⟨?_, sizeT_small h2, sizeT_short h2⟩
          simp only [lstI]
          rw [if_neg (fun e => by rw [e] at hp; simp at hp)]
def pushE (x : Itm) (l : List ByteArray) : Int := if asI x 2 ≠ 0 then asI x 2 else if 24 < x.l.length + l.length ∨ l.any longT = true then 2 else if l = [] then 1 else 0
def pushI (x : Itm) (left : Bool) (l : List ByteArray) : Itm := if pushE x l = 0 then lstI (pushL x.l left l) else Itm.none
def pushN (x : Itm) (l : List ByteArray) : Int := if pushE x l = 0 then ((x.l.length : Nat) : Int) + ((l.length : Nat) : Int) else 0
end Go.Proofs.YtcidoodaiimhfaaGreat

/- WALK of Push. -/
namespace Go.Proofs.YtcidoodaiimhfaaGreat
open Go.RowKit

set_option maxRecDepth 100000 in
set_option maxHeartbeats 4000000 in
theorem push_own (v : Value) (x : Itm) (left : Bool) (al : Option Addr) (cl : Nat) (l : List ByteArray) (w : World) (h : ItemIs w v x) (hl : TextsAt w al l) (hll : l.length ≤ 281474976710656) :
    Calls Tryz.prog 33 #[v, .bool left, .slice al l.length cl] w fun e w' => ∃ u, e = .returned (.tuple #[u, .int .i64 (pushN x l), .int .i64 (pushE x l)]) ∧ ItemOwn w.heap.size w' u (pushI x left l) ∧ Below w.heap.size w w' := by
  have HC : Hid (∀ W, Below w.heap.size w W → Calls Tryz.prog 85 #[v, .int .i64 2] W fun e w' => e = .returned (.int .i64 (asI x 2)) ∧ Below W.heap.size W w') := fun W hW => common_any v x 2 W (h.below hW)
  obtain ⟨⟨a1, c1, a2, c2, a3, c3, rfl, hx1, -, -⟩, tz, lz, -, -, -, -, -⟩ := h
  have HL := hide hl
  have HX := hide hx1
  clear hl hx1
  by_cases h0 : asI x 2 = 0
  · obtain ⟨-, hx24, hxl⟩ := asI_list h0
    rw [h0] at HC
    by_cases hbig : 24 < x.l.length + l.length
    · have hE : pushE x l = 2 := by rw [pushE, if_neg (by simp [h0]), if_pos (.inl hbig)]
      rw [pushN, pushI, hE, if_neg (by decide), if_neg (by decide)]
      have hbig' : (24 : Int) < ((x.l.length : Nat) : Int) + ((l.length : Nat) : Int) := by omega
      clear hE h0 hxl
      generalize x.t = t at *
      generalize x.k = k at *
      generalize x.p.length = n2 at *
      generalize x.s.length = n3 at *
      go_enter Tryz.func33, Tryz.ntmps33
      go_wp2_with fail
      refine (HC.out _ (((Below.refl _ w).alloc (Nat.le_refl _) _).alloc (by simp) _)).mono ?_
      rintro e w1 ⟨rfl, hb1⟩
      obtain ⟨hc, hf⟩ := bcell hb1
      have hz : w.heap.size + 1 < w1.heap.size := by have := hb1.size; simp at this; omega
      have hB1 : Below w.heap.size w w1 := (((Below.refl _ w).alloc (Nat.le_refl _) _).alloc (by simp) _).trans (hb1.mono (by simp; omega))
      go_wp2_with fail
      refine bodyPost_ret (v := .tuple #[.agg #[.int .i64 0, .string ⟨#[]⟩, .slice none 0 0, .slice none 0 0, .slice none 0 0], .int .i64 0, .int .i64 2]) (by simp [results, Tryz.results33, go_sem, hc]) rfl ⟨_, rfl, fun w'' _ => zero_is w'', ?_⟩
      go_grown
    · have hbig' : ¬ (24 : Int) < ((x.l.length : Nat) : Int) + ((l.length : Nat) : Int) := by omega
      have HK : Hid (∀ W, Below w.heap.size w W → Calls Tryz.prog 86 #[.slice al l.length cl, .func (.func 87) #[] #[]] W fun e w' => e = .returned (.bool (l.any longT)) ∧ Below W.heap.size W w') := fun W hW => containsPushLong_any al cl l W (HL.out.below hW) (by omega)
      cases hlong : l.any longT with
      | true =>
        have hE : pushE x l = 2 := by rw [pushE, if_neg (by simp [h0]), if_pos (.inr hlong)]
        rw [pushN, pushI, hE, if_neg (by decide), if_neg (by decide)]
        rw [hlong] at HK
        clear hE h0 hxl hlong
        generalize x.t = t at *
        generalize x.k = k at *
        generalize x.p.length = n2 at *
        generalize x.s.length = n3 at *
        go_enter Tryz.func33, Tryz.ntmps33
        go_wp2_with fail
        refine (HC.out _ (((Below.refl _ w).alloc (Nat.le_refl _) _).alloc (by simp) _)).mono ?_
        rintro e w1 ⟨rfl, hb1⟩
        obtain ⟨hc, hf⟩ := bcell hb1
        have hz : w.heap.size + 1 < w1.heap.size := by have := hb1.size; simp at this; omega
        have hB1 : Below w.heap.size w w1 := (((Below.refl _ w).alloc (Nat.le_refl _) _).alloc (by simp) _).trans (hb1.mono (by simp; omega))
        go_wp2_with fail
        refine (HK.out w1 hB1).mono ?_
        rintro e w2 ⟨rfl, hb2⟩
        obtain ⟨hc2, hf2⟩ := bcell hb2
        have hz2 : w.heap.size + 1 < w2.heap.size := by have := hb2.size; omega
        have hB2 : Below w.heap.size w w2 := hB1.trans (hb2.mono hB1.size)
        go_wp2_with fail
        refine bodyPost_ret (v := .tuple #[.agg #[.int .i64 0, .string ⟨#[]⟩, .slice none 0 0, .slice none 0 0, .slice none 0 0], .int .i64 0, .int .i64 2]) (by simp [results, Tryz.results33, go_sem, hc2, hc, hz]) rfl ⟨_, rfl, fun w'' _ => zero_is w'', ?_⟩
        go_grown
      | false =>
        rw [hlong] at HK
        by_cases hne : l = []
        · subst hne
          have hE : pushE x [] = 1 := by rw [pushE, if_neg (by simp [h0]), if_neg (by rintro (h | h); omega; cases h), if_pos rfl]
          rw [pushN, pushI, hE, if_neg (by decide), if_neg (by decide)]
          clear hE h0 hxl hlong
          generalize x.t = t at *
          generalize x.k = k at *
          generalize x.p.length = n2 at *
          generalize x.s.length = n3 at *
          go_enter Tryz.func33, Tryz.ntmps33
          go_wp2_with fail
          refine (HC.out _ (((Below.refl _ w).alloc (Nat.le_refl _) _).alloc (by simp) _)).mono ?_
          rintro e w1 ⟨rfl, hb1⟩
          obtain ⟨hc, hf⟩ := bcell hb1
          have hz : w.heap.size + 1 < w1.heap.size := by have := hb1.size; simp at this; omega
          have hB1 : Below w.heap.size w w1 := (((Below.refl _ w).alloc (Nat.le_refl _) _).alloc (by simp) _).trans (hb1.mono (by simp; omega))
          go_wp2_with fail
          refine (HK.out w1 hB1).mono ?_
          rintro e w2 ⟨rfl, hb2⟩
          obtain ⟨hc2, hf2⟩ := bcell hb2
          have hz2 : w.heap.size + 1 < w2.heap.size := by have := hb2.size; omega
          have hB2 : Below w.heap.size w w2 := hB1.trans (hb2.mono hB1.size)
          go_wp2_with fail
          refine bodyPost_ret (v := .tuple #[.agg #[.int .i64 0, .string ⟨#[]⟩, .slice none 0 0, .slice none 0 0, .slice none 0 0], .int .i64 0, .int .i64 1]) (by simp [results, Tryz.results33, go_sem, hc2, hc, hz]) rfl ⟨_, rfl, fun w'' _ => zero_is w'', ?_⟩
          go_grown
        · have hE : pushE x l = 0 := by rw [pushE, if_neg (by simp [h0]), if_neg (by rintro (h | h); omega; rw [hlong] at h; cases h), if_neg hne]
          have hlp : 0 < l.length := List.length_pos_iff.2 hne
          have hl0 : (((l.length : Nat) : Int) == 0) = false := by rw [beq_eq_false_iff_ne]; omega
          rw [pushN, pushI, hE, if_pos rfl, if_pos rfl]
          have HTG : Hid (∀ W, Below w.heap.size w W → Calls Tryz.prog 88 #[.slice a1 x.l.length c1, .bool left, .slice al l.length cl] W fun e w' => ∃ v, e = .returned v ∧ w'.ownsRow W.heap.size 9 1 v (pushL x.l left l).length (strs (pushL x.l left l)) ∧ Below W.heap.size W w') := fun W hW => together_any a1 al c1 cl x.l l left W (HX.out.below hW) (HL.out.below hW) hne (by omega)
          have HPZ : Hid (∀ t ∈ pushL x.l left l, t.size ≤ maxLen) := fun t ht => by
            have hm : t ∈ x.l ∨ t ∈ l := by
              unfold pushL at ht
              split at ht
              · rcases List.mem_append.1 ht with h | h
                · exact .inr (List.mem_reverse.1 h)
                · exact .inl h
              · rcases List.mem_append.1 ht with h | h
                · exact .inl h
                · exact .inr h
            rcases hm with h | h
            · exact lz t h
            · have := List.any_eq_false.1 hlong t h
              simp only [longT, decide_eq_true_eq] at this
              unfold maxLen
              omega
          have HPL : Hid ((pushL x.l left l).length = x.l.length + l.length) := by unfold pushL; split <;> simp [Hid]; omega
          have HPN : Hid (pushL x.l left l ≠ []) := fun e => by have := HPL.out; rw [e] at this; simp at this; omega
          clear hE h0 hxl hlong lz
          generalize pushL x.l left l = K at *
          generalize x.t = t at *
          generalize x.k = k at *
          generalize x.p.length = n2 at *
          generalize x.s.length = n3 at *
          go_enter Tryz.func33, Tryz.ntmps33
          go_wp2_with fail
          refine (HC.out _ (((Below.refl _ w).alloc (Nat.le_refl _) _).alloc (by simp) _)).mono ?_
          rintro e w1 ⟨rfl, hb1⟩
          obtain ⟨hc, hf⟩ := bcell hb1
          have hz : w.heap.size + 1 < w1.heap.size := by have := hb1.size; simp at this; omega
          have hB1 : Below w.heap.size w w1 := (((Below.refl _ w).alloc (Nat.le_refl _) _).alloc (by simp) _).trans (hb1.mono (by simp; omega))
          go_wp2_with fail
          refine (HK.out w1 hB1).mono ?_
          rintro e w2 ⟨rfl, hb2⟩
          obtain ⟨hc2, hf2⟩ := bcell hb2
          have hz2 : w.heap.size + 1 < w2.heap.size := by have := hb2.size; omega
          have hB2 : Below w.heap.size w w2 := hB1.trans (hb2.mono hB1.size)
          have y1 : w.heap.size < w1.heap.size := by omega
          have y2 : w.heap.size < w2.heap.size := by omega
          go_wp2_with fail
          refine (HTG.out w2 hB2).mono ?_
          rintro e w3 ⟨u, rfl, hown, hb3⟩
          obtain ⟨ao, cp, rfl⟩ := slice_own hown
          obtain ⟨hc3, hf3⟩ := bcell hb3
          have hz3 : w.heap.size + 1 < w3.heap.size := by have := hb3.size; omega
          have hB3 : Below w.heap.size w w3 := hB2.trans (hb3.mono hB2.size)
          have HT : Hid (∀ w', (∀ g o u, w2.heap.size ≤ g → w3.cell? ⟨g, o, none⟩ = some u → w3.frozen? ⟨g, o, none⟩ = false → w'.cell? ⟨g, o, none⟩ = some u) → TextsAt w' ao K) := fun w' hw => texts_ownF hown hw
          clear hown
          generalize hKL : K.length = n at *
          go_wp2_with fail
          refine bodyPost_ret (v := .tuple #[.agg #[.int .i64 2, .string ⟨#[]⟩, .slice ao n cp, .slice none 0 0, .slice none 0 0], .int .i64 (((x.l.length : Nat) : Int) + ((l.length : Nat) : Int)), .int .i64 0]) (by simp [results, Tryz.results33, go_sem, hc3, hc2, hc, hz, hz2]) rfl ⟨_, rfl, ?_, ?_⟩
          · subst hKL
            exact fun w'' hw => lstI_is (HT.out w'' (fun g o u hg hu hf => hw g o u (by omega) ((five_apart _ _ _ _ _ _ _ g o (by omega)).trans hu) (by simpa using hf))) HPN.out HPZ.out (by rw [HPL.out]; omega)
          · go_grown
  · have hE : pushE x l = asI x 2 := by rw [pushE, if_pos h0]
    have h0' : (asI x 2 == 0) = false := by rw [beq_eq_false_iff_ne]; exact h0
    rw [pushN, pushI, hE, if_neg h0, if_neg h0]
    clear hE
    generalize asI x 2 = E at *
    generalize x.t = t at *
    generalize x.k = k at *
    generalize x.p.length = n2 at *
    generalize x.s.length = n3 at *
    go_enter Tryz.func33, Tryz.ntmps33
    go_wp2_with fail
    refine (HC.out _ (((Below.refl _ w).alloc (Nat.le_refl _) _).alloc (by simp) _)).mono ?_
    rintro e w1 ⟨rfl, hb1⟩
    obtain ⟨hc, hf⟩ := bcell hb1
    have hz : w.heap.size + 1 < w1.heap.size := by have := hb1.size; simp at this; omega
    have hB1 : Below w.heap.size w w1 := (((Below.refl _ w).alloc (Nat.le_refl _) _).alloc (by simp) _).trans (hb1.mono (by simp; omega))
    go_wp2_with fail
    refine bodyPost_ret (v := .tuple #[.agg #[.int .i64 0, .string ⟨#[]⟩, .slice none 0 0, .slice none 0 0, .slice none 0 0], .int .i64 0, .int .i64 E]) (by simp [results, Tryz.results33, go_sem, hc]) rfl ⟨_, rfl, fun w'' _ => zero_is w'', ?_⟩
    go_grown
theorem push_any (v : Value) (x : Itm) (left : Bool) (al : Option Addr) (cl : Nat) (l : List ByteArray) (w : World) (h : ItemIs w v x) (hl : TextsAt w al l) (hll : l.length ≤ 281474976710656) :
    Calls Tryz.prog 33 #[v, .bool left, .slice al l.length cl] w fun e w' => ∃ u, e = .returned (.tuple #[u, .int .i64 (pushN x l), .int .i64 (pushE x l)]) ∧ ItemFrom w.heap.size w' u (pushI x left l) ∧ Below w.heap.size w w' :=
  (push_own v x left al cl l w h hl hll).mono fun _ _ ⟨u, he, hi, hb⟩ => ⟨u, he, hi.from, hb⟩
end Go.Proofs.YtcidoodaiimhfaaGreat

/- WALK of Pop. -/
namespace Go.Proofs.YtcidoodaiimhfaaGreat
open Go.RowKit

def popE (x : Itm) : Int := if asI x 2 ≠ 0 then asI x 2 else if x.l = [] then 5 else 0
def popAt (left : Bool) (l : List ByteArray) : Nat := if left then 0 else l.length - 1
def popK (l : List ByteArray) (left : Bool) : List ByteArray := keptTo (fun i _ => decide (i = popAt left l)) l l.length
def popI (x : Itm) (left : Bool) : Itm := if popE x = 0 then lstI (popK x.l left) else Itm.none
def popS (x : Itm) (left : Bool) : ByteArray := if popE x = 0 then x.l[popAt left x.l]! else ⟨#[]⟩
set_option maxRecDepth 100000 in
set_option maxHeartbeats 4000000 in
theorem pop_own (v : Value) (x : Itm) (left : Bool) (w : World) (h : ItemIs w v x) :
    Calls Tryz.prog 34 #[v, .bool left] w fun e w' => ∃ u, e = .returned (.tuple #[u, .string (popS x left), .int .i64 (popE x)]) ∧ ItemOwn w.heap.size w' u (popI x left) ∧ Below w.heap.size w w' := by
  have HC : Hid (∀ W, Below w.heap.size w W → Calls Tryz.prog 85 #[v, .int .i64 2] W fun e w' => e = .returned (.int .i64 (asI x 2)) ∧ Below W.heap.size W w') := fun W hW => common_any v x 2 W (h.below hW)
  obtain ⟨⟨a1, c1, a2, c2, a3, c3, rfl, hx1, -, -⟩, tz, lz, -, -, -, -, -⟩ := h
  have HX := hide hx1
  clear hx1
  by_cases h0 : asI x 2 = 0
  · obtain ⟨-, hx24, hxl⟩ := asI_list h0
    rw [h0] at HC
    by_cases hne : x.l = []
    · have hE : popE x = 5 := by rw [popE, if_neg (by simp [h0]), if_pos hne]
      rw [popS, popI, hE, if_neg (by decide), if_neg (by decide)]
      rw [hne] at HC ⊢
      clear hE h0 hxl hne HX
      generalize x.t = t at *
      generalize x.k = k at *
      generalize x.p.length = n2 at *
      generalize x.s.length = n3 at *
      go_enter Tryz.func34, Tryz.ntmps34
      go_wp2_with fail
      refine (HC.out _ (((Below.refl _ w).alloc (Nat.le_refl _) _).alloc (by simp) _)).mono ?_
      rintro e w1 ⟨rfl, hb1⟩
      obtain ⟨hc, hf⟩ := bcell hb1
      have hz : w.heap.size + 1 < w1.heap.size := by have := hb1.size; simp at this; omega
      have hB1 : Below w.heap.size w w1 := (((Below.refl _ w).alloc (Nat.le_refl _) _).alloc (by simp) _).trans (hb1.mono (by simp; omega))
      go_wp2_with fail
      refine bodyPost_ret (v := .tuple #[.agg #[.int .i64 0, .string ⟨#[]⟩, .slice none 0 0, .slice none 0 0, .slice none 0 0], .string ⟨#[]⟩, .int .i64 5]) (by simp [results, Tryz.results34, go_sem, hc]) rfl ⟨_, rfl, fun w'' _ => zero_is w'', ?_⟩
      go_grown
    · have hE : popE x = 0 := by rw [popE, if_neg (by simp [h0]), if_neg hne]
      rw [popS, popI, hE, if_pos rfl, if_pos rfl, popK]
      have hpos : 0 < x.l.length := List.length_pos_iff.2 hne
      have hl0 : (((x.l.length : Nat) : Int) == 0) = false := by rw [beq_eq_false_iff_ne]; omega
      have HZ := hide lz
      clear hE h0 hxl hne lz
      generalize x.l = L at *
      cases left with
      | true =>
        have hat : 0 < L.length := hpos
        rw [show popAt true L = 0 from rfl, getElem!_pos L 0 hat]
        have HW : Hid (∀ (b : Nat) (W : World), Below w.heap.size w W → W.cell? ⟨b, 0, none⟩ = some (.int .i64 ((0 : Nat) : Int)) → Calls Tryz.prog 89 #[.slice a1 L.length c1, .func (.func 90) #[] #[.pointer (some ⟨b, 0, none⟩)]] W fun e w' => ∃ v, e = .returned v ∧ ItemOwn W.heap.size w' v (lstI (keptTo (fun i _ => decide (i = 0)) L L.length)) ∧ Below W.heap.size W w') := fun b W hW hc => withoutP_any b 0 a1 c1 L W (HX.out.below hW) (by omega) HZ.out hc
        generalize x.t = t at *
        generalize x.k = k at *
        generalize x.p.length = n2 at *
        generalize x.s.length = n3 at *
        go_enter Tryz.func34, Tryz.ntmps34
        go_wp2_with fail
        refine (HC.out _ (((Below.refl _ w).alloc (Nat.le_refl _) _).alloc (by simp) _)).mono ?_
        rintro e w1 ⟨rfl, hb1⟩
        obtain ⟨hc, hf⟩ := bcell hb1
        have hz : w.heap.size + 1 < w1.heap.size := by have := hb1.size; simp at this; omega
        have hB1 : Below w.heap.size w w1 := (((Below.refl _ w).alloc (Nat.le_refl _) _).alloc (by simp) _).trans (hb1.mono (by simp; omega))
        go_wp2_with fail
        obtain ⟨g, o, rfl, hcs⟩ : ∃ g o, a1 = some ⟨g, o, none⟩ ∧ ∀ i (h : i < L.length), w.cell? ⟨g, o + i, none⟩ = some (.string L[i]) := by
          rcases HX.out with h | h
          · subst h; simp at hpos
          · exact h
        have hgl : g < w.heap.size := World.block_lt_of_cell? _ _ (hcs _ hat)
        have HO : Hid (w1.cell? ⟨g, o, none⟩ = some (.string L[0])) := (hB1.cell (p := ⟨g, o, none⟩) hgl).trans (by simpa using hcs _ hat)
        have HX1 : Hid (w1.cell? ⟨w.heap.size, 2, none⟩ = some (.slice (some ⟨g, o, none⟩) L.length c1)) := (hc _ _ (by simp; omega)).trans (by simp [go_sem])
        have HK0 : Hid (∀ j, w1.frozen? ⟨w.heap.size + 1, j, none⟩ = false) := fun j => (hf _ _ (by simp)).trans (by simp [go_sem])
        have HB0 : Hid (w1.cell? ⟨w.heap.size + 1, 0, none⟩ = some (.int .i64 0) ∧ w1.cell? ⟨w.heap.size + 1, 1, none⟩ = some (.string ⟨#[]⟩) ∧ w1.cell? ⟨w.heap.size + 1, 2, none⟩ = some (.slice none 0 0) ∧ w1.cell? ⟨w.heap.size + 1, 3, none⟩ = some (.slice none 0 0) ∧ w1.cell? ⟨w.heap.size + 1, 4, none⟩ = some (.slice none 0 0)) :=
          ⟨(hc _ _ (by simp)).trans (by simp [go_sem]), (hc _ _ (by simp)).trans (by simp [go_sem]), (hc _ _ (by simp)).trans (by simp [go_sem]), (hc _ _ (by simp)).trans (by simp [go_sem]), (hc _ _ (by simp)).trans (by simp [go_sem])⟩
        have CB : Below w.heap.size w (w1.alloc (.cells #[.int .i64 ((0 : Nat) : Int)] 3)) := hB1.alloc hB1.size _
        have c2' : w1.cell? ⟨w.heap.size, 2, none⟩ = some (.slice (some ⟨g, o, none⟩) L.length c1) := HX1.out
        have o2' : w1.cell? ⟨g, o, none⟩ = some (.string L[0]) := HO.out
        have hgl1 : g < w1.heap.size := by omega
        have hy1 : w.heap.size < w1.heap.size := by omega
        clear hcs HX hc hf hb1 HO HX1
        go_wp2_with fail
        generalize hW1 : World.alloc w1 _ = W1
        have AB : Below w1.heap.size w1 W1 := by rw [← hW1]; exact (Below.refl _ _).alloc (Nat.le_refl _) _
        have zW : w1.heap.size < W1.heap.size := by rw [← hW1]; simp
        have A0 : W1.cell? ⟨w1.heap.size, 0, none⟩ = some (.int .i64 ((0 : Nat) : Int)) := by rw [← hW1]; simp [go_sem]
        have CW : Below w.heap.size w W1 := hB1.trans (AB.mono hB1.size)
        have X2 : W1.cell? ⟨w.heap.size, 2, none⟩ = some (.slice (some ⟨g, o, none⟩) L.length c1) := (AB.cell (p := ⟨w.heap.size, 2, none⟩) hy1).trans c2'
        have O2 : W1.cell? ⟨g, o, none⟩ = some (.string L[0]) := (AB.cell (p := ⟨g, o, none⟩) hgl1).trans o2'
        have HBB : Hid (∀ w2, Below W1.heap.size W1 w2 → (w2.cell? ⟨w.heap.size + 1, 0, none⟩ = some (.int .i64 0) ∧ w2.cell? ⟨w.heap.size + 1, 1, none⟩ = some (.string ⟨#[]⟩) ∧ w2.cell? ⟨w.heap.size + 1, 2, none⟩ = some (.slice none 0 0) ∧ w2.cell? ⟨w.heap.size + 1, 3, none⟩ = some (.slice none 0 0) ∧ w2.cell? ⟨w.heap.size + 1, 4, none⟩ = some (.slice none 0 0)) ∧ (∀ j, w2.frozen? ⟨w.heap.size + 1, j, none⟩ = false) ∧ w2.cell? ⟨w.heap.size, 2, none⟩ = some (.slice (some ⟨g, o, none⟩) L.length c1) ∧ w2.cell? ⟨w1.heap.size, 0, none⟩ = some (.int .i64 ((0 : Nat) : Int)) ∧ w2.cell? ⟨g, o, none⟩ = some (.string L[0])) := fun w2 h2 => by
          have hyy : w.heap.size + 1 < W1.heap.size := by omega
          have A2 : Below w1.heap.size w1 w2 := AB.trans (h2.mono (Nat.le_of_lt zW))
          obtain ⟨b0, b1, b2, b3, b4⟩ := HB0.out
          exact ⟨⟨(A2.cell (p := ⟨w.heap.size + 1, 0, none⟩) hz).trans b0, (A2.cell (p := ⟨w.heap.size + 1, 1, none⟩) hz).trans b1, (A2.cell (p := ⟨w.heap.size + 1, 2, none⟩) hz).trans b2, (A2.cell (p := ⟨w.heap.size + 1, 3, none⟩) hz).trans b3, (A2.cell (p := ⟨w.heap.size + 1, 4, none⟩) hz).trans b4⟩, fun j => (A2.frozen (p := ⟨w.heap.size + 1, j, none⟩) hz).trans (HK0.out j), (h2.cell (p := ⟨w.heap.size, 2, none⟩) (by simp only; omega)).trans X2, (h2.cell (p := ⟨w1.heap.size, 0, none⟩) zW).trans A0, (h2.cell (p := ⟨g, o, none⟩) (by simp only; omega)).trans O2⟩
        have ne1 : w1.heap.size ≠ w.heap.size + 1 := by omega
        have ne2 : w.heap.size + 1 ≠ w1.heap.size := by omega
        have ne3 : g ≠ w.heap.size + 1 := by omega
        have ne4 : w.heap.size + 1 ≠ g := by omega
        clear hW1 CB c2' o2'
        go_region_held3 (fun w' => w'.cell? ⟨w.heap.size, 2, none⟩ = some (.slice (some ⟨g, o, none⟩) L.length c1) ∧ w'.cell? ⟨w1.heap.size, 0, none⟩ = some (.int .i64 ((0 : Nat) : Int)) ∧ w'.cell? ⟨g, o, none⟩ = some (.string L[0])) (go_keep)
          ((go_at_call 89; refine (HW.out w1.heap.size _ CW.drew A0).mono ?_; rintro e w2 ⟨u, rfl, hI, hb2⟩; obtain ⟨⟨i1, j1, i2, j2, i3, j3, rfl, -, -, -⟩, -, -, -, -, -, -, -⟩ := id hI.is; obtain ⟨⟨b0, b1, b2, b3, b4⟩, fz, s2, s1, s3⟩ := HBB.out w2 ⟨hb2.os, hb2.tape, hb2.output, hb2.size, hb2.block⟩; have fz0 := fz 0; have fz1 := fz 1; have fz2 := fz 2; have fz3 := fz 3; have fz4 := fz 4))
        all_goals
          go_wp2_with fail
          have hb2' : Below W1.heap.size W1 w2 := ⟨hb2.os, hb2.tape, hb2.output, hb2.size, hb2.block⟩
          have C2 : Below w.heap.size w w2 := CW.trans (hb2'.mono CW.size)
          refine bodyPost_ret (v := .tuple #[.agg #[.int .i64 (lstI (keptTo (fun i _ => decide (i = 0)) L L.length)).k, .string (lstI (keptTo (fun i _ => decide (i = 0)) L L.length)).t, .slice i1 (lstI (keptTo (fun i _ => decide (i = 0)) L L.length)).l.length j1, .slice i2 (lstI (keptTo (fun i _ => decide (i = 0)) L L.length)).p.length j2, .slice i3 (lstI (keptTo (fun i _ => decide (i = 0)) L L.length)).s.length j3], .string L[0], .int .i64 0]) (by simp [results, Tryz.results34, go_sem, b0, b1, b2, b3, b4]) rfl ⟨_, rfl, ?_, ?_⟩
          · exact fun w'' hw => hI w'' (fun g' o' u' hg hu hf => hw g' o' u' (by have : W1.drew.heap.size = W1.heap.size := rfl; omega) ((five_apart _ _ _ _ _ _ _ g' o' (by have : W1.drew.heap.size = W1.heap.size := rfl; omega)).trans hu) (by simpa using hf))
          · go_grown
      | false =>
        obtain ⟨m, hm⟩ : ∃ m, m = L.length - 1 := ⟨_, rfl⟩
        have hat : m < L.length := by omega
        rw [show popAt false L = m by rw [hm]; rfl, getElem!_pos L m hat]
        have hmI : ((L.length : Nat) : Int) - 1 = ((m : Nat) : Int) := by omega
        have hmi : ((m : Nat) : Int) < ((L.length : Nat) : Int) := by omega
        have HW : Hid (∀ (b : Nat) (W : World), Below w.heap.size w W → W.cell? ⟨b, 0, none⟩ = some (.int .i64 ((m : Nat) : Int)) → Calls Tryz.prog 89 #[.slice a1 L.length c1, .func (.func 90) #[] #[.pointer (some ⟨b, 0, none⟩)]] W fun e w' => ∃ v, e = .returned v ∧ ItemOwn W.heap.size w' v (lstI (keptTo (fun i _ => decide (i = m)) L L.length)) ∧ Below W.heap.size W w') := fun b W hW hc => withoutP_any b m a1 c1 L W (HX.out.below hW) (by omega) HZ.out hc
        clear hm
        generalize x.t = t at *
        generalize x.k = k at *
        generalize x.p.length = n2 at *
        generalize x.s.length = n3 at *
        go_enter Tryz.func34, Tryz.ntmps34
        go_wp2_with fail
        refine (HC.out _ (((Below.refl _ w).alloc (Nat.le_refl _) _).alloc (by simp) _)).mono ?_
        rintro e w1 ⟨rfl, hb1⟩
        obtain ⟨hc, hf⟩ := bcell hb1
        have hz : w.heap.size + 1 < w1.heap.size := by have := hb1.size; simp at this; omega
        have hB1 : Below w.heap.size w w1 := (((Below.refl _ w).alloc (Nat.le_refl _) _).alloc (by simp) _).trans (hb1.mono (by simp; omega))
        go_wp2_with fail
        obtain ⟨g, o, rfl, hcs⟩ : ∃ g o, a1 = some ⟨g, o, none⟩ ∧ ∀ i (h : i < L.length), w.cell? ⟨g, o + i, none⟩ = some (.string L[i]) := by
          rcases HX.out with h | h
          · subst h; simp at hpos
          · exact h
        have hgl : g < w.heap.size := World.block_lt_of_cell? _ _ (hcs _ hat)
        have HO : Hid (w1.cell? ⟨g, o + m, none⟩ = some (.string L[m])) := (hB1.cell (p := ⟨g, o + m, none⟩) hgl).trans (by simpa using hcs _ hat)
        have HX1 : Hid (w1.cell? ⟨w.heap.size, 2, none⟩ = some (.slice (some ⟨g, o, none⟩) L.length c1)) := (hc _ _ (by simp; omega)).trans (by simp [go_sem])
        have HK0 : Hid (∀ j, w1.frozen? ⟨w.heap.size + 1, j, none⟩ = false) := fun j => (hf _ _ (by simp)).trans (by simp [go_sem])
        have HB0 : Hid (w1.cell? ⟨w.heap.size + 1, 0, none⟩ = some (.int .i64 0) ∧ w1.cell? ⟨w.heap.size + 1, 1, none⟩ = some (.string ⟨#[]⟩) ∧ w1.cell? ⟨w.heap.size + 1, 2, none⟩ = some (.slice none 0 0) ∧ w1.cell? ⟨w.heap.size + 1, 3, none⟩ = some (.slice none 0 0) ∧ w1.cell? ⟨w.heap.size + 1, 4, none⟩ = some (.slice none 0 0)) :=
          ⟨(hc _ _ (by simp)).trans (by simp [go_sem]), (hc _ _ (by simp)).trans (by simp [go_sem]), (hc _ _ (by simp)).trans (by simp [go_sem]), (hc _ _ (by simp)).trans (by simp [go_sem]), (hc _ _ (by simp)).trans (by simp [go_sem])⟩
        have CB : Below w.heap.size w (w1.alloc (.cells #[.int .i64 ((m : Nat) : Int)] 3)) := hB1.alloc hB1.size _
        have c2' : w1.cell? ⟨w.heap.size, 2, none⟩ = some (.slice (some ⟨g, o, none⟩) L.length c1) := HX1.out
        have o2' : w1.cell? ⟨g, o + m, none⟩ = some (.string L[m]) := HO.out
        have hgl1 : g < w1.heap.size := by omega
        have hy1 : w.heap.size < w1.heap.size := by omega
        clear hcs HX hc hf hb1 HO HX1
        go_wp2_with fail
        generalize hW1 : World.alloc w1 _ = W1
        have AB : Below w1.heap.size w1 W1 := by rw [← hW1]; exact (Below.refl _ _).alloc (Nat.le_refl _) _
        have zW : w1.heap.size < W1.heap.size := by rw [← hW1]; simp
        have A0 : W1.cell? ⟨w1.heap.size, 0, none⟩ = some (.int .i64 ((m : Nat) : Int)) := by rw [← hW1]; simp [go_sem]
        have CW : Below w.heap.size w W1 := hB1.trans (AB.mono hB1.size)
        have X2 : W1.cell? ⟨w.heap.size, 2, none⟩ = some (.slice (some ⟨g, o, none⟩) L.length c1) := (AB.cell (p := ⟨w.heap.size, 2, none⟩) hy1).trans c2'
        have O2 : W1.cell? ⟨g, o + m, none⟩ = some (.string L[m]) := (AB.cell (p := ⟨g, o + m, none⟩) hgl1).trans o2'
        have HBB : Hid (∀ w2, Below W1.heap.size W1 w2 → (w2.cell? ⟨w.heap.size + 1, 0, none⟩ = some (.int .i64 0) ∧ w2.cell? ⟨w.heap.size + 1, 1, none⟩ = some (.string ⟨#[]⟩) ∧ w2.cell? ⟨w.heap.size + 1, 2, none⟩ = some (.slice none 0 0) ∧ w2.cell? ⟨w.heap.size + 1, 3, none⟩ = some (.slice none 0 0) ∧ w2.cell? ⟨w.heap.size + 1, 4, none⟩ = some (.slice none 0 0)) ∧ (∀ j, w2.frozen? ⟨w.heap.size + 1, j, none⟩ = false) ∧ w2.cell? ⟨w.heap.size, 2, none⟩ = some (.slice (some ⟨g, o, none⟩) L.length c1) ∧ w2.cell? ⟨w1.heap.size, 0, none⟩ = some (.int .i64 ((m : Nat) : Int)) ∧ w2.cell? ⟨g, o + m, none⟩ = some (.string L[m])) := fun w2 h2 => by
          have hyy : w.heap.size + 1 < W1.heap.size := by omega
          have A2 : Below w1.heap.size w1 w2 := AB.trans (h2.mono (Nat.le_of_lt zW))
          obtain ⟨b0, b1, b2, b3, b4⟩ := HB0.out
          exact ⟨⟨(A2.cell (p := ⟨w.heap.size + 1, 0, none⟩) hz).trans b0, (A2.cell (p := ⟨w.heap.size + 1, 1, none⟩) hz).trans b1, (A2.cell (p := ⟨w.heap.size + 1, 2, none⟩) hz).trans b2, (A2.cell (p := ⟨w.heap.size + 1, 3, none⟩) hz).trans b3, (A2.cell (p := ⟨w.heap.size + 1, 4, none⟩) hz).trans b4⟩, fun j => (A2.frozen (p := ⟨w.heap.size + 1, j, none⟩) hz).trans (HK0.out j), (h2.cell (p := ⟨w.heap.size, 2, none⟩) (by simp only; omega)).trans X2, (h2.cell (p := ⟨w1.heap.size, 0, none⟩) zW).trans A0, (h2.cell (p := ⟨g, o + m, none⟩) (by simp only; omega)).trans O2⟩
        have ne1 : w1.heap.size ≠ w.heap.size + 1 := by omega
        have ne2 : w.heap.size + 1 ≠ w1.heap.size := by omega
        have ne3 : g ≠ w.heap.size + 1 := by omega
        have ne4 : w.heap.size + 1 ≠ g := by omega
        clear hW1 CB c2' o2'
        go_region_held3 (fun w' => w'.cell? ⟨w.heap.size, 2, none⟩ = some (.slice (some ⟨g, o, none⟩) L.length c1) ∧ w'.cell? ⟨w1.heap.size, 0, none⟩ = some (.int .i64 ((m : Nat) : Int)) ∧ w'.cell? ⟨g, o + m, none⟩ = some (.string L[m])) (go_keep)
          ((go_at_call 89; refine (HW.out w1.heap.size _ CW.drew A0).mono ?_; rintro e w2 ⟨u, rfl, hI, hb2⟩; obtain ⟨⟨i1, j1, i2, j2, i3, j3, rfl, -, -, -⟩, -, -, -, -, -, -, -⟩ := id hI.is; obtain ⟨⟨b0, b1, b2, b3, b4⟩, fz, s2, s1, s3⟩ := HBB.out w2 ⟨hb2.os, hb2.tape, hb2.output, hb2.size, hb2.block⟩; have fz0 := fz 0; have fz1 := fz 1; have fz2 := fz 2; have fz3 := fz 3; have fz4 := fz 4))
        all_goals
          go_wp2_with fail
          have hb2' : Below W1.heap.size W1 w2 := ⟨hb2.os, hb2.tape, hb2.output, hb2.size, hb2.block⟩
          have C2 : Below w.heap.size w w2 := CW.trans (hb2'.mono CW.size)
          refine bodyPost_ret (v := .tuple #[.agg #[.int .i64 (lstI (keptTo (fun i _ => decide (i = m)) L L.length)).k, .string (lstI (keptTo (fun i _ => decide (i = m)) L L.length)).t, .slice i1 (lstI (keptTo (fun i _ => decide (i = m)) L L.length)).l.length j1, .slice i2 (lstI (keptTo (fun i _ => decide (i = m)) L L.length)).p.length j2, .slice i3 (lstI (keptTo (fun i _ => decide (i = m)) L L.length)).s.length j3], .string L[m], .int .i64 0]) (by simp [results, Tryz.results34, go_sem, b0, b1, b2, b3, b4]) rfl ⟨_, rfl, ?_, ?_⟩
          · exact fun w'' hw => hI w'' (fun g' o' u' hg hu hf => hw g' o' u' (by have : W1.drew.heap.size = W1.heap.size := rfl; omega) ((five_apart _ _ _ _ _ _ _ g' o' (by have : W1.drew.heap.size = W1.heap.size := rfl; omega)).trans hu) (by simpa using hf))
          · go_grown
  · have hE : popE x = asI x 2 := by rw [popE, if_pos h0]
    have h0' : (asI x 2 == 0) = false := by rw [beq_eq_false_iff_ne]; exact h0
    rw [popS, popI, hE, if_neg h0, if_neg h0]
    clear hE
    generalize asI x 2 = E at *
    generalize x.t = t at *
    generalize x.k = k at *
    generalize x.p.length = n2 at *
    generalize x.s.length = n3 at *
    go_enter Tryz.func34, Tryz.ntmps34
    go_wp2_with fail
    refine (HC.out _ (((Below.refl _ w).alloc (Nat.le_refl _) _).alloc (by simp) _)).mono ?_
    rintro e w1 ⟨rfl, hb1⟩
    obtain ⟨hc, hf⟩ := bcell hb1
    have hz : w.heap.size + 1 < w1.heap.size := by have := hb1.size; simp at this; omega
    have hB1 : Below w.heap.size w w1 := (((Below.refl _ w).alloc (Nat.le_refl _) _).alloc (by simp) _).trans (hb1.mono (by simp; omega))
    go_wp2_with fail
    refine bodyPost_ret (v := .tuple #[.agg #[.int .i64 0, .string ⟨#[]⟩, .slice none 0 0, .slice none 0 0, .slice none 0 0], .string ⟨#[]⟩, .int .i64 E]) (by simp [results, Tryz.results34, go_sem, hc]) rfl ⟨_, rfl, fun w'' _ => zero_is w'', ?_⟩
    go_grown
theorem pop_any (v : Value) (x : Itm) (left : Bool) (w : World) (h : ItemIs w v x) :
    Calls Tryz.prog 34 #[v, .bool left] w fun e w' => ∃ u, e = .returned (.tuple #[u, .string (popS x left), .int .i64 (popE x)]) ∧ ItemFrom w.heap.size w' u (popI x left) ∧ Below w.heap.size w w' :=
  (pop_own v x left w h).mono fun _ _ ⟨u, he, hi, hb⟩ => ⟨u, he, hi.from, hb⟩
end Go.Proofs.YtcidoodaiimhfaaGreat

/- What Pop does with lists, as plain data. -/
namespace Go.Proofs.YtcidoodaiimhfaaGreat
open Go.RowKit

theorem lst_as {l : List ByteArray} (h : l.length ≤ 24) (hl : l.any longT = false) : asI (lstI l) 2 = 0 := by
  by_cases hn : l = []
  · subst hn
    rw [asI, if_pos (by simp [lstI, Itm.isNone, Itm.none, ByteArray.toList_eq])]
  · have e : lstI l = ⟨2, ⟨#[]⟩, l, [], []⟩ := by rw [lstI, if_neg hn]
    have hp : 0 < l.length := List.length_pos_iff.2 hn
    have h1 : chkI ⟨2, ⟨#[]⟩, l, [], []⟩ = 0 := by
      unfold chkI
      rw [if_neg (show ¬ ((2 : Int) < 1 ∨ 5 < (2 : Int)) by decide), if_neg (by simp [otherI, ByteArray.toList_eq]), if_pos rfl]
      unfold sizeT
      rw [if_neg (by simp only; omega), if_neg (by rw [hl]; rintro (h' | h'); simp only at h'; omega; cases h')]
    rw [e]
    unfold asI
    split
    · rfl
    · rw [if_neg (by simp [h1]), if_neg (by simp)]
theorem lstI_l' (l : List ByteArray) : (lstI l).l = l := by
  unfold lstI
  split
  · rename_i h; rw [h]; rfl
  · rfl
theorem kept_struck (l : List ByteArray) (m : Nat) : ∀ k, k ≤ l.length → keptTo (fun i _ => decide (i = m)) l k = if k ≤ m then l.take k else l.take m ++ (l.take k).drop (m + 1)
  | 0, _ => by simp [keptTo]
  | k + 1, hk => by
    have ih := kept_struck l m k (by omega)
    have ht : l.take (k + 1) = l.take k ++ [l[k]] := by rw [List.take_append_getElem]
    by_cases hm : k = m
    · rw [keptTo_go (by omega) (by simp [hm]), ih, if_pos (by omega), if_neg (by omega), hm]
      rw [List.drop_of_length_le (by rw [List.length_take]; omega), List.append_nil]
    · rw [keptTo_stay (by omega) (by simp [hm]), ih]
      by_cases h : k < m
      · rw [if_pos (by omega), if_pos (by omega), ht]
      · rw [if_neg (by omega), if_neg (by omega), ht, List.drop_append_of_le_length (by rw [List.length_take]; omega), List.append_assoc]
theorem popK_front (t : ByteArray) (M : List ByteArray) : popK (t :: M) true = M := by
  rw [popK, show popAt true (t :: M) = 0 from rfl, kept_struck _ _ _ (Nat.le_refl _), if_neg (by simp), List.take_length]
  rfl
theorem popK_back (t : ByteArray) (M : List ByteArray) : popK (M ++ [t]) false = M := by
  have e : popAt false (M ++ [t]) = M.length := by simp [popAt]
  rw [popK, e, kept_struck _ _ _ (Nat.le_refl _), if_neg (by simp), List.take_length]
  rw [List.take_left, List.drop_of_length_le (by simp), List.append_nil]
theorem pop_lst {L : List ByteArray} (hn : L ≠ []) (h : L.length ≤ 24) (hl : L.any longT = false) (left : Bool) : popE (lstI L) = 0 ∧ popS (lstI L) left = L[popAt left L]! ∧ popI (lstI L) left = lstI (popK L left) := by
  have hE : popE (lstI L) = 0 := by rw [popE, if_neg (by simp [lst_as h hl]), lstI_l', if_neg hn]
  refine ⟨hE, ?_, ?_⟩
  · rw [popS, if_pos hE, lstI_l']
  · rw [popI, if_pos hE, lstI_l']
theorem pop_front {t : ByteArray} {M : List ByteArray} (h : (t :: M).length ≤ 24) (hl : (t :: M).any longT = false) : popE (lstI (t :: M)) = 0 ∧ popS (lstI (t :: M)) true = t ∧ popI (lstI (t :: M)) true = lstI M := by
  obtain ⟨a, b, c⟩ := pop_lst (by simp) h hl true
  refine ⟨a, ?_, ?_⟩
  · rw [b]; rfl
  · rw [c, popK_front]
theorem pop_back {t : ByteArray} {M : List ByteArray} (h : (M ++ [t]).length ≤ 24) (hl : (M ++ [t]).any longT = false) : popE (lstI (M ++ [t])) = 0 ∧ popS (lstI (M ++ [t])) false = t ∧ popI (lstI (M ++ [t])) false = lstI M := by
  obtain ⟨a, b, c⟩ := pop_lst (by simp) h hl false
  refine ⟨a, ?_, ?_⟩
  · rw [b]
    have e : popAt false (M ++ [t]) = M.length := by simp [popAt]
    rw [e, getElem!_pos _ _ (by simp)]
    simp
  · rw [c, popK_back]
theorem any_take {l : List ByteArray} {n : Nat} (h : l.any longT = false) : (l.take n).any longT = false := by
  rw [List.any_eq_false] at h ⊢
  exact fun x hx => h x (List.mem_of_mem_take hx)
theorem any_drop {l : List ByteArray} {n : Nat} (h : l.any longT = false) : (l.drop n).any longT = false := by
  rw [List.any_eq_false] at h ⊢
  exact fun x hx => h x (List.mem_of_mem_drop hx)
theorem any_push {there l : List ByteArray} {left : Bool} (h : there.any longT = false) (hl : l.any longT = false) : (pushL there left l).any longT = false := by
  unfold pushL
  split
  · rw [List.any_append, List.any_reverse, h, hl]; rfl
  · rw [List.any_append, h, hl]; rfl
theorem len_push (there l : List ByteArray) (left : Bool) : (pushL there left l).length = there.length + l.length := by
  unfold pushL
  split <;> simp <;> omega
/-- what was pushed last goes first -/
theorem pop_pushed {there l : List ByteArray} {left : Bool} {j : Nat} (hj : j < l.length) (hn : there.length + l.length ≤ 24) (ht : there.any longT = false) (hl : l.any longT = false) :
    popE (lstI (pushL there left (l.take (j + 1)))) = 0 ∧ popS (lstI (pushL there left (l.take (j + 1)))) left = l[j] ∧ popI (lstI (pushL there left (l.take (j + 1)))) left = lstI (pushL there left (l.take j)) := by
  have hz : (pushL there left (l.take (j + 1))).length ≤ 24 := by rw [len_push, List.length_take]; omega
  have ha : (pushL there left (l.take (j + 1))).any longT = false := any_push ht (any_take hl)
  have et : l.take (j + 1) = l.take j ++ [l[j]] := by rw [List.take_append_getElem]
  rw [et] at hz ha ⊢
  cases left with
  | true =>
    have e : pushL there true (l.take j ++ [l[j]]) = l[j] :: pushL there true (l.take j) := by unfold pushL; rw [if_pos rfl, if_pos rfl, List.reverse_append]; rfl
    rw [e] at hz ha ⊢
    exact pop_front hz ha
  | false =>
    have e : pushL there false (l.take j ++ [l[j]]) = pushL there false (l.take j) ++ [l[j]] := by unfold pushL; rw [if_neg (by decide), if_neg (by decide), List.append_assoc]
    rw [e] at hz ha ⊢
    exact pop_back hz ha
/-- from the other end what was pushed first goes first -/
theorem pop_other {l : List ByteArray} {left : Bool} {j : Nat} (hj : j < l.length) (hn : l.length ≤ 24) (hl : l.any longT = false) :
    popE (lstI (pushL [] left (l.drop j))) = 0 ∧ popS (lstI (pushL [] left (l.drop j))) (!left) = l[j] ∧ popI (lstI (pushL [] left (l.drop j))) (!left) = lstI (pushL [] left (l.drop (j + 1))) := by
  have hz : (pushL [] left (l.drop j)).length ≤ 24 := by rw [len_push, List.length_drop]; simp only [List.length_nil]; omega
  have ha : (pushL [] left (l.drop j)).any longT = false := any_push rfl (any_drop hl)
  have et : l.drop j = l[j] :: l.drop (j + 1) := List.drop_eq_getElem_cons hj
  rw [et] at hz ha ⊢
  cases left with
  | true =>
    have e : pushL [] true (l[j] :: l.drop (j + 1)) = pushL [] true (l.drop (j + 1)) ++ [l[j]] := by simp [pushL]
    rw [e] at hz ha ⊢
    exact pop_back hz ha
  | false =>
    have e : pushL [] false (l[j] :: l.drop (j + 1)) = l[j] :: pushL [] false (l.drop (j + 1)) := by simp [pushL]
    rw [e] at hz ha ⊢
    exact pop_front hz ha
theorem push_none (there : List ByteArray) (left : Bool) : pushL there left [] = there := by
  unfold pushL
  split <;> simp
theorem pushE_zero {x : Itm} {l : List ByteArray} (h : pushE x l = 0) : asI x 2 = 0 ∧ x.l.length + l.length ≤ 24 ∧ l.any longT = false ∧ l ≠ [] := by
  unfold pushE at h
  split at h
  · rename_i h1; exact absurd h h1
  · rename_i h1
    split at h
    · cases h
    · rename_i h2
      split at h
      · cases h
      · rename_i h3
        refine ⟨Classical.byContradiction h1, by omega, ?_, h3⟩
        cases hb : l.any longT
        · rfl
        · exact absurd (Or.inr hb) h2
end Go.Proofs.YtcidoodaiimhfaaGreat

/- WALKS of what elements stay: Trim and Remove. -/
namespace Go.Proofs.YtcidoodaiimhfaaGreat
open Go.RowKit

def trimGo (p q : Nat) : Nat → ByteArray → Bool := fun i _ => decide (i < p ∨ q ≤ i)
theorem trimAt_any (b1 b2 p q i : Nat) (t : ByteArray) (w : World) (h1 : w.cell? ⟨b1, 0, none⟩ = some (.int .i64 p)) (h2 : w.cell? ⟨b2, 0, none⟩ = some (.int .i64 q)) : Calls Tryz.prog 92 #[.int .i64 i, .string t, .pointer (some ⟨b1, 0, none⟩), .pointer (some ⟨b2, 0, none⟩)] w fun e w' => e = .returned (.bool (trimGo p q i t)) ∧ w' = w := by
  show Calls _ _ _ _ fun e w' => e = .returned (.bool (decide (i < p ∨ q ≤ i))) ∧ w' = w
  by_cases g1 : i < p
  · have g1' : ((i : Nat) : Int) < ((p : Nat) : Int) := by omega
    rw [decide_eq_true (Or.inl g1)]
    go_enter Tryz.func92, Tryz.ntmps92
    go_wp2_with fail
    go_ret
    exact ⟨rfl, rfl⟩
  · have g1' : ¬ ((i : Nat) : Int) < ((p : Nat) : Int) := by omega
    have hd : decide (i < p ∨ q ≤ i) = decide (((q : Nat) : Int) ≤ ((i : Nat) : Int)) := by rw [Bool.eq_iff_iff]; simp; omega
    rw [hd]
    go_enter Tryz.func92, Tryz.ntmps92
    go_wp2_with fail
    go_ret
    exact ⟨rfl, rfl⟩
theorem removeAt_any (b : Nat) (s : ByteArray) (i : Nat) (t : ByteArray) (w : World) (h1 : w.cell? ⟨b, 0, none⟩ = some (.string s)) : Calls Tryz.prog 93 #[.int .i64 i, .string t, .pointer (some ⟨b, 0, none⟩)] w fun e w' => e = .returned (.bool (decide (t = s))) ∧ w' = w := by
  have hd : (t.toList == s.toList) = decide (t = s) := by
    rw [Bool.eq_iff_iff]
    simp only [beq_iff_eq, decide_eq_true_eq]
    exact ⟨bytes_inj, fun e => by rw [e]⟩
  go_enter Tryz.func93, Tryz.ntmps93
  go_wp2_with fail
  go_ret
  rw [← hd]
  exact ⟨rfl, rfl⟩

set_option maxRecDepth 100000 in
set_option maxHeartbeats 2000000 in
theorem withoutT_any (b1 b2 p q : Nat) (a : Option Addr) (cap : Nat) (l : List ByteArray) (w : World) (hs : TextsAt w a l) (hn : l.length ≤ 1000) (hz : ∀ t ∈ l, t.size ≤ maxLen) (hc : w.cell? ⟨b1, 0, none⟩ = some (.int .i64 p)) (hd : w.cell? ⟨b2, 0, none⟩ = some (.int .i64 q)) :
    Calls Tryz.prog 89 #[.slice a l.length cap, .func (.func 92) #[] #[.pointer (some ⟨b1, 0, none⟩), .pointer (some ⟨b2, 0, none⟩)]] w fun e w' => ∃ v, e = .returned v ∧ ItemOwn w.heap.size w' v (lstI (keptTo (trimGo p q) l l.length)) ∧ Below w.heap.size w w' := by
  obtain ⟨i0, hi, hz0, hz1, hz2⟩ := info_parts infoStr
  have HS := hide hs
  have HZ := hide hz
  clear hs hz
  go_enter Tryz.func89, Tryz.ntmps89
  go_wp2_with fail
  generalize hW0 : World.alloc w _ = W0
  have q0 : W0.cell? ⟨w.heap.size, 0, none⟩ = some (.int .i64 0) := by rw [← hW0]; simp [go_sem]
  have q1 : W0.cell? ⟨w.heap.size, 1, none⟩ = some (.string ⟨#[]⟩) := by rw [← hW0]; simp [go_sem]
  have q2 : W0.cell? ⟨w.heap.size, 2, none⟩ = some (.slice none 0 0) := by rw [← hW0]; simp [go_sem]
  have q3 : W0.cell? ⟨w.heap.size, 3, none⟩ = some (.slice none 0 0) := by rw [← hW0]; simp [go_sem]
  have q4 : W0.cell? ⟨w.heap.size, 4, none⟩ = some (.slice none 0 0) := by rw [← hW0]; simp [go_sem]
  have f0 : W0.frozen? ⟨w.heap.size, 0, none⟩ = false := by rw [← hW0]; simp [go_sem]
  have f1 : W0.frozen? ⟨w.heap.size, 1, none⟩ = false := by rw [← hW0]; simp [go_sem]
  have f2 : W0.frozen? ⟨w.heap.size, 2, none⟩ = false := by rw [← hW0]; simp [go_sem]
  have f3 : W0.frozen? ⟨w.heap.size, 3, none⟩ = false := by rw [← hW0]; simp [go_sem]
  have f4 : W0.frozen? ⟨w.heap.size, 4, none⟩ = false := by rw [← hW0]; simp [go_sem]
  have zW : W0.heap.size = w.heap.size + 1 := by rw [← hW0]; simp
  have BW : Below w.heap.size w W0 := by rw [← hW0]; exact (Below.refl _ _).alloc (Nat.le_refl _) _
  clear hW0
  have Q0 := hide q0
  have Q1 := hide q1
  have Q2 := hide q2
  have Q3 := hide q3
  have Q4 := hide q4
  have F0 := hide f0
  have F1 := hide f1
  have F2 := hide f2
  have F3 := hide f3
  have F4 := hide f4
  clear q0 q1 q2 q3 q4 f0 f1 f2 f3 f4
  go_loopw [5, 10] (fun v i wr => ∃ k : Nat, k ≤ l.length ∧ i = .int .i64 k ∧ wr.ownsRow (w.heap.size + 1) 9 1 v (keptTo (trimGo p q) l k).length (strs (keptTo (trimGo p q) l k)) ∧ Below (w.heap.size + 1) W0 wr) (fun _ i _ => l.length - (intOf i).toNat)
  case atStart => exact ⟨0, Nat.zero_le _, rfl, World.ownsRow_nil _ _ _ _, Below.refl _ _⟩
  case round =>
    obtain ⟨k, hk, rfl, hown, hbr⟩ := hrel
    have hsz := hbr.size
    have BR : Below w.heap.size w wr := BW.trans (hbr.mono (by omega))
    have HB : Hid (∀ g o v, w.cell? ⟨g, o, none⟩ = some v → wr.cell? ⟨g, o, none⟩ = some v) := fun g o _ hv => (BR.cell (p := ⟨g, o, none⟩) (World.block_lt_of_cell? _ _ hv)).trans hv
    by_cases hlt : k < l.length
    · have hlt' : ((k : Nat) : Int) < ((l.length : Nat) : Int) := by omega
      obtain ⟨g, o, rfl, hcs⟩ : ∃ g o, a = some ⟨g, o, none⟩ ∧ ∀ i (h : i < l.length), w.cell? ⟨g, o + i, none⟩ = some (.string l[i]) := by
        rcases HS.out with h | h
        · subst h; simp at hlt
        · exact h
      have d0 : wr.cell? ⟨g, o + k, none⟩ = some (.string l[k]) := HB.out _ _ _ (hcs k hlt)
      have hc1 : wr.cell? ⟨b1, 0, none⟩ = some (.int .i64 p) := HB.out _ _ _ hc
      have hd1 : wr.cell? ⟨b2, 0, none⟩ = some (.int .i64 q) := HB.out _ _ _ hd
      have HC := hide (trimAt_any b1 b2 p q k l[k] wr hc1 hd1)
      have hkl := keptTo_len (trimGo p q) l k
      cases hx : (trimGo p q) k l[k] with
      | true =>
        have HY := hide (keptTo_go (goes := trimGo p q) hlt hx)
        have HX := hide hx
        clear hcs HS HZ hx HB
        go_wp2_with fail
        refine HC.out.mono ?_
        rintro e w1 ⟨rfl, rfl⟩
        rw [HX.out]
        go_wp2_with fail
        go_roundw
        case rel => exact ⟨k + 1, by omega, by go_num, by rw [HY.out]; exact hown, hbr⟩
        case measure => simp [intOf]; omega
      | false =>
        have HY := hide (keptTo_stay (goes := trimGo p q) hlt hx)
        have HX := hide hx
        clear hcs HS HZ hx HB
        generalize l[k] = X at *
        go_wp2_with fail
        refine HC.out.mono ?_
        rintro e w1 ⟨rfl, rfl⟩
        rw [HX.out]
        go_wp2_with (at_builtin; refine wpList_append_own _ rfl _ _ 24 rfl (w.heap.size + 1) 9 i0 (.string ⟨#[]⟩) 1 16 Tryz.underlying24 hi hz0 hz1 hz2 rfl (by decide) _ _ _ rfl (hown.alloc _) ⟨w1.heap.size, 0, none⟩ 1 1 [.string X] rfl rfl ?c1 ?c2 ?c3 ?c4 ?c5 ?_)
        case c1 =>
          intro j u hj
          match j, hj with
          | 0, hj => simp at hj; subst hj; simp [Addr.add]
        case c2 => intro u hu; simp at hu; subst hu; rfl
        case c3 => unfold maxLen; omega
        case c4 => omega
        case c5 => simp; omega
        intro v' w4 hown4 hgrow _
        have hb4 : Below (w.heap.size + 1) W0 w4 := (hbr.alloc (by omega) _).grown hgrow (by simp; omega) (fun j hj => (hown.lt j hj).1)
        have hown5 : w4.ownsRow (w.heap.size + 1) 9 1 v' (keptTo (trimGo p q) l (k + 1)).length (strs (keptTo (trimGo p q) l (k + 1))) := by
          rw [HY.out]
          simpa [strs] using hown4
        go_wp2_with fail
        go_roundw
        case rel => exact ⟨k + 1, by omega, by go_num, hown5, hb4⟩
        case measure => simp [intOf]; omega
    · have hge : ¬ ((k : Nat) : Int) < ((l.length : Nat) : Int) := by omega
      obtain rfl : k = l.length := by omega
      have q0 := (hbr.cell (p := ⟨w.heap.size, 0, none⟩) (by simp)).trans Q0.out
      have q1 := (hbr.cell (p := ⟨w.heap.size, 1, none⟩) (by simp)).trans Q1.out
      have q2 := (hbr.cell (p := ⟨w.heap.size, 2, none⟩) (by simp)).trans Q2.out
      have q3 := (hbr.cell (p := ⟨w.heap.size, 3, none⟩) (by simp)).trans Q3.out
      have q4 := (hbr.cell (p := ⟨w.heap.size, 4, none⟩) (by simp)).trans Q4.out
      have f0 := (hbr.frozen (p := ⟨w.heap.size, 0, none⟩) (by simp)).trans F0.out
      have f1 := (hbr.frozen (p := ⟨w.heap.size, 1, none⟩) (by simp)).trans F1.out
      have f2 := (hbr.frozen (p := ⟨w.heap.size, 2, none⟩) (by simp)).trans F2.out
      have f3 := (hbr.frozen (p := ⟨w.heap.size, 3, none⟩) (by simp)).trans F3.out
      have f4 := (hbr.frozen (p := ⟨w.heap.size, 4, none⟩) (by simp)).trans F4.out
      have hkl := keptTo_len (trimGo p q) l l.length
      have HM : Hid (∀ t ∈ keptTo (trimGo p q) l l.length, t.size ≤ maxLen) := fun t ht => HZ.out t (keptTo_mem (Nat.le_refl _) t ht)
      clear HS HZ HB Q0 Q1 Q2 Q3 Q4 F0 F1 F2 F3 F4
      generalize hK : keptTo (trimGo p q) l l.length = K at *
      have HK := hide hK
      clear hK
      obtain ⟨ao, cp, rfl⟩ := slice_own hown
      by_cases h0 : K = []
      · subst h0
        clear hown
        go_wp2_with fail
        refine bodyPost_ret (v := .agg #[.int .i64 0, .string ⟨#[]⟩, .slice none 0 0, .slice none 0 0, .slice none 0 0]) (by simp [results, Tryz.results89, go_sem, q0, q1, q2, q3, q4]) rfl ⟨_, rfl, ?_, ?_⟩
        · rw [HK.out, lstI, if_pos rfl]; exact fun w'' _ => zero_is w''
        · go_grown
      · have hKl : K.length ≠ 0 := fun e => h0 (List.eq_nil_of_length_eq_zero e)
        have hKb : (((K.length : Nat) : Int) == 0) = false := by rw [beq_eq_false_iff_ne]; omega
        have HT : Hid (∀ w', (∀ g o u, w.heap.size + 1 ≤ g → wr.cell? ⟨g, o, none⟩ = some u → wr.frozen? ⟨g, o, none⟩ = false → w'.cell? ⟨g, o, none⟩ = some u) → TextsAt w' ao K) := fun w' hw => texts_ownF hown hw
        clear hown
        have HNE := hide h0
        clear h0
        generalize hLL : K.length = n at *
        go_wp2_with fail
        refine bodyPost_ret (v := .agg #[.int .i64 2, .string ⟨#[]⟩, .slice ao n cp, .slice none 0 0, .slice none 0 0]) (by simp [results, Tryz.results89, go_sem, q0, q1, q2, q3, q4]) rfl ⟨_, rfl, ?_, ?_⟩
        · subst hLL
          rw [HK.out]
          exact fun w'' hw => lstI_is (HT.out w'' (fun g o u hg hu hf => hw g o u (by omega) ((five_apart _ _ _ _ _ _ _ g o (by omega)).trans hu) (by simpa using hf))) HNE.out HM.out (by omega)
        · go_grown

set_option maxRecDepth 100000 in
set_option maxHeartbeats 2000000 in
theorem withoutR_any (b : Nat) (s : ByteArray) (a : Option Addr) (cap : Nat) (l : List ByteArray) (w : World) (hs : TextsAt w a l) (hn : l.length ≤ 1000) (hz : ∀ t ∈ l, t.size ≤ maxLen) (hc : w.cell? ⟨b, 0, none⟩ = some (.string s)) :
    Calls Tryz.prog 89 #[.slice a l.length cap, .func (.func 93) #[] #[.pointer (some ⟨b, 0, none⟩)]] w fun e w' => ∃ v, e = .returned v ∧ ItemOwn w.heap.size w' v (lstI (keptTo (fun _ t => decide (t = s)) l l.length)) ∧ Below w.heap.size w w' := by
  obtain ⟨i0, hi, hz0, hz1, hz2⟩ := info_parts infoStr
  have HS := hide hs
  have HZ := hide hz
  clear hs hz
  go_enter Tryz.func89, Tryz.ntmps89
  go_wp2_with fail
  generalize hW0 : World.alloc w _ = W0
  have q0 : W0.cell? ⟨w.heap.size, 0, none⟩ = some (.int .i64 0) := by rw [← hW0]; simp [go_sem]
  have q1 : W0.cell? ⟨w.heap.size, 1, none⟩ = some (.string ⟨#[]⟩) := by rw [← hW0]; simp [go_sem]
  have q2 : W0.cell? ⟨w.heap.size, 2, none⟩ = some (.slice none 0 0) := by rw [← hW0]; simp [go_sem]
  have q3 : W0.cell? ⟨w.heap.size, 3, none⟩ = some (.slice none 0 0) := by rw [← hW0]; simp [go_sem]
  have q4 : W0.cell? ⟨w.heap.size, 4, none⟩ = some (.slice none 0 0) := by rw [← hW0]; simp [go_sem]
  have f0 : W0.frozen? ⟨w.heap.size, 0, none⟩ = false := by rw [← hW0]; simp [go_sem]
  have f1 : W0.frozen? ⟨w.heap.size, 1, none⟩ = false := by rw [← hW0]; simp [go_sem]
  have f2 : W0.frozen? ⟨w.heap.size, 2, none⟩ = false := by rw [← hW0]; simp [go_sem]
  have f3 : W0.frozen? ⟨w.heap.size, 3, none⟩ = false := by rw [← hW0]; simp [go_sem]
  have f4 : W0.frozen? ⟨w.heap.size, 4, none⟩ = false := by rw [← hW0]; simp [go_sem]
  have zW : W0.heap.size = w.heap.size + 1 := by rw [← hW0]; simp
  have BW : Below w.heap.size w W0 := by rw [← hW0]; exact (Below.refl _ _).alloc (Nat.le_refl _) _
  clear hW0
  have Q0 := hide q0
  have Q1 := hide q1
  have Q2 := hide q2
  have Q3 := hide q3
  have Q4 := hide q4
  have F0 := hide f0
  have F1 := hide f1
  have F2 := hide f2
  have F3 := hide f3
  have F4 := hide f4
  clear q0 q1 q2 q3 q4 f0 f1 f2 f3 f4
  go_loopw [5, 10] (fun v i wr => ∃ k : Nat, k ≤ l.length ∧ i = .int .i64 k ∧ wr.ownsRow (w.heap.size + 1) 9 1 v (keptTo (fun _ t => decide (t = s)) l k).length (strs (keptTo (fun _ t => decide (t = s)) l k)) ∧ Below (w.heap.size + 1) W0 wr) (fun _ i _ => l.length - (intOf i).toNat)
  case atStart => exact ⟨0, Nat.zero_le _, rfl, World.ownsRow_nil _ _ _ _, Below.refl _ _⟩
  case round =>
    obtain ⟨k, hk, rfl, hown, hbr⟩ := hrel
    have hsz := hbr.size
    have BR : Below w.heap.size w wr := BW.trans (hbr.mono (by omega))
    have HB : Hid (∀ g o v, w.cell? ⟨g, o, none⟩ = some v → wr.cell? ⟨g, o, none⟩ = some v) := fun g o _ hv => (BR.cell (p := ⟨g, o, none⟩) (World.block_lt_of_cell? _ _ hv)).trans hv
    by_cases hlt : k < l.length
    · have hlt' : ((k : Nat) : Int) < ((l.length : Nat) : Int) := by omega
      obtain ⟨g, o, rfl, hcs⟩ : ∃ g o, a = some ⟨g, o, none⟩ ∧ ∀ i (h : i < l.length), w.cell? ⟨g, o + i, none⟩ = some (.string l[i]) := by
        rcases HS.out with h | h
        · subst h; simp at hlt
        · exact h
      have d0 : wr.cell? ⟨g, o + k, none⟩ = some (.string l[k]) := HB.out _ _ _ (hcs k hlt)
      have hc1 : wr.cell? ⟨b, 0, none⟩ = some (.string s) := HB.out _ _ _ hc
      have HC := hide (removeAt_any b s k l[k] wr hc1)
      have hkl := keptTo_len (fun _ t => decide (t = s)) l k
      cases hx : (fun _ t => decide (t = s)) k l[k] with
      | true =>
        have HY := hide (keptTo_go (goes := fun _ t => decide (t = s)) hlt hx)
        have HX := hide hx
        clear hcs HS HZ hx HB
        go_wp2_with fail
        refine HC.out.mono ?_
        rintro e w1 ⟨rfl, rfl⟩
        rw [HX.out]
        go_wp2_with fail
        go_roundw
        case rel => exact ⟨k + 1, by omega, by go_num, by rw [HY.out]; exact hown, hbr⟩
        case measure => simp [intOf]; omega
      | false =>
        have HY := hide (keptTo_stay (goes := fun _ t => decide (t = s)) hlt hx)
        have HX := hide hx
        clear hcs HS HZ hx HB
        generalize l[k] = X at *
        go_wp2_with fail
        refine HC.out.mono ?_
        rintro e w1 ⟨rfl, rfl⟩
        rw [HX.out]
        go_wp2_with (at_builtin; refine wpList_append_own _ rfl _ _ 24 rfl (w.heap.size + 1) 9 i0 (.string ⟨#[]⟩) 1 16 Tryz.underlying24 hi hz0 hz1 hz2 rfl (by decide) _ _ _ rfl (hown.alloc _) ⟨w1.heap.size, 0, none⟩ 1 1 [.string X] rfl rfl ?c1 ?c2 ?c3 ?c4 ?c5 ?_)
        case c1 =>
          intro j u hj
          match j, hj with
          | 0, hj => simp at hj; subst hj; simp [Addr.add]
        case c2 => intro u hu; simp at hu; subst hu; rfl
        case c3 => unfold maxLen; omega
        case c4 => omega
        case c5 => simp; omega
        intro v' w4 hown4 hgrow _
        have hb4 : Below (w.heap.size + 1) W0 w4 := (hbr.alloc (by omega) _).grown hgrow (by simp; omega) (fun j hj => (hown.lt j hj).1)
        have hown5 : w4.ownsRow (w.heap.size + 1) 9 1 v' (keptTo (fun _ t => decide (t = s)) l (k + 1)).length (strs (keptTo (fun _ t => decide (t = s)) l (k + 1))) := by
          rw [HY.out]
          simpa [strs] using hown4
        go_wp2_with fail
        go_roundw
        case rel => exact ⟨k + 1, by omega, by go_num, hown5, hb4⟩
        case measure => simp [intOf]; omega
    · have hge : ¬ ((k : Nat) : Int) < ((l.length : Nat) : Int) := by omega
      obtain rfl : k = l.length := by omega
      have q0 := (hbr.cell (p := ⟨w.heap.size, 0, none⟩) (by simp)).trans Q0.out
      have q1 := (hbr.cell (p := ⟨w.heap.size, 1, none⟩) (by simp)).trans Q1.out
      have q2 := (hbr.cell (p := ⟨w.heap.size, 2, none⟩) (by simp)).trans Q2.out
      have q3 := (hbr.cell (p := ⟨w.heap.size, 3, none⟩) (by simp)).trans Q3.out
      have q4 := (hbr.cell (p := ⟨w.heap.size, 4, none⟩) (by simp)).trans Q4.out
      have f0 := (hbr.frozen (p := ⟨w.heap.size, 0, none⟩) (by simp)).trans F0.out
      have f1 := (hbr.frozen (p := ⟨w.heap.size, 1, none⟩) (by simp)).trans F1.out
      have f2 := (hbr.frozen (p := ⟨w.heap.size, 2, none⟩) (by simp)).trans F2.out
      have f3 := (hbr.frozen (p := ⟨w.heap.size, 3, none⟩) (by simp)).trans F3.out
      have f4 := (hbr.frozen (p := ⟨w.heap.size, 4, none⟩) (by simp)).trans F4.out
      have hkl := keptTo_len (fun _ t => decide (t = s)) l l.length
      have HM : Hid (∀ t ∈ keptTo (fun _ t => decide (t = s)) l l.length, t.size ≤ maxLen) := fun t ht => HZ.out t (keptTo_mem (Nat.le_refl _) t ht)
      clear HS HZ HB Q0 Q1 Q2 Q3 Q4 F0 F1 F2 F3 F4
      generalize hK : keptTo (fun _ t => decide (t = s)) l l.length = K at *
      have HK := hide hK
      clear hK
      obtain ⟨ao, cp, rfl⟩ := slice_own hown
      by_cases h0 : K = []
      · subst h0
        clear hown
        go_wp2_with fail
        refine bodyPost_ret (v := .agg #[.int .i64 0, .string ⟨#[]⟩, .slice none 0 0, .slice none 0 0, .slice none 0 0]) (by simp [results, Tryz.results89, go_sem, q0, q1, q2, q3, q4]) rfl ⟨_, rfl, ?_, ?_⟩
        · rw [HK.out, lstI, if_pos rfl]; exact fun w'' _ => zero_is w''
        · go_grown
      · have hKl : K.length ≠ 0 := fun e => h0 (List.eq_nil_of_length_eq_zero e)
        have hKb : (((K.length : Nat) : Int) == 0) = false := by rw [beq_eq_false_iff_ne]; omega
        have HT : Hid (∀ w', (∀ g o u, w.heap.size + 1 ≤ g → wr.cell? ⟨g, o, none⟩ = some u → wr.frozen? ⟨g, o, none⟩ = false → w'.cell? ⟨g, o, none⟩ = some u) → TextsAt w' ao K) := fun w' hw => texts_ownF hown hw
        clear hown
        have HNE := hide h0
        clear h0
        generalize hLL : K.length = n at *
        go_wp2_with fail
        refine bodyPost_ret (v := .agg #[.int .i64 2, .string ⟨#[]⟩, .slice ao n cp, .slice none 0 0, .slice none 0 0]) (by simp [results, Tryz.results89, go_sem, q0, q1, q2, q3, q4]) rfl ⟨_, rfl, ?_, ?_⟩
        · subst hLL
          rw [HK.out]
          exact fun w'' hw => lstI_is (HT.out w'' (fun g o u hg hu hf => hw g o u (by omega) ((five_apart _ _ _ _ _ _ _ g o (by omega)).trans hu) (by simpa using hf))) HNE.out HM.out (by omega)
        · go_grown
end Go.Proofs.YtcidoodaiimhfaaGreat

/- WALK of Trim and Range. -/
namespace Go.Proofs.YtcidoodaiimhfaaGreat
open Go.RowKit

def trimK (l : List ByteArray) (f t : Int) : List ByteArray := keptTo (trimGo (place1 l.length f t) (place2 l.length f t)) l l.length
def trimI (x : Itm) (f t : Int) : Itm := if asI x 2 = 0 then lstI (trimK x.l f t) else Itm.none
set_option maxRecDepth 100000 in
set_option maxHeartbeats 4000000 in
theorem trim_own (v : Value) (x : Itm) (from_ to_ : Int) (w : World) (h : ItemIs w v x) (hf1 : -9223372036854775808 ≤ from_) (ht1 : -9223372036854775808 ≤ to_) (hf2 : from_ ≤ 9223372036854775807) (ht2 : to_ ≤ 9223372036854775807) :
    Calls Tryz.prog 35 #[v, .int .i64 from_, .int .i64 to_] w fun e w' => ∃ u, e = .returned (.tuple #[u, .int .i64 (asI x 2)]) ∧ ItemOwn w.heap.size w' u (trimI x from_ to_) ∧ Below w.heap.size w w' := by
  have HC : Hid (∀ W, Below w.heap.size w W → Calls Tryz.prog 85 #[v, .int .i64 2] W fun e w' => e = .returned (.int .i64 (asI x 2)) ∧ Below W.heap.size W w') := fun W hW => common_any v x 2 W (h.below hW)
  obtain ⟨⟨a1, c1, a2, c2, a3, c3, rfl, hx1, -, -⟩, tz, lz, -, -, -, -, -⟩ := h
  have HX := hide hx1
  clear hx1
  by_cases h0 : asI x 2 = 0
  · obtain ⟨-, hx24, hxl⟩ := asI_list h0
    rw [trimI, if_pos h0, h0, trimK]
    rw [h0] at HC
    have HZ := hide lz
    clear h0 hxl lz
    generalize x.l = L at *
    have HP : Hid (∀ W, Calls Tryz.prog 91 #[.int .i64 L.length, .int .i64 from_, .int .i64 to_] W fun e w' => e = .returned (.tuple #[.int .i64 (place1 L.length from_ to_), .int .i64 (place2 L.length from_ to_)]) ∧ w' = W) := fun W => places_any _ _ _ W (by omega) hf1 ht1 hf2 ht2
    have HW : Hid (∀ (b1 b2 : Nat) (W : World), Below w.heap.size w W → W.cell? ⟨b1, 0, none⟩ = some (.int .i64 (place1 L.length from_ to_)) → W.cell? ⟨b2, 0, none⟩ = some (.int .i64 (place2 L.length from_ to_)) → Calls Tryz.prog 89 #[.slice a1 L.length c1, .func (.func 92) #[] #[.pointer (some ⟨b1, 0, none⟩), .pointer (some ⟨b2, 0, none⟩)]] W fun e w' => ∃ v, e = .returned v ∧ ItemOwn W.heap.size w' v (lstI (keptTo (trimGo (place1 L.length from_ to_) (place2 L.length from_ to_)) L L.length)) ∧ Below W.heap.size W w') := fun b1 b2 W hW hc hd => withoutT_any b1 b2 _ _ a1 c1 L W (HX.out.below hW) (by omega) HZ.out hc hd
    generalize keptTo (trimGo (place1 L.length from_ to_) (place2 L.length from_ to_)) L L.length = K at *
    generalize place1 L.length from_ to_ = P1 at *
    generalize place2 L.length from_ to_ = P2 at *
    generalize x.t = t at *
    generalize x.k = k at *
    generalize x.p.length = n2 at *
    generalize x.s.length = n3 at *
    go_enter Tryz.func35, Tryz.ntmps35
    go_wp2_with fail
    refine (HC.out _ (((Below.refl _ w).alloc (Nat.le_refl _) _).alloc (by simp) _)).mono ?_
    rintro e w1 ⟨rfl, hb1⟩
    obtain ⟨hc, hf⟩ := bcell hb1
    have hz : w.heap.size + 1 < w1.heap.size := by have := hb1.size; simp at this; omega
    have hB1 : Below w.heap.size w w1 := (((Below.refl _ w).alloc (Nat.le_refl _) _).alloc (by simp) _).trans (hb1.mono (by simp; omega))
    go_wp2_with fail
    refine (HP.out _).mono ?_
    rintro e w2 ⟨rfl, rfl⟩
    have hy : w.heap.size < w2.heap.size := by omega
    go_wp2_with fail
    refine (HW.out w2.heap.size (w2.heap.size + 1) _ ?hA ?hB ?hD).mono ?_
    case hA => go_grown
    case hB => simp [go_sem]
    case hD => simp [go_sem]
    rintro e w3 ⟨u, rfl, hI, hb3⟩
    have E3 : Below w2.heap.size w2 w3 := (((Below.refl _ w2).alloc (Nat.le_refl _) _).alloc (by simp) _).trans (hb3.mono (by simp; omega))
    have D3 : Below w.heap.size w w3 := hB1.trans (E3.mono hB1.size)
    have z3 := hb3.size
    simp at z3
    have b0 := (E3.cell (p := ⟨w.heap.size + 1, 0, none⟩) hz).trans ((hc _ _ (by simp)).trans (show _ = some (.int .i64 0) by simp [go_sem]))
    have b1 := (E3.cell (p := ⟨w.heap.size + 1, 1, none⟩) hz).trans ((hc _ _ (by simp)).trans (show _ = some (.string ⟨#[]⟩) by simp [go_sem]))
    have b2 := (E3.cell (p := ⟨w.heap.size + 1, 2, none⟩) hz).trans ((hc _ _ (by simp)).trans (show _ = some (.slice none 0 0) by simp [go_sem]))
    have b3 := (E3.cell (p := ⟨w.heap.size + 1, 3, none⟩) hz).trans ((hc _ _ (by simp)).trans (show _ = some (.slice none 0 0) by simp [go_sem]))
    have b4 := (E3.cell (p := ⟨w.heap.size + 1, 4, none⟩) hz).trans ((hc _ _ (by simp)).trans (show _ = some (.slice none 0 0) by simp [go_sem]))
    have g0 := (E3.frozen (p := ⟨w.heap.size + 1, 0, none⟩) hz).trans ((hf _ _ (by simp)).trans (show _ = false by simp [go_sem]))
    have g1 := (E3.frozen (p := ⟨w.heap.size + 1, 1, none⟩) hz).trans ((hf _ _ (by simp)).trans (show _ = false by simp [go_sem]))
    have g2 := (E3.frozen (p := ⟨w.heap.size + 1, 2, none⟩) hz).trans ((hf _ _ (by simp)).trans (show _ = false by simp [go_sem]))
    have g3 := (E3.frozen (p := ⟨w.heap.size + 1, 3, none⟩) hz).trans ((hf _ _ (by simp)).trans (show _ = false by simp [go_sem]))
    have g4 := (E3.frozen (p := ⟨w.heap.size + 1, 4, none⟩) hz).trans ((hf _ _ (by simp)).trans (show _ = false by simp [go_sem]))
    have HI := hide hI
    obtain ⟨⟨i1, j1, i2, j2, i3, j3, rfl, -, -, -⟩, -, -, -, -, -, -, -⟩ := hI.is
    clear hI hc hf
    generalize hKI : lstI K = KI at *
    go_wp2_with fail
    refine bodyPost_ret (v := .tuple #[.agg #[.int .i64 KI.k, .string KI.t, .slice i1 KI.l.length j1, .slice i2 KI.p.length j2, .slice i3 KI.s.length j3], .int .i64 0]) (by simp [results, Tryz.results35, go_sem, b0, b1, b2, b3, b4]) rfl ⟨_, rfl, ?_, ?_⟩
    · rw [hKI]
      exact fun w'' hw => HI.out w'' (fun g' o' u' hg hu hfz => by
        simp at hg
        exact hw g' o' u' (by omega) ((five_apart _ _ _ _ _ _ _ g' o' (by omega)).trans hu) (by simpa using hfz))
    · go_grown
  · rw [trimI, if_neg h0]
    have h0' : (asI x 2 == 0) = false := by rw [beq_eq_false_iff_ne]; exact h0
    generalize asI x 2 = E at *
    generalize x.t = t at *
    generalize x.k = k at *
    generalize x.p.length = n2 at *
    generalize x.s.length = n3 at *
    go_enter Tryz.func35, Tryz.ntmps35
    go_wp2_with fail
    refine (HC.out _ (((Below.refl _ w).alloc (Nat.le_refl _) _).alloc (by simp) _)).mono ?_
    rintro e w1 ⟨rfl, hb1⟩
    obtain ⟨hc, hf⟩ := bcell hb1
    have hz : w.heap.size + 1 < w1.heap.size := by have := hb1.size; simp at this; omega
    have hB1 : Below w.heap.size w w1 := (((Below.refl _ w).alloc (Nat.le_refl _) _).alloc (by simp) _).trans (hb1.mono (by simp; omega))
    go_wp2_with fail
    refine bodyPost_ret (v := .tuple #[.agg #[.int .i64 0, .string ⟨#[]⟩, .slice none 0 0, .slice none 0 0, .slice none 0 0], .int .i64 E]) (by simp [results, Tryz.results35, go_sem, hc]) rfl ⟨_, rfl, fun w'' _ => zero_is w'', ?_⟩
    go_grown

theorem trim_any (v : Value) (x : Itm) (from_ to_ : Int) (w : World) (h : ItemIs w v x) (hf1 : -9223372036854775808 ≤ from_) (ht1 : -9223372036854775808 ≤ to_) (hf2 : from_ ≤ 9223372036854775807) (ht2 : to_ ≤ 9223372036854775807) :
    Calls Tryz.prog 35 #[v, .int .i64 from_, .int .i64 to_] w fun e w' => ∃ u, e = .returned (.tuple #[u, .int .i64 (asI x 2)]) ∧ ItemFrom w.heap.size w' u (trimI x from_ to_) ∧ Below w.heap.size w w' :=
  (trim_own v x from_ to_ w h hf1 ht1 hf2 ht2).mono fun _ _ ⟨u, he, hi, hb⟩ => ⟨u, he, hi.from, hb⟩
set_option maxRecDepth 100000 in
set_option maxHeartbeats 4000000 in
theorem listRange_own (v : Value) (x : Itm) (from_ to_ : Int) (w : World) (h : ItemIs w v x) (hf1 : -9223372036854775808 ≤ from_) (ht1 : -9223372036854775808 ≤ to_) (hf2 : from_ ≤ 9223372036854775807) (ht2 : to_ ≤ 9223372036854775807) :
    Calls Tryz.prog 37 #[v, .int .i64 from_, .int .i64 to_] w fun e w' => ∃ a c, e = .returned (.tuple #[.slice a (trimI x from_ to_).l.length c, .int .i64 (asI x 2)]) ∧ TextsOwn w.heap.size w' a (trimI x from_ to_).l ∧ Below w.heap.size w w' := by
  have HT : Hid (∀ W, Below w.heap.size w W → Calls Tryz.prog 35 #[v, .int .i64 from_, .int .i64 to_] W fun e w' => ∃ u, e = .returned (.tuple #[u, .int .i64 (asI x 2)]) ∧ ItemOwn W.heap.size w' u (trimI x from_ to_) ∧ Below W.heap.size W w') := fun W hW => trim_own v x from_ to_ W (h.below hW) hf1 ht1 hf2 ht2
  obtain ⟨⟨a1, c1, a2, c2, a3, c3, rfl, -, -, -⟩, -, -, -, -, -, -, -⟩ := h
  generalize trimI x from_ to_ = Y at *
  generalize asI x 2 = E at *
  generalize x.k = k at *
  generalize x.t = t at *
  generalize x.l.length = n1 at *
  generalize x.p.length = n2 at *
  generalize x.s.length = n3 at *
  go_enter Tryz.func37, Tryz.ntmps37
  go_wp2_with fail
  refine (HT.out _ ((Below.refl _ w).alloc (Nat.le_refl _) _)).mono ?_
  rintro e w1 ⟨u, rfl, hI, hb1⟩
  have B1 : Below w.heap.size w w1 := ((Below.refl _ w).alloc (Nat.le_refl _) _).trans (hb1.mono (by simp))
  obtain ⟨⟨i1, j1, i2, j2, i3, j3, rfl, -, -, -⟩, -, -, -, -, -, -, -⟩ := id hI.is
  have HTT := hide hI
  clear hI
  go_wp2_with fail
  go_ret2
  exact ⟨i1, j1, rfl, fun W hW => (HTT.out.low (by simp)).texts W (fun g o u hg hu hf => hW g o u hg (by rw [((Below.refl w1.heap.size w1).alloc (Nat.le_refl _) _).cell (p := ⟨g, o, none⟩) (World.block_lt_of_cell? _ _ hu)]; exact hu) (by rw [((Below.refl w1.heap.size w1).alloc (Nat.le_refl _) _).frozen (p := ⟨g, o, none⟩) (World.block_lt_of_cell? _ _ hu)]; exact hf)), B1.alloc B1.size _⟩
theorem listRange_any (v : Value) (x : Itm) (from_ to_ : Int) (w : World) (h : ItemIs w v x) (hf1 : -9223372036854775808 ≤ from_) (ht1 : -9223372036854775808 ≤ to_) (hf2 : from_ ≤ 9223372036854775807) (ht2 : to_ ≤ 9223372036854775807) :
    Calls Tryz.prog 37 #[v, .int .i64 from_, .int .i64 to_] w fun e w' => ∃ a c, e = .returned (.tuple #[.slice a (trimI x from_ to_).l.length c, .int .i64 (asI x 2)]) ∧ TextsAt w' a (trimI x from_ to_).l ∧ Below w.heap.size w w' :=
  (listRange_own v x from_ to_ w h hf1 ht1 hf2 ht2).mono fun _ _ ⟨a, c, he, hi, hb⟩ => ⟨a, c, he, hi.at, hb⟩
end Go.Proofs.YtcidoodaiimhfaaGreat

/- WALK of Remove. -/
namespace Go.Proofs.YtcidoodaiimhfaaGreat
open Go.RowKit

theorem lstI_l (l : List ByteArray) : (lstI l).l = l := by
  unfold lstI
  split
  · rename_i h; rw [h]; rfl
  · rfl
def remK (l : List ByteArray) (s : ByteArray) : List ByteArray := keptTo (fun _ t => decide (t = s)) l l.length
def remI (x : Itm) (s : ByteArray) : Itm := if asI x 2 = 0 then lstI (remK x.l s) else Itm.none
def remN (x : Itm) (s : ByteArray) : Int := if asI x 2 = 0 then ((x.l.length : Nat) : Int) - (((remK x.l s).length : Nat) : Int) else 0
set_option maxRecDepth 100000 in
set_option maxHeartbeats 4000000 in
theorem remove_own (v : Value) (x : Itm) (s : ByteArray) (w : World) (h : ItemIs w v x) :
    Calls Tryz.prog 36 #[v, .string s] w fun e w' => ∃ u, e = .returned (.tuple #[u, .int .i64 (remN x s), .int .i64 (asI x 2)]) ∧ ItemOwn w.heap.size w' u (remI x s) ∧ Below w.heap.size w w' := by
  have HC : Hid (∀ W, Below w.heap.size w W → Calls Tryz.prog 85 #[v, .int .i64 2] W fun e w' => e = .returned (.int .i64 (asI x 2)) ∧ Below W.heap.size W w') := fun W hW => common_any v x 2 W (h.below hW)
  obtain ⟨⟨a1, c1, a2, c2, a3, c3, rfl, hx1, -, -⟩, tz, lz, -, -, -, -, -⟩ := h
  have HX := hide hx1
  clear hx1
  by_cases h0 : asI x 2 = 0
  · obtain ⟨-, hx24, hxl⟩ := asI_list h0
    rw [remI, if_pos h0, remN, if_pos h0, h0, remK]
    rw [h0] at HC
    have HZ := hide lz
    clear h0 hxl lz
    generalize x.l = L at *
    have HW : Hid (∀ (b : Nat) (W : World), Below w.heap.size w W → W.cell? ⟨b, 0, none⟩ = some (.string s) → Calls Tryz.prog 89 #[.slice a1 L.length c1, .func (.func 93) #[] #[.pointer (some ⟨b, 0, none⟩)]] W fun e w' => ∃ v, e = .returned v ∧ ItemOwn W.heap.size w' v (lstI (keptTo (fun _ t => decide (t = s)) L L.length)) ∧ Below W.heap.size W w') := fun b W hW hc => withoutR_any b s a1 c1 L W (HX.out.below hW) (by omega) HZ.out hc
    have hkl := keptTo_len (fun _ t => decide (t = s)) L L.length
    have HLL : Hid ((lstI (keptTo (fun _ t => decide (t = s)) L L.length)).l.length = (keptTo (fun _ t => decide (t = s)) L L.length).length) := by rw [Hid, lstI_l]
    rw [← HLL.out]
    rw [← HLL.out] at hkl
    clear HLL
    generalize lstI (keptTo (fun _ t => decide (t = s)) L L.length) = KI at *
    generalize x.t = t at *
    generalize x.k = k at *
    generalize x.p.length = n2 at *
    generalize x.s.length = n3 at *
    go_enter Tryz.func36, Tryz.ntmps36
    go_wp2_with fail
    refine (HC.out _ ((((Below.refl _ w).alloc (Nat.le_refl _) _).alloc (by simp) _).alloc (by simp; omega) _)).mono ?_
    rintro e w1 ⟨rfl, hb1⟩
    obtain ⟨hc, hf⟩ := bcell hb1
    have hz : w.heap.size + 2 < w1.heap.size := by have := hb1.size; simp at this; omega
    have hB1 : Below w.heap.size w w1 := ((((Below.refl _ w).alloc (Nat.le_refl _) _).alloc (by simp) _).alloc (by simp; omega) _).trans (hb1.mono (by simp; omega))
    have y0 : w.heap.size < w1.heap.size := by omega
    have y1 : w.heap.size + 1 < w1.heap.size := by omega
    go_wp2_with fail
    refine (HW.out (w.heap.size + 1) _ hB1 ((hc _ _ (by simp)).trans (by simp [go_sem]))).mono ?_
    rintro e w2 ⟨u, rfl, hI, hb2⟩
    have B2 : Below w.heap.size w w2 := hB1.trans (hb2.mono hB1.size)
    have z2 := hb2.size
    have HI := hide hI
    obtain ⟨⟨i1, j1, i2, j2, i3, j3, rfl, -, -, -⟩, -, -, -, -, -, -, -⟩ := hI.is
    clear hI
    go_wp2_with fail
    generalize hW3 : World.alloc w2 _ = W3
    have A3 : Below w2.heap.size w2 W3 := by rw [← hW3]; exact (Below.refl _ _).alloc (Nat.le_refl _) _
    have AB : Below w1.heap.size w1 W3 := hb2.trans (A3.mono z2)
    have z3 : W3.heap.size = w2.heap.size + 1 := by rw [← hW3]; simp
    have u0 : W3.cell? ⟨w2.heap.size, 0, none⟩ = some (.int .i64 KI.k) := by rw [← hW3]; simp [go_sem]
    have u1 : W3.cell? ⟨w2.heap.size, 1, none⟩ = some (.string KI.t) := by rw [← hW3]; simp [go_sem]
    have u2 : W3.cell? ⟨w2.heap.size, 2, none⟩ = some (.slice i1 KI.l.length j1) := by rw [← hW3]; simp [go_sem]
    have u3 : W3.cell? ⟨w2.heap.size, 3, none⟩ = some (.slice i2 KI.p.length j2) := by rw [← hW3]; simp [go_sem]
    have u4 : W3.cell? ⟨w2.heap.size, 4, none⟩ = some (.slice i3 KI.s.length j3) := by rw [← hW3]; simp [go_sem]
    have x2 := (AB.cell (p := ⟨w.heap.size, 2, none⟩) y0).trans ((hc _ _ (by simp; omega)).trans (show _ = some (.slice a1 L.length c1) by simp [go_sem]))
    have b0 := (AB.cell (p := ⟨w.heap.size + 2, 0, none⟩) hz).trans ((hc _ _ (by simp)).trans (show _ = some (.int .i64 0) by simp [go_sem]))
    have b1 := (AB.cell (p := ⟨w.heap.size + 2, 1, none⟩) hz).trans ((hc _ _ (by simp)).trans (show _ = some (.string ⟨#[]⟩) by simp [go_sem]))
    have b2 := (AB.cell (p := ⟨w.heap.size + 2, 2, none⟩) hz).trans ((hc _ _ (by simp)).trans (show _ = some (.slice none 0 0) by simp [go_sem]))
    have b3 := (AB.cell (p := ⟨w.heap.size + 2, 3, none⟩) hz).trans ((hc _ _ (by simp)).trans (show _ = some (.slice none 0 0) by simp [go_sem]))
    have b4 := (AB.cell (p := ⟨w.heap.size + 2, 4, none⟩) hz).trans ((hc _ _ (by simp)).trans (show _ = some (.slice none 0 0) by simp [go_sem]))
    have g0 := (AB.frozen (p := ⟨w.heap.size + 2, 0, none⟩) hz).trans ((hf _ _ (by simp)).trans (show _ = false by simp [go_sem]))
    have g1 := (AB.frozen (p := ⟨w.heap.size + 2, 1, none⟩) hz).trans ((hf _ _ (by simp)).trans (show _ = false by simp [go_sem]))
    have g2 := (AB.frozen (p := ⟨w.heap.size + 2, 2, none⟩) hz).trans ((hf _ _ (by simp)).trans (show _ = false by simp [go_sem]))
    have g3 := (AB.frozen (p := ⟨w.heap.size + 2, 3, none⟩) hz).trans ((hf _ _ (by simp)).trans (show _ = false by simp [go_sem]))
    have g4 := (AB.frozen (p := ⟨w.heap.size + 2, 4, none⟩) hz).trans ((hf _ _ (by simp)).trans (show _ = false by simp [go_sem]))
    have D3 : Below w.heap.size w W3 := hB1.trans (AB.mono hB1.size)
    have n1 : w2.heap.size ≠ w.heap.size + 2 := by omega
    have n2 : w.heap.size + 2 ≠ w2.heap.size := by omega
    clear hW3 hc hf hb1 hb2
    go_region
    all_goals
      go_wp2_with fail
      refine bodyPost_ret (v := .tuple #[.agg #[.int .i64 KI.k, .string KI.t, .slice i1 KI.l.length j1, .slice i2 KI.p.length j2, .slice i3 KI.s.length j3], .int .i64 (((L.length : Nat) : Int) - ((KI.l.length : Nat) : Int)), .int .i64 0]) (by simp [results, Tryz.results36, go_sem, b0, b1, b2, b3, b4]) rfl ⟨_, rfl, ?_, ?_⟩
      · exact fun w'' hw => HI.out w'' (fun g' o' u' hg hu hf => hw g' o' u' (by omega) ((five_apart W3 (w.heap.size + 1 + 1) _ _ _ _ _ g' o' (by omega)).trans ((A3.cell (p := ⟨g', o', none⟩) (World.block_lt_of_cell? _ _ hu)).trans hu)) (by have hq := (A3.frozen (p := ⟨g', o', none⟩) (World.block_lt_of_cell? _ _ hu)).trans hf; simpa using hq))
      · go_grown
  · rw [remI, if_neg h0, remN, if_neg h0]
    have h0' : (asI x 2 == 0) = false := by rw [beq_eq_false_iff_ne]; exact h0
    generalize asI x 2 = E at *
    generalize x.t = t at *
    generalize x.k = k at *
    generalize x.p.length = n2 at *
    generalize x.s.length = n3 at *
    go_enter Tryz.func36, Tryz.ntmps36
    go_wp2_with fail
    refine (HC.out _ ((((Below.refl _ w).alloc (Nat.le_refl _) _).alloc (by simp) _).alloc (by simp; omega) _)).mono ?_
    rintro e w1 ⟨rfl, hb1⟩
    obtain ⟨hc, hf⟩ := bcell hb1
    have hz : w.heap.size + 2 < w1.heap.size := by have := hb1.size; simp at this; omega
    have hB1 : Below w.heap.size w w1 := ((((Below.refl _ w).alloc (Nat.le_refl _) _).alloc (by simp) _).alloc (by simp; omega) _).trans (hb1.mono (by simp; omega))
    go_wp2_with fail
    refine bodyPost_ret (v := .tuple #[.agg #[.int .i64 0, .string ⟨#[]⟩, .slice none 0 0, .slice none 0 0, .slice none 0 0], .int .i64 0, .int .i64 E]) (by simp [results, Tryz.results36, go_sem, hc]) rfl ⟨_, rfl, fun w'' _ => zero_is w'', ?_⟩
    go_grown
theorem remove_any (v : Value) (x : Itm) (s : ByteArray) (w : World) (h : ItemIs w v x) :
    Calls Tryz.prog 36 #[v, .string s] w fun e w' => ∃ u, e = .returned (.tuple #[u, .int .i64 (remN x s), .int .i64 (asI x 2)]) ∧ ItemFrom w.heap.size w' u (remI x s) ∧ Below w.heap.size w w' :=
  (remove_own v x s w h).mono fun _ _ ⟨u, he, hi, hb⟩ => ⟨u, he, hi.from, hb⟩
end Go.Proofs.YtcidoodaiimhfaaGreat

/- WALK of what must be in any case with lists. -/
namespace Go.Proofs.YtcidoodaiimhfaaGreat
open Go.RowKit

def tA : ByteArray := ⟨#[97]⟩
def tB : ByteArray := ⟨#[98]⟩
def tC : ByteArray := ⟨#[99]⟩
def tD : ByteArray := ⟨#[100]⟩
def rowI : Itm := lstI [tA, tB, tA]
theorem ItemFrom.shape {B : Nat} {w : World} {v : Value} {x : Itm} (h : ItemFrom B w v x) : ∃ k t a1 n1 c1 a2 n2 c2 a3 n3 c3, v = .agg #[.int .i64 k, .string t, .slice a1 n1 c1, .slice a2 n2 c2, .slice a3 n3 c3] := by
  obtain ⟨⟨a1, c1, a2, c2, a3, c3, e, -, -, -⟩, -, -, -, -, -, -, -⟩ := h.is
  exact ⟨_, _, a1, _, c1, a2, _, c2, a3, _, c3, e⟩
theorem two_texts (w : World) (t1 t2 : ByteArray) (T : TypeId) (g : Nat) (hg : g = w.heap.size) : TextsAt (w.alloc (.cells #[.string t1, .string t2] T)) (some ⟨g, 0, none⟩) [t1, t2] := by
  subst hg
  refine .inr ⟨w.heap.size, 0, rfl, fun i hi => ?_⟩
  match i, hi with
  | 0, _ => simp [go_sem]
  | 1, _ => simp [go_sem]
theorem row_as : asI rowI 2 = 0 := lst_as (by decide) (by decide)
theorem row_l : rowI.l = [tA, tB, tA] := lstI_l' _
theorem lb_pushE : pushE rowI [tC, tD] = 0 := by
  rw [pushE, if_neg (by simp [row_as]), row_l, if_neg (by decide), if_neg (by decide)]
theorem lb_pushI : pushI rowI true [tC, tD] = lstI [tD, tC, tA, tB, tA] := by
  rw [pushI, if_pos lb_pushE, row_l]
  rfl
theorem lb_pushN : pushN rowI [tC, tD] = 5 := by
  rw [pushN, if_pos lb_pushE, row_l]
  rfl
theorem lb_range : trimI (lstI [tC, tA, tB, tA]) 0 1 = lstI [tC, tA] := by
  rw [trimI, if_pos (lst_as (by decide) (by decide)), lstI_l']
  congr 1
theorem lb_trim : trimI rowI 1 1 = lstI [tB] := by
  rw [trimI, if_pos row_as, row_l]
  congr 1
theorem lb_remK : remK [tA, tB, tA] tA = [tB] := by decide +kernel
theorem lb_remI : remI rowI tA = lstI [tB] := by
  rw [remI, if_pos row_as, row_l, lb_remK]
theorem lb_remN : remN rowI tA = 2 := by
  rw [remN, if_pos row_as, row_l, lb_remK]
  rfl

set_option maxRecDepth 100000 in
set_option maxHeartbeats 2000000 in
theorem row_any (w : World) : Calls Tryz.prog 72 #[] w fun e w' => ∃ u, e = .returned u ∧ ItemFrom w.heap.size w' u rowI ∧ Below w.heap.size w w' := by
  go_enter Tryz.func72, Tryz.ntmps72
  go_wp2_with fail
  refine bodyPost_ret (v := .agg #[.int .i64 2, .string ⟨#[]⟩, .slice (some ⟨w.heap.size + 1, 0, none⟩) 3 3, .slice none 0 0, .slice none 0 0]) (by simp [results, Tryz.results72, go_sem]) rfl ⟨_, rfl, ?_, ?_⟩
  · intro w'' hw
    refine lstI_is (l := [tA, tB, tA]) (.inr ⟨w.heap.size + 1, 0, rfl, fun i hi => hw _ _ _ (by omega) ?_⟩) (by simp) (by decide) (by decide)
    match i, hi with
    | 0, _ => simp [go_sem, tA]
    | 1, _ => simp [go_sem, tB]
    | 2, _ => simp [go_sem, tA]
  · go_grown

set_option maxRecDepth 100000 in
set_option maxHeartbeats 2000000 in
theorem listBegun_any (w : World) : Calls Tryz.prog 27 #[] w fun e w' => e = .returned (.bool true) ∧ Below w.heap.size w w' := by
  have HR := hide row_any
  have H1 : Hid (∀ v al cl W, ItemIs W v rowI → TextsAt W al [tC, tD] → Calls Tryz.prog 33 #[v, .bool true, .slice al 2 cl] W fun e w' => ∃ u, e = .returned (.tuple #[u, .int .i64 5, .int .i64 0]) ∧ ItemFrom W.heap.size w' u (lstI [tD, tC, tA, tB, tA]) ∧ Below W.heap.size W w') := fun v al cl W h1 h2 => by
    have h := push_any v rowI true al cl [tC, tD] W h1 h2 (by decide)
    rw [lb_pushE, lb_pushI, lb_pushN] at h
    exact h
  have H2 : Hid (∀ v W, ItemIs W v (lstI [tD, tC, tA, tB, tA]) → Calls Tryz.prog 34 #[v, .bool true] W fun e w' => ∃ u, e = .returned (.tuple #[u, .string ⟨#[100]⟩, .int .i64 0]) ∧ ItemFrom W.heap.size w' u (lstI [tC, tA, tB, tA]) ∧ Below W.heap.size W w') := fun v W h1 => by
    have h := pop_any v _ true W h1
    obtain ⟨p1, p2, p3⟩ := pop_front (t := tD) (M := [tC, tA, tB, tA]) (by decide) (by decide)
    rw [p1, p2, p3] at h
    exact h
  have H3 : Hid (∀ v W, ItemIs W v (lstI [tC, tA, tB, tA]) → Calls Tryz.prog 37 #[v, .int .i64 0, .int .i64 1] W fun e w' => ∃ a c, e = .returned (.tuple #[.slice a 2 c, .int .i64 0]) ∧ TextsAt w' a [tC, tA] ∧ Below W.heap.size W w') := fun v W h1 => by
    have h := listRange_any v _ 0 1 W h1 (by decide) (by decide) (by decide) (by decide)
    rw [lb_range, lstI_l', lst_as (by decide) (by decide)] at h
    exact h
  have H4 : Hid (∀ v W, ItemIs W v rowI → Calls Tryz.prog 35 #[v, .int .i64 1, .int .i64 1] W fun e w' => ∃ u, e = .returned (.tuple #[u, .int .i64 0]) ∧ ItemFrom W.heap.size w' u (lstI [tB]) ∧ Below W.heap.size W w') := fun v W h1 => by
    have h := trim_any v _ 1 1 W h1 (by decide) (by decide) (by decide) (by decide)
    rw [lb_trim, row_as] at h
    exact h
  have H5 : Hid (∀ v W, ItemIs W v rowI → Calls Tryz.prog 36 #[v, .string tA] W fun e w' => ∃ u, e = .returned (.tuple #[u, .int .i64 2, .int .i64 0]) ∧ ItemFrom W.heap.size w' u (lstI [tB]) ∧ Below W.heap.size W w') := fun v W h1 => by
    have h := remove_any v _ tA W h1
    rw [lb_remI, lb_remN, row_as] at h
    exact h
  have H6 : Hid (∀ a b c d W, TextsAt W a [tC, tA] → TextsAt W b [tC, tA] → Calls Tryz.prog 24 #[.slice a 2 c, .slice b 2 d] W fun e w' => e = .returned (.bool true) ∧ Below W.heap.size W w') := fun a b c d W h1 h2 => by
    have h := sameT_any a b c d _ _ W h1 h2 (by decide)
    rw [decide_eq_true rfl] at h
    exact h
  have H7 : Hid (∀ v u W, ItemIs W v (lstI [tB]) → ItemIs W u (lstI [tB]) → Calls Tryz.prog 22 #[v, u] W fun e w' => e = .returned (.bool true) ∧ Below W.heap.size W w') := fun v u W h1 h2 => by
    have h := sameItem_any v u _ _ W h1 h2
    rw [show sameI (lstI [tB]) (lstI [tB]) = true by simp [sameI]] at h
    exact h
  go_enter Tryz.func27, Tryz.ntmps27
  go_wp2_with fail
  refine (HR.out _).mono ?_
  rintro e w1 ⟨u1, rfl, i1, hb1⟩
  have B1 : Below w.heap.size w w1 := hb1
  have I1 := hide i1.is
  clear i1
  go_wp2_with fail
  refine (H1.out _ _ _ _ (I1.out.below ((Below.refl _ w1).alloc (Nat.le_refl _) _)) (by exact two_texts w1 _ _ _ _ rfl)).mono ?_
  rintro e w2 ⟨u2, rfl, i2, hb2⟩
  have B2 : Below w.heap.size w w2 := (B1.alloc B1.size _).trans (hb2.mono (by have := B1.size; simp; omega))
  have I2 := hide i2.is
  obtain ⟨k2, t2, a21, n21, c21, a22, n22, c22, a23, n23, c23, rfl⟩ := i2.shape
  clear i2 I1 hb1 hb2 B1 H1
  go_wp2_with fail
  refine (H2.out _ _ (I2.out.below ((Below.refl _ w2).alloc (Nat.le_refl _) _))).mono ?_
  rintro e w3 ⟨u3, rfl, i3, hb3⟩
  have B3 : Below w.heap.size w w3 := (B2.alloc B2.size _).trans (hb3.mono (by have := B2.size; simp; omega))
  have I3 := hide i3.is
  obtain ⟨k3, t3, a31, n31, c31, a32, n32, c32, a33, n33, c33, rfl⟩ := i3.shape
  clear i3 I2 hb3 B2 H2
  go_wp2_with fail
  refine (H3.out _ _ (I3.out.below ((Below.refl _ w3).alloc (Nat.le_refl _) _))).mono ?_
  rintro e w4 ⟨a4, c4, rfl, T4, hb4⟩
  have B4 : Below w.heap.size w w4 := (B3.alloc B3.size _).trans (hb4.mono (by have := B3.size; simp; omega))
  have T4' := hide T4
  clear I3 T4 hb4 B3 H3
  go_wp2_with fail
  refine (HR.out w4).mono ?_
  rintro e w5 ⟨u5, rfl, i5, hb5⟩
  have B5 : Below w.heap.size w w5 := B4.trans (hb5.mono B4.size)
  have T5 := hide (T4'.out.below hb5)
  have I5 := hide i5.is
  clear i5 hb5 T4' B4
  go_wp2_with fail
  refine (H4.out _ w5 I5.out).mono ?_
  rintro e w6 ⟨u6, rfl, i6, hb6⟩
  have B6 : Below w.heap.size w w6 := B5.trans (hb6.mono B5.size)
  have T6 := hide (T5.out.below hb6)
  have I6 := hide i6.is
  obtain ⟨k6, t6, a61, n61, c61, a62, n62, c62, a63, n63, c63, rfl⟩ := i6.shape
  clear i6 I5 T5 hb6 B5 H4
  go_wp2_with fail
  refine (HR.out _).mono ?_
  rintro e w7 ⟨u7, rfl, i7, hb7⟩
  obtain ⟨e7, f7⟩ := bcell hb7
  have z7 : w6.heap.size < w7.heap.size := by have := hb7.size; simp at this; omega
  have B7 : Below w.heap.size w w7 := (B6.alloc B6.size _).trans (hb7.mono (by have := B6.size; simp; omega))
  have hh7 : Below w6.heap.size w6 w7 := ((Below.refl _ w6).alloc (Nat.le_refl _) _).trans (hb7.mono (by simp))
  have T7 := hide (T6.out.below hh7)
  have I67 := hide (I6.out.below hh7)
  have I7 := hide i7.is
  clear i7 I6 T6 hb7 hh7 B6 HR
  go_wp2_with fail
  refine (H5.out _ w7 I7.out).mono ?_
  rintro e w8 ⟨u8, rfl, i8, hb8⟩
  obtain ⟨e8, f8⟩ := bcell hb8
  have z8 : w6.heap.size < w8.heap.size := by have := hb8.size; omega
  have B8 : Below w.heap.size w w8 := B7.trans (hb8.mono B7.size)
  have T8 := hide (T7.out.below hb8)
  have I68 := hide (I67.out.below hb8)
  have I8 := hide i8.is
  obtain ⟨k8, t8, a81, n81, c81, a82, n82, c82, a83, n83, c83, rfl⟩ := i8.shape
  clear i8 I7 T7 I67 hb8 B7 H5
  go_wp2_with fail
  refine (H6.out _ _ _ _ _ (T8.out.below (((Below.refl _ w8).alloc (Nat.le_refl _) _).alloc (by simp) _)) (by exact two_texts _ _ _ _ _ (by simp))).mono ?_
  rintro e w9 ⟨rfl, hb9⟩
  obtain ⟨e9, f9⟩ := bcell hb9
  have z9 : w8.heap.size < w9.heap.size := by have := hb9.size; simp at this; omega
  have y9 : w6.heap.size < w9.heap.size := by omega
  have y8 : w6.heap.size < w8.heap.size + 1 := by omega
  have y8' : w6.heap.size < w8.heap.size + 1 + 1 := by omega
  have B9 : Below w.heap.size w w9 := ((B8.alloc B8.size _).alloc (by have := B8.size; simp; omega) _).trans (hb9.mono (by have := B8.size; simp; omega))
  have hh9 : Below w8.heap.size w8 w9 := (((Below.refl _ w8).alloc (Nat.le_refl _) _).alloc (by simp) _).trans (hb9.mono (by simp; omega))
  have I69 := hide (I68.out.below hh9)
  have I89 := hide (I8.out.below hh9)
  clear I68 I8 T8 hb9 hh9 B8 H6
  go_wp2_with fail
  refine (H7.out _ _ w9 I69.out I89.out).mono ?_
  rintro e w10 ⟨rfl, hb10⟩
  have B10 : Below w.heap.size w w10 := B9.trans (hb10.mono B9.size)
  go_wp2_with fail
  go_ret
  exact ⟨rfl, B10⟩
end Go.Proofs.YtcidoodaiimhfaaGreat

/- Sets as plain data: what rises, what is put in its place. -/
namespace Go.Proofs.YtcidoodaiimhfaaGreat

/-- a text ahead of another -/
def lessT (a b : ByteArray) : Prop := a.data.toList < b.data.toList
theorem cmpB_lt : ∀ a b : List UInt8, Lib.compareBytes a b < 0 ↔ a < b
  | [], [] => by simp [Lib.compareBytes]
  | [], _ :: _ => by simp [Lib.compareBytes]
  | _ :: _, [] => by simp [Lib.compareBytes]
  | a :: ar, b :: br => by
    rw [Lib.compareBytes, List.cons_lt_cons_iff]
    have hne : ∀ c : UInt8, ¬ c < c := fun c h => by rw [UInt8.lt_iff_toNat_lt] at h; omega
    split
    · rename_i h
      simp [h]
    · rename_i h
      split
      · rename_i h2
        have : a ≠ b := fun e => by subst e; exact hne _ h2
        simp [h, this]
      · rename_i h2
        have e : a = b := UInt8.toNat_inj.1 (by rw [UInt8.lt_iff_toNat_lt] at h h2; omega)
        subst e
        rw [cmpB_lt ar br]
        simp [hne]
theorem cmpB_gt : ∀ a b : List UInt8, 0 < Lib.compareBytes a b ↔ b < a
  | [], [] => by simp [Lib.compareBytes]
  | [], _ :: _ => by simp [Lib.compareBytes]
  | _ :: _, [] => by simp [Lib.compareBytes]
  | a :: ar, b :: br => by
    rw [Lib.compareBytes, List.cons_lt_cons_iff]
    have hne : ∀ c : UInt8, ¬ c < c := fun c h => by rw [UInt8.lt_iff_toNat_lt] at h; omega
    split
    · rename_i h
      have h3 : ¬ b < a := fun h2 => by rw [UInt8.lt_iff_toNat_lt] at h h2; omega
      have : b ≠ a := fun e => by subst e; exact hne _ h
      simp [h3, this]
    · rename_i h
      split
      · rename_i h2
        simp [h2]
      · rename_i h2
        have e : a = b := UInt8.toNat_inj.1 (by rw [UInt8.lt_iff_toNat_lt] at h h2; omega)
        subst e
        rw [cmpB_gt ar br]
        simp [hne]
theorem listLt_or_eq {a b : List UInt8} (h : a ≤ b) : a < b ∨ a = b := by
  by_cases h2 : a < b
  · exact .inl h2
  · exact .inr (List.le_antisymm h (List.not_lt.1 h2))
theorem cmpT_lt (a b : ByteArray) : cmpT a b < 0 ↔ lessT a b := cmpB_lt _ _
theorem cmpT_gt (a b : ByteArray) : 0 < cmpT a b ↔ lessT b a := cmpB_gt _ _
theorem lessT_irrefl (a : ByteArray) : ¬ lessT a a := List.lt_irrefl _
theorem lessT_trans {a b c : ByteArray} (h : lessT a b) (h2 : lessT b c) : lessT a c := List.lt_trans h h2
theorem bytes_eq {a b : ByteArray} (h : a.data.toList = b.data.toList) : a = b := by
  cases a; cases b
  congr 1
  exact Array.toList_inj.1 h
theorem lessT_or (a b : ByteArray) : lessT a b ∨ a = b ∨ lessT b a := by
  by_cases h : lessT a b
  · exact .inl h
  by_cases h2 : lessT b a
  · exact .inr (.inr h2)
  · exact .inr (.inl (bytes_eq (List.le_antisymm (List.not_lt.1 h2) (List.not_lt.1 h))))
/-- what rises -/
def Rises (l : List ByteArray) : Prop := l.Pairwise lessT
theorem Rises.nodup {l : List ByteArray} (h : Rises l) : l.Nodup := h.imp (fun hab e => by subst e; exact lessT_irrefl _ hab)
theorem rises_unique : ∀ {l m : List ByteArray}, Rises l → Rises m → (∀ x, x ∈ l ↔ x ∈ m) → l = m
  | [], [], _, _, _ => rfl
  | [], b :: m, _, _, h => by have := (h b).2 (by simp); cases this
  | a :: l, [], _, _, h => by have := (h a).1 (by simp); cases this
  | a :: l, b :: m, hl, hm, h => by
    have hl' := List.pairwise_cons.1 hl
    have hm' := List.pairwise_cons.1 hm
    have hab : a = b := by
      have h1 := (h a).1 (by simp)
      have h2 := (h b).2 (by simp)
      rcases List.mem_cons.1 h1 with e | h1
      · exact e
      rcases List.mem_cons.1 h2 with e | h2
      · exact e.symm
      exact absurd (lessT_trans (hm'.1 a h1) (hl'.1 b h2)) (lessT_irrefl _)
    subst hab
    congr 1
    refine rises_unique hl'.2 hm'.2 (fun x => ⟨fun hx => ?_, fun hx => ?_⟩)
    · rcases List.mem_cons.1 ((h x).1 (by simp [hx])) with e | h1
      · subst e; exact absurd (hl'.1 _ hx) (lessT_irrefl _)
      · exact h1
    · rcases List.mem_cons.1 ((h x).2 (by simp [hx])) with e | h1
      · subst e; exact absurd (hm'.1 _ hx) (lessT_irrefl _)
      · exact h1
theorem rises_of_riseTo {l : List ByteArray} (h : riseTo cmpT l l.length = true) : Rises l := by
  have hadj : ∀ j, j + 1 < l.length → lessT l[j]! l[j + 1]! := fun j hj => by
    rw [riseTo, List.all_eq_true] at h
    have := h j (List.mem_range.2 (by omega))
    simp only [decide_eq_true_eq] at this
    exact (cmpT_lt _ _).1 this
  have hfar : ∀ d i, i + d + 1 < l.length → lessT l[i]! l[i + d + 1]! := fun d => by
    induction d with
    | zero => exact fun i hi => hadj i hi
    | succ d ih => exact fun i hi => lessT_trans (ih i (by omega)) (hadj (i + d + 1) (by omega))
  rw [Rises, List.pairwise_iff_getElem]
  intro i j hi hj hij
  have := hfar (j - i - 1) i (by omega)
  rw [show i + (j - i - 1) + 1 = j by omega] at this
  simpa [hi, hj] using this
theorem riseTo_of_rises {l : List ByteArray} (h : Rises l) : riseTo cmpT l l.length = true := by
  rw [riseTo, List.all_eq_true]
  intro j hj
  rw [List.mem_range] at hj
  rw [Rises, List.pairwise_iff_getElem] at h
  have h1 := h j (j + 1) (by omega) (by omega) (by omega)
  have e1 : l[j]! = l[j]'(by omega) := by simp [show j < l.length by omega]
  have e2 : l[j + 1]! = l[j + 1]'(by omega) := by simp [show j + 1 < l.length by omega]
  rw [e1, e2, decide_eq_true_eq]
  exact (cmpT_lt _ _).2 h1
/-- a text put ahead of the first one that is behind it -/
def insT : List ByteArray → ByteArray → List ByteArray
  | [], s => [s]
  | a :: r, s => if 0 < cmpT a s then s :: a :: r else a :: insT r s
theorem mem_insT {l : List ByteArray} {s x : ByteArray} : x ∈ insT l s ↔ x = s ∨ x ∈ l := by
  induction l with
  | nil => simp [insT]
  | cons a r ih =>
    rw [insT]
    split
    · simp
    · rw [List.mem_cons, ih, List.mem_cons]
      exact ⟨fun h => by rcases h with h | h | h <;> simp [h], fun h => by rcases h with h | h | h <;> simp [h]⟩
theorem rises_insT {l : List ByteArray} {s : ByteArray} (h : Rises l) (hs : s ∉ l) : Rises (insT l s) := by
  induction l with
  | nil => simp [insT, Rises]
  | cons a r ih =>
    have h' := List.pairwise_cons.1 h
    rw [insT]
    split
    · rename_i hc
      have hsa := (cmpT_gt a s).1 hc
      refine List.pairwise_cons.2 ⟨fun b hb => ?_, h⟩
      rcases List.mem_cons.1 hb with rfl | hb
      · exact hsa
      · exact lessT_trans hsa (h'.1 b hb)
    · rename_i hc
      have hsa : lessT a s := by
        rcases lessT_or a s with h1 | h1 | h1
        · exact h1
        · subst h1; exact absurd (List.mem_cons_self ..) hs
        · exact absurd ((cmpT_gt a s).2 h1) hc
      refine List.pairwise_cons.2 ⟨fun b hb => ?_, ih h'.2 (fun hx => hs (List.mem_cons_of_mem _ hx))⟩
      rcases mem_insT.1 hb with rfl | hb
      · exact hsa
      · exact h'.1 b hb
/-- .. if it is not there -/
def putT (l : List ByteArray) (s : ByteArray) : List ByteArray := if hasT l s = true then l else insT l s
theorem mem_putT {l : List ByteArray} {s x : ByteArray} : x ∈ putT l s ↔ x = s ∨ x ∈ l := by
  unfold putT
  split
  · rename_i h
    rw [hasT_iff] at h
    exact ⟨.inr, fun hx => by
      rcases hx with rfl | hx
      · exact h
      · exact hx⟩
  · exact mem_insT
theorem rises_putT {l : List ByteArray} {s : ByteArray} (h : Rises l) : Rises (putT l s) := by
  unfold putT
  split
  · exact h
  · rename_i hn
    exact rises_insT h (fun hx => hn (hasT_iff.2 hx))
theorem insT_len (l : List ByteArray) (s : ByteArray) : (insT l s).length = l.length + 1 := by
  induction l with
  | nil => rfl
  | cons a r ih =>
    rw [insT]
    split
    · rfl
    · simp [ih]
theorem putT_len (l : List ByteArray) (s : ByteArray) : l.length ≤ (putT l s).length ∧ (putT l s).length ≤ l.length + 1 := by
  unfold putT
  split
  · omega
  · rw [insT_len]; omega
/-- many of them -/
def addT (l m : List ByteArray) : List ByteArray := m.foldl putT l
theorem addT_snoc (l m : List ByteArray) (s : ByteArray) : addT l (m ++ [s]) = putT (addT l m) s := by simp [addT]
theorem mem_addT {l m : List ByteArray} {x : ByteArray} : x ∈ addT l m ↔ x ∈ l ∨ x ∈ m := by
  induction m generalizing l with
  | nil => simp [addT]
  | cons a m ih =>
    show x ∈ addT (putT l a) m ↔ _
    rw [ih, mem_putT, List.mem_cons]
    exact ⟨fun h => by rcases h with (h | h) | h <;> simp [h], fun h => by rcases h with h | h | h <;> simp [h]⟩
theorem rises_addT {l m : List ByteArray} (h : Rises l) : Rises (addT l m) := by
  induction m generalizing l with
  | nil => exact h
  | cons a m ih => exact ih (rises_putT h)
theorem addT_len (l m : List ByteArray) : l.length ≤ (addT l m).length ∧ (addT l m).length ≤ l.length + m.length := by
  induction m generalizing l with
  | nil => simp [addT]
  | cons a m ih =>
    have h1 := ih (putT l a)
    have h2 := putT_len l a
    show l.length ≤ (addT (putT l a) m).length ∧ (addT (putT l a) m).length ≤ _
    rw [List.length_cons]
    omega
/-- what is sorted, each once -/
theorem compact_sorted {zs : List (List UInt8)} (h : zs.Pairwise (fun a b => a ≤ b)) : (Lib.compact zs).Pairwise (fun a b => a < b) ∧ ∀ x, x ∈ Lib.compact zs ↔ x ∈ zs := by
  have hg : ∀ j (hj : j < zs.length), zs.toArray[j]! = zs[j] := fun j hj => by simp [hj]
  rw [List.pairwise_iff_getElem] at h
  have hin : ∀ i, ∀ hi : i < zs.length, zs[i] ∈ Lib.compact zs := fun i => by
    induction i with
    | zero =>
      intro hi
      unfold Lib.compact Lib.compactUpTo
      rw [List.mem_map]
      exact ⟨0, List.mem_filter.2 ⟨List.mem_range.2 hi, by simp [Lib.keeps]⟩, hg 0 hi⟩
    | succ i ih =>
      intro hi
      by_cases e : zs[i + 1] = zs[i]
      · rw [e]
        exact ih (by omega)
      · unfold Lib.compact Lib.compactUpTo
        rw [List.mem_map]
        refine ⟨i + 1, List.mem_filter.2 ⟨List.mem_range.2 hi, ?_⟩, hg _ hi⟩
        unfold Lib.keeps
        rw [decide_eq_true_eq, hg _ hi, show i + 1 - 1 = i by omega, hg i (by omega)]
        exact .inr e
  refine ⟨?_, fun x => ⟨fun hx => ?_, fun hx => ?_⟩⟩
  · unfold Lib.compact Lib.compactUpTo
    rw [List.pairwise_map]
    have hp : ((List.range zs.length).filter (Lib.keeps zs.toArray)).Pairwise (fun i j => i < j) := List.pairwise_lt_range.filter _
    refine hp.imp_of_mem ?_
    intro i j hi hj hij
    have hj' := List.mem_filter.1 hj
    have hjl := List.mem_range.1 hj'.1
    rw [hg i (by omega), hg j hjl]
    have hk := hj'.2
    unfold Lib.keeps at hk
    rw [decide_eq_true_eq, hg j hjl, hg (j - 1) (by omega)] at hk
    rcases hk with hk | hk
    · omega
    · have h1 : zs[i] ≤ zs[j - 1] := by
        rcases Nat.lt_or_ge i (j - 1) with h2 | h2
        · exact h i (j - 1) (by omega) (by omega) h2
        · have e : i = j - 1 := by omega
          subst e
          exact List.le_refl _
      have h2 : zs[j - 1] ≤ zs[j] := h (j - 1) j (by omega) (by omega) (by omega)
      have h3 : zs[j - 1] < zs[j] := by
        rcases listLt_or_eq h2 with h3 | h3
        · exact h3
        · exact absurd h3.symm hk
      exact List.lt_of_le_of_lt h1 h3
  · unfold Lib.compact Lib.compactUpTo at hx
    rw [List.mem_map] at hx
    obtain ⟨j, hj, rfl⟩ := hx
    have hjl := List.mem_range.1 (List.mem_filter.1 hj).1
    rw [hg j hjl]
    exact List.getElem_mem _
  · obtain ⟨i, hi, rfl⟩ := List.getElem_of_mem hx
    exact hin i hi
def bytesL (l : List ByteArray) : List (List UInt8) := l.map fun t => t.data.toList
def textsL (l : List (List UInt8)) : List ByteArray := l.map fun t => ⟨t.toArray⟩
theorem texts_bytes (l : List ByteArray) : textsL (bytesL l) = l := by
  unfold textsL bytesL
  rw [List.map_map]
  refine (List.map_congr_left (fun a _ => ?_)).trans (List.map_id l)
  cases a
  simp
theorem sorted_bytes (l : List (List UInt8)) : (l.mergeSort fun x y => decide (x ≤ y)).Pairwise (fun a b => a ≤ b) := by
  have := List.pairwise_mergeSort (le := fun x y : List UInt8 => decide (x ≤ y)) (fun a b c h1 h2 => by
    rw [decide_eq_true_eq] at *
    exact List.le_trans h1 h2) (fun a b => by
    rw [Bool.or_eq_true, decide_eq_true_eq, decide_eq_true_eq]
    exact List.le_total _ _) l
  exact this.imp (fun h => by simpa using h)
theorem mem_textsL {l : List (List UInt8)} {x : ByteArray} : x ∈ textsL l ↔ x.data.toList ∈ l := by
  unfold textsL
  rw [List.mem_map]
  constructor
  · rintro ⟨a, ha, rfl⟩
    simpa using ha
  · intro h
    refine ⟨_, h, ?_⟩
    cases x
    simp
theorem mem_bytesL {l : List ByteArray} {x : List UInt8} : x ∈ bytesL l ↔ (⟨x.toArray⟩ : ByteArray) ∈ l := by
  unfold bytesL
  rw [List.mem_map]
  constructor
  · rintro ⟨a, ha, rfl⟩
    have e : (⟨a.data.toList.toArray⟩ : ByteArray) = a := by cases a; simp
    rw [e]
    exact ha
  · intro h
    exact ⟨_, h, by simp⟩
theorem rises_textsL {l : List (List UInt8)} (h : l.Pairwise (fun a b => a < b)) : Rises (textsL l) := by
  unfold Rises textsL
  rw [List.pairwise_map]
  exact h.imp (fun h => by simpa [lessT] using h)
/-- sorted, each once: as if each were put in its place -/
theorem compact_all_is (l m : List ByteArray) (hl : Rises l) : textsL (Lib.compact ((bytesL (l ++ m)).mergeSort fun x y => decide (x ≤ y))) = addT l m := by
  obtain ⟨h1, h2⟩ := compact_sorted (sorted_bytes (bytesL (l ++ m)))
  refine rises_unique (rises_textsL h1) (rises_addT hl) (fun x => ?_)
  rw [mem_textsL, h2, List.mem_mergeSort, mem_bytesL, mem_addT]
  have e : (⟨x.data.toList.toArray⟩ : ByteArray) = x := by cases x; simp
  rw [e, List.mem_append]
/-- sorted, of things none of which is there twice -/
theorem sorted_once {l : List ByteArray} (hl : l.Nodup) : Rises (textsL ((bytesL l).mergeSort fun x y => decide (x ≤ y))) ∧ ∀ x, x ∈ textsL ((bytesL l).mergeSort fun x y => decide (x ≤ y)) ↔ x ∈ l := by
  have hnd : (bytesL l).Nodup := by
    unfold bytesL
    unfold List.Nodup
    rw [List.pairwise_map]
    exact hl.imp (fun h e => h (bytes_eq e))
  have hp := (List.mergeSort_perm (bytesL l) (fun x y => decide (x ≤ y)))
  have hnd2 := hp.nodup_iff.2 hnd
  refine ⟨rises_textsL ?_, fun x => ?_⟩
  · have := (sorted_bytes (bytesL l)).and hnd2
    exact this.imp (fun ⟨h1, h2⟩ => by
      rcases listLt_or_eq h1 with h3 | h3
      · exact h3
      · exact absurd h3 h2)
  · rw [mem_textsL, List.mem_mergeSort, mem_bytesL]
end Go.Proofs.YtcidoodaiimhfaaGreat

/- Hashes as plain data: what was put last of each field; pairs in the order of their fields. -/
namespace Go.Proofs.YtcidoodaiimhfaaGreat

abbrev Pr := ByteArray × ByteArray
/-- the last pair of a field -/
def lastP (ms : List Pr) (f : ByteArray) : Option Pr := ms.reverse.find? fun p => decide (p.1 = f)
theorem lastP_snoc (ms : List Pr) (p : Pr) (f : ByteArray) : lastP (ms ++ [p]) f = if p.1 = f then some p else lastP ms f := by
  unfold lastP
  rw [List.reverse_append, List.reverse_singleton, List.singleton_append, List.find?_cons]
  by_cases h : p.1 = f <;> simp [h]
theorem lastP_field {ms : List Pr} {f : ByteArray} {p : Pr} (h : lastP ms f = some p) : p.1 = f := by
  have := List.find?_some h
  simpa using this
theorem lastP_mem {ms : List Pr} {f : ByteArray} {p : Pr} (h : lastP ms f = some p) : p ∈ ms := by
  have := List.mem_of_find?_eq_some h
  simpa using this
theorem lastP_some {ms : List Pr} {p : Pr} (h : p ∈ ms) : ∃ q, lastP ms p.1 = some q := by
  unfold lastP
  cases hf : ms.reverse.find? fun q => decide (q.1 = p.1) with
  | some q => exact ⟨q, rfl⟩
  | none =>
    have := List.find?_eq_none.1 hf p (by simpa using h)
    simp at this
/-- fields rise -/
def RisesP (l : List Pr) : Prop := l.Pairwise fun a b => lessT a.1 b.1
theorem risesP_inj {l : List Pr} (h : RisesP l) {p q : Pr} (hp : p ∈ l) (hq : q ∈ l) (e : p.1 = q.1) : p = q := by
  induction l with
  | nil => cases hp
  | cons a r ih =>
    have h' := List.pairwise_cons.1 h
    rcases List.mem_cons.1 hp with e1 | hp2
    · rcases List.mem_cons.1 hq with e2 | hq2
      · rw [e1, e2]
      · exact absurd (h'.1 q hq2) (by rw [← e1, e]; exact lessT_irrefl _)
    · rcases List.mem_cons.1 hq with e2 | hq2
      · exact absurd (h'.1 p hp2) (by rw [← e2, e]; exact lessT_irrefl _)
      · exact ih h'.2 hp2 hq2
theorem lastP_rises {l : List Pr} (h : RisesP l) {p : Pr} : lastP l p.1 = some p ↔ p ∈ l := by
  constructor
  · exact lastP_mem
  · intro hp
    obtain ⟨q, hq⟩ := lastP_some hp
    rw [hq, risesP_inj h hp (lastP_mem hq) (lastP_field hq).symm]
/-- two that rise and have the same members are one -/
theorem risesP_unique : ∀ {l m : List Pr}, RisesP l → RisesP m → (∀ x, x ∈ l ↔ x ∈ m) → l = m
  | [], [], _, _, _ => rfl
  | [], b :: m, _, _, h => by have := (h b).2 (by simp); cases this
  | a :: l, [], _, _, h => by have := (h a).1 (by simp); cases this
  | a :: l, b :: m, hl, hm, h => by
    have hl' := List.pairwise_cons.1 hl
    have hm' := List.pairwise_cons.1 hm
    have hab : a = b := by
      have h1 := (h a).1 (by simp)
      have h2 := (h b).2 (by simp)
      rcases List.mem_cons.1 h1 with e | h1
      · exact e
      rcases List.mem_cons.1 h2 with e | h2
      · exact e.symm
      exact absurd (lessT_trans (hm'.1 a h1) (hl'.1 b h2)) (lessT_irrefl _)
    subst hab
    congr 1
    refine risesP_unique hl'.2 hm'.2 (fun x => ⟨fun hx => ?_, fun hx => ?_⟩)
    · rcases List.mem_cons.1 ((h x).1 (by simp [hx])) with e | h1
      · subst e; exact absurd (hl'.1 _ hx) (lessT_irrefl _)
      · exact h1
    · rcases List.mem_cons.1 ((h x).2 (by simp [hx])) with e | h1
      · subst e; exact absurd (hm'.1 _ hx) (lessT_irrefl _)
      · exact h1
/-- a pair put in its place -/
def putP : List Pr → Pr → List Pr
  | [], p => [p]
  | a :: r, p => if cmpT a.1 p.1 < 0 then a :: putP r p else if a.1 = p.1 then p :: r else p :: a :: r
theorem mem_putP {l : List Pr} (h : RisesP l) {p q : Pr} : q ∈ putP l p ↔ q = p ∨ (q ∈ l ∧ q.1 ≠ p.1) := by
  induction l with
  | nil => simp [putP]
  | cons a r ih =>
    have h' := List.pairwise_cons.1 h
    rw [putP]
    split
    · rename_i hc
      have hlt := (cmpT_lt _ _).1 hc
      have hne : a.1 ≠ p.1 := fun e => by rw [e] at hlt; exact lessT_irrefl _ hlt
      rw [List.mem_cons, ih h'.2, List.mem_cons]
      constructor
      · rintro (rfl | rfl | ⟨h1, h2⟩)
        · exact .inr ⟨.inl rfl, hne⟩
        · exact .inl rfl
        · exact .inr ⟨.inr h1, h2⟩
      · rintro (rfl | ⟨rfl | h1, h2⟩)
        · exact .inr (.inl rfl)
        · exact .inl rfl
        · exact .inr (.inr ⟨h1, h2⟩)
    · rename_i hc
      split
      · rename_i he
        rw [List.mem_cons, List.mem_cons]
        constructor
        · rintro (rfl | h1)
          · exact .inl rfl
          · exact .inr ⟨.inr h1, fun e => by have := h'.1 q h1; rw [he, e] at this; exact lessT_irrefl _ this⟩
        · rintro (rfl | ⟨rfl | h1, h2⟩)
          · exact .inl rfl
          · exact absurd he h2
          · exact .inr h1
      · rename_i he
        have hlt : lessT p.1 a.1 := by
          rcases lessT_or a.1 p.1 with h1 | h1 | h1
          · exact absurd ((cmpT_lt _ _).2 h1) hc
          · exact absurd h1 he
          · exact h1
        rw [List.mem_cons, List.mem_cons]
        constructor
        · rintro (rfl | rfl | h1)
          · exact .inl rfl
          · exact .inr ⟨.inl rfl, he⟩
          · exact .inr ⟨.inr h1, fun e => by have := lessT_trans hlt (h'.1 q h1); rw [e] at this; exact lessT_irrefl _ this⟩
        · rintro (rfl | ⟨rfl | h1, h2⟩)
          · exact .inl rfl
          · exact .inr (.inl rfl)
          · exact .inr (.inr h1)
theorem rises_putP {l : List Pr} (h : RisesP l) (p : Pr) : RisesP (putP l p) := by
  induction l with
  | nil => simp [putP, RisesP]
  | cons a r ih =>
    have h' := List.pairwise_cons.1 h
    rw [putP]
    split
    · rename_i hc
      have hlt := (cmpT_lt _ _).1 hc
      refine List.pairwise_cons.2 ⟨fun q hq => ?_, ih h'.2⟩
      rcases (mem_putP h'.2).1 hq with rfl | ⟨h1, _⟩
      · exact hlt
      · exact h'.1 q h1
    · rename_i hc
      split
      · rename_i he
        exact List.pairwise_cons.2 ⟨fun q hq => by rw [← he]; exact h'.1 q hq, h'.2⟩
      · rename_i he
        have hlt : lessT p.1 a.1 := by
          rcases lessT_or a.1 p.1 with h1 | h1 | h1
          · exact absurd ((cmpT_lt _ _).2 h1) hc
          · exact absurd h1 he
          · exact h1
        refine List.pairwise_cons.2 ⟨fun q hq => ?_, h⟩
        rcases List.mem_cons.1 hq with rfl | h1
        · exact hlt
        · exact lessT_trans hlt (h'.1 q h1)
/-- pairs laid to those that are there -/
def togP (there l : List Pr) : List Pr := l.foldl putP there
theorem rises_togP {there : List Pr} (h : RisesP there) (l : List Pr) : RisesP (togP there l) := by
  induction l generalizing there with
  | nil => exact h
  | cons p r ih => exact ih (rises_putP h p)
theorem togP_snoc (there l : List Pr) (p : Pr) : togP there (l ++ [p]) = putP (togP there l) p := by simp [togP]
theorem mem_togP {there : List Pr} (h : RisesP there) (l : List Pr) : ∀ q, q ∈ togP there l ↔ lastP (there ++ l) q.1 = some q := by
  obtain ⟨n, hn⟩ : ∃ n, n = l.length := ⟨_, rfl⟩
  induction n generalizing l with
  | zero =>
    obtain rfl : l = [] := List.eq_nil_of_length_eq_zero hn.symm
    intro q
    rw [List.append_nil]
    exact (lastP_rises h).symm
  | succ n ih =>
    intro q
    have hne : l ≠ [] := fun e => by rw [e] at hn; cases hn
    obtain ⟨r, p, rfl⟩ : ∃ r p, l = r ++ [p] := ⟨_, _, (List.dropLast_concat_getLast hne).symm⟩
    have hr : n = r.length := by simp at hn; exact hn
    rw [togP_snoc, mem_putP (rises_togP h r), ih r hr q, ← List.append_assoc, lastP_snoc]
    by_cases e : p.1 = q.1
    · rw [if_pos e]
      constructor
      · rintro (rfl | ⟨_, h2⟩)
        · rfl
        · exact absurd e.symm h2
      · intro h1; exact .inl (Option.some.inj h1).symm
    · rw [if_neg e]
      constructor
      · rintro (rfl | ⟨h1, _⟩)
        · exact absurd rfl e
        · exact h1
      · intro h1; exact .inr ⟨h1, fun e2 => e e2.symm⟩
end Go.Proofs.YtcidoodaiimhfaaGreat

/- A map of pairs: how a pair reads, and what maps.Values hands out. -/
namespace Go.Proofs.YtcidoodaiimhfaaGreat
open Go.RowKit Go.Maps Go.Sort Go.Shelf

def encPr (p : ByteArray × ByteArray) : Value := .agg #[.string p.1, .string p.2]
def datP (p : ByteArray × ByteArray) : DataW Unit := .agg [.lit (.string p.1.data.toList), .lit (.string p.2.data.toList)]
theorem datP_inj {p q : ByteArray × ByteArray} (h : datP p = datP q) : p = q := by
  obtain ⟨⟨⟨p1⟩⟩, ⟨⟨p2⟩⟩⟩ := p
  obtain ⟨⟨⟨q1⟩⟩, ⟨⟨q2⟩⟩⟩ := q
  simp [datP] at h
  simp [h]
def pairElem (v : Value) : Option (DataW Unit × List MemPlace) :=
  match v with
  | .agg cs => match cs.toList with
    | [.string a, .string b] => some (datP (a, b), [])
    | _ => none
  | _ => none
theorem pairElem_enc (p : ByteArray × ByteArray) : pairElem (encPr p) = some (datP p, []) := rfl
theorem pairElem_inv {v : Value} {z : DataW Unit × List MemPlace} (h : pairElem v = some z) : ∃ p, v = encPr p ∧ z = (datP p, []) := by
  unfold pairElem at h
  split at h
  · rename_i cs
    split at h
    · rename_i a b hc
      refine ⟨(a, b), ?_, (Option.some.inj h).symm⟩
      have : cs = #[.string a, .string b] := by
        apply Array.toList_inj.1
        rw [hc]
      rw [this]; rfl
    · cases h
  · cases h
/-- the pair's second is what the map has by its first -/
def ValP (D0 : DataW Unit) (q : List UInt8 × (ByteArray × ByteArray)) : Prop := ∀ zd, D0.atKey (.string q.1) zd = datP q.2
def AllP (D0 : DataW Unit) (ps : List (List UInt8 × (ByteArray × ByteArray))) : Prop := (ps.map (·.1)).Nodup ∧ ps.length ≤ Maps.size D0 ∧ (∀ x, x ∈ ps.map (·.1) ↔ has D0 (.string x) = true) ∧ ∀ p ∈ ps, ValP D0 p
def PartP (D0 : DataW Unit) (ps : List (List UInt8 × (ByteArray × ByteArray))) : Prop := (ps.map (·.1)).Nodup ∧ (∀ x ∈ ps.map (·.1), has D0 (.string x) = true) ∧ ∀ p ∈ ps, ValP D0 p
theorem keyedS : Keyed Tryz.prog 9 := string_keyed Tryz.underlying9

set_option maxRecDepth 100000 in
set_option maxHeartbeats 1000000 in
theorem values1P_in (F : Fence) (n : Nat) (h8 : F.fn 219) (hro : F.round = none) (hn : 1 ≤ n) (l Bm b nn : Nat) (D0 : DataW Unit) (J Jx : List (ByteArray × ByteArray) → World → Prop)
    (hY : ∀ pre x W, J pre W → pre.length < Maps.size D0 → YieldAt F (n - 1) Tryz.prog l #[encPr x] W fun e W' =>
      (e = .returned (.bool true) ∧ J (pre ++ [x]) W' ∧ KeepsWalks W W') ∨ (e = .returned (.bool false) ∧ Jx (pre ++ [x]) W'))
    (W : World) (hJ : AbidesFrom W.heap.size J) (hm : W.cell? ⟨Bm, 0, none⟩ = some (.map (some b))) (hown : W.ownsMap Tryz.prog 9 pairElem b nn D0) (h0 : J [] W) :
    CallsIn F n Tryz.prog 219 #[.func (.yield l) #[] #[], .pointer (some ⟨Bm, 0, none⟩)] W fun e W' => (∃ v, e = .returned v) ∧
      ((∃ xs, (∃ ps, AllP D0 ps ∧ xs = ps.map (·.2)) ∧ J xs W') ∨ (∃ pre, (∃ ps, PartP D0 ps ∧ pre = ps.map (·.2)) ∧ Jx pre W')) := by
  refine callsIn_of_wp Tryz.func219 rfl h8 ?_ hro
  simp only [Tryz.ntmps219, List.size_toArray, List.length_cons, List.length_nil, Nat.reduceAdd, Nat.reduceSub, Array.replicate_succ, Array.replicate_zero, List.push_toArray, List.append_toArray, List.nil_append, List.cons_append]
  gi_wp2_with (first
    | (gi_at_range; refine wpListIn_range_own _ rfl _ 176 rfl 9 87 keyedS Tryz.underlying176 _ b nn _ rfl hown ?_; intro w0 hrg0 hg0 hs0)
    | gi_in)
  go_frame
  gi_loopw [4] (fun _ wr => ∃ (left : Lit → Bool) (cnt : Nat) (ps : List (List UInt8 × (ByteArray × ByteArray))), wr.ranges Tryz.prog 9 pairElem b W.heap.size nn D0 left cnt ∧ ps.length + cnt ≤ Maps.size D0 ∧ Collected D0 left (ps.map (·.1)) ∧ (∀ p ∈ ps, ValP D0 p) ∧ J (ps.map (·.2)) wr)
    (fun _ wr => wr.rangeLeft b W.heap.size)
  case atStart =>
    exact ⟨_, _, [], hrg0, by simp, Collected.start D0, by simp, hJ [] W w0 none h0 hg0 (fun r e => by cases e)⟩
  case round =>
    obtain ⟨left, cnt, ps, hrg, hcs, hC, hV, hJs⟩ := hrel
    gi_wp2_with (first
      | (gi_at_next; refine wpListIn_next_ranges _ rfl _ rfl 9 keyedS pairElem encStr (fun c : ByteArray × ByteArray => Value.agg #[.string c.1, .string c.2]) (fun key kl hk => by obtain ⟨x, hx, _⟩ := Maps.keyOf_str Tryz.underlying9 hk; exact ⟨x, hx⟩) (fun v y hv => by obtain ⟨c, rfl, _⟩ := pairElem_inv hv; exact ⟨c, rfl⟩) b W.heap.size nn _ _ _ rfl hrg ?_ ?_)
      | gi_in)
    · intro hc0 hl0
      gi_wp2
      go_end0
      exact ⟨⟨_, rfl⟩, .inl ⟨_, ⟨ps, ⟨hC.1, by omega, fun x => by rw [hC.2 x, hl0]; simp, hV⟩, rfl⟩, hJs⟩⟩
    · intro x c1 c2 kl yd yp w2 cnt2 hkey hlk hv hat hrg2 hlt hg2 hs2 hen
      obtain ⟨x', ex, rfl, _⟩ := Maps.keyOf_str Tryz.underlying9 hkey
      obtain rfl : x = x' := encStr_inj ex
      obtain ⟨c', ec, ez⟩ := pairElem_inv hv
      obtain rfl : (c1, c2) = c' := by
        obtain ⟨d1, d2⟩ := c'
        simp [encPr] at ec
        simp [ec]
      obtain rfl : yd = datP (c1, c2) := (Prod.mk.inj ez).1
      have hJ1 : J (ps.map (·.2)) w2 := hJ _ wr w2 (some W.heap.size) hJs hg2 (fun r e => by cases e; exact ⟨Nat.le_refl _, hrg.iter_walk⟩)
      have hJ2 : J (ps.map (·.2)) (w2.alloc (.cells #[.string c1, .string c2] 87)) := hJ _ w2 _ none hJ1 (World.grownBy_alloc _ _ _) (fun r e => by cases e)
      have hkw : KeepsWalks w2 (w2.alloc (.cells #[.string c1, .string c2] 87)) := KeepsWalks.alloc _ _
      obtain ⟨fn, tmps, assign, body, hy, hR⟩ := hY (ps.map (·.2)) (c1, c2) _ hJ2 (by simp; omega)
      dsimp only [encPr] at hy
      clear hs2 hkey hv ec ez ex hs0
      gi_wp2
      refine hR.mono ?_
      have hC2 : Collected D0 (fun z => left z && !z.sameKey (.string x)) ((ps ++ [(x, (c1, c2))]).map (·.1)) := by simpa using hC.step hlk hat
      have hV2 : ∀ p ∈ ps ++ [(x, (c1, c2))], ValP D0 p := fun p hp => (List.mem_append.1 hp).elim (hV p) (fun e => by simp at e; subst e; exact hat)
      rintro e W3 (⟨rfl, hJ3, hk3⟩ | ⟨rfl, hJx3⟩)
      · gi_wp2
        have hrg3 := hrg2.of_walks (hkw.trans hk3)
        go_roundw
        case rel => exact ⟨_, cnt2, ps ++ [(x, (c1, c2))], hrg3, by simp; omega, hC2, hV2, by simpa using hJ3⟩
        case measure => rw [hrg3.left_eq, hrg.left_eq]; exact hlt
      · gi_wp2
        refine bodyPost_ret (results_none rfl _ _ _) rfl ?_
        exact ⟨⟨_, rfl⟩, .inr ⟨_, ⟨ps ++ [(x, (c1, c2))], ⟨hC2.1, fun y hy => ((hC2.2 y).1 hy).1, hV2⟩, by simp⟩, hJx3⟩⟩

set_option maxHeartbeats 1000000 in
/-- maps.Values: the map is boxed; the function value captures the box -/
theorem valuesP_in (F : Fence) (n : Nat) (hf : F.fn 162) (hro : F.round = none) (mb : Option Nat) (w : World) :
    CallsIn F n Tryz.prog 162 #[.map mb] w fun e w' => e = .returned (.func (.func 219) #[] #[.pointer (some ⟨w.heap.size, 0, none⟩)]) ∧ w' = w.alloc (.cells #[.map mb] 176) := by
  refine callsIn_of_wp Tryz.func162 rfl hf ?_ hro
  simp only [Tryz.ntmps162, List.size_toArray, List.length_cons, List.length_nil, Nat.reduceAdd, Nat.reduceSub, Array.replicate_succ, Array.replicate_zero, List.push_toArray, List.append_toArray, List.nil_append, List.cons_append]
  gi_wp2
  go_ret
  exact ⟨rfl, rfl⟩

/-- what maps.Values hands back gives the values -/
theorem valuesP_stops (F : Fence) (n : Nat) (h7 : F.fn 219) (hro : F.round = none) (hn : 1 ≤ n) (Bm b nn : Nat) (D0 : DataW Unit) (w : World) (hBm : Bm < w.heap.size)
    (hm : w.cell? ⟨Bm, 0, none⟩ = some (.map (some b))) (hown : w.ownsMap Tryz.prog 9 pairElem b nn D0) :
    SeqStops F n Tryz.prog 219 #[.pointer (some ⟨Bm, 0, none⟩)] encPr (fun xs => ∃ ps, AllP D0 ps ∧ xs = ps.map (·.2)) (fun pre => ∃ ps, PartP D0 ps ∧ pre = ps.map (·.2)) (Maps.size D0) w := fun l J Jx W hW hJ _ hY h0 => by
  have hown' : W.ownsMap Tryz.prog 9 pairElem b nn D0 := by
    have hbl := hown.lt
    obtain ⟨es, clock, hb, Ft, hs, hD⟩ := hown
    exact ⟨es, clock, (hW.block b hbl).trans hb, Ft, hs, hD⟩
  exact values1P_in F n h7 hro hn l Bm b nn D0 J Jx hY W hJ ((hW.cell (p := ⟨Bm, 0, none⟩) hBm).trans hm) hown' h0
end Go.Proofs.YtcidoodaiimhfaaGreat

/- slices.AppendSeq of pairs: what an iterator gives is gathered. -/
namespace Go.Proofs.YtcidoodaiimhfaaGreat
open Go.RowKit Go.Maps Go.Sort Go.Shelf
attribute [local go_sem] Oper.semAt_some

def rowP (l : List (ByteArray × ByteArray)) : List Value := (l.map fun p => [Value.string p.1, Value.string p.2]).flatten
theorem rowP_len (l : List (ByteArray × ByteArray)) : (rowP l).length = l.length * 2 := by
  induction l with
  | nil => rfl
  | cons p r ih => simp [rowP] at ih ⊢; omega
theorem rowP_snoc (l : List (ByteArray × ByteArray)) (p : ByteArray × ByteArray) : rowP (l ++ [p]) = rowP l ++ [.string p.1, .string p.2] := by simp [rowP]
theorem infoPair : (Tryz.prog.info? 87).map (fun i => (i.zero, i.size, i.bytes)) = some (some (.agg #[.string ⟨#[]⟩, .string ⟨#[]⟩]), 2, 32) := by kernel_rfl

set_option maxRecDepth 100000 in
set_option maxHeartbeats 2000000 in
theorem appendSeqP_in (F : Fence) (n : Nat) (hf : F.fn 239) (hro : F.round = none) (hn : 3 ≤ n) (gf : Nat) (hF : F.fn gf) (eg : ∀ args w, (callFunc gf args).run Tryz.prog w = .ok (.enter gf args) w) (lb : Array Value)
    (S Sp : List (ByteArray × ByteArray) → Prop) (N : Nat) (hN : N ≤ 2000000) (w : World) (hseq : SeqStops F (n - 1) Tryz.prog gf lb encPr S Sp N w) :
    CallsIn F n Tryz.prog 239 #[.slice none 0 0, .func (.func gf) #[] lb] w fun e W' => ∃ xs v, S xs ∧ e = .returned v ∧ W'.ownsRow w.heap.size 87 2 v xs.length (rowP xs) ∧ Below w.heap.size w W' := by
  have h1 : 1 ≤ n := by omega
  obtain ⟨i0, hi, hz0, hz1, hz2⟩ := info_parts infoPair
  refine callsIn_of_wp_marks Tryz.func239 rfl hf ?_ hro
  simp only [Tryz.ntmps239, List.size_toArray, List.length_cons, List.length_nil, Nat.reduceAdd, Nat.reduceSub, Array.replicate_succ, Array.replicate_zero, List.push_toArray, List.append_toArray, List.nil_append, List.cons_append]
  gi_wp2
  have bO := Boxed.new w 25 (.slice none 0 0)
  have hB0 : Below w.heap.size w (w.alloc (.cells #[.slice none 0 0] 25)) := (Below.refl _ w).alloc (Nat.le_refl _) _
  have hsz : (w.alloc (.cells #[.slice none 0 0] 25)).heap.size = w.heap.size + 1 := by simp
  have hseq' : SeqStops F (n - 1) Tryz.prog gf lb encPr S Sp N (w.alloc (.cells #[.slice none 0 0] 25)) := hseq.later hB0
  obtain ⟨W0, hW0⟩ : ∃ W0, w.alloc (.cells #[.slice none 0 0] 25) = W0 := ⟨_, rfl⟩
  rw [hW0] at bO hB0 hsz hseq' ⊢
  clear hW0
  refine wpIn_rangeFunc_ownH hro h1 (gf := gf) (lb := lb) rfl hF eg (encs := fun x => #[encPr x]) (Kp := KeepsWalks) hseq' walksK_t walksK_b (Below.refl _ _) (fun _ => rfl)
    (fun pre W => (∃ v, Boxed W w.heap.size 25 v ∧ W.ownsRow w.heap.size 87 2 v pre.length (rowP pre) ∧ True) ∧ Below w.heap.size w W)
    (fun _ _ _ => False)
    (OwnFrom.and (Own.from (holdsRow_own w.heap.size w.heap.size 25 87 2 (fun pre : List (ByteArray × ByteArray) => pre.length) (fun pre => rowP pre) (fun _ _ => True)) _) (ownFrom_below (Nat.le_refl _) (by omega)))
    (fun _ _ _ _ _ hs _ _ => hs)
    ⟨⟨_, bO, World.ownsRow_nil _ _ _ _, trivial⟩, hB0⟩
    (fun x a' W => ∃ Bx, w.heap.size < Bx ∧ W.heap[Bx]? = some (.cells #[.string x.1, .string x.2] 87 (0, 0)) ∧ a' = { tmps := #[.slice none 0 0, .func (.func gf) #[] lb, .pointer (some ⟨w.heap.size, 0, none⟩), undef, .slice none 0 0, .pointer (some ⟨Bx, 0, none⟩), .func (.func gf) #[] lb, .agg #[.string x.1, .string x.2], undef, undef, undef, undef, undef], defers := [] })
    (fun x a' _ X Y row hs hg hr => by
      obtain ⟨Bx, h1, h2, h3⟩ := hs
      refine ⟨Bx, h1, (hg.block Bx (Array.getElem?_eq_some_iff.1 h2).1 (fun e => ?_)).trans h2, h3⟩
      obtain ⟨_, o, ho, hc⟩ := hr Bx e.symm
      rw [h2] at ho; cases ho; cases hc)
    ?assign ?body ?done ?stop
  case assign =>
    rintro l pre ⟨x1, x2⟩ W K ⟨⟨v, bS1, hr1, -⟩, hB1⟩ hK
    dsimp only [encPr]
    gi_wp2
    exact hK _ _ ((KeepsOthers.alloc _ _).from _) (KeepsWalks.alloc _ _) ⟨⟨v, bS1.alloc _, hr1.alloc _, trivial⟩, hB1.alloc hB1.size _⟩ ⟨W.heap.size, bS1.lt, World.alloc_heap_new W _, rfl⟩
  case body =>
    rintro l pre ⟨x1, x2⟩ a' W hl ⟨r, hr⟩ ⟨⟨v, hv, hrow, -⟩, hB⟩ ⟨Bx, hBx, bX, rfl⟩ hlt
    have hc := hv.cell
    have cx0 : W.cell? ⟨Bx, 0, none⟩ = some (.string x1) := by rw [cell_of_row W Bx 0 _ _ _ bX]; rfl
    have cx1 : W.cell? ⟨Bx, 1, none⟩ = some (.string x2) := by rw [cell_of_row W Bx 1 _ _ _ bX]; rfl
    gi_wp2_with (gi_at_builtin; refine wpListIn_append_own _ rfl _ _ 25 rfl w.heap.size 87 i0 (.agg #[.string ⟨#[]⟩, .string ⟨#[]⟩]) 2 32 Tryz.underlying25 hi hz0 hz1 hz2 rfl (by decide) _ _ _ rfl (hrow.alloc _) ⟨W.heap.size, 0, none⟩ 1 1 [.string x1, .string x2] rfl rfl (fun j u hj => by match j, hj with | 0, hj => (simp at hj; subst hj; simp [Addr.add]) | 1, hj => (simp at hj; subst hj; simp [Addr.add])) (by simp [Value.oneCell']) (by unfold maxLen; omega) (by omega) (by have := hB.size; simp; omega) ?_; intro v' w1 hown' hgrow _; obtain ⟨g', cap', rfl⟩ := ownsRow_succ hown'; obtain ⟨hv1, hv2, hr2, hk2, hb2⟩ := hv.appended (by decide) hrow hB.size (Nat.le_refl _) hown' hgrow; have hc1 := hv1.cell; have hf1 := hv1.frozen)
    rw [show pre.length + 1 = (pre ++ [(x1, x2)]).length by simp, show rowP pre ++ [.string x1, .string x2] = rowP (pre ++ [(x1, x2)]) from (rowP_snoc pre (x1, x2)).symm] at hr2
    exact ⟨hk2.from _, hk2.walks, ⟨_, by simpa using hv2, by simpa using hr2⟩, hB.trans (by simpa using hb2)⟩
  case done =>
    rintro D ys W hD hS ⟨⟨v, hv, hrow, -⟩, hB⟩ hK
    have hc := hv.cell
    gi_wp2
    refine ⟨by simp, .inl ⟨_, _, rfl, run_takeDeferred hK, ?_⟩⟩
    exact ⟨_, results_tmp rfl _ _ _, ys, v, hS, rfl, ownsRow_putObj hrow _ hK rfl, hB.trans (belowK_b (w := w) (Nat.le_refl _) W D _ _ (by omega) hK rfl rfl)⟩
  case stop =>
    rintro D c pre W _ _ h _
    exact h.elim
end Go.Proofs.YtcidoodaiimhfaaGreat

