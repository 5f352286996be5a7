/- Part 4 of what the proof leans on: RChk2, RChk3, RChk4, RChk5, RChk6, YR1, GRef1, GRef2, GRef3, GRef4, GRef5, YR2. -/
import Derived.Test.YtcidoodaiimhfaaGreatPart3
import Derived.Handy
import Derived.Test.YtcidoodaiimhfaaGreatPart1
import Derived.BigQuiet
import Derived.Deep.RegionHeld3
import Derived.Deep.OwnRows
import Derived.Deep.AppendLies
import Derived.Test.YtcidoodaiimhfaaGreatPart2
/- WALKS of the reference's check of an item: kinds, what is other, texts. -/
namespace Go.Proofs.YtcidoodaiimhfaaGreat
open Go.RowKit

theorem between15 (k : Int) (w : World) (h : 1 ≤ k ∧ k ≤ 5) : Calls Tryz.prog 64 #[.int .i64 k, .int .i64 1, .int .i64 5] w fun e w' => e = .returned (.bool true) ∧ w' = w := by
  have hh := between_any k 1 5 w
  rw [decide_eq_true h] at hh
  exact hh
set_option maxRecDepth 100000 in
set_option maxHeartbeats 4000000 in
theorem refC_bad (k : Int) (t : ByteArray) (a1 a2 a3 : Option Addr) (c1 c2 c3 : Nat) (n1 n2 n3 : Nat) (w : World) (h : k < 1 ∨ 5 < k) :
    Calls Tryz.prog 13 #[.agg #[.int .i64 k, .string t, .slice a1 n1 c1, .slice a2 n2 c2, .slice a3 n3 c3]] w fun e w' => e = .returned (.int .i64 7) ∧ Below w.heap.size w w' := by
  have HB : Hid (∀ W, Calls Tryz.prog 64 #[.int .i64 k, .int .i64 1, .int .i64 5] W fun e w' => e = .returned (.bool false) ∧ w' = W) := fun W => by
    have hh := between_any k 1 5 W
    rw [decide_eq_false (by omega)] at hh
    exact hh
  go_enter Tryz.func13, Tryz.ntmps13
  go_wp2_with fail
  refine (HB.out _).mono ?_
  rintro e w1 ⟨rfl, rfl⟩
  go_wp2_with fail
  go_ret
  exact ⟨rfl, (Below.refl _ _).alloc (Nat.le_refl _) _⟩
set_option maxRecDepth 100000 in
set_option maxHeartbeats 4000000 in
theorem refC_o1l (t : ByteArray) (n1 : Nat) (n2 : Nat) (n3 : Nat) (a1 a2 a3 : Option Addr) (c1 c2 c3 : Nat) (w : World) (h : 0 < n1) :
    Calls Tryz.prog 13 #[.agg #[.int .i64 1, .string t, .slice a1 n1 c1, .slice a2 n2 c2, .slice a3 n3 c3]] w fun e w' => e = .returned (.int .i64 1) ∧ Below w.heap.size w w' := by
  have h1 : (0 : Int) < ((n1 : Nat) : Int) := by omega
  have h2 : ¬ n1 = 0 := by omega
  go_enter Tryz.func13, Tryz.ntmps13
  go_wp2_with fail
  refine (between15 _ _ (by decide)).mono ?_
  rintro e w1 ⟨rfl, rfl⟩
  go_wp2_with fail
  go_ret
  exact ⟨rfl, (Below.refl _ _).alloc (Nat.le_refl _) _⟩
set_option maxRecDepth 100000 in
set_option maxHeartbeats 4000000 in
theorem refC_o1p (t : ByteArray) (n2 : Nat) (n3 : Nat) (a1 a2 a3 : Option Addr) (c1 c2 c3 : Nat) (w : World) (h : 0 < n2) :
    Calls Tryz.prog 13 #[.agg #[.int .i64 1, .string t, .slice a1 0 c1, .slice a2 n2 c2, .slice a3 n3 c3]] w fun e w' => e = .returned (.int .i64 1) ∧ Below w.heap.size w w' := by
  have h1 : (0 : Int) < ((n2 : Nat) : Int) := by omega
  have h2 : ¬ n2 = 0 := by omega
  go_enter Tryz.func13, Tryz.ntmps13
  go_wp2_with fail
  refine (between15 _ _ (by decide)).mono ?_
  rintro e w1 ⟨rfl, rfl⟩
  go_wp2_with fail
  go_ret
  exact ⟨rfl, (Below.refl _ _).alloc (Nat.le_refl _) _⟩
set_option maxRecDepth 100000 in
set_option maxHeartbeats 4000000 in
theorem refC_o1s (t : ByteArray) (n3 : Nat) (a1 a2 a3 : Option Addr) (c1 c2 c3 : Nat) (w : World) (h : 0 < n3) :
    Calls Tryz.prog 13 #[.agg #[.int .i64 1, .string t, .slice a1 0 c1, .slice a2 0 c2, .slice a3 n3 c3]] w fun e w' => e = .returned (.int .i64 1) ∧ Below w.heap.size w w' := by
  have h1 : (0 : Int) < ((n3 : Nat) : Int) := by omega
  have h2 : ¬ n3 = 0 := by omega
  go_enter Tryz.func13, Tryz.ntmps13
  go_wp2_with fail
  refine (between15 _ _ (by decide)).mono ?_
  rintro e w1 ⟨rfl, rfl⟩
  go_wp2_with fail
  go_ret
  exact ⟨rfl, (Below.refl _ _).alloc (Nat.le_refl _) _⟩
set_option maxRecDepth 100000 in
set_option maxHeartbeats 4000000 in
theorem refC_o2t (t : ByteArray) (n1 : Nat) (n2 : Nat) (n3 : Nat) (a1 a2 a3 : Option Addr) (c1 c2 c3 : Nat) (w : World) (h : ¬ t.toList = []) :
    Calls Tryz.prog 13 #[.agg #[.int .i64 2, .string t, .slice a1 n1 c1, .slice a2 n2 c2, .slice a3 n3 c3]] w fun e w' => e = .returned (.int .i64 1) ∧ Below w.heap.size w w' := by
  have h1 : (t.toList == []) = false := by rw [beq_eq_false_iff_ne]; exact h
  go_enter Tryz.func13, Tryz.ntmps13
  go_wp2_with fail
  refine (between15 _ _ (by decide)).mono ?_
  rintro e w1 ⟨rfl, rfl⟩
  go_wp2_with fail
  go_ret
  exact ⟨rfl, (Below.refl _ _).alloc (Nat.le_refl _) _⟩
set_option maxRecDepth 100000 in
set_option maxHeartbeats 4000000 in
theorem refC_o2p (n1 : Nat) (n2 : Nat) (n3 : Nat) (a1 a2 a3 : Option Addr) (c1 c2 c3 : Nat) (w : World) (h : 0 < n2) :
    Calls Tryz.prog 13 #[.agg #[.int .i64 2, .string ⟨#[]⟩, .slice a1 n1 c1, .slice a2 n2 c2, .slice a3 n3 c3]] w fun e w' => e = .returned (.int .i64 1) ∧ Below w.heap.size w w' := by
  have h1 : (0 : Int) < ((n2 : Nat) : Int) := by omega
  have h2 : ¬ n2 = 0 := by omega
  go_enter Tryz.func13, Tryz.ntmps13
  go_wp2_with fail
  refine (between15 _ _ (by decide)).mono ?_
  rintro e w1 ⟨rfl, rfl⟩
  go_wp2_with fail
  go_ret
  exact ⟨rfl, (Below.refl _ _).alloc (Nat.le_refl _) _⟩
set_option maxRecDepth 100000 in
set_option maxHeartbeats 4000000 in
theorem refC_o2s (n1 : Nat) (n3 : Nat) (a1 a2 a3 : Option Addr) (c1 c2 c3 : Nat) (w : World) (h : 0 < n3) :
    Calls Tryz.prog 13 #[.agg #[.int .i64 2, .string ⟨#[]⟩, .slice a1 n1 c1, .slice a2 0 c2, .slice a3 n3 c3]] w fun e w' => e = .returned (.int .i64 1) ∧ Below w.heap.size w w' := by
  have h1 : (0 : Int) < ((n3 : Nat) : Int) := by omega
  have h2 : ¬ n3 = 0 := by omega
  go_enter Tryz.func13, Tryz.ntmps13
  go_wp2_with fail
  refine (between15 _ _ (by decide)).mono ?_
  rintro e w1 ⟨rfl, rfl⟩
  go_wp2_with fail
  go_ret
  exact ⟨rfl, (Below.refl _ _).alloc (Nat.le_refl _) _⟩
set_option maxRecDepth 100000 in
set_option maxHeartbeats 4000000 in
theorem refC_o3t (t : ByteArray) (n1 : Nat) (n2 : Nat) (n3 : Nat) (a1 a2 a3 : Option Addr) (c1 c2 c3 : Nat) (w : World) (h : ¬ t.toList = []) :
    Calls Tryz.prog 13 #[.agg #[.int .i64 3, .string t, .slice a1 n1 c1, .slice a2 n2 c2, .slice a3 n3 c3]] w fun e w' => e = .returned (.int .i64 1) ∧ Below w.heap.size w w' := by
  have h1 : (t.toList == []) = false := by rw [beq_eq_false_iff_ne]; exact h
  go_enter Tryz.func13, Tryz.ntmps13
  go_wp2_with fail
  refine (between15 _ _ (by decide)).mono ?_
  rintro e w1 ⟨rfl, rfl⟩
  go_wp2_with fail
  go_ret
  exact ⟨rfl, (Below.refl _ _).alloc (Nat.le_refl _) _⟩
set_option maxRecDepth 100000 in
set_option maxHeartbeats 4000000 in
theorem refC_o3p (n1 : Nat) (n2 : Nat) (n3 : Nat) (a1 a2 a3 : Option Addr) (c1 c2 c3 : Nat) (w : World) (h : 0 < n2) :
    Calls Tryz.prog 13 #[.agg #[.int .i64 3, .string ⟨#[]⟩, .slice a1 n1 c1, .slice a2 n2 c2, .slice a3 n3 c3]] w fun e w' => e = .returned (.int .i64 1) ∧ Below w.heap.size w w' := by
  have h1 : (0 : Int) < ((n2 : Nat) : Int) := by omega
  have h2 : ¬ n2 = 0 := by omega
  go_enter Tryz.func13, Tryz.ntmps13
  go_wp2_with fail
  refine (between15 _ _ (by decide)).mono ?_
  rintro e w1 ⟨rfl, rfl⟩
  go_wp2_with fail
  go_ret
  exact ⟨rfl, (Below.refl _ _).alloc (Nat.le_refl _) _⟩
set_option maxRecDepth 100000 in
set_option maxHeartbeats 4000000 in
theorem refC_o3s (n1 : Nat) (n3 : Nat) (a1 a2 a3 : Option Addr) (c1 c2 c3 : Nat) (w : World) (h : 0 < n3) :
    Calls Tryz.prog 13 #[.agg #[.int .i64 3, .string ⟨#[]⟩, .slice a1 n1 c1, .slice a2 0 c2, .slice a3 n3 c3]] w fun e w' => e = .returned (.int .i64 1) ∧ Below w.heap.size w w' := by
  have h1 : (0 : Int) < ((n3 : Nat) : Int) := by omega
  have h2 : ¬ n3 = 0 := by omega
  go_enter Tryz.func13, Tryz.ntmps13
  go_wp2_with fail
  refine (between15 _ _ (by decide)).mono ?_
  rintro e w1 ⟨rfl, rfl⟩
  go_wp2_with fail
  go_ret
  exact ⟨rfl, (Below.refl _ _).alloc (Nat.le_refl _) _⟩
set_option maxRecDepth 100000 in
set_option maxHeartbeats 4000000 in
theorem refC_o4t (t : ByteArray) (n1 : Nat) (n2 : Nat) (n3 : Nat) (a1 a2 a3 : Option Addr) (c1 c2 c3 : Nat) (w : World) (h : ¬ t.toList = []) :
    Calls Tryz.prog 13 #[.agg #[.int .i64 4, .string t, .slice a1 n1 c1, .slice a2 n2 c2, .slice a3 n3 c3]] w fun e w' => e = .returned (.int .i64 1) ∧ Below w.heap.size w w' := by
  have h1 : (t.toList == []) = false := by rw [beq_eq_false_iff_ne]; exact h
  go_enter Tryz.func13, Tryz.ntmps13
  go_wp2_with fail
  refine (between15 _ _ (by decide)).mono ?_
  rintro e w1 ⟨rfl, rfl⟩
  go_wp2_with fail
  go_ret
  exact ⟨rfl, (Below.refl _ _).alloc (Nat.le_refl _) _⟩
set_option maxRecDepth 100000 in
set_option maxHeartbeats 4000000 in
theorem refC_o4l (n1 : Nat) (n2 : Nat) (n3 : Nat) (a1 a2 a3 : Option Addr) (c1 c2 c3 : Nat) (w : World) (h : 0 < n1) :
    Calls Tryz.prog 13 #[.agg #[.int .i64 4, .string ⟨#[]⟩, .slice a1 n1 c1, .slice a2 n2 c2, .slice a3 n3 c3]] w fun e w' => e = .returned (.int .i64 1) ∧ Below w.heap.size w w' := by
  have h1 : (0 : Int) < ((n1 : Nat) : Int) := by omega
  have h2 : ¬ n1 = 0 := by omega
  go_enter Tryz.func13, Tryz.ntmps13
  go_wp2_with fail
  refine (between15 _ _ (by decide)).mono ?_
  rintro e w1 ⟨rfl, rfl⟩
  go_wp2_with fail
  go_ret
  exact ⟨rfl, (Below.refl _ _).alloc (Nat.le_refl _) _⟩
set_option maxRecDepth 100000 in
set_option maxHeartbeats 4000000 in
theorem refC_o4s (n2 : Nat) (n3 : Nat) (a1 a2 a3 : Option Addr) (c1 c2 c3 : Nat) (w : World) (h : 0 < n3) :
    Calls Tryz.prog 13 #[.agg #[.int .i64 4, .string ⟨#[]⟩, .slice a1 0 c1, .slice a2 n2 c2, .slice a3 n3 c3]] w fun e w' => e = .returned (.int .i64 1) ∧ Below w.heap.size w w' := by
  have h1 : (0 : Int) < ((n3 : Nat) : Int) := by omega
  have h2 : ¬ n3 = 0 := by omega
  go_enter Tryz.func13, Tryz.ntmps13
  go_wp2_with fail
  refine (between15 _ _ (by decide)).mono ?_
  rintro e w1 ⟨rfl, rfl⟩
  go_wp2_with fail
  go_ret
  exact ⟨rfl, (Below.refl _ _).alloc (Nat.le_refl _) _⟩
set_option maxRecDepth 100000 in
set_option maxHeartbeats 4000000 in
theorem refC_o5t (t : ByteArray) (n1 : Nat) (n2 : Nat) (n3 : Nat) (a1 a2 a3 : Option Addr) (c1 c2 c3 : Nat) (w : World) (h : ¬ t.toList = []) :
    Calls Tryz.prog 13 #[.agg #[.int .i64 5, .string t, .slice a1 n1 c1, .slice a2 n2 c2, .slice a3 n3 c3]] w fun e w' => e = .returned (.int .i64 1) ∧ Below w.heap.size w w' := by
  have h1 : (t.toList == []) = false := by rw [beq_eq_false_iff_ne]; exact h
  go_enter Tryz.func13, Tryz.ntmps13
  go_wp2_with fail
  refine (between15 _ _ (by decide)).mono ?_
  rintro e w1 ⟨rfl, rfl⟩
  go_wp2_with fail
  go_ret
  exact ⟨rfl, (Below.refl _ _).alloc (Nat.le_refl _) _⟩
set_option maxRecDepth 100000 in
set_option maxHeartbeats 4000000 in
theorem refC_o5l (n1 : Nat) (n2 : Nat) (n3 : Nat) (a1 a2 a3 : Option Addr) (c1 c2 c3 : Nat) (w : World) (h : 0 < n1) :
    Calls Tryz.prog 13 #[.agg #[.int .i64 5, .string ⟨#[]⟩, .slice a1 n1 c1, .slice a2 n2 c2, .slice a3 n3 c3]] w fun e w' => e = .returned (.int .i64 1) ∧ Below w.heap.size w w' := by
  have h1 : (0 : Int) < ((n1 : Nat) : Int) := by omega
  have h2 : ¬ n1 = 0 := by omega
  go_enter Tryz.func13, Tryz.ntmps13
  go_wp2_with fail
  refine (between15 _ _ (by decide)).mono ?_
  rintro e w1 ⟨rfl, rfl⟩
  go_wp2_with fail
  go_ret
  exact ⟨rfl, (Below.refl _ _).alloc (Nat.le_refl _) _⟩
set_option maxRecDepth 100000 in
set_option maxHeartbeats 4000000 in
theorem refC_o5p (n2 : Nat) (n3 : Nat) (a1 a2 a3 : Option Addr) (c1 c2 c3 : Nat) (w : World) (h : 0 < n2) :
    Calls Tryz.prog 13 #[.agg #[.int .i64 5, .string ⟨#[]⟩, .slice a1 0 c1, .slice a2 n2 c2, .slice a3 n3 c3]] w fun e w' => e = .returned (.int .i64 1) ∧ Below w.heap.size w w' := by
  have h1 : (0 : Int) < ((n2 : Nat) : Int) := by omega
  have h2 : ¬ n2 = 0 := by omega
  go_enter Tryz.func13, Tryz.ntmps13
  go_wp2_with fail
  refine (between15 _ _ (by decide)).mono ?_
  rintro e w1 ⟨rfl, rfl⟩
  go_wp2_with fail
  go_ret
  exact ⟨rfl, (Below.refl _ _).alloc (Nat.le_refl _) _⟩
set_option maxRecDepth 100000 in
set_option maxHeartbeats 4000000 in
theorem refC_1 (t : ByteArray) (a1 a2 a3 : Option Addr) (c1 c2 c3 : Nat) (w : World) :
    Calls Tryz.prog 13 #[.agg #[.int .i64 1, .string t, .slice a1 0 c1, .slice a2 0 c2, .slice a3 0 c3]] w fun e w' => e = .returned (.int .i64 (if longT t = true then 2 else 0)) ∧ Below w.heap.size w w' := by
  by_cases h : 60 < t.size
  · rw [if_pos (show longT t = true by unfold longT; exact decide_eq_true h)]
    have h' : (60 : Int) < ((t.size : Nat) : Int) := by omega
    go_enter Tryz.func13, Tryz.ntmps13
    go_wp2_with fail
    refine (between15 _ _ (by decide)).mono ?_
    rintro e w1 ⟨rfl, rfl⟩
    go_wp2_with fail
    go_ret
    exact ⟨rfl, (Below.refl _ _).alloc (Nat.le_refl _) _⟩
  · rw [if_neg (show ¬ longT t = true by unfold longT; simp; omega)]
    have h' : ¬ (60 : Int) < ((t.size : Nat) : Int) := by omega
    go_enter Tryz.func13, Tryz.ntmps13
    go_wp2_with fail
    refine (between15 _ _ (by decide)).mono ?_
    rintro e w1 ⟨rfl, rfl⟩
    go_wp2_with fail
    go_ret
    exact ⟨rfl, (Below.refl _ _).alloc (Nat.le_refl _) _⟩
end Go.Proofs.YtcidoodaiimhfaaGreat

/- WALKS of the reference's check of lists and sets. -/
namespace Go.Proofs.YtcidoodaiimhfaaGreat
open Go.RowKit

set_option maxRecDepth 100000 in
set_option maxHeartbeats 4000000 in
theorem refC_2 (a1 a2 a3 : Option Addr) (c1 c2 c3 : Nat) (l : List ByteArray) (w : World) (hs : TextsAt w a1 l) (hn : l.length ≤ 281474976710656) :
    Calls Tryz.prog 13 #[.agg #[.int .i64 2, .string ⟨#[]⟩, .slice a1 l.length c1, .slice a2 0 c2, .slice a3 0 c3]] w fun e w' => e = .returned (.int .i64 (sizeT (l).length ((l).any longT))) ∧ Below w.heap.size w w' := by
  have HS := hide hs
  clear hs
  by_cases h0 : l.length = 0
  · obtain rfl : l = [] := List.eq_nil_of_length_eq_zero h0
    rw [show (sizeT (([] : List ByteArray)).length ((([] : List ByteArray)).any longT)) = 5 from rfl]
    clear h0
    go_enter Tryz.func13, Tryz.ntmps13
    go_wp2_with fail
    refine (between15 _ _ (by decide)).mono ?_
    rintro e w1 ⟨rfl, rfl⟩
    go_wp2_with fail
    go_ret
    exact ⟨rfl, (Below.refl _ _).alloc (Nat.le_refl _) _⟩
  have h0b : (((l.length : Nat) : Int) == 0) = false := by rw [beq_eq_false_iff_ne]; omega
  by_cases h24 : 24 < l.length
  · rw [show (sizeT (l).length ((l).any longT)) = 2 by rw [sizeT, if_neg h0, if_pos (.inl h24)]]
    have h24' : (24 : Int) < ((l.length : Nat) : Int) := by omega
    go_enter Tryz.func13, Tryz.ntmps13
    go_wp2_with fail
    refine (between15 _ _ (by decide)).mono ?_
    rintro e w1 ⟨rfl, rfl⟩
    go_wp2_with fail
    go_ret
    exact ⟨rfl, (Below.refl _ _).alloc (Nat.le_refl _) _⟩
  have h24' : ¬ (24 : Int) < ((l.length : Nat) : Int) := by omega
  go_enter Tryz.func13, Tryz.ntmps13
  go_wp2_with fail
  refine (between15 _ _ (by decide)).mono ?_
  rintro e w1 ⟨rfl, rfl⟩
  go_wp2_with fail
  generalize hW0 : World.alloc w _ = W0
  have q2 : W0.cell? ⟨w.heap.size, 2, none⟩ = some (.slice a1 l.length c1) := by rw [← hW0]; simp [go_sem]
  have q3 : W0.cell? ⟨w.heap.size, 3, none⟩ = some (.slice a2 0 c2) := by rw [← hW0]; simp [go_sem]
  have q4 : W0.cell? ⟨w.heap.size, 4, none⟩ = some (.slice a3 0 c3) := by rw [← hW0]; simp [go_sem]
  have BW : Below w.heap.size w W0 := by rw [← hW0]; exact (Below.refl _ _).alloc (Nat.le_refl _) _
  have HB : Hid (∀ g o v, w.cell? ⟨g, o, none⟩ = some v → W0.cell? ⟨g, o, none⟩ = some v) := fun g o _ hv => (BW.cell (p := ⟨g, o, none⟩) (World.block_lt_of_cell? _ _ hv)).trans hv
  have zW : w.heap.size < W0.heap.size := by rw [← hW0]; simp
  clear hW0
  go_loop [5] (fun i => ∃ k : Nat, k ≤ l.length ∧ i = .int .i64 k ∧ Hid ((l.take k).any longT = false)) (fun i => l.length - (intOf i).toNat)
  case atStart => exact ⟨0, Nat.zero_le _, rfl, by simp [Hid]⟩
  case round =>
    obtain ⟨k, hk, rfl, HA⟩ := hrel
    by_cases hlt : k < l.length
    · have hlt' : ((k : Nat) : Int) < ((l.length : Nat) : Int) := by omega
      have HT : Hid ((l.take (k + 1)).any longT = ((l.take k).any longT || longT l[k])) := by
        rw [Hid, List.take_succ_eq_append_getElem hlt, List.any_append]
        simp
      have HF : Hid (longT l[k] = true → l.any longT = true) := fun hx => List.any_eq_true.mpr ⟨l[k], List.getElem_mem hlt, hx⟩
      obtain ⟨g, o, rfl, hcs⟩ : ∃ g o, a1 = some ⟨g, o, none⟩ ∧ ∀ i (h : i < l.length), w.cell? ⟨g, o + i, none⟩ = some (.string l[i]) := by
        rcases HS.out with h | h
        · subst h; simp at hlt
        · exact h
      have d0 : W0.cell? ⟨g, o + k, none⟩ = some (.string l[k]) := HB.out _ _ _ (hcs k hlt)
      clear hcs HS HB
      by_cases hx : 60 < l[k].size
      · have HY := hide (HF.out (by unfold longT; exact decide_eq_true hx))
        have hx' : (60 : Int) < ((l[k].size : Nat) : Int) := by omega
        clear HF HT
        go_wp2_with fail
        go_ret
        rw [show (sizeT (l).length ((l).any longT)) = 2 by rw [sizeT, if_neg h0, if_pos (.inr HY.out)]]
        exact ⟨rfl, BW⟩
      · have HY : Hid ((l.take (k + 1)).any longT = false) := by rw [Hid, HT.out, HA.out]; unfold longT; simp; omega
        have hx' : ¬ (60 : Int) < ((l[k].size : Nat) : Int) := by omega
        clear HF HT
        go_wp2_with fail
        go_round
        case rel => exact ⟨k + 1, by omega, by go_num, HY⟩
        case measure => simp [intOf]; omega
    · have hge : ¬ ((k : Nat) : Int) < ((l.length : Nat) : Int) := by omega
      have HY : Hid (l.any longT = false) := by have := HA.out; rw [List.take_of_length_le (by omega)] at this; exact this
      have HOK : Hid (sizeT l.length (l.any longT) = 0) := show sizeT l.length (l.any longT) = 0 by rw [sizeT, if_neg h0, if_neg (by rw [HY.out]; rintro (h | h); omega; cases h)]
      clear HA
      go_wp2_with fail
      refine wp_loop_rounds 1 ?_
      rw [rounds_succ]
      go_wp2_with fail
      refine wp_loop_rounds 1 ?_
      rw [rounds_succ]
      go_wp2_with fail
      go_loopw [8] (fun i wr => ∃ j : Nat, 1 ≤ j ∧ j ≤ l.length ∧ i = .int .i64 j ∧ Below W0.heap.size W0 wr) (fun i _ => l.length + 1 - (intOf i).toNat)
      case atStart => exact ⟨1, Nat.le_refl _, by omega, rfl, Below.refl _ _⟩
      case round =>
        obtain ⟨j, hj1, hj, rfl, hbr⟩ := hrel
        have r2 := (hbr.cell (p := ⟨w.heap.size, 2, none⟩) zW).trans q2
        have r3 := (hbr.cell (p := ⟨w.heap.size, 3, none⟩) zW).trans q3
        have r4 := (hbr.cell (p := ⟨w.heap.size, 4, none⟩) zW).trans q4
        have BR : Below w.heap.size w wr := BW.trans (hbr.mono BW.size)
        have HB2 : Hid (∀ g o v, w.cell? ⟨g, o, none⟩ = some v → wr.cell? ⟨g, o, none⟩ = some v) := fun g o _ hv => (BR.cell (p := ⟨g, o, none⟩) (World.block_lt_of_cell? _ _ hv)).trans hv
        clear q2 q3 q4 HB
        by_cases hjl : j < l.length
        · have hjl' : ((j : Nat) : Int) < ((l.length : Nat) : Int) := by omega
          go_wp2_with fail
          go_quiet (fail)
          go_wp2_with fail
          go_roundw
          case rel => exact ⟨j + 1, by omega, by omega, by go_num, below_drewN' hbr _⟩
          case measure => simp [intOf]; omega
        · have hjl' : ¬ ((j : Nat) : Int) < ((l.length : Nat) : Int) := by omega
          go_wp2_with fail
          refine wp_loop_rounds 1 ?_
          rw [rounds_succ]
          go_wp2_with fail
          refine wp_loop_rounds 1 ?_
          rw [rounds_succ]
          go_wp2_with fail
          refine wp_loop_rounds 1 ?_
          rw [rounds_succ]
          go_wp2_with fail
          refine wp_loop_rounds 1 ?_
          rw [rounds_succ]
          go_wp2_with fail
          go_ret
          rw [HOK.out]
          exact ⟨rfl, BR⟩

set_option maxRecDepth 100000 in
set_option maxHeartbeats 4000000 in
theorem refC_3 (a1 a2 a3 : Option Addr) (c1 c2 c3 : Nat) (l : List ByteArray) (w : World) (hs : TextsAt w a1 l) (hn : l.length ≤ 281474976710656) (hz : ∀ t ∈ l, t.size ≤ maxLen) :
    Calls Tryz.prog 13 #[.agg #[.int .i64 3, .string ⟨#[]⟩, .slice a1 l.length c1, .slice a2 0 c2, .slice a3 0 c3]] w fun e w' => e = .returned (.int .i64 (setT l)) ∧ Below w.heap.size w w' := by
  have HS := hide hs
  clear hs
  have HZ := hide hz
  clear hz
  by_cases h0 : l.length = 0
  · obtain rfl : l = [] := List.eq_nil_of_length_eq_zero h0
    rw [show (setT ([] : List ByteArray)) = 5 from rfl]
    clear h0
    go_enter Tryz.func13, Tryz.ntmps13
    go_wp2_with fail
    refine (between15 _ _ (by decide)).mono ?_
    rintro e w1 ⟨rfl, rfl⟩
    go_wp2_with fail
    go_ret
    exact ⟨rfl, (Below.refl _ _).alloc (Nat.le_refl _) _⟩
  have h0b : (((l.length : Nat) : Int) == 0) = false := by rw [beq_eq_false_iff_ne]; omega
  by_cases h24 : 24 < l.length
  · rw [show (setT l) = 2 by rw [setT, if_pos (by rw [sizeT, if_neg h0, if_pos (.inl h24)]; decide), sizeT, if_neg h0, if_pos (.inl h24)]]
    have h24' : (24 : Int) < ((l.length : Nat) : Int) := by omega
    go_enter Tryz.func13, Tryz.ntmps13
    go_wp2_with fail
    refine (between15 _ _ (by decide)).mono ?_
    rintro e w1 ⟨rfl, rfl⟩
    go_wp2_with fail
    go_ret
    exact ⟨rfl, (Below.refl _ _).alloc (Nat.le_refl _) _⟩
  have h24' : ¬ (24 : Int) < ((l.length : Nat) : Int) := by omega
  go_enter Tryz.func13, Tryz.ntmps13
  go_wp2_with fail
  refine (between15 _ _ (by decide)).mono ?_
  rintro e w1 ⟨rfl, rfl⟩
  go_wp2_with fail
  generalize hW0 : World.alloc w _ = W0
  have q2 : W0.cell? ⟨w.heap.size, 2, none⟩ = some (.slice a1 l.length c1) := by rw [← hW0]; simp [go_sem]
  have q3 : W0.cell? ⟨w.heap.size, 3, none⟩ = some (.slice a2 0 c2) := by rw [← hW0]; simp [go_sem]
  have q4 : W0.cell? ⟨w.heap.size, 4, none⟩ = some (.slice a3 0 c3) := by rw [← hW0]; simp [go_sem]
  have BW : Below w.heap.size w W0 := by rw [← hW0]; exact (Below.refl _ _).alloc (Nat.le_refl _) _
  have HB : Hid (∀ g o v, w.cell? ⟨g, o, none⟩ = some v → W0.cell? ⟨g, o, none⟩ = some v) := fun g o _ hv => (BW.cell (p := ⟨g, o, none⟩) (World.block_lt_of_cell? _ _ hv)).trans hv
  have zW : w.heap.size < W0.heap.size := by rw [← hW0]; simp
  clear hW0
  go_loop [5] (fun i => ∃ k : Nat, k ≤ l.length ∧ i = .int .i64 k ∧ Hid ((l.take k).any longT = false)) (fun i => l.length - (intOf i).toNat)
  case atStart => exact ⟨0, Nat.zero_le _, rfl, by simp [Hid]⟩
  case round =>
    obtain ⟨k, hk, rfl, HA⟩ := hrel
    by_cases hlt : k < l.length
    · have hlt' : ((k : Nat) : Int) < ((l.length : Nat) : Int) := by omega
      have HT : Hid ((l.take (k + 1)).any longT = ((l.take k).any longT || longT l[k])) := by
        rw [Hid, List.take_succ_eq_append_getElem hlt, List.any_append]
        simp
      have HF : Hid (longT l[k] = true → l.any longT = true) := fun hx => List.any_eq_true.mpr ⟨l[k], List.getElem_mem hlt, hx⟩
      obtain ⟨g, o, rfl, hcs⟩ : ∃ g o, a1 = some ⟨g, o, none⟩ ∧ ∀ i (h : i < l.length), w.cell? ⟨g, o + i, none⟩ = some (.string l[i]) := by
        rcases HS.out with h | h
        · subst h; simp at hlt
        · exact h
      have d0 : W0.cell? ⟨g, o + k, none⟩ = some (.string l[k]) := HB.out _ _ _ (hcs k hlt)
      clear hcs HS HB
      by_cases hx : 60 < l[k].size
      · have HY := hide (HF.out (by unfold longT; exact decide_eq_true hx))
        have hx' : (60 : Int) < ((l[k].size : Nat) : Int) := by omega
        clear HF HT
        go_wp2_with fail
        go_ret
        rw [show (setT l) = 2 by rw [setT, if_pos (by rw [sizeT, if_neg h0, if_pos (.inr HY.out)]; decide), sizeT, if_neg h0, if_pos (.inr HY.out)]]
        exact ⟨rfl, BW⟩
      · have HY : Hid ((l.take (k + 1)).any longT = false) := by rw [Hid, HT.out, HA.out]; unfold longT; simp; omega
        have hx' : ¬ (60 : Int) < ((l[k].size : Nat) : Int) := by omega
        clear HF HT
        go_wp2_with fail
        go_round
        case rel => exact ⟨k + 1, by omega, by go_num, HY⟩
        case measure => simp [intOf]; omega
    · have hge : ¬ ((k : Nat) : Int) < ((l.length : Nat) : Int) := by omega
      have HY : Hid (l.any longT = false) := by have := HA.out; rw [List.take_of_length_le (by omega)] at this; exact this
      have HOK : Hid (sizeT l.length (l.any longT) = 0) := show sizeT l.length (l.any longT) = 0 by rw [sizeT, if_neg h0, if_neg (by rw [HY.out]; rintro (h | h); omega; cases h)]
      clear HA
      go_wp2_with fail
      refine wp_loop_rounds 1 ?_
      rw [rounds_succ]
      go_wp2_with fail
      refine wp_loop_rounds 1 ?_
      rw [rounds_succ]
      go_wp2_with fail
      go_loopw [8] (fun i wr => ∃ j : Nat, 1 ≤ j ∧ j ≤ l.length ∧ i = .int .i64 j ∧ Below W0.heap.size W0 wr ∧ Hid (riseTo cmpT l j = true)) (fun i _ => l.length + 1 - (intOf i).toNat)
      case atStart => exact ⟨1, Nat.le_refl _, by omega, rfl, Below.refl _ _, rfl⟩
      case round =>
        obtain ⟨j, hj1, hj, rfl, hbr, HA⟩ := hrel
        have r2 := (hbr.cell (p := ⟨w.heap.size, 2, none⟩) zW).trans q2
        have r3 := (hbr.cell (p := ⟨w.heap.size, 3, none⟩) zW).trans q3
        have r4 := (hbr.cell (p := ⟨w.heap.size, 4, none⟩) zW).trans q4
        have BR : Below w.heap.size w wr := BW.trans (hbr.mono BW.size)
        have HB2 : Hid (∀ g o v, w.cell? ⟨g, o, none⟩ = some v → wr.cell? ⟨g, o, none⟩ = some v) := fun g o _ hv => (BR.cell (p := ⟨g, o, none⟩) (World.block_lt_of_cell? _ _ hv)).trans hv
        clear q2 q3 q4 HB
        by_cases hjl : j < l.length
        · have hjl' : ((j : Nat) : Int) < ((l.length : Nat) : Int) := by omega
          obtain ⟨g, o, rfl, hcs⟩ : ∃ g o, a1 = some ⟨g, o, none⟩ ∧ ∀ i (h : i < l.length), w.cell? ⟨g, o + i, none⟩ = some (.string l[i]) := by
            rcases HS.out with h | h
            · subst h; simp at hjl
            · exact h
          obtain ⟨m, rfl⟩ : ∃ m, j = m + 1 := ⟨j - 1, by omega⟩
          have d0 : wr.cell? ⟨g, o + m, none⟩ = some (.string l[m]) := HB2.out _ _ _ (hcs m (by omega))
          have d1 : wr.cell? ⟨g, o + (m + 1), none⟩ = some (.string l[m + 1]) := HB2.out _ _ _ (hcs (m + 1) hjl)
          have hmm : IntKind.i64.wrap ((m : Nat) : Int) = ((m : Nat) : Int) := by rw [IntKind.wrap_i64]; omega
          have hm2 : ((m : Nat) : Int) < ((l.length : Nat) : Int) := by omega
          have hm3 : ((m : Nat) : Int) + 1 < ((l.length : Nat) : Int) := by omega
          have hm4 : (0 : Int) ≤ ((m : Nat) : Int) + 1 := by omega
          have hm5 : (((m : Nat) : Int) + 1).toNat = m + 1 := by omega
          have HT : Hid (riseTo cmpT l (m + 1 + 1) = decide (cmpT l[m] l[m + 1] < 0)) := by
            rw [Hid, riseTo_succ cmpT l (m + 1) (by omega), HA.out, Bool.true_and, show m + 1 - 1 = m by omega, getElem!_pos l m (by omega), getElem!_pos l (m + 1) hjl]
          have HC : Hid (∀ W, Calls Tryz.prog 65 #[.string l[m], .string l[m + 1]] W fun e w' => e = .returned (.int .i64 (cmpT l[m] l[m + 1])) ∧ ∃ q, w' = W.drewN q) := fun W => textOrder_any _ _ W (HZ.out _ (List.getElem_mem _))
          generalize cmpT l[m] l[m + 1] = C at *
          clear hcs HS HB2 HZ
          by_cases hC : C < 0
          · have hC' : ¬ (0 : Int) ≤ C := by omega
            have HY : Hid (riseTo cmpT l (m + 1 + 1) = true) := by rw [Hid, HT.out]; exact decide_eq_true hC
            go_wp2_with fail
            go_quiet ((go_at_call 65; exact Calls.quiet_of (HC.out _)))
            go_wp2_with fail
            go_roundw
            case rel => exact ⟨m + 1 + 1, by omega, by omega, by go_num, below_drewN' hbr _, HY⟩
            case measure => simp [intOf]; omega
          · have hC' : (0 : Int) ≤ C := by omega
            have HY : Hid (riseTo cmpT l l.length = false) := riseTo_false (k := m + 1 + 1) (by rw [HT.out]; exact decide_eq_false hC) (by omega)
            go_wp2_with fail
            go_quiet ((go_at_call 65; exact Calls.quiet_of (HC.out _)))
            go_wp2_with fail
            go_ret
            rw [show setT l = 4 by rw [setT, if_neg (by simp [HOK.out]), if_neg (by rw [HY.out]; decide)]]
            exact ⟨rfl, below_drewN' BR _⟩
        · have hjl' : ¬ ((j : Nat) : Int) < ((l.length : Nat) : Int) := by omega
          have HY : Hid (riseTo cmpT l l.length = true) := by have : j = l.length := by omega
                                                              rw [← this]; exact HA.out
          go_wp2_with fail
          refine wp_loop_rounds 1 ?_
          rw [rounds_succ]
          go_wp2_with fail
          refine wp_loop_rounds 1 ?_
          rw [rounds_succ]
          go_wp2_with fail
          refine wp_loop_rounds 1 ?_
          rw [rounds_succ]
          go_wp2_with fail
          refine wp_loop_rounds 1 ?_
          rw [rounds_succ]
          go_wp2_with fail
          go_ret
          rw [show setT l = 0 by rw [setT, if_neg (by simp [HOK.out]), if_pos HY.out]]
          exact ⟨rfl, BR⟩
end Go.Proofs.YtcidoodaiimhfaaGreat

/- WALKS of the reference's check of hashes. -/
namespace Go.Proofs.YtcidoodaiimhfaaGreat
open Go.RowKit

set_option maxRecDepth 100000 in
set_option maxHeartbeats 4000000 in
theorem refC_4 (a1 a2 a3 : Option Addr) (c1 c2 c3 : Nat) (l : List (ByteArray × ByteArray)) (w : World) (hs : PairsAt w a2 l) (hn : l.length ≤ 281474976710656) (hz : ∀ t ∈ l, t.1.size ≤ maxLen ∧ t.2.size ≤ maxLen) :
    Calls Tryz.prog 13 #[.agg #[.int .i64 4, .string ⟨#[]⟩, .slice a1 0 c1, .slice a2 l.length c2, .slice a3 0 c3]] w fun e w' => e = .returned (.int .i64 (hashT l)) ∧ Below w.heap.size w w' := by
  have HS := hide hs
  clear hs
  have HZ := hide hz
  clear hz
  by_cases h0 : l.length = 0
  · obtain rfl : l = [] := List.eq_nil_of_length_eq_zero h0
    rw [show (hashT ([] : List (ByteArray × ByteArray))) = 5 from rfl]
    clear h0
    go_enter Tryz.func13, Tryz.ntmps13
    go_wp2_with fail
    refine (between15 _ _ (by decide)).mono ?_
    rintro e w1 ⟨rfl, rfl⟩
    go_wp2_with fail
    go_ret
    exact ⟨rfl, (Below.refl _ _).alloc (Nat.le_refl _) _⟩
  have h0b : (((l.length : Nat) : Int) == 0) = false := by rw [beq_eq_false_iff_ne]; omega
  by_cases h24 : 24 < l.length
  · rw [show (hashT l) = 2 by rw [hashT, if_pos (by rw [sizeT, if_neg h0, if_pos (.inl h24)]; decide), sizeT, if_neg h0, if_pos (.inl h24)]]
    have h24' : (24 : Int) < ((l.length : Nat) : Int) := by omega
    go_enter Tryz.func13, Tryz.ntmps13
    go_wp2_with fail
    refine (between15 _ _ (by decide)).mono ?_
    rintro e w1 ⟨rfl, rfl⟩
    go_wp2_with fail
    go_ret
    exact ⟨rfl, (Below.refl _ _).alloc (Nat.le_refl _) _⟩
  have h24' : ¬ (24 : Int) < ((l.length : Nat) : Int) := by omega
  go_enter Tryz.func13, Tryz.ntmps13
  go_wp2_with fail
  refine (between15 _ _ (by decide)).mono ?_
  rintro e w1 ⟨rfl, rfl⟩
  go_wp2_with fail
  generalize hW0 : World.alloc w _ = W0
  have q2 : W0.cell? ⟨w.heap.size, 2, none⟩ = some (.slice a1 0 c1) := by rw [← hW0]; simp [go_sem]
  have q3 : W0.cell? ⟨w.heap.size, 3, none⟩ = some (.slice a2 l.length c2) := by rw [← hW0]; simp [go_sem]
  have q4 : W0.cell? ⟨w.heap.size, 4, none⟩ = some (.slice a3 0 c3) := by rw [← hW0]; simp [go_sem]
  have BW : Below w.heap.size w W0 := by rw [← hW0]; exact (Below.refl _ _).alloc (Nat.le_refl _) _
  have HB : Hid (∀ g o v, w.cell? ⟨g, o, none⟩ = some v → W0.cell? ⟨g, o, none⟩ = some v) := fun g o _ hv => (BW.cell (p := ⟨g, o, none⟩) (World.block_lt_of_cell? _ _ hv)).trans hv
  have zW : w.heap.size < W0.heap.size := by rw [← hW0]; simp
  clear hW0
  refine wp_loop_rounds 1 ?_
  rw [rounds_succ]
  go_wp2_with fail
  go_loop [6] (fun i => ∃ k : Nat, k ≤ l.length ∧ i = .int .i64 k ∧ Hid ((l.take k).any longP = false)) (fun i => l.length - (intOf i).toNat)
  case atStart => exact ⟨0, Nat.zero_le _, rfl, by simp [Hid]⟩
  case round =>
    obtain ⟨k, hk, rfl, HA⟩ := hrel
    by_cases hlt : k < l.length
    · have hlt' : ((k : Nat) : Int) < ((l.length : Nat) : Int) := by omega
      have HT : Hid ((l.take (k + 1)).any longP = ((l.take k).any longP || longP l[k])) := by
        rw [Hid, List.take_succ_eq_append_getElem hlt, List.any_append]
        simp
      have HF : Hid (longP l[k] = true → l.any longP = true) := fun hx => List.any_eq_true.mpr ⟨l[k], List.getElem_mem hlt, hx⟩
      obtain ⟨g, o, rfl, hcs⟩ : ∃ g o, a2 = some ⟨g, o, none⟩ ∧ ∀ i (h : i < l.length), w.cell? ⟨g, o + i * 2, none⟩ = some (.string l[i].1) ∧ w.cell? ⟨g, o + i * 2 + 1, none⟩ = some (.string l[i].2) := by
        rcases HS.out with h | h
        · subst h; simp at hlt
        · exact h
      have d0 : W0.cell? ⟨g, o + k * 2, none⟩ = some (.string l[k].1) := HB.out _ _ _ (hcs k hlt).1
      have d1 : W0.cell? ⟨g, o + k * 2 + 1, none⟩ = some (.string l[k].2) := HB.out _ _ _ (hcs k hlt).2
      clear hcs HS HB HZ
      by_cases hx : 60 < l[k].1.size
      · have HY := hide (HF.out (by simp only [longP, longT, decide_eq_true hx, Bool.true_or]))
        have hx' : (60 : Int) < ((l[k].1.size : Nat) : Int) := by omega
        clear HF HT
        go_wp2_with fail
        go_ret
        rw [show (hashT l) = 2 by rw [hashT, if_pos (by rw [sizeT, if_neg h0, if_pos (.inr HY.out)]; decide), sizeT, if_neg h0, if_pos (.inr HY.out)]]
        exact ⟨rfl, BW⟩
      · have hx' : ¬ (60 : Int) < ((l[k].1.size : Nat) : Int) := by omega
        by_cases hy : 60 < l[k].2.size
        · have HY := hide (HF.out (by simp only [longP, longT, decide_eq_true hy, Bool.or_true]))
          have hy' : (60 : Int) < ((l[k].2.size : Nat) : Int) := by omega
          clear HF HT
          go_wp2_with fail
          go_ret
          rw [show (hashT l) = 2 by rw [hashT, if_pos (by rw [sizeT, if_neg h0, if_pos (.inr HY.out)]; decide), sizeT, if_neg h0, if_pos (.inr HY.out)]]
          exact ⟨rfl, BW⟩
        · have HY : Hid ((l.take (k + 1)).any longP = false) := by rw [Hid, HT.out, HA.out]; simp only [longP, longT, decide_eq_false hx, decide_eq_false hy, Bool.or_self]
          have hy' : ¬ (60 : Int) < ((l[k].2.size : Nat) : Int) := by omega
          clear HF HT
          go_wp2_with fail
          go_round
          case rel => exact ⟨k + 1, by omega, by go_num, HY⟩
          case measure => simp [intOf]; omega
    · have hge : ¬ ((k : Nat) : Int) < ((l.length : Nat) : Int) := by omega
      have HY : Hid (l.any longP = false) := by have := HA.out; rw [List.take_of_length_le (by omega)] at this; exact this
      have HOK : Hid (sizeT l.length (l.any longP) = 0) := show sizeT l.length (l.any longP) = 0 by rw [sizeT, if_neg h0, if_neg (by rw [HY.out]; rintro (h | h); omega; cases h)]
      clear HA
      go_wp2_with fail
      refine wp_loop_rounds 1 ?_
      rw [rounds_succ]
      go_wp2_with fail
      refine wp_loop_rounds 1 ?_
      rw [rounds_succ]
      go_wp2_with fail
      go_loopw [9] (fun i wr => ∃ j : Nat, 1 ≤ j ∧ j ≤ l.length ∧ i = .int .i64 j ∧ Below W0.heap.size W0 wr ∧ Hid (riseTo cmpP l j = true)) (fun i _ => l.length + 1 - (intOf i).toNat)
      case atStart => exact ⟨1, Nat.le_refl _, by omega, rfl, Below.refl _ _, rfl⟩
      case round =>
        obtain ⟨j, hj1, hj, rfl, hbr, HA⟩ := hrel
        have r2 := (hbr.cell (p := ⟨w.heap.size, 2, none⟩) zW).trans q2
        have r3 := (hbr.cell (p := ⟨w.heap.size, 3, none⟩) zW).trans q3
        have r4 := (hbr.cell (p := ⟨w.heap.size, 4, none⟩) zW).trans q4
        have BR : Below w.heap.size w wr := BW.trans (hbr.mono BW.size)
        have HB2 : Hid (∀ g o v, w.cell? ⟨g, o, none⟩ = some v → wr.cell? ⟨g, o, none⟩ = some v) := fun g o _ hv => (BR.cell (p := ⟨g, o, none⟩) (World.block_lt_of_cell? _ _ hv)).trans hv
        clear q2 q3 q4 HB
        by_cases hjl : j < l.length
        · have hjl' : ((j : Nat) : Int) < ((l.length : Nat) : Int) := by omega
          obtain ⟨g, o, rfl, hcs⟩ : ∃ g o, a2 = some ⟨g, o, none⟩ ∧ ∀ i (h : i < l.length), w.cell? ⟨g, o + i * 2, none⟩ = some (.string l[i].1) ∧ w.cell? ⟨g, o + i * 2 + 1, none⟩ = some (.string l[i].2) := by
            rcases HS.out with h | h
            · subst h; simp at hjl
            · exact h
          obtain ⟨m, rfl⟩ : ∃ m, j = m + 1 := ⟨j - 1, by omega⟩
          have d0 : wr.cell? ⟨g, o + m * 2, none⟩ = some (.string l[m].1) := HB2.out _ _ _ (hcs m (by omega)).1
          have d1 : wr.cell? ⟨g, o + (m + 1) * 2, none⟩ = some (.string l[m + 1].1) := HB2.out _ _ _ (hcs (m + 1) hjl).1
          have hmm : IntKind.i64.wrap ((m : Nat) : Int) = ((m : Nat) : Int) := by rw [IntKind.wrap_i64]; omega
          have hm2 : ((m : Nat) : Int) < ((l.length : Nat) : Int) := by omega
          have hm3 : ((m : Nat) : Int) + 1 < ((l.length : Nat) : Int) := by omega
          have hm4 : (0 : Int) ≤ ((m : Nat) : Int) + 1 := by omega
          have hm5 : (((m : Nat) : Int) + 1).toNat = m + 1 := by omega
          have HT : Hid (riseTo cmpP l (m + 1 + 1) = decide (cmpT l[m].1 l[m + 1].1 < 0)) := by
            rw [Hid, riseTo_succ cmpP l (m + 1) (by omega), HA.out, Bool.true_and, show m + 1 - 1 = m by omega, getElem!_pos l m (by omega), getElem!_pos l (m + 1) hjl]
            rfl
          have HC : Hid (∀ W, Calls Tryz.prog 65 #[.string l[m].1, .string l[m + 1].1] W fun e w' => e = .returned (.int .i64 (cmpT l[m].1 l[m + 1].1)) ∧ ∃ q, w' = W.drewN q) := fun W => textOrder_any _ _ W (HZ.out _ (List.getElem_mem _)).1
          generalize cmpT l[m].1 l[m + 1].1 = C at *
          clear hcs HS HB2 HZ
          by_cases hC : C < 0
          · have hC' : ¬ (0 : Int) ≤ C := by omega
            have HY : Hid (riseTo cmpP l (m + 1 + 1) = true) := by rw [Hid, HT.out]; exact decide_eq_true hC
            go_wp2_with fail
            go_quiet ((go_at_call 65; exact Calls.quiet_of (HC.out _)))
            go_wp2_with fail
            go_roundw
            case rel => exact ⟨m + 1 + 1, by omega, by omega, by go_num, below_drewN' hbr _, HY⟩
            case measure => simp [intOf]; omega
          · have hC' : (0 : Int) ≤ C := by omega
            have HY : Hid (riseTo cmpP l l.length = false) := riseTo_false (k := m + 1 + 1) (by rw [HT.out]; exact decide_eq_false hC) (by omega)
            go_wp2_with fail
            go_quiet ((go_at_call 65; exact Calls.quiet_of (HC.out _)))
            go_wp2_with fail
            go_ret
            rw [show hashT l = 4 by rw [hashT, if_neg (by simp [HOK.out]), if_neg (by rw [HY.out]; decide)]]
            exact ⟨rfl, below_drewN' BR _⟩
        · have hjl' : ¬ ((j : Nat) : Int) < ((l.length : Nat) : Int) := by omega
          have HY : Hid (riseTo cmpP l l.length = true) := by have : j = l.length := by omega
                                                              rw [← this]; exact HA.out
          go_wp2_with fail
          refine wp_loop_rounds 1 ?_
          rw [rounds_succ]
          go_wp2_with fail
          refine wp_loop_rounds 1 ?_
          rw [rounds_succ]
          go_wp2_with fail
          refine wp_loop_rounds 1 ?_
          rw [rounds_succ]
          go_wp2_with fail
          go_ret
          rw [show hashT l = 0 by rw [hashT, if_neg (by simp [HOK.out]), if_pos HY.out]]
          exact ⟨rfl, BR⟩
end Go.Proofs.YtcidoodaiimhfaaGreat

/- WALK of the reference's check of scores. -/
namespace Go.Proofs.YtcidoodaiimhfaaGreat
open Go.RowKit

theorem bytes_inj' {a b : ByteArray} (h : a.toList = b.toList) : a = b := by
  rw [ByteArray.toList_eq, ByteArray.toList_eq] at h
  cases a; cases b
  congr 1
  exact Array.toList_inj.1 h
theorem outS_not (x : Int × ByteArray) : (!outS x) = decide (-999999999 ≤ x.1 ∧ x.1 ≤ 999999999) := by
  unfold outS
  rw [Bool.eq_iff_iff]
  simp
theorem twice_of {l : List (Int × ByteArray)} {m k : Nat} (hm : m < k) (hk : k < l.length) (h : l[m].2 = l[k].2) : twiceS l = true := by
  unfold twiceS
  simp only [Bool.not_eq_true', decide_eq_false_iff_not]
  intro hn
  have := List.pairwise_iff_getElem.1 hn m k (by simp; omega) (by simp; omega) hm
  simp only [List.getElem_map] at this
  exact this h
theorem nodup_step {l : List (Int × ByteArray)} {k : Nat} (hk : k < l.length) (h : ((l.map Prod.snd).take k).Nodup) (hj : ∀ j (h : j < k), l[j].2 ≠ l[k].2) : ((l.map Prod.snd).take (k + 1)).Nodup := by
  rw [List.take_succ_eq_append_getElem (by simp; omega), List.nodup_append]
  refine ⟨h, by simp, ?_⟩
  intro a ha b hb
  simp at hb
  subst hb
  obtain ⟨i, hi, rfl⟩ := List.getElem_of_mem ha
  simp at hi ⊢
  exact hj i (by omega)

set_option maxRecDepth 100000 in
set_option maxHeartbeats 4000000 in
theorem refC_5 (a1 a2 a3 : Option Addr) (c1 c2 c3 : Nat) (l : List (Int × ByteArray)) (w : World) (hs : ScoresAt w a3 l) (hn : l.length ≤ 281474976710656) (hz : ∀ t ∈ l, t.2.size ≤ maxLen) :
    Calls Tryz.prog 13 #[.agg #[.int .i64 5, .string ⟨#[]⟩, .slice a1 0 c1, .slice a2 0 c2, .slice a3 l.length c3]] w fun e w' => e = .returned (.int .i64 (scoreT l)) ∧ Below w.heap.size w w' := by
  have HS := hide hs
  clear hs
  have HZ := hide hz
  clear hz
  by_cases h0 : l.length = 0
  · obtain rfl : l = [] := List.eq_nil_of_length_eq_zero h0
    rw [show (scoreT ([] : List (Int × ByteArray))) = 5 from rfl]
    clear h0
    go_enter Tryz.func13, Tryz.ntmps13
    go_wp2_with fail
    refine (between15 _ _ (by decide)).mono ?_
    rintro e w1 ⟨rfl, rfl⟩
    go_wp2_with fail
    go_ret
    exact ⟨rfl, (Below.refl _ _).alloc (Nat.le_refl _) _⟩
  have h0b : (((l.length : Nat) : Int) == 0) = false := by rw [beq_eq_false_iff_ne]; omega
  by_cases h24 : 24 < l.length
  · rw [show (scoreT l) = 2 by rw [scoreT, if_pos (by rw [sizeT, if_neg h0, if_pos (.inl h24)]; decide), sizeT, if_neg h0, if_pos (.inl h24)]]
    have h24' : (24 : Int) < ((l.length : Nat) : Int) := by omega
    go_enter Tryz.func13, Tryz.ntmps13
    go_wp2_with fail
    refine (between15 _ _ (by decide)).mono ?_
    rintro e w1 ⟨rfl, rfl⟩
    go_wp2_with fail
    go_ret
    exact ⟨rfl, (Below.refl _ _).alloc (Nat.le_refl _) _⟩
  have h24' : ¬ (24 : Int) < ((l.length : Nat) : Int) := by omega
  go_enter Tryz.func13, Tryz.ntmps13
  go_wp2_with fail
  refine (between15 _ _ (by decide)).mono ?_
  rintro e w1 ⟨rfl, rfl⟩
  go_wp2_with fail
  generalize hW0 : World.alloc w _ = W0
  have q2 : W0.cell? ⟨w.heap.size, 2, none⟩ = some (.slice a1 0 c1) := by rw [← hW0]; simp [go_sem]
  have q3 : W0.cell? ⟨w.heap.size, 3, none⟩ = some (.slice a2 0 c2) := by rw [← hW0]; simp [go_sem]
  have q4 : W0.cell? ⟨w.heap.size, 4, none⟩ = some (.slice a3 l.length c3) := by rw [← hW0]; simp [go_sem]
  have BW : Below w.heap.size w W0 := by rw [← hW0]; exact (Below.refl _ _).alloc (Nat.le_refl _) _
  have HB : Hid (∀ g o v, w.cell? ⟨g, o, none⟩ = some v → W0.cell? ⟨g, o, none⟩ = some v) := fun g o _ hv => (BW.cell (p := ⟨g, o, none⟩) (World.block_lt_of_cell? _ _ hv)).trans hv
  have zW : w.heap.size < W0.heap.size := by rw [← hW0]; simp
  clear hW0
  refine wp_loop_rounds 1 ?_
  rw [rounds_succ]
  go_wp2_with fail
  refine wp_loop_rounds 1 ?_
  rw [rounds_succ]
  go_wp2_with fail
  go_loop [7] (fun i => ∃ k : Nat, k ≤ l.length ∧ i = .int .i64 k ∧ Hid ((l.take k).any longS = false)) (fun i => l.length - (intOf i).toNat)
  case atStart => exact ⟨0, Nat.zero_le _, rfl, by simp [Hid]⟩
  case round =>
    obtain ⟨k, hk, rfl, HA⟩ := hrel
    by_cases hlt : k < l.length
    · have hlt' : ((k : Nat) : Int) < ((l.length : Nat) : Int) := by omega
      have HT : Hid ((l.take (k + 1)).any longS = ((l.take k).any longS || longS l[k])) := by
        rw [Hid, List.take_succ_eq_append_getElem hlt, List.any_append]
        simp
      have HF : Hid (longS l[k] = true → l.any longS = true) := fun hx => List.any_eq_true.mpr ⟨l[k], List.getElem_mem hlt, hx⟩
      obtain ⟨g, o, rfl, hcs⟩ : ∃ g o, a3 = some ⟨g, o, none⟩ ∧ ∀ i (h : i < l.length), w.cell? ⟨g, o + i * 2, none⟩ = some (.int .i64 l[i].1) ∧ w.cell? ⟨g, o + i * 2 + 1, none⟩ = some (.string l[i].2) := by
        rcases HS.out with h | h
        · subst h; simp at hlt
        · exact h
      have d1 : W0.cell? ⟨g, o + k * 2 + 1, none⟩ = some (.string l[k].2) := HB.out _ _ _ (hcs k hlt).2
      clear hcs HS HB HZ
      by_cases hx : 60 < l[k].2.size
      · have HY := hide (HF.out (by simp only [longS, longT, decide_eq_true hx]))
        have hx' : (60 : Int) < ((l[k].2.size : Nat) : Int) := by omega
        clear HF HT
        go_wp2_with fail
        go_ret
        rw [show (scoreT l) = 2 by rw [scoreT, if_pos (by rw [sizeT, if_neg h0, if_pos (.inr HY.out)]; decide), sizeT, if_neg h0, if_pos (.inr HY.out)]]
        exact ⟨rfl, BW⟩
      · have HY : Hid ((l.take (k + 1)).any longS = false) := by rw [Hid, HT.out, HA.out]; simp only [longS, longT, decide_eq_false hx, Bool.or_self]
        have hx' : ¬ (60 : Int) < ((l[k].2.size : Nat) : Int) := by omega
        clear HF HT
        go_wp2_with fail
        go_round
        case rel => exact ⟨k + 1, by omega, by go_num, HY⟩
        case measure => simp [intOf]; omega
    · have hge : ¬ ((k : Nat) : Int) < ((l.length : Nat) : Int) := by omega
      have HY : Hid (l.any longS = false) := by have := HA.out; rw [List.take_of_length_le (by omega)] at this; exact this
      have HOK : Hid (sizeT l.length (l.any longS) = 0) := show sizeT l.length (l.any longS) = 0 by rw [sizeT, if_neg h0, if_neg (by rw [HY.out]; rintro (h | h); omega; cases h)]
      clear HA
      go_wp2_with fail
      refine wp_loop_rounds 1 ?_
      rw [rounds_succ]
      go_wp2_with fail
      refine wp_loop_rounds 1 ?_
      rw [rounds_succ]
      go_wp2_with fail
      go_loop [10] (fun i => ∃ k : Nat, k ≤ l.length ∧ i = .int .i64 k ∧ Hid ((l.take k).any outS = false)) (fun i => l.length - (intOf i).toNat)
      case atStart => exact ⟨0, Nat.zero_le _, rfl, by simp [Hid]⟩
      case round =>
        obtain ⟨k, hk, rfl, HA⟩ := hrel
        by_cases hlt : k < l.length
        · have hlt' : ((k : Nat) : Int) < ((l.length : Nat) : Int) := by omega
          have HT : Hid ((l.take (k + 1)).any outS = ((l.take k).any outS || outS l[k])) := by
            rw [Hid, List.take_succ_eq_append_getElem hlt, List.any_append]
            simp
          have HF : Hid (outS l[k] = true → l.any outS = true) := fun hx => List.any_eq_true.mpr ⟨l[k], List.getElem_mem hlt, hx⟩
          obtain ⟨g, o, rfl, hcs⟩ : ∃ g o, a3 = some ⟨g, o, none⟩ ∧ ∀ i (h : i < l.length), w.cell? ⟨g, o + i * 2, none⟩ = some (.int .i64 l[i].1) ∧ w.cell? ⟨g, o + i * 2 + 1, none⟩ = some (.string l[i].2) := by
            rcases HS.out with h | h
            · subst h; simp at hlt
            · exact h
          have d0 : W0.cell? ⟨g, o + k * 2, none⟩ = some (.int .i64 l[k].1) := HB.out _ _ _ (hcs k hlt).1
          have HI : Hid (∀ W, Calls Tryz.prog 66 #[.int .i64 l[k].1] W fun e w' => e = .returned (.bool (!outS l[k])) ∧ w' = W) := fun W => by
            rw [outS_not]
            exact isInt_any _ W
          clear hcs HS HB HZ
          cases hx : outS l[k] with
          | true =>
            have HY := hide (HF.out hx)
            rw [hx] at HI
            clear HF HT hx
            go_wp2_with fail
            refine (HI.out _).mono ?_
            rintro e w1 ⟨rfl, rfl⟩
            go_wp2_with fail
            go_ret
            rw [show scoreT l = 3 by rw [scoreT, if_neg (by simp [HOK.out]), if_pos HY.out]]
            exact ⟨rfl, BW⟩
          | false =>
            have HY : Hid ((l.take (k + 1)).any outS = false) := by rw [Hid, HT.out, HA.out, hx]; rfl
            rw [hx] at HI
            clear HF HT hx
            go_wp2_with fail
            refine (HI.out _).mono ?_
            rintro e w1 ⟨rfl, rfl⟩
            go_wp2_with fail
            go_round
            case rel => exact ⟨k + 1, by omega, by go_num, HY⟩
            case measure => simp [intOf]; omega
        · have hge : ¬ ((k : Nat) : Int) < ((l.length : Nat) : Int) := by omega
          have HY : Hid (l.any outS = false) := by have := HA.out; rw [List.take_of_length_le (by omega)] at this; exact this
          have HIN : Hid (l.any outS = false) := HY
          clear HA HY
          go_wp2_with fail
          go_loopw [11] (fun i wr => ∃ k : Nat, k ≤ l.length ∧ i = .int .i64 k ∧ Below W0.heap.size W0 wr ∧ Hid (((l.map Prod.snd).take k).Nodup)) (fun i _ => l.length - (intOf i).toNat)
          case atStart => exact ⟨0, Nat.zero_le _, rfl, Below.refl _ _, by simp [Hid]⟩
          case round =>
            obtain ⟨k, hk, rfl, hbo, HN⟩ := hrel
            have r4 := (hbo.cell (p := ⟨w.heap.size, 4, none⟩) zW).trans q4
            have BO : Below w.heap.size w wr := BW.trans (hbo.mono BW.size)
            have HB3 : Hid (∀ g o v, w.cell? ⟨g, o, none⟩ = some v → wr.cell? ⟨g, o, none⟩ = some v) := fun g o _ hv => (BO.cell (p := ⟨g, o, none⟩) (World.block_lt_of_cell? _ _ hv)).trans hv
            by_cases hlt : k < l.length
            · have hlt' : ((k : Nat) : Int) < ((l.length : Nat) : Int) := by omega
              go_wp2_with fail
              go_loopw [12] (fun i wi => ∃ m : Nat, m ≤ k ∧ i = .int .i64 m ∧ Below W0.heap.size W0 wi ∧ Hid (∀ j (h : j < m) (h2 : j < l.length), l[j].2 ≠ l[k].2)) (fun i _ => k - (intOf i).toNat)
              case atStart => exact ⟨0, Nat.zero_le _, rfl, hbo, fun j h _ => absurd h (by omega)⟩
              case round =>
                clear r4
                obtain ⟨m, hm, rfl, hbi, HM⟩ := hrel
                have r4 := (hbi.cell (p := ⟨w.heap.size, 4, none⟩) zW).trans q4
                have BI : Below w.heap.size w wr := BW.trans (hbi.mono BW.size)
                have HB4 : Hid (∀ g o v, w.cell? ⟨g, o, none⟩ = some v → wr.cell? ⟨g, o, none⟩ = some v) := fun g o _ hv => (BI.cell (p := ⟨g, o, none⟩) (World.block_lt_of_cell? _ _ hv)).trans hv
                by_cases hmk : m < k
                · have hmk' : ((m : Nat) : Int) < ((k : Nat) : Int) := by omega
                  have hml' : ((m : Nat) : Int) < ((l.length : Nat) : Int) := by omega
                  obtain ⟨g, o, rfl, hcs⟩ : ∃ g o, a3 = some ⟨g, o, none⟩ ∧ ∀ i (h : i < l.length), w.cell? ⟨g, o + i * 2, none⟩ = some (.int .i64 l[i].1) ∧ w.cell? ⟨g, o + i * 2 + 1, none⟩ = some (.string l[i].2) := by
                    rcases HS.out with h | h
                    · subst h; simp at hlt
                    · exact h
                  have d1 : wr.cell? ⟨g, o + m * 2 + 1, none⟩ = some (.string l[m].2) := HB4.out _ _ _ (hcs m (by omega)).2
                  have e1 : wr.cell? ⟨g, o + k * 2 + 1, none⟩ = some (.string l[k].2) := HB4.out _ _ _ (hcs k hlt).2
                  have HX : Hid (l[m].2 = l[k].2 → twiceS l = true) := fun h => twice_of hmk hlt h
                  have HX2 : Hid (l[m].2 ≠ l[k].2 → ∀ j (h : j < m + 1) (h2 : j < l.length), l[j].2 ≠ l[k].2) := fun h j hj h2 => by
                    by_cases e : j = m
                    · subst e; exact h
                    · exact HM.out j (by omega) h2
                  clear hcs HS HB HB3 HB4 HZ HM
                  generalize l[m].2 = X at *
                  generalize hYY : l[k].2 = Y at *
                  by_cases hXY : X = Y
                  · subst hXY
                    have HY := hide (HX.out rfl)
                    clear HX HX2 hYY
                    go_wp2_with fail
                    go_quiet (fail)
                    go_wp2_with fail
                    go_ret
                    rw [show scoreT l = 6 by rw [scoreT, if_neg (by simp [HOK.out]), if_neg (by simp [HIN.out]), if_pos HY.out]]
                    exact ⟨rfl, below_drewN' BI _⟩
                  · have hne : (X.toList == Y.toList) = false := by rw [beq_eq_false_iff_ne]; exact fun e => hXY (bytes_inj' e)
                    have HY := hide (HX2.out hXY)
                    clear HX HX2
                    go_wp2_with fail
                    go_quiet (fail)
                    go_wp2_with fail
                    go_roundw
                    case rel => exact ⟨m + 1, by omega, by go_num, below_drewN' hbi _, HY.out⟩
                    case measure => simp [intOf]; omega
                · have hmk' : ¬ ((m : Nat) : Int) < ((k : Nat) : Int) := by omega
                  have HNN : Hid (((l.map Prod.snd).take (k + 1)).Nodup) := nodup_step hlt HN.out (fun j hj => HM.out j (by omega) (by omega))
                  go_wp2_with fail
                  go_roundw
                  case rel => exact ⟨k + 1, by omega, by go_num, hbi, HNN⟩
                  case measure => simp [intOf]; omega
            · have hge : ¬ ((k : Nat) : Int) < ((l.length : Nat) : Int) := by omega
              have HTW : Hid (twiceS l = false) := by
                have h1 := HN.out
                rw [List.take_of_length_le (by simp; omega)] at h1
                simp [Hid, twiceS, h1]
              clear HN HB3
              go_wp2_with fail
              go_loopw [13] (fun i wr => ∃ j : Nat, 1 ≤ j ∧ j ≤ l.length ∧ i = .int .i64 j ∧ Below W0.heap.size W0 wr ∧ Hid (riseTo cmpS l j = true)) (fun i _ => l.length + 1 - (intOf i).toNat)
              case atStart => exact ⟨1, Nat.le_refl _, by omega, rfl, hbo, rfl⟩
              case round =>
                obtain ⟨j, hj1, hj, rfl, hbr, HA⟩ := hrel
                have r4 := (hbr.cell (p := ⟨w.heap.size, 4, none⟩) zW).trans q4
                have BR : Below w.heap.size w wr := BW.trans (hbr.mono BW.size)
                have HB2 : Hid (∀ g o v, w.cell? ⟨g, o, none⟩ = some v → wr.cell? ⟨g, o, none⟩ = some v) := fun g o _ hv => (BR.cell (p := ⟨g, o, none⟩) (World.block_lt_of_cell? _ _ hv)).trans hv
                have zr : w.heap.size < wr.heap.size := Nat.lt_of_lt_of_le zW hbr.size
                by_cases hjl : j < l.length
                · have hjl' : ((j : Nat) : Int) < ((l.length : Nat) : Int) := by omega
                  obtain ⟨g, o, rfl, hcs⟩ : ∃ g o, a3 = some ⟨g, o, none⟩ ∧ ∀ i (h : i < l.length), w.cell? ⟨g, o + i * 2, none⟩ = some (.int .i64 l[i].1) ∧ w.cell? ⟨g, o + i * 2 + 1, none⟩ = some (.string l[i].2) := by
                    rcases HS.out with h | h
                    · subst h; simp at hjl
                    · exact h
                  obtain ⟨m, rfl⟩ : ∃ m, j = m + 1 := ⟨j - 1, by omega⟩
                  have d0 : wr.cell? ⟨g, o + m * 2, none⟩ = some (.int .i64 l[m].1) := HB2.out _ _ _ (hcs m (by omega)).1
                  have d1 : wr.cell? ⟨g, o + m * 2 + 1, none⟩ = some (.string l[m].2) := HB2.out _ _ _ (hcs m (by omega)).2
                  have e0 : wr.cell? ⟨g, o + (m + 1) * 2, none⟩ = some (.int .i64 l[m + 1].1) := HB2.out _ _ _ (hcs (m + 1) hjl).1
                  have e1 : wr.cell? ⟨g, o + (m + 1) * 2 + 1, none⟩ = some (.string l[m + 1].2) := HB2.out _ _ _ (hcs (m + 1) hjl).2
                  have hgl : g < wr.heap.size := World.block_lt_of_cell? _ _ d0
                  have hmm : IntKind.i64.wrap ((m : Nat) : Int) = ((m : Nat) : Int) := by rw [IntKind.wrap_i64]; omega
                  have hm2 : ((m : Nat) : Int) < ((l.length : Nat) : Int) := by omega
                  have hm3 : ((m : Nat) : Int) + 1 < ((l.length : Nat) : Int) := by omega
                  have hm4 : (0 : Int) ≤ ((m : Nat) : Int) + 1 := by omega
                  have hm5 : (((m : Nat) : Int) + 1).toNat = m + 1 := by omega
                  have HT : Hid (riseTo cmpS l (m + 1 + 1) = decide (cmpS l[m] l[m + 1] < 0)) := by
                    rw [Hid, riseTo_succ cmpS l (m + 1) (by omega), HA.out, Bool.true_and, show m + 1 - 1 = m by omega, getElem!_pos l m (by omega), getElem!_pos l (m + 1) hjl]
                  have HC : Hid (∀ W, Calls Tryz.prog 67 #[.agg #[.int .i64 l[m].1, .string l[m].2], .agg #[.int .i64 l[m + 1].1, .string l[m + 1].2]] W fun e w' => e = .returned (.bool (decide (cmpS l[m] l[m + 1] < 0))) ∧ Below W.heap.size W w') := fun W => scoreLess_any _ _ W (HZ.out _ (List.getElem_mem _))
                  generalize decide (cmpS l[m] l[m + 1] < 0) = C at *
                  clear hcs HS HB2 HZ
                  generalize l[m].1 = X1 at *
                  generalize l[m].2 = X2 at *
                  generalize l[m + 1].1 = Y1 at *
                  generalize l[m + 1].2 = Y2 at *
                  cases C with
                  | true =>
                    have HY : Hid (riseTo cmpS l (m + 1 + 1) = true) := HT.out
                    go_wp2_with fail
                    go_region_held3 (fun w' => w'.cell? ⟨w.heap.size, 4, none⟩ = some (.slice (some ⟨g, o, none⟩) l.length c3) ∧ w'.cell? ⟨g, o + m * 2, none⟩ = some (.int .i64 X1) ∧ w'.cell? ⟨g, o + m * 2 + 1, none⟩ = some (.string X2) ∧ w'.cell? ⟨g, o + (m + 1) * 2, none⟩ = some (.int .i64 Y1) ∧ w'.cell? ⟨g, o + (m + 1) * 2 + 1, none⟩ = some (.string Y2)) (go_keep)
                      ((go_at_call 67; refine (HC.out _).mono ?_; rintro e w2 ⟨rfl, hb2⟩; have s4 := (hb2.cell (p := ⟨w.heap.size, 4, none⟩) zr).trans r4; have s0 := (hb2.cell (p := ⟨g, o + m * 2, none⟩) hgl).trans d0; have s1 := (hb2.cell (p := ⟨g, o + m * 2 + 1, none⟩) hgl).trans d1; have t0 := (hb2.cell (p := ⟨g, o + (m + 1) * 2, none⟩) hgl).trans e0; have t1 := (hb2.cell (p := ⟨g, o + (m + 1) * 2 + 1, none⟩) hgl).trans e1))
                    all_goals
                      go_wp2_with fail
                      go_roundw
                      case rel => exact ⟨m + 1 + 1, by omega, by omega, by go_num, hbr.drew.trans (hb2.mono hbr.size), HY⟩
                      case measure => simp [intOf]; omega
                  | false =>
                    have HY : Hid (riseTo cmpS l l.length = false) := riseTo_false (k := m + 1 + 1) HT.out (by omega)
                    go_wp2_with fail
                    go_region_held3 (fun w' => w'.cell? ⟨w.heap.size, 4, none⟩ = some (.slice (some ⟨g, o, none⟩) l.length c3) ∧ w'.cell? ⟨g, o + m * 2, none⟩ = some (.int .i64 X1) ∧ w'.cell? ⟨g, o + m * 2 + 1, none⟩ = some (.string X2) ∧ w'.cell? ⟨g, o + (m + 1) * 2, none⟩ = some (.int .i64 Y1) ∧ w'.cell? ⟨g, o + (m + 1) * 2 + 1, none⟩ = some (.string Y2)) (go_keep)
                      ((go_at_call 67; refine (HC.out _).mono ?_; rintro e w2 ⟨rfl, hb2⟩; have s4 := (hb2.cell (p := ⟨w.heap.size, 4, none⟩) zr).trans r4; have s0 := (hb2.cell (p := ⟨g, o + m * 2, none⟩) hgl).trans d0; have s1 := (hb2.cell (p := ⟨g, o + m * 2 + 1, none⟩) hgl).trans d1; have t0 := (hb2.cell (p := ⟨g, o + (m + 1) * 2, none⟩) hgl).trans e0; have t1 := (hb2.cell (p := ⟨g, o + (m + 1) * 2 + 1, none⟩) hgl).trans e1))
                    all_goals
                      go_wp2_with fail
                      go_ret
                      rw [show scoreT l = 4 by rw [scoreT, if_neg (by simp [HOK.out]), if_neg (by simp [HIN.out]), if_neg (by simp [HTW.out]), if_neg (by rw [HY.out]; decide)]]
                      exact ⟨rfl, BR.drew.trans (hb2.mono BR.size)⟩
                · have hjl' : ¬ ((j : Nat) : Int) < ((l.length : Nat) : Int) := by omega
                  have HY : Hid (riseTo cmpS l l.length = true) := by have : j = l.length := by omega
                                                                      rw [← this]; exact HA.out
                  go_wp2_with fail
                  go_ret
                  rw [show scoreT l = 0 by rw [scoreT, if_neg (by simp [HOK.out]), if_neg (by simp [HIN.out]), if_neg (by simp [HTW.out]), if_pos HY.out]]
                  exact ⟨rfl, BR⟩
end Go.Proofs.YtcidoodaiimhfaaGreat

/- The reference's check of an item, whole. -/
namespace Go.Proofs.YtcidoodaiimhfaaGreat
open Go.RowKit

theorem empty_bytes {t : ByteArray} (h : t.toList = []) : t = ⟨#[]⟩ := bytes_inj' (by rw [h, ByteArray.toList_eq])
theorem refCheck_any (v : Value) (x : Itm) (w : World) (h : ItemIs w v x) :
    Calls Tryz.prog 13 #[v] w fun e w' => e = .returned (.int .i64 (chkI x)) ∧ Below w.heap.size w w' := by
  obtain ⟨⟨a1, c1, a2, c2, a3, c3, rfl, h1, h2, h3⟩, tz, lz, pz, sz, ll, pl, sl⟩ := h
  obtain ⟨k, t, l, p, s⟩ := x
  simp only at *
  by_cases h0 : k < 1 ∨ 5 < k
  · rw [show chkI ⟨k, t, l, p, s⟩ = 7 by rw [chkI, if_pos h0]]
    exact refC_bad k t a1 a2 a3 c1 c2 c3 _ _ _ w h0
  cases ho : otherI ⟨k, t, l, p, s⟩ with
  | true =>
    rw [show chkI ⟨k, t, l, p, s⟩ = 1 by rw [chkI, if_neg h0, if_pos ho]]
    have ho' := of_decide_eq_true ho
    simp only at ho'
    have hkk : k = 1 ∨ k = 2 ∨ k = 3 ∨ k = 4 ∨ k = 5 := by omega
    rcases hkk with rfl | rfl | rfl | rfl | rfl
    · by_cases hl : 0 < l.length
      · exact refC_o1l t _ _ _ a1 a2 a3 c1 c2 c3 w hl
      · obtain rfl : l = [] := List.eq_nil_of_length_eq_zero (by omega)
        by_cases hp : 0 < p.length
        · exact refC_o1p t _ _ a1 a2 a3 c1 c2 c3 w hp
        · obtain rfl : p = [] := List.eq_nil_of_length_eq_zero (by omega)
          have hs : 0 < s.length := by simpa using ho'
          exact refC_o1s t _ a1 a2 a3 c1 c2 c3 w hs
    · by_cases ht : t.toList = []
      · obtain rfl := empty_bytes ht
        by_cases hp : 0 < p.length
        · exact refC_o2p _ _ _ a1 a2 a3 c1 c2 c3 w hp
        · obtain rfl : p = [] := List.eq_nil_of_length_eq_zero (by omega)
          have hs : 0 < s.length := by simpa using ho'
          exact refC_o2s _ _ a1 a2 a3 c1 c2 c3 w hs
      · exact refC_o2t t _ _ _ a1 a2 a3 c1 c2 c3 w ht
    · by_cases ht : t.toList = []
      · obtain rfl := empty_bytes ht
        by_cases hp : 0 < p.length
        · exact refC_o3p _ _ _ a1 a2 a3 c1 c2 c3 w hp
        · obtain rfl : p = [] := List.eq_nil_of_length_eq_zero (by omega)
          have hs : 0 < s.length := by simpa using ho'
          exact refC_o3s _ _ a1 a2 a3 c1 c2 c3 w hs
      · exact refC_o3t t _ _ _ a1 a2 a3 c1 c2 c3 w ht
    · by_cases ht : t.toList = []
      · obtain rfl := empty_bytes ht
        by_cases hl : 0 < l.length
        · exact refC_o4l _ _ _ a1 a2 a3 c1 c2 c3 w hl
        · obtain rfl : l = [] := List.eq_nil_of_length_eq_zero (by omega)
          have hs : 0 < s.length := by simpa using ho'
          exact refC_o4s _ _ a1 a2 a3 c1 c2 c3 w hs
      · exact refC_o4t t _ _ _ a1 a2 a3 c1 c2 c3 w ht
    · by_cases ht : t.toList = []
      · obtain rfl := empty_bytes ht
        by_cases hl : 0 < l.length
        · exact refC_o5l _ _ _ a1 a2 a3 c1 c2 c3 w hl
        · obtain rfl : l = [] := List.eq_nil_of_length_eq_zero (by omega)
          have hp : 0 < p.length := by simpa using ho'
          exact refC_o5p _ _ a1 a2 a3 c1 c2 c3 w hp
      · exact refC_o5t t _ _ _ a1 a2 a3 c1 c2 c3 w ht
  | false =>
    have hp : chkI ⟨k, t, l, p, s⟩ = if k = 2 then sizeT l.length (l.any longT) else if k = 3 then setT l else if k = 4 then hashT p else if k = 5 then scoreT s else if longT t = true then 2 else 0 := by
      rw [chkI, if_neg h0, if_neg (by rw [ho]; decide)]
    rw [hp]
    have ho' := of_decide_eq_false ho
    simp only at ho'
    have hkk : k = 1 ∨ k = 2 ∨ k = 3 ∨ k = 4 ∨ k = 5 := by omega
    rcases hkk with rfl | rfl | rfl | rfl | rfl
    · obtain rfl : l = [] := List.eq_nil_of_length_eq_zero (by by_cases hx : 0 < l.length; exact absurd (Or.inr (Or.inl ⟨by decide, hx⟩)) ho'; omega)
      obtain rfl : p = [] := List.eq_nil_of_length_eq_zero (by by_cases hx : 0 < p.length; exact absurd (Or.inr (Or.inr (Or.inl ⟨by decide, hx⟩))) ho'; omega)
      obtain rfl : s = [] := List.eq_nil_of_length_eq_zero (by by_cases hx : 0 < s.length; exact absurd (Or.inr (Or.inr (Or.inr ⟨by decide, hx⟩))) ho'; omega)
      rw [if_neg (by decide), if_neg (by decide), if_neg (by decide), if_neg (by decide)]
      exact refC_1 t a1 a2 a3 c1 c2 c3 w
    · obtain rfl := empty_bytes (t := t) (by by_cases ht : t.toList = []; exact ht; exact absurd (Or.inl ⟨by decide, ht⟩) ho')
      obtain rfl : p = [] := List.eq_nil_of_length_eq_zero (by by_cases hx : 0 < p.length; exact absurd (Or.inr (Or.inr (Or.inl ⟨by decide, hx⟩))) ho'; omega)
      obtain rfl : s = [] := List.eq_nil_of_length_eq_zero (by by_cases hx : 0 < s.length; exact absurd (Or.inr (Or.inr (Or.inr ⟨by decide, hx⟩))) ho'; omega)
      rw [if_pos rfl]
      exact refC_2 a1 a2 a3 c1 c2 c3 l w h1 ll
    · obtain rfl := empty_bytes (t := t) (by by_cases ht : t.toList = []; exact ht; exact absurd (Or.inl ⟨by decide, ht⟩) ho')
      obtain rfl : p = [] := List.eq_nil_of_length_eq_zero (by by_cases hx : 0 < p.length; exact absurd (Or.inr (Or.inr (Or.inl ⟨by decide, hx⟩))) ho'; omega)
      obtain rfl : s = [] := List.eq_nil_of_length_eq_zero (by by_cases hx : 0 < s.length; exact absurd (Or.inr (Or.inr (Or.inr ⟨by decide, hx⟩))) ho'; omega)
      rw [if_neg (by decide), if_pos rfl]
      exact refC_3 a1 a2 a3 c1 c2 c3 l w h1 ll lz
    · obtain rfl := empty_bytes (t := t) (by by_cases ht : t.toList = []; exact ht; exact absurd (Or.inl ⟨by decide, ht⟩) ho')
      obtain rfl : l = [] := List.eq_nil_of_length_eq_zero (by by_cases hx : 0 < l.length; exact absurd (Or.inr (Or.inl ⟨by decide, hx⟩)) ho'; omega)
      obtain rfl : s = [] := List.eq_nil_of_length_eq_zero (by by_cases hx : 0 < s.length; exact absurd (Or.inr (Or.inr (Or.inr ⟨by decide, hx⟩))) ho'; omega)
      rw [if_neg (by decide), if_neg (by decide), if_pos rfl]
      exact refC_4 a1 a2 a3 c1 c2 c3 p w h2 pl pz
    · obtain rfl := empty_bytes (t := t) (by by_cases ht : t.toList = []; exact ht; exact absurd (Or.inl ⟨by decide, ht⟩) ho')
      obtain rfl : l = [] := List.eq_nil_of_length_eq_zero (by by_cases hx : 0 < l.length; exact absurd (Or.inr (Or.inl ⟨by decide, hx⟩)) ho'; omega)
      obtain rfl : p = [] := List.eq_nil_of_length_eq_zero (by by_cases hx : 0 < p.length; exact absurd (Or.inr (Or.inr (Or.inl ⟨by decide, hx⟩))) ho'; omega)
      rw [if_neg (by decide), if_neg (by decide), if_neg (by decide), if_pos rfl]
      exact refC_5 a1 a2 a3 c1 c2 c3 s w h3 sl sz
end Go.Proofs.YtcidoodaiimhfaaGreat

/- WALKS of the reference: IsGone, CheckSpace, CheckAt. -/
namespace Go.Proofs.YtcidoodaiimhfaaGreat
open Go.RowKit

set_option maxRecDepth 100000 in
theorem refGone_any (v : Value) (x : Ent) (now : Int) (w : World) (h : EntIs w v x) : Calls Tryz.prog 69 #[v, .int .i64 now] w fun e w' => e = .returned (.bool (goneE x now)) ∧ Below w.heap.size w w' := by
  obtain ⟨a1, c1, a2, c2, a3, c3, rfl, -⟩ := h
  by_cases h0 : x.til = 0
  · have hv : goneE x now = false := by simp [goneE, h0]
    rw [hv, h0]
    clear hv h0
    go_enter Tryz.func69, Tryz.ntmps69
    go_wp2_with fail
    go_ret
    exact ⟨rfl, (Below.refl _ w).alloc (Nat.le_refl _) _⟩
  · have hv : goneE x now = decide (x.til ≤ now) := by simp [goneE, h0]
    rw [hv]
    clear hv
    generalize x.til = T at *
    go_enter Tryz.func69, Tryz.ntmps69
    go_wp2_with fail
    go_ret
    refine ⟨?_, (Below.refl _ w).alloc (Nat.le_refl _) _⟩
    simp [h0]
theorem chkE_long {x : Ent} (h : 60 < x.key.size) : chkE x = 2 := by unfold chkE; rw [if_pos (by simpa [longT] using h)]
theorem chkE_item {x : Ent} (h : ¬ 60 < x.key.size) (h2 : chkI x.item ≠ 0) : chkE x = chkI x.item := by unfold chkE; rw [if_neg (by simpa [longT] using h), if_pos h2]
theorem chkE_til {x : Ent} (h : ¬ 60 < x.key.size) (h2 : chkI x.item = 0) (h3 : timeT x.til = false) : chkE x = 3 := by unfold chkE; rw [if_neg (by simpa [longT] using h), if_neg (by simp [h2]), if_neg (by simp [h3])]
theorem chkE_zero {x : Ent} (h : ¬ 60 < x.key.size) (h2 : chkI x.item = 0) (h3 : timeT x.til = true) : chkE x = 0 := by unfold chkE; rw [if_neg (by simpa [longT] using h), if_neg (by simp [h2]), if_pos h3]
set_option maxRecDepth 100000 in
set_option maxHeartbeats 8000000 in
theorem refSpace_any (a : Option Addr) (c : Nat) (s : List Ent) (w : World) (hs : SpaceAt w a s) (hn : s.length ≤ 281474976710656) :
    Calls Tryz.prog 21 #[.slice a s.length c] w fun e w' => e = .returned (.int .i64 (chkSp s)) ∧ Below w.heap.size w w' := by
  have HS := hide hs
  clear hs
  by_cases h16 : 16 < s.length
  · have h16' : (16 : Int) < ((s.length : Nat) : Int) := by omega
    have hE : chkSp s = 2 := by rw [chkSp, if_pos h16]
    rw [hE]
    clear hE HS
    go_enter Tryz.func21, Tryz.ntmps21
    go_wp2_with fail
    go_ret
    exact ⟨rfl, Below.refl _ _⟩
  · have h16' : ¬ (16 : Int) < ((s.length : Nat) : Int) := by omega
    obtain ⟨R, hR⟩ : ∃ R, chkSp s = R := ⟨_, rfl⟩
    have HR : Hid (chkFrom none s = R) := by rw [Hid, ← hR, chkSp, if_neg h16]
    rw [hR]
    clear hR
    go_enter Tryz.func21, Tryz.ntmps21
    go_wp2_with fail
    go_loopw [3] (fun iv wr => ∃ q : Nat, q ≤ s.length ∧ iv = .int .i64 q ∧ Hid (chkFrom (aheadE s q) (s.drop q) = R) ∧ Hid (∀ m, m + 1 = q → ∀ h : m < s.length, s[m].key.size ≤ 60) ∧ Below w.heap.size w wr) (fun iv _ => s.length - (intOf iv).toNat)
    case atStart => exact ⟨0, Nat.zero_le _, rfl, HR.out, fun m hm => by omega, Below.refl _ _⟩
    case round =>
      obtain ⟨q, hq, rfl, HQ, HK, hbr⟩ := hrel
      have hsz := hbr.size
      by_cases hlt : q < s.length
      · have hlt' : ((q : Nat) : Int) < ((s.length : Nat) : Int) := by omega
        obtain ⟨g, o, rfl, hcs⟩ : ∃ g o, a = some ⟨g, o, none⟩ ∧ ∀ i (h : i < s.length), EntAt w g (o + i * 7) s[i] := by
          rcases HS.out with h | h
          · rw [h] at hlt; simp at hlt
          · exact h
        obtain ⟨a1, c1, a2, c2, a3, c3, ⟨d0, d1, d2, d3, d4, d5, d6⟩, hi⟩ := (hcs q hlt).below hbr
        have HST : Hid (R = if chkE s[q] ≠ 0 then chkE s[q] else if behindE (aheadE s q) s[q] = true then chkFrom (aheadE s (q + 1)) (s.drop (q + 1)) else 4) := by rw [Hid, ← HQ.out, chkFrom_at s q hlt]
        have HAH : Hid (∀ m, m + 1 = q → ∃ hm : m < s.length, wr.cell? ⟨g, o + m * 7, none⟩ = some (.string s[m].key) ∧ aheadE s q = some s[m].key ∧ s[m].key.size ≤ 60) := fun m hm => ⟨by omega, by
          obtain ⟨_, _, _, _, _, _, ⟨k0, -⟩, -⟩ := (hcs m (by omega)).below hbr
          exact k0, by
          subst hm
          rw [aheadE, if_neg (by omega)]
          simp [show m < s.length by omega], HK.out m hm (by omega)⟩
        have HNK : Hid (s[q].key.size ≤ 60 → ∀ m, m + 1 = q + 1 → ∀ h : m < s.length, s[m].key.size ≤ 60) := fun h m hm hl => by
          have : m = q := by omega
          subst this
          exact h
        have hd0l : g < wr.heap.size := World.block_lt_of_cell? _ _ d0
        clear hcs HS HR HQ HK
        generalize s[q] = X at *
        have HCK := hide (refCheck_any _ X.item wr hi)
        have HTT : Hid (∀ W, Calls Tryz.prog 64 #[.int .i64 X.til, .int .i64 0, .int .i64 1000000] W fun e w' => e = .returned (.bool (timeT X.til)) ∧ w' = W) := fun W => between_any _ _ _ W
        clear hi
        by_cases hz : 60 < X.key.size
        · have hz' : (60 : Int) < ((X.key.size : Nat) : Int) := by omega
          have HW2 : Hid (R = 2) := by rw [Hid, HST.out, chkE_long hz]; rfl
          clear HST HAH HCK HTT HNK
          go_wp2_with fail
          go_ret
          exact ⟨by simp [HW2.out], hbr⟩
        · have hz' : ¬ (60 : Int) < ((X.key.size : Nat) : Int) := by omega
          have HN2 := hide (HNK.out (by omega))
          by_cases hc : chkI X.item = 0
          · rw [hc] at HCK
            cases ht : timeT X.til with
            | false =>
              rw [ht] at HTT
              have HW2 : Hid (R = 3) := by rw [Hid, HST.out, chkE_til hz hc ht]; rfl
              clear HST HAH ht hc HNK HN2
              go_wp2_with fail
              refine HCK.out.mono ?_
              rintro e w5 ⟨rfl, hb5⟩
              have C5 := hbr.trans (hb5.mono hsz)
              have d6' := (hb5.cell (p := ⟨g, o + q * 7 + 6, none⟩) hd0l).trans d6
              clear hb5 HCK
              go_wp2_with fail
              refine (HTT.out w5).mono ?_
              rintro e w6 ⟨rfl, rfl⟩
              go_wp2_with fail
              go_ret
              exact ⟨by simp [HW2.out], C5⟩
            | true =>
              rw [ht] at HTT
              have hce := chkE_zero hz hc ht
              rw [if_neg (by simp [hce])] at HST
              clear hce ht hc HNK
              go_wp2_with fail
              refine HCK.out.mono ?_
              rintro e w5 ⟨rfl, hb5⟩
              have C5 := hbr.trans (hb5.mono hsz)
              have d6' := (hb5.cell (p := ⟨g, o + q * 7 + 6, none⟩) hd0l).trans d6
              have d0' := (hb5.cell (p := ⟨g, o + q * 7, none⟩) hd0l).trans d0
              by_cases hq0 : q = 0
              · subst hq0
                have HW2 : Hid (chkFrom (aheadE s (0 + 1)) (s.drop (0 + 1)) = R) := by
                  have := HST.out
                  rw [show aheadE s 0 = none from rfl, if_pos (show behindE none X = true from rfl)] at this
                  exact this.symm
                clear HST HAH HCK hb5
                go_wp2_with fail
                refine (HTT.out w5).mono ?_
                rintro e w6 ⟨rfl, rfl⟩
                go_wp2_with fail
                go_quiet (fail)
                go_wp2_with fail
                go_roundw
                case rel => exact ⟨0 + 1, by omega, by go_num, HW2.out, HN2.out, below_drewN' C5 _⟩
                case measure => simp [intOf]; omega
              · obtain ⟨m, rfl⟩ : ∃ m, q = m + 1 := ⟨q - 1, by omega⟩
                obtain ⟨hm, e0, e1, hzm⟩ := HAH.out m rfl
                have f0 := (hb5.cell (p := ⟨g, o + m * 7, none⟩) (World.block_lt_of_cell? _ _ e0)).trans e0
                have hm1 : ((m : Nat) : Int) < ((s.length : Nat) : Int) := by omega
                have hm0 : (0 : Int) < ((m : Nat) : Int) + 1 := by omega
                rw [e1] at HST
                clear HAH e0 e1 HCK hb5
                generalize s[m].key = Z at *
                have HTO : Hid (∀ W, Calls Tryz.prog 65 #[.string Z, .string X.key] W fun e w' => e = .returned (.int .i64 (cmpT Z X.key)) ∧ ∃ k, w' = W.drewN k) := fun W => textOrder_any Z X.key W (Nat.le_trans hzm (by unfold maxLen; omega))
                have hlt2 := cmpT_lt Z X.key
                by_cases hl : lessT Z X.key
                · have HW2 : Hid (chkFrom (aheadE s (m + 1 + 1)) (s.drop (m + 1 + 1)) = R) := by
                    have := HST.out
                    rw [if_pos (by simp [behindE, hl])] at this
                    exact this.symm
                  have hcz : decide (0 ≤ cmpT Z X.key) = false := decide_eq_false (by have := hlt2.2 hl; omega)
                  clear HST hl hlt2
                  generalize cmpT Z X.key = CV at *
                  generalize X.key = XK at *
                  go_wp2_with fail
                  refine (HTT.out w5).mono ?_
                  rintro e w6 ⟨rfl, rfl⟩
                  go_wp2_with fail
                  go_quiet ((go_at_call 65; exact Calls.quiet_of (HTO.out _)))
                  go_wp2_with fail
                  go_roundw
                  case rel => exact ⟨m + 1 + 1, by omega, by go_num, HW2.out, HN2.out, below_drewN' C5 _⟩
                  case measure => simp [intOf]; omega
                · have HW2 : Hid (R = 4) := by
                    have := HST.out
                    rw [if_neg (by simp [behindE, hl])] at this
                    exact this
                  have hcz : decide (0 ≤ cmpT Z X.key) = true := decide_eq_true (by
                    rcases Int.lt_or_le (cmpT Z X.key) 0 with h | h
                    · exact absurd (hlt2.1 h) hl
                    · exact h)
                  clear HST hl hlt2 HN2
                  generalize cmpT Z X.key = CV at *
                  generalize X.key = XK at *
                  go_wp2_with fail
                  refine (HTT.out w5).mono ?_
                  rintro e w6 ⟨rfl, rfl⟩
                  go_wp2_with fail
                  go_quiet ((go_at_call 65; exact Calls.quiet_of (HTO.out _)))
                  go_wp2_with fail
                  go_ret
                  exact ⟨by simp [HW2.out], below_drewN' C5 _⟩
          · have hc' : (chkI X.item == 0) = false := by rw [beq_eq_false_iff_ne]; exact hc
            have HW2 : Hid (R = chkI X.item) := by rw [Hid, HST.out, chkE_item hz hc, if_pos hc]
            clear HST hc HAH HNK HN2 HTT
            generalize chkI X.item = E at *
            go_wp2_with fail
            refine HCK.out.mono ?_
            rintro e w5 ⟨rfl, hb5⟩
            have C5 := hbr.trans (hb5.mono hsz)
            clear hb5 HCK
            go_wp2_with fail
            go_ret
            exact ⟨by simp [HW2.out], C5⟩
      · have hge : ¬ ((q : Nat) : Int) < ((s.length : Nat) : Int) := by omega
        obtain rfl : q = s.length := by omega
        have HW2 : Hid (R = 0) := by
          have := HQ.out
          rw [List.drop_length] at this
          rw [Hid, ← this]
          rfl
        clear HQ HS HR HK
        go_wp2_with fail
        go_ret
        exact ⟨by simp [HW2.out], hbr⟩
set_option maxRecDepth 100000 in
set_option maxHeartbeats 2000000 in
theorem refAt_any (a : Option Addr) (c : Nat) (s : List Ent) (now : Int) (key : ByteArray) (w : World) (hs : SpaceAt w a s) (hn : s.length ≤ 281474976710656) :
    Calls Tryz.prog 11 #[.slice a s.length c, .int .i64 now, .string key] w fun e w' => e = .returned (.int .i64 (chkKey s now key)) ∧ Below w.heap.size w w' := by
  have HC := hide (refSpace_any a c s w hs hn)
  have HT : Hid (∀ W, Calls Tryz.prog 64 #[.int .i64 now, .int .i64 0, .int .i64 1000000] W fun e w' => e = .returned (.bool (timeT now)) ∧ w' = W) := fun W => between_any _ _ _ W
  unfold chkKey chkAt
  clear hs
  by_cases h0 : chkSp s = 0
  · rw [h0] at HC ⊢
    cases ht : timeT now with
    | true =>
      rw [ht] at HT
      cases hl : longT key with
      | true =>
        have hl' : (60 : Int) < ((key.size : Nat) : Int) := by unfold longT at hl; rw [decide_eq_true_eq] at hl; omega
        clear hl ht h0
        go_enter Tryz.func11, Tryz.ntmps11
        go_wp2_with fail
        refine HC.out.mono ?_
        rintro e w1 ⟨rfl, hb1⟩
        go_wp2_with fail
        refine (HT.out _).mono ?_
        rintro e w2 ⟨rfl, rfl⟩
        go_wp2_with fail
        go_ret
        exact ⟨rfl, hb1⟩
      | false =>
        have hl' : ¬ (60 : Int) < ((key.size : Nat) : Int) := by unfold longT at hl; rw [decide_eq_false_iff_not] at hl; omega
        clear hl ht h0
        go_enter Tryz.func11, Tryz.ntmps11
        go_wp2_with fail
        refine HC.out.mono ?_
        rintro e w1 ⟨rfl, hb1⟩
        go_wp2_with fail
        refine (HT.out _).mono ?_
        rintro e w2 ⟨rfl, rfl⟩
        go_wp2_with fail
        go_ret
        exact ⟨rfl, hb1⟩
    | false =>
      rw [ht] at HT
      clear ht h0
      go_enter Tryz.func11, Tryz.ntmps11
      go_wp2_with fail
      refine HC.out.mono ?_
      rintro e w1 ⟨rfl, hb1⟩
      go_wp2_with fail
      refine (HT.out _).mono ?_
      rintro e w2 ⟨rfl, rfl⟩
      go_wp2_with fail
      go_ret
      exact ⟨rfl, hb1⟩
  · rw [if_pos h0, if_pos h0]
    have h0' : (chkSp s == 0) = false := by rw [beq_eq_false_iff_ne]; exact h0
    clear h0
    generalize chkSp s = E at *
    go_enter Tryz.func11, Tryz.ntmps11
    go_wp2_with fail
    refine HC.out.mono ?_
    rintro e w1 ⟨rfl, hb1⟩
    go_wp2_with fail
    go_ret
    exact ⟨rfl, hb1⟩
end Go.Proofs.YtcidoodaiimhfaaGreat

/- WALK of the reference's look for the end of a bracket. -/
namespace Go.Proofs.YtcidoodaiimhfaaGreat
open Go.RowKit

/-- what is left of a text from a place on -/
structure Pos (s : ByteArray) (i : Nat) (l : List UInt8) : Prop where
  eq : s.data.toList.drop i = l
  le : i ≤ s.size
theorem Pos.len {s : ByteArray} {i : Nat} {l : List UInt8} (h : Pos s i l) : i + l.length = s.size := by
  have := h.le
  rw [← h.eq, List.length_drop, size_list]
  omega
theorem Pos.get {s : ByteArray} {i : Nat} {l : List UInt8} (h : Pos s i l) (k : Nat) (hk : k < l.length) (hi : i + k < s.size) : s[i + k] = l[k] := by
  have h2 : (s.data.toList.drop i)[k]? = some l[k] := by rw [h.eq, List.getElem?_eq_getElem hk]
  rw [List.getElem?_drop, List.getElem?_eq_getElem (by rw [size_list]; exact hi)] at h2
  exact Option.some.inj h2
theorem Pos.skip {s : ByteArray} {i : Nat} {l : List UInt8} (h : Pos s i l) (k : Nat) (hk : k ≤ l.length) : Pos s (i + k) (l.drop k) := by
  have := h.len
  refine ⟨?_, by omega⟩
  rw [← h.eq, List.drop_drop]
theorem Pos.tail {s : ByteArray} {i : Nat} {c : UInt8} {l : List UInt8} (h : Pos s i (c :: l)) : Pos s (i + 1) l := h.skip 1 (by simp)

def clsRet (s : ByteArray) (f : Bool) (l : List UInt8) : Ending :=
  match pCls l with
  | .error _ => .returned (.tuple #[.int .i64 0, .bool false])
  | .ok (xs, q) => .returned (.tuple #[.int .i64 ((s.size - q.length - 1 : Nat) : Int), .bool (!(f && xs.isEmpty))])
theorem clsRet_nil (s : ByteArray) (f : Bool) : clsRet s f [] = .returned (.tuple #[.int .i64 0, .bool false]) := rfl
theorem clsRet_end (s : ByteArray) (f : Bool) (l : List UInt8) : clsRet s f (93 :: l) = .returned (.tuple #[.int .i64 ((s.size - l.length - 1 : Nat) : Int), .bool (!f)]) := by
  rw [clsRet, pCls_end]
  simp
theorem clsRet_err (s : ByteArray) (f : Bool) {c : UInt8} {l : List UInt8} {n : Nat} (hc : c ≠ 93) (h : pSpan c l = .error n) : clsRet s f (c :: l) = .returned (.tuple #[.int .i64 0, .bool false]) := by
  rw [clsRet, pCls_err hc h]
theorem clsRet_ok (s : ByteArray) (f : Bool) {c : UInt8} {l q : List UInt8} {x : UInt8 × UInt8} (hc : c ≠ 93) (h : pSpan c l = .ok (x, q)) : clsRet s f (c :: l) = clsRet s false q := by
  rw [clsRet, pCls_ok hc h, clsRet]
  cases pCls q with
  | error e => rfl
  | ok y => simp

set_option maxRecDepth 100000 in
set_option maxHeartbeats 2000000 in
theorem classAt_any (s : ByteArray) (i0 : Nat) (l0 : List UInt8) (w : World) (h : Pos s i0 l0) (hs : s.size ≤ 60) :
    Calls Tryz.prog 68 #[.string s, .int .i64 (i0 : Int)] w fun e w' => e = clsRet s true l0 ∧ ∃ n, w' = w.drewN n := by
  have HP := hide h
  clear h
  go_enter Tryz.func68, Tryz.ntmps68
  go_wp2_with fail
  go_loopw [1, 6] (fun vi vf wr => ∃ (i : Nat) (f : Bool) (l : List UInt8) (n : Nat), vi = .int .i64 i ∧ vf = .bool f ∧ Hid (Pos s i l) ∧ wr = w.drewN n ∧ Hid (clsRet s true l0 = clsRet s f l)) (fun vi _ _ => s.size + 1 - (intOf vi).toNat)
  case atStart => exact ⟨i0, true, l0, 0, rfl, rfl, HP, rfl, rfl⟩
  case round =>
    clear HP
    obtain ⟨i, f, l, n, rfl, rfl, HP, rfl, HR⟩ := hrel
    have hlen := HP.out.len
    cases l with
    | nil =>
      simp only [List.length_nil, Nat.add_zero] at hlen
      have hge : ¬ ((i : Nat) : Int) < ((s.size : Nat) : Int) := by omega
      go_wp2_with fail
      go_ret2
      rw [HR.out, clsRet_nil]
      exact ⟨rfl, _, rfl⟩
    | cons c l =>
      simp only [List.length_cons] at hlen
      have hlt : i < s.size := by omega
      have g0 : s[i] = c := HP.out.get 0 (by simp) hlt
      have hsc : s[i].toNat = c.toNat := by rw [g0]
      by_cases hc : c = 93
      · subst hc
        have HV : Hid (clsRet s true l0 = .returned (.tuple #[.int .i64 (i : Int), .bool (!f)])) := by
          rw [Hid, HR.out, clsRet_end]
          have : s.size - l.length - 1 = i := by omega
          rw [this]
        have h93 : s[i].toNat = 93 := hsc
        clear hsc g0
        go_wp2_with fail
        go_ret2
        rw [HV.out]
        exact ⟨rfl, _, rfl⟩
      · have hcn : ¬ s[i].toNat = 93 := by rw [hsc]; exact fun e => hc (UInt8.toNat_inj.mp (by simpa using e))
        have hcb : (((s[i].toNat : Nat) : Int) == 93) = false := by rw [beq_eq_false_iff_ne]; omega
        by_cases hsp : ∃ d r, l = 45 :: d :: r ∧ d ≠ 93
        · obtain ⟨d, r, rfl, hd⟩ := hsp
          simp only [List.length_cons] at hlen
          have i1 : i + 1 < s.size := by omega
          have i2 : i + 2 < s.size := by omega
          have h1 : s[i + 1].toNat = 45 := by rw [HP.out.get 1 (by simp) i1]; rfl
          have g2 : s[i + 2] = d := HP.out.get 2 (by simp) i2
          have h2n : ¬ s[i + 2].toNat = 93 := by rw [g2]; exact fun e => hd (UInt8.toNat_inj.mp (by simpa using e))
          have h2b : (((s[i + 2].toNat : Nat) : Int) != 93) = true := by rw [bne_iff_ne]; omega
          by_cases hle : c.toNat ≤ d.toNat
          · have HS2 : Hid (clsRet s true l0 = clsRet s false r) := by rw [Hid, HR.out, clsRet_ok s f hc (show pSpan c (45 :: d :: r) = .ok ((c, d), r) by simp [pSpan, hd, hle])]
            have HP2 : Hid (Pos s (i + 3) r) := HP.out.skip 3 (by simp)
            have hlt2 : ¬ ((s[i + 2].toNat : Nat) : Int) < ((s[i].toNat : Nat) : Int) := by rw [g2, g0]; omega
            clear g0 g2 hsc HP HR
            go_wp2_with fail
            go_quiet (fail)
            go_wp2_with fail
            go_roundw
            case rel => exact ⟨i + 3, false, r, _, by go_num, rfl, HP2, rfl, HS2⟩
            case measure => simp only [intOf]; omega
          · have HV : Hid (clsRet s true l0 = .returned (.tuple #[.int .i64 0, .bool false])) := by rw [Hid, HR.out, clsRet_err s f hc (show pSpan c (45 :: d :: r) = .error 1 by simp [pSpan, hd, hle])]
            have hlt2 : ((s[i + 2].toNat : Nat) : Int) < ((s[i].toNat : Nat) : Int) := by rw [g2, g0]; omega
            clear g0 g2 hsc HP HR
            go_wp2_with fail
            go_quiet (fail)
            go_wp2_with fail
            go_ret2
            rw [HV.out]
            exact ⟨rfl, _, World.drewN_drewN _ _ _⟩
        · have hps : pSpan c l = .ok ((c, c), l) := by
            unfold pSpan
            split
            · rename_i d r
              split
              · rfl
              · rename_i hd
                exact absurd ⟨d, r, rfl, hd⟩ hsp
            · rfl
          have HS2 : Hid (clsRet s true l0 = clsRet s false l) := by rw [Hid, HR.out, clsRet_ok s f hc hps]
          have HP2 : Hid (Pos s (i + 1) l) := HP.out.tail
          by_cases h2 : i + 2 < s.size
          · have i1 : i + 1 < s.size := by omega
            match l, hsp, hlen with
            | [], _, hlen => simp at hlen; omega
            | [_], _, hlen => simp at hlen; omega
            | x :: d :: r, hsp, hlen =>
              have g1 : s[i + 1] = x := HP.out.get 1 (by simp) i1
              have g2 : s[i + 2] = d := HP.out.get 2 (by simp) h2
              by_cases hx : x = 45
              · have hd : d = 93 := Decidable.byContradiction fun hd => hsp ⟨d, r, by rw [hx], hd⟩
                have t1 : s[i + 1].toNat = 45 := by rw [g1, hx]; rfl
                have t2 : s[i + 2].toNat = 93 := by rw [g2, hd]; rfl
                clear g0 g1 g2 hsc HP HR
                go_wp2_with fail
                go_roundw
                case rel => exact ⟨i + 1, false, x :: d :: r, n, by go_num, rfl, HP2, rfl, HS2⟩
                case measure => simp only [intOf]; omega
              · have t1 : ¬ s[i + 1].toNat = 45 := by rw [g1]; exact fun e => hx (UInt8.toNat_inj.mp (by simpa using e))
                clear g0 g1 g2 hsc HP HR
                go_wp2_with fail
                go_roundw
                case rel => exact ⟨i + 1, false, x :: d :: r, n, by go_num, rfl, HP2, rfl, HS2⟩
                case measure => simp only [intOf]; omega
          · have h2' : ¬ ((i : Nat) : Int) + 2 < ((s.size : Nat) : Int) := by omega
            clear g0 hsc HP HR
            go_wp2_with fail
            go_roundw
            case rel => exact ⟨i + 1, false, l, n, by go_num, rfl, HP2, rfl, HS2⟩
            case measure => simp only [intOf]; omega
end Go.Proofs.YtcidoodaiimhfaaGreat

/- WALKS of the reference's look into a bracket, and of where a part ends. -/
namespace Go.Proofs.YtcidoodaiimhfaaGreat
open Go.RowKit

/-- the spans of what stands within brackets -/
def spansF : Nat → List UInt8 → List (UInt8 × UInt8)
  | 0, _ => []
  | _ + 1, [] => []
  | f + 1, c :: l => match l with
    | 45 :: d :: r => (c, d) :: spansF f r
    | _ => (c, c) :: spansF f l
theorem spansF_nil (f : Nat) : spansF f [] = [] := by cases f <;> rfl
theorem spansF_span (f : Nat) (c d : UInt8) (r : List UInt8) : spansF (f + 1) (c :: 45 :: d :: r) = (c, d) :: spansF f r := rfl
theorem spansF_one (f : Nat) (c : UInt8) (l : List UInt8) (h : ∀ d r, l ≠ 45 :: d :: r) : spansF (f + 1) (c :: l) = (c, c) :: spansF f l := by
  rw [spansF]
  exact fun d r e => h d r e
theorem inSpan_one (c x : UInt8) : inSpan c (x, x) = (c == x) := by
  rw [Bool.eq_iff_iff]
  simp only [inSpan, Bool.and_eq_true, decide_eq_true_eq, beq_iff_eq]
  constructor
  · rintro ⟨h1, h2⟩; exact UInt8.toNat_inj.mp (by omega)
  · rintro rfl; exact ⟨Nat.le_refl _, Nat.le_refl _⟩

set_option maxRecDepth 100000 in
set_option maxHeartbeats 2000000 in
theorem inClass_any (s : ByteArray) (c : UInt8) (w : World) (hs : s.size ≤ 60) :
    Calls Tryz.prog 192 #[.string s, .int .u8 c.toNat] w fun e w' => e = .returned (.bool ((spansF (s.size + 1) s.data.toList).any (inSpan c))) ∧ ∃ n, w' = w.drewN n := by
  go_enter Tryz.func192, Tryz.ntmps192
  go_wp2_with fail
  go_loop [5] (fun vi => ∃ (i f : Nat) (l : List UInt8), vi = .int .i64 i ∧ Hid (Pos s i l) ∧ l.length < f ∧ Hid ((spansF (s.size + 1) s.data.toList).any (inSpan c) = (spansF f l).any (inSpan c))) (fun vi => s.size + 1 - (intOf vi).toNat)
  case atStart => exact ⟨0, s.size + 1, s.data.toList, rfl, ⟨by simp, Nat.zero_le _⟩, by rw [size_list]; omega, rfl⟩
  case round =>
    obtain ⟨i, f, l, rfl, HP, hf, HR⟩ := hrel
    have hlen := HP.out.len
    cases l with
    | nil =>
      simp only [List.length_nil, Nat.add_zero] at hlen
      have hge : ¬ ((i : Nat) : Int) < ((s.size : Nat) : Int) := by omega
      go_wp2_with fail
      go_ret
      rw [HR.out, spansF_nil]
      exact ⟨rfl, 0, rfl⟩
    | cons x l =>
      simp only [List.length_cons] at hlen hf
      obtain ⟨f, rfl⟩ : ∃ f', f = f' + 1 := ⟨f - 1, by omega⟩
      have hlt : i < s.size := by omega
      have g0 : s[i] = x := HP.out.get 0 (by simp) hlt
      by_cases hsp : ∃ d r, l = 45 :: d :: r
      · obtain ⟨d, r, rfl⟩ := hsp
        simp only [List.length_cons] at hlen hf
        have i1 : i + 1 < s.size := by omega
        have i2 : i + 2 < s.size := by omega
        have h1 : s[i + 1].toNat = 45 := by rw [HP.out.get 1 (by simp) i1]; rfl
        have g2 : s[i + 2] = d := HP.out.get 2 (by simp) i2
        have HP2 : Hid (Pos s (i + 3) r) := HP.out.skip 3 (by simp)
        have HR2 : Hid ((spansF (s.size + 1) s.data.toList).any (inSpan c) = (inSpan c (x, d) || (spansF f r).any (inSpan c))) := by rw [Hid, HR.out, spansF_span, List.any_cons]
        by_cases ha : x.toNat ≤ c.toNat
        · have ha' : ((s[i].toNat : Nat) : Int) ≤ ((c.toNat : Nat) : Int) := by rw [g0]; omega
          by_cases hb : c.toNat ≤ d.toNat
          · have hb' : ((c.toNat : Nat) : Int) ≤ ((s[i + 2].toNat : Nat) : Int) := by rw [g2]; omega
            have HV : Hid ((spansF (s.size + 1) s.data.toList).any (inSpan c) = true) := by rw [Hid, HR2.out]; simp [inSpan, ha, hb]
            clear g0 g2 HP HR HR2
            go_wp2_with fail
            go_ret
            rw [HV.out]
            exact ⟨rfl, 0, rfl⟩
          · have hb' : ¬ ((c.toNat : Nat) : Int) ≤ ((s[i + 2].toNat : Nat) : Int) := by rw [g2]; omega
            have HV : Hid ((spansF (s.size + 1) s.data.toList).any (inSpan c) = (spansF f r).any (inSpan c)) := by rw [Hid, HR2.out]; simp [inSpan, hb]
            clear g0 g2 HP HR HR2
            go_wp2_with fail
            go_round
            case rel => exact ⟨i + 3, f, r, by go_num, HP2, by omega, HV⟩
            case measure => simp only [intOf]; omega
        · have ha' : ¬ ((s[i].toNat : Nat) : Int) ≤ ((c.toNat : Nat) : Int) := by rw [g0]; omega
          have HV : Hid ((spansF (s.size + 1) s.data.toList).any (inSpan c) = (spansF f r).any (inSpan c)) := by rw [Hid, HR2.out]; simp [inSpan, ha]
          clear g0 g2 HP HR HR2
          go_wp2_with fail
          go_round
          case rel => exact ⟨i + 3, f, r, by go_num, HP2, by omega, HV⟩
          case measure => simp only [intOf]; omega
      · have hno : ∀ d r, l ≠ 45 :: d :: r := fun d r e => hsp ⟨d, r, e⟩
        have HP2 : Hid (Pos s (i + 1) l) := HP.out.tail
        have HR2 : Hid ((spansF (s.size + 1) s.data.toList).any (inSpan c) = ((c == x) || (spansF f l).any (inSpan c))) := by rw [Hid, HR.out, spansF_one f x l hno, List.any_cons, inSpan_one]
        have hst : (((c.toNat : Nat) : Int) == ((s[i].toNat : Nat) : Int)) = (c == x) := by rw [g0]; exact u8_beq c x
        have hgo : (i + 2 < s.size ∧ ∃ h1 : i + 1 < s.size, ¬ s[i + 1].toNat = 45) ∨ ¬ i + 2 < s.size := by
          by_cases h2 : i + 2 < s.size
          · refine .inl ⟨h2, by omega, ?_⟩
            match l, hno, hlen with
            | [], _, hlen => simp at hlen; omega
            | [_], _, hlen => simp at hlen; omega
            | y :: d :: r, hno, hlen =>
              rw [HP.out.get 1 (by simp) (by omega)]
              intro e
              exact hno d r (by rw [show y = 45 from UInt8.toNat_inj.mp (by simpa using e)])
          · exact .inr h2
        clear g0 HP HR
        cases hcx : (c == x) with
        | true =>
          have HV : Hid ((spansF (s.size + 1) s.data.toList).any (inSpan c) = true) := by rw [Hid, HR2.out, hcx]; rfl
          rw [hcx] at hst
          rcases hgo with ⟨h2, h1, hn⟩ | h2
          · go_wp2_with fail
            go_ret
            rw [HV.out]
            exact ⟨rfl, 0, rfl⟩
          · have h2' : ¬ ((i : Nat) : Int) + 2 < ((s.size : Nat) : Int) := by omega
            go_wp2_with fail
            go_ret
            rw [HV.out]
            exact ⟨rfl, 0, rfl⟩
        | false =>
          have HV : Hid ((spansF (s.size + 1) s.data.toList).any (inSpan c) = (spansF f l).any (inSpan c)) := by rw [Hid, HR2.out, hcx]; rfl
          rw [hcx] at hst
          rcases hgo with ⟨h2, h1, hn⟩ | h2
          · go_wp2_with fail
            go_round
            case rel => exact ⟨i + 1, f, l, by go_num, HP2, by omega, HV⟩
            case measure => simp only [intOf]; omega
          · have h2' : ¬ ((i : Nat) : Int) + 2 < ((s.size : Nat) : Int) := by omega
            go_wp2_with fail
            go_round
            case rel => exact ⟨i + 1, f, l, by go_num, HP2, by omega, HV⟩
            case measure => simp only [intOf]; omega
end Go.Proofs.YtcidoodaiimhfaaGreat

/- WALKS of the reference's check of a pattern, and of where a part ends. -/
namespace Go.Proofs.YtcidoodaiimhfaaGreat
open Go.RowKit

theorem Pos.inside {s : ByteArray} {i : Nat} {l : List UInt8} (h : Pos s i l) : Pos s (i + (l.length - (inside l).length)) (inside l) ∧ (l.head? = some 94 → l.length - (inside l).length = 1) ∧ (¬ l.head? = some 94 → inside l = l) := by
  unfold Go.Proofs.YtcidoodaiimhfaaGreat.inside
  split
  · rename_i hh
    cases l with
    | nil => simp at hh
    | cons c r =>
      simp only [List.tail_cons, List.length_cons]
      rw [show r.length + 1 - r.length = 1 by omega]
      exact ⟨h.tail, fun _ => rfl, fun e => absurd hh e⟩
  · rename_i hh
    rw [Nat.sub_self]
    exact ⟨h, fun e => absurd e hh, fun _ => rfl⟩
theorem Pos.suffix {s : ByteArray} {i : Nat} {l q : List UInt8} (h : Pos s i l) (hq : q <:+ l) : Pos s (s.size - q.length) q := by
  obtain ⟨t, rfl⟩ := hq
  have hl := h.len
  simp only [List.length_append] at hl
  have := h.skip t.length (by simp)
  rw [List.drop_left] at this
  rwa [show i + t.length = s.size - q.length by omega] at this
/-- how the reading of a bracket ends, by places -/
theorem clsRet_bracket {s : ByteArray} {l : List UInt8} : (∀ p q, pBracket l = .ok (p, q) → clsRet s true (Go.Proofs.YtcidoodaiimhfaaGreat.inside l) = .returned (.tuple #[.int .i64 ((s.size - q.length - 1 : Nat) : Int), .bool true])) ∧
    (∀ n, pBracket l = .error n → ∃ z : Int, clsRet s true (Go.Proofs.YtcidoodaiimhfaaGreat.inside l) = .returned (.tuple #[.int .i64 z, .bool false])) := by
  rw [pBracket_of]
  unfold clsRet
  cases hc : pCls (Go.Proofs.YtcidoodaiimhfaaGreat.inside l) with
  | error e => exact ⟨fun p q h => by simp [brOf] at h, fun n _ => ⟨0, rfl⟩⟩
  | ok y =>
    obtain ⟨xs, q1⟩ := y
    cases xs with
    | nil => exact ⟨fun p q h => by simp [brOf] at h, fun n _ => ⟨_, rfl⟩⟩
    | cons x xs =>
      refine ⟨fun p q h => ?_, fun n h => by simp [brOf] at h⟩
      simp [brOf] at h
      obtain ⟨_, rfl⟩ := h
      rfl

set_option maxRecDepth 100000 in
set_option maxHeartbeats 2000000 in
theorem checkGlob_any (s : ByteArray) (w : World) :
    Calls Tryz.prog 14 #[.string s] w fun e w' => e = .returned (.int .i64 (checkG s)) ∧ Below w.heap.size w w' := by
  by_cases hs : 60 < s.size
  · have hs' : (60 : Int) < ((s.size : Nat) : Int) := by omega
    have hc : checkG s = 2 := by rw [checkG, if_pos hs]
    rw [hc]
    clear hc
    go_enter Tryz.func14, Tryz.ntmps14
    go_wp2_with fail
    go_ret
    exact ⟨rfl, Below.refl _ _⟩
  · have hs' : ¬ (60 : Int) < ((s.size : Nat) : Int) := by omega
    have HG : Hid ((∀ ps, pParts s.data.toList = .ok ps → checkG s = 0) ∧ (∀ n, pParts s.data.toList = .error n → checkG s = 1)) := ⟨fun ps h => by rw [checkG, if_neg hs, h], fun n h => by rw [checkG, if_neg hs, h]⟩
    generalize checkG s = C at *
    go_enter Tryz.func14, Tryz.ntmps14
    go_wp2_with fail
    go_loopw [3] (fun vi wr => ∃ (i : Nat) (l : List UInt8) (acc : List Part), vi = .int .i64 i ∧ Hid (Pos s i l) ∧ Below w.heap.size w wr ∧ Hid (pParts s.data.toList = aheadP acc (pParts l))) (fun vi _ => s.size + 1 - (intOf vi).toNat)
    case atStart => exact ⟨0, s.data.toList, [], rfl, ⟨by simp, Nat.zero_le _⟩, Below.refl _ _, by rw [Hid, aheadP_nil]⟩
    case round =>
      obtain ⟨i, l, acc, rfl, HP, hb, HR⟩ := hrel
      have hlen := HP.out.len
      cases l with
      | nil =>
        simp only [List.length_nil, Nat.add_zero] at hlen
        have hge : ¬ ((i : Nat) : Int) < ((s.size : Nat) : Int) := by omega
        have HV : Hid (C = 0) := HG.out.1 acc (by rw [HR.out, pParts_nil]; simp [aheadP])
        go_wp2_with fail
        go_ret
        rw [HV.out]
        exact ⟨rfl, hb⟩
      | cons c l =>
        simp only [List.length_cons] at hlen
        have hlt : i < s.size := by omega
        have g0 : s[i] = c := HP.out.get 0 (by simp) hlt
        have HP1 : Hid (Pos s (i + 1) l) := HP.out.tail
        have hBAD : Hid (∀ n, pPart (c :: l) = .error n → C = 1) := fun n h => HG.out.2 n (by rw [HR.out, aheadP_err h])
        have hOK : Hid (∀ p q, pPart (c :: l) = .ok (p, q) → pParts s.data.toList = aheadP (acc ++ [p]) (pParts q)) := fun p q h => by rw [HR.out, aheadP_ok h]
        by_cases h92 : c = 92
        · have t92 : s[i].toNat = 92 := by rw [g0, h92]; rfl
          subst h92
          cases l with
          | nil =>
            have HV : Hid (C = 1) := hBAD.out 8 rfl
            have hend : ((i : Nat) : Int) + 1 = ((s.size : Nat) : Int) := by simp at hlen; omega
            clear g0 hBAD hOK HR HP
            go_wp2_with fail
            go_ret
            rw [HV.out]
            exact ⟨rfl, hb⟩
          | cons d r =>
            have HV := hide (hOK.out (.lit d) r rfl)
            have HP2 : Hid (Pos s (i + 2) r) := HP.out.skip 2 (by simp)
            have hend : ¬ ((i : Nat) : Int) + 1 = ((s.size : Nat) : Int) := by simp at hlen; omega
            clear g0 hBAD hOK HR HP
            go_wp2_with fail
            go_roundw
            case rel => exact ⟨i + 2, r, acc ++ [.lit d], by go_num, HP2, hb, HV⟩
            case measure => simp only [intOf]; omega
        · have t92 : ¬ s[i].toNat = 92 := by rw [g0]; exact fun e => h92 (UInt8.toNat_inj.mp (by simpa using e))
          by_cases h91 : c = 91
          · have t91 : s[i].toNat = 91 := by rw [g0, h91]; rfl
            subst h91
            by_cases hh : l.head? = some 94
            · obtain ⟨r, rfl⟩ : ∃ r, l = 94 :: r := by
                cases l with
                | nil => simp at hh
                | cons x r => simp at hh; exact ⟨r, by rw [hh]⟩
              have hi1 : i + 1 < s.size := by simp at hlen; omega
              have t94 : s[i + 1].toNat = 94 := by rw [HP.out.get 1 (by simp) hi1]; rfl
              have HCA : Hid (∀ W, Calls Tryz.prog 68 #[.string s, .int .i64 (((i : Nat) : Int) + 1 + 1)] W fun e w' => e = clsRet s true (Go.Proofs.YtcidoodaiimhfaaGreat.inside (94 :: r)) ∧ ∃ n, w' = W.drewN n) := fun W => by
                have := classAt_any s (i + 2) r W (HP.out.skip 2 (by simp)) (by omega)
                rw [show ((i + 2 : Nat) : Int) = ((i : Nat) : Int) + 1 + 1 by omega] at this
                exact this
              clear g0 hh
              generalize hll : (94 :: r : List UInt8) = l at *
              cases hpb : pBracket l with
              | error n =>
                obtain ⟨z, hz⟩ := (clsRet_bracket (s := s) (l := l)).2 n hpb
                have HV : Hid (C = 1) := hBAD.out n hpb
                rw [hz] at HCA
                clear hBAD hOK HR HP hpb hz
                go_wp2_with fail
                refine (HCA.out _).mono ?_
                rintro e w1 ⟨rfl, nn, rfl⟩
                go_wp2_with fail
                go_ret
                rw [HV.out]
                exact ⟨rfl, ⟨hb.os, hb.tape, hb.output, hb.size, hb.block⟩⟩
              | ok y =>
                obtain ⟨p, q⟩ := y
                have hz := (clsRet_bracket (s := s) (l := l)).1 p q hpb
                have HV := hide (hOK.out p q hpb)
                have hsuf := pPart_suffix (show pPart (91 :: l) = .ok (p, q) from hpb)
                have HP2 := hide (HP.out.suffix hsuf.1)
                have hql : q.length < l.length + 1 := by simpa using hsuf.2
                rw [hz] at HCA
                clear hBAD hOK HR HP hpb hz hsuf
                generalize hto : s.size - q.length - 1 = tt at *
                go_wp2_with fail
                refine (HCA.out _).mono ?_
                rintro e w1 ⟨rfl, nn, rfl⟩
                go_wp2_with fail
                go_roundw
                case rel => exact ⟨s.size - q.length, q, acc ++ [p], by congr 1; omega, HP2, ⟨hb.os, hb.tape, hb.output, hb.size, hb.block⟩, HV⟩
                case measure => simp only [intOf]; omega
            · have hin : Go.Proofs.YtcidoodaiimhfaaGreat.inside l = l := by unfold Go.Proofs.YtcidoodaiimhfaaGreat.inside; rw [if_neg hh]
              have HCA : Hid (∀ W, Calls Tryz.prog 68 #[.string s, .int .i64 (((i : Nat) : Int) + 1)] W fun e w' => e = clsRet s true (Go.Proofs.YtcidoodaiimhfaaGreat.inside l) ∧ ∃ n, w' = W.drewN n) := fun W => by
                have := classAt_any s (i + 1) l W HP1.out (by omega)
                rw [hin]
                exact this
              have hgo : (∃ h1 : i + 1 < s.size, ¬ s[i + 1].toNat = 94) ∨ ¬ ((i : Nat) : Int) + 1 < ((s.size : Nat) : Int) := by
                by_cases h1 : i + 1 < s.size
                · refine .inl ⟨h1, ?_⟩
                  cases l with
                  | nil => simp at hlen; omega
                  | cons x r =>
                    rw [HP.out.get 1 (by simp) h1]
                    intro e
                    apply hh
                    simp
                    exact UInt8.toNat_inj.mp (by simpa using e)
                · exact .inr (by omega)
              clear g0 hh hin
              rcases hgo with ⟨h1, hn94⟩ | h1
              all_goals
                cases hpb : pBracket l with
                | error n =>
                  obtain ⟨z, hz⟩ := (clsRet_bracket (s := s) (l := l)).2 n hpb
                  have HV : Hid (C = 1) := hBAD.out n hpb
                  rw [hz] at HCA
                  clear hBAD hOK HR HP hpb hz
                  go_wp2_with fail
                  refine (HCA.out _).mono ?_
                  rintro e w1 ⟨rfl, nn, rfl⟩
                  go_wp2_with fail
                  go_ret
                  rw [HV.out]
                  exact ⟨rfl, ⟨hb.os, hb.tape, hb.output, hb.size, hb.block⟩⟩
                | ok y =>
                  obtain ⟨p, q⟩ := y
                  have hz := (clsRet_bracket (s := s) (l := l)).1 p q hpb
                  have HV := hide (hOK.out p q hpb)
                  have hsuf := pPart_suffix (show pPart (91 :: l) = .ok (p, q) from hpb)
                  have HP2 := hide (HP.out.suffix hsuf.1)
                  have hql : q.length < l.length + 1 := by simpa using hsuf.2
                  rw [hz] at HCA
                  clear hBAD hOK HR HP hpb hz hsuf
                  generalize hto : s.size - q.length - 1 = tt at *
                  go_wp2_with fail
                  refine (HCA.out _).mono ?_
                  rintro e w1 ⟨rfl, nn, rfl⟩
                  go_wp2_with fail
                  go_roundw
                  case rel => exact ⟨s.size - q.length, q, acc ++ [p], by congr 1; omega, HP2, ⟨hb.os, hb.tape, hb.output, hb.size, hb.block⟩, HV⟩
                  case measure => simp only [intOf]; omega
          · have t91 : ¬ s[i].toNat = 91 := by rw [g0]; exact fun e => h91 (UInt8.toNat_inj.mp (by simpa using e))
            have hp : ∃ p, pPart (c :: l) = .ok (p, l) := by
              rw [pPart]
              split
              · exact ⟨_, rfl⟩
              · split
                · exact ⟨_, rfl⟩
                · exact ⟨_, rfl⟩
            obtain ⟨p, hp⟩ := hp
            have HV := hide (hOK.out p l hp)
            clear g0 hBAD hOK HR HP hp
            go_wp2_with fail
            go_roundw
            case rel => exact ⟨i + 1, l, acc ++ [p], by go_num, HP1, hb, HV⟩
            case measure => simp only [intOf]; omega
end Go.Proofs.YtcidoodaiimhfaaGreat

/- WALKS of the reference's parts: where one ends, and what it may be. -/
namespace Go.Proofs.YtcidoodaiimhfaaGreat
open Go.RowKit

set_option maxRecDepth 100000 in
set_option maxHeartbeats 2000000 in
theorem partEnd_any (s : ByteArray) (i : Nat) (c : UInt8) (l q : List UInt8) (p : Part) (w : World) (h : Pos s i (c :: l)) (hs : s.size ≤ 60) (hp : pPart (c :: l) = .ok (p, q)) :
    Calls Tryz.prog 139 #[.string s, .int .i64 (i : Int)] w fun e w' => e = .returned (.int .i64 ((s.size - q.length : Nat) : Int)) ∧ ∃ n, w' = w.drewN n := by
  have hlen := h.len
  simp only [List.length_cons] at hlen
  have hlt : i < s.size := by omega
  have g0 : s[i] = c := h.get 0 (by simp) hlt
  have hq := (pPart_suffix hp).2
  simp only [List.length_cons] at hq
  by_cases h92 : c = 92
  · subst h92
    have t92 : s[i].toNat = 92 := by rw [g0]; rfl
    cases l with
    | nil => simp [pPart, pEsc] at hp
    | cons d r =>
      have hqr : q = r := by
        rw [show pPart (92 :: d :: r) = .ok (.lit d, r) from rfl] at hp
        simp at hp
        exact hp.2.symm
      subst hqr
      have HV : Hid (s.size - q.length = i + 2) := by simp at hlen; unfold Hid; omega
      clear g0 hp h hq
      go_enter Tryz.func139, Tryz.ntmps139
      go_wp2_with fail
      go_ret
      rw [HV.out]
      exact ⟨rfl, 0, rfl⟩
  · have t92 : ¬ s[i].toNat = 92 := by rw [g0]; exact fun e => h92 (UInt8.toNat_inj.mp (by simpa using e))
    by_cases h91 : c = 91
    · subst h91
      have t91 : s[i].toNat = 91 := by rw [g0]; rfl
      have hpb : pBracket l = .ok (p, q) := hp
      have hz := (clsRet_bracket (s := s) (l := l)).1 p q hpb
      have hne : l ≠ [] := by
        intro e
        subst e
        simp [pBracket, pCls, pClsF] at hpb
      by_cases hh : l.head? = some 94
      · obtain ⟨r, rfl⟩ : ∃ r, l = 94 :: r := by
          cases l with
          | nil => simp at hh
          | cons x r => simp at hh; exact ⟨r, by rw [hh]⟩
        have hi1 : i + 1 < s.size := by simp at hlen; omega
        have t94 : s[i + 1].toNat = 94 := by rw [h.get 1 (by simp) hi1]; rfl
        have HCA : Hid (∀ W, Calls Tryz.prog 68 #[.string s, .int .i64 (((i : Nat) : Int) + 1 + 1)] W fun e w' => e = .returned (.tuple #[.int .i64 ((s.size - q.length - 1 : Nat) : Int), .bool true]) ∧ ∃ n, w' = W.drewN n) := fun W => by
          have := classAt_any s (i + 2) r W (h.skip 2 (by simp)) (by omega)
          rw [show ((i + 2 : Nat) : Int) = ((i : Nat) : Int) + 1 + 1 by omega] at this
          rw [← hz]
          exact this
        have HV : Hid (((s.size - q.length - 1 : Nat) : Int) + 1 = ((s.size - q.length : Nat) : Int)) := by simp at hlen hq; unfold Hid; omega
        have hsm : s.size - q.length - 1 ≤ 60 := by omega
        clear g0 hh hp hpb hz h hne
        generalize s.size - q.length - 1 = tt at *
        go_enter Tryz.func139, Tryz.ntmps139
        go_wp2_with fail
        refine (HCA.out _).mono ?_
        rintro e w1 ⟨rfl, nn, rfl⟩
        go_wp2_with fail
        go_ret
        rw [← HV.out]
        exact ⟨rfl, _, rfl⟩
      · have hin : inside l = l := by unfold inside; rw [if_neg hh]
        rw [hin] at hz
        have hi1 : i + 1 < s.size := by
          cases l with
          | nil => exact absurd rfl hne
          | cons x r => simp at hlen; omega
        have t94 : ¬ s[i + 1].toNat = 94 := by
          cases l with
          | nil => exact absurd rfl hne
          | cons x r =>
            rw [h.get 1 (by simp) hi1]
            intro e
            apply hh
            simp
            exact UInt8.toNat_inj.mp (by simpa using e)
        have HCA : Hid (∀ W, Calls Tryz.prog 68 #[.string s, .int .i64 (((i : Nat) : Int) + 1)] W fun e w' => e = .returned (.tuple #[.int .i64 ((s.size - q.length - 1 : Nat) : Int), .bool true]) ∧ ∃ n, w' = W.drewN n) := fun W => by
          have := classAt_any s (i + 1) l W h.tail (by omega)
          rw [← hz]
          exact this
        have HV : Hid (((s.size - q.length - 1 : Nat) : Int) + 1 = ((s.size - q.length : Nat) : Int)) := by unfold Hid; omega
        have hsm : s.size - q.length - 1 ≤ 60 := by omega
        clear g0 hh hp hpb hz h hne hin
        generalize s.size - q.length - 1 = tt at *
        go_enter Tryz.func139, Tryz.ntmps139
        go_wp2_with fail
        refine (HCA.out _).mono ?_
        rintro e w1 ⟨rfl, nn, rfl⟩
        go_wp2_with fail
        go_ret
        rw [← HV.out]
        exact ⟨rfl, _, rfl⟩
    · have t91 : ¬ s[i].toNat = 91 := by rw [g0]; exact fun e => h91 (UInt8.toNat_inj.mp (by simpa using e))
      have hql : q = l := by
        rw [pPart] at hp
        split at hp
        · simp at hp; exact hp.2.symm
        · split at hp
          · simp at hp; exact hp.2.symm
          · simp at hp
            exact hp.2.symm
      subst hql
      have HV : Hid (s.size - q.length = i + 1) := by unfold Hid; omega
      clear g0 hp h hq
      go_enter Tryz.func139, Tryz.ntmps139
      go_wp2_with fail
      go_ret
      rw [HV.out]
      exact ⟨rfl, 0, rfl⟩

/-- what stands within brackets, and its spans -/
theorem cls_text : ∀ (f : Nat) (l : List UInt8) (xs : List (UInt8 × UInt8)) (q : List UInt8), pClsF f l = .ok (xs, q) → ∃ t, l = t ++ 93 :: q ∧ (∀ y ∈ t, y ≠ 93) ∧ ∀ g, t.length < g → spansF g t = xs
  | 0, _, _, _, h => by simp [pClsF] at h
  | _ + 1, [], _, _, h => by simp [pClsF] at h
  | f + 1, c :: l, xs, q, h => by
    rw [pClsF] at h
    by_cases hc : c = 93
    · rw [if_pos hc] at h
      simp at h
      obtain ⟨rfl, rfl⟩ := h
      subst hc
      exact ⟨[], rfl, by simp, fun g _ => spansF_nil g⟩
    · rw [if_neg hc] at h
      cases hs : pSpan c l with
      | error e => rw [hs] at h; simp at h
      | ok y =>
        obtain ⟨x, q1⟩ := y
        rw [hs] at h
        simp only at h
        cases hr : pClsF f q1 with
        | error e => rw [hr] at h; simp at h
        | ok z =>
          obtain ⟨ys, q2⟩ := z
          rw [hr] at h
          simp at h
          obtain ⟨rfl, rfl⟩ := h
          obtain ⟨t1, e1, n1, sp1⟩ := cls_text f q1 ys q2 hr
          by_cases hsp : ∃ d r, l = 45 :: d :: r ∧ d ≠ 93
          · obtain ⟨d, r, rfl, hd⟩ := hsp
            simp only [pSpan, if_neg hd] at hs
            split at hs
            · simp at hs
              obtain ⟨rfl, rfl⟩ := hs
              refine ⟨c :: 45 :: d :: t1, by rw [e1]; rfl, fun y hy => ?_, fun g hg => ?_⟩
              · simp at hy
                rcases hy with rfl | rfl | rfl | hy
                · exact hc
                · decide
                · exact hd
                · exact n1 y hy
              · obtain ⟨g, rfl⟩ : ∃ g', g = g' + 1 := ⟨g - 1, by omega⟩
                simp only [List.length_cons] at hg
                rw [spansF_span, sp1 g (by omega)]
            · simp at hs
          · have hps : pSpan c l = .ok ((c, c), l) := by
              unfold pSpan
              split
              · rename_i d r
                split
                · rfl
                · rename_i hd
                  exact absurd ⟨d, r, rfl, hd⟩ hsp
              · rfl
            rw [hps] at hs
            simp at hs
            obtain ⟨rfl, rfl⟩ := hs
            refine ⟨c :: t1, by rw [e1]; rfl, fun y hy => ?_, fun g hg => ?_⟩
            · simp at hy
              rcases hy with rfl | hy
              · exact hc
              · exact n1 y hy
            · obtain ⟨g, rfl⟩ : ∃ g', g = g' + 1 := ⟨g - 1, by omega⟩
              simp only [List.length_cons] at hg
              rw [spansF_one g c t1 (fun d r e => ?_), sp1 g (by omega)]
              subst e
              exact hsp ⟨d, r ++ 93 :: q2, by rw [e1]; rfl, n1 d (by simp)⟩

/-- a part's own text -/
def partText (l q : List UInt8) : ByteArray := ⟨(l.take (l.length - q.length)).toArray⟩
theorem text_take (t : List UInt8) (c : UInt8) (q : List UInt8) : (t ++ c :: q).take ((t ++ c :: q).length - q.length) = t ++ [c] := by
  have : (t ++ c :: q).length - q.length = (t ++ [c]).length := by simp; omega
  rw [this, show t ++ c :: q = (t ++ [c]) ++ q by simp, List.take_left]
theorem slice_mid (s : ByteArray) (a b : Nat) (hab : a ≤ b) (hb : b ≤ s.size) (W : World) (t : List UInt8) (ht : (s.data.toList.drop a).take (b - a) = t) :
    (Instr.slice 9 (.string s) (some (.int .i64 (a : Int))) (some (.int .i64 (b : Int))) none).run Tryz.prog W = .ok (.string ⟨t.toArray⟩) W := by
  rw [run_slice_string (P := Tryz.prog) W 9 s .i64 .i64 _ _ Tryz.underlying9 (by omega) (by omega) (by omega), Int.toNat_natCast, Int.toNat_natCast, extract_list, ht]

set_option maxRecDepth 100000 in
set_option maxHeartbeats 2000000 in
theorem partMay_any (d c : UInt8) (l q : List UInt8) (p : Part) (w : World) (hs : l.length ≤ 60) (hp : pPart (c :: l) = .ok (p, q)) (h42 : c ≠ 42) :
    Calls Tryz.prog 140 #[.string (partText (c :: l) q), .int .u8 d.toNat] w fun e w' => e = .returned (.bool (p.may d)) ∧ ∃ n, w' = w.drewN n := by
  have hq := (pPart_suffix hp).2
  simp only [List.length_cons] at hq
  obtain ⟨T, hT⟩ : ∃ T, T = partText (c :: l) q := ⟨_, rfl⟩
  have hTl : T.data.toList = (c :: l).take (l.length + 1 - q.length) := by rw [hT, partText, toList_mk, List.length_cons]
  have hTs : T.size = l.length + 1 - q.length := by rw [← size_list, hTl, List.length_take, List.length_cons]; omega
  have i0 : 0 < T.size := by omega
  have hPT : Pos T 0 T.data.toList := ⟨by simp, Nat.zero_le _⟩
  have g0 : T[0] = c := by
    have := hPT.get 0 (by rw [size_list]; exact i0) (by omega)
    simp only [Nat.zero_add] at this
    rw [this]
    simp only [hTl]
    rw [List.getElem_take]
    rfl
  rw [← hT]
  by_cases h63 : c = 63
  · have t63 : T[0].toNat = 63 := by rw [g0, h63]; rfl
    have hm : p.may d = true := by
      rw [h63] at hp
      rw [show pPart (63 :: l) = .ok (.any, l) from rfl] at hp
      simp at hp
      rw [← hp.1]
      rfl
    rw [hm]
    clear hp hT hTl g0 hPT hm
    go_enter Tryz.func140, Tryz.ntmps140
    go_wp2_with fail
    go_ret
    exact ⟨rfl, 0, rfl⟩
  have t63 : ¬ T[0].toNat = 63 := by rw [g0]; exact fun e => h63 (UInt8.toNat_inj.mp (by simpa using e))
  by_cases h92 : c = 92
  · have t92 : T[0].toNat = 92 := by rw [g0, h92]; rfl
    subst h92
    cases l with
    | nil => simp [pPart, pEsc] at hp
    | cons x r =>
      rw [show pPart (92 :: x :: r) = .ok (.lit x, r) from rfl] at hp
      simp at hp
      obtain ⟨rfl, rfl⟩ := hp
      simp only [List.length_cons] at hTs hTl
      have i1 : 1 < T.size := by omega
      have g1 : T[1] = x := by
        have := hPT.get 1 (by rw [size_list]; exact i1) (by omega)
        simp only [Nat.zero_add] at this
        rw [this]
        simp only [hTl]
        rw [List.getElem_take]
        rfl
      have hst : (((T[1].toNat : Nat) : Int) == ((d.toNat : Nat) : Int)) = (d == x) := by rw [g1, u8_beq, Bool.beq_comm]
      have hm : (Part.lit x).may d = (d == x) := rfl
      rw [hm, ← hst]
      clear hT hTl g0 g1 hPT hm hst
      go_enter Tryz.func140, Tryz.ntmps140
      go_wp2_with fail
      go_ret
      exact ⟨rfl, 0, rfl⟩
  have t92 : ¬ T[0].toNat = 92 := by rw [g0]; exact fun e => h92 (UInt8.toNat_inj.mp (by simpa using e))
  by_cases h91 : c = 91
  · have t91 : T[0].toNat = 91 := by rw [g0, h91]; rfl
    subst h91
    have hpb : pBracket l = .ok (p, q) := hp
    rw [pBracket_of] at hpb
    cases hc : pCls (inside l) with
    | error e => rw [hc] at hpb; simp [brOf] at hpb
    | ok y =>
      obtain ⟨xs, q1⟩ := y
      rw [hc] at hpb
      cases xs with
      | nil => simp [brOf] at hpb
      | cons x xs =>
        simp [brOf] at hpb
        obtain ⟨hpp, rfl⟩ := hpb
        obtain ⟨t, ht, _, hsp⟩ := cls_text _ _ _ _ hc
        by_cases hh : l.head? = some 94
        · obtain ⟨r, rfl⟩ : ∃ r, l = 94 :: r := by
            cases l with
            | nil => simp at hh
            | cons x r => simp at hh; exact ⟨r, by rw [hh]⟩
          have hr : r = t ++ 93 :: q1 := by
            rw [← ht]
            rfl
          subst hr
          have hTt : T.data.toList = 91 :: 94 :: (t ++ [93]) := by
            rw [hT, partText, toList_mk]
            exact text_take (91 :: 94 :: t) 93 q1
          have hTz : T.size = t.length + 3 := by rw [← size_list, hTt]; simp
          have i1 : 1 < T.size := by omega
          have g1 : T[1].toNat = 94 := by
            have := hPT.get 1 (by rw [size_list]; exact i1) (by omega)
            simp only [Nat.zero_add] at this
            rw [this]
            simp only [hTt]
            rfl
          have hsl : ∀ W : World, (Instr.slice 9 (.string T) (some (.int .i64 2)) (some (.int .i64 (((T.size : Nat) : Int) - 1))) none).run Tryz.prog W = .ok (.string ⟨t.toArray⟩) W := fun W => by
            have := slice_mid T 2 (T.size - 1) (by omega) (by omega) W t (by rw [hTt, hTz]; simp)
            rw [show ((T.size - 1 : Nat) : Int) = ((T.size : Nat) : Int) - 1 by omega] at this
            exact this
          have HC := hide (fun W => inClass_any ⟨t.toArray⟩ d W (by rw [size_mk]; simp at hs; omega))
          have hval : (spansF ((⟨t.toArray⟩ : ByteArray).size + 1) (⟨t.toArray⟩ : ByteArray).data.toList) = x :: xs := by rw [toList_mk, size_mk]; exact hsp _ (by omega)
          rw [hval] at HC
          have hm : p.may d = !((x :: xs).any (inSpan d)) := by
            rw [← hpp]
            simp [Part.may]
          rw [hm]
          generalize (x :: xs).any (inSpan d) = R at *
          generalize (⟨t.toArray⟩ : ByteArray) = TT at *
          have hTb : T.size ≤ 70 := by simp at hs; omega
          clear hT hTl hTt hPT g0 hval hm hpp hc hp ht hsp hh hTs hTz hq
          go_enter Tryz.func140, Tryz.ntmps140
          go_wp2_with fail
          refine (HC.out _).mono ?_
          rintro e w1 ⟨rfl, nn, rfl⟩
          go_wp2_with fail
          go_ret
          exact ⟨rfl, _, rfl⟩
        · have hin : inside l = l := by unfold inside; rw [if_neg hh]
          rw [hin] at ht
          subst ht
          have hTt : T.data.toList = 91 :: (t ++ [93]) := by
            rw [hT, partText, toList_mk]
            exact text_take (91 :: t) 93 q1
          have hTz : T.size = t.length + 2 := by rw [← size_list, hTt]; simp
          have i1 : 1 < T.size := by omega
          have g1 : ¬ T[1].toNat = 94 := by
            have := hPT.get 1 (by rw [size_list]; exact i1) (by omega)
            simp only [Nat.zero_add] at this
            rw [this]
            simp only [hTt]
            intro e
            apply hh
            cases t with
            | nil => simp at e
            | cons y t =>
              simp at e ⊢
              exact UInt8.toNat_inj.mp (by simpa using e)
          have hsl : ∀ W : World, (Instr.slice 9 (.string T) (some (.int .i64 1)) (some (.int .i64 (((T.size : Nat) : Int) - 1))) none).run Tryz.prog W = .ok (.string ⟨t.toArray⟩) W := fun W => by
            have := slice_mid T 1 (T.size - 1) (by omega) (by omega) W t (by rw [hTt, hTz]; simp)
            rw [show ((T.size - 1 : Nat) : Int) = ((T.size : Nat) : Int) - 1 by omega] at this
            exact this
          have HC := hide (fun W => inClass_any ⟨t.toArray⟩ d W (by rw [size_mk]; simp at hs; omega))
          have hval : (spansF ((⟨t.toArray⟩ : ByteArray).size + 1) (⟨t.toArray⟩ : ByteArray).data.toList) = x :: xs := by rw [toList_mk, size_mk]; exact hsp _ (by omega)
          rw [hval] at HC
          have hm : p.may d = (x :: xs).any (inSpan d) := by
            rw [← hpp]
            have hh2 : ((t ++ 93 :: q1).head? == some 94) = false := by rw [beq_eq_false_iff_ne]; exact hh
            simp only [Part.may, hh2]
            simp
          rw [hm]
          generalize (x :: xs).any (inSpan d) = R at *
          generalize (⟨t.toArray⟩ : ByteArray) = TT at *
          have hTb : T.size ≤ 70 := by simp at hs; omega
          clear hT hTl hTt hPT g0 hval hm hpp hc hp hsp hh hTs hTz hq hin
          go_enter Tryz.func140, Tryz.ntmps140
          go_wp2_with fail
          refine (HC.out _).mono ?_
          rintro e w1 ⟨rfl, nn, rfl⟩
          go_wp2_with fail
          go_ret
          exact ⟨rfl, _, rfl⟩
  · have t91 : ¬ T[0].toNat = 91 := by rw [g0]; exact fun e => h91 (UInt8.toNat_inj.mp (by simpa using e))
    have hpl : p = .lit c := by
      rw [pPart, if_neg h42, if_neg h63, if_neg h91, if_neg h92] at hp
      simp at hp
      exact hp.1.symm
    have hst : (((T[0].toNat : Nat) : Int) == ((d.toNat : Nat) : Int)) = (d == c) := by rw [g0, u8_beq, Bool.beq_comm]
    have hm : p.may d = (d == c) := by rw [hpl]; rfl
    rw [hm, ← hst]
    clear hT hTl g0 hPT hm hst hpl hp hTs
    go_enter Tryz.func140, Tryz.ntmps140
    go_wp2_with fail
    go_ret
    exact ⟨rfl, 0, rfl⟩
end Go.Proofs.YtcidoodaiimhfaaGreat

/- WALK of the reference's match: the places of the parts. -/
namespace Go.Proofs.YtcidoodaiimhfaaGreat
open Go.RowKit

/-- the parts of a pattern, each with what is left from its beginning on -/
inductive Steps : List UInt8 → List (List UInt8 × Part) → Prop
  | nil : Steps [] []
  | cons {l q : List UInt8} {p : Part} {rest : List (List UInt8 × Part)} : pPart l = .ok (p, q) → Steps q rest → Steps l ((l, p) :: rest)
theorem steps_of : ∀ (f : Nat) (l : List UInt8) (ps : List Part), pPartsF f l = .ok ps → ∃ st, Steps l st ∧ st.map Prod.snd = ps ∧ st.length ≤ l.length
  | f, [], ps, h => by rw [pPartsF] at h; simp at h; subst h; exact ⟨[], .nil, rfl, by simp⟩
  | 0, c :: l, ps, h => by rw [pPartsF] at h; simp at h
  | f + 1, c :: l, ps, h => by
    rw [pPartsF] at h
    cases hp : pPart (c :: l) with
    | error e => rw [hp] at h; simp at h
    | ok y =>
      obtain ⟨p, q⟩ := y
      rw [hp] at h
      simp only at h
      cases hr : pPartsF f q with
      | error e => rw [hr] at h; simp at h
      | ok ps' =>
        rw [hr] at h
        simp at h
        subst h
        obtain ⟨st, s1, s2, s3⟩ := steps_of f q ps' hr
        have := (pPart_suffix hp).2
        exact ⟨(c :: l, p) :: st, .cons hp s1, by simp [s2], by simp at this ⊢; omega⟩
theorem Steps.inv {l : List UInt8} {x : List UInt8 × Part} {rest : List (List UInt8 × Part)} (h : Steps l (x :: rest)) : x.1 = l ∧ ∃ c r q, l = c :: r ∧ pPart l = .ok (x.2, q) ∧ Steps q rest := by
  cases h with
  | cons hp hs =>
    refine ⟨rfl, ?_⟩
    cases l with
    | nil => simp [pPart] at hp
    | cons c r => exact ⟨c, r, _, rfl, hp, hs⟩
theorem Steps.none {l : List UInt8} (h : Steps l []) : l = [] := by
  cases h
  rfl
theorem Steps.at {l : List UInt8} {d t : List (List UInt8 × Part)} (h : Steps l (d ++ t)) : ∃ l', Steps l' t ∧ l' <:+ l := by
  induction d generalizing l with
  | nil => exact ⟨l, h, List.suffix_refl _⟩
  | cons x d ih =>
    obtain ⟨_, c, r, q, rfl, hp, hs⟩ := h.inv
    obtain ⟨l', h1, h2⟩ := ih hs
    exact ⟨l', h1, h2.trans (pPart_suffix hp).1⟩
theorem infoInt : (Tryz.prog.info? 3).map (fun i => (i.zero, i.size, i.bytes)) = some (some (.int .i64 0), 1, 8) := by kernel_rfl
theorem infoBool : (Tryz.prog.info? 4).map (fun i => (i.zero, i.size, i.bytes)) = some (some (.bool false), 1, 1) := by kernel_rfl
def placeRow (s : ByteArray) (st : List (List UInt8 × Part)) : List Value := st.map fun x => .int .i64 ((s.size - x.1.length : Nat) : Int)
/-- one step back: what a part and all behind it match -/
theorem mat_back_star {P : List Part} {k : Nat} {s : List UInt8} (hk : k < P.length) (hm : P[k].many = true) (i : Nat) (hi : i ≤ s.length) :
    mat (P.drop k) (s.drop i) = (mat (P.drop (k + 1)) (s.drop i) || (decide (i < s.length) && mat (P.drop k) (s.drop (i + 1)))) := by
  rw [mat_star hk hm]
  by_cases h : i < s.length
  · rw [starMat_drop _ _ _ h, mat_star hk hm]
    simp [h]
  · have : s.drop i = [] := List.drop_eq_nil_of_le (by omega)
    rw [this, starMat]
    simp [h]
theorem mat_back_one {P : List Part} {k : Nat} {s : List UInt8} (hk : k < P.length) (hm : P[k].many = false) (i : Nat) (hi : i < s.length) : mat (P.drop k) (s.drop i) = (P[k].may s[i] && mat (P.drop (k + 1)) (s.drop (i + 1))) := mat_one hk hm hi
theorem mat_back_end {P : List Part} {k : Nat} {s : List UInt8} (hk : k < P.length) (hm : P[k].many = false) : mat (P.drop k) (s.drop s.length) = false := by
  rw [List.drop_length, mat_nil, drop_cons P k hk, List.all_cons, hm]
  rfl

theorem nowStep {f : Nat → Bool} {i : Nat} {b : Bool} (h : f i = b) (j : Nat) : (if j = i then Value.bool b else .bool (if i + 1 ≤ j then f j else false)) = .bool (if i ≤ j then f j else false) := by
  by_cases hj : j = i
  · subst hj
    rw [if_pos rfl, if_pos (Nat.le_refl _), h]
  · rw [if_neg hj]
    by_cases hij : i ≤ j
    · rw [if_pos hij, if_pos (by omega)]
    · rw [if_neg hij, if_neg (by omega)]
theorem part_many {c : UInt8} {l q : List UInt8} {p : Part} (h : pPart (c :: l) = .ok (p, q)) : p.many = (c == 42) := by
  rw [pPart] at h
  split at h
  · rename_i e; simp at h; rw [← h.1, e]; rfl
  · rename_i e
    have hc : (c == 42) = false := by simpa using e
    rw [hc]
    split at h
    · simp at h; rw [← h.1]; rfl
    · split at h
      · unfold pBracket at h
        split at h
        · simp at h
        · simp at h
        · simp at h; rw [← h.1]; rfl
      · split at h
        · cases l with
          | nil => simp [pEsc] at h
          | cons d r => simp [pEsc] at h; rw [← h.1]; rfl
        · simp at h; rw [← h.1]; rfl
theorem part_star {c : UInt8} {l q : List UInt8} {p : Part} (h : pPart (c :: l) = .ok (p, q)) : ((partText (c :: l) q).toList == [42]) = (c == 42) := by
  have hq := (pPart_suffix h).2
  rw [ByteArray.toList_eq, partText, toList_mk]
  obtain ⟨m, hm⟩ : ∃ m, (c :: l).length - q.length = m + 1 := ⟨(c :: l).length - q.length - 1, by omega⟩
  rw [hm, List.take_succ_cons]
  by_cases hc : c = 42
  · subst hc
    rw [show pPart (42 :: l) = .ok (.star, l) from rfl] at h
    simp at h
    rw [← h.2] at hm
    simp at hm
    subst hm
    rfl
  · have h1 : (c == 42) = false := by simpa using hc
    rw [h1]
    show (c == 42 && _) = false
    rw [h1]
    rfl

set_option maxRecDepth 100000 in
set_option maxHeartbeats 2000000 in
theorem isMatch_any (p s : ByteArray) (st : List (List UInt8 × Part)) (w : World) (hp : p.size ≤ 60) (hs : s.size ≤ 60) (h : Steps p.data.toList st) (hn : st.length ≤ 60) :
    Calls Tryz.prog 70 #[.string p, .string s] w fun e w' => e = .returned (.bool (mat (st.map Prod.snd) s.data.toList)) ∧ Below w.heap.size w w' := by
  obtain ⟨i0, hi, hz0, hz1, hz2⟩ := info_parts infoInt
  have hmk : ∀ W : World, (Instr.makeSlice 160 (.int .i64 (((s.size : Nat) : Int) + 1)) (.int .i64 (((s.size : Nat) : Int) + 1))).run Tryz.prog W = .ok (.slice (some ⟨W.heap.size, 0, none⟩) (s.size + 1) (s.size + 1)) (W.alloc (.cells (madeCells #[.bool false] (s.size + 1)) 4)) := fun W => by
    have := run_make_row' (P := Tryz.prog) 160 4 (.bool false) 1 Tryz.underlying160 infoBool rfl .i64 .i64 (s.size + 1) (by omega) (by omega) W
    rw [show ((s.size + 1 : Nat) : Int) = ((s.size : Nat) : Int) + 1 by omega] at this
    exact this
  have HMK := hide hmk
  have HST := hide h
  clear h hmk
  go_enter Tryz.func70, Tryz.ntmps70
  go_wp2_with fail
  go_loopw [5, 6] (fun V va wr => ∃ (i : Nat) (l : List UInt8) (d t : List (List UInt8 × Part)), va = .int .i64 i ∧ Hid (Pos p i l) ∧ st.length = d.length + t.length ∧ Hid (st = d ++ t) ∧ Hid (Steps l t) ∧ wr.ownsRow w.heap.size 3 1 V d.length (placeRow p d) ∧ Below w.heap.size w wr) (fun _ va _ => p.size + 1 - (intOf va).toNat)
  case atStart => exact ⟨0, p.data.toList, [], st, rfl, ⟨by simp, Nat.zero_le _⟩, by simp, rfl, HST, World.ownsRow_nil _ _ _ _, Below.refl _ _⟩
  case round =>
    obtain ⟨i, l, d, t, rfl, HP, hlen, HD, HS, hown, hb⟩ := hrel
    obtain ⟨ao, cp, rfl⟩ := rowSlice2 hown
    have hpl := HP.out.len
    have hzr := hb.size
    cases t with
    | cons x t =>
      obtain ⟨hx1, c, r, q, rfl, hpp, hst⟩ := HS.out.inv
      have hlt : i < p.size := by simp at hpl; omega
      have hq := (pPart_suffix hpp).2
      have HPE : Hid (∀ W, Calls Tryz.prog 139 #[.string p, .int .i64 (i : Int)] W fun e w' => e = .returned (.int .i64 ((p.size - q.length : Nat) : Int)) ∧ ∃ n, w' = W.drewN n) := fun W => partEnd_any p i c r q x.2 W HP.out hp hpp
      have HP2 := hide (HP.out.suffix (pPart_suffix hpp).1)
      have HST2 := hide hst
      have HD2 : Hid (st = (d ++ [x]) ++ t) := by rw [Hid, HD.out]; simp
      have HX : Hid (Value.int .i64 (i : Int) = .int .i64 ((p.size - x.1.length : Nat) : Int)) := by rw [Hid, hx1]; simp at hpl ⊢; omega
      have hmeas : p.size + 1 - (p.size - q.length) < p.size + 1 - i := by simp at hq hpl; omega
      clear HP HS HD hst hpp hx1
      generalize hE : p.size - q.length = E at *
      go_wp2_with (at_builtin; refine wpList_append_lies _ rfl _ _ 158 rfl w.heap.size 3 i0 (.int .i64 0) 1 8 Tryz.underlying158 hi hz0 hz1 hz2 rfl (by decide) (.slice ao d.length cp) d.length (placeRow p d) rfl (hown.alloc _) ⟨wr.heap.size, 0, none⟩ 1 1 [.int .i64 (i : Int)] rfl rfl ?c1 ?c2 (by decide) ?c3 ?c4 ?c5 (wr.heap.size + 1) ?c6 ?_)
      case c1 =>
        intro j u hj
        match j, hj with
        | 0, hj => simp at hj; subst hj; simp [Addr.add, go_sem]
        | _ + 1, hj => simp at hj
      case c2 => intro u hu; simp at hu; subst hu; rfl
      case c3 => unfold maxLen; simp at hlen; omega
      case c4 => simp at hlen; omega
      case c5 => simp; omega
      case c6 => simp
      intro g cap w4 hown4 hgrow _ _
      have hk4 : Kept (fun j => w.heap.size ≤ j) wr w4 := (((Kept.refl _ wr).alloc _).grown hgrow (fun j hj => .inl (hown.lt j hj).1))
      have hb4 : Below w.heap.size w w4 := hb.trans (hk4.below (by omega) (fun j e => e))
      have hrow : placeRow p d ++ [.int .i64 (i : Int)] = placeRow p (d ++ [x]) := by rw [HX.out]; simp [placeRow]
      rw [hrow] at hown4
      clear hk4 hgrow hown hb hrow
      go_wp2_with fail
      refine (HPE.out _).mono ?_
      rintro e w5 ⟨rfl, nn, rfl⟩
      go_wp2_with fail
      go_roundw
      case rel => exact ⟨E, q, d ++ [x], t, rfl, HP2, by simp at hlen ⊢; omega, HD2, HST2, by simpa using ((Kept.refl (fun _ => False) w4).drewN nn).owns hown4 (fun _ _ e => e), ⟨hb4.os, hb4.tape, hb4.output, hb4.size, hb4.block⟩⟩
      case measure => simp only [intOf, Int.toNat_natCast]; exact hmeas
    | nil =>
      have hd : Hid (st = d) := by have := HD.out; rw [List.append_nil] at this; exact this
      have hl0 : l = [] := HS.out.none
      subst hl0
      simp only [List.length_nil, Nat.add_zero] at hpl hlen
      have hge : ¬ ((i : Nat) : Int) < ((p.size : Nat) : Int) := by omega
      have hmk := HMK.out
      have hr0 := World.rowIs_made wr (.bool false) (s.size + 1) 4
      have c0 := hr0.cell (i := s.size) (by omega)
      have f0 := hr0.frozen s.size
      have HR1 : Hid (((wr.alloc (.cells (madeCells #[.bool false] (s.size + 1)) 4)).setCell ⟨wr.heap.size, s.size, none⟩ (.bool true)).rowIs wr.heap.size 4 (s.size + 1) (fun j => .bool (mat ((st.map Prod.snd).drop st.length) (s.data.toList.drop j)))) := (hr0.set s.size (.bool true)).congr fun j hj => by
        rw [List.drop_eq_nil_of_le (by simp), mat]
        by_cases hjs : j = s.size
        · subst hjs
          simp
        · rw [if_neg hjs]
          have : (s.data.toList.drop j).isEmpty = false := by
            rw [List.isEmpty_eq_false_iff]
            intro e
            have := congrArg List.length e
            rw [List.length_drop, size_list] at this
            simp at this
            omega
          rw [this]
      have hown1 : ((wr.alloc (.cells (madeCells #[.bool false] (s.size + 1)) 4)).setCell ⟨wr.heap.size, s.size, none⟩ (.bool true)).ownsRow w.heap.size 3 1 (.slice ao d.length cp) d.length (placeRow p d) := (((Kept.refl (fun _ => False) wr).alloc _).setCell (p := ⟨wr.heap.size, s.size, none⟩) (.inr (by simp)) _).owns hown (fun _ _ e => e)
      have hb1 : Below w.heap.size w ((wr.alloc (.cells (madeCells #[.bool false] (s.size + 1)) 4)).setCell ⟨wr.heap.size, s.size, none⟩ (.bool true)) := (hb.alloc (by omega) _).setCell (p := ⟨wr.heap.size, s.size, none⟩) (by simp only; omega) _
      rw [← hd.out] at hown1 hown
      have hEq : (wr.alloc (.cells (madeCells #[.bool false] (s.size + 1)) 4)).setCell ⟨wr.heap.size, s.size, none⟩ (.bool true) = wr.alloc (.cells ((madeCells #[.bool false] (s.size + 1)).setIfInBounds s.size (.bool true)) 4) := by simp [go_sem]
      rw [hEq] at HR1 hown1 hb1
      have HO1 := hide hown1
      have hwr : wrap64 (((st.length : Nat) : Int) - 1) = ((st.length : Nat) : Int) - 1 := by unfold wrap64; omega
      rw [hd.out] at hwr
      clear HS HP HD hr0 hown hb hlen hEq hown1
      go_wp2_with fail
      clear c0 f0 hwr
      rw [← hd.out]
      generalize hW2 : wr.alloc (.cells ((madeCells #[.bool false] (s.size + 1)).setIfInBounds s.size (.bool true)) 4) = w2 at *
      go_loopw [7, 8] (fun vr vk wk => ∃ (g k : Nat), k ≤ st.length ∧ vk = .int .i64 ((k : Int) - 1) ∧ vr = .slice (some ⟨g, 0, none⟩) (s.size + 1) (s.size + 1) ∧ Hid (wk.rowIs g 4 (s.size + 1) (fun j => .bool (mat ((st.map Prod.snd).drop k) (s.data.toList.drop j)))) ∧ Hid (wk.ownsRow w.heap.size 3 1 (.slice ao st.length cp) st.length (placeRow p st)) ∧ Below w.heap.size w wk) (fun _ vk _ => (intOf vk + 1).toNat)
      case atStart => exact ⟨wr.heap.size, st.length, Nat.le_refl _, rfl, rfl, HR1, HO1, hb1⟩
      case round =>
        clear HR1 HO1 hb1 hW2
        obtain ⟨g, k, hk, rfl, rfl, HR, HO, hb⟩ := hrel
        cases k with
        | zero =>
          have c0 := HR.out.cell (i := 0) (by omega)
          rw [List.drop_zero, List.drop_zero] at c0
          go_wp2_with fail
          go_ret
          exact ⟨rfl, hb⟩
        | succ k =>
          have hkl : k < st.length := by omega
          have hks : k < (st.map Prod.snd).length := by simpa using hkl
          obtain ⟨x, hx⟩ : ∃ x, x = st[k] := ⟨_, rfl⟩
          have hps : (st.map Prod.snd)[k] = x.2 := by simp [hx]
          have hsp : st = st.take k ++ x :: st.drop (k + 1) := by rw [hx, ← List.drop_eq_getElem_cons hkl, List.take_append_drop]
          have hS := HST.out
          rw [hsp] at hS
          obtain ⟨l', hS2, hsuf⟩ := hS.at
          obtain ⟨hx1, c, r, q, hlc, hpp, _⟩ := hS2.inv
          have hpos : Pos p (p.size - l'.length) l' := Pos.suffix (i := 0) ⟨by simp, Nat.zero_le _⟩ hsuf
          subst hlc
          have hposl := hpos.len
          have hq := (pPart_suffix hpp).2
          have hqs := (pPart_suffix hpp).1
          have HPE : Hid (∀ W, Calls Tryz.prog 139 #[.string p, .int .i64 ((p.size - (c :: r).length : Nat) : Int)] W fun e w' => e = .returned (.int .i64 ((p.size - q.length : Nat) : Int)) ∧ ∃ n, w' = W.drewN n) := fun W => partEnd_any p _ c r q x.2 W hpos hp hpp
          have hsl : ∀ W : World, (Instr.slice 9 (.string p) (some (.int .i64 ((p.size - (c :: r).length : Nat) : Int))) (some (.int .i64 ((p.size - q.length : Nat) : Int))) none).run Tryz.prog W = .ok (.string (partText (c :: r) q)) W := fun W => by
            refine slice_mid p _ _ (by omega) (by omega) W _ ?_
            rw [hpos.eq, show p.size - q.length - (p.size - (c :: r).length) = (c :: r).length - q.length by simp at hposl hq ⊢; omega]
          have HPM : Hid (c ≠ 42 → ∀ (b : UInt8) W, Calls Tryz.prog 140 #[.string (partText (c :: r) q), .int .u8 b.toNat] W fun e w' => e = .returned (.bool (x.2.may b)) ∧ ∃ n, w' = W.drewN n) := fun h42 b W => partMay_any b c r q x.2 W (by simp at hposl; omega) hpp h42
          obtain ⟨gb, hgb, hcell⟩ : ∃ gb, ao = some ⟨gb, 0, none⟩ ∧ wr.cell? ⟨gb, k, none⟩ = some (.int .i64 ((p.size - (c :: r).length : Nat) : Int)) := by
            rcases HO.out.2 with ⟨_, hz⟩ | ⟨gb, cap', cur, hv, _⟩
            · omega
            · simp at hv
              obtain ⟨rfl, rfl⟩ := hv
              refine ⟨gb, rfl, ?_⟩
              have := HO.out.cellAt k (by simp; omega)
              rw [this, placeRow, List.getElem?_map, List.getElem?_eq_getElem hkl, ← hx, ← hx1]
              rfl
          subst hgb
          have hT42 : ((partText (c :: r) q).toList == [42]) = (c == 42) := part_star hpp
          have HM42 : Hid (x.2.many = (c == 42)) := part_many hpp
          have hTS : Hid True := trivial
          clear hS hS2 hsuf hx1 hpp hpos hq hqs hsp hTS
          generalize partText (c :: r) q = T at *
          generalize hpl1 : p.size - (c :: r).length = P1 at *
          generalize hpl2 : p.size - q.length = P2 at *
          have hsmall : P2 ≤ 60 := by omega
          have hzk := hb.size
          have hidx : ((k + 1 : Nat) : Int) - 1 = ((k : Nat) : Int) := by omega
          rw [hidx]
          go_wp2_with fail
          go_quiet ((go_at_call 139; exact Calls.quiet_of (HPE.out _)))
          go_wp2_with fail
          have hglt := HR.out.lt
          have hgblt := HO.out.lt gb rfl
          obtain ⟨g2, hg2⟩ : ∃ g2, g2 = wr.heap.size := ⟨_, rfl⟩
          rw [← hg2]
          have HN0 : Hid (((wr.drewN nq).alloc (.cells (madeCells #[.bool false] (s.size + 1)) 4)).rowIs g2 4 (s.size + 1) (fun j => .bool (if s.size + 1 ≤ j then mat ((st.map Prod.snd).drop k) (s.data.toList.drop j) else false))) := by
            rw [hg2]
            exact (World.rowIs_made (wr.drewN nq) (.bool false) (s.size + 1) 4).congr fun j hj => by rw [if_neg (by omega)]
          have HG0 : Hid (((wr.drewN nq).alloc (.cells (madeCells #[.bool false] (s.size + 1)) 4)).rowIs g 4 (s.size + 1) (fun j => .bool (mat ((st.map Prod.snd).drop (k + 1)) (s.data.toList.drop j)))) := World.rowIs.alloc (w := wr.drewN nq) HR.out _
          have HO0 : Hid (((wr.drewN nq).alloc (.cells (madeCells #[.bool false] (s.size + 1)) 4)).ownsRow w.heap.size 3 1 (.slice (some ⟨gb, 0, none⟩) st.length cp) st.length (placeRow p st)) := ((((Kept.refl (fun _ => False) wr).drewN nq).alloc _)).owns HO.out (fun _ _ e => e)
          have hb0 : Below w.heap.size w ((wr.drewN nq).alloc (.cells (madeCells #[.bool false] (s.size + 1)) 4)) := Below.alloc (w := wr.drewN nq) ⟨hb.os, hb.tape, hb.output, hb.size, hb.block⟩ (by show w.heap.size ≤ wr.heap.size; omega) _
          have hwg : w.heap.size ≤ g2 := by omega
          go_loopw [11] (fun vi wn => ∃ i : Nat, i ≤ s.size + 1 ∧ vi = .int .i64 ((i : Int) - 1) ∧ Hid (wn.rowIs g2 4 (s.size + 1) (fun j => .bool (if i ≤ j then mat ((st.map Prod.snd).drop k) (s.data.toList.drop j) else false))) ∧ Hid (wn.rowIs g 4 (s.size + 1) (fun j => .bool (mat ((st.map Prod.snd).drop (k + 1)) (s.data.toList.drop j)))) ∧ Hid (wn.ownsRow w.heap.size 3 1 (.slice (some ⟨gb, 0, none⟩) st.length cp) st.length (placeRow p st)) ∧ Below w.heap.size w wn) (fun vi _ => (intOf vi + 1).toNat)
          case atStart => exact ⟨s.size + 1, Nat.le_refl _, by congr 1; omega, HN0, HG0, HO0, hb0⟩
          case round =>
            have hgne : g < g2 := by omega
            have hgbne : gb < g2 := by omega
            clear HN0 HG0 HO0 hb0 HR HO hb hglt hgblt hg2 hcell hzk
            obtain ⟨i, hi', rfl, HN, HG, HO3, hb3⟩ := hrel
            cases i with
            | zero =>
              have HN2 : Hid (wr.rowIs g2 4 (s.size + 1) (fun j => .bool (mat ((st.map Prod.snd).drop k) (s.data.toList.drop j)))) := HN.out.congr fun j hj => by rw [if_pos (Nat.zero_le _)]
              go_wp2_with fail
              go_roundw
              case rel => exact ⟨g2, k, by omega, by go_num, rfl, HN2, HO3, hb3⟩
              case measure => simp only [intOf]; omega
            | succ i =>
              have hidx2 : ((i + 1 : Nat) : Int) - 1 = ((i : Nat) : Int) := by omega
              rw [hidx2]
              have hil : i ≤ s.data.toList.length := by rw [size_list]; omega
              have hA := HG.out.cell (i := i) (by omega)
              by_cases h42 : c = 42
              · have hcb : (c == 42) = true := by simpa using h42
                rw [hcb] at hT42
                have hmm : (st.map Prod.snd)[k].many = true := by rw [hps, HM42.out]; exact hcb
                have hback := mat_back_star hks hmm i hil
                have HBK := hide hback
                clear hback
                cases hAv : mat ((st.map Prod.snd).drop (k + 1)) (s.data.toList.drop i) with
                | true =>
                  rw [hAv] at hA
                  have HV : Hid (mat ((st.map Prod.snd).drop k) (s.data.toList.drop i) = true) := by rw [Hid, HBK.out, hAv]; rfl
                  have HN2 : Hid ((wr.setCell ⟨g2, i, none⟩ (.bool true)).rowIs g2 4 (s.size + 1) (fun j => .bool (if i ≤ j then mat ((st.map Prod.snd).drop k) (s.data.toList.drop j) else false))) := (HN.out.set i (.bool true)).congr (fun j _ => nowStep (f := fun j => mat ((st.map Prod.snd).drop k) (s.data.toList.drop j)) HV.out j)
                  have HG2 : Hid ((wr.setCell ⟨g2, i, none⟩ (.bool true)).rowIs g 4 (s.size + 1) (fun j => .bool (mat ((st.map Prod.snd).drop (k + 1)) (s.data.toList.drop j)))) := HG.out.setOther (by simp only; omega) _
                  have HO2 : Hid ((wr.setCell ⟨g2, i, none⟩ (.bool true)).ownsRow w.heap.size 3 1 (.slice (some ⟨gb, 0, none⟩) st.length cp) st.length (placeRow p st)) := ((Kept.refl (one g2) wr).set1 i _).owns HO3.out (fun j hj e => by simp only [one] at e; simp [Value.ownBlock] at hj; omega)
                  have hb2 : Below w.heap.size w (wr.setCell ⟨g2, i, none⟩ (.bool true)) := hb3.setCell (p := ⟨g2, i, none⟩) (by simp only; omega) _
                  have hc2 := HN.out.cell (i := i) (by omega)
                  have hf2 := HN.out.frozen i
                  clear HN HG HO3 hb3 HV
                  go_wp2_with fail
                  go_roundw
                  case rel => exact ⟨i, by omega, by go_num, HN2, HG2, HO2, hb2⟩
                  case measure => simp only [intOf]; omega
                | false =>
                  rw [hAv] at hA
                  by_cases his : i < s.size
                  · have hB := HN.out.cell (i := i + 1) (by omega)
                    rw [if_pos (Nat.le_refl _)] at hB
                    have HBV : Hid (mat ((st.map Prod.snd).drop k) (s.data.toList.drop i) = mat ((st.map Prod.snd).drop k) (s.data.toList.drop (i + 1))) := by rw [Hid, HBK.out, hAv]; simp [his]
                    generalize hbv : mat ((st.map Prod.snd).drop k) (s.data.toList.drop (i + 1)) = BV at hB HBV
                    have HV : Hid (mat ((st.map Prod.snd).drop k) (s.data.toList.drop i) = BV) := by exact HBV.out
                    have HN2 : Hid ((wr.setCell ⟨g2, i, none⟩ (.bool BV)).rowIs g2 4 (s.size + 1) (fun j => .bool (if i ≤ j then mat ((st.map Prod.snd).drop k) (s.data.toList.drop j) else false))) := (HN.out.set i (.bool BV)).congr (fun j _ => nowStep (f := fun j => mat ((st.map Prod.snd).drop k) (s.data.toList.drop j)) HV.out j)
                    have HG2 : Hid ((wr.setCell ⟨g2, i, none⟩ (.bool BV)).rowIs g 4 (s.size + 1) (fun j => .bool (mat ((st.map Prod.snd).drop (k + 1)) (s.data.toList.drop j)))) := HG.out.setOther (by simp only; omega) _
                    have HO2 : Hid ((wr.setCell ⟨g2, i, none⟩ (.bool BV)).ownsRow w.heap.size 3 1 (.slice (some ⟨gb, 0, none⟩) st.length cp) st.length (placeRow p st)) := ((Kept.refl (one g2) wr).set1 i _).owns HO3.out (fun j hj e => by simp only [one] at e; simp [Value.ownBlock] at hj; omega)
                    have hb2 : Below w.heap.size w (wr.setCell ⟨g2, i, none⟩ (.bool BV)) := hb3.setCell (p := ⟨g2, i, none⟩) (by simp only; omega) _
                    have hc2 := HN.out.cell (i := i) (by omega)
                    have hf2 := HN.out.frozen i
                    clear HN HG HO3 hb3 HV
                    go_wp2_with fail
                    go_roundw
                    case rel => exact ⟨i, by omega, by go_num, HN2, HG2, HO2, hb2⟩
                    case measure => simp only [intOf]; omega
                  · have hise : ¬ ((i : Nat) : Int) < ((s.size : Nat) : Int) := by omega
                    have HV : Hid (mat ((st.map Prod.snd).drop k) (s.data.toList.drop i) = false) := by rw [Hid, HBK.out, hAv]; simp; omega
                    have HN2 : Hid ((wr.setCell ⟨g2, i, none⟩ (.bool false)).rowIs g2 4 (s.size + 1) (fun j => .bool (if i ≤ j then mat ((st.map Prod.snd).drop k) (s.data.toList.drop j) else false))) := (HN.out.set i (.bool false)).congr (fun j _ => nowStep (f := fun j => mat ((st.map Prod.snd).drop k) (s.data.toList.drop j)) HV.out j)
                    have HG2 : Hid ((wr.setCell ⟨g2, i, none⟩ (.bool false)).rowIs g 4 (s.size + 1) (fun j => .bool (mat ((st.map Prod.snd).drop (k + 1)) (s.data.toList.drop j)))) := HG.out.setOther (by simp only; omega) _
                    have HO2 : Hid ((wr.setCell ⟨g2, i, none⟩ (.bool false)).ownsRow w.heap.size 3 1 (.slice (some ⟨gb, 0, none⟩) st.length cp) st.length (placeRow p st)) := ((Kept.refl (one g2) wr).set1 i _).owns HO3.out (fun j hj e => by simp only [one] at e; simp [Value.ownBlock] at hj; omega)
                    have hb2 : Below w.heap.size w (wr.setCell ⟨g2, i, none⟩ (.bool false)) := hb3.setCell (p := ⟨g2, i, none⟩) (by simp only; omega) _
                    have hc2 := HN.out.cell (i := i) (by omega)
                    have hf2 := HN.out.frozen i
                    clear HN HG HO3 hb3 HV
                    go_wp2_with fail
                    go_roundw
                    case rel => exact ⟨i, by omega, by go_num, HN2, HG2, HO2, hb2⟩
                    case measure => simp only [intOf]; omega
              · have hcb : (c == 42) = false := by simpa using h42
                rw [hcb] at hT42
                have hmm : (st.map Prod.snd)[k].many = false := by rw [hps, HM42.out]; exact hcb
                by_cases his : i < s.size
                · have hisl : i < s.data.toList.length := by rw [size_list]; exact his
                  have HBK := hide (mat_back_one hks hmm i hisl)
                  have hsg : s.data.toList[i] = s[i] := rfl
                  rw [hps, hsg] at HBK
                  have HPM2 := hide (fun W => HPM.out h42 s[i] W)
                  generalize hmv : x.2.may s[i] = MV at HBK HPM2
                  clear hA
                  go_wp2_with fail
                  refine (HPM2.out _).mono ?_
                  rintro e w9 ⟨rfl, nn, rfl⟩
                  cases MV with
                  | false =>
                    have HV : Hid (mat ((st.map Prod.snd).drop k) (s.data.toList.drop i) = false) := by rw [Hid, HBK.out]; rfl
                    have HN2 : Hid (((wr.drewN nn).setCell ⟨g2, i, none⟩ (.bool false)).rowIs g2 4 (s.size + 1) (fun j => .bool (if i ≤ j then mat ((st.map Prod.snd).drop k) (s.data.toList.drop j) else false))) := (World.rowIs.set (w := (wr.drewN nn)) HN.out i (.bool false)).congr (fun j _ => nowStep (f := fun j => mat ((st.map Prod.snd).drop k) (s.data.toList.drop j)) HV.out j)
                    have HG2 : Hid (((wr.drewN nn).setCell ⟨g2, i, none⟩ (.bool false)).rowIs g 4 (s.size + 1) (fun j => .bool (mat ((st.map Prod.snd).drop (k + 1)) (s.data.toList.drop j)))) := World.rowIs.setOther (w := (wr.drewN nn)) HG.out (by simp only; omega) _
                    have HO2 : Hid (((wr.drewN nn).setCell ⟨g2, i, none⟩ (.bool false)).ownsRow w.heap.size 3 1 (.slice (some ⟨gb, 0, none⟩) st.length cp) st.length (placeRow p st)) := (((Kept.refl (one g2) wr).drewN nn).set1 i _).owns HO3.out (fun j hj e => by simp only [one] at e; simp [Value.ownBlock] at hj; omega)
                    have hb2 : Below w.heap.size w ((wr.drewN nn).setCell ⟨g2, i, none⟩ (.bool false)) := Below.setCell (w := (wr.drewN nn)) ⟨hb3.os, hb3.tape, hb3.output, hb3.size, hb3.block⟩ (p := ⟨g2, i, none⟩) (by simp only; omega) _
                    have hc2 : ((wr.drewN nn)).cell? ⟨g2, i, none⟩ = _ := HN.out.cell (i := i) (by omega)
                    have hf2 : ((wr.drewN nn)).frozen? ⟨g2, i, none⟩ = false := HN.out.frozen i
                    clear HN HG HO3 hb3 HV
                    go_wp2_with fail
                    go_roundw
                    case rel => exact ⟨i, by omega, by go_num, HN2, HG2, HO2, hb2⟩
                    case measure => simp only [intOf]; omega
                  | true =>
                    have hB : (wr.drewN nn).cell? ⟨g, i + 1, none⟩ = some (.bool (mat ((st.map Prod.snd).drop (k + 1)) (s.data.toList.drop (i + 1)))) := HG.out.cell (i := i + 1) (by omega)
                    have HBV : Hid (mat ((st.map Prod.snd).drop k) (s.data.toList.drop i) = mat ((st.map Prod.snd).drop (k + 1)) (s.data.toList.drop (i + 1))) := by rw [Hid, HBK.out]; rfl
                    generalize hbv : mat ((st.map Prod.snd).drop (k + 1)) (s.data.toList.drop (i + 1)) = BV at hB HBV
                    have HV : Hid (mat ((st.map Prod.snd).drop k) (s.data.toList.drop i) = BV) := by exact HBV.out
                    have HN2 : Hid (((wr.drewN nn).setCell ⟨g2, i, none⟩ (.bool BV)).rowIs g2 4 (s.size + 1) (fun j => .bool (if i ≤ j then mat ((st.map Prod.snd).drop k) (s.data.toList.drop j) else false))) := (World.rowIs.set (w := (wr.drewN nn)) HN.out i (.bool BV)).congr (fun j _ => nowStep (f := fun j => mat ((st.map Prod.snd).drop k) (s.data.toList.drop j)) HV.out j)
                    have HG2 : Hid (((wr.drewN nn).setCell ⟨g2, i, none⟩ (.bool BV)).rowIs g 4 (s.size + 1) (fun j => .bool (mat ((st.map Prod.snd).drop (k + 1)) (s.data.toList.drop j)))) := World.rowIs.setOther (w := (wr.drewN nn)) HG.out (by simp only; omega) _
                    have HO2 : Hid (((wr.drewN nn).setCell ⟨g2, i, none⟩ (.bool BV)).ownsRow w.heap.size 3 1 (.slice (some ⟨gb, 0, none⟩) st.length cp) st.length (placeRow p st)) := (((Kept.refl (one g2) wr).drewN nn).set1 i _).owns HO3.out (fun j hj e => by simp only [one] at e; simp [Value.ownBlock] at hj; omega)
                    have hb2 : Below w.heap.size w ((wr.drewN nn).setCell ⟨g2, i, none⟩ (.bool BV)) := Below.setCell (w := (wr.drewN nn)) ⟨hb3.os, hb3.tape, hb3.output, hb3.size, hb3.block⟩ (p := ⟨g2, i, none⟩) (by simp only; omega) _
                    have hc2 : ((wr.drewN nn)).cell? ⟨g2, i, none⟩ = _ := HN.out.cell (i := i) (by omega)
                    have hf2 : ((wr.drewN nn)).frozen? ⟨g2, i, none⟩ = false := HN.out.frozen i
                    clear HN HG HO3 hb3 HV
                    go_wp2_with fail
                    go_roundw
                    case rel => exact ⟨i, by omega, by go_num, HN2, HG2, HO2, hb2⟩
                    case measure => simp only [intOf]; omega
                · have hise : ¬ ((i : Nat) : Int) < ((s.size : Nat) : Int) := by omega
                  have hie : i = s.data.toList.length := by rw [size_list]; omega
                  have HV : Hid (mat ((st.map Prod.snd).drop k) (s.data.toList.drop i) = false) := by rw [Hid, hie]; exact mat_back_end hks hmm
                  have HN2 : Hid ((wr.setCell ⟨g2, i, none⟩ (.bool false)).rowIs g2 4 (s.size + 1) (fun j => .bool (if i ≤ j then mat ((st.map Prod.snd).drop k) (s.data.toList.drop j) else false))) := (World.rowIs.set (w := wr) HN.out i (.bool false)).congr (fun j _ => nowStep (f := fun j => mat ((st.map Prod.snd).drop k) (s.data.toList.drop j)) HV.out j)
                  have HG2 : Hid ((wr.setCell ⟨g2, i, none⟩ (.bool false)).rowIs g 4 (s.size + 1) (fun j => .bool (mat ((st.map Prod.snd).drop (k + 1)) (s.data.toList.drop j)))) := World.rowIs.setOther (w := wr) HG.out (by simp only; omega) _
                  have HO2 : Hid ((wr.setCell ⟨g2, i, none⟩ (.bool false)).ownsRow w.heap.size 3 1 (.slice (some ⟨gb, 0, none⟩) st.length cp) st.length (placeRow p st)) := ((Kept.refl (one g2) wr).set1 i _).owns HO3.out (fun j hj e => by simp only [one] at e; simp [Value.ownBlock] at hj; omega)
                  have hb2 : Below w.heap.size w (wr.setCell ⟨g2, i, none⟩ (.bool false)) := Below.setCell (w := wr) ⟨hb3.os, hb3.tape, hb3.output, hb3.size, hb3.block⟩ (p := ⟨g2, i, none⟩) (by simp only; omega) _
                  have hc2 : (wr).cell? ⟨g2, i, none⟩ = _ := HN.out.cell (i := i) (by omega)
                  have hf2 : (wr).frozen? ⟨g2, i, none⟩ = false := HN.out.frozen i
                  clear HN HG HO3 hb3 HV hie hil hA
                  go_wp2_with fail
                  go_roundw
                  case rel => exact ⟨i, by omega, by go_num, HN2, HG2, HO2, hb2⟩
                  case measure => simp only [intOf]; omega
end Go.Proofs.YtcidoodaiimhfaaGreat

/- WALKS of the reference: SweepOf, LookOf, KeysOf. -/
namespace Go.Proofs.YtcidoodaiimhfaaGreat
open Go.RowKit

/-- a row of entries whose lists lie in elder memory -/
structure RefSp (B : Nat) (w0 w : World) (V : Value) (l : List (Ent × Sls)) : Prop where
  row : w.ownsRow B 45 7 V l.length (rowE l)
  its : ∀ y ∈ l, ItemIs w0 (itemV y.1.item y.2) y.1.item
theorem RefSp.at {B : Nat} {w0 w : World} {V : Value} {l : List (Ent × Sls)} (h : RefSp B w0 w V l) (hb : Below w0.heap.size w0 w) : ∃ a c, V = .slice a l.length c ∧ SpaceAt w a (l.map Prod.fst) := by
  rcases h.row.2 with ⟨rfl, h0⟩ | ⟨g, cp, cur, rfl, hg, _⟩
  · obtain rfl : l = [] := List.eq_nil_of_length_eq_zero h0
    exact ⟨none, 0, rfl, .inl rfl⟩
  · refine ⟨some ⟨g, 0, none⟩, cp, rfl, .inr ⟨g, 0, rfl, fun i hi => ?_⟩⟩
    have hi' : i < l.length := by simpa using hi
    have hmem : l[i] ∈ l := List.getElem_mem hi'
    have hit := (h.its _ hmem).below hb
    have hc : ∀ j, j < 7 → w.cell? ⟨g, 0 + i * 7 + j, none⟩ = (cellsE l[i])[j]? := fun j hj => by
      rw [Nat.zero_add, h.row.cellAt (i * 7 + j) (by omega)]
      exact rowE_get l i j hi' hj
    have hc0 : w.cell? ⟨g, 0 + i * 7, none⟩ = (cellsE l[i])[0]? := hc 0 (by omega)
    rw [List.getElem_map]
    exact ⟨l[i].2.1.1, l[i].2.1.2, l[i].2.2.1.1, l[i].2.2.1.2, l[i].2.2.2.1, l[i].2.2.2.2, ⟨hc0, hc 1 (by omega), hc 2 (by omega), hc 3 (by omega), hc 4 (by omega), hc 5 (by omega), hc 6 (by omega)⟩, hit⟩
theorem sweep_take (s : List Ent) (now : Int) (k : Nat) (hk : k < s.length) : sweepS (s.take (k + 1)) now = if goneE s[k] now = true then sweepS (s.take k) now else sweepS (s.take k) now ++ [s[k]] := by
  unfold sweepS
  rw [List.take_succ_eq_append_getElem hk, List.filter_append]
  cases hq : goneE s[k] now <;> simp [hq]
set_option maxRecDepth 100000 in
set_option maxHeartbeats 4000000 in
theorem sweepOf_any (a : Option Addr) (c : Nat) (s : List Ent) (now : Int) (w : World) (hs : SpaceAt w a s) (hn : s.length ≤ 1000000) :
    Calls Tryz.prog 18 #[.slice a s.length c, .int .i64 now] w fun e w' => (∃ ao co, e = .returned (.slice ao (sweepS s now).length co) ∧ SpaceAt w' ao (sweepS s now)) ∧ Below w.heap.size w w' := by
  obtain ⟨iE, hi, hz0, hzE, hz2⟩ := info_parts infoEnt
  have HS := hide hs
  clear hs
  go_enter Tryz.func18, Tryz.ntmps18
  go_wp2_with fail
  go_loopw [5, 6] (fun V iv wr => ∃ (k : Nat) (l : List (Ent × Sls)), k ≤ s.length ∧ iv = .int .i64 k ∧ l.length ≤ k ∧ Hid (l.map Prod.fst = sweepS (s.take k) now) ∧ RefSp w.heap.size w wr V l ∧ Below w.heap.size w wr) (fun _ iv _ => s.length - (intOf iv).toNat)
  case atStart => exact ⟨0, [], Nat.zero_le _, rfl, Nat.le_refl _, rfl, ⟨World.ownsRow_nil _ _ _ _, by simp⟩, Below.refl _ _⟩
  case round =>
    obtain ⟨k, l, hk, rfl, hlk, HL, hown, hbr⟩ := hrel
    have hsz := hbr.size
    by_cases hlt : k < s.length
    · have hlt' : ((k : Nat) : Int) < ((s.length : Nat) : Int) := by omega
      obtain ⟨ga, o, rfl, hcs⟩ : ∃ ga o, a = some ⟨ga, o, none⟩ ∧ ∀ i (h : i < s.length), EntAt w ga (o + i * 7) s[i] := by
        rcases HS.out with h | h
        · rw [h] at hlt; simp at hlt
        · exact h
      obtain ⟨a1, c1, a2, c2, a3, c3, ⟨d0, d1, d2, d3, d4, d5, d6⟩, hi2⟩ := (hcs k hlt).below hbr
      have hiw : ItemIs w (.agg #[.int .i64 s[k].item.k, .string s[k].item.t, .slice a1 s[k].item.l.length c1, .slice a2 s[k].item.p.length c2, .slice a3 s[k].item.s.length c3]) s[k].item := by
        obtain ⟨x1, y1, x2, y2, x3, y3, ⟨k0, k1, k2, k3, k4, k5, k6⟩, hh⟩ := hcs k hlt
        have hgl : ga < w.heap.size := World.block_lt_of_cell? _ _ k0
        have u3 := ((hbr.cell (p := ⟨ga, o + k * 7 + 3, none⟩) hgl).trans k3).symm.trans d3
        have u4 := ((hbr.cell (p := ⟨ga, o + k * 7 + 4, none⟩) hgl).trans k4).symm.trans d4
        have u5 := ((hbr.cell (p := ⟨ga, o + k * 7 + 5, none⟩) hgl).trans k5).symm.trans d5
        injection u3 with u3
        injection u4 with u4
        injection u5 with u5
        injection u3 with p1 p2 p3
        injection u4 with p4 p5 p6
        injection u5 with p7 p8 p9
        subst p1 p3 p4 p6 p7 p9
        exact hh
      have hgl : ga < wr.heap.size := World.block_lt_of_cell? _ _ d0
      have HST := hide (sweep_take s now k hlt)
      clear hcs
      generalize s[k] = X at *
      have HGN := hide (refGone_any _ X now wr ⟨a1, c1, a2, c2, a3, c3, rfl, hi2⟩)
      clear hi2
      cases hgn : goneE X now with
      | true =>
        rw [hgn] at HGN
        have HN : Hid (l.map Prod.fst = sweepS (s.take (k + 1)) now) := by rw [Hid, HST.out, if_pos hgn]; exact HL.out
        clear hgn HST HL hiw
        go_wp2_with fail
        refine HGN.out.mono ?_
        rintro e w2 ⟨rfl, hb2⟩
        have C2 := hbr.trans (hb2.mono hsz)
        have O2 : RefSp w.heap.size w w2 _ l := ⟨row_belowY hown.row hb2, hown.its⟩
        clear hb2 HGN hown
        go_wp2_with fail
        go_roundw
        case rel => exact ⟨k + 1, l, by omega, by go_num, by omega, HN.out, O2, C2⟩
        case measure => simp [intOf]; omega
      | false =>
        rw [hgn] at HGN
        have HN : Hid (∀ q : Sls, (l ++ [(X, q)]).map Prod.fst = sweepS (s.take (k + 1)) now) := fun q => by rw [HST.out, if_neg (by simp [hgn]), ← HL.out]; simp
        clear hgn HST HL
        go_wp2_with fail
        refine HGN.out.mono ?_
        rintro e w2 ⟨rfl, hb2⟩
        have C2 := hbr.trans (hb2.mono hsz)
        have f0 := (hb2.cell (p := ⟨ga, o + k * 7, none⟩) hgl).trans d0
        have f1 := (hb2.cell (p := ⟨ga, o + k * 7 + 1, none⟩) hgl).trans d1
        have f2 := (hb2.cell (p := ⟨ga, o + k * 7 + 2, none⟩) hgl).trans d2
        have f3 := (hb2.cell (p := ⟨ga, o + k * 7 + 3, none⟩) hgl).trans d3
        have f4 := (hb2.cell (p := ⟨ga, o + k * 7 + 4, none⟩) hgl).trans d4
        have f5 := (hb2.cell (p := ⟨ga, o + k * 7 + 5, none⟩) hgl).trans d5
        have f6 := (hb2.cell (p := ⟨ga, o + k * 7 + 6, none⟩) hgl).trans d6
        have R2 := row_belowY hown.row hb2
        clear hb2 HGN d0 d1 d2 d3 d4 d5 d6
        obtain ⟨W3, hW3⟩ : ∃ W3, w2.alloc (.cells #[.string X.key, .int .i64 X.item.k, .string X.item.t, .slice a1 X.item.l.length c1, .slice a2 X.item.p.length c2, .slice a3 X.item.s.length c3, .int .i64 X.til] 45) = W3 := ⟨_, rfl⟩
        have A3 : W3.heap[w2.heap.size]? = some (.cells #[.string X.key, .int .i64 X.item.k, .string X.item.t, .slice a1 X.item.l.length c1, .slice a2 X.item.p.length c2, .slice a3 X.item.s.length c3, .int .i64 X.til] 45 (0, 0)) := hW3 ▸ allocY_new w2 _
        have R3 : W3.ownsRow w.heap.size 45 7 _ l.length (rowE l) := hW3 ▸ R2.alloc _
        have C3 : Below w.heap.size w W3 := hW3 ▸ C2.alloc C2.size _
        clear R2
        go_wp2_with (at_builtin; refine wpList_append_own _ rfl _ _ 23 rfl w.heap.size 45 iE (.agg #[.string ⟨#[]⟩, .int .i64 0, .string ⟨#[]⟩, .slice none 0 0, .slice none 0 0, .slice none 0 0, .int .i64 0]) 7 120 Tryz.underlying23 hi hz0 hzE hz2 rfl (by decide) _ _ _ rfl R3 ⟨w2.heap.size, 0, none⟩ 1 1 [.string X.key, .int .i64 X.item.k, .string X.item.t, .slice a1 X.item.l.length c1, .slice a2 X.item.p.length c2, .slice a3 X.item.s.length c3, .int .i64 X.til] rfl rfl (cells_at A3) (cellsE_one (X, ((a1, c1), (a2, c2), (a3, c3)))) (by unfold maxLen; omega) (by omega) C3.size ?_)
        intro v5 w5 hown5 hgrow _
        have C5 : Below w.heap.size w w5 := C3.grown hgrow C3.size (fun j hj => (R3.lt j hj).1)
        have O5 : RefSp w.heap.size w w5 v5 (l ++ [(X, ((a1, c1), (a2, c2), (a3, c3)))]) := ⟨by simpa [rowE_snoc, cellsE] using hown5, fun y hy => by
          rcases List.mem_append.1 hy with hy | hy
          · exact hown.its y hy
          · rw [List.mem_singleton.1 hy]; exact hiw⟩
        clear hown hown5 hgrow R3 A3 C3 hW3 hiw f0 f1 f2 f3 f4 f5 f6
        go_wp2_with fail
        go_roundw
        case rel => exact ⟨k + 1, _, by omega, by go_num, by simp; omega, HN.out _, O5, C5⟩
        case measure => simp [intOf]; omega
    · have hge : ¬ ((k : Nat) : Int) < ((s.length : Nat) : Int) := by omega
      obtain rfl : k = s.length := by omega
      rw [List.take_length] at HL
      obtain ⟨ao, co, rfl, hsp⟩ := hown.at hbr
      rw [HL.out] at hsp
      have hll : l.length = (sweepS s now).length := by rw [← HL.out, List.length_map]
      rw [hll]
      clear hown HL hll
      go_wp2_with fail
      go_ret
      exact ⟨⟨_, ⟨_, rfl⟩, hsp⟩, hbr⟩
/-- the entry that is looked for -/
def lookD (s : List Ent) (now : Int) (key : ByteArray) : Ent := (lookE s now key).getD Ent.none
theorem look_step (s : List Ent) (now : Int) (key : ByteArray) (k : Nat) (hk : k < s.length) : lookE (s.drop k) now key = if thereE key now s[k] = true then some s[k] else lookE (s.drop (k + 1)) now key := by
  unfold lookE
  rw [List.drop_eq_getElem_cons hk, List.find?_cons]
  cases thereE key now s[k] <;> simp
set_option maxRecDepth 100000 in
set_option maxHeartbeats 4000000 in
theorem lookOf_any (a : Option Addr) (c : Nat) (s : List Ent) (now : Int) (key : ByteArray) (w0 w : World) (h0 : Below w0.heap.size w0 w) (hs : SpaceAt w0 a s) (hn : s.length ≤ 1000000) :
    Calls Tryz.prog 15 #[.slice a s.length c, .int .i64 now, .string key] w fun e w' => (∃ v, e = .returned v ∧ EntIs w0 v (lookD s now key)) ∧ Below w.heap.size w w' := by
  have HS := hide hs
  clear hs
  obtain ⟨W1, hW1⟩ : ∃ W1, w.alloc (.cells #[.string ⟨#[]⟩, .int .i64 0, .string ⟨#[]⟩, .slice none 0 0, .slice none 0 0, .slice none 0 0, .int .i64 0] 45) = W1 := ⟨_, rfl⟩
  have B1 : Below w.heap.size w W1 := hW1 ▸ (Below.refl _ w).alloc (Nat.le_refl _) _
  have G1 : W1.heap[w.heap.size]? = some (.cells #[.string ⟨#[]⟩, .int .i64 0, .string ⟨#[]⟩, .slice none 0 0, .slice none 0 0, .slice none 0 0, .int .i64 0] 45 (0, 0)) := hW1 ▸ allocY_new w _
  go_enter Tryz.func15, Tryz.ntmps15
  go_wp2_with fail
  go_loopw [7] (fun iv wr => ∃ k : Nat, k ≤ s.length ∧ iv = .int .i64 k ∧ Hid (lookE s now key = lookE (s.drop k) now key) ∧ Hid (wr.heap[w.heap.size]? = some (.cells #[.string ⟨#[]⟩, .int .i64 0, .string ⟨#[]⟩, .slice none 0 0, .slice none 0 0, .slice none 0 0, .int .i64 0] 45 (0, 0))) ∧ Below w.heap.size w wr) (fun iv _ => s.length - (intOf iv).toNat)
  case atStart => exact ⟨0, Nat.zero_le _, rfl, by simp [Hid], G1, B1⟩
  case round =>
    clear hW1 G1 B1
    obtain ⟨k, hk, rfl, HL, HG, hbr⟩ := hrel
    have hsz := hbr.size
    have hxl : w.heap.size < wr.heap.size := (Array.getElem?_eq_some_iff.1 HG.out).1
    by_cases hlt : k < s.length
    · have hlt' : ((k : Nat) : Int) < ((s.length : Nat) : Int) := by omega
      have hbz : Below w0.heap.size w0 wr := h0.trans (hbr.mono h0.size)
      obtain ⟨ga, o, rfl, hcs⟩ : ∃ ga o, a = some ⟨ga, o, none⟩ ∧ ∀ i (h : i < s.length), EntAt w0 ga (o + i * 7) s[i] := by
        rcases HS.out with h | h
        · rw [h] at hlt; simp at hlt
        · exact h
      obtain ⟨a1, c1, a2, c2, a3, c3, ⟨d0, d1, d2, d3, d4, d5, d6⟩, hi2⟩ := (hcs k hlt).below hbz
      have hiw : ItemIs w0 (.agg #[.int .i64 s[k].item.k, .string s[k].item.t, .slice a1 s[k].item.l.length c1, .slice a2 s[k].item.p.length c2, .slice a3 s[k].item.s.length c3]) s[k].item := by
        obtain ⟨x1, y1, x2, y2, x3, y3, ⟨k0, k1, k2, k3, k4, k5, k6⟩, hh⟩ := hcs k hlt
        have hgl : ga < w0.heap.size := World.block_lt_of_cell? _ _ k0
        have u3 := ((hbz.cell (p := ⟨ga, o + k * 7 + 3, none⟩) hgl).trans k3).symm.trans d3
        have u4 := ((hbz.cell (p := ⟨ga, o + k * 7 + 4, none⟩) hgl).trans k4).symm.trans d4
        have u5 := ((hbz.cell (p := ⟨ga, o + k * 7 + 5, none⟩) hgl).trans k5).symm.trans d5
        injection u3 with u3
        injection u4 with u4
        injection u5 with u5
        injection u3 with p1 p2 p3
        injection u4 with p4 p5 p6
        injection u5 with p7 p8 p9
        subst p1 p3 p4 p6 p7 p9
        exact hh
      have hgl : ga < wr.heap.size := World.block_lt_of_cell? _ _ d0
      have HST := hide (look_step s now key k hlt)
      clear hcs
      generalize s[k] = X at *
      have HGN := hide (refGone_any _ X now wr ⟨a1, c1, a2, c2, a3, c3, rfl, hi2⟩)
      have hbq := beq_fdY X.key key
      clear hi2
      by_cases hke : X.key = key
      · rw [decide_eq_true hke] at hbq
        cases hgn : goneE X now with
        | true =>
          rw [hgn] at HGN
          have HN : Hid (lookE s now key = lookE (s.drop (k + 1)) now key) := by rw [Hid, HL.out, HST.out, if_neg (by unfold thereE; simp [hgn])]
          clear hgn HST HL hiw hke
          go_wp2_with fail
          refine HGN.out.mono ?_
          rintro e w2 ⟨rfl, hb2⟩
          have C2 := hbr.trans (hb2.mono hsz)
          have G2 := hide ((hb2.block _ hxl).trans HG.out)
          clear hb2 HGN HG
          go_wp2_with fail
          go_roundw
          case rel => exact ⟨k + 1, by omega, by go_num, HN.out, G2.out, C2⟩
          case measure => simp [intOf]; omega
        | false =>
          rw [hgn] at HGN
          have HN : Hid (lookD s now key = X) := by rw [Hid]; unfold lookD; rw [HL.out, HST.out, if_pos (there_of hke hgn)]; rfl
          clear hgn HST HL hke
          go_wp2_with fail
          refine HGN.out.mono ?_
          rintro e w2 ⟨rfl, hb2⟩
          have C2 := hbr.trans (hb2.mono hsz)
          have G2 := (hb2.block _ hxl).trans HG.out
          have f0 := (hb2.cell (p := ⟨ga, o + k * 7, none⟩) hgl).trans d0
          have f1 := (hb2.cell (p := ⟨ga, o + k * 7 + 1, none⟩) hgl).trans d1
          have f2 := (hb2.cell (p := ⟨ga, o + k * 7 + 2, none⟩) hgl).trans d2
          have f3 := (hb2.cell (p := ⟨ga, o + k * 7 + 3, none⟩) hgl).trans d3
          have f4 := (hb2.cell (p := ⟨ga, o + k * 7 + 4, none⟩) hgl).trans d4
          have f5 := (hb2.cell (p := ⟨ga, o + k * 7 + 5, none⟩) hgl).trans d5
          have f6 := (hb2.cell (p := ⟨ga, o + k * 7 + 6, none⟩) hgl).trans d6
          clear hb2 HGN HG d0 d1 d2 d3 d4 d5 d6
          have p0 : w2.cell? ⟨w.heap.size, 0, none⟩ = some (.string ⟨#[]⟩) := by simp [World.cell?, G2]
          have pf0 : w2.frozen? ⟨w.heap.size, 0, none⟩ = false := by simp [World.frozen?, G2]
          have p1 : w2.cell? ⟨w.heap.size, 1, none⟩ = some (.int .i64 0) := by simp [World.cell?, G2]
          have pf1 : w2.frozen? ⟨w.heap.size, 1, none⟩ = false := by simp [World.frozen?, G2]
          have p2 : w2.cell? ⟨w.heap.size, 2, none⟩ = some (.string ⟨#[]⟩) := by simp [World.cell?, G2]
          have pf2 : w2.frozen? ⟨w.heap.size, 2, none⟩ = false := by simp [World.frozen?, G2]
          have p3 : w2.cell? ⟨w.heap.size, 3, none⟩ = some (.slice none 0 0) := by simp [World.cell?, G2]
          have pf3 : w2.frozen? ⟨w.heap.size, 3, none⟩ = false := by simp [World.frozen?, G2]
          have p4 : w2.cell? ⟨w.heap.size, 4, none⟩ = some (.slice none 0 0) := by simp [World.cell?, G2]
          have pf4 : w2.frozen? ⟨w.heap.size, 4, none⟩ = false := by simp [World.frozen?, G2]
          have p5 : w2.cell? ⟨w.heap.size, 5, none⟩ = some (.slice none 0 0) := by simp [World.cell?, G2]
          have pf5 : w2.frozen? ⟨w.heap.size, 5, none⟩ = false := by simp [World.frozen?, G2]
          have p6 : w2.cell? ⟨w.heap.size, 6, none⟩ = some (.int .i64 0) := by simp [World.cell?, G2]
          have pf6 : w2.frozen? ⟨w.heap.size, 6, none⟩ = false := by simp [World.frozen?, G2]
          have GN : (((((((w2.setCell ⟨w.heap.size, 0, none⟩ (.string X.key)).setCell ⟨w.heap.size, 1, none⟩ (.int .i64 X.item.k)).setCell ⟨w.heap.size, 2, none⟩ (.string X.item.t)).setCell ⟨w.heap.size, 3, none⟩ (.slice a1 X.item.l.length c1)).setCell ⟨w.heap.size, 4, none⟩ (.slice a2 X.item.p.length c2)).setCell ⟨w.heap.size, 5, none⟩ (.slice a3 X.item.s.length c3)).setCell ⟨w.heap.size, 6, none⟩ (.int .i64 X.til)).heap[w.heap.size]? = some (.cells #[.string X.key, .int .i64 X.item.k, .string X.item.t, .slice a1 X.item.l.length c1, .slice a2 X.item.p.length c2, .slice a3 X.item.s.length c3, .int .i64 X.til] 45 (0, 0)) := by
            rw [(setCell_heapY (setCell_heapY (setCell_heapY (setCell_heapY (setCell_heapY (setCell_heapY (setCell_heapY G2 0 _) 1 _) 2 _) 3 _) 4 _) 5 _) 6 _)]; rfl
          have BN : Below w.heap.size w (((((((w2.setCell ⟨w.heap.size, 0, none⟩ (.string X.key)).setCell ⟨w.heap.size, 1, none⟩ (.int .i64 X.item.k)).setCell ⟨w.heap.size, 2, none⟩ (.string X.item.t)).setCell ⟨w.heap.size, 3, none⟩ (.slice a1 X.item.l.length c1)).setCell ⟨w.heap.size, 4, none⟩ (.slice a2 X.item.p.length c2)).setCell ⟨w.heap.size, 5, none⟩ (.slice a3 X.item.s.length c3)).setCell ⟨w.heap.size, 6, none⟩ (.int .i64 X.til)) := (((((((C2.setCell (p := ⟨w.heap.size, 0, none⟩) (Nat.le_refl _) _).setCell (p := ⟨w.heap.size, 1, none⟩) (Nat.le_refl _) _).setCell (p := ⟨w.heap.size, 2, none⟩) (Nat.le_refl _) _).setCell (p := ⟨w.heap.size, 3, none⟩) (Nat.le_refl _) _).setCell (p := ⟨w.heap.size, 4, none⟩) (Nat.le_refl _) _).setCell (p := ⟨w.heap.size, 5, none⟩) (Nat.le_refl _) _).setCell (p := ⟨w.heap.size, 6, none⟩) (Nat.le_refl _) _)
          obtain ⟨W5, hWN⟩ : ∃ W', (((((((w2.setCell ⟨w.heap.size, 0, none⟩ (.string X.key)).setCell ⟨w.heap.size, 1, none⟩ (.int .i64 X.item.k)).setCell ⟨w.heap.size, 2, none⟩ (.string X.item.t)).setCell ⟨w.heap.size, 3, none⟩ (.slice a1 X.item.l.length c1)).setCell ⟨w.heap.size, 4, none⟩ (.slice a2 X.item.p.length c2)).setCell ⟨w.heap.size, 5, none⟩ (.slice a3 X.item.s.length c3)).setCell ⟨w.heap.size, 6, none⟩ (.int .i64 X.til)) = W' := ⟨_, rfl⟩
          rw [hWN] at GN BN
          have r0 : W5.cell? ⟨w.heap.size, 0, none⟩ = some (.string X.key) := by simp [World.cell?, GN]
          have r1 : W5.cell? ⟨w.heap.size, 1, none⟩ = some (.int .i64 X.item.k) := by simp [World.cell?, GN]
          have r2 : W5.cell? ⟨w.heap.size, 2, none⟩ = some (.string X.item.t) := by simp [World.cell?, GN]
          have r3 : W5.cell? ⟨w.heap.size, 3, none⟩ = some (.slice a1 X.item.l.length c1) := by simp [World.cell?, GN]
          have r4 : W5.cell? ⟨w.heap.size, 4, none⟩ = some (.slice a2 X.item.p.length c2) := by simp [World.cell?, GN]
          have r5 : W5.cell? ⟨w.heap.size, 5, none⟩ = some (.slice a3 X.item.s.length c3) := by simp [World.cell?, GN]
          have r6 : W5.cell? ⟨w.heap.size, 6, none⟩ = some (.int .i64 X.til) := by simp [World.cell?, GN]
          have HE : Hid (EntIs w0 (.agg #[.string X.key, .int .i64 X.item.k, .string X.item.t, .slice a1 X.item.l.length c1, .slice a2 X.item.p.length c2, .slice a3 X.item.s.length c3, .int .i64 X.til]) (lookD s now key)) := by
            rw [Hid, HN.out]
            exact ⟨a1, c1, a2, c2, a3, c3, rfl, hiw⟩
          clear GN G2 C2 hiw
          go_wp2_with fail
          refine bodyPost_ret (v := .agg #[.string X.key, .int .i64 X.item.k, .string X.item.t, .slice a1 X.item.l.length c1, .slice a2 X.item.p.length c2, .slice a3 X.item.s.length c3, .int .i64 X.til]) (by simp [results, Tryz.results15, go_sem, r0, r1, r2, r3, r4, r5, r6]) rfl ⟨⟨_, rfl, HE.out⟩, BN⟩
      · rw [decide_eq_false hke] at hbq
        have HN : Hid (lookE s now key = lookE (s.drop (k + 1)) now key) := by rw [Hid, HL.out, HST.out, if_neg (by unfold thereE; simp [hke])]
        clear HST HL hiw hke HGN
        go_wp2_with fail
        go_roundw
        case rel => exact ⟨k + 1, by omega, by go_num, HN.out, HG.out, hbr⟩
        case measure => simp [intOf]; omega
    · have hge : ¬ ((k : Nat) : Int) < ((s.length : Nat) : Int) := by omega
      obtain rfl : k = s.length := by omega
      have HN : Hid (lookD s now key = Ent.none) := by
        rw [Hid]; unfold lookD; rw [HL.out, List.drop_length]; rfl
      have G2 := HG.out
      have p0 : wr.cell? ⟨w.heap.size, 0, none⟩ = some (.string ⟨#[]⟩) := by simp [World.cell?, G2]
      have pf0 : wr.frozen? ⟨w.heap.size, 0, none⟩ = false := by simp [World.frozen?, G2]
      have p1 : wr.cell? ⟨w.heap.size, 1, none⟩ = some (.int .i64 0) := by simp [World.cell?, G2]
      have pf1 : wr.frozen? ⟨w.heap.size, 1, none⟩ = false := by simp [World.frozen?, G2]
      have p2 : wr.cell? ⟨w.heap.size, 2, none⟩ = some (.string ⟨#[]⟩) := by simp [World.cell?, G2]
      have pf2 : wr.frozen? ⟨w.heap.size, 2, none⟩ = false := by simp [World.frozen?, G2]
      have p3 : wr.cell? ⟨w.heap.size, 3, none⟩ = some (.slice none 0 0) := by simp [World.cell?, G2]
      have pf3 : wr.frozen? ⟨w.heap.size, 3, none⟩ = false := by simp [World.frozen?, G2]
      have p4 : wr.cell? ⟨w.heap.size, 4, none⟩ = some (.slice none 0 0) := by simp [World.cell?, G2]
      have pf4 : wr.frozen? ⟨w.heap.size, 4, none⟩ = false := by simp [World.frozen?, G2]
      have p5 : wr.cell? ⟨w.heap.size, 5, none⟩ = some (.slice none 0 0) := by simp [World.cell?, G2]
      have pf5 : wr.frozen? ⟨w.heap.size, 5, none⟩ = false := by simp [World.frozen?, G2]
      have p6 : wr.cell? ⟨w.heap.size, 6, none⟩ = some (.int .i64 0) := by simp [World.cell?, G2]
      have pf6 : wr.frozen? ⟨w.heap.size, 6, none⟩ = false := by simp [World.frozen?, G2]
      have GN : (((((((wr.setCell ⟨w.heap.size, 0, none⟩ (.string ⟨#[]⟩)).setCell ⟨w.heap.size, 1, none⟩ (.int .i64 0)).setCell ⟨w.heap.size, 2, none⟩ (.string ⟨#[]⟩)).setCell ⟨w.heap.size, 3, none⟩ (.slice none 0 0)).setCell ⟨w.heap.size, 4, none⟩ (.slice none 0 0)).setCell ⟨w.heap.size, 5, none⟩ (.slice none 0 0)).setCell ⟨w.heap.size, 6, none⟩ (.int .i64 0)).heap[w.heap.size]? = some (.cells #[.string ⟨#[]⟩, .int .i64 0, .string ⟨#[]⟩, .slice none 0 0, .slice none 0 0, .slice none 0 0, .int .i64 0] 45 (0, 0)) := by
        rw [(setCell_heapY (setCell_heapY (setCell_heapY (setCell_heapY (setCell_heapY (setCell_heapY (setCell_heapY G2 0 _) 1 _) 2 _) 3 _) 4 _) 5 _) 6 _)]; rfl
      have BN : Below w.heap.size w (((((((wr.setCell ⟨w.heap.size, 0, none⟩ (.string ⟨#[]⟩)).setCell ⟨w.heap.size, 1, none⟩ (.int .i64 0)).setCell ⟨w.heap.size, 2, none⟩ (.string ⟨#[]⟩)).setCell ⟨w.heap.size, 3, none⟩ (.slice none 0 0)).setCell ⟨w.heap.size, 4, none⟩ (.slice none 0 0)).setCell ⟨w.heap.size, 5, none⟩ (.slice none 0 0)).setCell ⟨w.heap.size, 6, none⟩ (.int .i64 0)) := (((((((hbr.setCell (p := ⟨w.heap.size, 0, none⟩) (Nat.le_refl _) _).setCell (p := ⟨w.heap.size, 1, none⟩) (Nat.le_refl _) _).setCell (p := ⟨w.heap.size, 2, none⟩) (Nat.le_refl _) _).setCell (p := ⟨w.heap.size, 3, none⟩) (Nat.le_refl _) _).setCell (p := ⟨w.heap.size, 4, none⟩) (Nat.le_refl _) _).setCell (p := ⟨w.heap.size, 5, none⟩) (Nat.le_refl _) _).setCell (p := ⟨w.heap.size, 6, none⟩) (Nat.le_refl _) _)
      obtain ⟨W5, hWN⟩ : ∃ W', (((((((wr.setCell ⟨w.heap.size, 0, none⟩ (.string ⟨#[]⟩)).setCell ⟨w.heap.size, 1, none⟩ (.int .i64 0)).setCell ⟨w.heap.size, 2, none⟩ (.string ⟨#[]⟩)).setCell ⟨w.heap.size, 3, none⟩ (.slice none 0 0)).setCell ⟨w.heap.size, 4, none⟩ (.slice none 0 0)).setCell ⟨w.heap.size, 5, none⟩ (.slice none 0 0)).setCell ⟨w.heap.size, 6, none⟩ (.int .i64 0)) = W' := ⟨_, rfl⟩
      rw [hWN] at GN BN
      have r0 : W5.cell? ⟨w.heap.size, 0, none⟩ = some (.string ⟨#[]⟩) := by simp [World.cell?, GN]
      have r1 : W5.cell? ⟨w.heap.size, 1, none⟩ = some (.int .i64 0) := by simp [World.cell?, GN]
      have r2 : W5.cell? ⟨w.heap.size, 2, none⟩ = some (.string ⟨#[]⟩) := by simp [World.cell?, GN]
      have r3 : W5.cell? ⟨w.heap.size, 3, none⟩ = some (.slice none 0 0) := by simp [World.cell?, GN]
      have r4 : W5.cell? ⟨w.heap.size, 4, none⟩ = some (.slice none 0 0) := by simp [World.cell?, GN]
      have r5 : W5.cell? ⟨w.heap.size, 5, none⟩ = some (.slice none 0 0) := by simp [World.cell?, GN]
      have r6 : W5.cell? ⟨w.heap.size, 6, none⟩ = some (.int .i64 0) := by simp [World.cell?, GN]
      have HE : Hid (EntIs w0 (.agg #[.string ⟨#[]⟩, .int .i64 0, .string ⟨#[]⟩, .slice none 0 0, .slice none 0 0, .slice none 0 0, .int .i64 0]) (lookD s now key)) := by
        rw [Hid, HN.out]
        exact zeroE_is w0
      clear GN G2 HG HL
      go_wp2_with fail
      refine bodyPost_ret (v := .agg #[.string ⟨#[]⟩, .int .i64 0, .string ⟨#[]⟩, .slice none 0 0, .slice none 0 0, .slice none 0 0, .int .i64 0]) (by simp [results, Tryz.results15, go_sem, r0, r1, r2, r3, r4, r5, r6]) rfl ⟨⟨_, rfl, HE.out⟩, BN⟩
theorem isMatch_tells (p s : ByteArray) (hc : checkG p = 0) (hs : s.size ≤ 60) (W : World) : Calls Tryz.prog 70 #[.string p, .string s] W fun e w' => e = .returned (.bool (matchB p s)) ∧ Below W.heap.size W w' := by
  have hpz : ¬ 60 < p.size := fun h => by rw [checkG, if_pos h] at hc; cases hc
  obtain ⟨ps, hps⟩ : ∃ ps, pParts p.data.toList = .ok ps := by
    cases hp : pParts p.data.toList with
    | error n => rw [checkG, if_neg hpz, hp] at hc; cases hc
    | ok ps => exact ⟨ps, rfl⟩
  have h1 : matchE p s = 0 := by rw [matchE, if_neg (by simp [hc]), if_neg (by omega)]
  have h2 : matchB p s = mat ps s.data.toList := by rw [matchB, if_neg (by simp [h1]), hps]
  obtain ⟨st, hst, hm, hl⟩ := steps_of _ _ _ hps
  have := isMatch_any p s st W (by omega) (by omega) hst (by rw [size_list] at hl; omega)
  rw [hm] at this
  rw [h2]
  exact this
set_option maxRecDepth 100000 in
set_option maxHeartbeats 4000000 in
theorem keysOf_any (a : Option Addr) (c : Nat) (s : List Ent) (now : Int) (p : ByteArray) (w : World) (hs : SpaceAt w a s) (hn : s.length ≤ 1000000) (hc : checkG p = 0) (hkz : ∀ x ∈ s, x.key.size ≤ 60) :
    Calls Tryz.prog 17 #[.slice a s.length c, .int .i64 now, .string p] w fun e w' => (∃ ao co, e = .returned (.slice ao (keysE s now p).length co) ∧ TextsAt w' ao (keysE s now p)) ∧ Below w.heap.size w w' := by
  have HS := hide hs
  have HM : Hid (∀ x ∈ s, ∀ W, Calls Tryz.prog 70 #[.string p, .string x.key] W fun e w' => e = .returned (.bool (matchB p x.key)) ∧ Below W.heap.size W w') := fun x hx W => isMatch_tells p x.key hc (hkz x hx) W
  clear hs hc hkz
  go_enter Tryz.func17, Tryz.ntmps17
  go_wp2_with fail
  go_loopw [7, 8] (fun V iv wr => ∃ (k : Nat), k ≤ s.length ∧ iv = .int .i64 k ∧ Hid (wr.ownsRow w.heap.size 9 1 V (keysE (s.take k) now p).length (YT.strs (keysE (s.take k) now p))) ∧ Below w.heap.size w wr) (fun _ iv _ => s.length - (intOf iv).toNat)
  case atStart => exact ⟨0, Nat.zero_le _, rfl, World.ownsRow_nil _ _ _ _, Below.refl _ _⟩
  case round =>
    obtain ⟨k, hk, rfl, HO, hbr⟩ := hrel
    have hsz := hbr.size
    by_cases hlt : k < s.length
    · have hlt' : ((k : Nat) : Int) < ((s.length : Nat) : Int) := by omega
      obtain ⟨ga, o, rfl, hcs⟩ : ∃ ga o, a = some ⟨ga, o, none⟩ ∧ ∀ i (h : i < s.length), EntAt w ga (o + i * 7) s[i] := by
        rcases HS.out with h | h
        · rw [h] at hlt; simp at hlt
        · exact h
      obtain ⟨a1, c1, a2, c2, a3, c3, ⟨d0, d1, d2, d3, d4, d5, d6⟩, hi2⟩ := (hcs k hlt).below hbr
      have hiw : ItemIs w (.agg #[.int .i64 s[k].item.k, .string s[k].item.t, .slice a1 s[k].item.l.length c1, .slice a2 s[k].item.p.length c2, .slice a3 s[k].item.s.length c3]) s[k].item := by
        obtain ⟨x1, y1, x2, y2, x3, y3, ⟨k0, k1, k2, k3, k4, k5, k6⟩, hh⟩ := hcs k hlt
        have hgl : ga < w.heap.size := World.block_lt_of_cell? _ _ k0
        have u3 := ((hbr.cell (p := ⟨ga, o + k * 7 + 3, none⟩) hgl).trans k3).symm.trans d3
        have u4 := ((hbr.cell (p := ⟨ga, o + k * 7 + 4, none⟩) hgl).trans k4).symm.trans d4
        have u5 := ((hbr.cell (p := ⟨ga, o + k * 7 + 5, none⟩) hgl).trans k5).symm.trans d5
        injection u3 with u3
        injection u4 with u4
        injection u5 with u5
        injection u3 with p1 p2 p3
        injection u4 with p4 p5 p6
        injection u5 with p7 p8 p9
        subst p1 p3 p4 p6 p7 p9
        exact hh
      have hgl : ga < wr.heap.size := World.block_lt_of_cell? _ _ d0
      have HST := hide (keysE_step s now p k hlt)
      have hkl : (keysE (s.take k) now p).length ≤ k := by
        have := keysE_len (s.take k) now p
        rw [List.length_take] at this
        omega
      obtain ⟨L, hL⟩ : ∃ L, keysE (s.take k) now p = L := ⟨_, rfl⟩
      rw [hL] at HO HST hkl
      have HMX := hide (HM.out s[k] (List.getElem_mem hlt))
      clear hcs hL hiw
      generalize s[k] = X at *
      have HGN := hide (refGone_any _ X now wr ⟨a1, c1, a2, c2, a3, c3, rfl, hi2⟩)
      have hki : keyE p now X = (matchB p X.key && !goneE X now) := rfl
      clear hi2
      cases hgn : goneE X now with
      | true =>
        rw [hgn] at HGN hki
        have HN : Hid (keysE (s.take (k + 1)) now p = L) := by rw [Hid, HST.out, if_neg (by rw [hki]; simp)]
        clear hki hgn HST HMX
        go_wp2_with fail
        refine HGN.out.mono ?_
        rintro e w2 ⟨rfl, hb2⟩
        have C2 := hbr.trans (hb2.mono hsz)
        have O2 := hide (row_belowY HO.out hb2)
        clear hb2 HGN HO
        go_wp2_with fail
        go_roundw
        case rel => exact ⟨k + 1, by omega, by go_num, by rw [HN.out]; exact O2, C2⟩
        case measure => simp [intOf]; omega
      | false =>
        rw [hgn] at HGN hki
        cases hmb : matchB p X.key with
        | false =>
          rw [hmb] at HMX hki
          have HN : Hid (keysE (s.take (k + 1)) now p = L) := by rw [Hid, HST.out, if_neg (by rw [hki]; simp)]
          clear hki hgn HST hmb
          go_wp2_with fail
          refine HGN.out.mono ?_
          rintro e w2 ⟨rfl, hb2⟩
          have C2 := hbr.trans (hb2.mono hsz)
          have O2 := hide (row_belowY HO.out hb2)
          have f0 := (hb2.cell (p := ⟨ga, o + k * 7, none⟩) hgl).trans d0
          clear hb2 HGN HO
          go_wp2_with fail
          refine (HMX.out w2).mono ?_
          rintro e w3 ⟨rfl, hb3⟩
          have C3 := C2.trans (hb3.mono C2.size)
          have O3 := hide (row_belowY O2.out hb3)
          clear hb3 HMX O2
          go_wp2_with fail
          go_roundw
          case rel => exact ⟨k + 1, by omega, by go_num, by rw [HN.out]; exact O3, C3⟩
          case measure => simp [intOf]; omega
        | true =>
          rw [hmb] at HMX hki
          have HN : Hid (keysE (s.take (k + 1)) now p = L ++ [X.key]) := by rw [Hid, HST.out, if_pos (by rw [hki]; rfl)]
          clear hki hgn HST hmb
          go_wp2_with fail
          refine HGN.out.mono ?_
          rintro e w2 ⟨rfl, hb2⟩
          have C2 := hbr.trans (hb2.mono hsz)
          have O2 := hide (row_belowY HO.out hb2)
          have f0 := (hb2.cell (p := ⟨ga, o + k * 7, none⟩) hgl).trans d0
          have hgl2 : ga < w2.heap.size := World.block_lt_of_cell? _ _ f0
          clear hb2 HGN HO
          go_wp2_with fail
          refine (HMX.out w2).mono ?_
          rintro e w3 ⟨rfl, hb3⟩
          have C3 := C2.trans (hb3.mono C2.size)
          have O3 := row_belowY O2.out hb3
          have g0 := (hb3.cell (p := ⟨ga, o + k * 7, none⟩) hgl2).trans f0
          have Lx : TextsAt (w3.alloc (.cells #[.string X.key] 9)) (some ⟨w3.heap.size, 0, none⟩) [X.key] := .inr ⟨w3.heap.size, 0, rfl, fun i hi => by
            have : i = 0 := by simpa using hi
            subst this
            simp⟩
          have HO5 := O3.alloc (.cells #[.string X.key] 9)
          have C5 := C3.alloc C3.size (.cells #[.string X.key] 9)
          clear hb3 HMX O2 O3 d0 d1 d2 d3 d4 d5 d6 f0
          go_wp2_with (at_builtin; refine YT.wpList_append_texts rfl _ _ rfl w.heap.size _ L.length (YT.strs L) rfl HO5 (some ⟨w3.heap.size, 0, none⟩) 1 [X.key] rfl Lx (by simp; omega) C5.size ?_)
          intro v6 w6 hown6 hgrow
          have C6 : Below w.heap.size w w6 := C5.grown hgrow C5.size (fun j hj => (HO5.lt j hj).1)
          have HO6 : Hid (w6.ownsRow w.heap.size 9 1 v6 (L ++ [X.key]).length (YT.strs (L ++ [X.key]))) := by
            have : YT.strs (L ++ [X.key]) = YT.strs L ++ YT.strs [X.key] := by simp [YT.strs]
            rw [this, List.length_append]
            exact hown6
          clear hown6 hgrow HO5 Lx C5
          go_wp2_with fail
          go_roundw
          case rel => exact ⟨k + 1, by omega, by go_num, by rw [HN.out]; exact HO6, C6⟩
          case measure => simp [intOf]; omega
    · have hge : ¬ ((k : Nat) : Int) < ((s.length : Nat) : Int) := by omega
      obtain rfl : k = s.length := by omega
      rw [List.take_length] at HO
      obtain ⟨ao, co, rfl⟩ := slice_ownY HO.out
      have HT := hide (textsY HO.out)
      clear HO
      go_wp2_with fail
      go_ret
      exact ⟨⟨_, ⟨_, rfl⟩, HT.out⟩, hbr⟩
end Go.Proofs.YtcidoodaiimhfaaGreat

