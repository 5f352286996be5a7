/- WALK of SameReply, where both are the same. -/
import Derived.Test.YtolpmaapdkhigaaDoorBack3
import Derived.Deep.RegionHeld3
import Derived.Handy
namespace Go.Proofs.YtolpmaapdkhigaaDoor
open Go.RowKit

set_option maxRecDepth 100000 in
set_option maxHeartbeats 1000000 in
theorem same_zero (k : Int) (t : ByteArray) (n : Int) (a1 a2 : Option Addr) (c1 c2 : Nat) (w : World) :
    Calls Tryd.prog 14 #[.agg #[.int .i64 k, .string t, .int .i64 n, .slice a1 0 c1], .agg #[.int .i64 k, .string t, .int .i64 n, .slice a2 0 c2]] w fun e w' => e = .returned (.bool true) ∧ Below w.heap.size w w' := by
  have hk : (k != k) = false := by simp
  have hn : (n != n) = false := by simp
  have ht : (t.toList != t.toList) = false := by simp
  go_enter Tryd.func14, Tryd.ntmps14
  go_wp2
  go_loop [5] (fun i => i = .int .i64 0) (fun _ => 0)
  case atStart => rfl
  case round =>
    subst hrel
    go_wp2
    go_ret
    exact ⟨rfl, ((Below.refl _ w).alloc (Nat.le_refl _) _).alloc (by simp) _⟩

set_option maxRecDepth 100000 in
set_option maxHeartbeats 2000000 in
theorem same_list (k : Int) (t : ByteArray) (n : Int) (b1 o1 c1 b2 o2 c2 len : Nat) (r1 r2 : List Rep) (w : World) (h1 : Reps w b1 o1 r1) (h2 : Reps w b2 o2 r2) (l1 : r1.length = len) (l2 : r2.length = len) (hmax : len ≤ 300)
    (hp : ∀ i (g1 : i < r1.length) (g2 : i < r2.length), r1[i].k = r2[i].k ∧ r1[i].t = r2[i].t ∧ r1[i].n = r2[i].n ∧ r1[i].len = 0 ∧ r2[i].len = 0) :
    Calls Tryd.prog 14 #[.agg #[.int .i64 k, .string t, .int .i64 n, .slice (some ⟨b1, o1, none⟩) len c1], .agg #[.int .i64 k, .string t, .int .i64 n, .slice (some ⟨b2, o2, none⟩) len c2]] w fun e w' => e = .returned (.bool true) ∧ Below w.heap.size w w' := by
  have hk : (k != k) = false := by simp
  have hn : (n != n) = false := by simp
  have ht : (t.toList != t.toList) = false := by simp
  have hln : ((len : Int) != len) = false := by simp
  have HP := hide hp
  have H1 := hide h1
  have H2 := hide h2
  clear hp h1 h2
  go_enter Tryd.func14, Tryd.ntmps14
  go_wp2
  go_loopw [5] (fun i wr => ∃ j : Nat, j ≤ len ∧ i = .int .i64 j ∧ Below w.heap.size w wr ∧ wr.cell? ⟨w.heap.size, 3, none⟩ = some (.slice (some ⟨b1, o1, none⟩) len c1) ∧ wr.cell? ⟨w.heap.size + 1, 3, none⟩ = some (.slice (some ⟨b2, o2, none⟩) len c2)) (fun i _ => len - (intOf i).toNat)
  case atStart => exact ⟨0, Nat.zero_le _, rfl, ((Below.refl _ w).alloc (Nat.le_refl _) _).alloc (by simp) _, by simp [go_sem], by simp [go_sem]⟩
  case round =>
    obtain ⟨j, hj, rfl, hb, hc1, hc2⟩ := hrel
    have hz1 := World.block_lt_of_cell? _ _ hc2
    simp only at hz1
    by_cases hlt : j < len
    · have g1 : j < r1.length := by omega
      have g2 : j < r2.length := by omega
      have x1 : b1 < w.heap.size := World.block_lt_of_cell? w _ (H1.out.c0 j g1)
      have x2 : b2 < w.heap.size := World.block_lt_of_cell? w _ (H2.out.c0 j g2)
      obtain ⟨p1, p2, p3, p4, p5⟩ := HP.out j g1 g2
      have e0 := (hb.cell (p := ⟨b1, o1 + j * 4, none⟩) x1).trans (H1.out.c0 j g1)
      have e1 := (hb.cell (p := ⟨b1, o1 + j * 4 + 1, none⟩) x1).trans (H1.out.c1 j g1)
      have e2 := (hb.cell (p := ⟨b1, o1 + j * 4 + 2, none⟩) x1).trans (H1.out.c2 j g1)
      have e3 := (hb.cell (p := ⟨b1, o1 + j * 4 + 3, none⟩) x1).trans (H1.out.c3 j g1)
      have d0 := (hb.cell (p := ⟨b2, o2 + j * 4, none⟩) x2).trans (H2.out.c0 j g2)
      have d1 := (hb.cell (p := ⟨b2, o2 + j * 4 + 1, none⟩) x2).trans (H2.out.c1 j g2)
      have d2 := (hb.cell (p := ⟨b2, o2 + j * 4 + 2, none⟩) x2).trans (H2.out.c2 j g2)
      have d3 := (hb.cell (p := ⟨b2, o2 + j * 4 + 3, none⟩) x2).trans (H2.out.c3 j g2)
      rw [p1] at e0
      rw [p2] at e1
      rw [p3] at e2
      rw [p4] at e3
      rw [p5] at d3
      clear p1 p2 p3 p4 p5
      generalize r2[j].k = kk at *
      generalize r2[j].t = tt at *
      generalize r2[j].n = nn at *
      generalize r1[j].a = aa at *
      generalize r1[j].cap = cc at *
      generalize r2[j].a = a2 at *
      generalize r2[j].cap = cc2 at *
      go_wp2_with fail
      go_region_law (go_simp; refine (same_zero kk tt nn aa a2 cc cc2 _).mono ?_; rintro e w1 ⟨rfl, hb1⟩)
      all_goals
        have hb2 : Below w.heap.size w w1 := hb.trans (Below.mono (B := wr.heap.size) ⟨hb1.os, hb1.tape, hb1.output, hb1.size, hb1.block⟩ (by omega))
        have hc1' : w1.cell? ⟨w.heap.size, 3, none⟩ = some (.slice (some ⟨b1, o1, none⟩) len c1) := (hb1.cell (p := ⟨w.heap.size, 3, none⟩) (by show w.heap.size < wr.heap.size; omega)).trans hc1
        have hc2' : w1.cell? ⟨w.heap.size + 1, 3, none⟩ = some (.slice (some ⟨b2, o2, none⟩) len c2) := (hb1.cell (p := ⟨w.heap.size + 1, 3, none⟩) (by show w.heap.size + 1 < wr.heap.size; omega)).trans hc2
        clear e0 e1 e2 e3 d0 d1 d2 d3 hc1 hc2 hb1
        go_wp2
        go_roundw
        case rel => exact ⟨j + 1, by omega, by go_num, hb2, hc1', hc2'⟩
        case measure => simp [intOf]; omega
    · go_wp2
      go_ret
      exact ⟨rfl, hb⟩
end Go.Proofs.YtolpmaapdkhigaaDoor
