/- WALKS of Run over the reading of an item. -/
import Derived.Test.YtolpmaapdkhigabGRun
namespace Go.Proofs.Ytolpmaapdkhigab
open Go.RowKit

/-- Run, where the walk comes to its end. -/
theorem runDec_ok (caps : Array Value) (S : Nat → Prop) (R : World → Prop) (w : World) (hS : ¬ S w.heap.size)
    (H : Calls Try.prog 25 caps (w.alloc (.cells #[.int .i64 0] 23)) fun e w1 => e = .returned (.tuple #[]) ∧ Kept S (w.alloc (.cells #[.int .i64 0] 23)) w1 ∧ R w1) :
    Calls Try.prog 24 #[.func (.func 25) #[] caps] w fun e w' => e = .returned (.int .i64 0) ∧ ∃ w1, R w1 ∧ Kept S w w1 ∧ Kept (one w.heap.size) w1 w' := by
  have hmf : ∀ (fn : Fn) (first cap : Array Value) (w : World), (Instr.makeFunc fn first cap).run Try.prog w = .ok (.func fn first cap) w := fun _ _ _ _ => rfl
  have HH := hide H
  clear H
  go_enter_defers Try.func24, Try.ntmps24
  go_wp2_with fail
  refine HH.out.mono ?_
  rintro e w1 ⟨rfl, hk1, hR⟩
  have hc1 : w1.cell? ⟨w.heap.size, 0, none⟩ = some (.int .i64 0) := hk1.cell' (by simp [go_sem]) hS
  have hf1 : w1.frozen? ⟨w.heap.size, 0, none⟩ = false := (hk1.frozen (p := ⟨w.heap.size, 0, none⟩) (by simp) hS).trans (by simp [go_sem])
  clear HH
  go_wp2
  refine leaves_cons (f := 50) (args := #[.pointer (some ⟨w.heap.size, 0, none⟩)]) (by simp) (by simp [go_sem]) ?_
  refine (catch_idle ⟨w.heap.size, 0, none⟩ _).mono ?_
  rintro e u' w'' ⟨rfl, rfl, rfl⟩
  have hc2 : (w1.setCell ⟨w.heap.size, 0, none⟩ (.int .i64 0)).cell? ⟨w.heap.size, 0, none⟩ = some (.int .i64 0) := World.cell?_setCell_same _ _ _ hc1
  have hk2 : Kept (one w.heap.size) w1 (w1.setCell ⟨w.heap.size, 0, none⟩ (.int .i64 0)) := (Kept.refl _ _).set1 _ _
  have hk0 : Kept S w w1 := ((Kept.refl S w).alloc _).trans hk1
  have fin : ∃ w1', R w1' ∧ Kept S w w1' ∧ Kept (one w.heap.size) w1' (w1.setCell ⟨w.heap.size, 0, none⟩ (.int .i64 0)) := ⟨w1, hR, hk0, hk2⟩
  have FIN := hide fin
  clear fin hk0 hk1 hk2 hR hmf hS
  generalize w1.setCell ⟨w.heap.size, 0, none⟩ (.int .i64 0) = w2 at *
  simp [Leaves, settle, results, Try.results24, go_sem, hc2]
  exact FIN.out

/-- Run, where the walk gives up. -/
theorem runDec_err (caps : Array Value) (S : Nat → Prop) (R : World → Prop) (w : World) (hS : ¬ S w.heap.size)
    (H : Calls Try.prog 25 caps (w.alloc (.cells #[.int .i64 0] 23)) fun e w1 => ∃ n : Int, n ≠ 0 ∧ e = .panicked [{ v := .iface 92 (.agg #[.int .i64 (n)]), recovered := false }] ∧ Kept S (w.alloc (.cells #[.int .i64 0] 23)) w1 ∧ R w1) :
    Calls Try.prog 24 #[.func (.func 25) #[] caps] w fun e w' => (∃ n : Int, n ≠ 0 ∧ e = .returned (.int .i64 n)) ∧ ∃ w1, R w1 ∧ Kept S w w1 ∧ Kept (one w.heap.size) w1 w' := by
  have hmf : ∀ (fn : Fn) (first cap : Array Value) (w : World), (Instr.makeFunc fn first cap).run Try.prog w = .ok (.func fn first cap) w := fun _ _ _ _ => rfl
  have HH := hide H
  clear H
  go_enter_defers Try.func24, Try.ntmps24
  go_wp2_with fail
  refine HH.out.mono ?_
  rintro e w1 ⟨n, hn, rfl, hk1, hR⟩
  have hc1 : w1.cell? ⟨w.heap.size, 0, none⟩ = some (.int .i64 0) := hk1.cell' (by simp [go_sem]) hS
  have hf1 : w1.frozen? ⟨w.heap.size, 0, none⟩ = false := (hk1.frozen (p := ⟨w.heap.size, 0, none⟩) (by simp) hS).trans (by simp [go_sem])
  clear HH
  refine leaves_cons (f := 50) (args := #[.pointer (some ⟨w.heap.size, 0, none⟩)]) (by simp) (by simp [go_sem]) ?_
  refine (catch_stop ⟨w.heap.size, 0, none⟩ 0 n [] _ hc1 hf1).mono ?_
  rintro e u' w'' ⟨rfl, rfl, rfl⟩
  have hk2 : Kept (one w.heap.size) w1 ((w1.alloc (.cells #[.int .i64 n] 92)).setCell ⟨w.heap.size, 0, none⟩ (.int .i64 n)) := ((Kept.refl _ _).alloc _).set1 _ _
  have hc2 : ((w1.alloc (.cells #[.int .i64 n] 92)).setCell ⟨w.heap.size, 0, none⟩ (.int .i64 n)).cell? ⟨w.heap.size, 0, none⟩ = some (.int .i64 n) :=
    World.cell?_setCell_same _ _ _ (((Kept.refl (fun _ => False) w1).alloc _).cell' hc1 (fun e => e))
  have hk0 : Kept S w w1 := ((Kept.refl S w).alloc _).trans hk1
  have fin : ∃ w1', R w1' ∧ Kept S w w1' ∧ Kept (one w.heap.size) w1' ((w1.alloc (.cells #[.int .i64 n] 92)).setCell ⟨w.heap.size, 0, none⟩ (.int .i64 n)) := ⟨w1, hR, hk0, hk2⟩
  have FIN := hide fin
  clear fin hk0 hk1 hk2 hR hmf hS
  generalize (w1.alloc (.cells #[.int .i64 n] 92)).setCell ⟨w.heap.size, 0, none⟩ (.int .i64 n) = w2 at *
  simp [Leaves, settle, results, Try.results24, go_sem, hc2]
  exact ⟨hn, FIN.out⟩
end Go.Proofs.Ytolpmaapdkhigab
