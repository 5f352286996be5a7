/- WALKS of Run and of what it defers. -/
import Derived.Test.YtolpmaapdkhigabGScan
import Derived.Defers
import Derived.Recover
namespace Go.Proofs.Ytolpmaapdkhigab
open Go.RowKit

theorem assertStop (W : World) (v : Value) : (Instr.typeAssert (.iface 92 v) 20 92 true).run Try.prog W = .ok (.tuple #[v, .bool true]) W := by kernel_rfl

theorem catch_idle (p : Addr) (w : World) :
    CallsD Try.prog 50 #[.pointer (some p)] .returning w fun e u' w' => e = .returned (.tuple #[]) ∧ u' = .returning ∧ w' = w := by
  refine callsD_of_wpS Try.func50 rfl fun c₀ cs hu => ?_
  apply wpS_seq
  apply wpS_region
  simp [wpOpsS, go_sem, recoverD, hu, Try.ntmps50, Exit.thenS]
  refine wpS_of_wp ?_
  have e : (#[Value.pointer (some p)] ++ ((Array.replicate 16 undef).setIfInBounds 3 Value.nilIface).setIfInBounds 0 Value.nilIface) = #[.pointer (some p), .nilIface, undef, undef, .nilIface, undef, undef, undef, undef, undef, undef, undef, undef, undef, undef, undef, undef] := rfl
  rw [e]
  clear e
  go_wp2
  cases c₀
  simp_all [bodyPostS, results, Try.results50]

set_option maxRecDepth 100000 in
set_option maxHeartbeats 1000000 in
theorem catch_stop (p : Addr) (x n : Int) (older : List PanicEntry) (w : World) (hc : w.cell? p = some (.int .i64 x)) (hz : w.frozen? p = false) :
    CallsD Try.prog 50 #[.pointer (some p)] (.panicking ({ v := .iface 92 (.agg #[.int .i64 n]), recovered := false } :: older)) w fun e u' w' =>
      e = .returned (.tuple #[]) ∧ u' = .panicking ({ v := .iface 92 (.agg #[.int .i64 n]), recovered := true } :: older) ∧ w' = (w.alloc (.cells #[.int .i64 n] 92)).setCell p (.int .i64 n) := by
  have hlt := World.block_lt_of_cell? w p hc
  refine callsD_of_wpS Try.func50 rfl fun c₀ cs hu => ?_
  apply wpS_seq
  apply wpS_region
  simp [wpOpsS, go_sem, recoverD, hu, Try.ntmps50, Exit.thenS]
  refine wpS_of_wp ?_
  have e : (#[Value.pointer (some p)] ++ ((Array.replicate 16 undef).setIfInBounds 3 (Value.iface 92 (Value.agg #[Value.int IntKind.i64 n]))).setIfInBounds 0 (Value.iface 92 (Value.agg #[Value.int IntKind.i64 n]))) = #[.pointer (some p), (Value.iface 92 (Value.agg #[Value.int IntKind.i64 n])), undef, undef, (Value.iface 92 (Value.agg #[Value.int IntKind.i64 n])), undef, undef, undef, undef, undef, undef, undef, undef, undef, undef, undef, undef] := rfl
  rw [e]
  clear e
  clear hu
  obtain ⟨Q, hQ⟩ : ∃ Q : Exit → Act → World → Prop, Q = (fun e a' w' => bodyPostS Try.prog Try.f50 c₀ cs (fun e u' w' => e = Ending.returned (Value.tuple #[]) ∧ u' = FrameMode.panicking ({ v := Value.iface 92 (Value.agg #[Value.int IntKind.i64 n]), recovered := true } :: older) ∧ w' = (w.alloc (Obj.cells #[Value.int IntKind.i64 n] 92)).setCell p (Value.int IntKind.i64 n)) e a' ({ fn := c₀.fn, tmps := c₀.tmps, todo := c₀.todo, defers := c₀.defers, mode := FrameMode.panicking ({ v := Value.iface 92 (Value.agg #[Value.int IntKind.i64 n]), recovered := true } :: older), kind := c₀.kind, roundOf := c₀.roundOf } :: cs) w') := ⟨_, rfl⟩
  rw [← hQ]
  have HQ := hide hQ
  clear hQ
  have has := assertStop
  have hz1 : (w.alloc (.cells #[.int .i64 n] 92)).frozen? p = false := (((Kept.refl (fun _ => False) w).alloc _).frozen hlt (fun e => e)).trans hz
  have hc1 : (w.alloc (.cells #[.int .i64 n] 92)).cell? p = some (.int .i64 x) := ((Kept.refl (fun _ => False) w).alloc _).cell' hc (fun e => e)
  go_wp2_with fail
  rw [HQ.out]
  simp [bodyPostS, results, Try.results50]

end Go.Proofs.Ytolpmaapdkhigab
