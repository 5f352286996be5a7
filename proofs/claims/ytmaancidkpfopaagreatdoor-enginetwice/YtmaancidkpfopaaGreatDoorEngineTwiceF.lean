/- The closed facts of the row, each a lemma of its own. -/
import Derived.Test.YtmaancidkpfopaaGreatDoorRows
import Derived.Test.YtmaancidkpfopaaGreatDoorChecked
import Derived.JoinedCond
import Derived.KernelRfl
namespace Go.Proofs.YtmaancidkpfopaaGreatDoor.engineTwice
open Go

theorem band {a b : Bool} (h : a = true) (k : b = true) : (a && b) = true := by rw [h, k]; rfl
set_option maxRecDepth 100000 in
set_option maxHeartbeats 64000000 in
theorem closed : joinedFacts Tryz.prog 3 Tryz.f3 (OpenSpec.ofChange Rows.engineTwiceSpec).bare Rows.engineTwiceRow = true := by
  delta joinedFacts
  repeat' (with_reducible refine band ?_ ?_)
  all_goals as_aux_lemma => kernel_rfl
end Go.Proofs.YtmaancidkpfopaaGreatDoor.engineTwice
