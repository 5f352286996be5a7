/- A new block. -/
import Derived.Test.YtcidoodaiimhfaaGreatPart5
namespace Go.Proofs.YtcidoodaiimhfaaGreat
open Go.RowKit

theorem newbox (w : World) (o : Obj) : ∃ V, w.alloc o = V ∧ Below w.heap.size w V ∧ V.heap[w.heap.size]? = some o := ⟨_, rfl, (Below.refl _ w).alloc (Nat.le_refl _) _, allocY_new w _⟩
end Go.Proofs.YtcidoodaiimhfaaGreat
