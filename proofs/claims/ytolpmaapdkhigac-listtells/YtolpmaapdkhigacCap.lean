/- The list of an item has no more elements than room. -/
import Derived.Test.YtolpmaapdkhigacBase
namespace Go.Proofs.Ytolpmaapdkhigac
open Go.RowKit

/-- the list of an item has no more elements than room -/
def CapOk (v : Value) : Prop := ∀ p0 p1 a1 n1 c1 p3 p4, v = .agg #[p0, p1, .slice a1 n1 c1, p3, p4] → n1 ≤ c1
end Go.Proofs.Ytolpmaapdkhigac
