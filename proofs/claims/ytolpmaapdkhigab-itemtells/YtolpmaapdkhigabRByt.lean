/- WALK of the reference's bytes of an item: its texts. DRAFT -/
import Derived.Test.YtolpmaapdkhigabROne
import Derived.Test.YtolpmaapdkhigabIEnc3
import Derived.Deep.RegionHeld3
import Derived.Handy
namespace Go.Proofs.Ytolpmaapdkhigab
open Go.RowKit

theorem ba_of {a : ByteArray} {l : List UInt8} (h : a.data.toList = l) : a = ⟨l.toArray⟩ := by
  cases a with
  | mk d => simp only at h; rw [← h]
/-- one round over texts: what is written is behind -/
theorem bytes_text (A X : ByteArray) : A ++ (⟨#[UInt8.ofNat X.size]⟩ ++ X) = ⟨(A.data.toList ++ encT X).toArray⟩ := by
  apply ba_of
  rw [list_append, list_append]
  rfl
end Go.Proofs.Ytolpmaapdkhigab
