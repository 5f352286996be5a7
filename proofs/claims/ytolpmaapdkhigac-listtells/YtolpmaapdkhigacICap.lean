/- What the reading of an item gives of its list's room. -/
import Derived.Test.YtolpmaapdkhigacIOpen
import Derived.Test.YtolpmaapdkhigacCap
namespace Go.Proofs.Ytolpmaapdkhigac
open Go.RowKit Go.ChangeShapes Go.WideShapes Go.ChangeAt Go.Deep

section
variable {H : Type} {enc : TypeId × Value → H} {W : World} {held : Bool}
set_option maxRecDepth 100000 in
theorem cap_of_trod {base : Nat} {v : Value} {d : DataW H} {pl : List MemPlace} (hv : Value.okWide Try.prog W .any base 26 v) (h : DataW.Trod enc Try.prog W 0 (fun _ => true) held 26 v d pl) : CapOk v := by
  obtain ⟨cs, rfl, _⟩ := okWide_struct Try.underlying26 hv
  obtain ⟨fuel, hf⟩ := h
  intro p0 p1 a1 n1 c1 p3 p4 e
  injection e with e
  subst e
  have hf2 : DataW.trod enc Try.prog W 0 (fun _ => true) held fuel 26 [p0, p1, .slice a1 n1 c1, p3, p4] = some (d, pl) := hf
  obtain ⟨xs, n', rfl, hx, hl, hxl, hall⟩ := DataW.trod_struct Try.underlying26 hf2
  have hl5 : xs.length = 5 := hxl
  have h2 : DataW.trod enc Try.prog W 0 (fun _ => true) held n' 22 (([p0, p1, .slice a1 n1 c1, p3, p4].drop 2).take (Try.prog.cellsOf 22)) = xs[2]? := hall 2 _ rfl
  rw [cellsL1, List.getElem?_eq_getElem (by omega)] at h2
  rcases open_slice Try.underlying22 h2 with ⟨hcs, _⟩ | ⟨a, len, cap, m, n', D, Pl, hcs, _, hle, _⟩
  · simp at hcs
    omega
  · simp at hcs
    omega
end
end Go.Proofs.Ytolpmaapdkhigac
