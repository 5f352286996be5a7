/- Rows of texts of one's own; the members that are asked for. -/
import Derived.Test.YtnobcdhlagfhmaaGreatZGet
import Derived.Test.YtnobcdhlagfhmaaGreatRIs
import Derived.Laws.OwnMore
import Derived.Handy
namespace Go.Proofs.YtnobcdhlagfhmaaGreat.Z
open Go.RowKit

theorem infoStr : (Tryz.prog.info? 9).map (fun i => (i.zero, i.size, i.bytes)) = some (some (.string ⟨#[]⟩), 1, 16) := by kernel_rfl
def strs (l : List ByteArray) : List Value := l.map Value.string
theorem texts_own {w : World} {base : Nat} {a : Option Addr} {cap : Nat} {xs : List ByteArray} (h : w.ownsRow base 9 1 (.slice a xs.length cap) xs.length (strs xs)) : TextsAt w a xs := by
  rcases h.2 with ⟨hv, h0⟩ | ⟨g, cp, cur, hv, _⟩
  · exact .inl (List.eq_nil_of_length_eq_zero h0)
  · injection hv with h1 h2 h3
    subst h1
    refine .inr ⟨g, 0, rfl, fun i hi => ?_⟩
    have := h.cellAt i (by omega)
    rw [Nat.zero_add, this]
    simp [strs, hi]
theorem texts_from {w w' : World} {base : Nat} {a : Option Addr} {cap : Nat} {xs : List ByteArray} (h : w.ownsRow base 9 1 (.slice a xs.length cap) xs.length (strs xs)) (hw : ∀ g o u, base ≤ g → w.cell? ⟨g, o, none⟩ = some u → w'.cell? ⟨g, o, none⟩ = some u) : TextsAt w' a xs := by
  rcases h.2 with ⟨hv, h0⟩ | ⟨g, cp, cur, hv, hg, _⟩
  · exact .inl (List.eq_nil_of_length_eq_zero h0)
  · injection hv with h1 h2 h3
    subst h1
    refine .inr ⟨g, 0, rfl, fun i hi => ?_⟩
    have := h.cellAt i (by omega)
    refine hw _ _ _ hg ?_
    rw [Nat.zero_add, this]
    simp [strs, hi]
theorem slice_own {w : World} {b e s : Nat} {v : Value} {n : Nat} {xs : List Value} (h : w.ownsRow b e s v n xs) : ∃ ao cp, v = .slice ao n cp := by
  rcases h.2 with ⟨rfl, rfl⟩ | ⟨g, cap, cur, rfl, _⟩
  · exact ⟨none, 0, rfl⟩
  · exact ⟨_, _, rfl⟩
theorem TextsFrom.low {w : World} {b1 b2 e s : Nat} {v : Value} {n : Nat} {xs : List Value} (h : w.ownsRow b1 e s v n xs) (hb : b2 ≤ b1) : w.ownsRow b2 e s v n xs := by
  rcases h with ⟨h1, h2 | ⟨g, cap, cur, h3, h4, h5⟩⟩
  · exact ⟨h1, .inl h2⟩
  · exact ⟨h1, .inr ⟨g, cap, cur, h3, Nat.le_trans hb h4, h5⟩⟩
/-- members of the first k that are asked for, by place and number -/
def askTo (p : Nat → Int → Bool) (l : List Sc) (k : Nat) : List ByteArray := ((List.range k).filter fun i => p i l[i]!.1).map fun i => l[i]!.2
theorem askTo_yes {p : Nat → Int → Bool} {l : List Sc} {k : Nat} (hk : k < l.length) (h : p k l[k].1 = true) : askTo p l (k + 1) = askTo p l k ++ [l[k].2] := by
  unfold askTo
  rw [List.range_succ, List.filter_append, List.map_append]
  simp [hk, h]
theorem askTo_no {p : Nat → Int → Bool} {l : List Sc} {k : Nat} (hk : k < l.length) (h : p k l[k].1 = false) : askTo p l (k + 1) = askTo p l k := by
  unfold askTo
  rw [List.range_succ, List.filter_append, List.map_append]
  simp [hk, h]
theorem askTo_len (p : Nat → Int → Bool) (l : List Sc) (k : Nat) : (askTo p l k).length ≤ k := by
  unfold askTo
  rw [List.length_map]
  exact Nat.le_trans (List.length_filter_le _ _) (by simp)
end Go.Proofs.YtnobcdhlagfhmaaGreat.Z
