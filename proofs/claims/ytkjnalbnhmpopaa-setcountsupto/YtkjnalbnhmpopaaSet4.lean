/- WALKS of sets: what lies together, sorted, each once. -/
import Derived.Test.YtkjnalbnhmpopaaSet3
import Derived.Deep.AppendLies
import Derived.Handy
namespace Go.Proofs.Ytkjnalbnhmpopaa
open Go.RowKit Go.Lib Go.Sort Go.Shelf

set_option maxRecDepth 100000 in
set_option maxHeartbeats 1000000 in
theorem grow0_any (w : World) : Calls Try.prog 85 #[.slice none 0 0, .int .i64 0] w fun e w' => e = .returned (.slice none 0 0) ∧ w' = w := by
  go_enter Try.func85, Try.ntmps85
  go_wp2_with fail
  go_ret
  exact ⟨rfl, rfl⟩
set_option maxRecDepth 100000 in
set_option maxHeartbeats 2000000 in
theorem concat0_any (g : Nat) (a1 a2 : Option Addr) (c1 c2 : Nat) (w : World) (h0 : w.cell? ⟨g, 0, none⟩ = some (.slice a1 0 c1)) (h1 : w.cell? ⟨g, 1, none⟩ = some (.slice a2 0 c2)) :
    Calls Try.prog 55 #[.slice (some ⟨g, 0, none⟩) 2 2] w fun e w' => (∃ a' cap, e = .returned (.slice a' 0 cap)) ∧ Below w.heap.size w w' := by
  have HG := hide (grow0_any w)
  have T1 : TextsAt w a1 [] := .inl rfl
  have T2 : TextsAt w a2 [] := .inl rfl
  have hown : w.ownsRow w.heap.size 9 1 (.slice none 0 0) 0 [] := World.ownsRow_nil _ _ _ _
  go_enter Try.func55, Try.ntmps55
  go_wp2_with fail
  refine wp_loop_rounds 3 ?_
  rw [rounds_succ]
  go_wp2_with fail
  rw [rounds_succ]
  go_wp2_with fail
  rw [rounds_succ]
  go_wp2_with fail
  refine HG.out.mono ?_
  rintro e w1 ⟨rfl, rfl⟩
  go_wp2_with fail
  refine wp_loop_rounds 3 ?_
  rw [rounds_succ]
  go_wp2_with (at_builtin; refine wpList_append_texts rfl _ _ rfl w1.heap.size _ 0 [] rfl hown a1 c1 [] rfl T1 (by simp) (Nat.le_refl _) ?_)
  intro v2 w2 hown2 hg2
  have hb2 : Below w1.heap.size w1 w2 := (Below.refl _ _).grown hg2 (Nat.le_refl _) (fun j hj => by cases hj)
  have hz2 := hb2.size
  have hgl : g < w1.heap.size := World.block_lt_of_cell? _ _ h0
  have k0 : w2.cell? ⟨g, 0, none⟩ = some (.slice a1 0 c1) := (hb2.cell (p := ⟨g, 0, none⟩) hgl).trans h0
  have k1 : w2.cell? ⟨g, 1, none⟩ = some (.slice a2 0 c2) := (hb2.cell (p := ⟨g, 1, none⟩) hgl).trans h1
  obtain ⟨av, cv, rfl⟩ := slice_own hown2
  go_wp2_with fail
  rw [rounds_succ]
  go_wp2_with (at_builtin; refine wpList_append_texts rfl _ _ rfl w1.heap.size _ _ _ rfl hown2 a2 c2 [] rfl (.inl rfl) (by simp) hz2 ?_)
  intro v3 w3 hown3 hg3
  have hb3 : Below w1.heap.size w1 w3 := hb2.grown hg3 hz2 (fun j hj => (hown2.lt j hj).1)
  obtain ⟨av3, cv3, rfl⟩ := slice_own hown3
  go_wp2_with fail
  rw [rounds_succ]
  go_wp2_with fail
  go_ret
  exact ⟨⟨_, _, rfl⟩, hb3⟩
/-- two lists in one -/
theorem concatS_any (g : Nat) (a1 a2 : Option Addr) (c1 c2 : Nat) (l1 l2 : List ByteArray) (w : World) (h0 : w.cell? ⟨g, 0, none⟩ = some (.slice a1 l1.length c1)) (h1 : w.cell? ⟨g, 1, none⟩ = some (.slice a2 l2.length c2)) (hl1 : TextsAt w a1 l1) (hl2 : TextsAt w a2 l2) (hn : l1.length + l2.length ≤ 2000000) :
    Calls Try.prog 55 #[.slice (some ⟨g, 0, none⟩) 2 2] w fun e w' => ∃ a' cap, e = .returned (.slice a' (l1 ++ l2).length cap) ∧ Below w.heap.size w w' ∧ (l1 ++ l2 ≠ [] → ∃ g, a' = some ⟨g, 0, none⟩ ∧ w'.ownsRow w.heap.size 9 1 (.slice (some ⟨g, 0, none⟩) (l1 ++ l2).length cap) (l1 ++ l2).length (strs (l1 ++ l2))) := by
  by_cases hp : 0 < l1.length + l2.length
  · refine (concat_any g a1 a2 c1 c2 l1 l2 w h0 h1 hl1 hl2 hp hn).mono ?_
    rintro e w' ⟨v, rfl, hown, hb⟩
    obtain ⟨gg, cap, rfl, _, _⟩ := hown.form (by rw [List.length_append]; exact hp)
    exact ⟨_, cap, rfl, hb, fun _ => ⟨gg, rfl, hown⟩⟩
  · obtain rfl : l1 = [] := List.eq_nil_of_length_eq_zero (by omega)
    obtain rfl : l2 = [] := List.eq_nil_of_length_eq_zero (by omega)
    refine (concat0_any g a1 a2 c1 c2 w h0 h1).mono ?_
    rintro e w' ⟨⟨a', cap, rfl⟩, hb⟩
    exact ⟨a', cap, rfl, hb, fun h => absurd rfl h⟩
/-- sorted -/
def sortL (L : List ByteArray) : List ByteArray := textsL ((bytesL L).mergeSort fun x y => decide (x ≤ y))
theorem sortL_len (L : List ByteArray) : (sortL L).length = L.length := by simp [sortL, textsL, bytesL]
theorem bytes_texts (l : List (List UInt8)) : bytesL (textsL l) = l := by
  unfold bytesL textsL
  rw [List.map_map]
  refine (List.map_congr_left (fun a _ => ?_)).trans (List.map_id l)
  simp
theorem sort_any (a' : Option Addr) (cap : Nat) (L : List ByteArray) (w0 w : World) (hb : Below w0.heap.size w0 w) (hrow : L ≠ [] → ∃ g, a' = some ⟨g, 0, none⟩ ∧ w.ownsRow w0.heap.size 9 1 (.slice (some ⟨g, 0, none⟩) L.length cap) L.length (strs L)) (hn : L.length ≤ 2000000) :
    Calls Try.prog 56 #[.slice a' L.length cap] w fun e w' => e = .returned (.tuple #[]) ∧ Below w0.heap.size w0 w' ∧ (L ≠ [] → ∃ g, a' = some ⟨g, 0, none⟩ ∧ w'.ownsRow w0.heap.size 9 1 (.slice (some ⟨g, 0, none⟩) L.length cap) L.length (strs (sortL L))) := by
  by_cases hne : L = []
  · subst hne
    refine (Try.slices_Sort_string_none a' cap w).mono ?_
    rintro e w' ⟨rfl, rfl⟩
    exact ⟨rfl, hb, fun h => absurd rfl h⟩
  · obtain ⟨g, rfl, hown⟩ := hrow hne
    rcases hown.2 with ⟨h0, _⟩ | ⟨g', cap', cur, hv, hbg, hgg, h1, h2, h3, h4⟩
    · cases h0
    injection hv with e1 e2 e3
    injection e1 with e1
    injection e1 with e1 _ _
    subst e1 e3
    have hH : Holds encStr w g 0 (bytesL L).toArray := holds_of_block hgg (by rw [bytesL_len, strs_bytes]; simpa using h4)
    have hgl : g < w.heap.size := (hown.lt g rfl).2
    have hh := Try.slices_Sort_string g 0 cap (bytesL L) w hH hgl (by rw [bytesL_len]; omega)
    rw [bytesL_len] at hh
    refine hh.mono ?_
    rintro e w' ⟨rfl, n, os, rfl⟩
    refine ⟨rfl, hb.grown (grownBy_sorted _) hb.size (fun j hj => by cases hj; exact hbg), fun _ => ⟨g, rfl, ?_⟩⟩
    have ho := ownsRow_sorted (n := n) (os := os) (ss := bytesL L) (ts := (bytesL L).mergeSort fun x y => decide (x ≤ y)) (base := w0.heap.size) (by simp) hbg hgg (by rw [bytesL_len]; exact h1) h2 h3
    rw [bytesL_len] at ho
    have e : strs (sortL L) = ((bytesL L).mergeSort fun x y => decide (x ≤ y)).map encStr := by rw [← strs_bytes, sortL, bytes_texts]
    rw [e]
    exact ho
/-- each once -/
def compL (L : List ByteArray) : List ByteArray := textsL (Lib.compact (bytesL L))
theorem compL_len (L : List ByteArray) : (compL L).length ≤ L.length := by
  have := Lib.compact_length_le (bytesL L)
  rw [bytesL_len] at this
  simpa [compL, textsL] using this
theorem strsOf_list (l : List ByteArray) : Lib.strsOf (fun i => l.getD i ByteArray.empty) l.length = bytesL l := by
  unfold Lib.strsOf bytesL
  apply List.ext_getElem
  · simp
  · intro i h1 h2
    simp at h1 h2
    simp [h1]
theorem compact_any (a' : Option Addr) (cap n : Nat) (L : List ByteArray) (w0 w : World) (hb : Below w0.heap.size w0 w) (hrow : L ≠ [] → ∃ g, a' = some ⟨g, 0, none⟩ ∧ w.ownsRow w0.heap.size 9 1 (.slice (some ⟨g, 0, none⟩) n cap) n (strs L)) (hn : L.length ≤ 2000000) (hnl : L.length = n) :
    Calls Try.prog 57 #[.slice a' n cap] w fun e w' => e = .returned (.slice a' (compL L).length cap) ∧ Below w0.heap.size w0 w' ∧ (∀ W, (∀ g o u, w0.heap.size ≤ g → w'.cell? ⟨g, o, none⟩ = some u → W.cell? ⟨g, o, none⟩ = some u) → TextsAt W a' (compL L)) := by
  subst hnl
  by_cases hne : L = []
  · subst hne
    refine (Try.slices_Compact_string_empty a' cap w).mono ?_
    rintro e w' ⟨rfl, rfl⟩
    exact ⟨rfl, hb, fun W _ => .inl rfl⟩
  · obtain ⟨g, rfl, hown⟩ := hrow hne
    have hgl : g < w.heap.size := (hown.lt g rfl).2
    have hbg : w0.heap.size ≤ g := (hown.lt g rfl).1
    have hcap : L.length ≤ cap := by
      rcases hown.2 with ⟨h0, _⟩ | ⟨g', cap', cur, hv, _, _, h1, _⟩
      · cases h0
      · injection hv with e1 e2 e3
        omega
    have hcs : ∀ i, i < L.length → w.cell? ⟨g, 0 + i, none⟩ = some (.string (L.getD i ByteArray.empty)) := fun i hi => by
      rw [Nat.zero_add, hown.cellAt i (by omega)]
      simp [strs, hi]
    refine (Try.slices_Compact_string_cells g 0 L.length cap (fun i => L.getD i ByteArray.empty) w (by omega) hcap hcs (fun j hj => by rw [Nat.zero_add]; exact hown.frozenAt j)).mono ?_
    rintro e w' ⟨rfl, q, rfl⟩
    rw [strsOf_list]
    have hcl : (compL L).length = (Lib.compact (bytesL L)).length := by simp [compL, textsL]
    have hle := compL_len L
    refine ⟨by rw [hcl], below_setCells g hbg _ 0 _ (below_drewN' hb q), fun W hW => .inr ⟨g, 0, rfl, fun i hi => hW _ _ _ hbg ?_⟩⟩
    have hin := World.cell?_setCells_in g ((Lib.compact (bytesL L) ++ List.replicate (L.length - (Lib.compact (bytesL L)).length) []).map encStr) 0 (w.drewN q) (fun j hj => by
      have hj' : j < L.length := by simp at hj; omega
      have h3 := hcs j hj'
      show (w.cell? ⟨g, 0 + j, none⟩).isSome = true
      rw [h3]
      rfl) i (by simp; omega)
    rw [hin]
    have hi' : i < (Lib.compact (bytesL L)).length := by omega
    simp [compL, textsL, hi', List.getElem_append_left, encStr]
end Go.Proofs.Ytkjnalbnhmpopaa
