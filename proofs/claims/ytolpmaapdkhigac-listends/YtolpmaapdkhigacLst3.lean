/- WALK of together. -/
import Derived.Test.YtolpmaapdkhigacLst2
import Derived.Test.YtolpmaapdkhigacShelfL
import Derived.Laws.IdiomCopy
import Derived.Handy
namespace Go.Proofs.Ytolpmaapdkhigac
open Go.RowKit Go.Lib Go.Sort

theorem below_setCells {B : Nat} {a : World} (b : Nat) (hb : B ≤ b) : ∀ (vs : List Value) (o : Nat) (w : World), Below B a w → Below B a (w.setCells b o vs)
  | [], _, _, h => h
  | v :: vs, o, w, h => below_setCells b hb vs (o + 1) (w.setCell ⟨b, o, none⟩ v) (h.setCell (p := ⟨b, o, none⟩) hb v)
theorem rev_list (l : List ByteArray) : (Lib.strsOf (fun i => l.getD i ByteArray.empty) l.length).reverse.map encStr = strs l.reverse := by
  have e : Lib.strsOf (fun i => l.getD i ByteArray.empty) l.length = l.map (fun t => t.data.toList) := by
    unfold Lib.strsOf
    apply List.ext_getElem
    · simp
    · intro i h1 h2
      simp at h1 h2
      simp [h1]
  rw [e, ← List.map_reverse, List.map_map, strs]
  congr 1
/-- the clone, turned round -/
theorem turned_any (a : Option Addr) (c : Nat) (l : List ByteArray) (w : World) (hl : TextsAt w a l) (hne : l ≠ []) (hn : l.length ≤ 1000) :
    Calls Try.prog 40 #[.slice a l.length c] w fun e w' => ∃ g cap, e = .returned (.slice (some ⟨g, 0, none⟩) l.length cap) ∧ w.heap.size ≤ g ∧ Below w.heap.size w w' ∧
      ∀ W, Below w'.heap.size w' W → Calls Try.prog 41 #[.slice (some ⟨g, 0, none⟩) l.length cap] W fun e w'' => e = .returned (.tuple #[]) ∧ TextsAt w'' (some ⟨g, 0, none⟩) l.reverse ∧ Below w.heap.size W w'' := by
  obtain ⟨g0, o0, rfl, hc⟩ : ∃ g o, a = some ⟨g, o, none⟩ ∧ ∀ i (h : i < l.length), w.cell? ⟨g, o + i, none⟩ = some (.string l[i]) := by
    rcases hl with h | h
    · exact absurd h hne
    · exact h
  refine (Try.slices_Clone_string g0 o0 l.length c l w (Nat.le_refl _) (by omega) (fun j hj => by rw [hc j hj]; simp [hj])).mono ?_
  rintro e w' ⟨v', rfl, hown, hnn, hb⟩
  rw [List.take_length] at hown
  rcases hown.2 with ⟨hv, _⟩ | ⟨g, cap, cur, rfl, hbg, hgg, rest⟩
  · exact absurd hv hnn
  · refine ⟨g, cap, rfl, hbg, hb, fun W hW => ?_⟩
    have hgl : g < w'.heap.size := (hown.lt g rfl).2
    have hcs : ∀ i, i < l.length → W.cell? ⟨g, 0 + i, none⟩ = some (.string (l.getD i ByteArray.empty)) := fun i hi => by
      have h1 := (hW.cell (p := ⟨g, i, none⟩) hgl).trans (hown.cellAt i (by omega))
      rw [Nat.zero_add, h1]
      simp [hi]
    refine (Try.slices_Reverse_string_cells g 0 l.length cap (fun i => l.getD i ByteArray.empty) W (by omega) hcs (fun j hj => by rw [Nat.zero_add]; exact (hW.frozen (p := ⟨g, j, none⟩) hgl).trans (hown.frozenAt j))).mono ?_
    rintro e w'' ⟨rfl, q, rfl⟩
    refine ⟨rfl, ?_, ?_⟩
    · rw [rev_list]
      refine .inr ⟨g, 0, rfl, fun i hi => ?_⟩
      have hl2 : (strs l.reverse).length = l.length := by simp [strs]
      have := World.cell?_setCells_in g (strs l.reverse) 0 (W.drewN q) (fun j hj => by
        have h3 := hcs j (by omega)
        show (W.cell? ⟨g, 0 + j, none⟩).isSome = true
        rw [h3]
        rfl) i (by simp at hi; omega)
      rw [this]
      simp [strs]
    · have hd : Below w.heap.size W (W.drewN q) := ⟨rfl, rfl, rfl, Nat.le_refl _, fun _ _ => rfl⟩
      exact below_setCells g hbg _ 0 _ hd

theorem own_low {w : World} {b1 b2 e s : Nat} {v : Value} {n : Nat} {xs : List Value} (h : w.ownsRow b1 e s v n xs) (hb : b2 ≤ b1) : w.ownsRow b2 e s v n xs := by
  refine ⟨h.1, ?_⟩
  rcases h.2 with hn | ⟨g, cap, cur, hv, hbg, rest⟩
  · exact .inl hn
  · exact .inr ⟨g, cap, cur, hv, Nat.le_trans hb hbg, rest⟩
def pushL (there : List ByteArray) (left : Bool) (l : List ByteArray) : List ByteArray := if left then l.reverse ++ there else there ++ l
set_option maxRecDepth 100000 in
set_option maxHeartbeats 1000000 in
theorem together_any (a1 a2 : Option Addr) (c1 c2 : Nat) (there l : List ByteArray) (left : Bool) (w : World) (h1 : TextsAt w a1 there) (h2 : TextsAt w a2 l) (hne : l ≠ []) (hn : there.length + l.length ≤ 1000) :
    Calls Try.prog 24 #[.slice a1 there.length c1, .bool left, .slice a2 l.length c2] w fun e w' => ∃ v, e = .returned v ∧ w'.ownsRow w.heap.size 9 1 v (pushL there left l).length (strs (pushL there left l)) ∧ Below w.heap.size w w' := by
  have hlp : 0 < l.length := List.length_pos_iff.2 hne
  cases left with
  | false =>
    have H1 := hide h1
    have H2 := hide h2
    clear h1 h2
    go_enter Try.func24, Try.ntmps24
    go_wp2_with fail
    refine (concat_any w.heap.size a1 a2 c1 c2 there l _ (by simp [go_sem]) (by simp [go_sem]) (H1.out.below ((Below.refl _ _).alloc (Nat.le_refl _) _)) (H2.out.below ((Below.refl _ _).alloc (Nat.le_refl _) _)) (by omega) (by omega)).mono ?_
    rintro e w1 ⟨v, rfl, hown, hb⟩
    go_wp2_with fail
    go_ret
    refine ⟨v, rfl, ?_, ((Below.refl _ w).alloc (Nat.le_refl _) _).trans (hb.mono (by simp))⟩
    simp only [pushL, Bool.false_eq_true, if_false]
    exact own_low hown (by simp)
  | true =>
    have HT := hide (turned_any a2 c2 l w h2 hne (by omega))
    have H1 := hide h1
    clear h1 h2
    go_enter Try.func24, Try.ntmps24
    go_wp2_with fail
    refine HT.out.mono ?_
    rintro e w1 ⟨g, cap, rfl, hg, hb1, HR⟩
    have HRR := hide (HR w1 (Below.refl _ _))
    clear HR
    go_wp2_with fail
    refine HRR.out.mono ?_
    rintro e w2 ⟨rfl, ht2, hb2⟩
    have B2 : Below w.heap.size w w2 := hb1.trans hb2
    have HT2 := hide ht2
    clear ht2
    go_wp2_with fail
    have hz2 := B2.size
    refine (concat_any w2.heap.size (some ⟨g, 0, none⟩) a1 cap c1 l.reverse there _ (by simp [go_sem]) (by simp [go_sem]) (HT2.out.below ((Below.refl _ _).alloc (Nat.le_refl _) _)) (H1.out.below (B2.alloc B2.size _)) (by simp; omega) (by simp; omega)).mono ?_
    rintro e w3 ⟨v, rfl, hown, hb⟩
    go_wp2_with fail
    go_ret
    refine ⟨v, rfl, ?_, (B2.alloc B2.size _).trans (hb.mono (by simp; omega))⟩
    simp only [pushL, if_true]
    exact own_low hown (by simp; omega)
end Go.Proofs.Ytolpmaapdkhigac
