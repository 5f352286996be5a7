/- WALK of Words. -/
import Derived.Test.YtolpmaapdkhigaaDoorEnc2
namespace Go.Proofs.YtolpmaapdkhigaaDoor
open Go.RowKit

/-- texts that lie from an offset of a block on -/
structure StrsAt (w : World) (b off : Nat) (ss : List ByteArray) : Prop where
  c : ∀ i (h : i < ss.length), w.cell? ⟨b, off + i, none⟩ = some (.string ss[i])
def Strs (w : World) (a : Option Addr) (ss : List ByteArray) : Prop := ss = [] ∨ ∃ b off, a = some ⟨b, off, none⟩ ∧ StrsAt w b off ss

def Rep.ofBytes (s : ByteArray) : Rep := ⟨4, s, 0, none, 0, 0⟩
def cells4 (s : ByteArray) : List Value := [.int .i64 4, .string s, .int .i64 0, .slice none 0 0]

def rowOf (l : List ByteArray) : List Value := (l.map cells4).flatten
theorem rowOf_snoc (l : List ByteArray) (s : ByteArray) : rowOf (l ++ [s]) = rowOf l ++ cells4 s := by simp [rowOf]
theorem rowOf_take (ss : List ByteArray) (k : Nat) (h : k < ss.length) : rowOf (ss.take (k + 1)) = rowOf (ss.take k) ++ cells4 ss[k] := by
  rw [List.take_succ_eq_append_getElem h, rowOf_snoc]
theorem rowOf_get : ∀ (l : List ByteArray) (i j : Nat) (h : i < l.length), j < 4 → (rowOf l)[i * 4 + j]? = (cells4 l[i])[j]?
  | [], i, j, h, _ => by simp at h
  | s :: l, 0, j, h, hj => by
    simp only [rowOf, List.map_cons, List.flatten_cons]
    rw [List.getElem?_append_left (by simp [cells4]; omega)]
    simp
  | s :: l, i + 1, j, h, hj => by
    have := rowOf_get l i j (by simpa using h) hj
    simp only [rowOf, List.map_cons, List.flatten_cons] at this ⊢
    rw [List.getElem?_append_right (by simp [cells4]; omega)]
    have e : (i + 1) * 4 + j - (cells4 s).length = i * 4 + j := by simp [cells4]; omega
    rw [e, this]
    simp

theorem infoReply : (Tryd.prog.info? 24).map (fun i => (i.zero, i.size, i.bytes)) = some (some (.agg #[.int .i64 0, .string ⟨#[]⟩, .int .i64 0, .slice none 0 0]), 4, 56) := by kernel_rfl

set_option maxRecDepth 100000 in
set_option maxHeartbeats 1000000 in
theorem words_none (a : Option Addr) (cap : Nat) (w : World) :
    Calls Tryd.prog 18 #[.slice a 0 cap] w fun e w' => e = .returned (.tuple #[.string ⟨#[]⟩, .int .i64 1]) ∧ Below w.heap.size w w' := by
  go_enter Tryd.func18, Tryd.ntmps18
  go_wp2
  go_ret2
  exact ⟨rfl, Below.refl _ _⟩

set_option maxRecDepth 100000 in
set_option maxHeartbeats 1000000 in
theorem words_many (a : Option Addr) (n cap : Nat) (w : World) (hn : (12 : Int) < n) :
    Calls Tryd.prog 18 #[.slice a n cap] w fun e w' => e = .returned (.tuple #[.string ⟨#[]⟩, .int .i64 2]) ∧ Below w.heap.size w w' := by
  have h0 : ((n : Int) == 0) = false := by simp; omega
  go_enter Tryd.func18, Tryd.ntmps18
  go_wp2
  go_ret2
  exact ⟨rfl, Below.refl _ _⟩

/-- what lies in the row that Words makes, read as replies -/
theorem reps_of_row {w : World} {g cap base : Nat} {ss : List ByteArray} (h : w.ownsRow base 24 4 (.slice (some ⟨g, 0, none⟩) ss.length cap) ss.length (rowOf ss)) (hs : ∀ s ∈ ss, s.size ≤ maxLen) :
    Reps w g 0 (ss.map Rep.ofBytes) := by
  have hl : (rowOf ss).length = ss.length * 4 := h.1
  have hc : ∀ i j, i < ss.length → j < 4 → w.cell? ⟨g, i * 4 + j, none⟩ = (rowOf ss)[i * 4 + j]? := fun i j hi hj => h.cellAt (i * 4 + j) (by omega)
  refine ⟨?_, ?_, ?_, ?_, ?_⟩
  · intro i hi
    rw [List.length_map] at hi
    have := hc i 0 hi (by omega)
    rw [rowOf_get ss i 0 hi (by omega)] at this
    simpa [cells4, Rep.ofBytes] using this
  · intro i hi
    rw [List.length_map] at hi
    have := hc i 1 hi (by omega)
    rw [rowOf_get ss i 1 hi (by omega)] at this
    simpa [cells4, Rep.ofBytes] using this
  · intro i hi
    rw [List.length_map] at hi
    have := hc i 2 hi (by omega)
    rw [rowOf_get ss i 2 hi (by omega)] at this
    simpa [cells4, Rep.ofBytes] using this
  · intro i hi
    rw [List.length_map] at hi
    have := hc i 3 hi (by omega)
    rw [rowOf_get ss i 3 hi (by omega)] at this
    simpa [cells4, Rep.ofBytes] using this
  · intro r hr
    obtain ⟨s, hsm, rfl⟩ := List.mem_map.1 hr
    exact hs s hsm

set_option maxRecDepth 100000 in
set_option maxHeartbeats 1000000 in
theorem words_walk (b off cap : Nat) (ss : List ByteArray) (w : World) (h : StrsAt w b off ss) (h1 : 1 ≤ ss.length) (h12 : ss.length ≤ 12) (hs : ∀ s ∈ ss, s.size ≤ maxLen) (x : ByteArray) (code : Int)
    (H : ∀ w1 g cap, Below w.heap.size w w1 → Reps w1 g 0 (ss.map Rep.ofBytes) → Calls Tryd.prog 7 #[.agg #[.int .i64 6, .string ⟨#[]⟩, .int .i64 0, .slice (some ⟨g, 0, none⟩) ss.length cap]] w1 fun e w' => e = .returned (.tuple #[.string x, .int .i64 code]) ∧ Below w1.heap.size w1 w') :
    Calls Tryd.prog 18 #[.slice (some ⟨b, off, none⟩) ss.length cap] w fun e w' => e = .returned (.tuple #[.string x, .int .i64 code]) ∧ Below w.heap.size w w' := by
  obtain ⟨i0, hi, hz0, hz1, hz2⟩ := info_parts infoReply
  have h0 : ((ss.length : Int) == 0) = false := by rw [beq_eq_false_iff_ne]; omega
  have HH := hide H
  have HS := hide hs
  clear H hs
  go_enter Tryd.func18, Tryd.ntmps18
  go_wp2
  go_loopw [16] (fun i wr => ∃ (k : Nat) (V : Value), k ≤ ss.length ∧ i = .int .i64 k ∧ wr.cell? ⟨w.heap.size, 0, none⟩ = some (.int .i64 6) ∧ wr.cell? ⟨w.heap.size, 1, none⟩ = some (.string ⟨#[]⟩) ∧ wr.cell? ⟨w.heap.size, 2, none⟩ = some (.int .i64 0) ∧ wr.cell? ⟨w.heap.size, 3, none⟩ = some V ∧ wr.frozen? ⟨w.heap.size, 3, none⟩ = false ∧
      wr.ownsRow (w.heap.size + 1) 24 4 V k (rowOf (ss.take k)) ∧ Below w.heap.size w wr) (fun i _ => ss.length - (intOf i).toNat)
  case atStart => exact ⟨0, .slice none 0 0, Nat.zero_le _, rfl, by simp [go_sem], by simp [go_sem], by simp [go_sem], by simp [go_sem], by simp [go_sem], World.ownsRow_nil _ _ _ _, (Below.refl _ _).alloc (Nat.le_refl _) _⟩
  case round =>
    obtain ⟨k, V, hk, rfl, c0, c1, c2, c3, f3, hown, hb⟩ := hrel
    obtain ⟨ao, cp, rfl⟩ : ∃ ao cp, V = .slice ao k cp := by
      rcases hown.2 with ⟨rfl, rfl⟩ | ⟨g, cap, cur, rfl, _⟩
      · exact ⟨_, _, rfl⟩
      · exact ⟨_, _, rfl⟩
    have hwr : w.heap.size < wr.heap.size := World.block_lt_of_cell? _ _ c0
    by_cases hlt : k < ss.length
    · have hbl : b < w.heap.size := World.block_lt_of_cell? w _ (h.c k hlt)
      have hcs : wr.cell? ⟨b, off + k, none⟩ = some (.string ss[k]) := (hb.cell (p := ⟨b, off + k, none⟩) hbl).trans (h.c k hlt)
      go_wp2_with (at_builtin; refine wpList_append_own _ rfl _ _ 22 rfl (w.heap.size + 1) 24 i0 (.agg #[.int .i64 0, .string ⟨#[]⟩, .int .i64 0, .slice none 0 0]) 4 56 Tryd.underlying22 hi hz0 hz1 hz2 rfl (by decide) _ _ _ rfl (hown.alloc _) ⟨wr.heap.size, 0, none⟩ 1 1 (cells4 ss[k]) rfl rfl ?c1 ?c2 ?c3 ?c4 ?c5 ?_)
      case c1 =>
        intro j u hj
        match j, hj with
        | 0, hj => simp [cells4] at hj; subst hj; simp [Addr.add]
        | 1, hj => simp [cells4] at hj; subst hj; simp [Addr.add]
        | 2, hj => simp [cells4] at hj; subst hj; simp [Addr.add]
        | 3, hj => simp [cells4] at hj; subst hj; simp [Addr.add]
        | _ + 4, hj => simp [cells4] at hj
      case c2 =>
        intro u hu
        simp [cells4] at hu
        rcases hu with rfl | rfl | rfl | rfl <;> rfl
      case c3 => unfold maxLen; omega
      case c4 => omega
      case c5 => simp; omega
      intro v' w2 hown' hgrow _
      obtain ⟨ao', cp', rfl⟩ : ∃ ao cp, v' = .slice ao (k + 1) cp := by
        rcases hown'.2 with ⟨_, hz⟩ | ⟨g, cap, cur, rfl, _⟩
        · omega
        · exact ⟨_, _, rfl⟩
      rw [← rowOf_take ss k hlt] at hown'
      have hk2 : Kept (fun j => w.heap.size + 1 ≤ j) wr w2 := ((Kept.refl _ wr).alloc _).grown hgrow (fun j hj => .inl (hown.lt j hj).1)
      have d0 : w2.cell? ⟨w.heap.size, 0, none⟩ = some (.int .i64 6) := hk2.cell' c0 (by simp)
      have d1 : w2.cell? ⟨w.heap.size, 1, none⟩ = some (.string ⟨#[]⟩) := hk2.cell' c1 (by simp)
      have d2 : w2.cell? ⟨w.heap.size, 2, none⟩ = some (.int .i64 0) := hk2.cell' c2 (by simp)
      have d3 : w2.cell? ⟨w.heap.size, 3, none⟩ = some (.slice ao k cp) := hk2.cell' c3 (by simp)
      have df : w2.frozen? ⟨w.heap.size, 3, none⟩ = false := (hk2.frozen (p := ⟨w.heap.size, 3, none⟩) hwr (by simp)).trans f3
      have hb2 : Below w.heap.size w w2 := hb.trans (hk2.below (by omega) (fun j e => by omega))
      clear hk2 hgrow hown c0 c1 c2 c3 f3 hb hcs
      go_wp2
      go_roundw
      case rel =>
        refine ⟨k + 1, _, by omega, by go_num, ?_, ?_, ?_, World.cell?_setCell_same _ _ _ d3, by simp [df], ?_, hb2.setCell (p := ⟨w.heap.size, 3, none⟩) (Nat.le_refl _) _⟩
        · rw [World.cell?_setCell_other _ _ _ _ (by simp)]; exact d0
        · rw [World.cell?_setCell_other _ _ _ _ (by simp)]; exact d1
        · rw [World.cell?_setCell_other _ _ _ _ (by simp)]; exact d2
        · exact ((Kept.refl (one w.heap.size) w2).set1 3 _).owns hown' (fun j hj e => by have := (hown'.lt j hj).1; simp only [one] at e; omega)
      case measure => simp [intOf]; omega
    · have hkk : k = ss.length := by omega
      subst hkk
      rw [List.take_length] at hown
      obtain ⟨g, rfl⟩ : ∃ g, ao = some ⟨g, 0, none⟩ := by
        rcases hown.2 with ⟨_, hz⟩ | ⟨g, cap, cur, hv, _⟩
        · omega
        · exact ⟨g, by simp at hv; exact hv.1⟩
      have hR := reps_of_row hown HS.out
      have HR := hide hR
      clear hR hown
      go_wp2_with fail
      refine (HH.out wr g cp hb HR.out).mono ?_
      rintro e w2 ⟨rfl, hb2⟩
      go_wp2
      go_ret2
      exact ⟨rfl, hb.trans (hb2.mono (by omega))⟩
end Go.Proofs.YtolpmaapdkhigaaDoor
