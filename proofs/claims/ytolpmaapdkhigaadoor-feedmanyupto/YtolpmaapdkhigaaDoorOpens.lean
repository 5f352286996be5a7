/- What the readings of slices of texts, and of commands, give. -/
import Derived.Test.YtolpmaapdkhigaaDoorSame
import Derived.Test.YtolpmaapdkhigaaDoorPlain3
import Derived.Test.YtolpmaapdkhigaaDoorRows
import Derived.ProofKit
import Derived.Deep.Slices
import Derived.Deep.Strs
namespace Go.Proofs.YtolpmaapdkhigaaDoor
open Go.RowKit Go.ChangeShapes Go.WideShapes Go.ChangeAt Go.Deep

theorem cell_spot {w : World} {a : Addr} {v : Value} (h : w.cell? a = some v) : a.spot = none := by
  cases hs : a.spot with
  | none => rfl
  | some x =>
    exfalso
    unfold World.cell? at h
    split at h
    · simp [hs] at h
    · simp at h
theorem addr_plain {a : Addr} (h : a.spot = none) : ∃ b off, a = ⟨b, off, none⟩ := by
  cases a with
  | mk b o s => simp only at h; subst h; exact ⟨b, o, rfl⟩
theorem add_at (b off i : Nat) : (⟨b, off, none⟩ : Addr).add i = ⟨b, off + i, none⟩ := by
  unfold Addr.add
  split
  · rename_i h; subst h; rfl
  · rfl

theorem cells9 : Tryd.prog.cellsOf 9 = 1 := by kernel_rfl
theorem cells36 : Tryd.prog.cellsOf 42 = 1 := by kernel_rfl

theorem bulk_strs {H : Type} : ∀ (ss : List ByteArray), Rows.uptoBulkAll (strs (H := H) ss) = ((ss.map lst).map (fun x => x.length + 1)).sum
  | [] => by simp [strs, Rows.uptoBulkAll]
  | s :: ss => by
    have := bulk_strs (H := H) ss
    simp only [strs, List.map_cons, Rows.uptoBulkAll, Rows.uptoBulk, List.sum_cons] at *
    rw [this]
    rfl

theorem texts_of_trod {H : Type} {enc : TypeId × Value → H} {W : World} {n : Nat} {u : Value} {d : DataW H} {pl : List MemPlace} (h : DataW.trod enc Tryd.prog W 0 (fun _ => true) true n 42 [u] = some (d, pl)) :
    ∃ xs, TextsAt W u xs ∧ cost xs ≤ Rows.uptoBulk d := by
  rcases open_strings Tryd.underlying42 Tryd.underlying9 cells9 h with ⟨hcs, hx⟩ | ⟨a, len, cap, ss, hcs, _, hl, hm, hz, hx, hcell, hws⟩
  · simp only [List.cons.injEq, and_true] at hcs
    simp only [Prod.mk.injEq] at hx
    obtain ⟨rfl, _⟩ := hx
    subst hcs
    exact ⟨[], ⟨none, 0, rfl, .inl rfl⟩, by simp [cost, Rows.uptoBulk]⟩
  · simp only [List.cons.injEq, and_true] at hcs
    simp only [Prod.mk.injEq] at hx
    obtain ⟨rfl, _⟩ := hx
    subst hcs
    have hss : ss.length = cap := by simpa using hz
    have hlen : (ss.take len).length = len := by rw [List.length_take]; omega
    refine ⟨(ss.take len).map lst, ⟨some a, cap, ?_, ?_⟩, ?_⟩
    · rw [List.length_map, hlen]
    · by_cases h0 : len = 0
      · left
        subst h0
        rfl
      · right
        have hc0 := hcell 0 (by omega)
        obtain ⟨b, off, rfl⟩ := addr_plain (by have e := cell_spot hc0; simpa [Addr.add] using e : a.spot = none)
        refine ⟨b, off, rfl, fun i hi => ?_⟩
        rw [List.length_map, hlen] at hi
        have hci := hcell i (by omega)
        rw [add_at] at hci
        rw [hci, List.getElem_map, List.getElem_take]
        have e : ss.getD i ByteArray.empty = ss[i]'(by omega) := by simp [List.getD, hss, show i < cap by omega]
        rw [e]
        rfl
    · rw [Rows.uptoBulk, bulk_strs]
      simp only [cost]
      omega

theorem choose_list {α : Type} {len : Nat} {p : Nat → α → Prop} (h : ∀ i, i < len → ∃ x, p i x) : ∃ L : List α, L.length = len ∧ ∀ i (hi : i < L.length), p i L[i] := by
  induction len with
  | zero => exact ⟨[], rfl, fun i hi => by simp at hi⟩
  | succ n ih =>
    obtain ⟨L, hl, hp⟩ := ih (fun i hi => h i (by omega))
    obtain ⟨x, hx⟩ := h n (by omega)
    refine ⟨L ++ [x], by simp [hl], fun i hi => ?_⟩
    by_cases hlt : i < L.length
    · rw [List.getElem_append_left hlt]; exact hp i hlt
    · have : i = L.length := by simp at hi; omega
      subst this
      simp only [List.getElem_append_right (Nat.le_refl _), Nat.sub_self, List.getElem_cons_zero]
      rw [hl]
      exact hx

theorem sum_le_bulk {H : Type} (D : Nat → DataW H) : ∀ (L : List (List (List UInt8))) (o : Nat), (∀ i (hi : i < L.length), cost L[i] ≤ Rows.uptoBulk (D (o + i))) → (L.map cost).sum ≤ Rows.uptoBulkAll ((List.range L.length).map (fun i => D (o + i)))
  | [], o, _ => by simp
  | c :: L, o, h => by
    have h0 := h 0 (by simp)
    have h1 := sum_le_bulk D L (o + 1) (fun i hi => by
      have := h (i + 1) (by simpa using hi)
      simpa [Nat.add_assoc, Nat.add_comm 1 i] using this)
    simp only [List.map_cons, List.sum_cons, List.length_cons, List.range_succ_eq_map, List.map_map, Rows.uptoBulkAll]
    have e : ((fun i => D (o + i)) ∘ Nat.succ) = fun i => D (o + 1 + i) := funext fun i => by simp [Nat.add_assoc, Nat.add_comm 1 i]
    rw [e]
    simp only [List.getElem_cons_zero] at h0
    omega

theorem cmds_of_trod {H : Type} {enc : TypeId × Value → H} {W : World} {n : Nat} {v : Value} {d : DataW H} {pl : List MemPlace} (h : DataW.trod enc Tryd.prog W 0 (fun _ => true) true n 36 [v] = some (d, pl)) :
    ∃ L, CmdsAt W v L ∧ (L.map cost).sum ≤ Rows.uptoBulk d := by
  rcases open_slice1 Tryd.underlying36 cells36 h with ⟨hcs, hx⟩ | ⟨a, len, cap, m, n', V, D, Pl, hcs, _, hl, hm, hmm, hx, hcell⟩
  · simp only [List.cons.injEq, and_true] at hcs
    subst hcs
    exact ⟨[], ⟨none, 0, rfl, .inl rfl⟩, by simp⟩
  · simp only [List.cons.injEq, and_true] at hcs
    simp only [Prod.mk.injEq] at hx
    obtain ⟨rfl, _⟩ := hx
    subst hcs
    have hmc : m = cap := by simpa using hmm
    subst hmc
    obtain ⟨L, hLl, hL⟩ := choose_list (len := len) (p := fun i xs => TextsAt W (V i) xs ∧ cost xs ≤ Rows.uptoBulk (D i)) (fun i hi => texts_of_trod (hcell i (by omega)).2)
    subst hLl
    refine ⟨L, ⟨some a, m, rfl, ?_⟩, ?_⟩
    · by_cases h0 : L = []
      · exact .inl h0
      · right
        have hpos : 0 < L.length := List.length_pos_iff.2 h0
        have hc0 := (hcell 0 (by omega)).1
        obtain ⟨b, off, rfl⟩ := addr_plain (by have e := cell_spot hc0; simpa [Addr.add] using e : a.spot = none)
        refine ⟨b, off, rfl, fun i hi => ⟨V i, ?_, (hL i hi).1⟩⟩
        rw [← add_at]
        exact (hcell i (by omega)).1
    · have h1 := sum_le_bulk D L 0 (fun i hi => by simpa using (hL i hi).2)
      simp only [Nat.zero_add] at h1
      simp only [Rows.uptoBulk]
      have e : (List.range L.length).map (fun i => D i) = (List.range L.length).map D := rfl
      rw [e] at h1
      omega
end Go.Proofs.YtolpmaapdkhigaaDoor
