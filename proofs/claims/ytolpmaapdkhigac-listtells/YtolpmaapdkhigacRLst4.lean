/- WALK of the reference's lists: PopOf. -/
import Derived.Test.YtolpmaapdkhigacRLst3
import Derived.Test.YtolpmaapdkhigacLst9
import Derived.Test.YtolpmaapdkhigacCap
import Derived.Handy
namespace Go.Proofs.Ytolpmaapdkhigac
open Go.RowKit

theorem lst_k_zero {x : Itm} (h : x = lstI x.l) : x.k = 0 ↔ x.l = [] := by
  constructor
  · intro hk
    rw [h] at hk
    unfold lstI at hk
    split at hk
    · assumption
    · simp at hk
  · intro hl
    rw [h, lstI, if_pos hl]
    rfl
theorem popK_true {L : List ByteArray} (h : L ≠ []) : popK L true = L.drop 1 := by
  cases L with
  | nil => exact absurd rfl h
  | cons t M => rw [popK_front]; rfl
theorem popK_false {L : List ByteArray} (h : L ≠ []) : popK L false = L.take (L.length - 1) := by
  have e := List.dropLast_concat_getLast h
  rw [← List.dropLast_eq_take]
  conv => lhs; rw [← e]
  exact popK_back _ _
set_option maxRecDepth 100000 in
set_option maxHeartbeats 8000000 in
theorem popOf_any (v : Value) (x : Itm) (left : Bool) (w : World) (h : ItemIs w v x) (hcap : CapOk v) :
    Calls Try.prog 11 #[v, .bool left] w fun e w' => ∃ u, e = .returned (.tuple #[u, .string (popS x left), .int .i64 (popE x)]) ∧ (∀ W, Below w.heap.size w W → ItemIs W u (popI x left)) ∧ Below w.heap.size w w' := by
  have HC : Hid (∀ W, Below w.heap.size w W → Calls Try.prog 13 #[v, .int .i64 2] W fun e w' => e = .returned (.int .i64 (asI x 2)) ∧ Below W.heap.size W w') := fun W hW => refAs_any v x 2 W (h.below hW)
  obtain ⟨⟨a1, c1, a2, c2, a3, c3, rfl, hx1, -, -⟩, tz, lz, -, -, -, -, -⟩ := h
  have hcp : x.l.length ≤ c1 := hcap _ _ _ _ _ _ _ rfl
  have HX := hide hx1
  clear hx1 hcap
  by_cases h0 : asI x 2 = 0
  · obtain ⟨hxe, hx24, hxl⟩ := asI_list h0
    have hk0 := lst_k_zero hxe
    rw [h0] at HC
    by_cases hne : x.l = []
    · have hE : popE x = 5 := by rw [popE, if_neg (by simp [h0]), if_pos hne]
      rw [popS, popI, hE, if_neg (by decide), if_neg (by decide)]
      have hk := hk0.2 hne
      rw [hne, hk] at HC ⊢
      clear hE h0 hxl hne HX hxe hk0 hk hcp
      generalize x.t = t at *
      generalize x.p.length = n2 at *
      generalize x.s.length = n3 at *
      go_enter Try.func11, Try.ntmps11
      go_wp2_with fail
      refine (HC.out _ (((Below.refl _ w).alloc (Nat.le_refl _) _).alloc (by simp) _)).mono ?_
      rintro e w1 ⟨rfl, hb1⟩
      obtain ⟨hc, hf⟩ := bcell hb1
      have hz : w.heap.size + 1 < w1.heap.size := by have := hb1.size; simp at this; omega
      have hy : w.heap.size < w1.heap.size := by omega
      have hB1 : Below w.heap.size w w1 := (((Below.refl _ w).alloc (Nat.le_refl _) _).alloc (by simp) _).trans (hb1.mono (by simp; omega))
      go_wp2_with fail
      refine bodyPost_ret (v := .tuple #[.agg #[.int .i64 0, .string ⟨#[]⟩, .slice none 0 0, .slice none 0 0, .slice none 0 0], .string ⟨#[]⟩, .int .i64 5]) (by simp [results, Try.results11, go_sem, hc]) rfl ⟨_, rfl, fun w'' _ => zero_is w'', ?_⟩
      go_grown
    · have hE : popE x = 0 := by rw [popE, if_neg (by simp [h0]), if_neg hne]
      rw [popS, popI, hE, if_pos rfl, if_pos rfl]
      have hpos : 0 < x.l.length := List.length_pos_iff.2 hne
      have hk : (x.k == 0) = false := by rw [beq_eq_false_iff_ne]; exact fun e => hne (hk0.1 e)
      obtain ⟨g, o, rfl, hcs⟩ : ∃ g o, a1 = some ⟨g, o, none⟩ ∧ ∀ i (h : i < x.l.length), w.cell? ⟨g, o + i, none⟩ = some (.string x.l[i]) := by
        rcases HX.out with h | h
        · exact absurd h hne
        · exact h
      have HZ := hide lz
      have HNE := hide hne
      clear hE h0 hxl hne hxe hk0 HX lz
      generalize x.l = L at *
      have hpos' : (1 : Int) ≤ ((L.length : Nat) : Int) := by omega
      cases left with
      | true =>
        by_cases hc1 : c1 = 1
        · subst hc1
          rw [show popAt true L = 0 from rfl, getElem!_pos L (0) (by omega), popK_true HNE.out]
          have hgl : g < w.heap.size := World.block_lt_of_cell? _ _ (hcs 0 hpos)
          have HO : Hid (∀ W, Below w.heap.size w W → W.cell? ⟨g, o, none⟩ = some (.string (L[0]'(by omega)))) := fun W hW => (hW.cell (p := ⟨g, o, none⟩) hgl).trans (by simpa using hcs (0) (by omega))
          have HT : Hid (∀ W, Below w.heap.size w W → TextsAt W (some ⟨g, o, none⟩) (L.drop 1)) := fun W hW => .inl (List.drop_of_length_le (by omega))
          have HKZ : Hid (∀ t ∈ L.drop 1, t.size ≤ maxLen) := fun t ht => HZ.out t (List.mem_of_mem_drop ht)
          have hKl : (L.drop 1).length = L.length - 1 := by simp
          have HKL := hide hKl
          clear hcs HZ hKl
          generalize L[0] = Y at *
          generalize L.drop 1 = K at *
          generalize x.t = t at *
          generalize x.k = k at *
          generalize x.p.length = n2 at *
          generalize x.s.length = n3 at *
          go_enter Try.func11, Try.ntmps11
          go_wp2_with fail
          refine (HC.out _ (((Below.refl _ w).alloc (Nat.le_refl _) _).alloc (by simp) _)).mono ?_
          rintro e w1 ⟨rfl, hb1⟩
          obtain ⟨hc, hf⟩ := bcell hb1
          have hz : w.heap.size + 1 < w1.heap.size := by have := hb1.size; simp at this; omega
          have hy : w.heap.size < w1.heap.size := by omega
          have hB1 : Below w.heap.size w w1 := (((Below.refl _ w).alloc (Nat.le_refl _) _).alloc (by simp) _).trans (hb1.mono (by simp; omega))
          obtain ⟨fk, fa, fn, fc, hF, hI⟩ := filled_item (p := fun W => Below w.heap.size w W) (cp := 0) 2 HT.out HKZ.out (by rw [HKL.out]; omega)
          rw [HKL.out, show L.length - 1 = 0 by omega] at hF
          simp only [kindI_two] at hI
          have HF := hide hF
          have HI := hide hI
          clear hF hI HC HT HKZ HNE
          have HBX : Hid (∀ W, Below w1.heap.size w1 W → (W.cell? ⟨w.heap.size + 1, 0, none⟩ = some (.int .i64 0) ∧ W.cell? ⟨w.heap.size + 1, 1, none⟩ = some (.string ⟨#[]⟩) ∧ W.cell? ⟨w.heap.size + 1, 2, none⟩ = some (.slice none 0 0) ∧ W.cell? ⟨w.heap.size + 1, 3, none⟩ = some (.slice none 0 0) ∧ W.cell? ⟨w.heap.size + 1, 4, none⟩ = some (.slice none 0 0)) ∧ (∀ j, W.frozen? ⟨w.heap.size + 1, j, none⟩ = false) ∧ W.cell? ⟨w.heap.size, 2, none⟩ = some (.slice (some ⟨g, o, none⟩) L.length 1)) := fun W hW =>
            ⟨⟨(hW.cell (p := ⟨w.heap.size + 1, 0, none⟩) hz).trans ((hc _ _ (by simp)).trans (by simp [go_sem])), (hW.cell (p := ⟨w.heap.size + 1, 1, none⟩) hz).trans ((hc _ _ (by simp)).trans (by simp [go_sem])), (hW.cell (p := ⟨w.heap.size + 1, 2, none⟩) hz).trans ((hc _ _ (by simp)).trans (by simp [go_sem])), (hW.cell (p := ⟨w.heap.size + 1, 3, none⟩) hz).trans ((hc _ _ (by simp)).trans (by simp [go_sem])), (hW.cell (p := ⟨w.heap.size + 1, 4, none⟩) hz).trans ((hc _ _ (by simp)).trans (by simp [go_sem]))⟩, fun j => (hW.frozen (p := ⟨w.heap.size + 1, j, none⟩) hz).trans ((hf _ _ (by simp)).trans (by simp [go_sem])), (hW.cell (p := ⟨w.heap.size, 2, none⟩) hy).trans ((hc _ _ (by simp; omega)).trans (by simp [go_sem]))⟩
          obtain ⟨-, -, x2⟩ := HBX.out w1 (Below.refl _ _)
          have x0 : w1.cell? ⟨w.heap.size, 0, none⟩ = some (.int .i64 k) := (hc _ _ (by simp; omega)).trans (by simp [go_sem])
          have o1 := HO.out w1 hB1
          have hgl1 : g < w1.heap.size := by omega
          clear hc hf hb1
          have ne3 : g ≠ w.heap.size + 1 := by omega
          have ne4 : w.heap.size + 1 ≠ g := by omega
          go_wp2_with fail
          go_region_held3 (fun w' => w'.cell? ⟨w.heap.size, 2, none⟩ = some (.slice (some ⟨g, o, none⟩) L.length 1) ∧ w'.cell? ⟨g, o, none⟩ = some (.string Y)) (go_keep)
            ((go_at_call 31; refine (HF.out _).mono ?_; rintro e w3 ⟨rfl, hb3⟩; have hb3' : Below w1.heap.size w1 w3 := ⟨hb3.os, hb3.tape, hb3.output, hb3.size, hb3.block⟩; obtain ⟨⟨b0, b1, b2, b3, b4⟩, fz, x3⟩ := HBX.out w3 hb3'; have o3 := HO.out w3 (hB1.trans (hb3'.mono hB1.size)); have fz0 := fz 0; have fz1 := fz 1; have fz2 := fz 2; have fz3 := fz 3; have fz4 := fz 4))
          all_goals
            go_wp2_with fail
            refine bodyPost_ret (v := .tuple #[.agg #[.int .i64 fk, .string ⟨#[]⟩, .slice fa fn fc, .slice none 0 0, .slice none 0 0], .string Y, .int .i64 0]) (by simp [results, Try.results11, go_sem, b0, b1, b2, b3, b4]) rfl ⟨_, rfl, ?_, ?_⟩
            · exact HI.out
            · have hb3'' := hB1.trans (hb3'.mono hB1.size)
              go_grown
        · have hc1' : (((c1 : Nat) : Int) == 1) = false := by rw [beq_eq_false_iff_ne]; omega
          rw [show popAt true L = 0 from rfl, getElem!_pos L (0) (by omega), popK_true HNE.out]
          have hgl : g < w.heap.size := World.block_lt_of_cell? _ _ (hcs 0 hpos)
          have HO : Hid (∀ W, Below w.heap.size w W → W.cell? ⟨g, o, none⟩ = some (.string (L[0]'(by omega)))) := fun W hW => (hW.cell (p := ⟨g, o, none⟩) hgl).trans (by simpa using hcs (0) (by omega))
          have HT : Hid (∀ W, Below w.heap.size w W → TextsAt W (some ⟨g, o + 1, none⟩) (L.drop 1)) := fun W hW =>
            .inr ⟨g, o + 1, rfl, fun i hi => ((hW.cell (p := ⟨g, o + 1 + i, none⟩) hgl).trans (by
              have := hcs (1 + i) (by simp at hi; omega)
              rw [show o + 1 + i = o + (1 + i) by omega, this]
              simp [Nat.add_comm]))⟩
          have HKZ : Hid (∀ t ∈ L.drop 1, t.size ≤ maxLen) := fun t ht => HZ.out t (List.mem_of_mem_drop ht)
          have hKl : (L.drop 1).length = L.length - 1 := by simp
          have HKL := hide hKl
          clear hcs HZ hKl
          generalize L[0] = Y at *
          generalize L.drop 1 = K at *
          generalize x.t = t at *
          generalize x.k = k at *
          generalize x.p.length = n2 at *
          generalize x.s.length = n3 at *
          go_enter Try.func11, Try.ntmps11
          go_wp2_with fail
          refine (HC.out _ (((Below.refl _ w).alloc (Nat.le_refl _) _).alloc (by simp) _)).mono ?_
          rintro e w1 ⟨rfl, hb1⟩
          obtain ⟨hc, hf⟩ := bcell hb1
          have hz : w.heap.size + 1 < w1.heap.size := by have := hb1.size; simp at this; omega
          have hy : w.heap.size < w1.heap.size := by omega
          have hB1 : Below w.heap.size w w1 := (((Below.refl _ w).alloc (Nat.le_refl _) _).alloc (by simp) _).trans (hb1.mono (by simp; omega))
          obtain ⟨fk, fa, fn, fc, hF, hI⟩ := filled_item (p := fun W => Below w.heap.size w W) (cp := c1 - 1) 2 HT.out HKZ.out (by rw [HKL.out]; omega)
          rw [HKL.out] at hF
          simp only [kindI_two] at hI
          have HF := hide hF
          have HI := hide hI
          clear hF hI HC HT HKZ HNE
          have HBX : Hid (∀ W, Below w1.heap.size w1 W → (W.cell? ⟨w.heap.size + 1, 0, none⟩ = some (.int .i64 0) ∧ W.cell? ⟨w.heap.size + 1, 1, none⟩ = some (.string ⟨#[]⟩) ∧ W.cell? ⟨w.heap.size + 1, 2, none⟩ = some (.slice none 0 0) ∧ W.cell? ⟨w.heap.size + 1, 3, none⟩ = some (.slice none 0 0) ∧ W.cell? ⟨w.heap.size + 1, 4, none⟩ = some (.slice none 0 0)) ∧ (∀ j, W.frozen? ⟨w.heap.size + 1, j, none⟩ = false) ∧ W.cell? ⟨w.heap.size, 2, none⟩ = some (.slice (some ⟨g, o, none⟩) L.length c1)) := fun W hW =>
            ⟨⟨(hW.cell (p := ⟨w.heap.size + 1, 0, none⟩) hz).trans ((hc _ _ (by simp)).trans (by simp [go_sem])), (hW.cell (p := ⟨w.heap.size + 1, 1, none⟩) hz).trans ((hc _ _ (by simp)).trans (by simp [go_sem])), (hW.cell (p := ⟨w.heap.size + 1, 2, none⟩) hz).trans ((hc _ _ (by simp)).trans (by simp [go_sem])), (hW.cell (p := ⟨w.heap.size + 1, 3, none⟩) hz).trans ((hc _ _ (by simp)).trans (by simp [go_sem])), (hW.cell (p := ⟨w.heap.size + 1, 4, none⟩) hz).trans ((hc _ _ (by simp)).trans (by simp [go_sem]))⟩, fun j => (hW.frozen (p := ⟨w.heap.size + 1, j, none⟩) hz).trans ((hf _ _ (by simp)).trans (by simp [go_sem])), (hW.cell (p := ⟨w.heap.size, 2, none⟩) hy).trans ((hc _ _ (by simp; omega)).trans (by simp [go_sem]))⟩
          obtain ⟨-, -, x2⟩ := HBX.out w1 (Below.refl _ _)
          have x0 : w1.cell? ⟨w.heap.size, 0, none⟩ = some (.int .i64 k) := (hc _ _ (by simp; omega)).trans (by simp [go_sem])
          have o1 := HO.out w1 hB1
          have hgl1 : g < w1.heap.size := by omega
          clear hc hf hb1
          have ne3 : g ≠ w.heap.size + 1 := by omega
          have ne4 : w.heap.size + 1 ≠ g := by omega
          go_wp2_with fail
          go_region_held3 (fun w' => w'.cell? ⟨w.heap.size, 2, none⟩ = some (.slice (some ⟨g, o, none⟩) L.length c1) ∧ w'.cell? ⟨g, o, none⟩ = some (.string Y)) (go_keep)
            ((go_at_call 31; refine (HF.out _).mono ?_; rintro e w3 ⟨rfl, hb3⟩; have hb3' : Below w1.heap.size w1 w3 := ⟨hb3.os, hb3.tape, hb3.output, hb3.size, hb3.block⟩; obtain ⟨⟨b0, b1, b2, b3, b4⟩, fz, x3⟩ := HBX.out w3 hb3'; have o3 := HO.out w3 (hB1.trans (hb3'.mono hB1.size)); have fz0 := fz 0; have fz1 := fz 1; have fz2 := fz 2; have fz3 := fz 3; have fz4 := fz 4))
          all_goals
            go_wp2_with fail
            refine bodyPost_ret (v := .tuple #[.agg #[.int .i64 fk, .string ⟨#[]⟩, .slice fa fn fc, .slice none 0 0, .slice none 0 0], .string Y, .int .i64 0]) (by simp [results, Try.results11, go_sem, b0, b1, b2, b3, b4]) rfl ⟨_, rfl, ?_, ?_⟩
            · exact HI.out
            · have hb3'' := hB1.trans (hb3'.mono hB1.size)
              go_grown
      | false =>
        rw [show popAt false L = L.length - 1 from rfl, getElem!_pos L (L.length - 1) (by omega), popK_false HNE.out]
        have hgl : g < w.heap.size := World.block_lt_of_cell? _ _ (hcs 0 hpos)
        have HO : Hid (∀ W, Below w.heap.size w W → W.cell? ⟨g, o + (L.length - 1), none⟩ = some (.string (L[L.length - 1]'(by omega)))) := fun W hW => (hW.cell (p := ⟨g, o + (L.length - 1), none⟩) hgl).trans (by simpa using hcs (L.length - 1) (by omega))
        have HT : Hid (∀ W, Below w.heap.size w W → TextsAt W (some ⟨g, o, none⟩) (L.take (L.length - 1))) := fun W hW =>
          .inr ⟨g, o, rfl, fun i hi => ((hW.cell (p := ⟨g, o + i, none⟩) hgl).trans (by
            have := hcs i (by simp at hi; omega)
            rw [this]
            simp))⟩
        have HKZ : Hid (∀ t ∈ L.take (L.length - 1), t.size ≤ maxLen) := fun t ht => HZ.out t (List.mem_of_mem_take ht)
        have hKl : (L.take (L.length - 1)).length = L.length - 1 := by simp
        have HKL := hide hKl
        clear hcs HZ hKl
        generalize L[L.length - 1] = Y at *
        generalize L.take (L.length - 1) = K at *
        generalize x.t = t at *
        generalize x.k = k at *
        generalize x.p.length = n2 at *
        generalize x.s.length = n3 at *
        go_enter Try.func11, Try.ntmps11
        go_wp2_with fail
        refine (HC.out _ (((Below.refl _ w).alloc (Nat.le_refl _) _).alloc (by simp) _)).mono ?_
        rintro e w1 ⟨rfl, hb1⟩
        obtain ⟨hc, hf⟩ := bcell hb1
        have hz : w.heap.size + 1 < w1.heap.size := by have := hb1.size; simp at this; omega
        have hy : w.heap.size < w1.heap.size := by omega
        have hB1 : Below w.heap.size w w1 := (((Below.refl _ w).alloc (Nat.le_refl _) _).alloc (by simp) _).trans (hb1.mono (by simp; omega))
        obtain ⟨fk, fa, fn, fc, hF, hI⟩ := filled_item (p := fun W => Below w.heap.size w W) (cp := c1) 2 HT.out HKZ.out (by rw [HKL.out]; omega)
        rw [HKL.out] at hF
        simp only [kindI_two] at hI
        have HF := hide hF
        have HI := hide hI
        clear hF hI HC HT HKZ HNE
        have HBX : Hid (∀ W, Below w1.heap.size w1 W → (W.cell? ⟨w.heap.size + 1, 0, none⟩ = some (.int .i64 0) ∧ W.cell? ⟨w.heap.size + 1, 1, none⟩ = some (.string ⟨#[]⟩) ∧ W.cell? ⟨w.heap.size + 1, 2, none⟩ = some (.slice none 0 0) ∧ W.cell? ⟨w.heap.size + 1, 3, none⟩ = some (.slice none 0 0) ∧ W.cell? ⟨w.heap.size + 1, 4, none⟩ = some (.slice none 0 0)) ∧ (∀ j, W.frozen? ⟨w.heap.size + 1, j, none⟩ = false) ∧ W.cell? ⟨w.heap.size, 2, none⟩ = some (.slice (some ⟨g, o, none⟩) L.length c1)) := fun W hW =>
          ⟨⟨(hW.cell (p := ⟨w.heap.size + 1, 0, none⟩) hz).trans ((hc _ _ (by simp)).trans (by simp [go_sem])), (hW.cell (p := ⟨w.heap.size + 1, 1, none⟩) hz).trans ((hc _ _ (by simp)).trans (by simp [go_sem])), (hW.cell (p := ⟨w.heap.size + 1, 2, none⟩) hz).trans ((hc _ _ (by simp)).trans (by simp [go_sem])), (hW.cell (p := ⟨w.heap.size + 1, 3, none⟩) hz).trans ((hc _ _ (by simp)).trans (by simp [go_sem])), (hW.cell (p := ⟨w.heap.size + 1, 4, none⟩) hz).trans ((hc _ _ (by simp)).trans (by simp [go_sem]))⟩, fun j => (hW.frozen (p := ⟨w.heap.size + 1, j, none⟩) hz).trans ((hf _ _ (by simp)).trans (by simp [go_sem])), (hW.cell (p := ⟨w.heap.size, 2, none⟩) hy).trans ((hc _ _ (by simp; omega)).trans (by simp [go_sem]))⟩
        obtain ⟨-, -, x2⟩ := HBX.out w1 (Below.refl _ _)
        have x0 : w1.cell? ⟨w.heap.size, 0, none⟩ = some (.int .i64 k) := (hc _ _ (by simp; omega)).trans (by simp [go_sem])
        have o1 := HO.out w1 hB1
        have hgl1 : g < w1.heap.size := by omega
        clear hc hf hb1
        have ne3 : g ≠ w.heap.size + 1 := by omega
        have ne4 : w.heap.size + 1 ≠ g := by omega
        have hw1 := wrap_small (((L.length : Nat) : Int) - 1) (by omega) (by omega)
        have hi0 : (0 : Int) ≤ ((L.length : Nat) : Int) - 1 := by omega
        have hi1 : ((L.length : Nat) : Int) - 1 < ((L.length : Nat) : Int) := by omega
        have hi2 : ((L.length : Nat) : Int) - 1 ≤ ((c1 : Nat) : Int) := by omega
        have hi3 : (((L.length : Nat) : Int) - 1).toNat = L.length - 1 := by omega
        go_wp2_with fail
        go_region_held3 (fun w' => w'.cell? ⟨w.heap.size, 2, none⟩ = some (.slice (some ⟨g, o, none⟩) L.length c1) ∧ w'.cell? ⟨g, o + (L.length - 1), none⟩ = some (.string Y)) (go_keep)
          ((go_at_call 31; refine (HF.out _).mono ?_; rintro e w3 ⟨rfl, hb3⟩; have hb3' : Below w1.heap.size w1 w3 := ⟨hb3.os, hb3.tape, hb3.output, hb3.size, hb3.block⟩; obtain ⟨⟨b0, b1, b2, b3, b4⟩, fz, x3⟩ := HBX.out w3 hb3'; have o3 := HO.out w3 (hB1.trans (hb3'.mono hB1.size)); have fz0 := fz 0; have fz1 := fz 1; have fz2 := fz 2; have fz3 := fz 3; have fz4 := fz 4))
        all_goals
          go_wp2_with fail
          refine bodyPost_ret (v := .tuple #[.agg #[.int .i64 fk, .string ⟨#[]⟩, .slice fa fn fc, .slice none 0 0, .slice none 0 0], .string Y, .int .i64 0]) (by simp [results, Try.results11, go_sem, b0, b1, b2, b3, b4]) rfl ⟨_, rfl, ?_, ?_⟩
          · exact HI.out
          · have hb3'' := hB1.trans (hb3'.mono hB1.size)
            go_grown
  · have hE : popE x = asI x 2 := by rw [popE, if_pos h0]
    have h0' : (asI x 2 == 0) = false := by rw [beq_eq_false_iff_ne]; exact h0
    rw [popS, popI, hE, if_neg h0, if_neg h0]
    clear hE HX
    generalize asI x 2 = E at *
    generalize x.l = L at *
    generalize x.t = t at *
    generalize x.k = k at *
    generalize x.p.length = n2 at *
    generalize x.s.length = n3 at *
    go_enter Try.func11, Try.ntmps11
    go_wp2_with fail
    refine (HC.out _ (((Below.refl _ w).alloc (Nat.le_refl _) _).alloc (by simp) _)).mono ?_
    rintro e w1 ⟨rfl, hb1⟩
    obtain ⟨hc, hf⟩ := bcell hb1
    have hz : w.heap.size + 1 < w1.heap.size := by have := hb1.size; simp at this; omega
    have hy : w.heap.size < w1.heap.size := by omega
    have hB1 : Below w.heap.size w w1 := (((Below.refl _ w).alloc (Nat.le_refl _) _).alloc (by simp) _).trans (hb1.mono (by simp; omega))
    go_wp2_with fail
    refine bodyPost_ret (v := .tuple #[.agg #[.int .i64 0, .string ⟨#[]⟩, .slice none 0 0, .slice none 0 0, .slice none 0 0], .string ⟨#[]⟩, .int .i64 E]) (by simp [results, Try.results11, go_sem, hc]) rfl ⟨_, rfl, fun w'' _ => zero_is w'', ?_⟩
    go_grown
end Go.Proofs.Ytolpmaapdkhigac
