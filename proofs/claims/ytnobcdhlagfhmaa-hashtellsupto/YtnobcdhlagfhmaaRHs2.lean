/- WALK of the reference's PutPairs: what is wrong. -/
import Derived.Test.YtnobcdhlagfhmaaRHs1
import Derived.Test.YtnobcdhlagfhmaaRHsP
import Derived.BigQuiet
import Derived.BigRegion
import Derived.Handy
namespace Go.Proofs.Ytnobcdhlagfhmaa
open Go.RowKit

theorem long_of (X1 X2 : ByteArray) : longP (X1, X2) = (decide (60 < X1.size) || decide (60 < X2.size)) := rfl
theorem any_snoc {l : List Pr} {q : Nat} (hq : q < l.length) : (l.take (q + 1)).any longP = ((l.take q).any longP || longP l[q]) := by
  rw [List.take_succ_eq_append_getElem hq, List.any_append]; simp
theorem any_take {l : List Pr} {q : Nat} (h : (l.take q).any longP = true) : l.any longP = true := by
  rw [List.any_eq_true] at h ⊢
  obtain ⟨x, hx, h2⟩ := h
  exact ⟨x, List.mem_of_mem_take hx, h2⟩
set_option maxRecDepth 100000 in
set_option maxHeartbeats 4000000 in
theorem putPairs_wrong (v : Value) (x : Itm) (al : Option Addr) (cl : Nat) (l : List Pr) (w : World) (h : ItemIs w v x) (hl : PairsAt w al l) (hll : l.length ≤ 1400000) (hlz : ∀ t ∈ l, t.1.size ≤ maxLen ∧ t.2.size ≤ maxLen) (hw : asI x 4 ≠ 0 ∨ l = [] ∨ l.any longP = true) :
    Calls Try.prog 9 #[v, .slice al l.length cl] w fun e w' => ∃ u, e = .returned (.tuple #[u, .int .i64 (putN x l), .int .i64 (putE x l)]) ∧ ItemFrom w.heap.size w' u (putI x l) ∧ Below w.heap.size w w' := by
  have HC : Hid (∀ W, Below w.heap.size w W → Calls Try.prog 31 #[v, .int .i64 4] W fun e w' => e = .returned (.int .i64 (asI x 4)) ∧ Below W.heap.size W w') := fun W hW => refAs_any v x 4 W (h.below hW)
  obtain ⟨⟨a1, c1, a2, c2, a3, c3, rfl, -, hx2, -⟩, -, -, pz, -, -, -, -⟩ := h
  clear hx2 pz
  by_cases h0 : asI x 4 = 0
  · obtain ⟨-, hx24, -⟩ := asI_hash h0
    by_cases hne : l = []
    · have hE : putE x l = 1 := by
        subst hne
        have e : togP x.p [] = x.p := rfl
        rw [putE, if_neg (by simp [h0]), if_neg (by rw [e]; simp; omega), if_pos rfl]
      rw [putN, putI, hE, if_neg (by decide), if_neg (by decide)]
      have hl0 : l.length = 0 := by rw [hne]; rfl
      rw [h0] at HC
      clear hE h0 hl hlz hw hne
      generalize l.length = nl at *
      subst hl0
      generalize x.p.length = n2 at *
      generalize x.l.length = n1 at *
      generalize x.t = t at *
      generalize x.k = k at *
      generalize x.s.length = n3 at *
      go_enter Try.func9, Try.ntmps9
      go_wp2_with fail
      refine (HC.out _ (((Below.refl _ w).alloc (Nat.le_refl _) _).alloc (by simp) _)).mono ?_
      rintro e w1 ⟨rfl, hb1⟩
      obtain ⟨hc, hf⟩ := bcell hb1
      have hz : w.heap.size + 1 < w1.heap.size := by have := hb1.size; simp at this; omega
      have hy : w.heap.size < w1.heap.size := by omega
      have hB1 : Below w.heap.size w w1 := (((Below.refl _ w).alloc (Nat.le_refl _) _).alloc (by simp) _).trans (hb1.mono (by simp; omega))
      go_wp2_with fail
      refine wp_loop_rounds 1 ?_
      rw [rounds_succ]
      go_wp2_with fail
      refine bodyPost_ret (v := .tuple #[.agg #[.int .i64 0, .string ⟨#[]⟩, .slice none 0 0, .slice none 0 0, .slice none 0 0], .int .i64 0, .int .i64 1]) (by simp [results, Try.results9, go_sem, hc]) rfl ⟨_, rfl, fun w'' _ => zero_is w'', ?_⟩
      go_grown
    · have hlong : l.any longP = true := by
        rcases hw with h1 | h1 | h1
        · exact absurd h0 h1
        · exact absurd h1 hne
        · exact h1
      have hE : putE x l = 2 := by rw [putE, if_neg (by simp [h0]), if_pos (.inr hlong)]
      rw [putN, putI, hE, if_neg (by decide), if_neg (by decide)]
      rw [h0] at HC
      have hl0 : ((((l.length : Nat)) : Int) == 0) = false := by rw [beq_eq_false_iff_ne]; exact fun e => hne (List.eq_nil_of_length_eq_zero (by omega))
      have HL := hide hl
      have HLG := hide hlong
      clear hE h0 hl hw hne hlong hlz
      generalize x.p.length = n2 at *
      generalize x.l.length = n1 at *
      generalize x.t = t at *
      generalize x.k = k at *
      generalize x.s.length = n3 at *
      go_enter Try.func9, Try.ntmps9
      go_wp2_with fail
      refine (HC.out _ (((Below.refl _ w).alloc (Nat.le_refl _) _).alloc (by simp) _)).mono ?_
      rintro e w1 ⟨rfl, hb1⟩
      obtain ⟨hc, hf⟩ := bcell hb1
      have hz : w.heap.size + 1 < w1.heap.size := by have := hb1.size; simp at this; omega
      have hy : w.heap.size < w1.heap.size := by omega
      have hB1 : Below w.heap.size w w1 := (((Below.refl _ w).alloc (Nat.le_refl _) _).alloc (by simp) _).trans (hb1.mono (by simp; omega))
      go_wp2_with fail
      go_loop [7, 8] (fun ev iv => ∃ q : Nat, q ≤ l.length ∧ iv = .int .i64 q ∧ ((ev = .int .i64 0 ∧ Hid ((l.take q).any longP = false)) ∨ ev = .int .i64 2)) (fun _ iv => l.length - (intOf iv).toNat)
      case atStart => exact ⟨0, Nat.zero_le _, rfl, .inl ⟨rfl, by simp [Hid]⟩⟩
      case round =>
        obtain ⟨q, hq, rfl, ⟨rfl, HN⟩ | rfl⟩ := hrel
        · have hlt : q < l.length := by
            refine Decidable.not_not.1 fun hn => ?_
            have h1 := HN.out
            rw [List.take_of_length_le (by omega), HLG.out] at h1
            cases h1
          have hlt' : ((q : Nat) : Int) < ((l.length : Nat) : Int) := by omega
          obtain ⟨g0, o0, rfl, hcs⟩ : ∃ g o, al = some ⟨g, o, none⟩ ∧ ∀ i (h : i < l.length), w.cell? ⟨g, o + i * 2, none⟩ = some (.string l[i].1) ∧ w.cell? ⟨g, o + i * 2 + 1, none⟩ = some (.string l[i].2) := by
            rcases HL.out with h | h
            · rw [h] at hlt; simp at hlt
            · exact h
          have d0 := (hB1.cell (p := ⟨g0, o0 + q * 2, none⟩) (World.block_lt_of_cell? _ _ (hcs q hlt).1)).trans (hcs q hlt).1
          have d1 := (hB1.cell (p := ⟨g0, o0 + q * 2 + 1, none⟩) (World.block_lt_of_cell? _ _ (hcs q hlt).2)).trans (hcs q hlt).2
          have HSN : Hid ((l.take (q + 1)).any longP = longP l[q]) := by rw [Hid, any_snoc hlt, HN.out, Bool.false_or]
          clear hcs HL HC HN
          generalize l[q] = X at *
          obtain ⟨X1, X2⟩ := X
          dsimp only at d0 d1
          rw [long_of] at HSN
          by_cases hL1 : (60 : Int) < ((X1.size : Nat) : Int)
          · clear HSN
            go_wp2_with fail
            go_round
            case rel => exact ⟨q + 1, by omega, by go_num, .inr rfl⟩
            case measure => simp [intOf]; omega
          · by_cases hL2 : (60 : Int) < ((X2.size : Nat) : Int)
            · clear HSN
              go_wp2_with fail
              go_round
              case rel => exact ⟨q + 1, by omega, by go_num, .inr rfl⟩
              case measure => simp [intOf]; omega
            · have HS2 : Hid ((l.take (q + 1)).any longP = false) := by
                rw [Hid, HSN.out, decide_eq_false (by omega), decide_eq_false (by omega)]; rfl
              clear HSN
              go_wp2_with fail
              go_round
              case rel => exact ⟨q + 1, by omega, by go_num, .inl ⟨rfl, HS2⟩⟩
              case measure => simp [intOf]; omega
        · by_cases hlt : ((q : Nat) : Int) < ((l.length : Nat) : Int)
          · go_wp2_with fail
            refine bodyPost_ret (v := .tuple #[.agg #[.int .i64 0, .string ⟨#[]⟩, .slice none 0 0, .slice none 0 0, .slice none 0 0], .int .i64 0, .int .i64 2]) (by simp [results, Try.results9, go_sem, hc]) rfl ⟨_, rfl, fun w'' _ => zero_is w'', ?_⟩
            go_grown
          · go_wp2_with fail
            refine bodyPost_ret (v := .tuple #[.agg #[.int .i64 0, .string ⟨#[]⟩, .slice none 0 0, .slice none 0 0, .slice none 0 0], .int .i64 0, .int .i64 2]) (by simp [results, Try.results9, go_sem, hc]) rfl ⟨_, rfl, fun w'' _ => zero_is w'', ?_⟩
            go_grown
  · have hE : putE x l = asI x 4 := by rw [putE, if_pos h0]
    rw [putN, putI, hE, if_neg h0, if_neg h0]
    have h0' : (asI x 4 == 0) = false := by rw [beq_eq_false_iff_ne]; exact h0
    clear hE hl hlz hw
    generalize asI x 4 = E at *
    generalize x.p.length = n2 at *
    generalize x.l.length = n1 at *
    generalize x.t = t at *
    generalize x.k = k at *
    generalize x.s.length = n3 at *
    by_cases hlt : (0 : Int) < ((l.length : Nat) : Int)
    · go_enter Try.func9, Try.ntmps9
      go_wp2_with fail
      refine (HC.out _ (((Below.refl _ w).alloc (Nat.le_refl _) _).alloc (by simp) _)).mono ?_
      rintro e w1 ⟨rfl, hb1⟩
      obtain ⟨hc, hf⟩ := bcell hb1
      have hz : w.heap.size + 1 < w1.heap.size := by have := hb1.size; simp at this; omega
      have hy : w.heap.size < w1.heap.size := by omega
      have hB1 : Below w.heap.size w w1 := (((Below.refl _ w).alloc (Nat.le_refl _) _).alloc (by simp) _).trans (hb1.mono (by simp; omega))
      go_wp2_with fail
      refine wp_loop_rounds 1 ?_
      rw [rounds_succ]
      go_wp2_with fail
      refine bodyPost_ret (v := .tuple #[.agg #[.int .i64 0, .string ⟨#[]⟩, .slice none 0 0, .slice none 0 0, .slice none 0 0], .int .i64 0, .int .i64 E]) (by simp [results, Try.results9, go_sem, hc]) rfl ⟨_, rfl, fun w'' _ => zero_is w'', ?_⟩
      go_grown
    · go_enter Try.func9, Try.ntmps9
      go_wp2_with fail
      refine (HC.out _ (((Below.refl _ w).alloc (Nat.le_refl _) _).alloc (by simp) _)).mono ?_
      rintro e w1 ⟨rfl, hb1⟩
      obtain ⟨hc, hf⟩ := bcell hb1
      have hz : w.heap.size + 1 < w1.heap.size := by have := hb1.size; simp at this; omega
      have hy : w.heap.size < w1.heap.size := by omega
      have hB1 : Below w.heap.size w w1 := (((Below.refl _ w).alloc (Nat.le_refl _) _).alloc (by simp) _).trans (hb1.mono (by simp; omega))
      go_wp2_with fail
      refine wp_loop_rounds 1 ?_
      rw [rounds_succ]
      go_wp2_with fail
      refine bodyPost_ret (v := .tuple #[.agg #[.int .i64 0, .string ⟨#[]⟩, .slice none 0 0, .slice none 0 0, .slice none 0 0], .int .i64 0, .int .i64 E]) (by simp [results, Try.results9, go_sem, hc]) rfl ⟨_, rfl, fun w'' _ => zero_is w'', ?_⟩
      go_grown
end Go.Proofs.Ytnobcdhlagfhmaa
