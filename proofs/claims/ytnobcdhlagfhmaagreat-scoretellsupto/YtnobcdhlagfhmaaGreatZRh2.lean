/- WALK of the reference's PutScores: what is wrong. -/
import Derived.Test.YtnobcdhlagfhmaaGreatZRh1
import Derived.Test.YtnobcdhlagfhmaaGreatZRhP
import Derived.Test.YtnobcdhlagfhmaaGreatZPut
import Derived.Test.YtnobcdhlagfhmaaGreatRInt
import Derived.BigQuiet
import Derived.BigRegion
import Derived.Handy
namespace Go.Proofs.YtnobcdhlagfhmaaGreat.Z
open Go.RowKit

theorem checkS_int {X1 : Int} {X2 : ByteArray} (h : ¬ (-999999999 ≤ X1 ∧ X1 ≤ 999999999)) : checkS (X1, X2) = 3 := by unfold checkS; rw [if_pos h]
theorem checkS_long {X1 : Int} {X2 : ByteArray} (h : -999999999 ≤ X1 ∧ X1 ≤ 999999999) (h2 : (60 : Int) < ((X2.size : Nat) : Int)) : checkS (X1, X2) = 2 := by
  unfold checkS
  rw [if_neg (fun h3 => h3 h), if_pos (by unfold longT; simp; omega)]
theorem checkS_none {X1 : Int} {X2 : ByteArray} (h : -999999999 ≤ X1 ∧ X1 ≤ 999999999) (h2 : ¬ (60 : Int) < ((X2.size : Nat) : Int)) : checkS (X1, X2) = 0 := by
  unfold checkS
  rw [if_neg (fun h3 => h3 h), if_neg (by unfold longT; simp; omega)]
set_option maxRecDepth 100000 in
set_option maxHeartbeats 4000000 in
theorem putScores_wrong (v : Value) (x : Itm) (al : Option Addr) (cl : Nat) (l : List Sc) (w : World) (h : ItemIs w v x) (hl : ScoresAt w al l) (hll : l.length ≤ 1400000) (hw : asI x 5 ≠ 0 ∨ l = [] ∨ wrongS l ≠ 0) :
    Calls Tryz.prog 10 #[v, .slice al l.length cl] w fun e w' => ∃ u, e = .returned (.tuple #[u, .int .i64 (putN x l), .int .i64 (putE x l)]) ∧ ItemFrom w.heap.size w' u (putI x l) ∧ Below w.heap.size w w' := by
  have HC : Hid (∀ W, Below w.heap.size w W → Calls Tryz.prog 33 #[v, .int .i64 5] W fun e w' => e = .returned (.int .i64 (asI x 5)) ∧ Below W.heap.size W w') := fun W hW => refAs_any v x 5 W (h.below hW)
  obtain ⟨⟨a1, c1, a2, c2, a3, c3, rfl, -, -, hx3⟩, -, -, -, -, -, -, -⟩ := h
  clear hx3
  by_cases h0 : asI x 5 = 0
  · have hx24 := (asI_score h0).n
    by_cases hne : l = []
    · have hE : putE x l = 1 := by
        subst hne
        have e : togS x.s [] = x.s := rfl
        rw [putE, if_neg (by simp [h0]), if_neg (by simp [wrongS]), if_neg (by rw [e]; omega), if_pos rfl]
      rw [putN, putI, hE, if_neg (by decide), if_neg (by decide)]
      have hl0 : l.length = 0 := by rw [hne]; rfl
      rw [h0] at HC
      clear hE h0 hl hw hne
      generalize l.length = nl at *
      subst hl0
      generalize x.s.length = n3 at *
      generalize x.l.length = n1 at *
      generalize x.t = t at *
      generalize x.k = k at *
      generalize x.p.length = n2 at *
      go_enter Tryz.func10, Tryz.ntmps10
      go_wp2_with fail
      refine (HC.out _ (((Below.refl _ w).alloc (Nat.le_refl _) _).alloc (by simp) _)).mono ?_
      rintro e w1 ⟨rfl, hb1⟩
      obtain ⟨hc, hf⟩ := bcell hb1
      have hz : w.heap.size + 1 < w1.heap.size := by have := hb1.size; simp at this; omega
      have hy : w.heap.size < w1.heap.size := by omega
      have hB1 : Below w.heap.size w w1 := (((Below.refl _ w).alloc (Nat.le_refl _) _).alloc (by simp) _).trans (hb1.mono (by simp; omega))
      go_wp2_with fail
      refine wp_loop_rounds 1 ?_
      rw [rounds_succ]
      go_wp2_with fail
      refine bodyPost_ret (v := .tuple #[.agg #[.int .i64 0, .string ⟨#[]⟩, .slice none 0 0, .slice none 0 0, .slice none 0 0], .int .i64 0, .int .i64 1]) (by simp [results, Tryz.results10, go_sem, hc]) rfl ⟨_, rfl, fun w'' _ => zero_is w'', ?_⟩
      go_grown
    · have hwr : wrongS l ≠ 0 := by
        rcases hw with h1 | h1 | h1
        · exact absurd h0 h1
        · exact absurd h1 hne
        · exact h1
      have hE : putE x l = wrongS l := by rw [putE, if_neg (by simp [h0]), if_pos hwr]
      rw [putN, putI, hE, if_neg hwr, if_neg hwr]
      rw [h0] at HC
      have hl0 : ((((l.length : Nat)) : Int) == 0) = false := by rw [beq_eq_false_iff_ne]; exact fun e => hne (List.eq_nil_of_length_eq_zero (by omega))
      have HL := hide hl
      obtain ⟨WE, hWE⟩ : ∃ WE, wrongS l = WE := ⟨_, rfl⟩
      rw [hWE] at hwr ⊢
      have HWE := hide hWE
      have HWR := hide hwr
      have hwe' : (WE == 0) = false := by rw [beq_eq_false_iff_ne]; exact hwr
      clear hE h0 hl hw hne hWE hwr
      generalize x.s.length = n3 at *
      generalize x.l.length = n1 at *
      generalize x.t = t at *
      generalize x.k = k at *
      generalize x.p.length = n2 at *
      go_enter Tryz.func10, Tryz.ntmps10
      go_wp2_with fail
      refine (HC.out _ (((Below.refl _ w).alloc (Nat.le_refl _) _).alloc (by simp) _)).mono ?_
      rintro e w1 ⟨rfl, hb1⟩
      obtain ⟨hc, hf⟩ := bcell hb1
      have hz : w.heap.size + 1 < w1.heap.size := by have := hb1.size; simp at this; omega
      have hy : w.heap.size < w1.heap.size := by omega
      have hB1 : Below w.heap.size w w1 := (((Below.refl _ w).alloc (Nat.le_refl _) _).alloc (by simp) _).trans (hb1.mono (by simp; omega))
      go_wp2_with fail
      go_loop [7, 8] (fun ev iv => ∃ q : Nat, q ≤ l.length ∧ iv = .int .i64 q ∧ ((ev = .int .i64 0 ∧ Hid (wrongS l = wrongS (l.drop q))) ∨ ev = .int .i64 WE)) (fun _ iv => l.length - (intOf iv).toNat)
      case atStart => exact ⟨0, Nat.zero_le _, rfl, .inl ⟨rfl, rfl⟩⟩
      case round =>
        obtain ⟨q, hq, rfl, ⟨rfl, HN⟩ | rfl⟩ := hrel
        · have hlt : q < l.length := by
            refine Decidable.not_not.1 fun hn => HWR.out ?_
            rw [← HWE.out, HN.out, List.drop_eq_nil_of_le (by omega)]
            rfl
          have hlt' : ((q : Nat) : Int) < ((l.length : Nat) : Int) := by omega
          obtain ⟨g0, o0, rfl, hcs⟩ : ∃ g o, al = some ⟨g, o, none⟩ ∧ ∀ i (h : i < l.length), w.cell? ⟨g, o + i * 2, none⟩ = some (.int .i64 l[i].1) ∧ w.cell? ⟨g, o + i * 2 + 1, none⟩ = some (.string l[i].2) := by
            rcases HL.out with h | h
            · rw [h] at hlt; simp at hlt
            · exact h
          have d0 := (hB1.cell (p := ⟨g0, o0 + q * 2, none⟩) (World.block_lt_of_cell? _ _ (hcs q hlt).1)).trans (hcs q hlt).1
          have d1 := (hB1.cell (p := ⟨g0, o0 + q * 2 + 1, none⟩) (World.block_lt_of_cell? _ _ (hcs q hlt).2)).trans (hcs q hlt).2
          have HST : Hid (wrongS l = if checkS l[q] ≠ 0 then checkS l[q] else wrongS (l.drop (q + 1))) := by rw [Hid, HN.out, List.drop_eq_getElem_cons hlt, wrongS]
          clear hcs HL HC HN
          generalize l[q] = X at *
          obtain ⟨X1, X2⟩ := X
          dsimp only at d0 d1
          by_cases hi : -999999999 ≤ X1 ∧ X1 ≤ 999999999
          · have hdi := decide_eq_true hi
            by_cases hL2 : (60 : Int) < ((X2.size : Nat) : Int)
            · have hw2 : WE = 2 := by rw [← HWE.out, HST.out, checkS_long hi hL2, if_pos (by decide)]
              have HW2 := hide hw2
              clear HST hi hw2
              go_wp2_with fail
              refine (isInt_any _ _).mono ?_
              rintro e w3 ⟨rfl, hw3⟩
              have hw4 := hw3.symm
              subst hw4
              rw [hdi]
              go_wp2_with fail
              go_round
              case rel => exact ⟨q + 1, by omega, by go_num, .inr (by rw [HW2.out])⟩
              case measure => simp [intOf]; omega
            · have HW2 : Hid (wrongS l = wrongS (l.drop (q + 1))) := by rw [Hid, HST.out, checkS_none hi hL2, if_neg (by decide)]
              clear HST hi
              go_wp2_with fail
              refine (isInt_any _ _).mono ?_
              rintro e w3 ⟨rfl, hw3⟩
              have hw4 := hw3.symm
              subst hw4
              rw [hdi]
              go_wp2_with fail
              go_round
              case rel => exact ⟨q + 1, by omega, by go_num, .inl ⟨rfl, HW2⟩⟩
              case measure => simp [intOf]; omega
          · have hdi := decide_eq_false hi
            have hw2 : WE = 3 := by rw [← HWE.out, HST.out, checkS_int hi, if_pos (by decide)]
            have HW2 := hide hw2
            clear HST hi hw2
            go_wp2_with fail
            refine (isInt_any _ _).mono ?_
            rintro e w3 ⟨rfl, hw3⟩
            have hw4 := hw3.symm
            subst hw4
            rw [hdi]
            go_wp2_with fail
            go_round
            case rel => exact ⟨q + 1, by omega, by go_num, .inr (by rw [HW2.out])⟩
            case measure => simp [intOf]; omega
        · by_cases hlt : ((q : Nat) : Int) < ((l.length : Nat) : Int)
          · go_wp2_with fail
            refine bodyPost_ret (v := .tuple #[.agg #[.int .i64 0, .string ⟨#[]⟩, .slice none 0 0, .slice none 0 0, .slice none 0 0], .int .i64 0, .int .i64 WE]) (by simp [results, Tryz.results10, go_sem, hc]) rfl ⟨_, rfl, fun w'' _ => zero_is w'', ?_⟩
            go_grown
          · go_wp2_with fail
            refine bodyPost_ret (v := .tuple #[.agg #[.int .i64 0, .string ⟨#[]⟩, .slice none 0 0, .slice none 0 0, .slice none 0 0], .int .i64 0, .int .i64 WE]) (by simp [results, Tryz.results10, go_sem, hc]) rfl ⟨_, rfl, fun w'' _ => zero_is w'', ?_⟩
            go_grown
  · have hE : putE x l = asI x 5 := by rw [putE, if_pos h0]
    rw [putN, putI, hE, if_neg h0, if_neg h0]
    have h0' : (asI x 5 == 0) = false := by rw [beq_eq_false_iff_ne]; exact h0
    clear hE hl hw
    generalize asI x 5 = E at *
    generalize x.s.length = n3 at *
    generalize x.l.length = n1 at *
    generalize x.t = t at *
    generalize x.k = k at *
    generalize x.p.length = n2 at *
    by_cases hlt : (0 : Int) < ((l.length : Nat) : Int)
    · go_enter Tryz.func10, Tryz.ntmps10
      go_wp2_with fail
      refine (HC.out _ (((Below.refl _ w).alloc (Nat.le_refl _) _).alloc (by simp) _)).mono ?_
      rintro e w1 ⟨rfl, hb1⟩
      obtain ⟨hc, hf⟩ := bcell hb1
      have hz : w.heap.size + 1 < w1.heap.size := by have := hb1.size; simp at this; omega
      have hy : w.heap.size < w1.heap.size := by omega
      have hB1 : Below w.heap.size w w1 := (((Below.refl _ w).alloc (Nat.le_refl _) _).alloc (by simp) _).trans (hb1.mono (by simp; omega))
      go_wp2_with fail
      refine wp_loop_rounds 1 ?_
      rw [rounds_succ]
      go_wp2_with fail
      refine bodyPost_ret (v := .tuple #[.agg #[.int .i64 0, .string ⟨#[]⟩, .slice none 0 0, .slice none 0 0, .slice none 0 0], .int .i64 0, .int .i64 E]) (by simp [results, Tryz.results10, go_sem, hc]) rfl ⟨_, rfl, fun w'' _ => zero_is w'', ?_⟩
      go_grown
    · go_enter Tryz.func10, Tryz.ntmps10
      go_wp2_with fail
      refine (HC.out _ (((Below.refl _ w).alloc (Nat.le_refl _) _).alloc (by simp) _)).mono ?_
      rintro e w1 ⟨rfl, hb1⟩
      obtain ⟨hc, hf⟩ := bcell hb1
      have hz : w.heap.size + 1 < w1.heap.size := by have := hb1.size; simp at this; omega
      have hy : w.heap.size < w1.heap.size := by omega
      have hB1 : Below w.heap.size w w1 := (((Below.refl _ w).alloc (Nat.le_refl _) _).alloc (by simp) _).trans (hb1.mono (by simp; omega))
      go_wp2_with fail
      refine wp_loop_rounds 1 ?_
      rw [rounds_succ]
      go_wp2_with fail
      refine bodyPost_ret (v := .tuple #[.agg #[.int .i64 0, .string ⟨#[]⟩, .slice none 0 0, .slice none 0 0, .slice none 0 0], .int .i64 0, .int .i64 E]) (by simp [results, Tryz.results10, go_sem, hc]) rfl ⟨_, rfl, fun w'' _ => zero_is w'', ?_⟩
      go_grown
end Go.Proofs.YtnobcdhlagfhmaaGreat.Z
