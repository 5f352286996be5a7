/- WALK of TextBehind. -/
import Derived.Test.YtolpmaapdkhigabDoorTxtB
import Derived.Test.YtolpmaapdkhigabDoorTxtLen
import Derived.Test.YtolpmaapdkhigabDoorRNo
import Derived.Handy
namespace Go.Proofs.YtolpmaapdkhigabDoor
open Go.RowKit

theorem rng_all {x : Itm} (h : asI x 1 = 0) : rngV x 0 (-1) = .tuple #[.string x.t, .int .i64 0] := by
  rw [rngV, if_pos h, (place_all _).1, (place_all _).2, extract_whole]

set_option maxRecDepth 100000 in
set_option maxHeartbeats 4000000 in
theorem textBehind_walk (v : Value) (x : Itm) (s : ByteArray) (cut : Int) (w : World) (he : Env w) (h : ItemIs w v x) (hs : s.size ≤ 281474976710656) (hc1 : -9223372036854775808 ≤ cut) (hc2 : cut ≤ 9223372036854775807) :
    Calls Tryd.prog 4 #[v, .string s, .int .i64 cut] w fun e w' => e = .returned (.bool true) ∧ Below w.heap.size w w' := by
  have HG : Hid (∀ W, Below w.heap.size w W → Calls Tryd.prog 15 #[] W fun e w' => e = .returned (.bool true) ∧ Below W.heap.size W w') := fun W hW => textBegun_any W (he.below hW)
  have HA : Hid (∀ W, Below w.heap.size w W → Calls Tryd.prog 6 #[v, .string s] W fun e w' => e = .returned (appV x s) ∧ Below W.heap.size W w') := fun W hW => append_any v x s W (h.below hW) hs
  have HL : Hid (∀ W, Below w.heap.size w W → Calls Tryd.prog 7 #[v] W fun e w' => e = .returned (lenV x) ∧ Below W.heap.size W w') := fun W hW => len_any v x W (h.below hW)
  have HR : Hid (∀ W, Below w.heap.size w W → Calls Tryd.prog 9 #[v, .int .i64 0, .int .i64 (-1)] W fun e w' => e = .returned (rngV x 0 (-1)) ∧ Below W.heap.size W w') := fun W hW => range_any v x 0 (-1) W (h.below hW) (by decide) (by decide) (by decide) (by decide)
  obtain ⟨⟨a1, c1, a2, c2, a3, c3, rfl, -, -, -⟩, tz, -, -, -, -, -, -⟩ := h
  clear he
  by_cases hE : appE x s = 0
  · have h0 : asI x 1 = 0 := by
      rcases Classical.em (asI x 1 = 0) with h | h
      · exact h
      · rw [appE, if_pos h] at hE; exact hE
    have hT : x.t.size + s.size ≤ 60 := by
      rw [appE, if_neg (by simp [h0])] at hE
      split at hE
      · cases hE
      · omega
    have hTs : (x.t ++ s).size = x.t.size + s.size := by rw [ByteArray.size_append]
    rw [show appV x s = .tuple #[tval (x.t ++ s), .int .i64 ((x.t.size + s.size : Nat)), .int .i64 0] by rw [appV, if_pos hE]] at HA
    rw [show lenV x = .tuple #[.int .i64 x.t.size, .int .i64 0] by rw [lenV, if_pos h0]] at HL
    rw [rng_all h0] at HR
    have HRA : Hid (∀ W, Calls Tryd.prog 9 #[tval (x.t ++ s), .int .i64 0, .int .i64 (-1)] W fun e w' => e = .returned (.tuple #[.string (x.t ++ s), .int .i64 0]) ∧ Below W.heap.size W w') := fun W => by
      have h := range_any (tval (x.t ++ s)) (Itm.txt (x.t ++ s)) 0 (-1) W (tval_is W _ (by unfold maxLen; omega)) (by decide) (by decide) (by decide) (by decide)
      rw [rng_all (txt_as _ (by omega))] at h
      exact h
    have hsum : ¬ 9223372036854775807 < x.t.size + s.size := by omega
    have HTS := hide hTs
    clear hE h0 hTs
    generalize x.k = k at *
    generalize x.l.length = n1 at *
    generalize x.p.length = n2 at *
    generalize x.s.length = n3 at *
    generalize x.t = t at *
    have HRB : Hid (∀ (p q : Nat) (f u : Int), place1 (t ++ s).size f u = p ∧ place2 (t ++ s).size f u = q → -9223372036854775808 ≤ f → -9223372036854775808 ≤ u → f ≤ 9223372036854775807 → u ≤ 9223372036854775807 → ∀ W, Calls Tryd.prog 9 #[.agg #[.int .i64 1, .string (t ++ s), .slice none 0 0, .slice none 0 0, .slice none 0 0], .int .i64 f, .int .i64 u] W fun e w' => e = .returned (.tuple #[.string ((t ++ s).extract p q), .int .i64 0]) ∧ Below W.heap.size W w') := fun p q f u hp h1 h2 h3 h4 W => by
      have h := range_any (tval (t ++ s)) (Itm.txt (t ++ s)) f u W (tval_is W _ (by unfold maxLen; rw [HTS.out]; omega)) h1 h2 h3 h4
      rw [rng_txt _ f u p q (by rw [HTS.out]; omega) hp] at h
      exact h
    unfold tval at HA HRA
    go_enter Tryd.func4, Tryd.ntmps4
    go_wp2_with fail
    refine (HG.out _ ((Below.refl _ w).alloc (Nat.le_refl _) _)).mono ?_
    rintro e w1 ⟨rfl, hb1⟩
    obtain ⟨e1, f1⟩ := bcell hb1
    have z1 : w.heap.size < w1.heap.size := by have := hb1.size; simp at this; omega
    have B1 : Below w.heap.size w w1 := ((Below.refl _ w).alloc (Nat.le_refl _) _).trans (hb1.mono (by simp))
    go_wp2_with fail
    refine (HA.out _ B1).mono ?_
    rintro e w2 ⟨rfl, hb2⟩
    obtain ⟨e2, f2⟩ := bcell hb2
    have z2 : w.heap.size < w2.heap.size := by have := hb2.size; omega
    have B2 : Below w.heap.size w w2 := B1.trans (hb2.mono B1.size)
    go_wp2_with fail
    refine (HL.out _ (B2.alloc B2.size _)).mono ?_
    rintro e w3 ⟨rfl, hb3⟩
    obtain ⟨e3, f3⟩ := bcell hb3
    have z3 : w2.heap.size < w3.heap.size := by have := hb3.size; simp at this; omega
    have B3 : Below w.heap.size w w3 := (B2.alloc B2.size _).trans (hb3.mono (by have := B2.size; simp; omega))
    go_wp2_with fail
    refine (HR.out _ B3).mono ?_
    rintro e w4 ⟨rfl, hb4⟩
    obtain ⟨e4, f4⟩ := bcell hb4
    have z4 : w2.heap.size < w4.heap.size := by have := hb4.size; omega
    have B4 : Below w.heap.size w w4 := B3.trans (hb4.mono B3.size)
    go_wp2_with fail
    refine (HRA.out _).mono ?_
    rintro e w5 ⟨rfl, hb5⟩
    obtain ⟨e5, f5⟩ := bcell hb5
    have z5 : w2.heap.size < w5.heap.size := by have := hb5.size; omega
    have B5 : Below w.heap.size w w5 := B4.trans (hb5.mono B4.size)
    have hTs := HTS.out
    have HPE : Hid (∀ c : Nat, c + 1 = (t ++ s).size → place1 (t ++ s).size ((c : Int) + 1) (-1) = 0 ∧ place2 (t ++ s).size ((c : Int) + 1) (-1) = 0) := fun c h => place_end _ c h
    have HPR : Hid (∀ c : Nat, c + 1 < (t ++ s).size → place1 (t ++ s).size ((c : Int) + 1) (-1) = c + 1 ∧ place2 (t ++ s).size ((c : Int) + 1) (-1) = (t ++ s).size) := fun c h => place_rest _ c h
    have HPO : Hid (∀ c : Nat, c < (t ++ s).size → place1 (t ++ s).size 0 c = 0 ∧ place2 (t ++ s).size 0 c = c + 1) := fun c h => place_to _ c h
    have HPB : Hid (∀ c : Nat, c < (t ++ s).size → place1 (t ++ s).size 0 ((c : Int) - (((t.size : Nat) : Int) + ((s.size : Nat) : Int))) = 0 ∧ place2 (t ++ s).size 0 ((c : Int) - (((t.size : Nat) : Int) + ((s.size : Nat) : Int))) = c + 1) := fun c h => by
      have hh := place_back _ c h
      rw [show (((t ++ s).size : Nat) : Int) = ((t.size : Nat) : Int) + ((s.size : Nat) : Int) by omega] at hh
      exact hh
    clear HG HA HL HR HRA
    rcases Int.lt_or_le cut 0 with h0 | h0
    · go_wp2_with fail
      go_ret
      exact ⟨rfl, B5⟩
    · obtain ⟨c, rfl⟩ : ∃ c : Nat, cut = c := ⟨cut.toNat, by omega⟩
      by_cases hcl : c < t.size + s.size
      · have hcl' : ¬ ((t.size : Nat) : Int) + ((s.size : Nat) : Int) ≤ ((c : Nat) : Int) := by omega
        have hcl2 : ((c : Nat) : Int) < ((t.size : Nat) : Int) + ((s.size : Nat) : Int) := by omega
        go_wp2_with fail
        refine (HRB.out 0 (c + 1) _ _ (HPO.out c (by omega)) (by omega) (by omega) (by omega) (by omega) _).mono ?_
        rintro e w6 ⟨rfl, hb6⟩
        obtain ⟨e6, f6⟩ := bcell hb6
        have z6 : w2.heap.size < w6.heap.size := by have := hb6.size; omega
        have B6 : Below w.heap.size w w6 := B5.trans (hb6.mono B5.size)
        go_wp2_with fail
        by_cases hce : c + 1 < t.size + s.size
        · skip
          refine (HRB.out (c + 1) (t ++ s).size _ _ (HPR.out c (by omega)) (by omega) (by omega) (by omega) (by omega) _).mono ?_
          rintro e w7 ⟨rfl, hb7⟩
          obtain ⟨e7, f7⟩ := bcell hb7
          have z7 : w2.heap.size < w7.heap.size := by have := hb7.size; omega
          have B7 : Below w.heap.size w w7 := B6.trans (hb7.mono B6.size)
          go_wp2_with fail
          refine (HRB.out 0 (c + 1) _ _ (HPB.out c (by omega)) (by omega) (by omega) (by omega) (by omega) _).mono ?_
          rintro e w8 ⟨rfl, hb8⟩
          have B8 : Below w.heap.size w w8 := B7.trans (hb8.mono B7.size)
          have hend : (((c : Nat) : Int) == ((t.size : Nat) : Int) + ((s.size : Nat) : Int) - 1) = false := by rw [beq_eq_false_iff_ne]; omega
          have hpt : (t ++ s).extract 0 (max (c + 1) (t.size + s.size)) = t ++ s := by rw [show max (c + 1) (t.size + s.size) = (t ++ s).size by omega]; exact extract_whole _
          go_wp2_with fail
          go_ret
          exact ⟨rfl, B8⟩
        · skip
          refine (HRB.out 0 0 _ _ (HPE.out c (by omega)) (by omega) (by omega) (by omega) (by omega) _).mono ?_
          rintro e w7 ⟨rfl, hb7⟩
          obtain ⟨e7, f7⟩ := bcell hb7
          have z7 : w2.heap.size < w7.heap.size := by have := hb7.size; omega
          have B7 : Below w.heap.size w w7 := B6.trans (hb7.mono B6.size)
          go_wp2_with fail
          refine (HRB.out 0 (c + 1) _ _ (HPB.out c (by omega)) (by omega) (by omega) (by omega) (by omega) _).mono ?_
          rintro e w8 ⟨rfl, hb8⟩
          have B8 : Below w.heap.size w w8 := B7.trans (hb8.mono B7.size)
          have hend : ((c : Nat) : Int) = ((t.size : Nat) : Int) + ((s.size : Nat) : Int) - 1 := by omega
          go_wp2_with fail
          go_ret
          exact ⟨rfl, B8⟩
      · have hcl' : ((t.size : Nat) : Int) + ((s.size : Nat) : Int) ≤ ((c : Nat) : Int) := by omega
        go_wp2_with fail
        go_ret
        exact ⟨rfl, B5⟩
  · have hz : appV x s = .tuple #[zval, .int .i64 0, .int .i64 (appE x s)] := by rw [appV, if_neg hE]
    rw [hz] at HA
    have hE' : (appE x s == 0) = false := by rw [beq_eq_false_iff_ne]; exact hE
    have HN : Hid (∀ W, Calls Tryd.prog 17 #[.agg #[.int .i64 0, .string ⟨#[]⟩, .slice none 0 0, .slice none 0 0, .slice none 0 0]] W fun e w' => e = .returned (.bool true) ∧ Below W.heap.size W w') := fun W => by
      have h := refNothing_any 0 ⟨#[]⟩ none none none 0 0 0 0 0 0 W (by decide) (by decide) (by decide)
      simpa [ByteArray.toList_eq] using h
    clear hz HL HR
    generalize appE x s = E at *
    generalize x.k = k at *
    generalize x.l.length = n1 at *
    generalize x.p.length = n2 at *
    generalize x.s.length = n3 at *
    generalize x.t = t at *
    unfold zval at HA
    go_enter Tryd.func4, Tryd.ntmps4
    go_wp2_with fail
    refine (HG.out _ ((Below.refl _ w).alloc (Nat.le_refl _) _)).mono ?_
    rintro e w1 ⟨rfl, hb1⟩
    obtain ⟨e1, f1⟩ := bcell hb1
    have z1 : w.heap.size < w1.heap.size := by have := hb1.size; simp at this; omega
    have B1 : Below w.heap.size w w1 := ((Below.refl _ w).alloc (Nat.le_refl _) _).trans (hb1.mono (by simp))
    go_wp2_with fail
    refine (HA.out _ B1).mono ?_
    rintro e w2 ⟨rfl, hb2⟩
    obtain ⟨e2, f2⟩ := bcell hb2
    have z2 : w.heap.size < w2.heap.size := by have := hb2.size; omega
    have B2 : Below w.heap.size w w2 := B1.trans (hb2.mono B1.size)
    go_wp2_with fail
    refine (HN.out _).mono ?_
    rintro e w3 ⟨rfl, hb3⟩
    have B3 : Below w.heap.size w w3 := (B2.alloc B2.size _).trans (hb3.mono (by have := B2.size; simp; omega))
    go_wp2_with fail
    go_ret
    exact ⟨rfl, B3⟩
end Go.Proofs.YtolpmaapdkhigabDoor
