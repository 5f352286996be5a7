/- WALK of TextSum. -/
import Derived.Test.YtolpmaapdkhigabDoorTxtB
import Derived.Test.YtolpmaapdkhigabDoorNumP
import Derived.Test.YtolpmaapdkhigabDoorISame2
import Derived.Handy
namespace Go.Proofs.YtolpmaapdkhigabDoor
open Go.RowKit

theorem rng_all {x : Itm} (h : asI x 1 = 0) : rngV x 0 (-1) = .tuple #[.string x.t, .int .i64 0] := by
  rw [rngV, if_pos h, (place_all _).1, (place_all _).2, extract_whole]
def itoaB (n : Int) : ByteArray := ⟨(Lib.itoa n).toArray⟩
theorem itoaB_size (n : Int) (h0 : -999999999 ≤ n) (h1 : n ≤ 999999999) : (itoaB n).size ≤ 20 := by
  rw [itoaB, size_mk]
  exact itoa_len n h0 h1
theorem itoa_txt (n : Int) (h0 : -999999999 ≤ n) (h1 : n ≤ 999999999) : asI (Itm.txt (itoaB n)) 1 = 0 ∧ tellsI (Itm.txt (itoaB n)) = some n := by
  refine ⟨txt_as _ (by have := itoaB_size n h0 h1; omega), ?_⟩
  rw [tellsI, if_pos (show (Itm.txt (itoaB n)).k = 1 from rfl)]
  show pInt (itoaB n).data.toList = some n
  rw [itoaB, toList_mk, pInt_itoa n h0 h1]
/-- Add to an item that tells a number -/
theorem addV_ok {x : Itm} {u n : Int} (h0 : asI x 1 = 0) (ht : tellsI x = some u) (h1 : -999999999 ≤ n ∧ n ≤ 999999999) (h2 : -999999999 ≤ u + n ∧ u + n ≤ 999999999) : addV x n = .tuple #[tval (itoaB (u + n)), .int .i64 (u + n), .int .i64 0] := by
  have hE : addE x n = 0 := by simp [addE, h0, ht, (mayN_iff n).2 h1, (mayN_iff (u + n)).2 h2]
  rw [addV, if_pos hE, ht]
  rfl
theorem addV_range {x : Itm} {u n : Int} (h0 : asI x 1 = 0) (ht : tellsI x = some u) (h : ¬ ((-999999999 ≤ n ∧ n ≤ 999999999) ∧ (-999999999 ≤ u + n ∧ u + n ≤ 999999999))) : addV x n = .tuple #[zval, .int .i64 0, .int .i64 3] := by
  have hE : addE x n = 3 := by
    simp only [addE, h0, ht]
    rw [if_neg (by simp)]
    rw [if_neg]
    intro hh
    exact h ⟨(mayN_iff _).1 hh.1, (mayN_iff _).1 hh.2⟩
  exact addV_of hE (by decide)
theorem addE_zero {x : Itm} {n : Int} (h : addE x n = 0) : asI x 1 = 0 ∧ ∃ u, tellsI x = some u ∧ (-999999999 ≤ n ∧ n ≤ 999999999) ∧ (-999999999 ≤ u + n ∧ u + n ≤ 999999999) := by
  unfold addE at h
  split at h
  · rename_i h1; exact absurd h h1
  · rename_i h1
    refine ⟨by rcases Classical.em (asI x 1 = 0) with h' | h'; exact h'; exact absurd h' h1, ?_⟩
    split at h
    · cases h
    · rename_i u hu
      split at h
      · rename_i hc; exact ⟨u, hu, (mayN_iff _).1 hc.1, (mayN_iff _).1 hc.2⟩
      · cases h
theorem itoa_zero : itoaB 0 = ⟨#[48]⟩ := by
  unfold itoaB
  congr 1
  decide +kernel
theorem itoa_ne (n : Int) : Lib.itoa n ≠ [] := by
  unfold Lib.itoa
  split
  · simp
  · exact decDigits_ne _
/-- what an item that tells u has as its text -/
theorem told_text {x : Itm} {u : Int} (h0 : asI x 1 = 0) (ht : tellsI x = some u) : (x.t.toList = [] ∧ itoaB u = ⟨#[48]⟩) ∨ (¬ x.t.toList = [] ∧ itoaB u = x.t) := by
  rcases (asI_text h0).2 with ⟨hk, he⟩ | hk
  · left
    refine ⟨he, ?_⟩
    rw [tellsI, if_neg (by omega)] at ht
    simp at ht
    subst ht
    exact itoa_zero
  · right
    rw [tellsI, if_pos hk] at ht
    obtain ⟨_, _, hi⟩ := pInt_bounds ht
    refine ⟨?_, ext_bytes (by rw [itoaB, toList_mk, hi])⟩
    rw [ByteArray.toList_eq, ← hi]
    exact itoa_ne u

set_option maxRecDepth 100000 in
set_option maxHeartbeats 4000000 in
theorem textSum_walk (v : Value) (x : Itm) (m n : Int) (w : World) (he : Env w) (h : ItemIs w v x) (hm1 : -9223372036854775808 ≤ m) (hm2 : m ≤ 9223372036854775807) (hn1 : -9223372036854775808 ≤ n) (hn2 : n ≤ 9223372036854775807) :
    Calls Tryd.prog 5 #[v, .int .i64 m, .int .i64 n] w fun e w' => e = .returned (.bool true) ∧ Below w.heap.size w w' := by
  have HG : Hid (∀ W, Below w.heap.size w W → Calls Tryd.prog 15 #[] W fun e w' => e = .returned (.bool true) ∧ Below W.heap.size W w') := fun W hW => textBegun_any W (he.below hW)
  have HA : Hid (∀ k W, -9223372036854775808 ≤ k → k ≤ 9223372036854775807 → Below w.heap.size w W → Calls Tryd.prog 8 #[v, .int .i64 k] W fun e w' => e = .returned (addV x k) ∧ Below W.heap.size W w') := fun k W h1 h2 hW => add_any v x k W (h.below hW) (he.below hW) h1 h2
  have HR : Hid (∀ W, Below w.heap.size w W → Calls Tryd.prog 9 #[v, .int .i64 0, .int .i64 (-1)] W fun e w' => e = .returned (rngV x 0 (-1)) ∧ Below W.heap.size W w') := fun W hW => range_any v x 0 (-1) W (h.below hW) (by decide) (by decide) (by decide) (by decide)
  have HE := hide he
  obtain ⟨⟨a1, c1, a2, c2, a3, c3, rfl, -, -, -⟩, tz, -, -, -, -, -, -⟩ := h
  clear he
  by_cases hE : addE x m = 0
  · obtain ⟨h0, u, hu, ⟨hm3, hm4⟩, hs1, hs2⟩ := addE_zero hE
    obtain ⟨hu1, hu2⟩ := tellsI_bounds hu
    have HA0 : Hid (∀ W, Below w.heap.size w W → Calls Tryd.prog 8 #[.agg #[.int .i64 x.k, .string x.t, .slice a1 x.l.length c1, .slice a2 x.p.length c2, .slice a3 x.s.length c3], .int .i64 m] W fun e w' => e = .returned (.tuple #[tval (itoaB (u + m)), .int .i64 (u + m), .int .i64 0]) ∧ Below W.heap.size W w') := fun W hW => by
      have hh := HA.out m W hm1 hm2 hW
      rw [addV_ok h0 hu ⟨hm3, hm4⟩ ⟨hs1, hs2⟩] at hh
      exact hh
    obtain ⟨q1, q2⟩ := itoa_txt (u + m) hs1 hs2
    have qz := itoaB_size (u + m) hs1 hs2
    have HT : Hid (∀ k W, -9223372036854775808 ≤ k → k ≤ 9223372036854775807 → Below w.heap.size w W → Calls Tryd.prog 8 #[tval (itoaB (u + m)), .int .i64 k] W fun e w' => e = .returned (addV (Itm.txt (itoaB (u + m))) k) ∧ Below W.heap.size W w') := fun k W h1 h2 hW => add_any _ _ k W (tval_is W _ (by unfold maxLen; omega)) (HE.out.below hW) h1 h2
    have HZ : Hid (∀ W, Below w.heap.size w W → Calls Tryd.prog 8 #[tval (itoaB (u + m)), .int .i64 (-m)] W fun e w' => e = .returned (.tuple #[tval (itoaB u), .int .i64 u, .int .i64 0]) ∧ Below W.heap.size W w') := fun W hW => by
      have hh := HT.out (-m) W (by omega) (by omega) hW
      rw [addV_ok q1 q2 ⟨by omega, by omega⟩ ⟨by omega, by omega⟩, show u + m + -m = u by omega] at hh
      exact hh
    have HRx : Hid (∀ W, Below w.heap.size w W → Calls Tryd.prog 9 #[.agg #[.int .i64 x.k, .string x.t, .slice a1 x.l.length c1, .slice a2 x.p.length c2, .slice a3 x.s.length c3], .int .i64 0, .int .i64 (-1)] W fun e w' => e = .returned (.tuple #[.string x.t, .int .i64 0]) ∧ Below W.heap.size W w') := fun W hW => by
      have hh := HR.out W hW
      rw [rng_all h0] at hh
      exact hh
    have HBok : Hid (-999999999 ≤ n → n ≤ 999999999 → -999999999 ≤ u + m + n → u + m + n ≤ 999999999 → ∀ W, Below w.heap.size w W → Calls Tryd.prog 8 #[tval (itoaB (u + m)), .int .i64 n] W fun e w' => e = .returned (.tuple #[tval (itoaB (u + m + n)), .int .i64 (u + m + n), .int .i64 0]) ∧ Below W.heap.size W w') := fun g1 g2 g3 g4 W hW => by
      have hh := HT.out n W hn1 hn2 hW
      rw [addV_ok q1 q2 ⟨g1, g2⟩ ⟨g3, g4⟩] at hh
      exact hh
    have HBbad : Hid (¬ ((-999999999 ≤ n ∧ n ≤ 999999999) ∧ (-999999999 ≤ u + m + n ∧ u + m + n ≤ 999999999)) → ∀ W, Below w.heap.size w W → Calls Tryd.prog 8 #[tval (itoaB (u + m)), .int .i64 n] W fun e w' => e = .returned (.tuple #[zval, .int .i64 0, .int .i64 3]) ∧ Below W.heap.size W w') := fun g W hW => by
      have hh := HT.out n W hn1 hn2 hW
      rw [addV_range q1 q2 g] at hh
      exact hh
    have HCx : Hid (-999999999 ≤ m + n → m + n ≤ 999999999 → -999999999 ≤ u + m + n → u + m + n ≤ 999999999 → ∀ W, Below w.heap.size w W → Calls Tryd.prog 8 #[.agg #[.int .i64 x.k, .string x.t, .slice a1 x.l.length c1, .slice a2 x.p.length c2, .slice a3 x.s.length c3], .int .i64 (m + n)] W fun e w' => e = .returned (.tuple #[tval (itoaB (u + m + n)), .int .i64 (u + m + n), .int .i64 0]) ∧ Below W.heap.size W w') := fun g1 g2 g3 g4 W hW => by
      have hh := HA.out (m + n) W (by omega) (by omega) hW
      rw [addV_ok h0 hu ⟨g1, g2⟩ ⟨by omega, by omega⟩, show u + (m + n) = u + m + n by omega] at hh
      exact hh
    have HSm : Hid (-999999999 ≤ u + m + n → u + m + n ≤ 999999999 → ∀ W, Calls Tryd.prog 18 #[tval (itoaB (u + m + n)), tval (itoaB (u + m + n))] W fun e w' => e = .returned (.bool true) ∧ Below W.heap.size W w') := fun g3 g4 W => by
      have gz := itoaB_size (u + m + n) g3 g4
      have hh := sameItem_any _ _ _ _ W (tval_is W (itoaB (u + m + n)) (by unfold maxLen; omega)) (tval_is W (itoaB (u + m + n)) (by unfold maxLen; omega))
      rw [show sameI (Itm.txt (itoaB (u + m + n))) (Itm.txt (itoaB (u + m + n))) = true by simp [sameI]] at hh
      exact hh
    have HTT := hide (told_text h0 hu)
    clear HA HR HE HT q1 q2 qz hE h0 hu
    generalize itoaB (u + m + n) = B at *
    generalize itoaB (u + m) = A at *
    generalize itoaB u = U at *
    generalize x.k = k at *
    generalize x.l.length = n1 at *
    generalize x.p.length = n2 at *
    generalize x.s.length = n3 at *
    generalize x.t = t at *
    unfold tval at *
    unfold zval at HBbad
    go_enter Tryd.func5, Tryd.ntmps5
    go_wp2_with fail
    refine (HG.out _ ((Below.refl _ w).alloc (Nat.le_refl _) _)).mono ?_
    rintro e w1 ⟨rfl, hb1⟩
    obtain ⟨e1, f1⟩ := bcell hb1
    have z1 : w.heap.size < w1.heap.size := by have := hb1.size; simp at this; omega
    have B1 : Below w.heap.size w w1 := ((Below.refl _ w).alloc (Nat.le_refl _) _).trans (hb1.mono (by simp))
    go_wp2_with fail
    refine (HA0.out _ B1).mono ?_
    rintro e w2 ⟨rfl, hb2⟩
    obtain ⟨e2, f2⟩ := bcell hb2
    have z2 : w.heap.size < w2.heap.size := by have := hb2.size; omega
    have B2 : Below w.heap.size w w2 := B1.trans (hb2.mono B1.size)
    go_wp2_with fail
    refine (HZ.out _ (B2.alloc B2.size _)).mono ?_
    rintro e w3 ⟨rfl, hb3⟩
    obtain ⟨e3, f3⟩ := bcell hb3
    have z3 : w2.heap.size < w3.heap.size := by have := hb3.size; simp at this; omega
    have y3 : w.heap.size < w3.heap.size := by omega
    have y2 : w.heap.size < w2.heap.size + 1 := by omega
    have B3 : Below w.heap.size w w3 := (B2.alloc B2.size _).trans (hb3.mono (by have := B2.size; simp; omega))
    go_wp2_with fail
    refine (HRx.out _ (B3.alloc B3.size _)).mono ?_
    rintro e w4 ⟨rfl, hb4⟩
    obtain ⟨e4, f4⟩ := bcell hb4
    have z4 : w3.heap.size < w4.heap.size := by have := hb4.size; simp at this; omega
    have y4 : w.heap.size < w4.heap.size := by omega
    have x4 : w2.heap.size < w4.heap.size := by omega
    have x3 : w2.heap.size < w3.heap.size + 1 := by omega
    have v3 : w.heap.size < w3.heap.size + 1 := by omega
    have B4 : Below w.heap.size w w4 := (B3.alloc B3.size _).trans (hb4.mono (by have := B3.size; simp; omega))
    have HEND : Hid (t.toList = [] ∧ U = ⟨#[48]⟩ ∨ ¬ t.toList = [] ∧ U = t) := HTT.out
    clear HTT HG HA0 HZ HRx
    rcases HEND.out with ⟨ht, rfl⟩ | ⟨ht, rfl⟩
    · clear HEND
      go_wp2_with fail
      by_cases hr : (-999999999 ≤ n ∧ n ≤ 999999999) ∧ (-999999999 ≤ u + m + n ∧ u + m + n ≤ 999999999)
      · obtain ⟨⟨g1, g2⟩, g3, g4⟩ := hr
        refine (HBok.out g1 g2 g3 g4 _ B4).mono ?_
        rintro e w5 ⟨rfl, hb5⟩
        obtain ⟨e5, f5⟩ := bcell hb5
        have z5 : w.heap.size < w5.heap.size := by have := hb5.size; omega
        have B5 : Below w.heap.size w w5 := B4.trans (hb5.mono B4.size)
        by_cases k1 : m + n ≤ 999999999
        · by_cases k2 : -999999999 ≤ m + n
          · go_wp2_with fail
            refine (HCx.out k2 k1 g3 g4 _ (B5.alloc B5.size _)).mono ?_
            rintro e w6 ⟨rfl, hb6⟩
            obtain ⟨e6, f6⟩ := bcell hb6
            have z6 : w5.heap.size < w6.heap.size := by have := hb6.size; simp at this; omega
            have B6 : Below w.heap.size w w6 := (B5.alloc B5.size _).trans (hb6.mono (by have := B5.size; simp; omega))
            go_wp2_with fail
            refine (HSm.out g3 g4 _).mono ?_
            rintro e w7 ⟨rfl, hb7⟩
            have B7 : Below w.heap.size w w7 := (B6.alloc B6.size _).trans (hb7.mono (by have := B6.size; simp; omega))
            go_wp2_with fail
            go_ret
            exact ⟨rfl, B7⟩
          · go_wp2_with fail
            go_ret
            exact ⟨rfl, B5.alloc B5.size _⟩
        · go_wp2_with fail
          go_ret
          exact ⟨rfl, B5.alloc B5.size _⟩
      · refine (HBbad.out hr _ B4).mono ?_
        rintro e w5 ⟨rfl, hb5⟩
        have B5 : Below w.heap.size w w5 := B4.trans (hb5.mono B4.size)
        clear hr
        go_wp2_with fail
        go_ret
        exact ⟨rfl, B5.alloc B5.size _⟩
    · clear HEND
      have ht' : (U.toList == []) = false := by rw [beq_eq_false_iff_ne]; exact ht
      go_wp2_with fail
      by_cases hr : (-999999999 ≤ n ∧ n ≤ 999999999) ∧ (-999999999 ≤ u + m + n ∧ u + m + n ≤ 999999999)
      · obtain ⟨⟨g1, g2⟩, g3, g4⟩ := hr
        refine (HBok.out g1 g2 g3 g4 _ B4).mono ?_
        rintro e w5 ⟨rfl, hb5⟩
        obtain ⟨e5, f5⟩ := bcell hb5
        have z5 : w.heap.size < w5.heap.size := by have := hb5.size; omega
        have B5 : Below w.heap.size w w5 := B4.trans (hb5.mono B4.size)
        by_cases k1 : m + n ≤ 999999999
        · by_cases k2 : -999999999 ≤ m + n
          · go_wp2_with fail
            refine (HCx.out k2 k1 g3 g4 _ (B5.alloc B5.size _)).mono ?_
            rintro e w6 ⟨rfl, hb6⟩
            obtain ⟨e6, f6⟩ := bcell hb6
            have z6 : w5.heap.size < w6.heap.size := by have := hb6.size; simp at this; omega
            have B6 : Below w.heap.size w w6 := (B5.alloc B5.size _).trans (hb6.mono (by have := B5.size; simp; omega))
            go_wp2_with fail
            refine (HSm.out g3 g4 _).mono ?_
            rintro e w7 ⟨rfl, hb7⟩
            have B7 : Below w.heap.size w w7 := (B6.alloc B6.size _).trans (hb7.mono (by have := B6.size; simp; omega))
            go_wp2_with fail
            go_ret
            exact ⟨rfl, B7⟩
          · go_wp2_with fail
            go_ret
            exact ⟨rfl, B5.alloc B5.size _⟩
        · go_wp2_with fail
          go_ret
          exact ⟨rfl, B5.alloc B5.size _⟩
      · refine (HBbad.out hr _ B4).mono ?_
        rintro e w5 ⟨rfl, hb5⟩
        have B5 : Below w.heap.size w w5 := B4.trans (hb5.mono B4.size)
        clear hr
        go_wp2_with fail
        go_ret
        exact ⟨rfl, B5.alloc B5.size _⟩
  · have HV : Hid (addV x m = .tuple #[zval, .int .i64 0, .int .i64 (addE x m)]) := addV_of rfl hE
    have hE' : (addE x m == 0) = false := by rw [beq_eq_false_iff_ne]; exact hE
    have HA1 : Hid (∀ W, Below w.heap.size w W → Calls Tryd.prog 8 #[.agg #[.int .i64 x.k, .string x.t, .slice a1 x.l.length c1, .slice a2 x.p.length c2, .slice a3 x.s.length c3], .int .i64 m] W fun e w' => e = .returned (.tuple #[zval, .int .i64 0, .int .i64 (addE x m)]) ∧ Below W.heap.size W w') := fun W hW => by
      have hh := HA.out m W hm1 hm2 hW
      rw [HV.out] at hh
      exact hh
    clear HA HR HV HE
    generalize addE x m = E at *
    generalize x.k = k at *
    generalize x.l.length = n1 at *
    generalize x.p.length = n2 at *
    generalize x.s.length = n3 at *
    generalize x.t = t at *
    unfold zval at HA1
    go_enter Tryd.func5, Tryd.ntmps5
    go_wp2_with fail
    refine (HG.out _ ((Below.refl _ w).alloc (Nat.le_refl _) _)).mono ?_
    rintro e w1 ⟨rfl, hb1⟩
    obtain ⟨e1, f1⟩ := bcell hb1
    have z1 : w.heap.size < w1.heap.size := by have := hb1.size; simp at this; omega
    have B1 : Below w.heap.size w w1 := ((Below.refl _ w).alloc (Nat.le_refl _) _).trans (hb1.mono (by simp))
    go_wp2_with fail
    refine (HA1.out _ B1).mono ?_
    rintro e w2 ⟨rfl, hb2⟩
    have B2 : Below w.heap.size w w2 := B1.trans (hb2.mono B1.size)
    go_wp2_with fail
    go_ret
    exact ⟨rfl, B2.alloc B2.size _⟩
end Go.Proofs.YtolpmaapdkhigabDoor
