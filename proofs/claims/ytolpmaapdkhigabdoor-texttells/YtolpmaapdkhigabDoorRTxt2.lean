/- WALK of the reference's AddOf. -/
import Derived.Test.YtolpmaapdkhigabDoorRAs
import Derived.Test.YtolpmaapdkhigabDoorTxt2
import Derived.Test.YtolpmaapdkhigabDoorTells8
import Derived.Handy
namespace Go.Proofs.YtolpmaapdkhigabDoor
open Go.RowKit

set_option maxRecDepth 100000 in
set_option maxHeartbeats 4000000 in
theorem addOf_any (v : Value) (x : Itm) (n : Int) (w : World) (h : ItemIs w v x) (hn1 : -9223372036854775808 ≤ n) (hn2 : n ≤ 9223372036854775807) :
    Calls Tryd.prog 11 #[v, .int .i64 n] w fun e w' => e = .returned (addV x n) ∧ Below w.heap.size w w' := by
  have HC : Hid (∀ W, Below w.heap.size w W → Calls Tryd.prog 12 #[v, .int .i64 1] W fun e w' => e = .returned (.int .i64 (asI x 1)) ∧ Below W.heap.size W w') := fun W hW => refAs_any v x 1 W (h.below hW)
  obtain ⟨⟨a1, c1, a2, c2, a3, c3, rfl, -, -, -⟩, tz, -, -, -, -, -, -⟩ := h
  by_cases h0 : asI x 1 = 0
  · have hx60 := (asI_text h0).1
    rw [h0] at HC
    rcases (asI_text h0).2 with ⟨hk0, -⟩ | hk1
    · have ht : tellsI x = some 0 := by rw [tellsI, if_neg (by omega)]
      have hk' : (x.k == 1) = false := by rw [beq_eq_false_iff_ne]; omega
      clear hk0
      have HM1 : Hid (∀ W, Calls Tryd.prog 25 #[.int .i64 n] W fun e w' => e = .returned (.bool (mayN n)) ∧ w' = W) := fun W => isInt_any n W
      cases hm1 : mayN n with
      | false =>
        rw [addV_of (E := 3) (by simp [addE, h0, ht, hm1]) (by decide)]
        rw [hm1] at HM1
        clear ht h0 hm1
        generalize x.t = t at *
        generalize x.k = k at *
        generalize x.l.length = n1 at *
        generalize x.p.length = n2 at *
        generalize x.s.length = n3 at *
        go_enter Tryd.func11, Tryd.ntmps11
        go_wp2_with fail
        refine (HC.out _ (((Below.refl _ w).alloc (Nat.le_refl _) _).alloc (by simp) _)).mono ?_
        rintro e w1 ⟨rfl, hb1⟩
        obtain ⟨hc, hf⟩ := bcell hb1
        have hz : w.heap.size + 1 < w1.heap.size := by have := hb1.size; simp at this; omega
        have hB1 : Below w.heap.size w w1 := (((Below.refl _ w).alloc (Nat.le_refl _) _).alloc (by simp) _).trans (hb1.mono (by simp; omega))
        go_wp2_with fail
        refine (HM1.out _).mono ?_
        rintro e w3 ⟨rfl, rfl⟩
        go_wp2_with fail
        refine bodyPost_ret (v := .tuple #[zval, .int .i64 0, .int .i64 3]) (by simp [results, Tryd.results11, go_sem, hc, zval]) rfl ⟨rfl, ?_⟩
        go_grown
      | true =>
        obtain ⟨hn3, hn4⟩ := (mayN_iff n).1 hm1
        rw [hm1] at HM1
        have hE : addE x n = 0 := by simp [addE, h0, ht, hm1]
        have hv : addV x n = .tuple #[tval ⟨(Lib.itoa n).toArray⟩, .int .i64 n, .int .i64 0] := by rw [addV, if_pos hE, ht]; simp
        rw [hv]
        have HI : Hid (∀ W, Calls Tryd.prog 26 #[.int .i64 n] W fun e w' => e = .returned (.string ⟨(Lib.itoa n).toArray⟩) ∧ Below W.heap.size W w') := fun W => digits_any n hn3 hn4 W
        generalize (⟨(Lib.itoa n).toArray⟩ : ByteArray) = R at *
        clear ht h0 hm1 hE hv
        generalize x.t = t at *
        generalize x.k = k at *
        generalize x.l.length = n1 at *
        generalize x.p.length = n2 at *
        generalize x.s.length = n3 at *
        go_enter Tryd.func11, Tryd.ntmps11
        go_wp2_with fail
        refine (HC.out _ (((Below.refl _ w).alloc (Nat.le_refl _) _).alloc (by simp) _)).mono ?_
        rintro e w1 ⟨rfl, hb1⟩
        obtain ⟨hc, hf⟩ := bcell hb1
        have hz : w.heap.size + 1 < w1.heap.size := by have := hb1.size; simp at this; omega
        have hB1 : Below w.heap.size w w1 := (((Below.refl _ w).alloc (Nat.le_refl _) _).alloc (by simp) _).trans (hb1.mono (by simp; omega))
        go_wp2_with fail
        refine (HM1.out _).mono ?_
        rintro e w3 ⟨rfl, rfl⟩
        go_wp2_with fail
        refine (HM1.out _).mono ?_
        rintro e w3 ⟨rfl, rfl⟩
        go_wp2_with fail
        refine (HI.out _).mono ?_
        rintro e w5 ⟨rfl, hb5⟩
        obtain ⟨hc5, hf5⟩ := bcell hb5
        have hz5 : w.heap.size + 1 < w5.heap.size := by have := hb5.size; omega
        have hB5 : Below w.heap.size w w5 := hB1.trans (hb5.mono hB1.size)
        go_wp2_with fail
        refine bodyPost_ret (v := .tuple #[tval R, .int .i64 n, .int .i64 0]) (by simp [results, Tryd.results11, go_sem, hc5, hc, hz, tval]) rfl ⟨rfl, ?_⟩
        go_grown
    · have HN0 : Hid (∀ W, Calls Tryd.prog 24 #[.string x.t] W fun e w' => e = intRet (pInt x.t.data.toList) ∧ Below W.heap.size W w') := fun W => intOf_any x.t W
      have htp : tellsI x = pInt x.t.data.toList := by rw [tellsI, if_pos hk1]
      cases hp : pInt x.t.data.toList with
      | none =>
        have ht : tellsI x = none := by rw [htp, hp]
        have HN : Hid (∀ W, Calls Tryd.prog 24 #[.string x.t] W fun e w' => e = .returned (.tuple #[.int .i64 0, .bool false]) ∧ Below W.heap.size W w') := by rw [hp] at HN0; exact HN0
        rw [addV_of (E := 1) (by rw [addE, if_neg (by simp [h0]), ht]) (by decide)]
        clear HN0 htp hp ht h0
        generalize x.t = t at *
        rw [hk1]
        rw [hk1] at HC
        clear hk1
        generalize x.l.length = n1 at *
        generalize x.p.length = n2 at *
        generalize x.s.length = n3 at *
        go_enter Tryd.func11, Tryd.ntmps11
        go_wp2_with fail
        refine (HC.out _ (((Below.refl _ w).alloc (Nat.le_refl _) _).alloc (by simp) _)).mono ?_
        rintro e w1 ⟨rfl, hb1⟩
        obtain ⟨hc, hf⟩ := bcell hb1
        have hz : w.heap.size + 1 < w1.heap.size := by have := hb1.size; simp at this; omega
        have hB1 : Below w.heap.size w w1 := (((Below.refl _ w).alloc (Nat.le_refl _) _).alloc (by simp) _).trans (hb1.mono (by simp; omega))
        go_wp2_with fail
        refine (HN.out _).mono ?_
        rintro e w2 ⟨rfl, hb2⟩
        obtain ⟨hc2, hf2⟩ := bcell hb2
        have hz2 : w.heap.size + 1 < w2.heap.size := by have := hb2.size; omega
        have hB2 : Below w.heap.size w w2 := hB1.trans (hb2.mono hB1.size)
        go_wp2_with fail
        refine bodyPost_ret (v := .tuple #[zval, .int .i64 0, .int .i64 1]) (by simp [results, Tryd.results11, go_sem, hc2, hc, hz, zval]) rfl ⟨rfl, ?_⟩
        go_grown
      | some u =>
        have ht : tellsI x = some u := by rw [htp, hp]
        obtain ⟨hu1, hu2⟩ := tellsI_bounds ht
        have HN : Hid (∀ W, Calls Tryd.prog 24 #[.string x.t] W fun e w' => e = .returned (.tuple #[.int .i64 u, .bool true]) ∧ Below W.heap.size W w') := by rw [hp] at HN0; exact HN0
        clear HN0 htp hp
        have HM1 : Hid (∀ W, Calls Tryd.prog 25 #[.int .i64 n] W fun e w' => e = .returned (.bool (mayN n)) ∧ w' = W) := fun W => isInt_any n W
        have HM2 : Hid (∀ W, Calls Tryd.prog 25 #[.int .i64 (u + n)] W fun e w' => e = .returned (.bool (mayN (u + n))) ∧ w' = W) := fun W => isInt_any (u + n) W
        cases hm1 : mayN n with
        | false =>
          rw [addV_of (E := 3) (by simp [addE, h0, ht, hm1]) (by decide)]
          rw [hm1] at HM1
          clear ht h0 hm1 HM2
          generalize x.t = t at *
          rw [hk1]
          rw [hk1] at HC
          clear hk1
          generalize x.l.length = n1 at *
          generalize x.p.length = n2 at *
          generalize x.s.length = n3 at *
          go_enter Tryd.func11, Tryd.ntmps11
          go_wp2_with fail
          refine (HC.out _ (((Below.refl _ w).alloc (Nat.le_refl _) _).alloc (by simp) _)).mono ?_
          rintro e w1 ⟨rfl, hb1⟩
          obtain ⟨hc, hf⟩ := bcell hb1
          have hz : w.heap.size + 1 < w1.heap.size := by have := hb1.size; simp at this; omega
          have hB1 : Below w.heap.size w w1 := (((Below.refl _ w).alloc (Nat.le_refl _) _).alloc (by simp) _).trans (hb1.mono (by simp; omega))
          go_wp2_with fail
          refine (HN.out _).mono ?_
          rintro e w2 ⟨rfl, hb2⟩
          obtain ⟨hc2, hf2⟩ := bcell hb2
          have hz2 : w.heap.size + 1 < w2.heap.size := by have := hb2.size; omega
          have hB2 : Below w.heap.size w w2 := hB1.trans (hb2.mono hB1.size)
          go_wp2_with fail
          refine (HM1.out _).mono ?_
          rintro e w3 ⟨rfl, rfl⟩
          go_wp2_with fail
          refine bodyPost_ret (v := .tuple #[zval, .int .i64 0, .int .i64 3]) (by simp [results, Tryd.results11, go_sem, hc2, hc, hz, zval]) rfl ⟨rfl, ?_⟩
          go_grown
        | true =>
          obtain ⟨hn3, hn4⟩ := (mayN_iff n).1 hm1
          rw [hm1] at HM1
          cases hm2 : mayN (u + n) with
          | false =>
            rw [addV_of (E := 3) (by simp [addE, h0, ht, hm2]) (by decide)]
            rw [hm2] at HM2
            clear ht h0 hm1 hm2
            generalize x.t = t at *
            rw [hk1]
            rw [hk1] at HC
            clear hk1
            generalize x.l.length = n1 at *
            generalize x.p.length = n2 at *
            generalize x.s.length = n3 at *
            go_enter Tryd.func11, Tryd.ntmps11
            go_wp2_with fail
            refine (HC.out _ (((Below.refl _ w).alloc (Nat.le_refl _) _).alloc (by simp) _)).mono ?_
            rintro e w1 ⟨rfl, hb1⟩
            obtain ⟨hc, hf⟩ := bcell hb1
            have hz : w.heap.size + 1 < w1.heap.size := by have := hb1.size; simp at this; omega
            have hB1 : Below w.heap.size w w1 := (((Below.refl _ w).alloc (Nat.le_refl _) _).alloc (by simp) _).trans (hb1.mono (by simp; omega))
            go_wp2_with fail
            refine (HN.out _).mono ?_
            rintro e w2 ⟨rfl, hb2⟩
            obtain ⟨hc2, hf2⟩ := bcell hb2
            have hz2 : w.heap.size + 1 < w2.heap.size := by have := hb2.size; omega
            have hB2 : Below w.heap.size w w2 := hB1.trans (hb2.mono hB1.size)
            go_wp2_with fail
            refine (HM1.out _).mono ?_
            rintro e w3 ⟨rfl, rfl⟩
            go_wp2_with fail
            refine (HM2.out _).mono ?_
            rintro e w4 ⟨rfl, rfl⟩
            go_wp2_with fail
            refine bodyPost_ret (v := .tuple #[zval, .int .i64 0, .int .i64 3]) (by simp [results, Tryd.results11, go_sem, hc2, hc, hz, zval]) rfl ⟨rfl, ?_⟩
            go_grown
          | true =>
            have hE : addE x n = 0 := by simp [addE, h0, ht, hm1, hm2]
            have hv : addV x n = .tuple #[tval ⟨(Lib.itoa (u + n)).toArray⟩, .int .i64 (u + n), .int .i64 0] := by rw [addV, if_pos hE, ht]; rfl
            obtain ⟨hs3, hs4⟩ := (mayN_iff (u + n)).1 hm2
            rw [hv]
            rw [hm2] at HM2
            have HI : Hid (∀ W, Calls Tryd.prog 26 #[.int .i64 (u + n)] W fun e w' => e = .returned (.string ⟨(Lib.itoa (u + n)).toArray⟩) ∧ Below W.heap.size W w') := fun W => digits_any (u + n) hs3 hs4 W
            generalize (⟨(Lib.itoa (u + n)).toArray⟩ : ByteArray) = R at *
            clear ht h0 hm1 hm2 hE hv
            generalize x.t = t at *
            rw [hk1]
            rw [hk1] at HC
            clear hk1
            generalize x.l.length = n1 at *
            generalize x.p.length = n2 at *
            generalize x.s.length = n3 at *
            go_enter Tryd.func11, Tryd.ntmps11
            go_wp2_with fail
            refine (HC.out _ (((Below.refl _ w).alloc (Nat.le_refl _) _).alloc (by simp) _)).mono ?_
            rintro e w1 ⟨rfl, hb1⟩
            obtain ⟨hc, hf⟩ := bcell hb1
            have hz : w.heap.size + 1 < w1.heap.size := by have := hb1.size; simp at this; omega
            have hB1 : Below w.heap.size w w1 := (((Below.refl _ w).alloc (Nat.le_refl _) _).alloc (by simp) _).trans (hb1.mono (by simp; omega))
            go_wp2_with fail
            refine (HN.out _).mono ?_
            rintro e w2 ⟨rfl, hb2⟩
            obtain ⟨hc2, hf2⟩ := bcell hb2
            have hz2 : w.heap.size + 1 < w2.heap.size := by have := hb2.size; omega
            have hB2 : Below w.heap.size w w2 := hB1.trans (hb2.mono hB1.size)
            go_wp2_with fail
            refine (HM1.out _).mono ?_
            rintro e w3 ⟨rfl, rfl⟩
            go_wp2_with fail
            refine (HM2.out _).mono ?_
            rintro e w4 ⟨rfl, rfl⟩
            go_wp2_with fail
            refine (HI.out _).mono ?_
            rintro e w5 ⟨rfl, hb5⟩
            obtain ⟨hc5, hf5⟩ := bcell hb5
            have hz5 : w.heap.size + 1 < w5.heap.size := by have := hb5.size; omega
            have hB5 : Below w.heap.size w w5 := hB2.trans (hb5.mono hB2.size)
            go_wp2_with fail
            refine bodyPost_ret (v := .tuple #[tval R, .int .i64 (u + n), .int .i64 0]) (by simp [results, Tryd.results11, go_sem, hc5, hc2, hc, hz, hz2, tval]) rfl ⟨rfl, ?_⟩
            go_grown
  · rw [addV_of (E := asI x 1) (by rw [addE, if_pos h0]) h0]
    have h0' : (asI x 1 == 0) = false := by rw [beq_eq_false_iff_ne]; exact h0
    generalize asI x 1 = E at *
    generalize x.t = t at *
    generalize x.k = k at *
    generalize x.l.length = n1 at *
    generalize x.p.length = n2 at *
    generalize x.s.length = n3 at *
    go_enter Tryd.func11, Tryd.ntmps11
    go_wp2_with fail
    refine (HC.out _ (((Below.refl _ w).alloc (Nat.le_refl _) _).alloc (by simp) _)).mono ?_
    rintro e w1 ⟨rfl, hb1⟩
    obtain ⟨hc, hf⟩ := bcell hb1
    have hz : w.heap.size + 1 < w1.heap.size := by have := hb1.size; simp at this; omega
    have hB1 : Below w.heap.size w w1 := (((Below.refl _ w).alloc (Nat.le_refl _) _).alloc (by simp) _).trans (hb1.mono (by simp; omega))
    go_wp2_with fail
    refine bodyPost_ret (v := .tuple #[zval, .int .i64 0, .int .i64 E]) (by simp [results, Tryd.results11, go_sem, hc, zval]) rfl ⟨rfl, ?_⟩
    go_grown
end Go.Proofs.YtolpmaapdkhigabDoor
