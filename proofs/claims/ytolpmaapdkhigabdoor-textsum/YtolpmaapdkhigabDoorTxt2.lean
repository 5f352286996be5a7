/- WALK of Add. -/
import Derived.Test.YtolpmaapdkhigabDoorTxt
import Derived.Handy
namespace Go.Proofs.YtolpmaapdkhigabDoor
open Go.RowKit

theorem digitsNumber_bytes (t : ByteArray) (w : World) (hx : t.size ≤ 281474976710656) (he : Env w) :
    Calls Tryd.prog 32 #[.string t] w fun e w' => Below w.heap.size w w' ∧ (∀ v, pInt t.data.toList = some v → e = .returned (.tuple #[.int .i64 v, .bool true])) ∧ (pInt t.data.toList = none → e = .returned (.tuple #[.int .i64 0, .bool false])) := by
  have h := digitsNumber_any t.data.toList w (by rw [size_list]; exact hx) he
  have e : (⟨t.data.toList.toArray⟩ : ByteArray) = t := by simp
  rw [e] at h
  exact h
/-- the number that an item tells -/
def tellsI (x : Itm) : Option Int := if x.k = 1 then pInt x.t.data.toList else some 0
def tellsV (x : Itm) : Value := match tellsI x with | some v => .tuple #[.int .i64 v, .bool true] | none => .tuple #[.int .i64 0, .bool false]
set_option maxRecDepth 100000 in
set_option maxHeartbeats 2000000 in
theorem tells_any (k : Int) (t : ByteArray) (a1 a2 a3 : Option Addr) (n1 n2 n3 c1 c2 c3 : Nat) (l : List ByteArray) (p : List (ByteArray × ByteArray)) (s : List (Int × ByteArray)) (w : World) (ht : t.size ≤ 281474976710656) (he : Env w) :
    Calls Tryd.prog 20 #[.agg #[.int .i64 k, .string t, .slice a1 n1 c1, .slice a2 n2 c2, .slice a3 n3 c3]] w fun e w' => e = .returned (tellsV ⟨k, t, l, p, s⟩) ∧ Below w.heap.size w w' := by
  by_cases hk : k = 1
  · subst hk
    cases hp : pInt t.data.toList with
    | some v =>
      have hv : tellsV ⟨1, t, l, p, s⟩ = .tuple #[.int .i64 v, .bool true] := by simp [tellsV, tellsI, hp]
      rw [hv]
      have HP := hide hp
      clear hv hp
      go_enter Tryd.func20, Tryd.ntmps20
      go_wp2_with fail
      refine (digitsNumber_bytes t _ ht (he.below ((Below.refl _ w).alloc (Nat.le_refl _) _))).mono ?_
      rintro e w1 ⟨hb1, hs, -⟩
      rw [hs v HP.out]
      clear hs
      go_wp2_with fail
      go_ret2
      exact ⟨rfl, ((Below.refl _ w).alloc (Nat.le_refl _) _).trans (hb1.mono (by simp))⟩
    | none =>
      have hv : tellsV ⟨1, t, l, p, s⟩ = .tuple #[.int .i64 0, .bool false] := by simp [tellsV, tellsI, hp]
      rw [hv]
      have HP := hide hp
      clear hv hp
      go_enter Tryd.func20, Tryd.ntmps20
      go_wp2_with fail
      refine (digitsNumber_bytes t _ ht (he.below ((Below.refl _ w).alloc (Nat.le_refl _) _))).mono ?_
      rintro e w1 ⟨hb1, -, hs⟩
      rw [hs HP.out]
      clear hs
      go_wp2_with fail
      go_ret2
      exact ⟨rfl, ((Below.refl _ w).alloc (Nat.le_refl _) _).trans (hb1.mono (by simp))⟩
  · have hv : tellsV ⟨k, t, l, p, s⟩ = .tuple #[.int .i64 0, .bool true] := by simp [tellsV, tellsI, hk]
    rw [hv]
    have hk' : (k == 1) = false := by rw [beq_eq_false_iff_ne]; exact hk
    clear hv
    go_enter Tryd.func20, Tryd.ntmps20
    go_wp2_with fail
    go_ret2
    exact ⟨rfl, (Below.refl _ w).alloc (Nat.le_refl _) _⟩
theorem tellsI_bounds {x : Itm} {v : Int} (h : tellsI x = some v) : -999999999 ≤ v ∧ v ≤ 999999999 := by
  unfold tellsI at h
  split at h
  · exact ⟨(pInt_bounds h).1, (pInt_bounds h).2.1⟩
  · simp at h; omega

/-- what comes of Add -/
def addE (x : Itm) (n : Int) : Int := if asI x 1 ≠ 0 then asI x 1 else match tellsI x with | none => 1 | some v => if mayN n = true ∧ mayN (v + n) = true then 0 else 3
def addV (x : Itm) (n : Int) : Value := if addE x n = 0 then .tuple #[tval ⟨(Lib.itoa ((tellsI x).getD 0 + n)).toArray⟩, .int .i64 ((tellsI x).getD 0 + n), .int .i64 0] else .tuple #[zval, .int .i64 0, .int .i64 (addE x n)]
theorem addV_of {x : Itm} {n E : Int} (h : addE x n = E) (h0 : E ≠ 0) : addV x n = .tuple #[zval, .int .i64 0, .int .i64 E] := by rw [addV, h, if_neg h0]

set_option maxRecDepth 100000 in
set_option maxHeartbeats 2000000 in
theorem add_any (v : Value) (x : Itm) (n : Int) (w : World) (h : ItemIs w v x) (he : Env w) (hn1 : -9223372036854775808 ≤ n) (hn2 : n ≤ 9223372036854775807) :
    Calls Tryd.prog 8 #[v, .int .i64 n] w fun e w' => e = .returned (addV x n) ∧ Below w.heap.size w w' := by
  have HC : Hid (∀ W, Below w.heap.size w W → Calls Tryd.prog 19 #[v, .int .i64 1] W fun e w' => e = .returned (.int .i64 (asI x 1)) ∧ Below W.heap.size W w') := fun W hW => common_any v x 1 W (h.below hW)
  obtain ⟨⟨a1, c1, a2, c2, a3, c3, rfl, -, -, -⟩, tz, -, -, -, -, -, -⟩ := h
  by_cases h0 : asI x 1 = 0
  · have hx60 := (asI_text h0).1
    have HT : Hid (∀ W, Below w.heap.size w W → Calls Tryd.prog 20 #[.agg #[.int .i64 x.k, .string x.t, .slice a1 x.l.length c1, .slice a2 x.p.length c2, .slice a3 x.s.length c3]] W fun e w' => e = .returned (tellsV x) ∧ Below W.heap.size W w') := fun W hW => tells_any x.k x.t a1 a2 a3 _ _ _ c1 c2 c3 x.l x.p x.s W (by omega) (he.below hW)
    rw [h0] at HC
    cases ht : tellsI x with
    | none =>
      rw [addV_of (E := 1) (by rw [addE, if_neg (by simp [h0]), ht]) (by decide)]
      rw [show tellsV x = .tuple #[.int .i64 0, .bool false] by simp [tellsV, ht]] at HT
      clear ht h0
      generalize x.t = t at *
      generalize x.k = k at *
      generalize x.l.length = n1 at *
      generalize x.p.length = n2 at *
      generalize x.s.length = n3 at *
      go_enter Tryd.func8, Tryd.ntmps8
      go_wp2_with fail
      refine (HC.out _ (((Below.refl _ w).alloc (Nat.le_refl _) _).alloc (by simp) _)).mono ?_
      rintro e w1 ⟨rfl, hb1⟩
      obtain ⟨hc, hf⟩ := bcell hb1
      have hz : w.heap.size + 1 < w1.heap.size := by have := hb1.size; simp at this; omega
      have hB1 : Below w.heap.size w w1 := (((Below.refl _ w).alloc (Nat.le_refl _) _).alloc (by simp) _).trans (hb1.mono (by simp; omega))
      go_wp2_with fail
      refine (HT.out w1 hB1).mono ?_
      rintro e w2 ⟨rfl, hb2⟩
      obtain ⟨hc2, hf2⟩ := bcell hb2
      have hz2 : w.heap.size + 1 < w2.heap.size := by have := hb2.size; omega
      have hB2 : Below w.heap.size w w2 := hB1.trans (hb2.mono hB1.size)
      go_wp2_with fail
      refine bodyPost_ret (v := .tuple #[zval, .int .i64 0, .int .i64 1]) (by simp [results, Tryd.results8, go_sem, hc2, hc, hz, zval]) rfl ⟨rfl, ?_⟩
      go_grown
    | some u =>
      obtain ⟨hu1, hu2⟩ := tellsI_bounds ht
      rw [show tellsV x = .tuple #[.int .i64 u, .bool true] by simp [tellsV, ht]] at HT
      have HM1 : Hid (∀ W, Calls Tryd.prog 21 #[.int .i64 n] W fun e w' => e = .returned (.bool (mayN n)) ∧ w' = W) := fun W => may_any n W
      have HM2 : Hid (∀ W, Calls Tryd.prog 21 #[.int .i64 (u + n)] W fun e w' => e = .returned (.bool (mayN (u + n))) ∧ w' = W) := fun W => may_any (u + n) W
      cases hm1 : mayN n with
      | false =>
        rw [addV_of (E := 3) (by simp [addE, h0, ht, hm1]) (by decide)]
        rw [hm1] at HM1
        clear ht h0 hm1 HM2
        generalize x.t = t at *
        generalize x.k = k at *
        generalize x.l.length = n1 at *
        generalize x.p.length = n2 at *
        generalize x.s.length = n3 at *
        go_enter Tryd.func8, Tryd.ntmps8
        go_wp2_with fail
        refine (HC.out _ (((Below.refl _ w).alloc (Nat.le_refl _) _).alloc (by simp) _)).mono ?_
        rintro e w1 ⟨rfl, hb1⟩
        obtain ⟨hc, hf⟩ := bcell hb1
        have hz : w.heap.size + 1 < w1.heap.size := by have := hb1.size; simp at this; omega
        have hB1 : Below w.heap.size w w1 := (((Below.refl _ w).alloc (Nat.le_refl _) _).alloc (by simp) _).trans (hb1.mono (by simp; omega))
        go_wp2_with fail
        refine (HT.out w1 hB1).mono ?_
        rintro e w2 ⟨rfl, hb2⟩
        obtain ⟨hc2, hf2⟩ := bcell hb2
        have hz2 : w.heap.size + 1 < w2.heap.size := by have := hb2.size; omega
        have hB2 : Below w.heap.size w w2 := hB1.trans (hb2.mono hB1.size)
        go_wp2_with fail
        refine (HM1.out _).mono ?_
        rintro e w3 ⟨rfl, rfl⟩
        go_wp2_with fail
        refine bodyPost_ret (v := .tuple #[zval, .int .i64 0, .int .i64 3]) (by simp [results, Tryd.results8, go_sem, hc2, hc, hz, zval]) rfl ⟨rfl, ?_⟩
        go_grown
      | true =>
        obtain ⟨hn3, hn4⟩ := (mayN_iff n).1 hm1
        rw [hm1] at HM1
        cases hm2 : mayN (u + n) with
        | false =>
          rw [addV_of (E := 3) (by simp [addE, h0, ht, hm2]) (by decide)]
          rw [hm2] at HM2
          clear ht h0 hm1 hm2
          generalize x.t = t at *
          generalize x.k = k at *
          generalize x.l.length = n1 at *
          generalize x.p.length = n2 at *
          generalize x.s.length = n3 at *
          go_enter Tryd.func8, Tryd.ntmps8
          go_wp2_with fail
          refine (HC.out _ (((Below.refl _ w).alloc (Nat.le_refl _) _).alloc (by simp) _)).mono ?_
          rintro e w1 ⟨rfl, hb1⟩
          obtain ⟨hc, hf⟩ := bcell hb1
          have hz : w.heap.size + 1 < w1.heap.size := by have := hb1.size; simp at this; omega
          have hB1 : Below w.heap.size w w1 := (((Below.refl _ w).alloc (Nat.le_refl _) _).alloc (by simp) _).trans (hb1.mono (by simp; omega))
          go_wp2_with fail
          refine (HT.out w1 hB1).mono ?_
          rintro e w2 ⟨rfl, hb2⟩
          obtain ⟨hc2, hf2⟩ := bcell hb2
          have hz2 : w.heap.size + 1 < w2.heap.size := by have := hb2.size; omega
          have hB2 : Below w.heap.size w w2 := hB1.trans (hb2.mono hB1.size)
          go_wp2_with fail
          refine (HM1.out _).mono ?_
          rintro e w3 ⟨rfl, rfl⟩
          go_wp2_with fail
          refine (HM2.out _).mono ?_
          rintro e w4 ⟨rfl, rfl⟩
          go_wp2_with fail
          refine bodyPost_ret (v := .tuple #[zval, .int .i64 0, .int .i64 3]) (by simp [results, Tryd.results8, go_sem, hc2, hc, hz, zval]) rfl ⟨rfl, ?_⟩
          go_grown
        | true =>
          have hE : addE x n = 0 := by simp [addE, h0, ht, hm1, hm2]
          have hv : addV x n = .tuple #[tval ⟨(Lib.itoa (u + n)).toArray⟩, .int .i64 (u + n), .int .i64 0] := by rw [addV, if_pos hE, ht]; rfl
          rw [hv]
          rw [hm2] at HM2
          have HI : Hid (∀ W, Below w.heap.size w W → Calls Tryd.prog 22 #[.int .i64 (u + n)] W fun e w' => e = .returned (.string ⟨(Lib.itoa (u + n)).toArray⟩) ∧ Below W.heap.size W w') := fun W hW => itoa_any (u + n) W (by omega) (by omega) (he.below hW)
          generalize (⟨(Lib.itoa (u + n)).toArray⟩ : ByteArray) = R at *
          clear ht h0 hm1 hm2 hE hv
          generalize x.t = t at *
          generalize x.k = k at *
          generalize x.l.length = n1 at *
          generalize x.p.length = n2 at *
          generalize x.s.length = n3 at *
          go_enter Tryd.func8, Tryd.ntmps8
          go_wp2_with fail
          refine (HC.out _ (((Below.refl _ w).alloc (Nat.le_refl _) _).alloc (by simp) _)).mono ?_
          rintro e w1 ⟨rfl, hb1⟩
          obtain ⟨hc, hf⟩ := bcell hb1
          have hz : w.heap.size + 1 < w1.heap.size := by have := hb1.size; simp at this; omega
          have hB1 : Below w.heap.size w w1 := (((Below.refl _ w).alloc (Nat.le_refl _) _).alloc (by simp) _).trans (hb1.mono (by simp; omega))
          go_wp2_with fail
          refine (HT.out w1 hB1).mono ?_
          rintro e w2 ⟨rfl, hb2⟩
          obtain ⟨hc2, hf2⟩ := bcell hb2
          have hz2 : w.heap.size + 1 < w2.heap.size := by have := hb2.size; omega
          have hB2 : Below w.heap.size w w2 := hB1.trans (hb2.mono hB1.size)
          go_wp2_with fail
          refine (HM1.out _).mono ?_
          rintro e w3 ⟨rfl, rfl⟩
          go_wp2_with fail
          refine (HM2.out _).mono ?_
          rintro e w4 ⟨rfl, rfl⟩
          go_wp2_with fail
          refine (HI.out _ hB2).mono ?_
          rintro e w5 ⟨rfl, hb5⟩
          obtain ⟨hc5, hf5⟩ := bcell hb5
          have hz5 : w.heap.size + 1 < w5.heap.size := by have := hb5.size; omega
          have hB5 : Below w.heap.size w w5 := hB2.trans (hb5.mono hB2.size)
          go_wp2_with fail
          refine bodyPost_ret (v := .tuple #[tval R, .int .i64 (u + n), .int .i64 0]) (by simp [results, Tryd.results8, go_sem, hc5, hc2, hc, hz, hz2, tval]) rfl ⟨rfl, ?_⟩
          go_grown
  · rw [addV_of (E := asI x 1) (by rw [addE, if_pos h0]) h0]
    have h0' : (asI x 1 == 0) = false := by rw [beq_eq_false_iff_ne]; exact h0
    generalize asI x 1 = E at *
    generalize x.t = t at *
    generalize x.k = k at *
    generalize x.l.length = n1 at *
    generalize x.p.length = n2 at *
    generalize x.s.length = n3 at *
    go_enter Tryd.func8, Tryd.ntmps8
    go_wp2_with fail
    refine (HC.out _ (((Below.refl _ w).alloc (Nat.le_refl _) _).alloc (by simp) _)).mono ?_
    rintro e w1 ⟨rfl, hb1⟩
    obtain ⟨hc, hf⟩ := bcell hb1
    have hz : w.heap.size + 1 < w1.heap.size := by have := hb1.size; simp at this; omega
    have hB1 : Below w.heap.size w w1 := (((Below.refl _ w).alloc (Nat.le_refl _) _).alloc (by simp) _).trans (hb1.mono (by simp; omega))
    go_wp2_with fail
    refine bodyPost_ret (v := .tuple #[zval, .int .i64 0, .int .i64 E]) (by simp [results, Tryd.results8, go_sem, hc, zval]) rfl ⟨rfl, ?_⟩
    go_grown
end Go.Proofs.YtolpmaapdkhigabDoor
