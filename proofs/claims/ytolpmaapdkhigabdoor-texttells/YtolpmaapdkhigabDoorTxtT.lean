/- WALK of TextTells. -/
import Derived.Test.YtolpmaapdkhigabDoorTxtB
import Derived.Test.YtolpmaapdkhigabDoorTxtLen
import Derived.Test.YtolpmaapdkhigabDoorRTxt
import Derived.Test.YtolpmaapdkhigabDoorRTxt2
import Derived.Test.YtolpmaapdkhigabDoorRRng2
import Derived.Test.YtolpmaapdkhigabDoorRIs
import Derived.Test.YtolpmaapdkhigabDoorBoxes
import Derived.BigQuiet
import Derived.Handy
namespace Go.Proofs.YtolpmaapdkhigabDoor
open Go.RowKit

theorem small_is (w : World) (k : Int) (t : ByteArray) (ht : t.size ≤ maxLen) : ItemIs w (.agg #[.int .i64 k, .string t, .slice none 0 0, .slice none 0 0, .slice none 0 0]) ⟨k, t, [], [], []⟩ :=
  ⟨⟨none, 0, none, 0, none, 0, rfl, .inl rfl, .inl rfl, .inl rfl⟩, ht, by simp, by simp, by simp, by simp, by simp, by simp⟩
theorem appV_shape (x : Itm) (s : ByteArray) : ∃ (k : Int) (t : ByteArray) (n E : Int), appV x s = .tuple #[.agg #[.int .i64 k, .string t, .slice none 0 0, .slice none 0 0, .slice none 0 0], .int .i64 n, .int .i64 E] ∧ t.size ≤ maxLen ∧ (E ≠ 0 → (⟨k, t, [], [], []⟩ : Itm) = Itm.none ∧ n = 0) := by
  by_cases h : appE x s = 0
  · have hs : (x.t ++ s).size ≤ 60 := by
      rw [ByteArray.size_append]
      unfold appE at h
      split at h
      · rename_i h1; exact absurd h h1
      · split at h
        · cases h
        · omega
    exact ⟨1, x.t ++ s, _, 0, by rw [appV, if_pos h]; rfl, by unfold maxLen; omega, fun h => absurd rfl h⟩
  · exact ⟨0, ⟨#[]⟩, 0, appE x s, by rw [appV, if_neg h]; rfl, (show (0 : Nat) ≤ maxLen by simp), fun _ => ⟨rfl, rfl⟩⟩
theorem itoa_short (n : Int) (h0 : -999999999 ≤ n) (h1 : n ≤ 999999999) : (⟨(Lib.itoa n).toArray⟩ : ByteArray).size ≤ maxLen := by
  rw [size_mk]
  have := itoa_len n h0 h1
  unfold maxLen
  omega
theorem addV_shape (x : Itm) (m : Int) : ∃ (k : Int) (t : ByteArray) (n E : Int), addV x m = .tuple #[.agg #[.int .i64 k, .string t, .slice none 0 0, .slice none 0 0, .slice none 0 0], .int .i64 n, .int .i64 E] ∧ t.size ≤ maxLen ∧ (E ≠ 0 → (⟨k, t, [], [], []⟩ : Itm) = Itm.none ∧ n = 0) := by
  by_cases h : addE x m = 0
  · refine ⟨1, _, _, 0, by rw [addV, if_pos h]; rfl, ?_, fun h => absurd rfl h⟩
    unfold addE at h
    split at h
    · rename_i h1; exact absurd h h1
    · split at h
      · cases h
      · rename_i v hv
        split at h
        · rename_i hc
          rw [hv]
          have := (mayN_iff _).1 hc.2
          exact itoa_short _ this.1 this.2
        · cases h
  · exact ⟨0, ⟨#[]⟩, 0, addE x m, by rw [addV, if_neg h]; rfl, (show (0 : Nat) ≤ maxLen by simp), fun _ => ⟨rfl, rfl⟩⟩

set_option maxRecDepth 100000 in
set_option maxHeartbeats 8000000 in
theorem textTells_walk (v : Value) (x : Itm) (s : ByteArray) (n from_ to_ : Int) (w : World) (he : Env w) (h : ItemIs w v x) (hs : s.size ≤ 281474976710656) (hn1 : -9223372036854775808 ≤ n) (hn2 : n ≤ 9223372036854775807) (hf1 : -9223372036854775808 ≤ from_) (hf2 : from_ ≤ 9223372036854775807) (ht1 : -9223372036854775808 ≤ to_) (ht2 : to_ ≤ 9223372036854775807) :
    Calls Tryd.prog 3 #[v, .string s, .int .i64 n, .int .i64 from_, .int .i64 to_] w fun e w' => e = .returned (.bool true) ∧ Below w.heap.size w w' := by
  have HI := hide h
  have HE := hide he
  obtain ⟨⟨a1, c1, a2, c2, a3, c3, rfl, -, -, -⟩, -, -, -, -, -, -, -⟩ := h
  clear he
  obtain ⟨ka, ta, na, Ea, eA, sA, nA⟩ := appV_shape x s
  obtain ⟨kb, tb, nb, Eb, eB, sB, nB⟩ := addV_shape x n
  have HG : Hid (∀ W, Below w.heap.size w W → Calls Tryd.prog 15 #[] W fun e w' => e = .returned (.bool true) ∧ Below W.heap.size W w') := fun W hW => textBegun_any W (HE.out.below hW)
  have HA : Hid (∀ W, Below w.heap.size w W → Calls Tryd.prog 6 #[.agg #[.int .i64 x.k, .string x.t, .slice a1 x.l.length c1, .slice a2 x.p.length c2, .slice a3 x.s.length c3], .string s] W fun e w' => e = .returned (.tuple #[.agg #[.int .i64 ka, .string ta, .slice none 0 0, .slice none 0 0, .slice none 0 0], .int .i64 na, .int .i64 Ea]) ∧ Below W.heap.size W w') := fun W hW => by rw [← eA]; exact append_any _ x s W (HI.out.below hW) hs
  have HAO : Hid (∀ W, Below w.heap.size w W → Calls Tryd.prog 10 #[.agg #[.int .i64 x.k, .string x.t, .slice a1 x.l.length c1, .slice a2 x.p.length c2, .slice a3 x.s.length c3], .string s] W fun e w' => e = .returned (.tuple #[.agg #[.int .i64 ka, .string ta, .slice none 0 0, .slice none 0 0, .slice none 0 0], .int .i64 na, .int .i64 Ea]) ∧ Below W.heap.size W w') := fun W hW => by rw [← eA]; exact appendOf_any _ x s W (HI.out.below hW) hs
  have HD : Hid (∀ W, Below w.heap.size w W → Calls Tryd.prog 8 #[.agg #[.int .i64 x.k, .string x.t, .slice a1 x.l.length c1, .slice a2 x.p.length c2, .slice a3 x.s.length c3], .int .i64 n] W fun e w' => e = .returned (.tuple #[.agg #[.int .i64 kb, .string tb, .slice none 0 0, .slice none 0 0, .slice none 0 0], .int .i64 nb, .int .i64 Eb]) ∧ Below W.heap.size W w') := fun W hW => by rw [← eB]; exact add_any _ x n W (HI.out.below hW) (HE.out.below hW) hn1 hn2
  have HDO : Hid (∀ W, Below w.heap.size w W → Calls Tryd.prog 11 #[.agg #[.int .i64 x.k, .string x.t, .slice a1 x.l.length c1, .slice a2 x.p.length c2, .slice a3 x.s.length c3], .int .i64 n] W fun e w' => e = .returned (.tuple #[.agg #[.int .i64 kb, .string tb, .slice none 0 0, .slice none 0 0, .slice none 0 0], .int .i64 nb, .int .i64 Eb]) ∧ Below W.heap.size W w') := fun W hW => by rw [← eB]; exact addOf_any _ x n W (HI.out.below hW) hn1 hn2
  have HC : Hid (∀ W, Below w.heap.size w W → Calls Tryd.prog 12 #[.agg #[.int .i64 x.k, .string x.t, .slice a1 x.l.length c1, .slice a2 x.p.length c2, .slice a3 x.s.length c3], .int .i64 1] W fun e w' => e = .returned (.int .i64 (asI x 1)) ∧ Below W.heap.size W w') := fun W hW => refAs_any _ x 1 W (HI.out.below hW)
  have HI1 : Hid (∀ W, Calls Tryd.prog 16 #[.agg #[.int .i64 ka, .string ta, .slice none 0 0, .slice none 0 0, .slice none 0 0], .int .i64 na, .int .i64 Ea, .int .i64 Ea, .agg #[.int .i64 ka, .string ta, .slice none 0 0, .slice none 0 0, .slice none 0 0], .int .i64 na] W fun e w' => e = .returned (.bool true) ∧ Below W.heap.size W w') := fun W => itemIs_any _ _ ⟨ka, ta, [], [], []⟩ na Ea W (small_is W ka ta sA) (small_is W ka ta sA) nA
  have HI2 : Hid (∀ W, Calls Tryd.prog 16 #[.agg #[.int .i64 kb, .string tb, .slice none 0 0, .slice none 0 0, .slice none 0 0], .int .i64 nb, .int .i64 Eb, .int .i64 Eb, .agg #[.int .i64 kb, .string tb, .slice none 0 0, .slice none 0 0, .slice none 0 0], .int .i64 nb] W fun e w' => e = .returned (.bool true) ∧ Below W.heap.size W w') := fun W => itemIs_any _ _ ⟨kb, tb, [], [], []⟩ nb Eb W (small_is W kb tb sB) (small_is W kb tb sB) nB
  by_cases h0 : asI x 1 = 0
  · have hx60 := (asI_text h0).1
    obtain ⟨pc1, pc2⟩ := place_clamp x.t.size from_ to_ (by omega)
    obtain ⟨g1, g2⟩ := clamp_bounds from_
    obtain ⟨g3, g4⟩ := clamp_bounds to_
    have HL : Hid (∀ W, Below w.heap.size w W → Calls Tryd.prog 7 #[.agg #[.int .i64 x.k, .string x.t, .slice a1 x.l.length c1, .slice a2 x.p.length c2, .slice a3 x.s.length c3]] W fun e w' => e = .returned (.tuple #[.int .i64 x.t.size, .int .i64 0]) ∧ Below W.heap.size W w') := fun W hW => by have hh := len_any _ x W (HI.out.below hW); rw [lenV, if_pos h0] at hh; exact hh
    have HR : Hid (∀ W, Below w.heap.size w W → Calls Tryd.prog 9 #[.agg #[.int .i64 x.k, .string x.t, .slice a1 x.l.length c1, .slice a2 x.p.length c2, .slice a3 x.s.length c3], .int .i64 from_, .int .i64 to_] W fun e w' => e = .returned (.tuple #[.string (x.t.extract (place1 x.t.size from_ to_) (place2 x.t.size from_ to_)), .int .i64 0]) ∧ Below W.heap.size W w') := fun W hW => by have hh := range_any _ x from_ to_ W (HI.out.below hW) hf1 ht1 hf2 ht2; rw [rngV, if_pos h0] at hh; exact hh
    have HRT : Hid (∀ W, Calls Tryd.prog 13 #[.string x.t, .int .i64 (clampN from_), .int .i64 (clampN to_)] W fun e w' => e = .returned (.string (x.t.extract (place1 x.t.size from_ to_) (place2 x.t.size from_ to_))) ∧ w' = W) := fun W => by
      have hh := rangeText_any x.t (clampN from_) (clampN to_) W hx60 g1 g2 g3 g4
      rw [pc1, pc2] at hh
      exact hh
    rw [h0] at HC
    clear eA eB sA sB nA nB HI HE h0 pc1 pc2 g1 g2 g3 g4
    generalize x.t.extract (place1 x.t.size from_ to_) (place2 x.t.size from_ to_) = P at *
    generalize x.k = k at *
    generalize x.l.length = n1 at *
    generalize x.p.length = n2 at *
    generalize x.s.length = n3 at *
    generalize x.t = t at *
    go_enter Tryd.func3, Tryd.ntmps3
    go_wp2_with fail
    have C0 : Below w.heap.size w (w.alloc (.cells #[.int .i64 k, .string t, .slice a1 n1 c1, .slice a2 n2 c2, .slice a3 n3 c3] 26)) := (Below.refl _ w).alloc (Nat.le_refl _) _
    have X0 := hide (BoxAt.new w (.int .i64 k) (.string t) (.slice a1 n1 c1) (.slice a2 n2 c2) (.slice a3 n3 c3) 26)
    refine (HA.out _ C0).mono ?_
    rintro e w1 ⟨rfl, hb1⟩
    have C1 : Below w.heap.size w w1 := C0.trans (hb1.mono C0.size)
    have X1 := hide (X0.out.below hb1)
    clear hb1 C0 X0
    obtain ⟨xc0, xc1, xc2, xc3, xc4, xlt⟩ := X1.out
    go_wp2_with fail
    have Xb1 := hide (X1.out.alloc (.cells #[.int .i64 ka, .string ta, .slice none 0 0, .slice none 0 0, .slice none 0 0] 26))
    have Ab1 := hide (BoxAt.new w1 (.int .i64 ka) (.string ta) (.slice none 0 0) (.slice none 0 0) (.slice none 0 0) 26)
    have Cb1 := C1.alloc C1.size (.cells #[.int .i64 ka, .string ta, .slice none 0 0, .slice none 0 0, .slice none 0 0] 26)
    refine (HL.out _ Cb1).mono ?_
    rintro e w2 ⟨rfl, hb2⟩
    have C2 : Below w.heap.size w w2 := Cb1.trans (hb2.mono Cb1.size)
    have X2 := hide (Xb1.out.below hb2)
    have A2 := hide (Ab1.out.below hb2)
    clear xc0 xc1 xc2 xc3 xc4 xlt
    clear hb2 Cb1 Xb1 Ab1
    obtain ⟨xc0, xc1, xc2, xc3, xc4, xlt⟩ := X2.out
    go_wp2_with fail
    refine (HD.out _ C2).mono ?_
    rintro e w3 ⟨rfl, hb3⟩
    have C3 : Below w.heap.size w w3 := C2.trans (hb3.mono C2.size)
    have X3 := hide (X2.out.below hb3)
    have A3 := hide (A2.out.below hb3)
    clear xc0 xc1 xc2 xc3 xc4 xlt
    clear hb3 C2 X2 A2
    obtain ⟨xc0, xc1, xc2, xc3, xc4, xlt⟩ := X3.out
    go_wp2_with fail
    have Xb2 := hide (X3.out.alloc (.cells #[.int .i64 kb, .string tb, .slice none 0 0, .slice none 0 0, .slice none 0 0] 26))
    have Ab2 := hide (A3.out.alloc (.cells #[.int .i64 kb, .string tb, .slice none 0 0, .slice none 0 0, .slice none 0 0] 26))
    have Bb2 := hide (BoxAt.new w3 (.int .i64 kb) (.string tb) (.slice none 0 0) (.slice none 0 0) (.slice none 0 0) 26)
    have Cb2 := C3.alloc C3.size (.cells #[.int .i64 kb, .string tb, .slice none 0 0, .slice none 0 0, .slice none 0 0] 26)
    refine (HR.out _ Cb2).mono ?_
    rintro e w4 ⟨rfl, hb4⟩
    have C4 : Below w.heap.size w w4 := Cb2.trans (hb4.mono Cb2.size)
    have X4 := hide (Xb2.out.below hb4)
    have A4 := hide (Ab2.out.below hb4)
    have B4 := hide (Bb2.out.below hb4)
    clear xc0 xc1 xc2 xc3 xc4 xlt
    clear hb4 Cb2 Xb2 Ab2 Bb2
    obtain ⟨xc0, xc1, xc2, xc3, xc4, xlt⟩ := X4.out
    go_wp2_with fail
    refine (HAO.out _ C4).mono ?_
    rintro e w5 ⟨rfl, hb5⟩
    have C5 : Below w.heap.size w w5 := C4.trans (hb5.mono C4.size)
    have X5 := hide (X4.out.below hb5)
    have A5 := hide (A4.out.below hb5)
    have B5 := hide (B4.out.below hb5)
    clear xc0 xc1 xc2 xc3 xc4 xlt
    clear hb5 C4 X4 A4 B4
    obtain ⟨xc0, xc1, xc2, xc3, xc4, xlt⟩ := X5.out
    go_wp2_with fail
    have Xb3 := hide (X5.out.alloc (.cells #[.int .i64 ka, .string ta, .slice none 0 0, .slice none 0 0, .slice none 0 0] 26))
    have Ab3 := hide (A5.out.alloc (.cells #[.int .i64 ka, .string ta, .slice none 0 0, .slice none 0 0, .slice none 0 0] 26))
    have Bb3 := hide (B5.out.alloc (.cells #[.int .i64 ka, .string ta, .slice none 0 0, .slice none 0 0, .slice none 0 0] 26))
    have Yb3 := hide (BoxAt.new w5 (.int .i64 ka) (.string ta) (.slice none 0 0) (.slice none 0 0) (.slice none 0 0) 26)
    have Cb3 := C5.alloc C5.size (.cells #[.int .i64 ka, .string ta, .slice none 0 0, .slice none 0 0, .slice none 0 0] 26)
    refine (HDO.out _ Cb3).mono ?_
    rintro e w6 ⟨rfl, hb6⟩
    have C6 : Below w.heap.size w w6 := Cb3.trans (hb6.mono Cb3.size)
    have X6 := hide (Xb3.out.below hb6)
    have A6 := hide (Ab3.out.below hb6)
    have B6 := hide (Bb3.out.below hb6)
    have Y6 := hide (Yb3.out.below hb6)
    clear xc0 xc1 xc2 xc3 xc4 xlt
    clear hb6 Cb3 Xb3 Ab3 Bb3 Yb3
    obtain ⟨xc0, xc1, xc2, xc3, xc4, xlt⟩ := X6.out
    go_wp2_with fail
    have Xb4 := hide (X6.out.alloc (.cells #[.int .i64 kb, .string tb, .slice none 0 0, .slice none 0 0, .slice none 0 0] 26))
    have Ab4 := hide (A6.out.alloc (.cells #[.int .i64 kb, .string tb, .slice none 0 0, .slice none 0 0, .slice none 0 0] 26))
    have Bb4 := hide (B6.out.alloc (.cells #[.int .i64 kb, .string tb, .slice none 0 0, .slice none 0 0, .slice none 0 0] 26))
    have Yb4 := hide (Y6.out.alloc (.cells #[.int .i64 kb, .string tb, .slice none 0 0, .slice none 0 0, .slice none 0 0] 26))
    have Zb4 := hide (BoxAt.new w6 (.int .i64 kb) (.string tb) (.slice none 0 0) (.slice none 0 0) (.slice none 0 0) 26)
    have Cb4 := C6.alloc C6.size (.cells #[.int .i64 kb, .string tb, .slice none 0 0, .slice none 0 0, .slice none 0 0] 26)
    refine (HC.out _ Cb4).mono ?_
    rintro e w7 ⟨rfl, hb7⟩
    have C7 : Below w.heap.size w w7 := Cb4.trans (hb7.mono Cb4.size)
    have X7 := hide (Xb4.out.below hb7)
    have A7 := hide (Ab4.out.below hb7)
    have B7 := hide (Bb4.out.below hb7)
    have Y7 := hide (Yb4.out.below hb7)
    have Z7 := hide (Zb4.out.below hb7)
    clear xc0 xc1 xc2 xc3 xc4 xlt
    clear hb7 Cb4 Xb4 Ab4 Bb4 Yb4 Zb4
    obtain ⟨xc0, xc1, xc2, xc3, xc4, xlt⟩ := X7.out
    obtain ⟨ac0, ac1, ac2, ac3, ac4, alt⟩ := A7.out
    obtain ⟨bc0, bc1, bc2, bc3, bc4, blt⟩ := B7.out
    obtain ⟨yc0, yc1, yc2, yc3, yc4, ylt⟩ := Y7.out
    obtain ⟨zc0, zc1, zc2, zc3, zc4, zlt⟩ := Z7.out
    go_wp2_with fail
    go_quiet ((first | (go_at_call 14; exact Calls.quiet_of_same (clamped_any _ _)) | (go_at_call 13; exact Calls.quiet_of_same (HRT.out _))))
    have CQ : Below w.heap.size w (w7.drewN nq) := below_drewN C7 nq
    have Xq := hide (X7.out.drewN nq)
    have Aq := hide (A7.out.drewN nq)
    have Bq := hide (B7.out.drewN nq)
    have Yq := hide (Y7.out.drewN nq)
    have Zq := hide (Z7.out.drewN nq)
    go_wp2_with fail
    refine (HG.out _ CQ).mono ?_
    rintro e w8 ⟨rfl, hb8⟩
    have C8 : Below w.heap.size w w8 := CQ.trans (hb8.mono CQ.size)
    have X8 := hide (Xq.out.below hb8)
    have A8 := hide (Aq.out.below hb8)
    have B8 := hide (Bq.out.below hb8)
    have Y8 := hide (Yq.out.below hb8)
    have Z8 := hide (Zq.out.below hb8)
    clear xc0 xc1 xc2 xc3 xc4 xlt ac0 ac1 ac2 ac3 ac4 alt bc0 bc1 bc2 bc3 bc4 blt yc0 yc1 yc2 yc3 yc4 ylt zc0 zc1 zc2 zc3 zc4 zlt
    clear hb8 CQ Xq Aq Bq Yq Zq
    obtain ⟨ac0, ac1, ac2, ac3, ac4, alt⟩ := A8.out
    obtain ⟨yc0, yc1, yc2, yc3, yc4, ylt⟩ := Y8.out
    go_wp2_with fail
    refine (HI1.out _).mono ?_
    rintro e w9 ⟨rfl, hb9⟩
    have C9 : Below w.heap.size w w9 := C8.trans (hb9.mono C8.size)
    have X9 := hide (X8.out.below hb9)
    have A9 := hide (A8.out.below hb9)
    have B9 := hide (B8.out.below hb9)
    have Y9 := hide (Y8.out.below hb9)
    have Z9 := hide (Z8.out.below hb9)
    clear ac0 ac1 ac2 ac3 ac4 alt yc0 yc1 yc2 yc3 yc4 ylt
    clear hb9 C8 X8 A8 B8 Y8 Z8
    obtain ⟨bc0, bc1, bc2, bc3, bc4, blt⟩ := B9.out
    obtain ⟨zc0, zc1, zc2, zc3, zc4, zlt⟩ := Z9.out
    go_wp2_with fail
    refine (HI2.out _).mono ?_
    rintro e w10 ⟨rfl, hb10⟩
    have C10 : Below w.heap.size w w10 := C9.trans (hb10.mono C9.size)
    have X10 := hide (X9.out.below hb10)
    have A10 := hide (A9.out.below hb10)
    have B10 := hide (B9.out.below hb10)
    have Y10 := hide (Y9.out.below hb10)
    have Z10 := hide (Z9.out.below hb10)
    clear bc0 bc1 bc2 bc3 bc4 blt zc0 zc1 zc2 zc3 zc4 zlt
    clear hb10 C9 X9 A9 B9 Y9 Z9
    go_wp2_with fail
    go_ret
    exact ⟨rfl, C10⟩
  · have h0' : (asI x 1 == 0) = false := by rw [beq_eq_false_iff_ne]; exact h0
    have HL : Hid (∀ W, Below w.heap.size w W → Calls Tryd.prog 7 #[.agg #[.int .i64 x.k, .string x.t, .slice a1 x.l.length c1, .slice a2 x.p.length c2, .slice a3 x.s.length c3]] W fun e w' => e = .returned (.tuple #[.int .i64 0, .int .i64 (asI x 1)]) ∧ Below W.heap.size W w') := fun W hW => by have hh := len_any _ x W (HI.out.below hW); rw [lenV, if_neg h0] at hh; exact hh
    have HR : Hid (∀ W, Below w.heap.size w W → Calls Tryd.prog 9 #[.agg #[.int .i64 x.k, .string x.t, .slice a1 x.l.length c1, .slice a2 x.p.length c2, .slice a3 x.s.length c3], .int .i64 from_, .int .i64 to_] W fun e w' => e = .returned (.tuple #[.string ⟨#[]⟩, .int .i64 (asI x 1)]) ∧ Below W.heap.size W w') := fun W hW => by have hh := range_any _ x from_ to_ W (HI.out.below hW) hf1 ht1 hf2 ht2; rw [rngV, if_neg h0] at hh; exact hh
    clear eA eB sA sB nA nB HI HE h0
    generalize asI x 1 = E at *
    generalize x.k = k at *
    generalize x.l.length = n1 at *
    generalize x.p.length = n2 at *
    generalize x.s.length = n3 at *
    generalize x.t = t at *
    go_enter Tryd.func3, Tryd.ntmps3
    go_wp2_with fail
    have C0 : Below w.heap.size w (w.alloc (.cells #[.int .i64 k, .string t, .slice a1 n1 c1, .slice a2 n2 c2, .slice a3 n3 c3] 26)) := (Below.refl _ w).alloc (Nat.le_refl _) _
    have X0 := hide (BoxAt.new w (.int .i64 k) (.string t) (.slice a1 n1 c1) (.slice a2 n2 c2) (.slice a3 n3 c3) 26)
    refine (HA.out _ C0).mono ?_
    rintro e w1 ⟨rfl, hb1⟩
    have C1 : Below w.heap.size w w1 := C0.trans (hb1.mono C0.size)
    have X1 := hide (X0.out.below hb1)
    clear hb1 C0 X0
    obtain ⟨xc0, xc1, xc2, xc3, xc4, xlt⟩ := X1.out
    go_wp2_with fail
    have Xb1 := hide (X1.out.alloc (.cells #[.int .i64 ka, .string ta, .slice none 0 0, .slice none 0 0, .slice none 0 0] 26))
    have Ab1 := hide (BoxAt.new w1 (.int .i64 ka) (.string ta) (.slice none 0 0) (.slice none 0 0) (.slice none 0 0) 26)
    have Cb1 := C1.alloc C1.size (.cells #[.int .i64 ka, .string ta, .slice none 0 0, .slice none 0 0, .slice none 0 0] 26)
    refine (HL.out _ Cb1).mono ?_
    rintro e w2 ⟨rfl, hb2⟩
    have C2 : Below w.heap.size w w2 := Cb1.trans (hb2.mono Cb1.size)
    have X2 := hide (Xb1.out.below hb2)
    have A2 := hide (Ab1.out.below hb2)
    clear xc0 xc1 xc2 xc3 xc4 xlt
    clear hb2 Cb1 Xb1 Ab1
    obtain ⟨xc0, xc1, xc2, xc3, xc4, xlt⟩ := X2.out
    go_wp2_with fail
    refine (HD.out _ C2).mono ?_
    rintro e w3 ⟨rfl, hb3⟩
    have C3 : Below w.heap.size w w3 := C2.trans (hb3.mono C2.size)
    have X3 := hide (X2.out.below hb3)
    have A3 := hide (A2.out.below hb3)
    clear xc0 xc1 xc2 xc3 xc4 xlt
    clear hb3 C2 X2 A2
    obtain ⟨xc0, xc1, xc2, xc3, xc4, xlt⟩ := X3.out
    go_wp2_with fail
    have Xb2 := hide (X3.out.alloc (.cells #[.int .i64 kb, .string tb, .slice none 0 0, .slice none 0 0, .slice none 0 0] 26))
    have Ab2 := hide (A3.out.alloc (.cells #[.int .i64 kb, .string tb, .slice none 0 0, .slice none 0 0, .slice none 0 0] 26))
    have Bb2 := hide (BoxAt.new w3 (.int .i64 kb) (.string tb) (.slice none 0 0) (.slice none 0 0) (.slice none 0 0) 26)
    have Cb2 := C3.alloc C3.size (.cells #[.int .i64 kb, .string tb, .slice none 0 0, .slice none 0 0, .slice none 0 0] 26)
    refine (HR.out _ Cb2).mono ?_
    rintro e w4 ⟨rfl, hb4⟩
    have C4 : Below w.heap.size w w4 := Cb2.trans (hb4.mono Cb2.size)
    have X4 := hide (Xb2.out.below hb4)
    have A4 := hide (Ab2.out.below hb4)
    have B4 := hide (Bb2.out.below hb4)
    clear xc0 xc1 xc2 xc3 xc4 xlt
    clear hb4 Cb2 Xb2 Ab2 Bb2
    obtain ⟨xc0, xc1, xc2, xc3, xc4, xlt⟩ := X4.out
    go_wp2_with fail
    refine (HAO.out _ C4).mono ?_
    rintro e w5 ⟨rfl, hb5⟩
    have C5 : Below w.heap.size w w5 := C4.trans (hb5.mono C4.size)
    have X5 := hide (X4.out.below hb5)
    have A5 := hide (A4.out.below hb5)
    have B5 := hide (B4.out.below hb5)
    clear xc0 xc1 xc2 xc3 xc4 xlt
    clear hb5 C4 X4 A4 B4
    obtain ⟨xc0, xc1, xc2, xc3, xc4, xlt⟩ := X5.out
    go_wp2_with fail
    have Xb3 := hide (X5.out.alloc (.cells #[.int .i64 ka, .string ta, .slice none 0 0, .slice none 0 0, .slice none 0 0] 26))
    have Ab3 := hide (A5.out.alloc (.cells #[.int .i64 ka, .string ta, .slice none 0 0, .slice none 0 0, .slice none 0 0] 26))
    have Bb3 := hide (B5.out.alloc (.cells #[.int .i64 ka, .string ta, .slice none 0 0, .slice none 0 0, .slice none 0 0] 26))
    have Yb3 := hide (BoxAt.new w5 (.int .i64 ka) (.string ta) (.slice none 0 0) (.slice none 0 0) (.slice none 0 0) 26)
    have Cb3 := C5.alloc C5.size (.cells #[.int .i64 ka, .string ta, .slice none 0 0, .slice none 0 0, .slice none 0 0] 26)
    refine (HDO.out _ Cb3).mono ?_
    rintro e w6 ⟨rfl, hb6⟩
    have C6 : Below w.heap.size w w6 := Cb3.trans (hb6.mono Cb3.size)
    have X6 := hide (Xb3.out.below hb6)
    have A6 := hide (Ab3.out.below hb6)
    have B6 := hide (Bb3.out.below hb6)
    have Y6 := hide (Yb3.out.below hb6)
    clear xc0 xc1 xc2 xc3 xc4 xlt
    clear hb6 Cb3 Xb3 Ab3 Bb3 Yb3
    obtain ⟨xc0, xc1, xc2, xc3, xc4, xlt⟩ := X6.out
    go_wp2_with fail
    have Xb4 := hide (X6.out.alloc (.cells #[.int .i64 kb, .string tb, .slice none 0 0, .slice none 0 0, .slice none 0 0] 26))
    have Ab4 := hide (A6.out.alloc (.cells #[.int .i64 kb, .string tb, .slice none 0 0, .slice none 0 0, .slice none 0 0] 26))
    have Bb4 := hide (B6.out.alloc (.cells #[.int .i64 kb, .string tb, .slice none 0 0, .slice none 0 0, .slice none 0 0] 26))
    have Yb4 := hide (Y6.out.alloc (.cells #[.int .i64 kb, .string tb, .slice none 0 0, .slice none 0 0, .slice none 0 0] 26))
    have Zb4 := hide (BoxAt.new w6 (.int .i64 kb) (.string tb) (.slice none 0 0) (.slice none 0 0) (.slice none 0 0) 26)
    have Cb4 := C6.alloc C6.size (.cells #[.int .i64 kb, .string tb, .slice none 0 0, .slice none 0 0, .slice none 0 0] 26)
    refine (HC.out _ Cb4).mono ?_
    rintro e w7 ⟨rfl, hb7⟩
    have C7 : Below w.heap.size w w7 := Cb4.trans (hb7.mono Cb4.size)
    have X7 := hide (Xb4.out.below hb7)
    have A7 := hide (Ab4.out.below hb7)
    have B7 := hide (Bb4.out.below hb7)
    have Y7 := hide (Yb4.out.below hb7)
    have Z7 := hide (Zb4.out.below hb7)
    clear xc0 xc1 xc2 xc3 xc4 xlt
    clear hb7 Cb4 Xb4 Ab4 Bb4 Yb4 Zb4
    obtain ⟨xc0, xc1, xc2, xc3, xc4, xlt⟩ := X7.out
    obtain ⟨ac0, ac1, ac2, ac3, ac4, alt⟩ := A7.out
    obtain ⟨bc0, bc1, bc2, bc3, bc4, blt⟩ := B7.out
    obtain ⟨yc0, yc1, yc2, yc3, yc4, ylt⟩ := Y7.out
    obtain ⟨zc0, zc1, zc2, zc3, zc4, zlt⟩ := Z7.out
    go_wp2_with fail
    refine (HG.out _ C7).mono ?_
    rintro e w8 ⟨rfl, hb8⟩
    have C8 : Below w.heap.size w w8 := C7.trans (hb8.mono C7.size)
    have X8 := hide (X7.out.below hb8)
    have A8 := hide (A7.out.below hb8)
    have B8 := hide (B7.out.below hb8)
    have Y8 := hide (Y7.out.below hb8)
    have Z8 := hide (Z7.out.below hb8)
    clear xc0 xc1 xc2 xc3 xc4 xlt ac0 ac1 ac2 ac3 ac4 alt bc0 bc1 bc2 bc3 bc4 blt yc0 yc1 yc2 yc3 yc4 ylt zc0 zc1 zc2 zc3 zc4 zlt
    clear hb8 C7 X7 A7 B7 Y7 Z7
    obtain ⟨ac0, ac1, ac2, ac3, ac4, alt⟩ := A8.out
    obtain ⟨yc0, yc1, yc2, yc3, yc4, ylt⟩ := Y8.out
    go_wp2_with fail
    refine (HI1.out _).mono ?_
    rintro e w9 ⟨rfl, hb9⟩
    have C9 : Below w.heap.size w w9 := C8.trans (hb9.mono C8.size)
    have X9 := hide (X8.out.below hb9)
    have A9 := hide (A8.out.below hb9)
    have B9 := hide (B8.out.below hb9)
    have Y9 := hide (Y8.out.below hb9)
    have Z9 := hide (Z8.out.below hb9)
    clear ac0 ac1 ac2 ac3 ac4 alt yc0 yc1 yc2 yc3 yc4 ylt
    clear hb9 C8 X8 A8 B8 Y8 Z8
    obtain ⟨bc0, bc1, bc2, bc3, bc4, blt⟩ := B9.out
    obtain ⟨zc0, zc1, zc2, zc3, zc4, zlt⟩ := Z9.out
    go_wp2_with fail
    refine (HI2.out _).mono ?_
    rintro e w10 ⟨rfl, hb10⟩
    have C10 : Below w.heap.size w w10 := C9.trans (hb10.mono C9.size)
    have X10 := hide (X9.out.below hb10)
    have A10 := hide (A9.out.below hb10)
    have B10 := hide (B9.out.below hb10)
    have Y10 := hide (Y9.out.below hb10)
    have Z10 := hide (Z9.out.below hb10)
    clear bc0 bc1 bc2 bc3 bc4 blt zc0 zc1 zc2 zc3 zc4 zlt
    clear hb10 C9 X9 A9 B9 Y9 Z9
    go_wp2_with fail
    go_ret
    exact ⟨rfl, C10⟩
end Go.Proofs.YtolpmaapdkhigabDoor
