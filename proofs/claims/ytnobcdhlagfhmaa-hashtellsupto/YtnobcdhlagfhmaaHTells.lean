/- WALK of HashTells. -/
import Derived.Test.YtnobcdhlagfhmaaHBeg
import Derived.Test.YtnobcdhlagfhmaaRHs3
import Derived.Handy
namespace Go.Proofs.Ytnobcdhlagfhmaa
open Go.RowKit

theorem put_zero {x : Itm} {l : List Pr} (h : putE x l ≠ 0) : putI x l = Itm.none ∧ putN x l = 0 := by
  rw [putI, putN, if_neg h, if_neg h]
  exact ⟨rfl, rfl⟩
theorem drop_zero {x : Itm} {l : List ByteArray} (h : asI x 4 ≠ 0) : dropI x l = Itm.none ∧ dropN x l = 0 := by
  rw [dropI, dropN, if_neg h, if_neg h]
  exact ⟨rfl, rfl⟩
set_option maxRecDepth 100000 in
set_option maxHeartbeats 8000000 in
theorem hashTells_walk (v : Value) (x : Itm) (al : Option Addr) (cl : Nat) (l : List Pr) (bl : Option Addr) (cm : Nat) (m : List ByteArray) (f : ByteArray) (w : World) (h : ItemIs w v x) (hl : PairsAt w al l) (hlz : ∀ t ∈ l, t.1.size ≤ maxLen ∧ t.2.size ≤ maxLen) (hll : l.length ≤ 1400000) (hm : TextsAt w bl m) (hml : m.length ≤ 281474976710656) :
    Calls Try.prog 3 #[v, .slice al l.length cl, .slice bl m.length cm, .string f] w fun e w' => e = .returned (.bool true) ∧ Below w.heap.size w w' := by
  have HI := hide h
  have HL := hide hl
  have HM := hide hm
  have HLZ := hide hlz
  obtain ⟨⟨a1, c1, a2, c2, a3, c3, rfl, -, -, -⟩, -, -, -, -, -, -, -⟩ := h
  clear hl hlz hm
  have HG := hide hashBegun_any
  have HP : Hid (∀ W, Below w.heap.size w W → Calls Try.prog 6 #[.agg #[.int .i64 x.k, .string x.t, .slice a1 x.l.length c1, .slice a2 x.p.length c2, .slice a3 x.s.length c3], .slice al l.length cl] W fun e w' => ∃ u, (e = .returned (.tuple #[u, .int .i64 (putN x l), .int .i64 (putE x l)]) ∧ ItemIs w' u (putI x l)) ∧ Below W.heap.size W w') := fun W hW => (hashPut_any _ x al cl l W (HI.out.below hW) (HL.out.below hW) HLZ.out hll).mono fun e w' ⟨u, h1, h2, h3⟩ => ⟨u, ⟨h1, h2.is⟩, h3⟩
  have HX : Hid (∀ W, Below w.heap.size w W → Calls Try.prog 7 #[.agg #[.int .i64 x.k, .string x.t, .slice a1 x.l.length c1, .slice a2 x.p.length c2, .slice a3 x.s.length c3], .string f] W fun e w' => e = .returned (.tuple #[.string (getS x f), .int .i64 (getE x f)]) ∧ Below W.heap.size W w') := fun W hW => hashGet_any _ x f W (HI.out.below hW)
  have HD : Hid (∀ W, Below w.heap.size w W → Calls Try.prog 8 #[.agg #[.int .i64 x.k, .string x.t, .slice a1 x.l.length c1, .slice a2 x.p.length c2, .slice a3 x.s.length c3], .slice bl m.length cm] W fun e w' => ∃ u, (e = .returned (.tuple #[u, .int .i64 (dropN x m), .int .i64 (asI x 4)]) ∧ ItemIs w' u (dropI x m)) ∧ Below W.heap.size W w') := fun W hW => (hashDrop_any _ x bl cm m W (HI.out.below hW) (HM.out.below hW) hml).mono fun e w' ⟨u, h1, h2, h3⟩ => ⟨u, ⟨h1, h2.is⟩, h3⟩
  have HPO : Hid (∀ W, Below w.heap.size w W → Calls Try.prog 9 #[.agg #[.int .i64 x.k, .string x.t, .slice a1 x.l.length c1, .slice a2 x.p.length c2, .slice a3 x.s.length c3], .slice al l.length cl] W fun e w' => ∃ u, (e = .returned (.tuple #[u, .int .i64 (putN x l), .int .i64 (putE x l)]) ∧ ItemIs w' u (putI x l)) ∧ Below W.heap.size W w') := fun W hW => (putPairs_any _ x al cl l W (HI.out.below hW) (HL.out.below hW) hll HLZ.out).mono fun e w' ⟨u, h1, h2, h3⟩ => ⟨u, ⟨h1, h2.is⟩, h3⟩
  have HXO : Hid (∀ W, Below w.heap.size w W → Calls Try.prog 10 #[.agg #[.int .i64 x.k, .string x.t, .slice a1 x.l.length c1, .slice a2 x.p.length c2, .slice a3 x.s.length c3], .string f] W fun e w' => e = .returned (.tuple #[.string (getS x f), .int .i64 (getE x f)]) ∧ Below W.heap.size W w') := fun W hW => fieldOf_any _ x f W (HI.out.below hW)
  have HDO : Hid (∀ W, Below w.heap.size w W → Calls Try.prog 11 #[.agg #[.int .i64 x.k, .string x.t, .slice a1 x.l.length c1, .slice a2 x.p.length c2, .slice a3 x.s.length c3], .slice bl m.length cm] W fun e w' => ∃ u, (e = .returned (.tuple #[u, .int .i64 (dropN x m), .int .i64 (asI x 4)]) ∧ ItemIs w' u (dropI x m)) ∧ Below W.heap.size W w') := fun W hW => (dropPairs_any _ x bl cm m W (HI.out.below hW) (HM.out.below hW) hml).mono fun e w' ⟨u, h1, h2, h3⟩ => ⟨u, ⟨h1, h2.is⟩, h3⟩
  have HIA : Hid (∀ v u W, ItemIs W v (putI x l) → ItemIs W u (putI x l) → Calls Try.prog 13 #[v, .int .i64 (putN x l), .int .i64 (putE x l), .int .i64 (putE x l), u, .int .i64 (putN x l)] W fun e w' => e = .returned (.bool true) ∧ Below W.heap.size W w') := fun v u W h1 h2 => itemIs_any v u _ _ _ W h1 h2 put_zero
  have HIB : Hid (∀ v u W, ItemIs W v (dropI x m) → ItemIs W u (dropI x m) → Calls Try.prog 13 #[v, .int .i64 (dropN x m), .int .i64 (asI x 4), .int .i64 (asI x 4), u, .int .i64 (dropN x m)] W fun e w' => e = .returned (.bool true) ∧ Below W.heap.size W w') := fun v u W h1 h2 => itemIs_any v u _ _ _ W h1 h2 drop_zero
  clear HI HL HM HLZ
  generalize putI x l = IA at *
  generalize putN x l = nA at *
  generalize putE x l = eA at *
  generalize getS x f = sX at *
  generalize getE x f = eX at *
  generalize dropI x m = IB at *
  generalize dropN x m = nB at *
  generalize asI x 4 = eB at *
  generalize x.k = k at *
  generalize x.t = t at *
  generalize x.l.length = n1 at *
  generalize x.p.length = n2 at *
  generalize x.s.length = n3 at *
  go_enter Try.func3, Try.ntmps3
  go_wp2_with fail
  have C_0 : Below w.heap.size w (w.alloc (.cells #[.int .i64 k, .string t, .slice a1 n1 c1, .slice a2 n2 c2, .slice a3 n3 c3] 26)) := (Below.refl _ w).alloc (Nat.le_refl _) _
  have X_1 := hide (BoxAt.new w (.int .i64 k) (.string t) (.slice a1 n1 c1) (.slice a2 n2 c2) (.slice a3 n3 c3) 26)
  refine (HP.out _ C_0).mono ?_
  rintro e w1 ⟨uA, ⟨rfl, iA⟩, hb1⟩
  have C_2 : Below w.heap.size w w1 := C_0.trans (hb1.mono C_0.size)
  clear C_0
  have X_3 := hide (X_1.out.below hb1)
  clear X_1
  clear hb1
  obtain ⟨kA, tA, aA1, nA1, cA1, aA2, nA2, cA2, aA3, nA3, cA3, rfl⟩ := iA.shapeH
  have IA_4 := hide (iA)
  clear iA
  obtain ⟨xc0, xc1, xc2, xc3, xc4, xlt⟩ := X_3.out
  go_wp2_with fail
  have X_5 := hide (X_3.out.below ((Below.refl _ w1).alloc (Nat.le_refl _) (.cells #[.int .i64 kA, .string tA, .slice aA1 nA1 cA1, .slice aA2 nA2 cA2, .slice aA3 nA3 cA3] 26)))
  clear X_3
  have IA_6 := hide (IA_4.out.below ((Below.refl _ w1).alloc (Nat.le_refl _) (.cells #[.int .i64 kA, .string tA, .slice aA1 nA1 cA1, .slice aA2 nA2 cA2, .slice aA3 nA3 cA3] 26)))
  clear IA_4
  have C_7 : Below w.heap.size w (w1.alloc (.cells #[.int .i64 kA, .string tA, .slice aA1 nA1 cA1, .slice aA2 nA2 cA2, .slice aA3 nA3 cA3] 26)) := C_2.alloc C_2.size (.cells #[.int .i64 kA, .string tA, .slice aA1 nA1 cA1, .slice aA2 nA2 cA2, .slice aA3 nA3 cA3] 26)
  clear C_2
  have A_8 := hide (BoxAt.new w1 (.int .i64 kA) (.string tA) (.slice aA1 nA1 cA1) (.slice aA2 nA2 cA2) (.slice aA3 nA3 cA3) 26)
  refine (HX.out _ C_7).mono ?_
  rintro e w2 ⟨rfl, hb2⟩
  clear xc0 xc1 xc2 xc3 xc4 xlt
  have C_9 : Below w.heap.size w w2 := C_7.trans (hb2.mono C_7.size)
  clear C_7
  have X_10 := hide (X_5.out.below hb2)
  have IA_10 := hide (IA_6.out.below hb2)
  have A_10 := hide (A_8.out.below hb2)
  clear X_5 IA_6 A_8
  clear hb2
  obtain ⟨xc0, xc1, xc2, xc3, xc4, xlt⟩ := X_10.out
  go_wp2_with fail
  refine (HD.out _ C_9).mono ?_
  rintro e w3 ⟨uB, ⟨rfl, iB⟩, hb3⟩
  clear xc0 xc1 xc2 xc3 xc4 xlt
  have C_11 : Below w.heap.size w w3 := C_9.trans (hb3.mono C_9.size)
  clear C_9
  have X_12 := hide (X_10.out.below hb3)
  have IA_12 := hide (IA_10.out.below hb3)
  have A_12 := hide (A_10.out.below hb3)
  clear X_10 IA_10 A_10
  clear hb3
  obtain ⟨kB, tB, aB1, nB1, cB1, aB2, nB2, cB2, aB3, nB3, cB3, rfl⟩ := iB.shapeH
  have IB_13 := hide (iB)
  clear iB
  obtain ⟨xc0, xc1, xc2, xc3, xc4, xlt⟩ := X_12.out
  go_wp2_with fail
  have X_14 := hide (X_12.out.below ((Below.refl _ w3).alloc (Nat.le_refl _) (.cells #[.int .i64 kB, .string tB, .slice aB1 nB1 cB1, .slice aB2 nB2 cB2, .slice aB3 nB3 cB3] 26)))
  clear X_12
  have IA_15 := hide (IA_12.out.below ((Below.refl _ w3).alloc (Nat.le_refl _) (.cells #[.int .i64 kB, .string tB, .slice aB1 nB1 cB1, .slice aB2 nB2 cB2, .slice aB3 nB3 cB3] 26)))
  clear IA_12
  have A_16 := hide (A_12.out.below ((Below.refl _ w3).alloc (Nat.le_refl _) (.cells #[.int .i64 kB, .string tB, .slice aB1 nB1 cB1, .slice aB2 nB2 cB2, .slice aB3 nB3 cB3] 26)))
  clear A_12
  have IB_17 := hide (IB_13.out.below ((Below.refl _ w3).alloc (Nat.le_refl _) (.cells #[.int .i64 kB, .string tB, .slice aB1 nB1 cB1, .slice aB2 nB2 cB2, .slice aB3 nB3 cB3] 26)))
  clear IB_13
  have C_18 : Below w.heap.size w (w3.alloc (.cells #[.int .i64 kB, .string tB, .slice aB1 nB1 cB1, .slice aB2 nB2 cB2, .slice aB3 nB3 cB3] 26)) := C_11.alloc C_11.size (.cells #[.int .i64 kB, .string tB, .slice aB1 nB1 cB1, .slice aB2 nB2 cB2, .slice aB3 nB3 cB3] 26)
  clear C_11
  have B_19 := hide (BoxAt.new w3 (.int .i64 kB) (.string tB) (.slice aB1 nB1 cB1) (.slice aB2 nB2 cB2) (.slice aB3 nB3 cB3) 26)
  refine (HPO.out _ C_18).mono ?_
  rintro e w4 ⟨uY, ⟨rfl, iY⟩, hb4⟩
  clear xc0 xc1 xc2 xc3 xc4 xlt
  have C_20 : Below w.heap.size w w4 := C_18.trans (hb4.mono C_18.size)
  clear C_18
  have X_21 := hide (X_14.out.below hb4)
  have IA_21 := hide (IA_15.out.below hb4)
  have A_21 := hide (A_16.out.below hb4)
  have IB_21 := hide (IB_17.out.below hb4)
  have B_21 := hide (B_19.out.below hb4)
  clear X_14 IA_15 A_16 IB_17 B_19
  clear hb4
  obtain ⟨kY, tY, aY1, nY1, cY1, aY2, nY2, cY2, aY3, nY3, cY3, rfl⟩ := iY.shapeH
  have IY_22 := hide (iY)
  clear iY
  obtain ⟨xc0, xc1, xc2, xc3, xc4, xlt⟩ := X_21.out
  go_wp2_with fail
  have X_23 := hide (X_21.out.below ((Below.refl _ w4).alloc (Nat.le_refl _) (.cells #[.int .i64 kY, .string tY, .slice aY1 nY1 cY1, .slice aY2 nY2 cY2, .slice aY3 nY3 cY3] 26)))
  clear X_21
  have IA_24 := hide (IA_21.out.below ((Below.refl _ w4).alloc (Nat.le_refl _) (.cells #[.int .i64 kY, .string tY, .slice aY1 nY1 cY1, .slice aY2 nY2 cY2, .slice aY3 nY3 cY3] 26)))
  clear IA_21
  have A_25 := hide (A_21.out.below ((Below.refl _ w4).alloc (Nat.le_refl _) (.cells #[.int .i64 kY, .string tY, .slice aY1 nY1 cY1, .slice aY2 nY2 cY2, .slice aY3 nY3 cY3] 26)))
  clear A_21
  have IB_26 := hide (IB_21.out.below ((Below.refl _ w4).alloc (Nat.le_refl _) (.cells #[.int .i64 kY, .string tY, .slice aY1 nY1 cY1, .slice aY2 nY2 cY2, .slice aY3 nY3 cY3] 26)))
  clear IB_21
  have B_27 := hide (B_21.out.below ((Below.refl _ w4).alloc (Nat.le_refl _) (.cells #[.int .i64 kY, .string tY, .slice aY1 nY1 cY1, .slice aY2 nY2 cY2, .slice aY3 nY3 cY3] 26)))
  clear B_21
  have IY_28 := hide (IY_22.out.below ((Below.refl _ w4).alloc (Nat.le_refl _) (.cells #[.int .i64 kY, .string tY, .slice aY1 nY1 cY1, .slice aY2 nY2 cY2, .slice aY3 nY3 cY3] 26)))
  clear IY_22
  have C_29 : Below w.heap.size w (w4.alloc (.cells #[.int .i64 kY, .string tY, .slice aY1 nY1 cY1, .slice aY2 nY2 cY2, .slice aY3 nY3 cY3] 26)) := C_20.alloc C_20.size (.cells #[.int .i64 kY, .string tY, .slice aY1 nY1 cY1, .slice aY2 nY2 cY2, .slice aY3 nY3 cY3] 26)
  clear C_20
  have Y_30 := hide (BoxAt.new w4 (.int .i64 kY) (.string tY) (.slice aY1 nY1 cY1) (.slice aY2 nY2 cY2) (.slice aY3 nY3 cY3) 26)
  refine (HXO.out _ C_29).mono ?_
  rintro e w5 ⟨rfl, hb5⟩
  clear xc0 xc1 xc2 xc3 xc4 xlt
  have C_31 : Below w.heap.size w w5 := C_29.trans (hb5.mono C_29.size)
  clear C_29
  have X_32 := hide (X_23.out.below hb5)
  have IA_32 := hide (IA_24.out.below hb5)
  have A_32 := hide (A_25.out.below hb5)
  have IB_32 := hide (IB_26.out.below hb5)
  have B_32 := hide (B_27.out.below hb5)
  have IY_32 := hide (IY_28.out.below hb5)
  have Y_32 := hide (Y_30.out.below hb5)
  clear X_23 IA_24 A_25 IB_26 B_27 IY_28 Y_30
  clear hb5
  obtain ⟨xc0, xc1, xc2, xc3, xc4, xlt⟩ := X_32.out
  go_wp2_with fail
  refine (HDO.out _ C_31).mono ?_
  rintro e w6 ⟨uZ, ⟨rfl, iZ⟩, hb6⟩
  clear xc0 xc1 xc2 xc3 xc4 xlt
  have C_33 : Below w.heap.size w w6 := C_31.trans (hb6.mono C_31.size)
  clear C_31
  have X_34 := hide (X_32.out.below hb6)
  have IA_34 := hide (IA_32.out.below hb6)
  have A_34 := hide (A_32.out.below hb6)
  have IB_34 := hide (IB_32.out.below hb6)
  have B_34 := hide (B_32.out.below hb6)
  have IY_34 := hide (IY_32.out.below hb6)
  have Y_34 := hide (Y_32.out.below hb6)
  clear X_32 IA_32 A_32 IB_32 B_32 IY_32 Y_32
  clear hb6
  obtain ⟨kZ, tZ, aZ1, nZ1, cZ1, aZ2, nZ2, cZ2, aZ3, nZ3, cZ3, rfl⟩ := iZ.shapeH
  have IZ_35 := hide (iZ)
  clear iZ
  go_wp2_with fail
  have X_36 := hide (X_34.out.below ((Below.refl _ w6).alloc (Nat.le_refl _) (.cells #[.int .i64 kZ, .string tZ, .slice aZ1 nZ1 cZ1, .slice aZ2 nZ2 cZ2, .slice aZ3 nZ3 cZ3] 26)))
  clear X_34
  have IA_37 := hide (IA_34.out.below ((Below.refl _ w6).alloc (Nat.le_refl _) (.cells #[.int .i64 kZ, .string tZ, .slice aZ1 nZ1 cZ1, .slice aZ2 nZ2 cZ2, .slice aZ3 nZ3 cZ3] 26)))
  clear IA_34
  have A_38 := hide (A_34.out.below ((Below.refl _ w6).alloc (Nat.le_refl _) (.cells #[.int .i64 kZ, .string tZ, .slice aZ1 nZ1 cZ1, .slice aZ2 nZ2 cZ2, .slice aZ3 nZ3 cZ3] 26)))
  clear A_34
  have IB_39 := hide (IB_34.out.below ((Below.refl _ w6).alloc (Nat.le_refl _) (.cells #[.int .i64 kZ, .string tZ, .slice aZ1 nZ1 cZ1, .slice aZ2 nZ2 cZ2, .slice aZ3 nZ3 cZ3] 26)))
  clear IB_34
  have B_40 := hide (B_34.out.below ((Below.refl _ w6).alloc (Nat.le_refl _) (.cells #[.int .i64 kZ, .string tZ, .slice aZ1 nZ1 cZ1, .slice aZ2 nZ2 cZ2, .slice aZ3 nZ3 cZ3] 26)))
  clear B_34
  have IY_41 := hide (IY_34.out.below ((Below.refl _ w6).alloc (Nat.le_refl _) (.cells #[.int .i64 kZ, .string tZ, .slice aZ1 nZ1 cZ1, .slice aZ2 nZ2 cZ2, .slice aZ3 nZ3 cZ3] 26)))
  clear IY_34
  have Y_42 := hide (Y_34.out.below ((Below.refl _ w6).alloc (Nat.le_refl _) (.cells #[.int .i64 kZ, .string tZ, .slice aZ1 nZ1 cZ1, .slice aZ2 nZ2 cZ2, .slice aZ3 nZ3 cZ3] 26)))
  clear Y_34
  have IZ_43 := hide (IZ_35.out.below ((Below.refl _ w6).alloc (Nat.le_refl _) (.cells #[.int .i64 kZ, .string tZ, .slice aZ1 nZ1 cZ1, .slice aZ2 nZ2 cZ2, .slice aZ3 nZ3 cZ3] 26)))
  clear IZ_35
  have C_44 : Below w.heap.size w (w6.alloc (.cells #[.int .i64 kZ, .string tZ, .slice aZ1 nZ1 cZ1, .slice aZ2 nZ2 cZ2, .slice aZ3 nZ3 cZ3] 26)) := C_33.alloc C_33.size (.cells #[.int .i64 kZ, .string tZ, .slice aZ1 nZ1 cZ1, .slice aZ2 nZ2 cZ2, .slice aZ3 nZ3 cZ3] 26)
  clear C_33
  have Z_45 := hide (BoxAt.new w6 (.int .i64 kZ) (.string tZ) (.slice aZ1 nZ1 cZ1) (.slice aZ2 nZ2 cZ2) (.slice aZ3 nZ3 cZ3) 26)
  refine (HG.out _).mono ?_
  rintro e w7 ⟨rfl, hb7⟩
  have C_46 : Below w.heap.size w w7 := C_44.trans (hb7.mono C_44.size)
  clear C_44
  have X_47 := hide (X_36.out.below hb7)
  have IA_47 := hide (IA_37.out.below hb7)
  have A_47 := hide (A_38.out.below hb7)
  have IB_47 := hide (IB_39.out.below hb7)
  have B_47 := hide (B_40.out.below hb7)
  have IY_47 := hide (IY_41.out.below hb7)
  have Y_47 := hide (Y_42.out.below hb7)
  have IZ_47 := hide (IZ_43.out.below hb7)
  have Z_47 := hide (Z_45.out.below hb7)
  clear X_36 IA_37 A_38 IB_39 B_40 IY_41 Y_42 IZ_43 Z_45
  clear hb7
  obtain ⟨ac0, ac1, ac2, ac3, ac4, alt⟩ := A_47.out
  obtain ⟨yc0, yc1, yc2, yc3, yc4, ylt⟩ := Y_47.out
  go_wp2_with fail
  refine (HIA.out _ _ _ IA_47.out IY_47.out).mono ?_
  rintro e w8 ⟨rfl, hb8⟩
  clear ac0 ac1 ac2 ac3 ac4 alt yc0 yc1 yc2 yc3 yc4 ylt
  have C_48 : Below w.heap.size w w8 := C_46.trans (hb8.mono C_46.size)
  clear C_46
  have X_49 := hide (X_47.out.below hb8)
  have IA_49 := hide (IA_47.out.below hb8)
  have A_49 := hide (A_47.out.below hb8)
  have IB_49 := hide (IB_47.out.below hb8)
  have B_49 := hide (B_47.out.below hb8)
  have IY_49 := hide (IY_47.out.below hb8)
  have Y_49 := hide (Y_47.out.below hb8)
  have IZ_49 := hide (IZ_47.out.below hb8)
  have Z_49 := hide (Z_47.out.below hb8)
  clear X_47 IA_47 A_47 IB_47 B_47 IY_47 Y_47 IZ_47 Z_47
  clear hb8
  obtain ⟨bc0, bc1, bc2, bc3, bc4, blt⟩ := B_49.out
  obtain ⟨zc0, zc1, zc2, zc3, zc4, zlt⟩ := Z_49.out
  go_wp2_with fail
  refine (HIB.out _ _ _ IB_49.out IZ_49.out).mono ?_
  rintro e w9 ⟨rfl, hb9⟩
  clear bc0 bc1 bc2 bc3 bc4 blt zc0 zc1 zc2 zc3 zc4 zlt
  have C_50 : Below w.heap.size w w9 := C_48.trans (hb9.mono C_48.size)
  clear C_48
  have X_51 := hide (X_49.out.below hb9)
  have IA_51 := hide (IA_49.out.below hb9)
  have A_51 := hide (A_49.out.below hb9)
  have IB_51 := hide (IB_49.out.below hb9)
  have B_51 := hide (B_49.out.below hb9)
  have IY_51 := hide (IY_49.out.below hb9)
  have Y_51 := hide (Y_49.out.below hb9)
  have IZ_51 := hide (IZ_49.out.below hb9)
  have Z_51 := hide (Z_49.out.below hb9)
  clear X_49 IA_49 A_49 IB_49 B_49 IY_49 Y_49 IZ_49 Z_49
  clear hb9
  go_wp2_with fail
  go_ret
  exact ⟨rfl, C_50⟩
end Go.Proofs.Ytnobcdhlagfhmaa
