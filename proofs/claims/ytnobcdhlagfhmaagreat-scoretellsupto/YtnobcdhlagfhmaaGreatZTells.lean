/- WALK of ScoreTells. -/
import Derived.Test.YtnobcdhlagfhmaaGreatZRh
import Derived.Test.YtnobcdhlagfhmaaGreatZRh3
import Derived.Deep.RegionHeld3
import Derived.Handy
namespace Go.Proofs.YtnobcdhlagfhmaaGreat.Z
open Go.RowKit

theorem put_zero {x : Itm} {l : List Sc} (h : putE x l ≠ 0) : putI x l = Itm.none ∧ putN x l = 0 := by
  rw [putI, putN, if_neg h, if_neg h]
  exact ⟨rfl, rfl⟩
theorem drop_zero {x : Itm} {l : List ByteArray} (h : asI x 5 ≠ 0) : dropI x l = Itm.none ∧ dropN x l = 0 := by
  rw [dropI, dropN, if_neg h, if_neg h]
  exact ⟨rfl, rfl⟩
set_option maxRecDepth 100000 in
set_option maxHeartbeats 16000000 in
theorem scoreTells_walk (v : Value) (x : Itm) (al : Option Addr) (cl : Nat) (l : List Sc) (bl : Option Addr) (cm : Nat) (m : List ByteArray) (f : ByteArray) (from_ to_ : Int) (w : World) (h : ItemIs w v x) (hl : ScoresAt w al l) (hll : l.length ≤ 1400000) (hm : TextsAt w bl m) (hml : m.length ≤ 281474976710656) (hxl : x.s.length ≤ 9223372036854775807) (hf1 : -9223372036854775808 ≤ from_) (hf2 : from_ ≤ 9223372036854775807) (ht1 : -9223372036854775808 ≤ to_) (ht2 : to_ ≤ 9223372036854775807) :
    Calls Tryz.prog 3 #[v, .slice al l.length cl, .slice bl m.length cm, .string f, .int .i64 from_, .int .i64 to_] w fun e w' => e = .returned (.bool true) ∧ Below w.heap.size w w' := by
  have HI := hide h
  have HL := hide hl
  have HM := hide hm
  obtain ⟨⟨a1, c1, a2, c2, a3, c3, rfl, -, -, hx3⟩, -, -, -, -, -, -, -⟩ := h
  have HX3 := hide hx3
  clear hl hm hx3
  have HG := hide scoreBegun_any
  have HP : Hid (∀ W, Below w.heap.size w W → Calls Tryz.prog 4 #[.agg #[.int .i64 x.k, .string x.t, .slice a1 x.l.length c1, .slice a2 x.p.length c2, .slice a3 x.s.length c3], .slice al l.length cl] W fun e w' => ∃ u, (e = .returned (.tuple #[u, .int .i64 (putN x l), .int .i64 (putE x l)]) ∧ ItemIs w' u (putI x l)) ∧ Below W.heap.size W w') := fun W hW => (scorePut_any _ x al cl l W (HI.out.below hW) (HL.out.below hW) hll).mono fun e w' ⟨u, h1, h2, h3⟩ => ⟨u, ⟨h1, h2.is⟩, h3⟩
  have HD : Hid (∀ W, Below w.heap.size w W → Calls Tryz.prog 5 #[.agg #[.int .i64 x.k, .string x.t, .slice a1 x.l.length c1, .slice a2 x.p.length c2, .slice a3 x.s.length c3], .slice bl m.length cm] W fun e w' => ∃ u, (e = .returned (.tuple #[u, .int .i64 (dropN x m), .int .i64 (asI x 5)]) ∧ ItemIs w' u (dropI x m)) ∧ Below W.heap.size W w') := fun W hW => (scoreDrop_any _ x bl cm m W (HI.out.below hW) (HM.out.below hW) hml).mono fun e w' ⟨u, h1, h2, h3⟩ => ⟨u, ⟨h1, h2.is⟩, h3⟩
  have HN : Hid (∀ W, Below w.heap.size w W → Calls Tryz.prog 6 #[.agg #[.int .i64 x.k, .string x.t, .slice a1 x.l.length c1, .slice a2 x.p.length c2, .slice a3 x.s.length c3], .string f] W fun e w' => e = .returned (.tuple #[.int .i64 (numN x f), .int .i64 (rankE x f)]) ∧ Below W.heap.size W w') := fun W hW => number_any _ x f W (HI.out.below hW)
  have HK : Hid (∀ W, Below w.heap.size w W → Calls Tryz.prog 7 #[.agg #[.int .i64 x.k, .string x.t, .slice a1 x.l.length c1, .slice a2 x.p.length c2, .slice a3 x.s.length c3], .string f] W fun e w' => e = .returned (.tuple #[.int .i64 (rankN x f), .int .i64 (rankE x f)]) ∧ Below W.heap.size W w') := fun W hW => rank_any _ x f W (HI.out.below hW)
  have HR : Hid (∀ W, Below w.heap.size w W → Calls Tryz.prog 8 #[.agg #[.int .i64 x.k, .string x.t, .slice a1 x.l.length c1, .slice a2 x.p.length c2, .slice a3 x.s.length c3], .int .i64 from_, .int .i64 to_] W fun e w' => (∃ a c, e = .returned (.tuple #[.slice a (askS (byPlace x.s.length from_ to_) x).length c, .int .i64 (asI x 5)]) ∧ TextsAt w' a (askS (byPlace x.s.length from_ to_) x)) ∧ Below W.heap.size W w') := fun W hW => (scoreRange_any _ x from_ to_ W (HI.out.below hW) hxl hf1 ht1 hf2 ht2).mono fun e w' ⟨a, c, h1, h2, h3⟩ => ⟨⟨a, c, h1, h2⟩, h3⟩
  have HW : Hid (∀ W, Below w.heap.size w W → Calls Tryz.prog 9 #[.agg #[.int .i64 x.k, .string x.t, .slice a1 x.l.length c1, .slice a2 x.p.length c2, .slice a3 x.s.length c3], .int .i64 from_, .int .i64 to_] W fun e w' => (∃ a c, e = .returned (.tuple #[.slice a (askS (byNumber from_ to_) x).length c, .int .i64 (asI x 5)]) ∧ TextsAt w' a (askS (byNumber from_ to_) x)) ∧ Below W.heap.size W w') := fun W hW => (scoreWithin_any _ x from_ to_ W (HI.out.below hW)).mono fun e w' ⟨a, c, h1, h2, h3⟩ => ⟨⟨a, c, h1, h2⟩, h3⟩
  have HPO : Hid (∀ W, Below w.heap.size w W → Calls Tryz.prog 10 #[.agg #[.int .i64 x.k, .string x.t, .slice a1 x.l.length c1, .slice a2 x.p.length c2, .slice a3 x.s.length c3], .slice al l.length cl] W fun e w' => ∃ u, (e = .returned (.tuple #[u, .int .i64 (putN x l), .int .i64 (putE x l)]) ∧ ItemIs w' u (putI x l)) ∧ Below W.heap.size W w') := fun W hW => (putScores_any _ x al cl l W (HI.out.below hW) (HL.out.below hW) hll).mono fun e w' ⟨u, h1, h2, h3⟩ => ⟨u, ⟨h1, h2.is⟩, h3⟩
  have HDO : Hid (∀ W, Below w.heap.size w W → Calls Tryz.prog 11 #[.agg #[.int .i64 x.k, .string x.t, .slice a1 x.l.length c1, .slice a2 x.p.length c2, .slice a3 x.s.length c3], .slice bl m.length cm] W fun e w' => ∃ u, (e = .returned (.tuple #[u, .int .i64 (dropN x m), .int .i64 (asI x 5)]) ∧ ItemIs w' u (dropI x m)) ∧ Below W.heap.size W w') := fun W hW => (dropScores_any _ x bl cm m W (HI.out.below hW) (HM.out.below hW) hml).mono fun e w' ⟨u, h1, h2, h3⟩ => ⟨u, ⟨h1, h2.is⟩, h3⟩
  have HKO : Hid (∀ W, Below w.heap.size w W → Calls Tryz.prog 12 #[.agg #[.int .i64 x.k, .string x.t, .slice a1 x.l.length c1, .slice a2 x.p.length c2, .slice a3 x.s.length c3], .string f] W fun e w' => e = .returned (.tuple #[.int .i64 (rankN x f), .int .i64 (rankE x f)]) ∧ Below W.heap.size W w') := fun W hW => rankOf_any _ x f W (HI.out.below hW)
  have HRO : Hid (∀ W, Below w.heap.size w W → Calls Tryz.prog 13 #[.agg #[.int .i64 x.k, .string x.t, .slice a1 x.l.length c1, .slice a2 x.p.length c2, .slice a3 x.s.length c3], .int .i64 (clampN from_), .int .i64 (clampN to_)] W fun e w' => (∃ a c, e = .returned (.tuple #[.slice a (askS (byPlace x.s.length from_ to_) x).length c, .int .i64 (asI x 5)]) ∧ TextsAt w' a (askS (byPlace x.s.length from_ to_) x)) ∧ Below W.heap.size W w') := fun W hW => by
    have hh := rangeScores_any _ x (clampN from_) (clampN to_) W (HI.out.below hW) (clamp_bounds _).1 (clamp_bounds _).2 (clamp_bounds _).1 (clamp_bounds _).2
    rw [range_ask] at hh
    exact hh.mono fun e w' ⟨a, c, h1, h2, h3⟩ => ⟨⟨a, c, h1, h2⟩, h3⟩
  have HWO : Hid (∀ W, Below w.heap.size w W → Calls Tryz.prog 15 #[.agg #[.int .i64 x.k, .string x.t, .slice a1 x.l.length c1, .slice a2 x.p.length c2, .slice a3 x.s.length c3], .int .i64 from_, .int .i64 to_] W fun e w' => (∃ a c, e = .returned (.tuple #[.slice a (askS (byNumber from_ to_) x).length c, .int .i64 (asI x 5)]) ∧ TextsAt w' a (askS (byNumber from_ to_) x)) ∧ Below W.heap.size W w') := fun W hW => by
    have hh := withinScores_any _ x from_ to_ W (HI.out.below hW)
    rw [within_ask] at hh
    exact hh.mono fun e w' ⟨a, c, h1, h2, h3⟩ => ⟨⟨a, c, h1, h2⟩, h3⟩
  have HIA : Hid (∀ v u W, ItemIs W v (putI x l) → ItemIs W u (putI x l) → Calls Tryz.prog 17 #[v, .int .i64 (putN x l), .int .i64 (putE x l), .int .i64 (putE x l), u, .int .i64 (putN x l)] W fun e w' => e = .returned (.bool true) ∧ Below W.heap.size W w') := fun v u W h1 h2 => itemIs_any v u _ _ _ W h1 h2 put_zero
  have HIB : Hid (∀ v u W, ItemIs W v (dropI x m) → ItemIs W u (dropI x m) → Calls Tryz.prog 17 #[v, .int .i64 (dropN x m), .int .i64 (asI x 5), .int .i64 (asI x 5), u, .int .i64 (dropN x m)] W fun e w' => e = .returned (.bool true) ∧ Below W.heap.size W w') := fun v u W h1 h2 => itemIs_any v u _ _ _ W h1 h2 drop_zero
  have HSR : Hid (∀ a b c d W, TextsAt W a (askS (byPlace x.s.length from_ to_) x) → TextsAt W b (askS (byPlace x.s.length from_ to_) x) → Calls Tryz.prog 18 #[.slice a (askS (byPlace x.s.length from_ to_) x).length c, .slice b (askS (byPlace x.s.length from_ to_) x).length d] W fun e w' => e = .returned (.bool true) ∧ Below W.heap.size W w') := fun a b c d W h1 h2 => by
    have hh := sameT_any a b c d _ _ W h1 h2 (by have := askS_len (byPlace x.s.length from_ to_) x; omega)
    rw [decide_eq_true rfl] at hh
    exact hh
  have HSW : Hid (∀ a b c d W, TextsAt W a (askS (byNumber from_ to_) x) → TextsAt W b (askS (byNumber from_ to_) x) → Calls Tryz.prog 18 #[.slice a (askS (byNumber from_ to_) x).length c, .slice b (askS (byNumber from_ to_) x).length d] W fun e w' => e = .returned (.bool true) ∧ Below W.heap.size W w') := fun a b c d W h1 h2 => by
    have hh := sameT_any a b c d _ _ W h1 h2 (by have := askS_len (byNumber from_ to_) x; omega)
    rw [decide_eq_true rfl] at hh
    exact hh
  clear HI HL HM
  by_cases hE : rankE x f = 0
  · obtain ⟨i, hi, -, -, h1, h2⟩ := rank_found hE
    obtain ⟨g, o, rfl, hcs0⟩ : ∃ g o, a3 = some ⟨g, o, none⟩ ∧ ∀ i (h : i < x.s.length), w.cell? ⟨g, o + i * 2, none⟩ = some (.int .i64 x.s[i].1) ∧ w.cell? ⟨g, o + i * 2 + 1, none⟩ = some (.string x.s[i].2) := by
      rcases HX3.out with h | h
      · rw [h] at hi; simp at hi
      · exact h
    have hcs := (hcs0 i hi).1
    have hi' : ((i : Nat) : Int) < ((x.s.length : Nat) : Int) := by omega
    rw [hE, h1] at HK HKO
    rw [hE, h2] at HN
    clear hcs0 HX3 h1 h2 hE
    generalize x.s[i].1 = NX at *
    generalize putI x l = IA at *
    generalize putN x l = nA at *
    generalize putE x l = eA at *
    generalize dropI x m = IB at *
    generalize dropN x m = nB at *
    generalize asI x 5 = eB at *
    generalize askS (byPlace x.s.length from_ to_) x = KR at *
    generalize askS (byNumber from_ to_) x = KW at *
    generalize x.k = k at *
    generalize x.t = t at *
    generalize x.l.length = n1 at *
    generalize x.p.length = n2 at *
    generalize x.s.length = n3 at *
    go_enter Tryz.func3, Tryz.ntmps3
    go_wp2_with fail
    have C_0 : Below w.heap.size w (w.alloc (.cells #[.int .i64 k, .string t, .slice a1 n1 c1, .slice a2 n2 c2, .slice (some ⟨g, o, none⟩) n3 c3] 26)) := (Below.refl _ w).alloc (Nat.le_refl _) _
    have X_1 := hide (BoxAt.new w (.int .i64 k) (.string t) (.slice a1 n1 c1) (.slice a2 n2 c2) (.slice (some ⟨g, o, none⟩) n3 c3) 26)
    refine (HP.out _ C_0).mono ?_
    rintro e w1 ⟨uA, ⟨rfl, iA⟩, hb1⟩
    have C_2 : Below w.heap.size w w1 := C_0.trans (hb1.mono C_0.size)
    clear C_0
    have X_3 := hide (X_1.out.below hb1)
    clear X_1
    clear hb1
    obtain ⟨kA, tA, aA1, nA1, cA1, aA2, nA2, cA2, aA3, nA3, cA3, rfl⟩ := shapeZ iA
    have IA_4 := hide (iA)
    clear iA
    obtain ⟨xc0, xc1, xc2, xc3, xc4, xlt⟩ := X_3.out
    go_wp2_with fail
    have X_5 := hide (X_3.out.below ((Below.refl _ w1).alloc (Nat.le_refl _) (.cells #[.int .i64 kA, .string tA, .slice aA1 nA1 cA1, .slice aA2 nA2 cA2, .slice aA3 nA3 cA3] 26)))
    clear X_3
    have IA_6 := hide (IA_4.out.below ((Below.refl _ w1).alloc (Nat.le_refl _) (.cells #[.int .i64 kA, .string tA, .slice aA1 nA1 cA1, .slice aA2 nA2 cA2, .slice aA3 nA3 cA3] 26)))
    clear IA_4
    have C_7 : Below w.heap.size w (w1.alloc (.cells #[.int .i64 kA, .string tA, .slice aA1 nA1 cA1, .slice aA2 nA2 cA2, .slice aA3 nA3 cA3] 26)) := C_2.alloc C_2.size (.cells #[.int .i64 kA, .string tA, .slice aA1 nA1 cA1, .slice aA2 nA2 cA2, .slice aA3 nA3 cA3] 26)
    clear C_2
    have A_8 := hide (BoxAt.new w1 (.int .i64 kA) (.string tA) (.slice aA1 nA1 cA1) (.slice aA2 nA2 cA2) (.slice aA3 nA3 cA3) 26)
    refine (HD.out _ C_7).mono ?_
    rintro e w2 ⟨uB, ⟨rfl, iB⟩, hb2⟩
    clear xc0 xc1 xc2 xc3 xc4 xlt
    have C_9 : Below w.heap.size w w2 := C_7.trans (hb2.mono C_7.size)
    clear C_7
    have X_10 := hide (X_5.out.below hb2)
    have IA_10 := hide (IA_6.out.below hb2)
    have A_10 := hide (A_8.out.below hb2)
    clear X_5 IA_6 A_8
    clear hb2
    obtain ⟨kB, tB, aB1, nB1, cB1, aB2, nB2, cB2, aB3, nB3, cB3, rfl⟩ := shapeZ iB
    have IB_11 := hide (iB)
    clear iB
    obtain ⟨xc0, xc1, xc2, xc3, xc4, xlt⟩ := X_10.out
    go_wp2_with fail
    have X_12 := hide (X_10.out.below ((Below.refl _ w2).alloc (Nat.le_refl _) (.cells #[.int .i64 kB, .string tB, .slice aB1 nB1 cB1, .slice aB2 nB2 cB2, .slice aB3 nB3 cB3] 26)))
    clear X_10
    have IA_13 := hide (IA_10.out.below ((Below.refl _ w2).alloc (Nat.le_refl _) (.cells #[.int .i64 kB, .string tB, .slice aB1 nB1 cB1, .slice aB2 nB2 cB2, .slice aB3 nB3 cB3] 26)))
    clear IA_10
    have A_14 := hide (A_10.out.below ((Below.refl _ w2).alloc (Nat.le_refl _) (.cells #[.int .i64 kB, .string tB, .slice aB1 nB1 cB1, .slice aB2 nB2 cB2, .slice aB3 nB3 cB3] 26)))
    clear A_10
    have IB_15 := hide (IB_11.out.below ((Below.refl _ w2).alloc (Nat.le_refl _) (.cells #[.int .i64 kB, .string tB, .slice aB1 nB1 cB1, .slice aB2 nB2 cB2, .slice aB3 nB3 cB3] 26)))
    clear IB_11
    have C_16 : Below w.heap.size w (w2.alloc (.cells #[.int .i64 kB, .string tB, .slice aB1 nB1 cB1, .slice aB2 nB2 cB2, .slice aB3 nB3 cB3] 26)) := C_9.alloc C_9.size (.cells #[.int .i64 kB, .string tB, .slice aB1 nB1 cB1, .slice aB2 nB2 cB2, .slice aB3 nB3 cB3] 26)
    clear C_9
    have B_17 := hide (BoxAt.new w2 (.int .i64 kB) (.string tB) (.slice aB1 nB1 cB1) (.slice aB2 nB2 cB2) (.slice aB3 nB3 cB3) 26)
    refine (HN.out _ C_16).mono ?_
    rintro e w3 ⟨rfl, hb3⟩
    clear xc0 xc1 xc2 xc3 xc4 xlt
    have C_18 : Below w.heap.size w w3 := C_16.trans (hb3.mono C_16.size)
    clear C_16
    have X_19 := hide (X_12.out.below hb3)
    have IA_19 := hide (IA_13.out.below hb3)
    have A_19 := hide (A_14.out.below hb3)
    have IB_19 := hide (IB_15.out.below hb3)
    have B_19 := hide (B_17.out.below hb3)
    clear X_12 IA_13 A_14 IB_15 B_17
    clear hb3
    obtain ⟨xc0, xc1, xc2, xc3, xc4, xlt⟩ := X_19.out
    go_wp2_with fail
    refine (HK.out _ C_18).mono ?_
    rintro e w4 ⟨rfl, hb4⟩
    clear xc0 xc1 xc2 xc3 xc4 xlt
    have C_20 : Below w.heap.size w w4 := C_18.trans (hb4.mono C_18.size)
    clear C_18
    have X_21 := hide (X_19.out.below hb4)
    have IA_21 := hide (IA_19.out.below hb4)
    have A_21 := hide (A_19.out.below hb4)
    have IB_21 := hide (IB_19.out.below hb4)
    have B_21 := hide (B_19.out.below hb4)
    clear X_19 IA_19 A_19 IB_19 B_19
    clear hb4
    obtain ⟨xc0, xc1, xc2, xc3, xc4, xlt⟩ := X_21.out
    go_wp2_with fail
    refine (HR.out _ C_20).mono ?_
    rintro e w5 ⟨⟨aR, cR, rfl, iR⟩, hb5⟩
    clear xc0 xc1 xc2 xc3 xc4 xlt
    have C_22 : Below w.heap.size w w5 := C_20.trans (hb5.mono C_20.size)
    clear C_20
    have X_23 := hide (X_21.out.below hb5)
    have IA_23 := hide (IA_21.out.below hb5)
    have A_23 := hide (A_21.out.below hb5)
    have IB_23 := hide (IB_21.out.below hb5)
    have B_23 := hide (B_21.out.below hb5)
    clear X_21 IA_21 A_21 IB_21 B_21
    clear hb5
    have TR_24 := hide (iR)
    clear iR
    obtain ⟨xc0, xc1, xc2, xc3, xc4, xlt⟩ := X_23.out
    go_wp2_with fail
    refine (HW.out _ C_22).mono ?_
    rintro e w6 ⟨⟨aW, cW, rfl, iW⟩, hb6⟩
    clear xc0 xc1 xc2 xc3 xc4 xlt
    have C_25 : Below w.heap.size w w6 := C_22.trans (hb6.mono C_22.size)
    clear C_22
    have X_26 := hide (X_23.out.below hb6)
    have IA_26 := hide (IA_23.out.below hb6)
    have A_26 := hide (A_23.out.below hb6)
    have IB_26 := hide (IB_23.out.below hb6)
    have B_26 := hide (B_23.out.below hb6)
    have TR_26 := hide (TR_24.out.below hb6)
    clear X_23 IA_23 A_23 IB_23 B_23 TR_24
    clear hb6
    have TW_27 := hide (iW)
    clear iW
    obtain ⟨xc0, xc1, xc2, xc3, xc4, xlt⟩ := X_26.out
    go_wp2_with fail
    refine (HPO.out _ C_25).mono ?_
    rintro e w7 ⟨uY, ⟨rfl, iY⟩, hb7⟩
    clear xc0 xc1 xc2 xc3 xc4 xlt
    have C_28 : Below w.heap.size w w7 := C_25.trans (hb7.mono C_25.size)
    clear C_25
    have X_29 := hide (X_26.out.below hb7)
    have IA_29 := hide (IA_26.out.below hb7)
    have A_29 := hide (A_26.out.below hb7)
    have IB_29 := hide (IB_26.out.below hb7)
    have B_29 := hide (B_26.out.below hb7)
    have TR_29 := hide (TR_26.out.below hb7)
    have TW_29 := hide (TW_27.out.below hb7)
    clear X_26 IA_26 A_26 IB_26 B_26 TR_26 TW_27
    clear hb7
    obtain ⟨kY, tY, aY1, nY1, cY1, aY2, nY2, cY2, aY3, nY3, cY3, rfl⟩ := shapeZ iY
    have IY_30 := hide (iY)
    clear iY
    obtain ⟨xc0, xc1, xc2, xc3, xc4, xlt⟩ := X_29.out
    go_wp2_with fail
    have X_31 := hide (X_29.out.below ((Below.refl _ w7).alloc (Nat.le_refl _) (.cells #[.int .i64 kY, .string tY, .slice aY1 nY1 cY1, .slice aY2 nY2 cY2, .slice aY3 nY3 cY3] 26)))
    clear X_29
    have IA_32 := hide (IA_29.out.below ((Below.refl _ w7).alloc (Nat.le_refl _) (.cells #[.int .i64 kY, .string tY, .slice aY1 nY1 cY1, .slice aY2 nY2 cY2, .slice aY3 nY3 cY3] 26)))
    clear IA_29
    have A_33 := hide (A_29.out.below ((Below.refl _ w7).alloc (Nat.le_refl _) (.cells #[.int .i64 kY, .string tY, .slice aY1 nY1 cY1, .slice aY2 nY2 cY2, .slice aY3 nY3 cY3] 26)))
    clear A_29
    have IB_34 := hide (IB_29.out.below ((Below.refl _ w7).alloc (Nat.le_refl _) (.cells #[.int .i64 kY, .string tY, .slice aY1 nY1 cY1, .slice aY2 nY2 cY2, .slice aY3 nY3 cY3] 26)))
    clear IB_29
    have B_35 := hide (B_29.out.below ((Below.refl _ w7).alloc (Nat.le_refl _) (.cells #[.int .i64 kY, .string tY, .slice aY1 nY1 cY1, .slice aY2 nY2 cY2, .slice aY3 nY3 cY3] 26)))
    clear B_29
    have TR_36 := hide (TR_29.out.below ((Below.refl _ w7).alloc (Nat.le_refl _) (.cells #[.int .i64 kY, .string tY, .slice aY1 nY1 cY1, .slice aY2 nY2 cY2, .slice aY3 nY3 cY3] 26)))
    clear TR_29
    have TW_37 := hide (TW_29.out.below ((Below.refl _ w7).alloc (Nat.le_refl _) (.cells #[.int .i64 kY, .string tY, .slice aY1 nY1 cY1, .slice aY2 nY2 cY2, .slice aY3 nY3 cY3] 26)))
    clear TW_29
    have IY_38 := hide (IY_30.out.below ((Below.refl _ w7).alloc (Nat.le_refl _) (.cells #[.int .i64 kY, .string tY, .slice aY1 nY1 cY1, .slice aY2 nY2 cY2, .slice aY3 nY3 cY3] 26)))
    clear IY_30
    have C_39 : Below w.heap.size w (w7.alloc (.cells #[.int .i64 kY, .string tY, .slice aY1 nY1 cY1, .slice aY2 nY2 cY2, .slice aY3 nY3 cY3] 26)) := C_28.alloc C_28.size (.cells #[.int .i64 kY, .string tY, .slice aY1 nY1 cY1, .slice aY2 nY2 cY2, .slice aY3 nY3 cY3] 26)
    clear C_28
    have Y_40 := hide (BoxAt.new w7 (.int .i64 kY) (.string tY) (.slice aY1 nY1 cY1) (.slice aY2 nY2 cY2) (.slice aY3 nY3 cY3) 26)
    refine (HDO.out _ C_39).mono ?_
    rintro e w8 ⟨uZ, ⟨rfl, iZ⟩, hb8⟩
    clear xc0 xc1 xc2 xc3 xc4 xlt
    have C_41 : Below w.heap.size w w8 := C_39.trans (hb8.mono C_39.size)
    clear C_39
    have X_42 := hide (X_31.out.below hb8)
    have IA_42 := hide (IA_32.out.below hb8)
    have A_42 := hide (A_33.out.below hb8)
    have IB_42 := hide (IB_34.out.below hb8)
    have B_42 := hide (B_35.out.below hb8)
    have TR_42 := hide (TR_36.out.below hb8)
    have TW_42 := hide (TW_37.out.below hb8)
    have IY_42 := hide (IY_38.out.below hb8)
    have Y_42 := hide (Y_40.out.below hb8)
    clear X_31 IA_32 A_33 IB_34 B_35 TR_36 TW_37 IY_38 Y_40
    clear hb8
    obtain ⟨kZ, tZ, aZ1, nZ1, cZ1, aZ2, nZ2, cZ2, aZ3, nZ3, cZ3, rfl⟩ := shapeZ iZ
    have IZ_43 := hide (iZ)
    clear iZ
    obtain ⟨xc0, xc1, xc2, xc3, xc4, xlt⟩ := X_42.out
    go_wp2_with fail
    have X_44 := hide (X_42.out.below ((Below.refl _ w8).alloc (Nat.le_refl _) (.cells #[.int .i64 kZ, .string tZ, .slice aZ1 nZ1 cZ1, .slice aZ2 nZ2 cZ2, .slice aZ3 nZ3 cZ3] 26)))
    clear X_42
    have IA_45 := hide (IA_42.out.below ((Below.refl _ w8).alloc (Nat.le_refl _) (.cells #[.int .i64 kZ, .string tZ, .slice aZ1 nZ1 cZ1, .slice aZ2 nZ2 cZ2, .slice aZ3 nZ3 cZ3] 26)))
    clear IA_42
    have A_46 := hide (A_42.out.below ((Below.refl _ w8).alloc (Nat.le_refl _) (.cells #[.int .i64 kZ, .string tZ, .slice aZ1 nZ1 cZ1, .slice aZ2 nZ2 cZ2, .slice aZ3 nZ3 cZ3] 26)))
    clear A_42
    have IB_47 := hide (IB_42.out.below ((Below.refl _ w8).alloc (Nat.le_refl _) (.cells #[.int .i64 kZ, .string tZ, .slice aZ1 nZ1 cZ1, .slice aZ2 nZ2 cZ2, .slice aZ3 nZ3 cZ3] 26)))
    clear IB_42
    have B_48 := hide (B_42.out.below ((Below.refl _ w8).alloc (Nat.le_refl _) (.cells #[.int .i64 kZ, .string tZ, .slice aZ1 nZ1 cZ1, .slice aZ2 nZ2 cZ2, .slice aZ3 nZ3 cZ3] 26)))
    clear B_42
    have TR_49 := hide (TR_42.out.below ((Below.refl _ w8).alloc (Nat.le_refl _) (.cells #[.int .i64 kZ, .string tZ, .slice aZ1 nZ1 cZ1, .slice aZ2 nZ2 cZ2, .slice aZ3 nZ3 cZ3] 26)))
    clear TR_42
    have TW_50 := hide (TW_42.out.below ((Below.refl _ w8).alloc (Nat.le_refl _) (.cells #[.int .i64 kZ, .string tZ, .slice aZ1 nZ1 cZ1, .slice aZ2 nZ2 cZ2, .slice aZ3 nZ3 cZ3] 26)))
    clear TW_42
    have IY_51 := hide (IY_42.out.below ((Below.refl _ w8).alloc (Nat.le_refl _) (.cells #[.int .i64 kZ, .string tZ, .slice aZ1 nZ1 cZ1, .slice aZ2 nZ2 cZ2, .slice aZ3 nZ3 cZ3] 26)))
    clear IY_42
    have Y_52 := hide (Y_42.out.below ((Below.refl _ w8).alloc (Nat.le_refl _) (.cells #[.int .i64 kZ, .string tZ, .slice aZ1 nZ1 cZ1, .slice aZ2 nZ2 cZ2, .slice aZ3 nZ3 cZ3] 26)))
    clear Y_42
    have IZ_53 := hide (IZ_43.out.below ((Below.refl _ w8).alloc (Nat.le_refl _) (.cells #[.int .i64 kZ, .string tZ, .slice aZ1 nZ1 cZ1, .slice aZ2 nZ2 cZ2, .slice aZ3 nZ3 cZ3] 26)))
    clear IZ_43
    have C_54 : Below w.heap.size w (w8.alloc (.cells #[.int .i64 kZ, .string tZ, .slice aZ1 nZ1 cZ1, .slice aZ2 nZ2 cZ2, .slice aZ3 nZ3 cZ3] 26)) := C_41.alloc C_41.size (.cells #[.int .i64 kZ, .string tZ, .slice aZ1 nZ1 cZ1, .slice aZ2 nZ2 cZ2, .slice aZ3 nZ3 cZ3] 26)
    clear C_41
    have Z_55 := hide (BoxAt.new w8 (.int .i64 kZ) (.string tZ) (.slice aZ1 nZ1 cZ1) (.slice aZ2 nZ2 cZ2) (.slice aZ3 nZ3 cZ3) 26)
    refine (HKO.out _ C_54).mono ?_
    rintro e w9 ⟨rfl, hb9⟩
    clear xc0 xc1 xc2 xc3 xc4 xlt
    have C_56 : Below w.heap.size w w9 := C_54.trans (hb9.mono C_54.size)
    clear C_54
    have X_57 := hide (X_44.out.below hb9)
    have IA_57 := hide (IA_45.out.below hb9)
    have A_57 := hide (A_46.out.below hb9)
    have IB_57 := hide (IB_47.out.below hb9)
    have B_57 := hide (B_48.out.below hb9)
    have TR_57 := hide (TR_49.out.below hb9)
    have TW_57 := hide (TW_50.out.below hb9)
    have IY_57 := hide (IY_51.out.below hb9)
    have Y_57 := hide (Y_52.out.below hb9)
    have IZ_57 := hide (IZ_53.out.below hb9)
    have Z_57 := hide (Z_55.out.below hb9)
    clear X_44 IA_45 A_46 IB_47 B_48 TR_49 TW_50 IY_51 Y_52 IZ_53 Z_55
    clear hb9
    obtain ⟨xc0, xc1, xc2, xc3, xc4, xlt⟩ := X_57.out
    have d0 := (C_56.cell (p := ⟨g, o + i * 2, none⟩) (World.block_lt_of_cell? _ _ hcs)).trans hcs
    go_wp2_with fail
    have hCd := C_56.drew
    have hB13 : Below w9.heap.size w9 w9.drew := (Below.refl _ _).drew
    have HXC : Hid (∀ V, Below w9.heap.size w9 V → BoxAt V w.heap.size (.int .i64 k) (.string t) (.slice a1 n1 c1) (.slice a2 n2 c2) (.slice (some ⟨g, o, none⟩) n3 c3)) := fun V hV => X_57.out.below hV
    go_region_held3 (fun w' => w'.cell? ⟨w.heap.size, 0, none⟩ = some (.int .i64 k) ∧ w'.cell? ⟨w.heap.size, 1, none⟩ = some (.string t) ∧ w'.cell? ⟨w.heap.size, 2, none⟩ = some (.slice a1 n1 c1) ∧ w'.cell? ⟨w.heap.size, 3, none⟩ = some (.slice a2 n2 c2) ∧ w'.cell? ⟨w.heap.size, 4, none⟩ = some (.slice (some ⟨g, o, none⟩) n3 c3)) (go_keep) ((first | (go_at_call 14; refine (clamped_any _ _).mono ?_; rintro e w2 ⟨rfl, rfl⟩) | (go_at_call 13; refine (HRO.out _ hCd).mono ?_; rintro e wS ⟨⟨aS, cS, rfl, iS⟩, hbS⟩; have hbX := hB13.trans (hbS.mono (Nat.le_refl _)); obtain ⟨z0, z1, z2, z3, z4, zlt⟩ := HXC.out _ hbX)))
    clear z0 z1 z2 z3 z4 zlt
    clear xc0 xc1 xc2 xc3 xc4 xlt
    have C_58 : Below w.heap.size w wS := C_56.trans (hbX.mono C_56.size)
    have X_59 := hide (X_57.out.below hbX)
    have IA_59 := hide (IA_57.out.below hbX)
    have A_59 := hide (A_57.out.below hbX)
    have IB_59 := hide (IB_57.out.below hbX)
    have B_59 := hide (B_57.out.below hbX)
    have TR_59 := hide (TR_57.out.below hbX)
    have TW_59 := hide (TW_57.out.below hbX)
    have IY_59 := hide (IY_57.out.below hbX)
    have Y_59 := hide (Y_57.out.below hbX)
    have IZ_59 := hide (IZ_57.out.below hbX)
    have Z_59 := hide (Z_57.out.below hbX)
    clear X_57 IA_57 A_57 IB_57 B_57 TR_57 TW_57 IY_57 Y_57 IZ_57 Z_57
    have TS_60 := hide (iS)
    clear iS HXC hbX hB13 hCd
    obtain ⟨xc0, xc1, xc2, xc3, xc4, xlt⟩ := X_59.out
    go_wp2_with fail
    refine (HWO.out _ C_58).mono ?_
    rintro e w10 ⟨⟨aV, cV, rfl, iV⟩, hb10⟩
    clear xc0 xc1 xc2 xc3 xc4 xlt
    have C_61 : Below w.heap.size w w10 := C_58.trans (hb10.mono C_58.size)
    clear C_58
    have X_62 := hide (X_59.out.below hb10)
    have IA_62 := hide (IA_59.out.below hb10)
    have A_62 := hide (A_59.out.below hb10)
    have IB_62 := hide (IB_59.out.below hb10)
    have B_62 := hide (B_59.out.below hb10)
    have TR_62 := hide (TR_59.out.below hb10)
    have TW_62 := hide (TW_59.out.below hb10)
    have IY_62 := hide (IY_59.out.below hb10)
    have Y_62 := hide (Y_59.out.below hb10)
    have IZ_62 := hide (IZ_59.out.below hb10)
    have Z_62 := hide (Z_59.out.below hb10)
    have TS_62 := hide (TS_60.out.below hb10)
    clear X_59 IA_59 A_59 IB_59 B_59 TR_59 TW_59 IY_59 Y_59 IZ_59 Z_59 TS_60
    clear hb10
    have TV_63 := hide (iV)
    clear iV
    go_wp2_with fail
    refine (HG.out _).mono ?_
    rintro e w11 ⟨rfl, hb11⟩
    have C_64 : Below w.heap.size w w11 := C_61.trans (hb11.mono C_61.size)
    clear C_61
    have X_65 := hide (X_62.out.below hb11)
    have IA_65 := hide (IA_62.out.below hb11)
    have A_65 := hide (A_62.out.below hb11)
    have IB_65 := hide (IB_62.out.below hb11)
    have B_65 := hide (B_62.out.below hb11)
    have TR_65 := hide (TR_62.out.below hb11)
    have TW_65 := hide (TW_62.out.below hb11)
    have IY_65 := hide (IY_62.out.below hb11)
    have Y_65 := hide (Y_62.out.below hb11)
    have IZ_65 := hide (IZ_62.out.below hb11)
    have Z_65 := hide (Z_62.out.below hb11)
    have TS_65 := hide (TS_62.out.below hb11)
    have TV_65 := hide (TV_63.out.below hb11)
    clear X_62 IA_62 A_62 IB_62 B_62 TR_62 TW_62 IY_62 Y_62 IZ_62 Z_62 TS_62 TV_63
    clear hb11
    obtain ⟨ac0, ac1, ac2, ac3, ac4, alt⟩ := A_65.out
    obtain ⟨yc0, yc1, yc2, yc3, yc4, ylt⟩ := Y_65.out
    go_wp2_with fail
    refine (HIA.out _ _ _ IA_65.out IY_65.out).mono ?_
    rintro e w12 ⟨rfl, hb12⟩
    clear ac0 ac1 ac2 ac3 ac4 alt yc0 yc1 yc2 yc3 yc4 ylt
    have C_66 : Below w.heap.size w w12 := C_64.trans (hb12.mono C_64.size)
    clear C_64
    have X_67 := hide (X_65.out.below hb12)
    have IA_67 := hide (IA_65.out.below hb12)
    have A_67 := hide (A_65.out.below hb12)
    have IB_67 := hide (IB_65.out.below hb12)
    have B_67 := hide (B_65.out.below hb12)
    have TR_67 := hide (TR_65.out.below hb12)
    have TW_67 := hide (TW_65.out.below hb12)
    have IY_67 := hide (IY_65.out.below hb12)
    have Y_67 := hide (Y_65.out.below hb12)
    have IZ_67 := hide (IZ_65.out.below hb12)
    have Z_67 := hide (Z_65.out.below hb12)
    have TS_67 := hide (TS_65.out.below hb12)
    have TV_67 := hide (TV_65.out.below hb12)
    clear X_65 IA_65 A_65 IB_65 B_65 TR_65 TW_65 IY_65 Y_65 IZ_65 Z_65 TS_65 TV_65
    clear hb12
    obtain ⟨bc0, bc1, bc2, bc3, bc4, blt⟩ := B_67.out
    obtain ⟨zc0, zc1, zc2, zc3, zc4, zlt⟩ := Z_67.out
    go_wp2_with fail
    refine (HIB.out _ _ _ IB_67.out IZ_67.out).mono ?_
    rintro e w13 ⟨rfl, hb13⟩
    clear bc0 bc1 bc2 bc3 bc4 blt zc0 zc1 zc2 zc3 zc4 zlt
    have C_68 : Below w.heap.size w w13 := C_66.trans (hb13.mono C_66.size)
    clear C_66
    have X_69 := hide (X_67.out.below hb13)
    have IA_69 := hide (IA_67.out.below hb13)
    have A_69 := hide (A_67.out.below hb13)
    have IB_69 := hide (IB_67.out.below hb13)
    have B_69 := hide (B_67.out.below hb13)
    have TR_69 := hide (TR_67.out.below hb13)
    have TW_69 := hide (TW_67.out.below hb13)
    have IY_69 := hide (IY_67.out.below hb13)
    have Y_69 := hide (Y_67.out.below hb13)
    have IZ_69 := hide (IZ_67.out.below hb13)
    have Z_69 := hide (Z_67.out.below hb13)
    have TS_69 := hide (TS_67.out.below hb13)
    have TV_69 := hide (TV_67.out.below hb13)
    clear X_67 IA_67 A_67 IB_67 B_67 TR_67 TW_67 IY_67 Y_67 IZ_67 Z_67 TS_67 TV_67
    clear hb13
    go_wp2_with fail
    refine (HSR.out _ _ _ _ _ TR_69.out TS_69.out).mono ?_
    rintro e w14 ⟨rfl, hb14⟩
    have C_70 : Below w.heap.size w w14 := C_68.trans (hb14.mono C_68.size)
    clear C_68
    have X_71 := hide (X_69.out.below hb14)
    have IA_71 := hide (IA_69.out.below hb14)
    have A_71 := hide (A_69.out.below hb14)
    have IB_71 := hide (IB_69.out.below hb14)
    have B_71 := hide (B_69.out.below hb14)
    have TR_71 := hide (TR_69.out.below hb14)
    have TW_71 := hide (TW_69.out.below hb14)
    have IY_71 := hide (IY_69.out.below hb14)
    have Y_71 := hide (Y_69.out.below hb14)
    have IZ_71 := hide (IZ_69.out.below hb14)
    have Z_71 := hide (Z_69.out.below hb14)
    have TS_71 := hide (TS_69.out.below hb14)
    have TV_71 := hide (TV_69.out.below hb14)
    clear X_69 IA_69 A_69 IB_69 B_69 TR_69 TW_69 IY_69 Y_69 IZ_69 Z_69 TS_69 TV_69
    clear hb14
    go_wp2_with fail
    refine (HSW.out _ _ _ _ _ TW_71.out TV_71.out).mono ?_
    rintro e w15 ⟨rfl, hb15⟩
    have C_72 : Below w.heap.size w w15 := C_70.trans (hb15.mono C_70.size)
    clear C_70
    have X_73 := hide (X_71.out.below hb15)
    have IA_73 := hide (IA_71.out.below hb15)
    have A_73 := hide (A_71.out.below hb15)
    have IB_73 := hide (IB_71.out.below hb15)
    have B_73 := hide (B_71.out.below hb15)
    have TR_73 := hide (TR_71.out.below hb15)
    have TW_73 := hide (TW_71.out.below hb15)
    have IY_73 := hide (IY_71.out.below hb15)
    have Y_73 := hide (Y_71.out.below hb15)
    have IZ_73 := hide (IZ_71.out.below hb15)
    have Z_73 := hide (Z_71.out.below hb15)
    have TS_73 := hide (TS_71.out.below hb15)
    have TV_73 := hide (TV_71.out.below hb15)
    clear X_71 IA_71 A_71 IB_71 B_71 TR_71 TW_71 IY_71 Y_71 IZ_71 Z_71 TS_71 TV_71
    clear hb15
    go_wp2_with fail
    go_ret
    exact ⟨rfl, C_72⟩
  · have h2 : numN x f = 0 := by rw [numN, if_neg hE]
    have h1 : rankN x f = 0 := by rw [rankN, if_neg hE]
    have hE' : (rankE x f == 0) = false := by rw [beq_eq_false_iff_ne]; exact hE
    rw [h1] at HK HKO
    rw [h2] at HN
    clear HX3 h1 h2 hE
    generalize putI x l = IA at *
    generalize putN x l = nA at *
    generalize putE x l = eA at *
    generalize dropI x m = IB at *
    generalize dropN x m = nB at *
    generalize asI x 5 = eB at *
    generalize askS (byPlace x.s.length from_ to_) x = KR at *
    generalize askS (byNumber from_ to_) x = KW at *
    generalize rankE x f = rE at *
    generalize x.k = k at *
    generalize x.t = t at *
    generalize x.l.length = n1 at *
    generalize x.p.length = n2 at *
    generalize x.s.length = n3 at *
    go_enter Tryz.func3, Tryz.ntmps3
    go_wp2_with fail
    have C_0 : Below w.heap.size w (w.alloc (.cells #[.int .i64 k, .string t, .slice a1 n1 c1, .slice a2 n2 c2, .slice a3 n3 c3] 26)) := (Below.refl _ w).alloc (Nat.le_refl _) _
    have X_1 := hide (BoxAt.new w (.int .i64 k) (.string t) (.slice a1 n1 c1) (.slice a2 n2 c2) (.slice a3 n3 c3) 26)
    refine (HP.out _ C_0).mono ?_
    rintro e w1 ⟨uA, ⟨rfl, iA⟩, hb1⟩
    have C_2 : Below w.heap.size w w1 := C_0.trans (hb1.mono C_0.size)
    clear C_0
    have X_3 := hide (X_1.out.below hb1)
    clear X_1
    clear hb1
    obtain ⟨kA, tA, aA1, nA1, cA1, aA2, nA2, cA2, aA3, nA3, cA3, rfl⟩ := shapeZ iA
    have IA_4 := hide (iA)
    clear iA
    obtain ⟨xc0, xc1, xc2, xc3, xc4, xlt⟩ := X_3.out
    go_wp2_with fail
    have X_5 := hide (X_3.out.below ((Below.refl _ w1).alloc (Nat.le_refl _) (.cells #[.int .i64 kA, .string tA, .slice aA1 nA1 cA1, .slice aA2 nA2 cA2, .slice aA3 nA3 cA3] 26)))
    clear X_3
    have IA_6 := hide (IA_4.out.below ((Below.refl _ w1).alloc (Nat.le_refl _) (.cells #[.int .i64 kA, .string tA, .slice aA1 nA1 cA1, .slice aA2 nA2 cA2, .slice aA3 nA3 cA3] 26)))
    clear IA_4
    have C_7 : Below w.heap.size w (w1.alloc (.cells #[.int .i64 kA, .string tA, .slice aA1 nA1 cA1, .slice aA2 nA2 cA2, .slice aA3 nA3 cA3] 26)) := C_2.alloc C_2.size (.cells #[.int .i64 kA, .string tA, .slice aA1 nA1 cA1, .slice aA2 nA2 cA2, .slice aA3 nA3 cA3] 26)
    clear C_2
    have A_8 := hide (BoxAt.new w1 (.int .i64 kA) (.string tA) (.slice aA1 nA1 cA1) (.slice aA2 nA2 cA2) (.slice aA3 nA3 cA3) 26)
    refine (HD.out _ C_7).mono ?_
    rintro e w2 ⟨uB, ⟨rfl, iB⟩, hb2⟩
    clear xc0 xc1 xc2 xc3 xc4 xlt
    have C_9 : Below w.heap.size w w2 := C_7.trans (hb2.mono C_7.size)
    clear C_7
    have X_10 := hide (X_5.out.below hb2)
    have IA_10 := hide (IA_6.out.below hb2)
    have A_10 := hide (A_8.out.below hb2)
    clear X_5 IA_6 A_8
    clear hb2
    obtain ⟨kB, tB, aB1, nB1, cB1, aB2, nB2, cB2, aB3, nB3, cB3, rfl⟩ := shapeZ iB
    have IB_11 := hide (iB)
    clear iB
    obtain ⟨xc0, xc1, xc2, xc3, xc4, xlt⟩ := X_10.out
    go_wp2_with fail
    have X_12 := hide (X_10.out.below ((Below.refl _ w2).alloc (Nat.le_refl _) (.cells #[.int .i64 kB, .string tB, .slice aB1 nB1 cB1, .slice aB2 nB2 cB2, .slice aB3 nB3 cB3] 26)))
    clear X_10
    have IA_13 := hide (IA_10.out.below ((Below.refl _ w2).alloc (Nat.le_refl _) (.cells #[.int .i64 kB, .string tB, .slice aB1 nB1 cB1, .slice aB2 nB2 cB2, .slice aB3 nB3 cB3] 26)))
    clear IA_10
    have A_14 := hide (A_10.out.below ((Below.refl _ w2).alloc (Nat.le_refl _) (.cells #[.int .i64 kB, .string tB, .slice aB1 nB1 cB1, .slice aB2 nB2 cB2, .slice aB3 nB3 cB3] 26)))
    clear A_10
    have IB_15 := hide (IB_11.out.below ((Below.refl _ w2).alloc (Nat.le_refl _) (.cells #[.int .i64 kB, .string tB, .slice aB1 nB1 cB1, .slice aB2 nB2 cB2, .slice aB3 nB3 cB3] 26)))
    clear IB_11
    have C_16 : Below w.heap.size w (w2.alloc (.cells #[.int .i64 kB, .string tB, .slice aB1 nB1 cB1, .slice aB2 nB2 cB2, .slice aB3 nB3 cB3] 26)) := C_9.alloc C_9.size (.cells #[.int .i64 kB, .string tB, .slice aB1 nB1 cB1, .slice aB2 nB2 cB2, .slice aB3 nB3 cB3] 26)
    clear C_9
    have B_17 := hide (BoxAt.new w2 (.int .i64 kB) (.string tB) (.slice aB1 nB1 cB1) (.slice aB2 nB2 cB2) (.slice aB3 nB3 cB3) 26)
    refine (HN.out _ C_16).mono ?_
    rintro e w3 ⟨rfl, hb3⟩
    clear xc0 xc1 xc2 xc3 xc4 xlt
    have C_18 : Below w.heap.size w w3 := C_16.trans (hb3.mono C_16.size)
    clear C_16
    have X_19 := hide (X_12.out.below hb3)
    have IA_19 := hide (IA_13.out.below hb3)
    have A_19 := hide (A_14.out.below hb3)
    have IB_19 := hide (IB_15.out.below hb3)
    have B_19 := hide (B_17.out.below hb3)
    clear X_12 IA_13 A_14 IB_15 B_17
    clear hb3
    obtain ⟨xc0, xc1, xc2, xc3, xc4, xlt⟩ := X_19.out
    go_wp2_with fail
    refine (HK.out _ C_18).mono ?_
    rintro e w4 ⟨rfl, hb4⟩
    clear xc0 xc1 xc2 xc3 xc4 xlt
    have C_20 : Below w.heap.size w w4 := C_18.trans (hb4.mono C_18.size)
    clear C_18
    have X_21 := hide (X_19.out.below hb4)
    have IA_21 := hide (IA_19.out.below hb4)
    have A_21 := hide (A_19.out.below hb4)
    have IB_21 := hide (IB_19.out.below hb4)
    have B_21 := hide (B_19.out.below hb4)
    clear X_19 IA_19 A_19 IB_19 B_19
    clear hb4
    obtain ⟨xc0, xc1, xc2, xc3, xc4, xlt⟩ := X_21.out
    go_wp2_with fail
    refine (HR.out _ C_20).mono ?_
    rintro e w5 ⟨⟨aR, cR, rfl, iR⟩, hb5⟩
    clear xc0 xc1 xc2 xc3 xc4 xlt
    have C_22 : Below w.heap.size w w5 := C_20.trans (hb5.mono C_20.size)
    clear C_20
    have X_23 := hide (X_21.out.below hb5)
    have IA_23 := hide (IA_21.out.below hb5)
    have A_23 := hide (A_21.out.below hb5)
    have IB_23 := hide (IB_21.out.below hb5)
    have B_23 := hide (B_21.out.below hb5)
    clear X_21 IA_21 A_21 IB_21 B_21
    clear hb5
    have TR_24 := hide (iR)
    clear iR
    obtain ⟨xc0, xc1, xc2, xc3, xc4, xlt⟩ := X_23.out
    go_wp2_with fail
    refine (HW.out _ C_22).mono ?_
    rintro e w6 ⟨⟨aW, cW, rfl, iW⟩, hb6⟩
    clear xc0 xc1 xc2 xc3 xc4 xlt
    have C_25 : Below w.heap.size w w6 := C_22.trans (hb6.mono C_22.size)
    clear C_22
    have X_26 := hide (X_23.out.below hb6)
    have IA_26 := hide (IA_23.out.below hb6)
    have A_26 := hide (A_23.out.below hb6)
    have IB_26 := hide (IB_23.out.below hb6)
    have B_26 := hide (B_23.out.below hb6)
    have TR_26 := hide (TR_24.out.below hb6)
    clear X_23 IA_23 A_23 IB_23 B_23 TR_24
    clear hb6
    have TW_27 := hide (iW)
    clear iW
    obtain ⟨xc0, xc1, xc2, xc3, xc4, xlt⟩ := X_26.out
    go_wp2_with fail
    refine (HPO.out _ C_25).mono ?_
    rintro e w7 ⟨uY, ⟨rfl, iY⟩, hb7⟩
    clear xc0 xc1 xc2 xc3 xc4 xlt
    have C_28 : Below w.heap.size w w7 := C_25.trans (hb7.mono C_25.size)
    clear C_25
    have X_29 := hide (X_26.out.below hb7)
    have IA_29 := hide (IA_26.out.below hb7)
    have A_29 := hide (A_26.out.below hb7)
    have IB_29 := hide (IB_26.out.below hb7)
    have B_29 := hide (B_26.out.below hb7)
    have TR_29 := hide (TR_26.out.below hb7)
    have TW_29 := hide (TW_27.out.below hb7)
    clear X_26 IA_26 A_26 IB_26 B_26 TR_26 TW_27
    clear hb7
    obtain ⟨kY, tY, aY1, nY1, cY1, aY2, nY2, cY2, aY3, nY3, cY3, rfl⟩ := shapeZ iY
    have IY_30 := hide (iY)
    clear iY
    obtain ⟨xc0, xc1, xc2, xc3, xc4, xlt⟩ := X_29.out
    go_wp2_with fail
    have X_31 := hide (X_29.out.below ((Below.refl _ w7).alloc (Nat.le_refl _) (.cells #[.int .i64 kY, .string tY, .slice aY1 nY1 cY1, .slice aY2 nY2 cY2, .slice aY3 nY3 cY3] 26)))
    clear X_29
    have IA_32 := hide (IA_29.out.below ((Below.refl _ w7).alloc (Nat.le_refl _) (.cells #[.int .i64 kY, .string tY, .slice aY1 nY1 cY1, .slice aY2 nY2 cY2, .slice aY3 nY3 cY3] 26)))
    clear IA_29
    have A_33 := hide (A_29.out.below ((Below.refl _ w7).alloc (Nat.le_refl _) (.cells #[.int .i64 kY, .string tY, .slice aY1 nY1 cY1, .slice aY2 nY2 cY2, .slice aY3 nY3 cY3] 26)))
    clear A_29
    have IB_34 := hide (IB_29.out.below ((Below.refl _ w7).alloc (Nat.le_refl _) (.cells #[.int .i64 kY, .string tY, .slice aY1 nY1 cY1, .slice aY2 nY2 cY2, .slice aY3 nY3 cY3] 26)))
    clear IB_29
    have B_35 := hide (B_29.out.below ((Below.refl _ w7).alloc (Nat.le_refl _) (.cells #[.int .i64 kY, .string tY, .slice aY1 nY1 cY1, .slice aY2 nY2 cY2, .slice aY3 nY3 cY3] 26)))
    clear B_29
    have TR_36 := hide (TR_29.out.below ((Below.refl _ w7).alloc (Nat.le_refl _) (.cells #[.int .i64 kY, .string tY, .slice aY1 nY1 cY1, .slice aY2 nY2 cY2, .slice aY3 nY3 cY3] 26)))
    clear TR_29
    have TW_37 := hide (TW_29.out.below ((Below.refl _ w7).alloc (Nat.le_refl _) (.cells #[.int .i64 kY, .string tY, .slice aY1 nY1 cY1, .slice aY2 nY2 cY2, .slice aY3 nY3 cY3] 26)))
    clear TW_29
    have IY_38 := hide (IY_30.out.below ((Below.refl _ w7).alloc (Nat.le_refl _) (.cells #[.int .i64 kY, .string tY, .slice aY1 nY1 cY1, .slice aY2 nY2 cY2, .slice aY3 nY3 cY3] 26)))
    clear IY_30
    have C_39 : Below w.heap.size w (w7.alloc (.cells #[.int .i64 kY, .string tY, .slice aY1 nY1 cY1, .slice aY2 nY2 cY2, .slice aY3 nY3 cY3] 26)) := C_28.alloc C_28.size (.cells #[.int .i64 kY, .string tY, .slice aY1 nY1 cY1, .slice aY2 nY2 cY2, .slice aY3 nY3 cY3] 26)
    clear C_28
    have Y_40 := hide (BoxAt.new w7 (.int .i64 kY) (.string tY) (.slice aY1 nY1 cY1) (.slice aY2 nY2 cY2) (.slice aY3 nY3 cY3) 26)
    refine (HDO.out _ C_39).mono ?_
    rintro e w8 ⟨uZ, ⟨rfl, iZ⟩, hb8⟩
    clear xc0 xc1 xc2 xc3 xc4 xlt
    have C_41 : Below w.heap.size w w8 := C_39.trans (hb8.mono C_39.size)
    clear C_39
    have X_42 := hide (X_31.out.below hb8)
    have IA_42 := hide (IA_32.out.below hb8)
    have A_42 := hide (A_33.out.below hb8)
    have IB_42 := hide (IB_34.out.below hb8)
    have B_42 := hide (B_35.out.below hb8)
    have TR_42 := hide (TR_36.out.below hb8)
    have TW_42 := hide (TW_37.out.below hb8)
    have IY_42 := hide (IY_38.out.below hb8)
    have Y_42 := hide (Y_40.out.below hb8)
    clear X_31 IA_32 A_33 IB_34 B_35 TR_36 TW_37 IY_38 Y_40
    clear hb8
    obtain ⟨kZ, tZ, aZ1, nZ1, cZ1, aZ2, nZ2, cZ2, aZ3, nZ3, cZ3, rfl⟩ := shapeZ iZ
    have IZ_43 := hide (iZ)
    clear iZ
    obtain ⟨xc0, xc1, xc2, xc3, xc4, xlt⟩ := X_42.out
    go_wp2_with fail
    have X_44 := hide (X_42.out.below ((Below.refl _ w8).alloc (Nat.le_refl _) (.cells #[.int .i64 kZ, .string tZ, .slice aZ1 nZ1 cZ1, .slice aZ2 nZ2 cZ2, .slice aZ3 nZ3 cZ3] 26)))
    clear X_42
    have IA_45 := hide (IA_42.out.below ((Below.refl _ w8).alloc (Nat.le_refl _) (.cells #[.int .i64 kZ, .string tZ, .slice aZ1 nZ1 cZ1, .slice aZ2 nZ2 cZ2, .slice aZ3 nZ3 cZ3] 26)))
    clear IA_42
    have A_46 := hide (A_42.out.below ((Below.refl _ w8).alloc (Nat.le_refl _) (.cells #[.int .i64 kZ, .string tZ, .slice aZ1 nZ1 cZ1, .slice aZ2 nZ2 cZ2, .slice aZ3 nZ3 cZ3] 26)))
    clear A_42
    have IB_47 := hide (IB_42.out.below ((Below.refl _ w8).alloc (Nat.le_refl _) (.cells #[.int .i64 kZ, .string tZ, .slice aZ1 nZ1 cZ1, .slice aZ2 nZ2 cZ2, .slice aZ3 nZ3 cZ3] 26)))
    clear IB_42
    have B_48 := hide (B_42.out.below ((Below.refl _ w8).alloc (Nat.le_refl _) (.cells #[.int .i64 kZ, .string tZ, .slice aZ1 nZ1 cZ1, .slice aZ2 nZ2 cZ2, .slice aZ3 nZ3 cZ3] 26)))
    clear B_42
    have TR_49 := hide (TR_42.out.below ((Below.refl _ w8).alloc (Nat.le_refl _) (.cells #[.int .i64 kZ, .string tZ, .slice aZ1 nZ1 cZ1, .slice aZ2 nZ2 cZ2, .slice aZ3 nZ3 cZ3] 26)))
    clear TR_42
    have TW_50 := hide (TW_42.out.below ((Below.refl _ w8).alloc (Nat.le_refl _) (.cells #[.int .i64 kZ, .string tZ, .slice aZ1 nZ1 cZ1, .slice aZ2 nZ2 cZ2, .slice aZ3 nZ3 cZ3] 26)))
    clear TW_42
    have IY_51 := hide (IY_42.out.below ((Below.refl _ w8).alloc (Nat.le_refl _) (.cells #[.int .i64 kZ, .string tZ, .slice aZ1 nZ1 cZ1, .slice aZ2 nZ2 cZ2, .slice aZ3 nZ3 cZ3] 26)))
    clear IY_42
    have Y_52 := hide (Y_42.out.below ((Below.refl _ w8).alloc (Nat.le_refl _) (.cells #[.int .i64 kZ, .string tZ, .slice aZ1 nZ1 cZ1, .slice aZ2 nZ2 cZ2, .slice aZ3 nZ3 cZ3] 26)))
    clear Y_42
    have IZ_53 := hide (IZ_43.out.below ((Below.refl _ w8).alloc (Nat.le_refl _) (.cells #[.int .i64 kZ, .string tZ, .slice aZ1 nZ1 cZ1, .slice aZ2 nZ2 cZ2, .slice aZ3 nZ3 cZ3] 26)))
    clear IZ_43
    have C_54 : Below w.heap.size w (w8.alloc (.cells #[.int .i64 kZ, .string tZ, .slice aZ1 nZ1 cZ1, .slice aZ2 nZ2 cZ2, .slice aZ3 nZ3 cZ3] 26)) := C_41.alloc C_41.size (.cells #[.int .i64 kZ, .string tZ, .slice aZ1 nZ1 cZ1, .slice aZ2 nZ2 cZ2, .slice aZ3 nZ3 cZ3] 26)
    clear C_41
    have Z_55 := hide (BoxAt.new w8 (.int .i64 kZ) (.string tZ) (.slice aZ1 nZ1 cZ1) (.slice aZ2 nZ2 cZ2) (.slice aZ3 nZ3 cZ3) 26)
    refine (HKO.out _ C_54).mono ?_
    rintro e w9 ⟨rfl, hb9⟩
    clear xc0 xc1 xc2 xc3 xc4 xlt
    have C_56 : Below w.heap.size w w9 := C_54.trans (hb9.mono C_54.size)
    clear C_54
    have X_57 := hide (X_44.out.below hb9)
    have IA_57 := hide (IA_45.out.below hb9)
    have A_57 := hide (A_46.out.below hb9)
    have IB_57 := hide (IB_47.out.below hb9)
    have B_57 := hide (B_48.out.below hb9)
    have TR_57 := hide (TR_49.out.below hb9)
    have TW_57 := hide (TW_50.out.below hb9)
    have IY_57 := hide (IY_51.out.below hb9)
    have Y_57 := hide (Y_52.out.below hb9)
    have IZ_57 := hide (IZ_53.out.below hb9)
    have Z_57 := hide (Z_55.out.below hb9)
    clear X_44 IA_45 A_46 IB_47 B_48 TR_49 TW_50 IY_51 Y_52 IZ_53 Z_55
    clear hb9
    obtain ⟨xc0, xc1, xc2, xc3, xc4, xlt⟩ := X_57.out
    go_wp2_with fail
    have hCd := C_56.drew
    have hB13 : Below w9.heap.size w9 w9.drew := (Below.refl _ _).drew
    have HXC : Hid (∀ V, Below w9.heap.size w9 V → BoxAt V w.heap.size (.int .i64 k) (.string t) (.slice a1 n1 c1) (.slice a2 n2 c2) (.slice a3 n3 c3)) := fun V hV => X_57.out.below hV
    go_region_held3 (fun w' => w'.cell? ⟨w.heap.size, 0, none⟩ = some (.int .i64 k) ∧ w'.cell? ⟨w.heap.size, 1, none⟩ = some (.string t) ∧ w'.cell? ⟨w.heap.size, 2, none⟩ = some (.slice a1 n1 c1) ∧ w'.cell? ⟨w.heap.size, 3, none⟩ = some (.slice a2 n2 c2) ∧ w'.cell? ⟨w.heap.size, 4, none⟩ = some (.slice a3 n3 c3)) (go_keep) ((first | (go_at_call 14; refine (clamped_any _ _).mono ?_; rintro e w2 ⟨rfl, rfl⟩) | (go_at_call 13; refine (HRO.out _ hCd).mono ?_; rintro e wS ⟨⟨aS, cS, rfl, iS⟩, hbS⟩; have hbX := hB13.trans (hbS.mono (Nat.le_refl _)); obtain ⟨z0, z1, z2, z3, z4, zlt⟩ := HXC.out _ hbX)))
    clear z0 z1 z2 z3 z4 zlt
    clear xc0 xc1 xc2 xc3 xc4 xlt
    have C_58 : Below w.heap.size w wS := C_56.trans (hbX.mono C_56.size)
    have X_59 := hide (X_57.out.below hbX)
    have IA_59 := hide (IA_57.out.below hbX)
    have A_59 := hide (A_57.out.below hbX)
    have IB_59 := hide (IB_57.out.below hbX)
    have B_59 := hide (B_57.out.below hbX)
    have TR_59 := hide (TR_57.out.below hbX)
    have TW_59 := hide (TW_57.out.below hbX)
    have IY_59 := hide (IY_57.out.below hbX)
    have Y_59 := hide (Y_57.out.below hbX)
    have IZ_59 := hide (IZ_57.out.below hbX)
    have Z_59 := hide (Z_57.out.below hbX)
    clear X_57 IA_57 A_57 IB_57 B_57 TR_57 TW_57 IY_57 Y_57 IZ_57 Z_57
    have TS_60 := hide (iS)
    clear iS HXC hbX hB13 hCd
    obtain ⟨xc0, xc1, xc2, xc3, xc4, xlt⟩ := X_59.out
    go_wp2_with fail
    refine (HWO.out _ C_58).mono ?_
    rintro e w10 ⟨⟨aV, cV, rfl, iV⟩, hb10⟩
    clear xc0 xc1 xc2 xc3 xc4 xlt
    have C_61 : Below w.heap.size w w10 := C_58.trans (hb10.mono C_58.size)
    clear C_58
    have X_62 := hide (X_59.out.below hb10)
    have IA_62 := hide (IA_59.out.below hb10)
    have A_62 := hide (A_59.out.below hb10)
    have IB_62 := hide (IB_59.out.below hb10)
    have B_62 := hide (B_59.out.below hb10)
    have TR_62 := hide (TR_59.out.below hb10)
    have TW_62 := hide (TW_59.out.below hb10)
    have IY_62 := hide (IY_59.out.below hb10)
    have Y_62 := hide (Y_59.out.below hb10)
    have IZ_62 := hide (IZ_59.out.below hb10)
    have Z_62 := hide (Z_59.out.below hb10)
    have TS_62 := hide (TS_60.out.below hb10)
    clear X_59 IA_59 A_59 IB_59 B_59 TR_59 TW_59 IY_59 Y_59 IZ_59 Z_59 TS_60
    clear hb10
    have TV_63 := hide (iV)
    clear iV
    go_wp2_with fail
    refine (HG.out _).mono ?_
    rintro e w11 ⟨rfl, hb11⟩
    have C_64 : Below w.heap.size w w11 := C_61.trans (hb11.mono C_61.size)
    clear C_61
    have X_65 := hide (X_62.out.below hb11)
    have IA_65 := hide (IA_62.out.below hb11)
    have A_65 := hide (A_62.out.below hb11)
    have IB_65 := hide (IB_62.out.below hb11)
    have B_65 := hide (B_62.out.below hb11)
    have TR_65 := hide (TR_62.out.below hb11)
    have TW_65 := hide (TW_62.out.below hb11)
    have IY_65 := hide (IY_62.out.below hb11)
    have Y_65 := hide (Y_62.out.below hb11)
    have IZ_65 := hide (IZ_62.out.below hb11)
    have Z_65 := hide (Z_62.out.below hb11)
    have TS_65 := hide (TS_62.out.below hb11)
    have TV_65 := hide (TV_63.out.below hb11)
    clear X_62 IA_62 A_62 IB_62 B_62 TR_62 TW_62 IY_62 Y_62 IZ_62 Z_62 TS_62 TV_63
    clear hb11
    obtain ⟨ac0, ac1, ac2, ac3, ac4, alt⟩ := A_65.out
    obtain ⟨yc0, yc1, yc2, yc3, yc4, ylt⟩ := Y_65.out
    go_wp2_with fail
    refine (HIA.out _ _ _ IA_65.out IY_65.out).mono ?_
    rintro e w12 ⟨rfl, hb12⟩
    clear ac0 ac1 ac2 ac3 ac4 alt yc0 yc1 yc2 yc3 yc4 ylt
    have C_66 : Below w.heap.size w w12 := C_64.trans (hb12.mono C_64.size)
    clear C_64
    have X_67 := hide (X_65.out.below hb12)
    have IA_67 := hide (IA_65.out.below hb12)
    have A_67 := hide (A_65.out.below hb12)
    have IB_67 := hide (IB_65.out.below hb12)
    have B_67 := hide (B_65.out.below hb12)
    have TR_67 := hide (TR_65.out.below hb12)
    have TW_67 := hide (TW_65.out.below hb12)
    have IY_67 := hide (IY_65.out.below hb12)
    have Y_67 := hide (Y_65.out.below hb12)
    have IZ_67 := hide (IZ_65.out.below hb12)
    have Z_67 := hide (Z_65.out.below hb12)
    have TS_67 := hide (TS_65.out.below hb12)
    have TV_67 := hide (TV_65.out.below hb12)
    clear X_65 IA_65 A_65 IB_65 B_65 TR_65 TW_65 IY_65 Y_65 IZ_65 Z_65 TS_65 TV_65
    clear hb12
    obtain ⟨bc0, bc1, bc2, bc3, bc4, blt⟩ := B_67.out
    obtain ⟨zc0, zc1, zc2, zc3, zc4, zlt⟩ := Z_67.out
    go_wp2_with fail
    refine (HIB.out _ _ _ IB_67.out IZ_67.out).mono ?_
    rintro e w13 ⟨rfl, hb13⟩
    clear bc0 bc1 bc2 bc3 bc4 blt zc0 zc1 zc2 zc3 zc4 zlt
    have C_68 : Below w.heap.size w w13 := C_66.trans (hb13.mono C_66.size)
    clear C_66
    have X_69 := hide (X_67.out.below hb13)
    have IA_69 := hide (IA_67.out.below hb13)
    have A_69 := hide (A_67.out.below hb13)
    have IB_69 := hide (IB_67.out.below hb13)
    have B_69 := hide (B_67.out.below hb13)
    have TR_69 := hide (TR_67.out.below hb13)
    have TW_69 := hide (TW_67.out.below hb13)
    have IY_69 := hide (IY_67.out.below hb13)
    have Y_69 := hide (Y_67.out.below hb13)
    have IZ_69 := hide (IZ_67.out.below hb13)
    have Z_69 := hide (Z_67.out.below hb13)
    have TS_69 := hide (TS_67.out.below hb13)
    have TV_69 := hide (TV_67.out.below hb13)
    clear X_67 IA_67 A_67 IB_67 B_67 TR_67 TW_67 IY_67 Y_67 IZ_67 Z_67 TS_67 TV_67
    clear hb13
    go_wp2_with fail
    refine (HSR.out _ _ _ _ _ TR_69.out TS_69.out).mono ?_
    rintro e w14 ⟨rfl, hb14⟩
    have C_70 : Below w.heap.size w w14 := C_68.trans (hb14.mono C_68.size)
    clear C_68
    have X_71 := hide (X_69.out.below hb14)
    have IA_71 := hide (IA_69.out.below hb14)
    have A_71 := hide (A_69.out.below hb14)
    have IB_71 := hide (IB_69.out.below hb14)
    have B_71 := hide (B_69.out.below hb14)
    have TR_71 := hide (TR_69.out.below hb14)
    have TW_71 := hide (TW_69.out.below hb14)
    have IY_71 := hide (IY_69.out.below hb14)
    have Y_71 := hide (Y_69.out.below hb14)
    have IZ_71 := hide (IZ_69.out.below hb14)
    have Z_71 := hide (Z_69.out.below hb14)
    have TS_71 := hide (TS_69.out.below hb14)
    have TV_71 := hide (TV_69.out.below hb14)
    clear X_69 IA_69 A_69 IB_69 B_69 TR_69 TW_69 IY_69 Y_69 IZ_69 Z_69 TS_69 TV_69
    clear hb14
    go_wp2_with fail
    refine (HSW.out _ _ _ _ _ TW_71.out TV_71.out).mono ?_
    rintro e w15 ⟨rfl, hb15⟩
    have C_72 : Below w.heap.size w w15 := C_70.trans (hb15.mono C_70.size)
    clear C_70
    have X_73 := hide (X_71.out.below hb15)
    have IA_73 := hide (IA_71.out.below hb15)
    have A_73 := hide (A_71.out.below hb15)
    have IB_73 := hide (IB_71.out.below hb15)
    have B_73 := hide (B_71.out.below hb15)
    have TR_73 := hide (TR_71.out.below hb15)
    have TW_73 := hide (TW_71.out.below hb15)
    have IY_73 := hide (IY_71.out.below hb15)
    have Y_73 := hide (Y_71.out.below hb15)
    have IZ_73 := hide (IZ_71.out.below hb15)
    have Z_73 := hide (Z_71.out.below hb15)
    have TS_73 := hide (TS_71.out.below hb15)
    have TV_73 := hide (TV_71.out.below hb15)
    clear X_71 IA_71 A_71 IB_71 B_71 TR_71 TW_71 IY_71 Y_71 IZ_71 Z_71 TS_71 TV_71
    clear hb15
    go_wp2_with fail
    go_ret
    exact ⟨rfl, C_72⟩
end Go.Proofs.YtnobcdhlagfhmaaGreat.Z
