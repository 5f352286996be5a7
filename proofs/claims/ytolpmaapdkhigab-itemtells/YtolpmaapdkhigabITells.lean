/- WALK of ItemTells. -/
import Derived.Test.YtolpmaapdkhigabIBeg
import Derived.Test.YtolpmaapdkhigabRItm3
import Derived.Test.YtolpmaapdkhigabRByt2
import Derived.Handy
namespace Go.Proofs.Ytolpmaapdkhigab
open Go.RowKit

set_option maxRecDepth 100000 in
set_option maxHeartbeats 1000000 in
theorem itemBytes_one (t : ByteArray) (a1 a2 a3 : Option Addr) (n1 n2 n3 c1 c2 c3 : Nat) (w : World) (ht : t.size ≤ 60) :
    Calls Try.prog 11 #[.agg #[.int .i64 1, .string t, .slice a1 n1 c1, .slice a2 n2 c2, .slice a3 n3 c3]] w fun e w' => e = .returned (.string ⟨(1 :: t.data.toList).toArray⟩) ∧ Below w.heap.size w w' := by
  go_enter Try.func11, Try.ntmps11
  go_wp2_with fail
  have C_0 : Below w.heap.size w (w.alloc (.cells #[.int .i64 1, .string t, .slice a1 n1 c1, .slice a2 n2 c2, .slice a3 n3 c3] 31)) := (Below.refl _ w).alloc (Nat.le_refl _) _
  have X_1 := hide (BoxAt.new w (.int .i64 1) (.string t) (.slice a1 n1 c1) (.slice a2 n2 c2) (.slice a3 n3 c3) 31)
  refine (refOneB_any 1 _ (by omega) (by omega)).mono ?_
  rintro e w1 ⟨rfl, hb1⟩
  have C_2 : Below w.heap.size w w1 := C_0.trans (hb1.mono C_0.size)
  clear C_0
  have X_3 := hide (X_1.out.below hb1)
  clear X_1
  clear hb1
  obtain ⟨xc0, xc1, xc2, xc3, xc4, xlt⟩ := X_3.out
  have hj : ¬ 9223372036854775807 < (⟨#[UInt8.ofNat (1 : Int).toNat]⟩ : ByteArray).size + t.size := by rw [show (⟨#[UInt8.ofNat (1 : Int).toNat]⟩ : ByteArray).size = 1 from rfl]; omega
  go_wp2_with fail
  go_ret
  refine ⟨?_, C_2⟩
  exact congrArg (fun z => Ending.returned (.string z)) (ba_of (by rw [list_append]; rfl))
theorem itemBytes_any (v : Value) (x : Itm) (w : World) (h : ItemIs w v x) (h0 : chkI x = 0) :
    Calls Try.prog 11 #[v] w fun e w' => e = .returned (.string ⟨(encI x).toArray⟩) ∧ Below w.heap.size w w' := by
  have R := right_of h0
  obtain ⟨⟨a1, c1, a2, c2, a3, c3, rfl, hx1, hx2, hx3⟩, -, -, -, -, -, -, -⟩ := h
  by_cases hk : x.k = 1
  · have hh := itemBytes_one x.t a1 a2 a3 x.l.length x.p.length x.s.length c1 c2 c3 w R.tz
    rw [encI, if_pos hk, hk]
    exact hh
  · rw [encI, if_neg hk]
    have hh := itemBytes_many x.k x.t a1 a2 a3 c1 c2 c3 x.l x.p x.s w (by have := R.k1; omega) R.k5 hx1 R.ln R.pn R.sn R.lz hx2 R.pz (fun t ht => by
      have h1 := (R.pz t ht).1
      have h2 := (R.pz t ht).2
      unfold encP encT
      rw [List.length_append, List.length_cons, List.length_cons, size_list, size_list]
      omega) hx3 (fun t ht => ⟨R.sz t ht, R.sr t ht⟩) (fun t ht => by
      have h1 := R.sz t ht
      unfold encS num4 encT
      simp only [List.length_append, List.length_cons, List.length_nil, size_list]
      omega)
    have e : ([UInt8.ofNat x.k.toNat, UInt8.ofNat (x.l.length + x.p.length + x.s.length)] ++ (x.l.map encT).flatten ++ (x.p.map encP).flatten ++ (x.s.map encS).flatten) = UInt8.ofNat x.k.toNat :: UInt8.ofNat (manyI x) :: bodyI x := by
      simp [bodyI, manyI, List.append_assoc]
    rw [e] at hh
    exact hh
theorem dec_map {α : Type} {l : List UInt8} {o : Option α} {f : α → Itm} (h : pItem l = o.map f) : (o = none → decE l = 1 ∧ decI l = Itm.none) ∧ (∀ xs, o = some xs → decE l = chkI (f xs) ∧ (chkI (f xs) = 0 → decI l = f xs) ∧ (chkI (f xs) ≠ 0 → decI l = Itm.none)) := by
  refine ⟨fun e => dec_none (by rw [h, e]; rfl), fun xs e => dec_some (by rw [h, e]; rfl)⟩
theorem itemOf_any (s : ByteArray) (w : World) (hs : s.size ≤ 281474976710656) :
    Calls Try.prog 12 #[.string s] w fun e w' => ∃ u, e = .returned (.tuple #[u, .int .i64 (decE s.data.toList)]) ∧ (∀ W, Stays w.heap.size w' W → ItemIs W u (decI s.data.toList)) ∧ Below w.heap.size w w' := by
  have es := bytes_mkT s
  cases hl : s.data.toList with
  | nil =>
    rw [hl] at es
    have hd := dec_none (l := s.data.toList) (by rw [hl]; rfl)
    have hh := itemOf_nil s w hs es.symm hd
    rw [hl] at hh
    exact hh
  | cons c l =>
    rw [hl] at es
    have hp : pItem s.data.toList = pItem (c :: l) := by rw [hl]
    rw [← hl]
    simp only [pItem] at hp
    by_cases h1 : c.toNat = 1
    · rw [if_pos h1] at hp
      exact itemOf_text s c ⟨l.toArray⟩ w hs (by rw [toList_mk]; exact es.symm) h1 (dec_some hp)
    rw [if_neg h1] at hp
    by_cases h2 : c.toNat = 2
    · rw [if_pos h2] at hp
      obtain ⟨d1, d2⟩ := dec_map hp
      exact itemOf_2 s c l w hs es.symm h2 d1 d2
    rw [if_neg h2] at hp
    by_cases h3 : c.toNat = 3
    · rw [if_pos h3] at hp
      obtain ⟨d1, d2⟩ := dec_map hp
      exact itemOf_3 s c l w hs es.symm h3 d1 d2
    rw [if_neg h3] at hp
    by_cases h4 : c.toNat = 4
    · rw [if_pos h4] at hp
      obtain ⟨d1, d2⟩ := dec_map hp
      exact itemOf_4 s c l w hs es.symm h4 d1 d2
    rw [if_neg h4] at hp
    by_cases h5 : c.toNat = 5
    · rw [if_pos h5] at hp
      obtain ⟨d1, d2⟩ := dec_map hp
      exact itemOf_5 s c l w hs es.symm h5 d1 d2
    rw [if_neg h5] at hp
    exact itemOf_other s c l w hs es.symm (by omega) (dec_none hp)
set_option maxRecDepth 100000 in
set_option maxHeartbeats 8000000 in
theorem itemTells_walk (v : Value) (x : Itm) (s : ByteArray) (w : World) (h : ItemIs w v x) (hs : s.size ≤ 281474976710656) :
    Calls Try.prog 4 #[v, .string s] w fun e w' => e = .returned (.bool true) ∧ Below w.heap.size w w' := by
  have HI := hide h
  obtain ⟨⟨a1, c1, a2, c2, a3, c3, rfl, -, -, -⟩, -, -, -, -, -, -, -⟩ := h
  have HG := hide itemBegun_any
  have HE : Hid (∀ W, Below w.heap.size w W → Calls Try.prog 8 #[.agg #[.int .i64 x.k, .string x.t, .slice a1 x.l.length c1, .slice a2 x.p.length c2, .slice a3 x.s.length c3]] W fun e w' => e = .returned (.tuple #[.string ⟨(encV x).toArray⟩, .int .i64 (chkI x)]) ∧ Below W.heap.size W w') := fun W hW => encode_any _ x W (HI.out.below hW)
  have HK : Hid (∀ W, Below w.heap.size w W → Calls Try.prog 14 #[.agg #[.int .i64 x.k, .string x.t, .slice a1 x.l.length c1, .slice a2 x.p.length c2, .slice a3 x.s.length c3]] W fun e w' => e = .returned (.int .i64 (chkI x)) ∧ Below W.heap.size W w') := fun W hW => check_any _ x W (HI.out.below hW)
  have HC : Hid (∀ W, Below w.heap.size w W → Calls Try.prog 10 #[.agg #[.int .i64 x.k, .string x.t, .slice a1 x.l.length c1, .slice a2 x.p.length c2, .slice a3 x.s.length c3]] W fun e w' => e = .returned (.int .i64 (chkI x)) ∧ Below W.heap.size W w') := fun W hW => refCheck_any _ x W (HI.out.below hW)
  have HB : Hid (chkI x = 0 → ∀ W, Below w.heap.size w W → Calls Try.prog 11 #[.agg #[.int .i64 x.k, .string x.t, .slice a1 x.l.length c1, .slice a2 x.p.length c2, .slice a3 x.s.length c3]] W fun e w' => e = .returned (.string ⟨(encI x).toArray⟩) ∧ Below W.heap.size W w') := fun h0 W hW => itemBytes_any _ x W (HI.out.below hW) h0
  have HD : Hid (∀ W, Below w.heap.size w W → Calls Try.prog 9 #[.string s] W fun e w' => ∃ u, (e = .returned (.tuple #[u, .int .i64 (decE s.data.toList)]) ∧ ItemIs w' u (decI s.data.toList)) ∧ Below W.heap.size W w') := fun W _ => (decode_any s W hs).mono fun e w' ⟨u, h1, h2, h3⟩ => ⟨u, ⟨h1, h2 w' (fun _ _ _ _ h => h)⟩, h3⟩
  have HO : Hid (∀ W, Below w.heap.size w W → Calls Try.prog 12 #[.string s] W fun e w' => ∃ u, (e = .returned (.tuple #[u, .int .i64 (decE s.data.toList)]) ∧ ItemIs w' u (decI s.data.toList)) ∧ Below W.heap.size W w') := fun W _ => (itemOf_any s W hs).mono fun e w' ⟨u, h1, h2, h3⟩ => ⟨u, ⟨h1, h2 w' (fun _ _ _ _ h => h)⟩, h3⟩
  have HS : Hid (∀ v u W, ItemIs W v (decI s.data.toList) → ItemIs W u (decI s.data.toList) → Calls Try.prog 15 #[v, u] W fun e w' => e = .returned (.bool true) ∧ Below W.heap.size W w') := fun v u W h1 h2 => by
    have hh := sameItem_any v u _ _ W h1 h2
    rw [show sameI (decI s.data.toList) (decI s.data.toList) = true by simp [sameI]] at hh
    exact hh
  generalize decI s.data.toList = DI at *
  generalize decE s.data.toList = DE at *
  by_cases h0 : chkI x = 0
  · rw [encV, if_pos h0, h0] at HE
    rw [h0] at HK HC
    replace HB := hide (HB.out h0)
    clear h0 HI
    generalize (⟨(encI x).toArray⟩ : ByteArray) = T at *
    generalize x.k = k at *
    generalize x.t = t at *
    generalize x.l.length = n1 at *
    generalize x.p.length = n2 at *
    generalize x.s.length = n3 at *
    go_enter Try.func4, Try.ntmps4
    go_wp2_with fail
    have C_0 : Below w.heap.size w (w.alloc (.cells #[.int .i64 k, .string t, .slice a1 n1 c1, .slice a2 n2 c2, .slice a3 n3 c3] 31)) := (Below.refl _ w).alloc (Nat.le_refl _) _
    have X_1 := hide (BoxAt.new w (.int .i64 k) (.string t) (.slice a1 n1 c1) (.slice a2 n2 c2) (.slice a3 n3 c3) 31)
    refine (HE.out _ C_0).mono ?_
    rintro e w1 ⟨rfl, hb1⟩
    have C_2 : Below w.heap.size w w1 := C_0.trans (hb1.mono C_0.size)
    clear C_0
    have X_3 := hide (X_1.out.below hb1)
    clear X_1
    clear hb1
    go_wp2_with fail
    refine (HD.out _ C_2).mono ?_
    rintro e w2 ⟨uY, ⟨rfl, iY⟩, hb2⟩
    have C_4 : Below w.heap.size w w2 := C_2.trans (hb2.mono C_2.size)
    clear C_2
    have X_5 := hide (X_3.out.below hb2)
    clear X_3
    clear hb2
    obtain ⟨kY, tY, aY1, nY1, cY1, aY2, nY2, cY2, aY3, nY3, cY3, rfl⟩ := iY.shaped
    have IY_6 := hide (iY)
    clear iY
    obtain ⟨xc0, xc1, xc2, xc3, xc4, xlt⟩ := X_5.out
    go_wp2_with fail
    have X_7 := hide (X_5.out.below ((Below.refl _ w2).alloc (Nat.le_refl _) (.cells #[.int .i64 kY, .string tY, .slice aY1 nY1 cY1, .slice aY2 nY2 cY2, .slice aY3 nY3 cY3] 31)))
    clear X_5
    have IY_8 := hide (IY_6.out.below ((Below.refl _ w2).alloc (Nat.le_refl _) (.cells #[.int .i64 kY, .string tY, .slice aY1 nY1 cY1, .slice aY2 nY2 cY2, .slice aY3 nY3 cY3] 31)))
    clear IY_6
    have C_9 : Below w.heap.size w (w2.alloc (.cells #[.int .i64 kY, .string tY, .slice aY1 nY1 cY1, .slice aY2 nY2 cY2, .slice aY3 nY3 cY3] 31)) := C_4.alloc C_4.size (.cells #[.int .i64 kY, .string tY, .slice aY1 nY1 cY1, .slice aY2 nY2 cY2, .slice aY3 nY3 cY3] 31)
    clear C_4
    have Y_10 := hide (BoxAt.new w2 (.int .i64 kY) (.string tY) (.slice aY1 nY1 cY1) (.slice aY2 nY2 cY2) (.slice aY3 nY3 cY3) 31)
    refine (HC.out _ C_9).mono ?_
    rintro e w3 ⟨rfl, hb3⟩
    clear xc0 xc1 xc2 xc3 xc4 xlt
    have C_11 : Below w.heap.size w w3 := C_9.trans (hb3.mono C_9.size)
    clear C_9
    have X_12 := hide (X_7.out.below hb3)
    have IY_12 := hide (IY_8.out.below hb3)
    have Y_12 := hide (Y_10.out.below hb3)
    clear X_7 IY_8 Y_10
    clear hb3
    obtain ⟨xc0, xc1, xc2, xc3, xc4, xlt⟩ := X_12.out
    go_wp2_with fail
    refine (HB.out _ C_11).mono ?_
    rintro e w4 ⟨rfl, hb4⟩
    clear xc0 xc1 xc2 xc3 xc4 xlt
    have C_13 : Below w.heap.size w w4 := C_11.trans (hb4.mono C_11.size)
    clear C_11
    have X_14 := hide (X_12.out.below hb4)
    have IY_14 := hide (IY_12.out.below hb4)
    have Y_14 := hide (Y_12.out.below hb4)
    clear X_12 IY_12 Y_12
    clear hb4
    go_wp2_with fail
    refine (HO.out _ C_13).mono ?_
    rintro e w5 ⟨uZ, ⟨rfl, iZ⟩, hb5⟩
    have C_15 : Below w.heap.size w w5 := C_13.trans (hb5.mono C_13.size)
    clear C_13
    have X_16 := hide (X_14.out.below hb5)
    have IY_16 := hide (IY_14.out.below hb5)
    have Y_16 := hide (Y_14.out.below hb5)
    clear X_14 IY_14 Y_14
    clear hb5
    obtain ⟨kZ, tZ, aZ1, nZ1, cZ1, aZ2, nZ2, cZ2, aZ3, nZ3, cZ3, rfl⟩ := iZ.shaped
    have IZ_17 := hide (iZ)
    clear iZ
    go_wp2_with fail
    have X_18 := hide (X_16.out.below ((Below.refl _ w5).alloc (Nat.le_refl _) (.cells #[.int .i64 kZ, .string tZ, .slice aZ1 nZ1 cZ1, .slice aZ2 nZ2 cZ2, .slice aZ3 nZ3 cZ3] 31)))
    clear X_16
    have IY_19 := hide (IY_16.out.below ((Below.refl _ w5).alloc (Nat.le_refl _) (.cells #[.int .i64 kZ, .string tZ, .slice aZ1 nZ1 cZ1, .slice aZ2 nZ2 cZ2, .slice aZ3 nZ3 cZ3] 31)))
    clear IY_16
    have Y_20 := hide (Y_16.out.below ((Below.refl _ w5).alloc (Nat.le_refl _) (.cells #[.int .i64 kZ, .string tZ, .slice aZ1 nZ1 cZ1, .slice aZ2 nZ2 cZ2, .slice aZ3 nZ3 cZ3] 31)))
    clear Y_16
    have IZ_21 := hide (IZ_17.out.below ((Below.refl _ w5).alloc (Nat.le_refl _) (.cells #[.int .i64 kZ, .string tZ, .slice aZ1 nZ1 cZ1, .slice aZ2 nZ2 cZ2, .slice aZ3 nZ3 cZ3] 31)))
    clear IZ_17
    have C_22 : Below w.heap.size w (w5.alloc (.cells #[.int .i64 kZ, .string tZ, .slice aZ1 nZ1 cZ1, .slice aZ2 nZ2 cZ2, .slice aZ3 nZ3 cZ3] 31)) := C_15.alloc C_15.size (.cells #[.int .i64 kZ, .string tZ, .slice aZ1 nZ1 cZ1, .slice aZ2 nZ2 cZ2, .slice aZ3 nZ3 cZ3] 31)
    clear C_15
    have Z_23 := hide (BoxAt.new w5 (.int .i64 kZ) (.string tZ) (.slice aZ1 nZ1 cZ1) (.slice aZ2 nZ2 cZ2) (.slice aZ3 nZ3 cZ3) 31)
    refine (HG.out _).mono ?_
    rintro e w6 ⟨rfl, hb6⟩
    have C_24 : Below w.heap.size w w6 := C_22.trans (hb6.mono C_22.size)
    clear C_22
    have X_25 := hide (X_18.out.below hb6)
    have IY_25 := hide (IY_19.out.below hb6)
    have Y_25 := hide (Y_20.out.below hb6)
    have IZ_25 := hide (IZ_21.out.below hb6)
    have Z_25 := hide (Z_23.out.below hb6)
    clear X_18 IY_19 Y_20 IZ_21 Z_23
    clear hb6
    obtain ⟨xc0, xc1, xc2, xc3, xc4, xlt⟩ := X_25.out
    go_wp2_with fail
    refine (HK.out _ C_24).mono ?_
    rintro e w7 ⟨rfl, hb7⟩
    clear xc0 xc1 xc2 xc3 xc4 xlt
    have C_26 : Below w.heap.size w w7 := C_24.trans (hb7.mono C_24.size)
    clear C_24
    have X_27 := hide (X_25.out.below hb7)
    have IY_27 := hide (IY_25.out.below hb7)
    have Y_27 := hide (Y_25.out.below hb7)
    have IZ_27 := hide (IZ_25.out.below hb7)
    have Z_27 := hide (Z_25.out.below hb7)
    clear X_25 IY_25 Y_25 IZ_25 Z_25
    clear hb7
    obtain ⟨yc0, yc1, yc2, yc3, yc4, ylt⟩ := Y_27.out
    obtain ⟨zc0, zc1, zc2, zc3, zc4, zlt⟩ := Z_27.out
    go_wp2_with fail
    refine (HS.out _ _ _ IY_27.out IZ_27.out).mono ?_
    rintro e w8 ⟨rfl, hb8⟩
    clear yc0 yc1 yc2 yc3 yc4 ylt zc0 zc1 zc2 zc3 zc4 zlt
    have C_28 : Below w.heap.size w w8 := C_26.trans (hb8.mono C_26.size)
    clear C_26
    have X_29 := hide (X_27.out.below hb8)
    have IY_29 := hide (IY_27.out.below hb8)
    have Y_29 := hide (Y_27.out.below hb8)
    have IZ_29 := hide (IZ_27.out.below hb8)
    have Z_29 := hide (Z_27.out.below hb8)
    clear X_27 IY_27 Y_27 IZ_27 Z_27
    clear hb8
    go_wp2_with fail
    go_ret
    exact ⟨rfl, C_28⟩
  · have h0' : (chkI x == 0) = false := by rw [beq_eq_false_iff_ne]; exact h0
    rw [encV, if_neg h0] at HE
    clear h0 HI HB
    generalize chkI x = E at *
    generalize x.k = k at *
    generalize x.t = t at *
    generalize x.l.length = n1 at *
    generalize x.p.length = n2 at *
    generalize x.s.length = n3 at *
    go_enter Try.func4, Try.ntmps4
    go_wp2_with fail
    have C_0 : Below w.heap.size w (w.alloc (.cells #[.int .i64 k, .string t, .slice a1 n1 c1, .slice a2 n2 c2, .slice a3 n3 c3] 31)) := (Below.refl _ w).alloc (Nat.le_refl _) _
    have X_1 := hide (BoxAt.new w (.int .i64 k) (.string t) (.slice a1 n1 c1) (.slice a2 n2 c2) (.slice a3 n3 c3) 31)
    refine (HE.out _ C_0).mono ?_
    rintro e w1 ⟨rfl, hb1⟩
    have C_2 : Below w.heap.size w w1 := C_0.trans (hb1.mono C_0.size)
    clear C_0
    have X_3 := hide (X_1.out.below hb1)
    clear X_1
    clear hb1
    go_wp2_with fail
    refine (HD.out _ C_2).mono ?_
    rintro e w2 ⟨uY, ⟨rfl, iY⟩, hb2⟩
    have C_4 : Below w.heap.size w w2 := C_2.trans (hb2.mono C_2.size)
    clear C_2
    have X_5 := hide (X_3.out.below hb2)
    clear X_3
    clear hb2
    obtain ⟨kY, tY, aY1, nY1, cY1, aY2, nY2, cY2, aY3, nY3, cY3, rfl⟩ := iY.shaped
    have IY_6 := hide (iY)
    clear iY
    obtain ⟨xc0, xc1, xc2, xc3, xc4, xlt⟩ := X_5.out
    go_wp2_with fail
    have X_7 := hide (X_5.out.below ((Below.refl _ w2).alloc (Nat.le_refl _) (.cells #[.int .i64 kY, .string tY, .slice aY1 nY1 cY1, .slice aY2 nY2 cY2, .slice aY3 nY3 cY3] 31)))
    clear X_5
    have IY_8 := hide (IY_6.out.below ((Below.refl _ w2).alloc (Nat.le_refl _) (.cells #[.int .i64 kY, .string tY, .slice aY1 nY1 cY1, .slice aY2 nY2 cY2, .slice aY3 nY3 cY3] 31)))
    clear IY_6
    have C_9 : Below w.heap.size w (w2.alloc (.cells #[.int .i64 kY, .string tY, .slice aY1 nY1 cY1, .slice aY2 nY2 cY2, .slice aY3 nY3 cY3] 31)) := C_4.alloc C_4.size (.cells #[.int .i64 kY, .string tY, .slice aY1 nY1 cY1, .slice aY2 nY2 cY2, .slice aY3 nY3 cY3] 31)
    clear C_4
    have Y_10 := hide (BoxAt.new w2 (.int .i64 kY) (.string tY) (.slice aY1 nY1 cY1) (.slice aY2 nY2 cY2) (.slice aY3 nY3 cY3) 31)
    refine (HC.out _ C_9).mono ?_
    rintro e w3 ⟨rfl, hb3⟩
    clear xc0 xc1 xc2 xc3 xc4 xlt
    have C_11 : Below w.heap.size w w3 := C_9.trans (hb3.mono C_9.size)
    clear C_9
    have X_12 := hide (X_7.out.below hb3)
    have IY_12 := hide (IY_8.out.below hb3)
    have Y_12 := hide (Y_10.out.below hb3)
    clear X_7 IY_8 Y_10
    clear hb3
    obtain ⟨xc0, xc1, xc2, xc3, xc4, xlt⟩ := X_12.out
    go_wp2_with fail
    refine (HO.out _ C_11).mono ?_
    rintro e w4 ⟨uZ, ⟨rfl, iZ⟩, hb4⟩
    clear xc0 xc1 xc2 xc3 xc4 xlt
    have C_13 : Below w.heap.size w w4 := C_11.trans (hb4.mono C_11.size)
    clear C_11
    have X_14 := hide (X_12.out.below hb4)
    have IY_14 := hide (IY_12.out.below hb4)
    have Y_14 := hide (Y_12.out.below hb4)
    clear X_12 IY_12 Y_12
    clear hb4
    obtain ⟨kZ, tZ, aZ1, nZ1, cZ1, aZ2, nZ2, cZ2, aZ3, nZ3, cZ3, rfl⟩ := iZ.shaped
    have IZ_15 := hide (iZ)
    clear iZ
    go_wp2_with fail
    have X_16 := hide (X_14.out.below ((Below.refl _ w4).alloc (Nat.le_refl _) (.cells #[.int .i64 kZ, .string tZ, .slice aZ1 nZ1 cZ1, .slice aZ2 nZ2 cZ2, .slice aZ3 nZ3 cZ3] 31)))
    clear X_14
    have IY_17 := hide (IY_14.out.below ((Below.refl _ w4).alloc (Nat.le_refl _) (.cells #[.int .i64 kZ, .string tZ, .slice aZ1 nZ1 cZ1, .slice aZ2 nZ2 cZ2, .slice aZ3 nZ3 cZ3] 31)))
    clear IY_14
    have Y_18 := hide (Y_14.out.below ((Below.refl _ w4).alloc (Nat.le_refl _) (.cells #[.int .i64 kZ, .string tZ, .slice aZ1 nZ1 cZ1, .slice aZ2 nZ2 cZ2, .slice aZ3 nZ3 cZ3] 31)))
    clear Y_14
    have IZ_19 := hide (IZ_15.out.below ((Below.refl _ w4).alloc (Nat.le_refl _) (.cells #[.int .i64 kZ, .string tZ, .slice aZ1 nZ1 cZ1, .slice aZ2 nZ2 cZ2, .slice aZ3 nZ3 cZ3] 31)))
    clear IZ_15
    have C_20 : Below w.heap.size w (w4.alloc (.cells #[.int .i64 kZ, .string tZ, .slice aZ1 nZ1 cZ1, .slice aZ2 nZ2 cZ2, .slice aZ3 nZ3 cZ3] 31)) := C_13.alloc C_13.size (.cells #[.int .i64 kZ, .string tZ, .slice aZ1 nZ1 cZ1, .slice aZ2 nZ2 cZ2, .slice aZ3 nZ3 cZ3] 31)
    clear C_13
    have Z_21 := hide (BoxAt.new w4 (.int .i64 kZ) (.string tZ) (.slice aZ1 nZ1 cZ1) (.slice aZ2 nZ2 cZ2) (.slice aZ3 nZ3 cZ3) 31)
    refine (HG.out _).mono ?_
    rintro e w5 ⟨rfl, hb5⟩
    have C_22 : Below w.heap.size w w5 := C_20.trans (hb5.mono C_20.size)
    clear C_20
    have X_23 := hide (X_16.out.below hb5)
    have IY_23 := hide (IY_17.out.below hb5)
    have Y_23 := hide (Y_18.out.below hb5)
    have IZ_23 := hide (IZ_19.out.below hb5)
    have Z_23 := hide (Z_21.out.below hb5)
    clear X_16 IY_17 Y_18 IZ_19 Z_21
    clear hb5
    obtain ⟨xc0, xc1, xc2, xc3, xc4, xlt⟩ := X_23.out
    go_wp2_with fail
    refine (HK.out _ C_22).mono ?_
    rintro e w6 ⟨rfl, hb6⟩
    clear xc0 xc1 xc2 xc3 xc4 xlt
    have C_24 : Below w.heap.size w w6 := C_22.trans (hb6.mono C_22.size)
    clear C_22
    have X_25 := hide (X_23.out.below hb6)
    have IY_25 := hide (IY_23.out.below hb6)
    have Y_25 := hide (Y_23.out.below hb6)
    have IZ_25 := hide (IZ_23.out.below hb6)
    have Z_25 := hide (Z_23.out.below hb6)
    clear X_23 IY_23 Y_23 IZ_23 Z_23
    clear hb6
    obtain ⟨yc0, yc1, yc2, yc3, yc4, ylt⟩ := Y_25.out
    obtain ⟨zc0, zc1, zc2, zc3, zc4, zlt⟩ := Z_25.out
    go_wp2_with fail
    refine (HS.out _ _ _ IY_25.out IZ_25.out).mono ?_
    rintro e w7 ⟨rfl, hb7⟩
    clear yc0 yc1 yc2 yc3 yc4 ylt zc0 zc1 zc2 zc3 zc4 zlt
    have C_26 : Below w.heap.size w w7 := C_24.trans (hb7.mono C_24.size)
    clear C_24
    have X_27 := hide (X_25.out.below hb7)
    have IY_27 := hide (IY_25.out.below hb7)
    have Y_27 := hide (Y_25.out.below hb7)
    have IZ_27 := hide (IZ_25.out.below hb7)
    have Z_27 := hide (Z_25.out.below hb7)
    clear X_25 IY_25 Y_25 IZ_25 Z_25
    clear hb7
    go_wp2_with fail
    go_ret
    exact ⟨rfl, C_26⟩
end Go.Proofs.Ytolpmaapdkhigab
