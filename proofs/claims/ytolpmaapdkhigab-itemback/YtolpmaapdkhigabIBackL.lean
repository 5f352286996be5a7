/- WALK of ItemBack. -/
import Derived.Test.YtolpmaapdkhigabIBeg
import Derived.Handy
namespace Go.Proofs.Ytolpmaapdkhigab
open Go.RowKit

theorem encI_len {x : Itm} (h : chkI x = 0) : (encI x).length ≤ 20000 := by
  have R := right_of h
  have ht := R.tz
  have h1 := flat_len encT 200 x.l (fun t ht => encT_len (R.lz t ht))
  have h2 := flat_len encP 200 x.p (fun t ht => by
    have h1 := (R.pz t ht).1
    have h2 := (R.pz t ht).2
    unfold encP encT
    rw [List.length_append, List.length_cons, List.length_cons, size_list, size_list]
    omega)
  have h3 := flat_len encS 200 x.s (fun t ht => by
    have h1 := R.sz t ht
    unfold encS num4 encT
    simp only [List.length_append, List.length_cons, List.length_nil, size_list]
    omega)
  have h4 := R.ln
  have h5 := R.pn
  have h6 := R.sn
  unfold encI bodyI
  split
  · rw [List.length_cons, size_list]
    omega
  · simp only [List.length_append, List.length_cons]
    omega
theorem dec_there {x : Itm} (h : chkI x = 0) : decE (encI x) = 0 ∧ decI (encI x) = x := by
  unfold decE decI
  rw [item_there h]
  simp [h]
theorem dec_bad {l : List UInt8} (h : decE l ≠ 0) : decI l = Itm.none := by
  unfold decE at h
  unfold decI
  split
  · rfl
  · rename_i x hx
    rw [hx] at h
    rw [if_neg h]
theorem dec_good {l : List UInt8} (h : decE l = 0) : chkI (decI l) = 0 ∧ encI (decI l) = l := by
  unfold decE at h
  unfold decI
  cases hp : pItem l with
  | none => rw [hp] at h; cases h
  | some x =>
    rw [hp] at h
    simp only at h
    simp only [h, if_true]
    exact ⟨trivial, item_back hp⟩
theorem bytes_mk (s : ByteArray) : (⟨s.data.toList.toArray⟩ : ByteArray) = s := by
  cases s
  simp
set_option maxRecDepth 100000 in
set_option maxHeartbeats 8000000 in
theorem itemBack_walk (v : Value) (x : Itm) (s : ByteArray) (w : World) (h : ItemIs w v x) (hs : s.size ≤ 281474976710656) :
    Calls Try.prog 5 #[v, .string s] w fun e w' => e = .returned (.bool true) ∧ Below w.heap.size w w' := by
  have HI := hide h
  obtain ⟨⟨a1, c1, a2, c2, a3, c3, rfl, -, -, -⟩, -, -, -, -, -, -, -⟩ := h
  have HG := hide itemBegun_any
  have HE : Hid (∀ W, Below w.heap.size w W → Calls Try.prog 8 #[.agg #[.int .i64 x.k, .string x.t, .slice a1 x.l.length c1, .slice a2 x.p.length c2, .slice a3 x.s.length c3]] W fun e w' => e = .returned (.tuple #[.string ⟨(encV x).toArray⟩, .int .i64 (chkI x)]) ∧ Below W.heap.size W w') := fun W hW => encode_any _ x W (HI.out.below hW)
  have HD2 : Hid (∀ W, Below w.heap.size w W → Calls Try.prog 9 #[.string s] W fun e w' => ∃ u, (e = .returned (.tuple #[u, .int .i64 (decE s.data.toList)]) ∧ ItemIs w' u (decI s.data.toList)) ∧ Below W.heap.size W w') := fun W _ => (decode_any s W hs).mono fun e w' ⟨u, h1, h2, h3⟩ => ⟨u, ⟨h1, h2 w' (fun _ _ _ _ h => h)⟩, h3⟩
  have HE2 : Hid (decE s.data.toList = 0 → ∀ v W, ItemIs W v (decI s.data.toList) → Calls Try.prog 8 #[v] W fun e w' => e = .returned (.tuple #[.string s, .int .i64 0]) ∧ Below W.heap.size W w') := fun h0 v W hv => by
    obtain ⟨g1, g2⟩ := dec_good h0
    have hh := encode_any v _ W hv
    rw [encV, if_pos g1, g1, g2, bytes_mk] at hh
    exact hh
  have HB := hide (dec_bad (l := s.data.toList))
  have HD1 : Hid (chkI x = 0 → ∀ W, Below w.heap.size w W → Calls Try.prog 9 #[.string ⟨(encI x).toArray⟩] W fun e w' => ∃ u, (e = .returned (.tuple #[u, .int .i64 0]) ∧ ItemIs w' u x) ∧ Below W.heap.size W w') := fun h0 W _ => by
    have hl := encI_len h0
    have hh := decode_any ⟨(encI x).toArray⟩ W (by rw [size_mk]; omega)
    rw [toList_mk, (dec_there h0).1, (dec_there h0).2] at hh
    exact hh.mono fun e w' ⟨u, h1, h2, h3⟩ => ⟨u, ⟨h1, h2 w' (fun _ _ _ _ h => h)⟩, h3⟩
  have HS : Hid (∀ u W, Below w.heap.size w W → ItemIs W u x → Calls Try.prog 15 #[.agg #[.int .i64 x.k, .string x.t, .slice a1 x.l.length c1, .slice a2 x.p.length c2, .slice a3 x.s.length c3], u] W fun e w' => e = .returned (.bool true) ∧ Below W.heap.size W w') := fun u W hW h2 => by
    have hh := sameItem_any _ u x x W (HI.out.below hW) h2
    rw [show sameI x x = true by simp [sameI]] at hh
    exact hh
  generalize decI s.data.toList = DI at *
  generalize decE s.data.toList = DE at *
  by_cases h0 : chkI x = 0
  · by_cases d0 : DE = 0
    · rw [encV, if_pos h0, h0] at HE
      replace HD1 := hide (HD1.out h0)
      clear h0 HI
      generalize (⟨(encI x).toArray⟩ : ByteArray) = T at *
      replace HE2 := hide (HE2.out d0)
      subst d0
      clear HB
      generalize x.k = k at *
      generalize x.t = t at *
      generalize x.l.length = n1 at *
      generalize x.p.length = n2 at *
      generalize x.s.length = n3 at *
      go_enter Try.func5, Try.ntmps5
      go_wp2_with fail
      have C_0 : Below w.heap.size w (w.alloc (.cells #[.int .i64 k, .string t, .slice a1 n1 c1, .slice a2 n2 c2, .slice a3 n3 c3] 31)) := (Below.refl _ w).alloc (Nat.le_refl _) _
      have X_1 := hide (BoxAt.new w (.int .i64 k) (.string t) (.slice a1 n1 c1) (.slice a2 n2 c2) (.slice a3 n3 c3) 31)
      refine (HG.out _).mono ?_
      rintro e w1 ⟨rfl, hb1⟩
      have C_2 : Below w.heap.size w w1 := C_0.trans (hb1.mono C_0.size)
      clear C_0
      have X_3 := hide (X_1.out.below hb1)
      clear X_1
      clear hb1
      obtain ⟨xc0, xc1, xc2, xc3, xc4, xlt⟩ := X_3.out
      go_wp2_with fail
      refine (HE.out _ C_2).mono ?_
      rintro e w2 ⟨rfl, hb2⟩
      clear xc0 xc1 xc2 xc3 xc4 xlt
      have C_4 : Below w.heap.size w w2 := C_2.trans (hb2.mono C_2.size)
      clear C_2
      have X_5 := hide (X_3.out.below hb2)
      clear X_3
      clear hb2
      obtain ⟨xc0, xc1, xc2, xc3, xc4, xlt⟩ := X_5.out
      go_wp2_with fail
      refine (HD1.out _ C_4).mono ?_
      rintro e w3 ⟨uY, ⟨rfl, iY⟩, hb3⟩
      clear xc0 xc1 xc2 xc3 xc4 xlt
      have C_6 : Below w.heap.size w w3 := C_4.trans (hb3.mono C_4.size)
      clear C_4
      have X_7 := hide (X_5.out.below hb3)
      clear X_5
      clear hb3
      obtain ⟨kY, tY, aY1, nY1, cY1, aY2, nY2, cY2, aY3, nY3, cY3, rfl⟩ := iY.shaped
      have IY_8 := hide (iY)
      clear iY
      obtain ⟨xc0, xc1, xc2, xc3, xc4, xlt⟩ := X_7.out
      go_wp2_with fail
      have X_9 := hide (X_7.out.below ((Below.refl _ w3).alloc (Nat.le_refl _) (.cells #[.int .i64 kY, .string tY, .slice aY1 nY1 cY1, .slice aY2 nY2 cY2, .slice aY3 nY3 cY3] 31)))
      clear X_7
      have IY_10 := hide (IY_8.out.below ((Below.refl _ w3).alloc (Nat.le_refl _) (.cells #[.int .i64 kY, .string tY, .slice aY1 nY1 cY1, .slice aY2 nY2 cY2, .slice aY3 nY3 cY3] 31)))
      clear IY_8
      have C_11 : Below w.heap.size w (w3.alloc (.cells #[.int .i64 kY, .string tY, .slice aY1 nY1 cY1, .slice aY2 nY2 cY2, .slice aY3 nY3 cY3] 31)) := C_6.alloc C_6.size (.cells #[.int .i64 kY, .string tY, .slice aY1 nY1 cY1, .slice aY2 nY2 cY2, .slice aY3 nY3 cY3] 31)
      clear C_6
      have Y_12 := hide (BoxAt.new w3 (.int .i64 kY) (.string tY) (.slice aY1 nY1 cY1) (.slice aY2 nY2 cY2) (.slice aY3 nY3 cY3) 31)
      clear xc0 xc1 xc2 xc3 xc4 xlt
      obtain ⟨xc0, xc1, xc2, xc3, xc4, xlt⟩ := X_9.out
      obtain ⟨yc0, yc1, yc2, yc3, yc4, ylt⟩ := Y_12.out
      refine (HS.out _ _ C_11 IY_10.out).mono ?_
      rintro e w4 ⟨rfl, hb4⟩
      clear xc0 xc1 xc2 xc3 xc4 xlt yc0 yc1 yc2 yc3 yc4 ylt
      have C_13 : Below w.heap.size w w4 := C_11.trans (hb4.mono C_11.size)
      clear C_11
      have X_14 := hide (X_9.out.below hb4)
      have IY_14 := hide (IY_10.out.below hb4)
      have Y_14 := hide (Y_12.out.below hb4)
      clear X_9 IY_10 Y_12
      clear hb4
      obtain ⟨xc0, xc1, xc2, xc3, xc4, xlt⟩ := X_14.out
      go_wp2_with fail
      refine (HD2.out _ C_13).mono ?_
      rintro e w5 ⟨uZ, ⟨rfl, iZ⟩, hb5⟩
      clear xc0 xc1 xc2 xc3 xc4 xlt
      have C_15 : Below w.heap.size w w5 := C_13.trans (hb5.mono C_13.size)
      clear C_13
      have X_16 := hide (X_14.out.below hb5)
      have IY_16 := hide (IY_14.out.below hb5)
      have Y_16 := hide (Y_14.out.below hb5)
      clear X_14 IY_14 Y_14
      clear hb5
      obtain ⟨kZ, tZ, aZ1, nZ1, cZ1, aZ2, nZ2, cZ2, aZ3, nZ3, cZ3, rfl⟩ := iZ.shaped
      have IZ_17 := hide (iZ)
      clear iZ
      go_wp2_with fail
      have X_18 := hide (X_16.out.below ((Below.refl _ w5).alloc (Nat.le_refl _) (.cells #[.int .i64 kZ, .string tZ, .slice aZ1 nZ1 cZ1, .slice aZ2 nZ2 cZ2, .slice aZ3 nZ3 cZ3] 31)))
      clear X_16
      have IY_19 := hide (IY_16.out.below ((Below.refl _ w5).alloc (Nat.le_refl _) (.cells #[.int .i64 kZ, .string tZ, .slice aZ1 nZ1 cZ1, .slice aZ2 nZ2 cZ2, .slice aZ3 nZ3 cZ3] 31)))
      clear IY_16
      have Y_20 := hide (Y_16.out.below ((Below.refl _ w5).alloc (Nat.le_refl _) (.cells #[.int .i64 kZ, .string tZ, .slice aZ1 nZ1 cZ1, .slice aZ2 nZ2 cZ2, .slice aZ3 nZ3 cZ3] 31)))
      clear Y_16
      have IZ_21 := hide (IZ_17.out.below ((Below.refl _ w5).alloc (Nat.le_refl _) (.cells #[.int .i64 kZ, .string tZ, .slice aZ1 nZ1 cZ1, .slice aZ2 nZ2 cZ2, .slice aZ3 nZ3 cZ3] 31)))
      clear IZ_17
      have C_22 : Below w.heap.size w (w5.alloc (.cells #[.int .i64 kZ, .string tZ, .slice aZ1 nZ1 cZ1, .slice aZ2 nZ2 cZ2, .slice aZ3 nZ3 cZ3] 31)) := C_15.alloc C_15.size (.cells #[.int .i64 kZ, .string tZ, .slice aZ1 nZ1 cZ1, .slice aZ2 nZ2 cZ2, .slice aZ3 nZ3 cZ3] 31)
      clear C_15
      have Z_23 := hide (BoxAt.new w5 (.int .i64 kZ) (.string tZ) (.slice aZ1 nZ1 cZ1) (.slice aZ2 nZ2 cZ2) (.slice aZ3 nZ3 cZ3) 31)
      refine (HE2.out _ _ IZ_21.out).mono ?_
      rintro e w6 ⟨rfl, hb6⟩
      have C_24 : Below w.heap.size w w6 := C_22.trans (hb6.mono C_22.size)
      clear C_22
      have X_25 := hide (X_18.out.below hb6)
      have IY_25 := hide (IY_19.out.below hb6)
      have Y_25 := hide (Y_20.out.below hb6)
      have IZ_25 := hide (IZ_21.out.below hb6)
      have Z_25 := hide (Z_23.out.below hb6)
      clear X_18 IY_19 Y_20 IZ_21 Z_23
      clear hb6
      go_wp2_with fail
      go_ret
      exact ⟨rfl, C_24⟩
    · rw [encV, if_pos h0, h0] at HE
      replace HD1 := hide (HD1.out h0)
      clear h0 HI
      generalize (⟨(encI x).toArray⟩ : ByteArray) = T at *
      have d0' : (DE == 0) = false := by rw [beq_eq_false_iff_ne]; exact d0
      obtain rfl := HB.out d0
      clear HE2 HB d0
      generalize x.k = k at *
      generalize x.t = t at *
      generalize x.l.length = n1 at *
      generalize x.p.length = n2 at *
      generalize x.s.length = n3 at *
      go_enter Try.func5, Try.ntmps5
      go_wp2_with fail
      have C_0 : Below w.heap.size w (w.alloc (.cells #[.int .i64 k, .string t, .slice a1 n1 c1, .slice a2 n2 c2, .slice a3 n3 c3] 31)) := (Below.refl _ w).alloc (Nat.le_refl _) _
      have X_1 := hide (BoxAt.new w (.int .i64 k) (.string t) (.slice a1 n1 c1) (.slice a2 n2 c2) (.slice a3 n3 c3) 31)
      refine (HG.out _).mono ?_
      rintro e w1 ⟨rfl, hb1⟩
      have C_2 : Below w.heap.size w w1 := C_0.trans (hb1.mono C_0.size)
      clear C_0
      have X_3 := hide (X_1.out.below hb1)
      clear X_1
      clear hb1
      obtain ⟨xc0, xc1, xc2, xc3, xc4, xlt⟩ := X_3.out
      go_wp2_with fail
      refine (HE.out _ C_2).mono ?_
      rintro e w2 ⟨rfl, hb2⟩
      clear xc0 xc1 xc2 xc3 xc4 xlt
      have C_4 : Below w.heap.size w w2 := C_2.trans (hb2.mono C_2.size)
      clear C_2
      have X_5 := hide (X_3.out.below hb2)
      clear X_3
      clear hb2
      obtain ⟨xc0, xc1, xc2, xc3, xc4, xlt⟩ := X_5.out
      go_wp2_with fail
      refine (HD1.out _ C_4).mono ?_
      rintro e w3 ⟨uY, ⟨rfl, iY⟩, hb3⟩
      clear xc0 xc1 xc2 xc3 xc4 xlt
      have C_6 : Below w.heap.size w w3 := C_4.trans (hb3.mono C_4.size)
      clear C_4
      have X_7 := hide (X_5.out.below hb3)
      clear X_5
      clear hb3
      obtain ⟨kY, tY, aY1, nY1, cY1, aY2, nY2, cY2, aY3, nY3, cY3, rfl⟩ := iY.shaped
      have IY_8 := hide (iY)
      clear iY
      obtain ⟨xc0, xc1, xc2, xc3, xc4, xlt⟩ := X_7.out
      go_wp2_with fail
      have X_9 := hide (X_7.out.below ((Below.refl _ w3).alloc (Nat.le_refl _) (.cells #[.int .i64 kY, .string tY, .slice aY1 nY1 cY1, .slice aY2 nY2 cY2, .slice aY3 nY3 cY3] 31)))
      clear X_7
      have IY_10 := hide (IY_8.out.below ((Below.refl _ w3).alloc (Nat.le_refl _) (.cells #[.int .i64 kY, .string tY, .slice aY1 nY1 cY1, .slice aY2 nY2 cY2, .slice aY3 nY3 cY3] 31)))
      clear IY_8
      have C_11 : Below w.heap.size w (w3.alloc (.cells #[.int .i64 kY, .string tY, .slice aY1 nY1 cY1, .slice aY2 nY2 cY2, .slice aY3 nY3 cY3] 31)) := C_6.alloc C_6.size (.cells #[.int .i64 kY, .string tY, .slice aY1 nY1 cY1, .slice aY2 nY2 cY2, .slice aY3 nY3 cY3] 31)
      clear C_6
      have Y_12 := hide (BoxAt.new w3 (.int .i64 kY) (.string tY) (.slice aY1 nY1 cY1) (.slice aY2 nY2 cY2) (.slice aY3 nY3 cY3) 31)
      clear xc0 xc1 xc2 xc3 xc4 xlt
      obtain ⟨xc0, xc1, xc2, xc3, xc4, xlt⟩ := X_9.out
      obtain ⟨yc0, yc1, yc2, yc3, yc4, ylt⟩ := Y_12.out
      refine (HS.out _ _ C_11 IY_10.out).mono ?_
      rintro e w4 ⟨rfl, hb4⟩
      clear xc0 xc1 xc2 xc3 xc4 xlt yc0 yc1 yc2 yc3 yc4 ylt
      have C_13 : Below w.heap.size w w4 := C_11.trans (hb4.mono C_11.size)
      clear C_11
      have X_14 := hide (X_9.out.below hb4)
      have IY_14 := hide (IY_10.out.below hb4)
      have Y_14 := hide (Y_12.out.below hb4)
      clear X_9 IY_10 Y_12
      clear hb4
      obtain ⟨xc0, xc1, xc2, xc3, xc4, xlt⟩ := X_14.out
      go_wp2_with fail
      refine (HD2.out _ C_13).mono ?_
      rintro e w5 ⟨uZ, ⟨rfl, iZ⟩, hb5⟩
      clear xc0 xc1 xc2 xc3 xc4 xlt
      have C_15 : Below w.heap.size w w5 := C_13.trans (hb5.mono C_13.size)
      clear C_13
      have X_16 := hide (X_14.out.below hb5)
      have IY_16 := hide (IY_14.out.below hb5)
      have Y_16 := hide (Y_14.out.below hb5)
      clear X_14 IY_14 Y_14
      clear hb5
      obtain ⟨⟨z1, d1, z2, d2, z3, d3, rfl, -, -, -⟩, -, -, -, -, -, -, -⟩ := iZ
      simp only [Itm.none, List.length_nil]
      go_wp2_with fail
      go_ret
      exact ⟨rfl, C_15.alloc C_15.size _⟩
  · by_cases d0 : DE = 0
    · have h0' : (chkI x == 0) = false := by rw [beq_eq_false_iff_ne]; exact h0
      rw [encV, if_neg h0] at HE
      clear h0 HI HD1 HS
      generalize chkI x = E at *
      replace HE2 := hide (HE2.out d0)
      subst d0
      clear HB
      generalize x.k = k at *
      generalize x.t = t at *
      generalize x.l.length = n1 at *
      generalize x.p.length = n2 at *
      generalize x.s.length = n3 at *
      go_enter Try.func5, Try.ntmps5
      go_wp2_with fail
      have C_0 : Below w.heap.size w (w.alloc (.cells #[.int .i64 k, .string t, .slice a1 n1 c1, .slice a2 n2 c2, .slice a3 n3 c3] 31)) := (Below.refl _ w).alloc (Nat.le_refl _) _
      have X_1 := hide (BoxAt.new w (.int .i64 k) (.string t) (.slice a1 n1 c1) (.slice a2 n2 c2) (.slice a3 n3 c3) 31)
      refine (HG.out _).mono ?_
      rintro e w1 ⟨rfl, hb1⟩
      have C_2 : Below w.heap.size w w1 := C_0.trans (hb1.mono C_0.size)
      clear C_0
      have X_3 := hide (X_1.out.below hb1)
      clear X_1
      clear hb1
      obtain ⟨xc0, xc1, xc2, xc3, xc4, xlt⟩ := X_3.out
      go_wp2_with fail
      refine (HE.out _ C_2).mono ?_
      rintro e w2 ⟨rfl, hb2⟩
      clear xc0 xc1 xc2 xc3 xc4 xlt
      have C_4 : Below w.heap.size w w2 := C_2.trans (hb2.mono C_2.size)
      clear C_2
      have X_5 := hide (X_3.out.below hb2)
      clear X_3
      clear hb2
      obtain ⟨xc0, xc1, xc2, xc3, xc4, xlt⟩ := X_5.out
      go_wp2_with fail
      refine (HD2.out _ C_4).mono ?_
      rintro e w3 ⟨uZ, ⟨rfl, iZ⟩, hb3⟩
      clear xc0 xc1 xc2 xc3 xc4 xlt
      have C_6 : Below w.heap.size w w3 := C_4.trans (hb3.mono C_4.size)
      clear C_4
      have X_7 := hide (X_5.out.below hb3)
      clear X_5
      clear hb3
      obtain ⟨kZ, tZ, aZ1, nZ1, cZ1, aZ2, nZ2, cZ2, aZ3, nZ3, cZ3, rfl⟩ := iZ.shaped
      have IZ_8 := hide (iZ)
      clear iZ
      go_wp2_with fail
      have X_9 := hide (X_7.out.below ((Below.refl _ w3).alloc (Nat.le_refl _) (.cells #[.int .i64 kZ, .string tZ, .slice aZ1 nZ1 cZ1, .slice aZ2 nZ2 cZ2, .slice aZ3 nZ3 cZ3] 31)))
      clear X_7
      have IZ_10 := hide (IZ_8.out.below ((Below.refl _ w3).alloc (Nat.le_refl _) (.cells #[.int .i64 kZ, .string tZ, .slice aZ1 nZ1 cZ1, .slice aZ2 nZ2 cZ2, .slice aZ3 nZ3 cZ3] 31)))
      clear IZ_8
      have C_11 : Below w.heap.size w (w3.alloc (.cells #[.int .i64 kZ, .string tZ, .slice aZ1 nZ1 cZ1, .slice aZ2 nZ2 cZ2, .slice aZ3 nZ3 cZ3] 31)) := C_6.alloc C_6.size (.cells #[.int .i64 kZ, .string tZ, .slice aZ1 nZ1 cZ1, .slice aZ2 nZ2 cZ2, .slice aZ3 nZ3 cZ3] 31)
      clear C_6
      have Z_12 := hide (BoxAt.new w3 (.int .i64 kZ) (.string tZ) (.slice aZ1 nZ1 cZ1) (.slice aZ2 nZ2 cZ2) (.slice aZ3 nZ3 cZ3) 31)
      refine (HE2.out _ _ IZ_10.out).mono ?_
      rintro e w4 ⟨rfl, hb4⟩
      have C_13 : Below w.heap.size w w4 := C_11.trans (hb4.mono C_11.size)
      clear C_11
      have X_14 := hide (X_9.out.below hb4)
      have IZ_14 := hide (IZ_10.out.below hb4)
      have Z_14 := hide (Z_12.out.below hb4)
      clear X_9 IZ_10 Z_12
      clear hb4
      go_wp2_with fail
      go_ret
      exact ⟨rfl, C_13⟩
    · have h0' : (chkI x == 0) = false := by rw [beq_eq_false_iff_ne]; exact h0
      rw [encV, if_neg h0] at HE
      clear h0 HI HD1 HS
      generalize chkI x = E at *
      have d0' : (DE == 0) = false := by rw [beq_eq_false_iff_ne]; exact d0
      obtain rfl := HB.out d0
      clear HE2 HB d0
      generalize x.k = k at *
      generalize x.t = t at *
      generalize x.l.length = n1 at *
      generalize x.p.length = n2 at *
      generalize x.s.length = n3 at *
      go_enter Try.func5, Try.ntmps5
      go_wp2_with fail
      have C_0 : Below w.heap.size w (w.alloc (.cells #[.int .i64 k, .string t, .slice a1 n1 c1, .slice a2 n2 c2, .slice a3 n3 c3] 31)) := (Below.refl _ w).alloc (Nat.le_refl _) _
      have X_1 := hide (BoxAt.new w (.int .i64 k) (.string t) (.slice a1 n1 c1) (.slice a2 n2 c2) (.slice a3 n3 c3) 31)
      refine (HG.out _).mono ?_
      rintro e w1 ⟨rfl, hb1⟩
      have C_2 : Below w.heap.size w w1 := C_0.trans (hb1.mono C_0.size)
      clear C_0
      have X_3 := hide (X_1.out.below hb1)
      clear X_1
      clear hb1
      obtain ⟨xc0, xc1, xc2, xc3, xc4, xlt⟩ := X_3.out
      go_wp2_with fail
      refine (HE.out _ C_2).mono ?_
      rintro e w2 ⟨rfl, hb2⟩
      clear xc0 xc1 xc2 xc3 xc4 xlt
      have C_4 : Below w.heap.size w w2 := C_2.trans (hb2.mono C_2.size)
      clear C_2
      have X_5 := hide (X_3.out.below hb2)
      clear X_3
      clear hb2
      obtain ⟨xc0, xc1, xc2, xc3, xc4, xlt⟩ := X_5.out
      go_wp2_with fail
      refine (HD2.out _ C_4).mono ?_
      rintro e w3 ⟨uZ, ⟨rfl, iZ⟩, hb3⟩
      clear xc0 xc1 xc2 xc3 xc4 xlt
      have C_6 : Below w.heap.size w w3 := C_4.trans (hb3.mono C_4.size)
      clear C_4
      have X_7 := hide (X_5.out.below hb3)
      clear X_5
      clear hb3
      obtain ⟨⟨z1, d1, z2, d2, z3, d3, rfl, -, -, -⟩, -, -, -, -, -, -, -⟩ := iZ
      simp only [Itm.none, List.length_nil]
      go_wp2_with fail
      go_ret
      exact ⟨rfl, C_6.alloc C_6.size _⟩
end Go.Proofs.Ytolpmaapdkhigab
