/- WALK of the encoding of items. -/
import Derived.Test.YtolpmaapdkhigabIEnc1
import Derived.Test.YtolpmaapdkhigabIEnc2
import Derived.Test.YtolpmaapdkhigabIChk11
import Derived.Test.YtolpmaapdkhigabBoxes
import Derived.Handy
namespace Go.Proofs.Ytolpmaapdkhigab
open Go.RowKit

theorem alloc_new (w : World) (o : Obj) : (w.alloc o).heap[w.heap.size]? = some o := by
  show (w.heap.push o)[w.heap.size]? = some o
  simp
def encV (x : Itm) : List UInt8 := if chkI x = 0 then encI x else []
theorem encT_len {t : ByteArray} (h : t.size ≤ 60) : (encT t).length ≤ 200 := by
  unfold encT
  rw [List.length_cons, size_list]
  omega
set_option maxRecDepth 100000 in
set_option maxHeartbeats 16000000 in
theorem encode_any (v : Value) (x : Itm) (w : World) (h : ItemIs w v x) :
    Calls Try.prog 8 #[v] w fun e w' => e = .returned (.tuple #[.string ⟨(encV x).toArray⟩, .int .i64 (chkI x)]) ∧ Below w.heap.size w w' := by
  have HC : Hid (∀ W, Below w.heap.size w W → Calls Try.prog 14 #[v] W fun e w' => e = .returned (.int .i64 (chkI x)) ∧ Below W.heap.size W w') := fun W hW => check_any v x W (h.below hW)
  obtain ⟨⟨a1, c1, a2, c2, a3, c3, rfl, hx1, hx2, hx3⟩, -, -, -, -, -, -, -⟩ := h
  by_cases h0 : chkI x = 0
  · have R := right_of h0
    rw [encV, if_pos h0, h0]
    rw [h0] at HC
    have hk1 := R.k1
    have hk5 := R.k5
    have htz := R.tz
    have hn1 := R.ln
    have hn2 := R.pn
    have hn3 := R.sn
    have HR1 := hide R.lz
    have HR2 := hide R.pz
    have HR3 : Hid (∀ t ∈ x.s, t.2.size ≤ 60 ∧ -999999999 ≤ t.1 ∧ t.1 ≤ 999999999) := fun t ht => ⟨R.sz t ht, R.sr t ht⟩
    have HZ1 : Hid (∀ t ∈ x.l, (encT t).length ≤ 200) := fun t ht => encT_len (R.lz t ht)
    have HZ2 : Hid (∀ t ∈ x.p, (encP t).length ≤ 200) := fun t ht => by
      have h1 := (R.pz t ht).1
      have h2 := (R.pz t ht).2
      unfold encP encT
      rw [List.length_append, List.length_cons, List.length_cons, size_list, size_list]
      omega
    have HZ3 : Hid (∀ t ∈ x.s, (encS t).length ≤ 200) := fun t ht => by
      have h1 := R.sz t ht
      unfold encS num4 encT
      simp only [List.length_append, List.length_cons, List.length_nil, size_list]
      omega
    have hF1 : ((x.l.map encT).flatten).length ≤ 4800 := by have := flat_len encT 200 x.l HZ1.out; omega
    have hF2 : ((x.p.map encP).flatten).length ≤ 4800 := by have := flat_len encP 200 x.p HZ2.out; omega
    have HT1 := hide hx1
    have HT2 := hide hx2
    have HT3 := hide hx3
    by_cases hk : x.k = 1
    · have HEN : Hid (encI x = 1 :: x.t.data.toList) := by rw [Hid, encI, if_pos hk]
      rw [hk] at HC ⊢
      clear R h0 hx1 hx2 hx3 HT1 HT2 HT3 HR1 HR2 HR3 HZ1 HZ2 HZ3 hk hk1 hk5 hF1 hF2
      generalize encI x = EN at *
      generalize x.t = t at *
      generalize x.l.length = n1 at *
      generalize x.p.length = n2 at *
      generalize x.s.length = n3 at *
      go_enter Try.func8, Try.ntmps8
      go_wp2_with fail
      refine (HC.out _ ((Below.refl _ w).alloc (Nat.le_refl _) _)).mono ?_
      rintro e w1 ⟨rfl, hb1⟩
      have hB1 : Below w.heap.size w w1 := ((Below.refl _ w).alloc (Nat.le_refl _) _).trans (hb1.mono (by simp))
      have X1 := hide ((BoxAt.new w (.int .i64 1) (.string t) (.slice a1 n1 c1) (.slice a2 n2 c2) (.slice a3 n3 c3) 31).below hb1)
      have hy : w.heap.size < w1.heap.size := X1.out.lt
      obtain ⟨xc0, xc1, xc2, xc3, xc4, xlt⟩ := X1.out
      go_wp2_with fail
      have WR0 : Hid (Writ w1.heap.size w1.heap.size [] (w1.alloc (.cells #[.pointer none, .slice none 0 0] 50))) := .inl ⟨Nat.le_refl _, .slice none 0 0, alloc_new _ _, World.ownsRow_nil _ _ _ _, by simp [Value.ownBlock]⟩
      have E1 : Hid (Below w1.heap.size w1 (w1.alloc (.cells #[.pointer none, .slice none 0 0] 50))) := (Below.refl _ w1).alloc (Nat.le_refl _) _
      clear xc0 xc1 xc2 xc3 xc4 xlt hb1
      refine (writByte_any w1.heap.size w1.heap.size [] 1 1 rfl _ WR0.out (by simp) (by simp)).mono ?_
      rintro e w2 ⟨rfl, hW2, hb2, hq2⟩
      have E2 : Below w1.heap.size w1 w2 := E1.out.trans hb2
      have W2 : Hid (Writ w1.heap.size w1.heap.size [1] w2) := hW2
      clear hW2 WR0 E1 hb2 hq2
      obtain ⟨xc0, xc1, xc2, xc3, xc4, xlt⟩ := X1.out.below E2
      go_wp2_with fail
      clear xc0 xc1 xc2 xc3 xc4 xlt
      refine (writStr_any w1.heap.size w1.heap.size [1] t _ W2.out (by simp) (by omega) E2.size).mono ?_
      rintro e w3 ⟨rfl, hW3, hb3, hq3⟩
      have E3 : Below w1.heap.size w1 w3 := E2.trans hb3
      have W3 := hide hW3
      clear hW3 hq3 hb3 W2 E2
      go_wp2_with fail
      refine (string_any w1.heap.size w1.heap.size _ w3 W3.out (by simp)).mono ?_
      rintro e w9 ⟨rfl, hb9⟩
      have E9 : Below w1.heap.size w1 w9 := E3.trans hb9
      go_wp2_with fail
      go_ret2
      refine ⟨?_, hB1.trans (E9.mono hB1.size)⟩
      rw [HEN.out]
      simp
    · have HEN : Hid (encI x = UInt8.ofNat x.k.toNat :: UInt8.ofNat (x.l.length + x.p.length + x.s.length) :: ((x.l.map encT).flatten ++ (x.p.map encP).flatten ++ (x.s.map encS).flatten)) := by rw [Hid, encI, if_neg hk]; rfl
      have hkb : (x.k == 1) = false := by rw [beq_eq_false_iff_ne]; exact hk
      clear R h0 hx1 hx2 hx3
      generalize encI x = EN at *
      generalize x.t = t at *
      generalize x.k = k at *
      generalize x.l = xl at *
      generalize x.p = xp at *
      generalize x.s = xs at *
      go_enter Try.func8, Try.ntmps8
      go_wp2_with fail
      refine (HC.out _ ((Below.refl _ w).alloc (Nat.le_refl _) _)).mono ?_
      rintro e w1 ⟨rfl, hb1⟩
      have hB1 : Below w.heap.size w w1 := ((Below.refl _ w).alloc (Nat.le_refl _) _).trans (hb1.mono (by simp))
      have X1 := hide ((BoxAt.new w (.int .i64 k) (.string t) (.slice a1 xl.length c1) (.slice a2 xp.length c2) (.slice a3 xs.length c3) 31).below hb1)
      have hy : w.heap.size < w1.heap.size := X1.out.lt
      obtain ⟨xc0, xc1, xc2, xc3, xc4, xlt⟩ := X1.out
      go_wp2_with fail
      have WR0 : Hid (Writ w1.heap.size w1.heap.size [] (w1.alloc (.cells #[.pointer none, .slice none 0 0] 50))) := .inl ⟨Nat.le_refl _, .slice none 0 0, alloc_new _ _, World.ownsRow_nil _ _ _ _, by simp [Value.ownBlock]⟩
      have E1 : Hid (Below w1.heap.size w1 (w1.alloc (.cells #[.pointer none, .slice none 0 0] 50))) := (Below.refl _ w1).alloc (Nat.le_refl _) _
      clear xc0 xc1 xc2 xc3 xc4 xlt hb1
      refine (writByte_any w1.heap.size w1.heap.size [] (UInt8.ofNat k.toNat) k (by rw [ofNat_nat]; omega) _ WR0.out (by simp) (by simp)).mono ?_
      rintro e w2 ⟨rfl, hW2, hb2, hq2⟩
      have E2 : Below w1.heap.size w1 w2 := E1.out.trans hb2
      have W2 : Hid (Writ w1.heap.size w1.heap.size [UInt8.ofNat k.toNat] w2) := hW2
      clear hW2 WR0 E1 hb2 hq2
      obtain ⟨xc0, xc1, xc2, xc3, xc4, xlt⟩ := X1.out.below E2
      go_wp2_with fail
      clear xc0 xc1 xc2 xc3 xc4 xlt
      refine (writByte_any w1.heap.size w1.heap.size [UInt8.ofNat k.toNat] (UInt8.ofNat (xl.length + xp.length + xs.length)) (((xl.length : Nat) : Int) + ((xp.length : Nat) : Int) + ((xs.length : Nat) : Int)) (by rw [ofNat_nat]; omega) _ W2.out (by simp) E2.size).mono ?_
      rintro e w3 ⟨rfl, hW3, hb3, hq3⟩
      have E3 : Below w1.heap.size w1 w3 := E2.trans hb3
      have W3 : Hid (Writ w1.heap.size w1.heap.size [UInt8.ofNat k.toNat, UInt8.ofNat (xl.length + xp.length + xs.length)] w3) := hW3
      clear hW3 hq3 hb3 W2 E2
      obtain ⟨xc0, xc1, xc2, xc3, xc4, xlt⟩ := X1.out.below E3
      go_wp2_with fail
      clear xc0 xc1 xc2 xc3 xc4 xlt
      go_loopw [48] (fun i wr => ∃ j : Nat, j ≤ xl.length ∧ i = .int .i64 j ∧ Writ w1.heap.size w1.heap.size ([UInt8.ofNat k.toNat, UInt8.ofNat (xl.length + xp.length + xs.length)] ++ ((xl.take j).map encT).flatten) wr ∧ Below w1.heap.size w1 wr) (fun i _ => xl.length - (intOf i).toNat)
      case atStart => exact ⟨0, Nat.zero_le _, rfl, by rw [List.take_zero, List.map_nil, List.flatten_nil, List.append_nil]; exact W3.out, E3⟩
      case round =>
        clear W3 E3
        obtain ⟨j, hj, rfl, hWr, hbr⟩ := hrel
        have WRJ := hide hWr
        have hzr := hbr.size
        clear hWr
        by_cases hlt : j < xl.length
        · have hlt' : ((j : Nat) : Int) < ((xl.length : Nat) : Int) := by omega
          have hbd : ([UInt8.ofNat k.toNat, UInt8.ofNat (xl.length + xp.length + xs.length)] ++ ((xl.take j).map encT).flatten).length ≤ 20000 := by
            have h1 := flat_len encT 200 (xl.take j) (fun a ha => HZ1.out a (List.mem_of_mem_take ha))
            rw [List.length_take] at h1
            have h2 : min j xl.length ≤ 24 := by omega
            simp only [List.length_append, List.length_cons, List.length_nil]
            omega
          have HS := hide (flat_take encT xl hlt)
          obtain ⟨g, o, rfl, hcs⟩ : ∃ g o, a1 = some ⟨g, o, none⟩ ∧ ∀ i (h : i < xl.length), w.cell? ⟨g, o + i, none⟩ = some (.string xl[i]) := by
            rcases HT1.out with h | h
            · subst h; simp at hlt
            · exact h
          have BR : Below w.heap.size w wr := hB1.trans (hbr.mono hB1.size)
          have d0 : wr.cell? ⟨g, o + j, none⟩ = some (.string xl[j]) := (BR.cell (p := ⟨g, o + j, none⟩) (World.block_lt_of_cell? _ _ (hcs j hlt))).trans (hcs j hlt)
          have hz60 : xl[j].size ≤ 60 := HR1.out _ (List.getElem_mem hlt)
          clear hcs HT1 HT2 HT3 X1 HR1 HR2 HR3
          generalize xl[j] = X at *
          go_wp2_with fail
          refine (writeText_any w1.heap.size w1.heap.size _ X wr WRJ.out (by omega) hz60 hzr).mono ?_
          rintro e w4 ⟨rfl, hW4, hb4, hq4⟩
          have E4 : Below w1.heap.size w1 w4 := hbr.trans hb4
          have W4 := hide hW4
          clear hW4 WRJ
          go_wp2_with fail
          go_roundw
          case rel => exact ⟨j + 1, by omega, by go_num, by rw [HS.out, ← List.append_assoc]; exact W4.out, E4⟩
          case measure => simp [intOf]; omega
        · have hge : ¬ ((j : Nat) : Int) < ((xl.length : Nat) : Int) := by omega
          obtain rfl : j = xl.length := by omega
          rw [List.take_length] at WRJ
          have WRI := WRJ
          have hbi := hbr
          clear WRJ
          obtain ⟨xc0, xc1, xc2, xc3, xc4, xlt⟩ := X1.out.below hbr
          go_wp2_with fail
          clear xc0 xc1 xc2 xc3 xc4 xlt
          clear hbr hzr hj hlt hge
          go_loopw [58] (fun i wr => ∃ j : Nat, j ≤ xp.length ∧ i = .int .i64 j ∧ Writ w1.heap.size w1.heap.size (([UInt8.ofNat k.toNat, UInt8.ofNat (xl.length + xp.length + xs.length)] ++ (xl.map encT).flatten) ++ ((xp.take j).map encP).flatten) wr ∧ Below w1.heap.size w1 wr) (fun i _ => xp.length - (intOf i).toNat)
          case atStart => exact ⟨0, Nat.zero_le _, rfl, by rw [List.take_zero, List.map_nil, List.flatten_nil, List.append_nil]; exact WRI.out, hbi⟩
          case round =>
            clear WRI hbi
            obtain ⟨j, hj, rfl, hWr, hbr⟩ := hrel
            have WRJ := hide hWr
            have hzr := hbr.size
            clear hWr
            by_cases hlt : j < xp.length
            · have hlt' : ((j : Nat) : Int) < ((xp.length : Nat) : Int) := by omega
              have hbd : (([UInt8.ofNat k.toNat, UInt8.ofNat (xl.length + xp.length + xs.length)] ++ (xl.map encT).flatten) ++ ((xp.take j).map encP).flatten).length ≤ 20000 := by
                have h1 := flat_len encP 200 (xp.take j) (fun a ha => HZ2.out a (List.mem_of_mem_take ha))
                rw [List.length_take] at h1
                have h2 : min j xp.length ≤ 24 := by omega
                simp only [List.length_append, List.length_cons, List.length_nil]
                omega
              have HS := hide (flat_take encP xp hlt)
              obtain ⟨g, o, rfl, hcs⟩ : ∃ g o, a2 = some ⟨g, o, none⟩ ∧ ∀ i (h : i < xp.length), w.cell? ⟨g, o + i * 2, none⟩ = some (.string xp[i].1) ∧ w.cell? ⟨g, o + i * 2 + 1, none⟩ = some (.string xp[i].2) := by
                rcases HT2.out with h | h
                · subst h; simp at hlt
                · exact h
              have BR : Below w.heap.size w wr := hB1.trans (hbr.mono hB1.size)
              have d0 : wr.cell? ⟨g, o + j * 2, none⟩ = some (.string xp[j].1) := (BR.cell (p := ⟨g, o + j * 2, none⟩) (World.block_lt_of_cell? _ _ (hcs j hlt).1)).trans (hcs j hlt).1
              have d1 : wr.cell? ⟨g, o + j * 2 + 1, none⟩ = some (.string xp[j].2) := (BR.cell (p := ⟨g, o + j * 2 + 1, none⟩) (World.block_lt_of_cell? _ _ (hcs j hlt).2)).trans (hcs j hlt).2
              have hz60 := HR2.out _ (List.getElem_mem hlt)
              clear hcs HT1 HT2 HT3 X1 HR1 HR2 HR3
              generalize xp[j] = X at *
              obtain ⟨X1', X2'⟩ := X
              simp only at d0 d1 hz60
              go_wp2_with fail
              have hbl : w1.heap.size < wr.heap.size := WRJ.out.lt
              have GB : Hid ((wr.alloc (.cells #[.string X1', .string X2'] 59)).heap[wr.heap.size]? = some (.cells #[.string X1', .string X2'] 59)) := alloc_new _ _
              have WA := hide (WRJ.out.below ((Below.refl _ wr).alloc (Nat.le_refl _) (.cells #[.string X1', .string X2'] 59)))
              have EA := hide (hbr.alloc hzr (.cells #[.string X1', .string X2'] 59))
              have hza : w1.heap.size ≤ (wr.alloc (.cells #[.string X1', .string X2'] 59)).heap.size := by simp; omega
              refine (writeText_any w1.heap.size w1.heap.size _ X1' _ WA.out (by omega) hz60.1 hza).mono ?_
              rintro e w4 ⟨rfl, hW4, hb4, hq4⟩
              have G4 := hq4 _ _ GB.out (by intro cur fz e; injection e with e1 e2; cases e2) (by omega)
              have E4 : Below w1.heap.size w1 w4 := EA.out.trans hb4
              have W4 := hide hW4
              have p0 : w4.cell? ⟨wr.heap.size, 0, none⟩ = some (.string X1') := by rw [Lib.cell_of_heap G4]; rfl
              have p1 : w4.cell? ⟨wr.heap.size, 1, none⟩ = some (.string X2') := by rw [Lib.cell_of_heap G4]; rfl
              have hz4 := E4.size
              clear hW4 WRJ WA EA GB G4 hq4 hb4
              go_wp2_with fail
              refine (writeText_any w1.heap.size w1.heap.size _ X2' w4 W4.out (by rw [List.length_append]; have := encT_len hz60.1; omega) hz60.2 hz4).mono ?_
              rintro e w5 ⟨rfl, hW5, hb5, hq5⟩
              have E5 : Below w1.heap.size w1 w5 := E4.trans hb5
              have W5 := hide hW5
              clear hW5 W4
              go_wp2_with fail
              go_roundw
              case rel =>
                refine ⟨j + 1, by omega, by go_num, ?_, E5⟩
                rw [HS.out, ← List.append_assoc]
                have := W5.out
                rw [List.append_assoc _ (encT X1')] at this
                exact this
              case measure => simp [intOf]; omega
            · have hge : ¬ ((j : Nat) : Int) < ((xp.length : Nat) : Int) := by omega
              obtain rfl : j = xp.length := by omega
              rw [List.take_length] at WRJ
              have WRK := WRJ
              have hbk := hbr
              clear WRJ
              obtain ⟨xc0, xc1, xc2, xc3, xc4, xlt⟩ := X1.out.below hbr
              go_wp2_with fail
              clear xc0 xc1 xc2 xc3 xc4 xlt
              clear hbr hzr hj hlt hge
              go_loopw [72] (fun i wr => ∃ j : Nat, j ≤ xs.length ∧ i = .int .i64 j ∧ Writ w1.heap.size w1.heap.size ((([UInt8.ofNat k.toNat, UInt8.ofNat (xl.length + xp.length + xs.length)] ++ (xl.map encT).flatten) ++ (xp.map encP).flatten) ++ ((xs.take j).map encS).flatten) wr ∧ Below w1.heap.size w1 wr) (fun i _ => xs.length - (intOf i).toNat)
              case atStart => exact ⟨0, Nat.zero_le _, rfl, by rw [List.take_zero, List.map_nil, List.flatten_nil, List.append_nil]; exact WRK.out, hbk⟩
              case round =>
                clear WRK hbk
                obtain ⟨j, hj, rfl, hWr, hbr⟩ := hrel
                have WRJ := hide hWr
                have hzr := hbr.size
                clear hWr
                by_cases hlt : j < xs.length
                · have hlt' : ((j : Nat) : Int) < ((xs.length : Nat) : Int) := by omega
                  have hbd : ((([UInt8.ofNat k.toNat, UInt8.ofNat (xl.length + xp.length + xs.length)] ++ (xl.map encT).flatten) ++ (xp.map encP).flatten) ++ ((xs.take j).map encS).flatten).length ≤ 20000 := by
                    have h1 := flat_len encS 200 (xs.take j) (fun a ha => HZ3.out a (List.mem_of_mem_take ha))
                    rw [List.length_take] at h1
                    have h2 : min j xs.length ≤ 24 := by omega
                    simp only [List.length_append, List.length_cons, List.length_nil]
                    omega
                  have HS := hide (flat_take encS xs hlt)
                  obtain ⟨g, o, rfl, hcs⟩ : ∃ g o, a3 = some ⟨g, o, none⟩ ∧ ∀ i (h : i < xs.length), w.cell? ⟨g, o + i * 2, none⟩ = some (.int .i64 xs[i].1) ∧ w.cell? ⟨g, o + i * 2 + 1, none⟩ = some (.string xs[i].2) := by
                    rcases HT3.out with h | h
                    · subst h; simp at hlt
                    · exact h
                  have BR : Below w.heap.size w wr := hB1.trans (hbr.mono hB1.size)
                  have d0 : wr.cell? ⟨g, o + j * 2, none⟩ = some (.int .i64 xs[j].1) := (BR.cell (p := ⟨g, o + j * 2, none⟩) (World.block_lt_of_cell? _ _ (hcs j hlt).1)).trans (hcs j hlt).1
                  have d1 : wr.cell? ⟨g, o + j * 2 + 1, none⟩ = some (.string xs[j].2) := (BR.cell (p := ⟨g, o + j * 2 + 1, none⟩) (World.block_lt_of_cell? _ _ (hcs j hlt).2)).trans (hcs j hlt).2
                  have hz60 := HR3.out _ (List.getElem_mem hlt)
                  clear hcs HT1 HT2 HT3 X1 HR1 HR2 HR3
                  generalize xs[j] = X at *
                  obtain ⟨X1', X2'⟩ := X
                  simp only at d0 d1 hz60
                  go_wp2_with fail
                  have hbl : w1.heap.size < wr.heap.size := WRJ.out.lt
                  have GB : Hid ((wr.alloc (.cells #[.int .i64 X1', .string X2'] 61)).heap[wr.heap.size]? = some (.cells #[.int .i64 X1', .string X2'] 61)) := alloc_new _ _
                  have WA := hide (WRJ.out.below ((Below.refl _ wr).alloc (Nat.le_refl _) (.cells #[.int .i64 X1', .string X2'] 61)))
                  have EA := hide (hbr.alloc hzr (.cells #[.int .i64 X1', .string X2'] 61))
                  have hza : w1.heap.size ≤ (wr.alloc (.cells #[.int .i64 X1', .string X2'] 61)).heap.size := by simp; omega
                  refine (writeNumber_any w1.heap.size w1.heap.size _ X1' _ WA.out (by omega) hz60.2.1 hz60.2.2 hza).mono ?_
                  rintro e w4 ⟨rfl, hW4, hb4, hq4⟩
                  have G4 := hq4 _ _ GB.out (by intro cur fz e; injection e with e1 e2; cases e2) (by omega)
                  have E4 : Below w1.heap.size w1 w4 := EA.out.trans hb4
                  have W4 := hide hW4
                  have p0 : w4.cell? ⟨wr.heap.size, 0, none⟩ = some (.int .i64 X1') := by rw [Lib.cell_of_heap G4]; rfl
                  have p1 : w4.cell? ⟨wr.heap.size, 1, none⟩ = some (.string X2') := by rw [Lib.cell_of_heap G4]; rfl
                  have hz4 := E4.size
                  clear hW4 WRJ WA EA GB G4 hq4 hb4
                  go_wp2_with fail
                  refine (writeText_any w1.heap.size w1.heap.size _ X2' w4 W4.out (by rw [List.length_append]; have : (num4 X1').length = 4 := rfl; omega) hz60.1 hz4).mono ?_
                  rintro e w5 ⟨rfl, hW5, hb5, hq5⟩
                  have E5 : Below w1.heap.size w1 w5 := E4.trans hb5
                  have W5 := hide hW5
                  clear hW5 W4
                  go_wp2_with fail
                  go_roundw
                  case rel =>
                    refine ⟨j + 1, by omega, by go_num, ?_, E5⟩
                    rw [HS.out, ← List.append_assoc]
                    have := W5.out
                    rw [List.append_assoc _ (num4 X1')] at this
                    exact this
                  case measure => simp [intOf]; omega
                · have hge : ¬ ((j : Nat) : Int) < ((xs.length : Nat) : Int) := by omega
                  obtain rfl : j = xs.length := by omega
                  rw [List.take_length] at WRJ
                  clear HT1 HT2 HT3 X1 HR1 HR2 HR3
                  go_wp2_with fail
                  refine (string_any w1.heap.size w1.heap.size _ wr WRJ.out (by simp)).mono ?_
                  rintro e w9 ⟨rfl, hb9⟩
                  have E9 : Below w1.heap.size w1 w9 := hbr.trans hb9
                  go_wp2_with fail
                  go_ret2
                  refine ⟨?_, hB1.trans (E9.mono hB1.size)⟩
                  rw [HEN.out]
                  simp
  · rw [encV, if_neg h0]
    have h0' : (chkI x == 0) = false := by rw [beq_eq_false_iff_ne]; exact h0
    clear hx1 hx2 hx3
    generalize chkI x = E at *
    generalize x.t = t at *
    generalize x.k = k at *
    generalize x.l.length = n1 at *
    generalize x.p.length = n2 at *
    generalize x.s.length = n3 at *
    go_enter Try.func8, Try.ntmps8
    go_wp2_with fail
    refine (HC.out _ ((Below.refl _ w).alloc (Nat.le_refl _) _)).mono ?_
    rintro e w1 ⟨rfl, hb1⟩
    have hB1 : Below w.heap.size w w1 := ((Below.refl _ w).alloc (Nat.le_refl _) _).trans (hb1.mono (by simp))
    have X1 := hide ((BoxAt.new w (.int .i64 k) (.string t) (.slice a1 n1 c1) (.slice a2 n2 c2) (.slice a3 n3 c3) 31).below hb1)
    have hy : w.heap.size < w1.heap.size := X1.out.lt
    clear X1
    go_wp2_with fail
    go_ret2
    exact ⟨rfl, hB1⟩
end Go.Proofs.Ytolpmaapdkhigab
