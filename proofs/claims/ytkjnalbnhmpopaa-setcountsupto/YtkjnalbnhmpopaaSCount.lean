/- WALK of SetCounts. -/
import Derived.Test.YtkjnalbnhmpopaaSBeg
import Derived.Deep.RegionLaw
import Derived.Handy
namespace Go.Proofs.Ytkjnalbnhmpopaa
open Go.RowKit

theorem ItemIs.lenS {w : World} {X : Itm} {k : Int} {t : ByteArray} {a1 a2 a3 : Option Addr} {n1 n2 n3 c1 c2 c3 : Nat} (h : ItemIs w (.agg #[.int .i64 k, .string t, .slice a1 n1 c1, .slice a2 n2 c2, .slice a3 n3 c3]) X) : n1 = X.l.length := by
  obtain ⟨⟨b1, q1, b2, q2, b3, q3, e, -, -, -⟩, -, -, -, -, -, -, -⟩ := h
  injection e with e
  simp at e
  exact e.2.2.1.2.1
theorem add_right {x : Itm} {l : List ByteArray} (h : addE x l = 0) : asI x 3 = 0 ∧ addI x l = ⟨3, ⟨#[]⟩, addT x.l l, [], []⟩ ∧ asI (addI x l) 3 = 0 ∧ addE (addI x l) l = 0 ∧ addN (addI x l) l = 0 ∧ addI (addI x l) l = addI x l := by
  have h0 : asI x 3 = 0 := by
    by_cases h0 : asI x 3 = 0
    · exact h0
    · rw [addE, if_pos h0] at h; exact h
  obtain ⟨hri, h24, h60⟩ := asI_set h0
  have h2 : ¬ (24 < (addT x.l l).length ∨ l.any longT = true) ∧ l ≠ [] := by
    rw [addE, if_neg (by simp [h0])] at h
    split at h
    · cases h
    · rename_i h2
      split at h
      · cases h
      · rename_i h3
        exact ⟨h2, h3⟩
  have hne : addT x.l l ≠ [] := fun e => by
    cases l with
    | nil => exact h2.2 rfl
    | cons t r =>
      have : t ∈ addT x.l (t :: r) := mem_addT.2 (.inr (by simp))
      rw [e] at this
      cases this
  have hi : addI x l = ⟨3, ⟨#[]⟩, addT x.l l, [], []⟩ := by rw [addI, if_pos h, kindI, if_neg hne]
  have hz : ∀ t ∈ addT x.l l, t.size ≤ 60 := fun t ht => by
    rcases mem_addT.1 ht with h1 | h1
    · exact h60 t h1
    · have h3 : ¬ l.any longT = true := fun e => h2.1 (.inr e)
      have h4 : l.any longT = false := by simpa using h3
      rw [List.any_eq_false] at h4
      have := h4 t h1
      simp [longT] at this
      omega
  have ha : asI (addI x l) 3 = 0 := by rw [hi]; exact set_as (rises_addT hri) hne (by omega) hz
  have ht : addT (addT x.l l) l = addT x.l l := rises_unique (rises_addT (rises_addT hri)) (rises_addT hri) (fun y => by
    rw [mem_addT, mem_addT]
    exact ⟨fun h => by rcases h with h | h <;> simp [h], .inl⟩)
  have hl : (addI x l).l = addT x.l l := by rw [hi]
  have he : addE (addI x l) l = 0 := by rw [addE, if_neg (by simp [ha]), hl, ht, if_neg h2.1, if_neg h2.2]
  refine ⟨h0, hi, ha, he, ?_, ?_⟩
  · rw [addN, if_pos he, hl, ht]; omega
  · rw [addI, if_pos he, hl, ht, kindI, if_neg hne, hi]
theorem rem_right {x : Itm} {l : List ByteArray} (h0 : asI x 3 = 0) : asI (remofI x 3 l) 3 = 0 ∧ (remofI x 3 l).l = stayL x.l l ∧ ∀ t ∈ l, hasE (remofI x 3 l) t = false := by
  obtain ⟨hri, h24, h60⟩ := asI_set h0
  have hi : remofI x 3 l = kindI 3 (stayL x.l l) := by rw [remofI, if_pos h0, less_stay]
  have hl : (kindI 3 (stayL x.l l)).l = stayL x.l l := by
    unfold kindI
    split
    · rename_i e; rw [e]; rfl
    · rfl
  have ha : asI (kindI 3 (stayL x.l l)) 3 = 0 := by
    unfold kindI
    split
    · exact none_as
    · rename_i hne
      exact set_as (List.Pairwise.filter _ hri) hne (Nat.le_trans (stayL_len _ _) h24) (fun t ht => h60 t (List.mem_filter.1 ht).1)
  rw [hi]
  refine ⟨ha, hl, fun t ht => ?_⟩
  rw [hasE, if_pos ha, hl]
  refine hasT_not (fun hm => ?_)
  have := (List.mem_filter.1 hm).2
  rw [hasT_iff.2 ht] at this
  cases this
set_option maxRecDepth 100000 in
set_option maxHeartbeats 8000000 in
theorem setCounts_walk (v : Value) (x : Itm) (al : Option Addr) (cl : Nat) (l : List ByteArray) (w : World) (h : ItemIs w v x) (hl : TextsAt w al l) (hlz : ∀ t ∈ l, t.size ≤ maxLen) (hll : l.length ≤ 1500000) :
    Calls Try.prog 8 #[v, .slice al l.length cl] w fun e w' => e = .returned (.bool true) ∧ Below w.heap.size w w' := by
  have HI := hide h
  have HL := hide hl
  obtain ⟨⟨a1, c1, a2, c2, a3, c3, rfl, -, -, -⟩, -, -, -, -, -, -, -⟩ := h
  have HG := hide setBegun_any
  have HLZ := hide hlz
  clear hl hlz
  have HA : Hid (∀ W, Below w.heap.size w W → Calls Try.prog 25 #[.agg #[.int .i64 x.k, .string x.t, .slice a1 x.l.length c1, .slice a2 x.p.length c2, .slice a3 x.s.length c3], .slice al l.length cl] W fun e w' => ∃ u, (e = .returned (.tuple #[u, .int .i64 (addN x l), .int .i64 (addE x l)]) ∧ ItemIs w' u (addI x l)) ∧ Below W.heap.size W w') := fun W hW => (setAdd_any _ x al cl l W (HI.out.below hW) (HL.out.below hW) HLZ.out hll).mono fun e w' ⟨u, h1, h2, h3⟩ => ⟨u, ⟨h1, h2.is⟩, h3⟩
  have HR : Hid (∀ W, Below w.heap.size w W → Calls Try.prog 26 #[.agg #[.int .i64 x.k, .string x.t, .slice a1 x.l.length c1, .slice a2 x.p.length c2, .slice a3 x.s.length c3], .slice al l.length cl] W fun e w' => ∃ u, (e = .returned (.tuple #[u, .int .i64 (remofN x 3 l), .int .i64 (asI x 3)]) ∧ ItemIs w' u (remofI x 3 l)) ∧ Below W.heap.size W w') := fun W hW => (setRemove_any _ x al cl l W (HI.out.below hW) (HL.out.below hW) (by omega)).mono fun e w' ⟨u, h1, h2, h3⟩ => ⟨u, ⟨h1, h2.is⟩, h3⟩
  by_cases h0 : asI x 3 = 0
  · obtain ⟨-, hx24, -⟩ := asI_set h0
    obtain ⟨hm1, hm2, hm3⟩ := rem_right (l := l) h0
    rw [h0] at HR
    have HH2 : Hid (∀ v W t, ItemIs W v (remofI x 3 l) → t ∈ l → Calls Try.prog 27 #[v, .string t] W fun e w' => e = .returned (.tuple #[.bool false, .int .i64 0]) ∧ Below W.heap.size W w') := fun v W t hv ht => by
      have hh := has_any v (remofI x 3 l) t W hv
      rw [hm1, hm3 t ht] at hh
      exact hh
    have hsl := stayL_len x.l l
    have hNC : 0 ≤ remofN x 3 l ∧ remofN x 3 l ≤ 24 := by rw [remofN, if_pos h0, less_stay]; omega
    have HLC : Hid (∀ m, m = (remofI x 3 l).l.length → ((m : Nat) : Int) = ((x.l.length : Nat) : Int) - remofN x 3 l) := fun m hm => by rw [hm, hm2, remofN, if_pos h0, less_stay]; omega
    obtain ⟨hNC1, hNC2⟩ := hNC
    by_cases he : addE x l = 0
    · obtain ⟨-, hr2, hr3, hr4, hr5, hr6⟩ := add_right he
      have HA2 : Hid (∀ v W, Below w.heap.size w W → ItemIs W v (addI x l) → Calls Try.prog 25 #[v, .slice al l.length cl] W fun e w' => ∃ u, (e = .returned (.tuple #[u, .int .i64 0, .int .i64 0]) ∧ ItemIs w' u (addI x l)) ∧ Below W.heap.size W w') := fun v W hW hv => by
        have hh := setAdd_any v (addI x l) al cl l W hv (HL.out.below hW) HLZ.out hll
        rw [hr5, hr4, hr6] at hh
        exact hh.mono fun e w' ⟨u, h1, h2, h3⟩ => ⟨u, ⟨h1, h2.is⟩, h3⟩
      have HH1 : Hid (∀ v W t, ItemIs W v (addI x l) → t ∈ l → Calls Try.prog 27 #[v, .string t] W fun e w' => e = .returned (.tuple #[.bool true, .int .i64 0]) ∧ Below W.heap.size W w') := fun v W t hv ht => by
        have hh := has_any v (addI x l) t W hv
        rw [hr3, show hasE (addI x l) t = true by rw [hasE, if_pos hr3, hr2]; exact hasT_iff.2 (mem_addT.2 (.inr ht))] at hh
        exact hh
      have HSI : Hid (∀ v u W, ItemIs W v (addI x l) → ItemIs W u (addI x l) → Calls Try.prog 35 #[v, u] W fun e w' => e = .returned (.bool true) ∧ Below W.heap.size W w') := fun v u W h1 h2 => by
        have hh := sameItem_any v u _ _ W h1 h2
        rw [show sameI (addI x l) (addI x l) = true by simp [sameI]] at hh
        exact hh
      have hal := addT_len x.l l
      have hNA : 0 ≤ addN x l ∧ addN x l ≤ 1500000 := by rw [addN, if_pos he]; omega
      have HLA : Hid (∀ m, m = (addI x l).l.length → ((m : Nat) : Int) = ((x.l.length : Nat) : Int) + addN x l) := fun m hm => by rw [hm, hr2, addN, if_pos he]; simp only; omega
      obtain ⟨hNA1, hNA2⟩ := hNA
      rw [he] at HA
      clear he h0 hr2 hr3 hr4 hr5 hr6 hm1 hm2 hm3 HI HLZ hal hsl
      generalize addI x l = AI at *
      generalize addN x l = NA at *
      generalize remofI x 3 l = CI at *
      generalize remofN x 3 l = NC at *
      generalize x.k = k at *
      generalize x.t = t at *
      generalize x.l.length = n1 at *
      generalize x.p.length = n2 at *
      generalize x.s.length = n3 at *
      go_enter Try.func8, Try.ntmps8
      go_wp2_with fail
      have C_0 : Below w.heap.size w (w.alloc (.cells #[.int .i64 k, .string t, .slice a1 n1 c1, .slice a2 n2 c2, .slice a3 n3 c3] 32)) := (Below.refl _ w).alloc (Nat.le_refl _) _
      have X_1 := hide (BoxAt.new w (.int .i64 k) (.string t) (.slice a1 n1 c1) (.slice a2 n2 c2) (.slice a3 n3 c3) 32)
      refine (HG.out _).mono ?_
      rintro e w1 ⟨rfl, hb1⟩
      have C_2 : Below w.heap.size w w1 := C_0.trans (hb1.mono C_0.size)
      clear C_0
      have X_3 := hide (X_1.out.below hb1)
      clear X_1
      clear hb1
      obtain ⟨xc0, xc1, xc2, xc3, xc4, xlt⟩ := X_3.out
      go_wp2_with fail
      refine (HA.out _ C_2).mono ?_
      rintro e w2 ⟨uA, ⟨rfl, iA⟩, hb2⟩
      clear xc0 xc1 xc2 xc3 xc4 xlt
      have C_4 : Below w.heap.size w w2 := C_2.trans (hb2.mono C_2.size)
      clear C_2
      have X_5 := hide (X_3.out.below hb2)
      clear X_3
      clear hb2
      obtain ⟨kA, tA, aA1, nA1, cA1, aA2, nA2, cA2, aA3, nA3, cA3, rfl⟩ := iA.shapeS
      have IA_6 := hide (iA)
      clear iA
      obtain ⟨xc0, xc1, xc2, xc3, xc4, xlt⟩ := X_5.out
      go_wp2_with fail
      have X_7 := hide (X_5.out.below ((Below.refl _ w2).alloc (Nat.le_refl _) (.cells #[.int .i64 kA, .string tA, .slice aA1 nA1 cA1, .slice aA2 nA2 cA2, .slice aA3 nA3 cA3] 32)))
      clear X_5
      have IA_8 := hide (IA_6.out.below ((Below.refl _ w2).alloc (Nat.le_refl _) (.cells #[.int .i64 kA, .string tA, .slice aA1 nA1 cA1, .slice aA2 nA2 cA2, .slice aA3 nA3 cA3] 32)))
      clear IA_6
      have C_9 : Below w.heap.size w (w2.alloc (.cells #[.int .i64 kA, .string tA, .slice aA1 nA1 cA1, .slice aA2 nA2 cA2, .slice aA3 nA3 cA3] 32)) := C_4.alloc C_4.size (.cells #[.int .i64 kA, .string tA, .slice aA1 nA1 cA1, .slice aA2 nA2 cA2, .slice aA3 nA3 cA3] 32)
      clear C_4
      have A_10 := hide (BoxAt.new w2 (.int .i64 kA) (.string tA) (.slice aA1 nA1 cA1) (.slice aA2 nA2 cA2) (.slice aA3 nA3 cA3) 32)
      clear xc0 xc1 xc2 xc3 xc4 xlt
      go_loopw [8] (fun i wr => ∃ q : Nat, q ≤ l.length ∧ i = .int .i64 q ∧ Below (w2.alloc (.cells #[.int .i64 kA, .string tA, .slice aA1 nA1 cA1, .slice aA2 nA2 cA2, .slice aA3 nA3 cA3] 32)).heap.size (w2.alloc (.cells #[.int .i64 kA, .string tA, .slice aA1 nA1 cA1, .slice aA2 nA2 cA2, .slice aA3 nA3 cA3] 32)) wr) (fun i _ => l.length - (intOf i).toNat)
      case atStart => exact ⟨0, Nat.zero_le _, rfl, Below.refl _ _⟩
      case round =>
        obtain ⟨q, hq, rfl, hbr1⟩ := hrel
        obtain ⟨wq1, hwq⟩ : ∃ wq, wq = wr := ⟨wr, rfl⟩
        subst hwq
        have X_11 := hide (X_7.out.below hbr1)
        have IA_12 := hide (IA_8.out.below hbr1)
        have A_13 := hide (A_10.out.below hbr1)
        clear X_7 IA_8 A_10
        have C_14 : Below w.heap.size w wq1 := C_9.trans (hbr1.mono C_9.size)
        by_cases hlt : q < l.length
        · have hlt' : ((q : Nat) : Int) < ((l.length : Nat) : Int) := by omega
          obtain ⟨g0, o0, rfl, hcs⟩ : ∃ g o, al = some ⟨g, o, none⟩ ∧ ∀ i (h : i < l.length), w.cell? ⟨g, o + i, none⟩ = some (.string l[i]) := by
            rcases HL.out with h | h
            · subst h; simp at hlt
            · exact h
          have d0 := (C_14.cell (p := ⟨g0, o0 + q, none⟩) (World.block_lt_of_cell? _ _ (hcs q hlt))).trans (hcs q hlt)
          clear hcs
          obtain ⟨ac0, ac1, ac2, ac3, ac4, alt⟩ := A_13.out
          go_wp2_with fail
          go_region_law (go_simp; refine (HH1.out _ _ _ (IA_12.out.below (below_drewN' (Below.refl _ _) _)) (List.getElem_mem hlt)).mono ?_; rintro e w3 ⟨rfl, hbi0⟩; have hbi : Below wq1.heap.size wq1 w3 := (below_drewN' (Below.refl _ wq1) _).trans hbi0)
          all_goals
            have HRB : Hid (Below (w2.alloc (.cells #[.int .i64 kA, .string tA, .slice aA1 nA1 cA1, .slice aA2 nA2 cA2, .slice aA3 nA3 cA3] 32)).heap.size (w2.alloc (.cells #[.int .i64 kA, .string tA, .slice aA1 nA1 cA1, .slice aA2 nA2 cA2, .slice aA3 nA3 cA3] 32)) w3) := hbr1.trans (hbi.mono hbr1.size)
            clear ac0 ac1 ac2 ac3 ac4 alt X_11 IA_12 A_13 d0
            go_wp2_with fail
            go_roundw
            case rel => exact ⟨q + 1, by omega, by go_num, HRB.out⟩
            case measure => simp [intOf]; omega
        · have hge : ¬ ((q : Nat) : Int) < ((l.length : Nat) : Int) := by omega
          clear hbr1
          obtain ⟨ac0, ac1, ac2, ac3, ac4, alt⟩ := A_13.out
          go_wp2_with fail
          refine (HA2.out _ _ C_14 IA_12.out).mono ?_
          rintro e w3 ⟨uB, ⟨rfl, iB⟩, hb3⟩
          clear ac0 ac1 ac2 ac3 ac4 alt
          have C_15 : Below w.heap.size w w3 := C_14.trans (hb3.mono C_14.size)
          clear C_14
          have X_16 := hide (X_11.out.below hb3)
          have IA_16 := hide (IA_12.out.below hb3)
          have A_16 := hide (A_13.out.below hb3)
          clear X_11 IA_12 A_13
          clear hb3
          obtain ⟨kB, tB, aB1, nB1, cB1, aB2, nB2, cB2, aB3, nB3, cB3, rfl⟩ := iB.shapeS
          have IB_17 := hide (iB)
          clear iB
          obtain ⟨ac0, ac1, ac2, ac3, ac4, alt⟩ := A_16.out
          obtain ⟨xc0, xc1, xc2, xc3, xc4, xlt⟩ := X_16.out
          go_wp2_with fail
          have X_18 := hide (X_16.out.below ((Below.refl _ w3).alloc (Nat.le_refl _) (.cells #[.int .i64 kB, .string tB, .slice aB1 nB1 cB1, .slice aB2 nB2 cB2, .slice aB3 nB3 cB3] 32)))
          clear X_16
          have IA_19 := hide (IA_16.out.below ((Below.refl _ w3).alloc (Nat.le_refl _) (.cells #[.int .i64 kB, .string tB, .slice aB1 nB1 cB1, .slice aB2 nB2 cB2, .slice aB3 nB3 cB3] 32)))
          clear IA_16
          have A_20 := hide (A_16.out.below ((Below.refl _ w3).alloc (Nat.le_refl _) (.cells #[.int .i64 kB, .string tB, .slice aB1 nB1 cB1, .slice aB2 nB2 cB2, .slice aB3 nB3 cB3] 32)))
          clear A_16
          have IB_21 := hide (IB_17.out.below ((Below.refl _ w3).alloc (Nat.le_refl _) (.cells #[.int .i64 kB, .string tB, .slice aB1 nB1 cB1, .slice aB2 nB2 cB2, .slice aB3 nB3 cB3] 32)))
          clear IB_17
          have C_22 : Below w.heap.size w (w3.alloc (.cells #[.int .i64 kB, .string tB, .slice aB1 nB1 cB1, .slice aB2 nB2 cB2, .slice aB3 nB3 cB3] 32)) := C_15.alloc C_15.size (.cells #[.int .i64 kB, .string tB, .slice aB1 nB1 cB1, .slice aB2 nB2 cB2, .slice aB3 nB3 cB3] 32)
          clear C_15
          have B_23 := hide (BoxAt.new w3 (.int .i64 kB) (.string tB) (.slice aB1 nB1 cB1) (.slice aB2 nB2 cB2) (.slice aB3 nB3 cB3) 32)
          clear ac0 ac1 ac2 ac3 ac4 alt xc0 xc1 xc2 xc3 xc4 xlt
          refine (HSI.out _ _ _ IA_19.out IB_21.out).mono ?_
          rintro e w4 ⟨rfl, hb4⟩
          have C_24 : Below w.heap.size w w4 := C_22.trans (hb4.mono C_22.size)
          clear C_22
          have X_25 := hide (X_18.out.below hb4)
          have IA_25 := hide (IA_19.out.below hb4)
          have A_25 := hide (A_20.out.below hb4)
          have IB_25 := hide (IB_21.out.below hb4)
          have B_25 := hide (B_23.out.below hb4)
          clear X_18 IA_19 A_20 IB_21 B_23
          clear hb4
          obtain ⟨ac0, ac1, ac2, ac3, ac4, alt⟩ := A_25.out
          obtain ⟨xc0, xc1, xc2, xc3, xc4, xlt⟩ := X_25.out
          have hla := HLA.out _ IA_25.out.lenS
          go_wp2_with fail
          clear hla
          clear ac0 ac1 ac2 ac3 ac4 alt xc0 xc1 xc2 xc3 xc4 xlt
          refine (HR.out _ C_24).mono ?_
          rintro e w5 ⟨uC, ⟨rfl, iC⟩, hb5⟩
          have C_26 : Below w.heap.size w w5 := C_24.trans (hb5.mono C_24.size)
          clear C_24
          have X_27 := hide (X_25.out.below hb5)
          have IA_27 := hide (IA_25.out.below hb5)
          have A_27 := hide (A_25.out.below hb5)
          have IB_27 := hide (IB_25.out.below hb5)
          have B_27 := hide (B_25.out.below hb5)
          clear X_25 IA_25 A_25 IB_25 B_25
          clear hb5
          obtain ⟨kC, tC, aC1, nC1, cC1, aC2, nC2, cC2, aC3, nC3, cC3, rfl⟩ := iC.shapeS
          have IC_28 := hide (iC)
          clear iC
          obtain ⟨xc0, xc1, xc2, xc3, xc4, xlt⟩ := X_27.out
          go_wp2_with fail
          have X_29 := hide (X_27.out.below ((Below.refl _ w5).alloc (Nat.le_refl _) (.cells #[.int .i64 kC, .string tC, .slice aC1 nC1 cC1, .slice aC2 nC2 cC2, .slice aC3 nC3 cC3] 32)))
          clear X_27
          have IA_30 := hide (IA_27.out.below ((Below.refl _ w5).alloc (Nat.le_refl _) (.cells #[.int .i64 kC, .string tC, .slice aC1 nC1 cC1, .slice aC2 nC2 cC2, .slice aC3 nC3 cC3] 32)))
          clear IA_27
          have A_31 := hide (A_27.out.below ((Below.refl _ w5).alloc (Nat.le_refl _) (.cells #[.int .i64 kC, .string tC, .slice aC1 nC1 cC1, .slice aC2 nC2 cC2, .slice aC3 nC3 cC3] 32)))
          clear A_27
          have IB_32 := hide (IB_27.out.below ((Below.refl _ w5).alloc (Nat.le_refl _) (.cells #[.int .i64 kC, .string tC, .slice aC1 nC1 cC1, .slice aC2 nC2 cC2, .slice aC3 nC3 cC3] 32)))
          clear IB_27
          have B_33 := hide (B_27.out.below ((Below.refl _ w5).alloc (Nat.le_refl _) (.cells #[.int .i64 kC, .string tC, .slice aC1 nC1 cC1, .slice aC2 nC2 cC2, .slice aC3 nC3 cC3] 32)))
          clear B_27
          have IC_34 := hide (IC_28.out.below ((Below.refl _ w5).alloc (Nat.le_refl _) (.cells #[.int .i64 kC, .string tC, .slice aC1 nC1 cC1, .slice aC2 nC2 cC2, .slice aC3 nC3 cC3] 32)))
          clear IC_28
          have C_35 : Below w.heap.size w (w5.alloc (.cells #[.int .i64 kC, .string tC, .slice aC1 nC1 cC1, .slice aC2 nC2 cC2, .slice aC3 nC3 cC3] 32)) := C_26.alloc C_26.size (.cells #[.int .i64 kC, .string tC, .slice aC1 nC1 cC1, .slice aC2 nC2 cC2, .slice aC3 nC3 cC3] 32)
          clear C_26
          have C_36 := hide (BoxAt.new w5 (.int .i64 kC) (.string tC) (.slice aC1 nC1 cC1) (.slice aC2 nC2 cC2) (.slice aC3 nC3 cC3) 32)
          clear xc0 xc1 xc2 xc3 xc4 xlt
          go_loopw [17] (fun i wr => ∃ q : Nat, q ≤ l.length ∧ i = .int .i64 q ∧ Below (w5.alloc (.cells #[.int .i64 kC, .string tC, .slice aC1 nC1 cC1, .slice aC2 nC2 cC2, .slice aC3 nC3 cC3] 32)).heap.size (w5.alloc (.cells #[.int .i64 kC, .string tC, .slice aC1 nC1 cC1, .slice aC2 nC2 cC2, .slice aC3 nC3 cC3] 32)) wr) (fun i _ => l.length - (intOf i).toNat)
          case atStart => exact ⟨0, Nat.zero_le _, rfl, Below.refl _ _⟩
          case round =>
            obtain ⟨q, hq, rfl, hbr2⟩ := hrel
            obtain ⟨wq2, hwq⟩ : ∃ wq, wq = wr := ⟨wr, rfl⟩
            subst hwq
            have X_37 := hide (X_29.out.below hbr2)
            have IA_38 := hide (IA_30.out.below hbr2)
            have A_39 := hide (A_31.out.below hbr2)
            have IB_40 := hide (IB_32.out.below hbr2)
            have B_41 := hide (B_33.out.below hbr2)
            have IC_42 := hide (IC_34.out.below hbr2)
            have C_43 := hide (C_36.out.below hbr2)
            clear X_29 IA_30 A_31 IB_32 B_33 IC_34 C_36
            have C_44 : Below w.heap.size w wq2 := C_35.trans (hbr2.mono C_35.size)
            by_cases hlt : q < l.length
            · have hlt' : ((q : Nat) : Int) < ((l.length : Nat) : Int) := by omega
              obtain ⟨g0, o0, rfl, hcs⟩ : ∃ g o, al = some ⟨g, o, none⟩ ∧ ∀ i (h : i < l.length), w.cell? ⟨g, o + i, none⟩ = some (.string l[i]) := by
                rcases HL.out with h | h
                · subst h; simp at hlt
                · exact h
              have d0 := (C_44.cell (p := ⟨g0, o0 + q, none⟩) (World.block_lt_of_cell? _ _ (hcs q hlt))).trans (hcs q hlt)
              clear hcs
              obtain ⟨cc0, cc1, cc2, cc3, cc4, clt⟩ := C_43.out
              go_wp2_with fail
              go_region_law (go_simp; refine (HH2.out _ _ _ (IC_42.out.below (below_drewN' (Below.refl _ _) _)) (List.getElem_mem hlt)).mono ?_; rintro e w6 ⟨rfl, hbi0⟩; have hbi : Below wq2.heap.size wq2 w6 := (below_drewN' (Below.refl _ wq2) _).trans hbi0)
              all_goals
                have HRB : Hid (Below (w5.alloc (.cells #[.int .i64 kC, .string tC, .slice aC1 nC1 cC1, .slice aC2 nC2 cC2, .slice aC3 nC3 cC3] 32)).heap.size (w5.alloc (.cells #[.int .i64 kC, .string tC, .slice aC1 nC1 cC1, .slice aC2 nC2 cC2, .slice aC3 nC3 cC3] 32)) w6) := hbr2.trans (hbi.mono hbr2.size)
                clear cc0 cc1 cc2 cc3 cc4 clt X_37 IA_38 A_39 IB_40 B_41 IC_42 C_43 d0
                go_wp2_with fail
                go_roundw
                case rel => exact ⟨q + 1, by omega, by go_num, HRB.out⟩
                case measure => simp [intOf]; omega
            · have hge : ¬ ((q : Nat) : Int) < ((l.length : Nat) : Int) := by omega
              clear hbr2
              obtain ⟨xc0, xc1, xc2, xc3, xc4, xlt⟩ := X_37.out
              obtain ⟨cc0, cc1, cc2, cc3, cc4, clt⟩ := C_43.out
              have hlc := HLC.out _ IC_42.out.lenS
              go_wp2_with fail
              go_ret
              exact ⟨rfl, C_44⟩
    · have he' : (addE x l == 0) = false := by rw [beq_eq_false_iff_ne]; exact he
      clear he h0 hm1 hm2 hm3 HI HLZ hsl
      generalize addE x l = EA at *
      generalize addI x l = AI at *
      generalize addN x l = NA at *
      generalize remofI x 3 l = CI at *
      generalize remofN x 3 l = NC at *
      generalize x.k = k at *
      generalize x.t = t at *
      generalize x.l.length = n1 at *
      generalize x.p.length = n2 at *
      generalize x.s.length = n3 at *
      go_enter Try.func8, Try.ntmps8
      go_wp2_with fail
      have C_0 : Below w.heap.size w (w.alloc (.cells #[.int .i64 k, .string t, .slice a1 n1 c1, .slice a2 n2 c2, .slice a3 n3 c3] 32)) := (Below.refl _ w).alloc (Nat.le_refl _) _
      have X_1 := hide (BoxAt.new w (.int .i64 k) (.string t) (.slice a1 n1 c1) (.slice a2 n2 c2) (.slice a3 n3 c3) 32)
      refine (HG.out _).mono ?_
      rintro e w1 ⟨rfl, hb1⟩
      have C_2 : Below w.heap.size w w1 := C_0.trans (hb1.mono C_0.size)
      clear C_0
      have X_3 := hide (X_1.out.below hb1)
      clear X_1
      clear hb1
      obtain ⟨xc0, xc1, xc2, xc3, xc4, xlt⟩ := X_3.out
      go_wp2_with fail
      refine (HA.out _ C_2).mono ?_
      rintro e w2 ⟨uA, ⟨rfl, iA⟩, hb2⟩
      clear xc0 xc1 xc2 xc3 xc4 xlt
      have C_4 : Below w.heap.size w w2 := C_2.trans (hb2.mono C_2.size)
      clear C_2
      have X_5 := hide (X_3.out.below hb2)
      clear X_3
      clear hb2
      obtain ⟨kA, tA, aA1, nA1, cA1, aA2, nA2, cA2, aA3, nA3, cA3, rfl⟩ := iA.shapeS
      have IA_6 := hide (iA)
      clear iA
      obtain ⟨xc0, xc1, xc2, xc3, xc4, xlt⟩ := X_5.out
      go_wp2_with fail
      have X_7 := hide (X_5.out.below ((Below.refl _ w2).alloc (Nat.le_refl _) (.cells #[.int .i64 kA, .string tA, .slice aA1 nA1 cA1, .slice aA2 nA2 cA2, .slice aA3 nA3 cA3] 32)))
      clear X_5
      have IA_8 := hide (IA_6.out.below ((Below.refl _ w2).alloc (Nat.le_refl _) (.cells #[.int .i64 kA, .string tA, .slice aA1 nA1 cA1, .slice aA2 nA2 cA2, .slice aA3 nA3 cA3] 32)))
      clear IA_6
      have C_9 : Below w.heap.size w (w2.alloc (.cells #[.int .i64 kA, .string tA, .slice aA1 nA1 cA1, .slice aA2 nA2 cA2, .slice aA3 nA3 cA3] 32)) := C_4.alloc C_4.size (.cells #[.int .i64 kA, .string tA, .slice aA1 nA1 cA1, .slice aA2 nA2 cA2, .slice aA3 nA3 cA3] 32)
      clear C_4
      have A_10 := hide (BoxAt.new w2 (.int .i64 kA) (.string tA) (.slice aA1 nA1 cA1) (.slice aA2 nA2 cA2) (.slice aA3 nA3 cA3) 32)
      clear xc0 xc1 xc2 xc3 xc4 xlt
      refine (HR.out _ C_9).mono ?_
      rintro e w3 ⟨uC, ⟨rfl, iC⟩, hb3⟩
      have C_11 : Below w.heap.size w w3 := C_9.trans (hb3.mono C_9.size)
      clear C_9
      have X_12 := hide (X_7.out.below hb3)
      have IA_12 := hide (IA_8.out.below hb3)
      have A_12 := hide (A_10.out.below hb3)
      clear X_7 IA_8 A_10
      clear hb3
      obtain ⟨kC, tC, aC1, nC1, cC1, aC2, nC2, cC2, aC3, nC3, cC3, rfl⟩ := iC.shapeS
      have IC_13 := hide (iC)
      clear iC
      obtain ⟨xc0, xc1, xc2, xc3, xc4, xlt⟩ := X_12.out
      go_wp2_with fail
      have X_14 := hide (X_12.out.below ((Below.refl _ w3).alloc (Nat.le_refl _) (.cells #[.int .i64 kC, .string tC, .slice aC1 nC1 cC1, .slice aC2 nC2 cC2, .slice aC3 nC3 cC3] 32)))
      clear X_12
      have IA_15 := hide (IA_12.out.below ((Below.refl _ w3).alloc (Nat.le_refl _) (.cells #[.int .i64 kC, .string tC, .slice aC1 nC1 cC1, .slice aC2 nC2 cC2, .slice aC3 nC3 cC3] 32)))
      clear IA_12
      have A_16 := hide (A_12.out.below ((Below.refl _ w3).alloc (Nat.le_refl _) (.cells #[.int .i64 kC, .string tC, .slice aC1 nC1 cC1, .slice aC2 nC2 cC2, .slice aC3 nC3 cC3] 32)))
      clear A_12
      have IC_17 := hide (IC_13.out.below ((Below.refl _ w3).alloc (Nat.le_refl _) (.cells #[.int .i64 kC, .string tC, .slice aC1 nC1 cC1, .slice aC2 nC2 cC2, .slice aC3 nC3 cC3] 32)))
      clear IC_13
      have C_18 : Below w.heap.size w (w3.alloc (.cells #[.int .i64 kC, .string tC, .slice aC1 nC1 cC1, .slice aC2 nC2 cC2, .slice aC3 nC3 cC3] 32)) := C_11.alloc C_11.size (.cells #[.int .i64 kC, .string tC, .slice aC1 nC1 cC1, .slice aC2 nC2 cC2, .slice aC3 nC3 cC3] 32)
      clear C_11
      have C_19 := hide (BoxAt.new w3 (.int .i64 kC) (.string tC) (.slice aC1 nC1 cC1) (.slice aC2 nC2 cC2) (.slice aC3 nC3 cC3) 32)
      clear xc0 xc1 xc2 xc3 xc4 xlt
      go_loopw [17] (fun i wr => ∃ q : Nat, q ≤ l.length ∧ i = .int .i64 q ∧ Below (w3.alloc (.cells #[.int .i64 kC, .string tC, .slice aC1 nC1 cC1, .slice aC2 nC2 cC2, .slice aC3 nC3 cC3] 32)).heap.size (w3.alloc (.cells #[.int .i64 kC, .string tC, .slice aC1 nC1 cC1, .slice aC2 nC2 cC2, .slice aC3 nC3 cC3] 32)) wr) (fun i _ => l.length - (intOf i).toNat)
      case atStart => exact ⟨0, Nat.zero_le _, rfl, Below.refl _ _⟩
      case round =>
        obtain ⟨q, hq, rfl, hbr2⟩ := hrel
        obtain ⟨wq2, hwq⟩ : ∃ wq, wq = wr := ⟨wr, rfl⟩
        subst hwq
        have X_20 := hide (X_14.out.below hbr2)
        have IA_21 := hide (IA_15.out.below hbr2)
        have A_22 := hide (A_16.out.below hbr2)
        have IC_23 := hide (IC_17.out.below hbr2)
        have C_24 := hide (C_19.out.below hbr2)
        clear X_14 IA_15 A_16 IC_17 C_19
        have C_25 : Below w.heap.size w wq2 := C_18.trans (hbr2.mono C_18.size)
        by_cases hlt : q < l.length
        · have hlt' : ((q : Nat) : Int) < ((l.length : Nat) : Int) := by omega
          obtain ⟨g0, o0, rfl, hcs⟩ : ∃ g o, al = some ⟨g, o, none⟩ ∧ ∀ i (h : i < l.length), w.cell? ⟨g, o + i, none⟩ = some (.string l[i]) := by
            rcases HL.out with h | h
            · subst h; simp at hlt
            · exact h
          have d0 := (C_25.cell (p := ⟨g0, o0 + q, none⟩) (World.block_lt_of_cell? _ _ (hcs q hlt))).trans (hcs q hlt)
          clear hcs
          obtain ⟨cc0, cc1, cc2, cc3, cc4, clt⟩ := C_24.out
          go_wp2_with fail
          go_region_law (go_simp; refine (HH2.out _ _ _ (IC_23.out.below (below_drewN' (Below.refl _ _) _)) (List.getElem_mem hlt)).mono ?_; rintro e w4 ⟨rfl, hbi0⟩; have hbi : Below wq2.heap.size wq2 w4 := (below_drewN' (Below.refl _ wq2) _).trans hbi0)
          all_goals
            have HRB : Hid (Below (w3.alloc (.cells #[.int .i64 kC, .string tC, .slice aC1 nC1 cC1, .slice aC2 nC2 cC2, .slice aC3 nC3 cC3] 32)).heap.size (w3.alloc (.cells #[.int .i64 kC, .string tC, .slice aC1 nC1 cC1, .slice aC2 nC2 cC2, .slice aC3 nC3 cC3] 32)) w4) := hbr2.trans (hbi.mono hbr2.size)
            clear cc0 cc1 cc2 cc3 cc4 clt X_20 IA_21 A_22 IC_23 C_24 d0
            go_wp2_with fail
            go_roundw
            case rel => exact ⟨q + 1, by omega, by go_num, HRB.out⟩
            case measure => simp [intOf]; omega
        · have hge : ¬ ((q : Nat) : Int) < ((l.length : Nat) : Int) := by omega
          clear hbr2
          obtain ⟨xc0, xc1, xc2, xc3, xc4, xlt⟩ := X_20.out
          obtain ⟨cc0, cc1, cc2, cc3, cc4, clt⟩ := C_24.out
          have hlc := HLC.out _ IC_23.out.lenS
          go_wp2_with fail
          go_ret
          exact ⟨rfl, C_25⟩
  · have hE : addE x l = asI x 3 := by rw [addE, if_pos h0]
    have hN : remofN x 3 l = 0 := by rw [remofN, if_neg h0]
    have h0' : (asI x 3 == 0) = false := by rw [beq_eq_false_iff_ne]; exact h0
    rw [hE] at HA
    rw [hN] at HR
    clear hE hN h0 HI HLZ
    generalize asI x 3 = E at *
    generalize addI x l = AI at *
    generalize addN x l = NA at *
    generalize remofI x 3 l = CI at *
    generalize x.k = k at *
    generalize x.t = t at *
    generalize x.l.length = n1 at *
    generalize x.p.length = n2 at *
    generalize x.s.length = n3 at *
    go_enter Try.func8, Try.ntmps8
    go_wp2_with fail
    have C_0 : Below w.heap.size w (w.alloc (.cells #[.int .i64 k, .string t, .slice a1 n1 c1, .slice a2 n2 c2, .slice a3 n3 c3] 32)) := (Below.refl _ w).alloc (Nat.le_refl _) _
    have X_1 := hide (BoxAt.new w (.int .i64 k) (.string t) (.slice a1 n1 c1) (.slice a2 n2 c2) (.slice a3 n3 c3) 32)
    refine (HG.out _).mono ?_
    rintro e w1 ⟨rfl, hb1⟩
    have C_2 : Below w.heap.size w w1 := C_0.trans (hb1.mono C_0.size)
    clear C_0
    have X_3 := hide (X_1.out.below hb1)
    clear X_1
    clear hb1
    obtain ⟨xc0, xc1, xc2, xc3, xc4, xlt⟩ := X_3.out
    go_wp2_with fail
    refine (HA.out _ C_2).mono ?_
    rintro e w2 ⟨uA, ⟨rfl, iA⟩, hb2⟩
    clear xc0 xc1 xc2 xc3 xc4 xlt
    have C_4 : Below w.heap.size w w2 := C_2.trans (hb2.mono C_2.size)
    clear C_2
    have X_5 := hide (X_3.out.below hb2)
    clear X_3
    clear hb2
    obtain ⟨kA, tA, aA1, nA1, cA1, aA2, nA2, cA2, aA3, nA3, cA3, rfl⟩ := iA.shapeS
    have IA_6 := hide (iA)
    clear iA
    obtain ⟨xc0, xc1, xc2, xc3, xc4, xlt⟩ := X_5.out
    go_wp2_with fail
    have X_7 := hide (X_5.out.below ((Below.refl _ w2).alloc (Nat.le_refl _) (.cells #[.int .i64 kA, .string tA, .slice aA1 nA1 cA1, .slice aA2 nA2 cA2, .slice aA3 nA3 cA3] 32)))
    clear X_5
    have IA_8 := hide (IA_6.out.below ((Below.refl _ w2).alloc (Nat.le_refl _) (.cells #[.int .i64 kA, .string tA, .slice aA1 nA1 cA1, .slice aA2 nA2 cA2, .slice aA3 nA3 cA3] 32)))
    clear IA_6
    have C_9 : Below w.heap.size w (w2.alloc (.cells #[.int .i64 kA, .string tA, .slice aA1 nA1 cA1, .slice aA2 nA2 cA2, .slice aA3 nA3 cA3] 32)) := C_4.alloc C_4.size (.cells #[.int .i64 kA, .string tA, .slice aA1 nA1 cA1, .slice aA2 nA2 cA2, .slice aA3 nA3 cA3] 32)
    clear C_4
    have A_10 := hide (BoxAt.new w2 (.int .i64 kA) (.string tA) (.slice aA1 nA1 cA1) (.slice aA2 nA2 cA2) (.slice aA3 nA3 cA3) 32)
    clear xc0 xc1 xc2 xc3 xc4 xlt
    refine (HR.out _ C_9).mono ?_
    rintro e w3 ⟨uC, ⟨rfl, iC⟩, hb3⟩
    have C_11 : Below w.heap.size w w3 := C_9.trans (hb3.mono C_9.size)
    clear C_9
    have X_12 := hide (X_7.out.below hb3)
    have IA_12 := hide (IA_8.out.below hb3)
    have A_12 := hide (A_10.out.below hb3)
    clear X_7 IA_8 A_10
    clear hb3
    obtain ⟨kC, tC, aC1, nC1, cC1, aC2, nC2, cC2, aC3, nC3, cC3, rfl⟩ := iC.shapeS
    have IC_13 := hide (iC)
    clear iC
    go_wp2_with fail
    go_ret
    exact ⟨rfl, C_11.alloc C_11.size _⟩
end Go.Proofs.Ytkjnalbnhmpopaa
