/- WALK of SetParts. -/
import Derived.Test.YtkjnalbnhmpopaaSPart2
import Derived.Test.YtkjnalbnhmpopaaISame2
import Derived.Deep.RegionLaw
import Derived.Handy
namespace Go.Proofs.Ytkjnalbnhmpopaa
open Go.RowKit

set_option maxRecDepth 100000 in
set_option maxHeartbeats 16000000 in
theorem setParts_walk_some (v : Value) (x : Itm) (aa : Option Addr) (ca : Nat) (xs : List Itm) (w : World) (h : ItemIs w v x) (hx : ItemsAt w aa xs) (hxl : xs.length ≤ 1400000) (hsum : ((x :: xs).map Itm.l).flatten.length ≤ 1500000) (hz : setsF (x :: xs) = 0) (hne : xs ≠ []) :
    Calls Try.prog 7 #[v, .slice aa xs.length ca] w fun e w' => e = .returned (.bool true) ∧ Below w.heap.size w w' := by
  have HI := hide h
  have HX := hide hx
  obtain ⟨⟨a1, c1, a2, c2, a3, c3, rfl, hx1, -, -⟩, -, -, -, -, -, -, -⟩ := h
  have HX1 := hide hx1
  clear hx hx1
  have hxl : xs.length ≤ 1500000 := by omega
  have hal : (x :: xs).length ≤ 1500000 := by simp; omega
  have HG := hide setBegun_any
  obtain ⟨NL, hNL⟩ : ∃ n, n = xs.length := ⟨_, rfl⟩
  obtain ⟨NA, hNA⟩ : ∃ n, n = (x :: xs).length := ⟨_, rfl⟩
  rw [← hNL]
  have HNL := hide hNL
  have HNA := hide hNA
  have HNN : Hid (NA = NL + 1) := by rw [Hid, hNA, hNL, List.length_cons]
  have HM : Hid (∀ W a c, ItemsAt W a (x :: xs) → Calls Try.prog 28 #[.slice a NA c] W fun e w' => (∃ a c, e = .returned (.tuple #[.slice a (partP (askM (x :: xs)) (x :: xs)).length c, .int .i64 (setsF (x :: xs))]) ∧ TextsAt w' a (partP (askM (x :: xs)) (x :: xs))) ∧ Below W.heap.size W w') := fun W a c hW => HNA.out ▸ (meet_any a c _ W hW hal hsum _ _ ⟨rfl, rfl⟩).mono fun e w' ⟨a, c, h1, h2, h3⟩ => ⟨⟨a, c, h1, h2 w' (fun _ _ _ _ h => h)⟩, h3⟩
  have HJ : Hid (∀ W a c, ItemsAt W a (x :: xs) → Calls Try.prog 29 #[.slice a NA c] W fun e w' => (∃ a c, e = .returned (.tuple #[.slice a (partP (askJ (x :: xs)) (x :: xs)).length c, .int .i64 (setsF (x :: xs))]) ∧ TextsAt w' a (partP (askJ (x :: xs)) (x :: xs))) ∧ Below W.heap.size W w') := fun W a c hW => HNA.out ▸ (joinS_any a c _ W hW hal hsum _ _ ⟨rfl, rfl⟩).mono fun e w' ⟨a, c, h1, h2, h3⟩ => ⟨⟨a, c, h1, h2 w' (fun _ _ _ _ h => h)⟩, h3⟩
  have HL : Hid (∀ W a c, ItemsAt W a (x :: xs) → Calls Try.prog 30 #[.slice a NA c] W fun e w' => (∃ a c, e = .returned (.tuple #[.slice a (partP (askL1 (x :: xs)) (x :: xs)).length c, .int .i64 (setsF (x :: xs))]) ∧ TextsAt w' a (partP (askL1 (x :: xs)) (x :: xs))) ∧ Below W.heap.size W w') := fun W a c hW => HNA.out ▸ (lessS_any a c _ W hW hal hsum _ _ ⟨rfl, rfl⟩).mono fun e w' ⟨a, c, h1, h2, h3⟩ => ⟨⟨a, c, h1, h2 w' (fun _ _ _ _ h => h)⟩, h3⟩
  clear hNL hNA hal
  have hNA15 : NA ≤ 1500000 := by rw [HNA.out]; simp; omega
  have hAll := setsE_zero (setsF_cons ▸ hz)
  have e1 : partP (askM (x :: xs)) (x :: xs) = thoseL (askM (x :: xs)) ((x :: xs).map Itm.l) := if_pos hz
  have e2 : partP (askJ (x :: xs)) (x :: xs) = thoseL (askJ (x :: xs)) ((x :: xs).map Itm.l) := if_pos hz
  have e3 : partP (askL1 (x :: xs)) (x :: xs) = thoseL (askL1 (x :: xs)) ((x :: xs).map Itm.l) := if_pos hz
  have hl1 : (partP (askM (x :: xs)) (x :: xs)).length ≤ 281474976710656 := part_len _ _ (by omega)
  have hl2 : (partP (askJ (x :: xs)) (x :: xs)).length ≤ 281474976710656 := part_len _ _ (by omega)
  have hl3 : (partP (askL1 (x :: xs)) (x :: xs)).length ≤ 281474976710656 := part_len _ _ (by omega)
  have HH : Hid (∀ W v y s, ItemIs W v y → y ∈ x :: xs → s ∈ partP (askM (x :: xs)) (x :: xs) → Calls Try.prog 27 #[v, .string s] W fun e w' => e = .returned (.tuple #[.bool true, .int .i64 0]) ∧ Below W.heap.size W w') := fun W v y s h1 h2 h3 => by
    have hh := has_any v y s W h1
    rw [hasE, if_pos (hAll y h2), hAll y h2, part1 (e1 ▸ h3) h2] at hh
    exact hh
  have HIJ : Hid (∀ W a c y s, TextsAt W a (partP (askJ (x :: xs)) (x :: xs)) → y ∈ x :: xs → s ∈ y.l → Calls Try.prog 34 #[.slice a (partP (askJ (x :: xs)) (x :: xs)).length c, .string s] W fun e w' => e = .returned (.bool true) ∧ Below W.heap.size W w') := fun W a c y s h1 h2 h3 => (inList_any a c _ s W h1 hl2).mono fun e w' ⟨h4, h5⟩ => ⟨by rw [h4, e2, part2 h2 h3], h5 ▸ Below.refl _ _⟩
  have HIL : Hid (∀ y ∈ x :: xs, y.l.length ≤ 24) := fun y hy => (asI_set (hAll y hy)).2.1
  have hx24 : x.l.length ≤ 24 := HIL.out x (by simp)
  have HJ2 : Hid (∀ W a c, ItemsAt W a xs → Calls Try.prog 29 #[.slice a NL c] W fun e w' => (∃ a c, e = .returned (.tuple #[.slice a (partP (askJ xs) xs).length c, .int .i64 0]) ∧ TextsAt w' a (partP (askJ xs) xs)) ∧ Below W.heap.size W w') := fun W a c hW => HNL.out ▸ (joinS_any a c _ W hW (by omega) (by simp at hsum ⊢; omega) 0 _ ⟨(setsF_tail hz hne).symm, rfl⟩).mono fun e w' ⟨a, c, h1, h2, h3⟩ => ⟨⟨a, c, h1, h2 w' (fun _ _ _ _ h => h)⟩, h3⟩
  have e4 : partP (askJ xs) xs = thoseL (askJ xs) (xs.map Itm.l) := if_pos (setsF_tail hz hne)
  have hl4 : (partP (askJ xs) xs).length ≤ 281474976710656 := part_len _ _ (by simp at hsum ⊢; omega)
  have HID : Hid (∀ W a c s, TextsAt W a (partP (askL1 (x :: xs)) (x :: xs)) → Calls Try.prog 34 #[.slice a (partP (askL1 (x :: xs)) (x :: xs)).length c, .string s] W fun e w' => e = .returned (.bool (hasT (partP (askL1 (x :: xs)) (x :: xs)) s)) ∧ w' = W) := fun W a c s h1 => (inList_any a c _ s W h1 hl3).mono fun e w' ⟨h4, h5⟩ => ⟨h4, h5⟩
  have HIO : Hid (∀ W a c s, s ∈ x.l → TextsAt W a (partP (askJ xs) xs) → Calls Try.prog 34 #[.slice a (partP (askJ xs) xs).length c, .string s] W fun e w' => e = .returned (.bool (!hasT (partP (askL1 (x :: xs)) (x :: xs)) s)) ∧ w' = W) := fun W a c s hs h1 => (inList_any a c _ s W h1 hl4).mono fun e w' ⟨h4, h5⟩ => ⟨by rw [h4, e4, e3, part4 hs], h5⟩
  have HIX : Hid (∀ W a c s, s ∈ partP (askL1 (x :: xs)) (x :: xs) → TextsAt W a x.l → Calls Try.prog 34 #[.slice a x.l.length c, .string s] W fun e w' => e = .returned (.bool true) ∧ Below W.heap.size W w') := fun W a c s hs h1 => (inList_any a c _ s W h1 (by have := (asI_set (hAll x (by simp))).2.1; omega)).mono fun e w' ⟨h4, h5⟩ => ⟨by rw [h4, part5 (e3 ▸ hs)], h5 ▸ Below.refl _ _⟩
  clear e1 e2 e3 e4 hAll
  generalize partP (askM (x :: xs)) (x :: xs) = T1 at *
  generalize partP (askJ (x :: xs)) (x :: xs) = T2 at *
  generalize partP (askL1 (x :: xs)) (x :: xs) = T3 at *
  generalize partP (askJ xs) xs = T4 at *
  have hNL0 : (((NL : Nat) : Int) == 0) = false := by
    rw [HNL.out]
    cases xs with
    | nil => exact absurd rfl hne
    | cons _ _ => simp; omega
  rw [hz] at HM HJ HL
  go_enter Try.func7, Try.ntmps7
  go_wp2_with fail
  have C_0 : Below w.heap.size w (w.alloc (.cells #[.int .i64 x.k, .string x.t, .slice a1 x.l.length c1, .slice a2 x.p.length c2, .slice a3 x.s.length c3] 32)) := (Below.refl _ w).alloc (Nat.le_refl _) _
  have X_1 := hide (BoxAt.new w (.int .i64 x.k) (.string x.t) (.slice a1 x.l.length c1) (.slice a2 x.p.length c2) (.slice a3 x.s.length c3) 32)
  refine (HG.out _).mono ?_
  rintro e w1 ⟨rfl, hb1⟩
  have C_2 : Below w.heap.size w w1 := C_0.trans (hb1.mono C_0.size)
  clear C_0
  have X_3 := hide (X_1.out.below hb1)
  clear X_1
  clear hb1
  obtain ⟨xc0, xc1, xc2, xc3, xc4, xlt⟩ := X_3.out
  have HOW := World.ownsRow_lit (base := w1.heap.size) (e := 32) (size := 5) w1 #[.int .i64 x.k, .string x.t, .slice a1 x.l.length c1, .slice a2 x.p.length c2, .slice a3 x.s.length c3] 1 (Nat.le_refl _) (by decide) rfl
  have HBW : Below w1.heap.size w1 (w1.alloc (.cells #[.int .i64 x.k, .string x.t, .slice a1 x.l.length c1, .slice a2 x.p.length c2, .slice a3 x.s.length c3] 32)) := (Below.refl _ w1).alloc (Nat.le_refl _) _
  have HIW := HI.out.below C_2
  have HXW := HX.out.below C_2
  go_wp2_with (at_builtin; go_loud (refine wpList_append_items rfl _ _ rfl w1 HBW _ x a1 a2 a3 c1 c2 c3 aa ca NL NA xs HNL.out HNA.out rfl rfl HOW HIW HXW hxl ?_))
  intro ao cap w2 iall hb2
  clear HOW HBW HIW HXW
  clear xc0 xc1 xc2 xc3 xc4 xlt
  have C_4 : Below w.heap.size w w2 := C_2.trans (hb2.mono C_2.size)
  clear C_2
  have X_5 := hide (X_3.out.below hb2)
  clear X_3
  clear hb2
  have ALL_6 := hide (iall)
  clear iall
  go_wp2_with fail
  refine (HM.out _ ao cap ALL_6.out).mono ?_
  rintro e w3 ⟨⟨aM, cM, rfl, iM⟩, hb3⟩
  have C_7 : Below w.heap.size w w3 := C_4.trans (hb3.mono C_4.size)
  clear C_4
  have X_8 := hide (X_5.out.below hb3)
  have ALL_8 := hide (ALL_6.out.below hb3)
  clear X_5 ALL_6
  clear hb3
  have TM_9 := hide (iM)
  clear iM
  go_wp2_with fail
  refine (HJ.out _ ao cap ALL_8.out).mono ?_
  rintro e w4 ⟨⟨aJ, cJ, rfl, iJ⟩, hb4⟩
  have C_10 : Below w.heap.size w w4 := C_7.trans (hb4.mono C_7.size)
  clear C_7
  have X_11 := hide (X_8.out.below hb4)
  have ALL_11 := hide (ALL_8.out.below hb4)
  have TM_11 := hide (TM_9.out.below hb4)
  clear X_8 ALL_8 TM_9
  clear hb4
  have TJ_12 := hide (iJ)
  clear iJ
  go_wp2_with fail
  refine (HL.out _ ao cap ALL_11.out).mono ?_
  rintro e w5 ⟨⟨aD, cD, rfl, iD⟩, hb5⟩
  have C_13 : Below w.heap.size w w5 := C_10.trans (hb5.mono C_10.size)
  clear C_10
  have X_14 := hide (X_11.out.below hb5)
  have ALL_14 := hide (ALL_11.out.below hb5)
  have TM_14 := hide (TM_11.out.below hb5)
  have TJ_14 := hide (TJ_12.out.below hb5)
  clear X_11 ALL_11 TM_11 TJ_12
  clear hb5
  have TD_15 := hide (iD)
  clear iD
  go_wp2_with fail
  go_loopw [12] (fun i wr => ∃ q : Nat, q ≤ NA ∧ i = .int .i64 q ∧ Below w5.heap.size w5 wr) (fun i _ => NA - (intOf i).toNat)
  case atStart => exact ⟨0, Nat.zero_le _, rfl, Below.refl _ _⟩
  case round =>
    obtain ⟨q, hq, rfl, hbr1⟩ := hrel
    obtain ⟨wq1, hwq⟩ : ∃ wq, wq = wr := ⟨wr, rfl⟩
    subst hwq
    have X_16 := hide (X_14.out.below hbr1)
    have ALL_17 := hide (ALL_14.out.below hbr1)
    have TM_18 := hide (TM_14.out.below hbr1)
    have TJ_19 := hide (TJ_14.out.below hbr1)
    have TD_20 := hide (TD_15.out.below hbr1)
    have C_21 : Below w.heap.size w wq1 := C_13.trans (hbr1.mono C_13.size)
    by_cases hltq : q < NA
    · have hltq' : ((q : Nat) : Int) < ((NA : Nat) : Int) := by omega
      obtain ⟨g, o, rfl, hcs⟩ : ∃ g o, ao = some ⟨g, o, none⟩ ∧ ∀ i (h : i < (x :: xs).length), ∃ a1 c1 a2 c2 a3 c3, (wq1.cell? ⟨g, o + i * 5, none⟩ = some (.int .i64 (x :: xs)[i].k) ∧ wq1.cell? ⟨g, o + i * 5 + 1, none⟩ = some (.string (x :: xs)[i].t) ∧ wq1.cell? ⟨g, o + i * 5 + 2, none⟩ = some (.slice a1 (x :: xs)[i].l.length c1) ∧ wq1.cell? ⟨g, o + i * 5 + 3, none⟩ = some (.slice a2 (x :: xs)[i].p.length c2) ∧ wq1.cell? ⟨g, o + i * 5 + 4, none⟩ = some (.slice a3 (x :: xs)[i].s.length c3)) ∧ ItemIs wq1 (.agg #[.int .i64 (x :: xs)[i].k, .string (x :: xs)[i].t, .slice a1 (x :: xs)[i].l.length c1, .slice a2 (x :: xs)[i].p.length c2, .slice a3 (x :: xs)[i].s.length c3]) (x :: xs)[i] := by
        rcases ALL_17.out with h | h
        · cases h
        · exact h
      obtain ⟨b1, f1, b2, f2, b3, f3, hds, hIq⟩ := hcs q (HNA.out ▸ hltq)
      have hYM : (x :: xs)[q]'(HNA.out ▸ hltq) ∈ x :: xs := List.getElem_mem _
      generalize (x :: xs)[q]'(HNA.out ▸ hltq) = Y at *
      have HYM := hide hYM
      have HIY := hide hIq
      have HDS := hide hds
      have hY24 := HIL.out Y hYM
      have HTY : Hid (TextsAt wq1 b1 Y.l) := item_list HIY.out
      clear hcs hYM hIq hds
      generalize hYl : Y.l = YL at *
      have HYL := hide hYl
      clear hYl
      go_wp2_with fail
      go_loopw [13] (fun i wr => ∃ q : Nat, q ≤ T1.length ∧ i = .int .i64 q ∧ Below wq1.heap.size wq1 wr) (fun i _ => T1.length - (intOf i).toNat)
      case atStart => exact ⟨0, Nat.zero_le _, rfl, Below.refl _ _⟩
      case round =>
        obtain ⟨r, hr, rfl, hbr2⟩ := hrel
        obtain ⟨wq2, hwq⟩ : ∃ wq, wq = wr := ⟨wr, rfl⟩
        subst hwq
        have X_22 := hide (X_16.out.below hbr2)
        have TM_23 := hide (TM_18.out.below hbr2)
        have TJ_24 := hide (TJ_19.out.below hbr2)
        have TD_25 := hide (TD_20.out.below hbr2)
        have C_26 : Below w.heap.size w wq2 := C_21.trans (hbr2.mono C_21.size)
        by_cases hltr : r < T1.length
        · have hltr' : ((r : Nat) : Int) < ((T1.length : Nat) : Int) := by omega
          obtain ⟨gM, oM, rfl, hcsM⟩ : ∃ g o, aM = some ⟨g, o, none⟩ ∧ ∀ i (h : i < T1.length), wq2.cell? ⟨g, o + i, none⟩ = some (.string T1[i]) := by
            rcases TM_23.out with h | h
            · exact absurd hltr (by rw [h]; simp)
            · exact h
          have dtM := hcsM r hltr
          clear hcsM
          have HE1 : Hid (T1[r] ∈ T1) := List.getElem_mem _
          generalize T1[r] = s1 at *
          obtain ⟨d0, d1, d2, d3, d4⟩ := HDS.out
          have d0 := (hbr2.cell (World.block_lt_of_cell? _ _ d0)).trans d0
          have d1 := (hbr2.cell (World.block_lt_of_cell? _ _ d1)).trans d1
          have d2 := (hbr2.cell (World.block_lt_of_cell? _ _ d2)).trans d2
          have d3 := (hbr2.cell (World.block_lt_of_cell? _ _ d3)).trans d3
          have d4 := (hbr2.cell (World.block_lt_of_cell? _ _ d4)).trans d4
          go_wp2_with fail
          go_region_law (go_simp; refine (HH.out _ _ Y s1 ((HIY.out.below hbr2).below (below_drewN' (Below.refl _ _) _)) HYM.out HE1.out).mono ?_; rintro e w6 ⟨rfl, hbi0⟩; have hbi : Below wq2.heap.size wq2 w6 := (below_drewN' (Below.refl _ wq2) _).trans hbi0)
          all_goals
            have HRB : Hid (Below wq1.heap.size wq1 w6) := hbr2.trans (hbi.mono hbr2.size)
            go_wp2_with fail
            go_roundw
            case rel => exact ⟨r + 1, by omega, by go_num, HRB.out⟩
            case measure => simp [intOf]; omega
        · have hger : ¬ ((r : Nat) : Int) < ((T1.length : Nat) : Int) := by omega
          obtain ⟨d0, d1, d2, d3, d4⟩ := HDS.out
          have d0 := (hbr2.cell (World.block_lt_of_cell? _ _ d0)).trans d0
          have d1 := (hbr2.cell (World.block_lt_of_cell? _ _ d1)).trans d1
          have d2 := (hbr2.cell (World.block_lt_of_cell? _ _ d2)).trans d2
          have d3 := (hbr2.cell (World.block_lt_of_cell? _ _ d3)).trans d3
          have d4 := (hbr2.cell (World.block_lt_of_cell? _ _ d4)).trans d4
          go_wp2_with fail
          clear d0 d1 d2 d3 d4
          go_loopw [16] (fun i wr => ∃ q : Nat, q ≤ YL.length ∧ i = .int .i64 q ∧ Below wq2.heap.size wq2 wr) (fun i _ => YL.length - (intOf i).toNat)
          case atStart => exact ⟨0, Nat.zero_le _, rfl, Below.refl _ _⟩
          case round =>
            obtain ⟨p, hp, rfl, hbr3⟩ := hrel
            obtain ⟨wq3, hwq⟩ : ∃ wq, wq = wr := ⟨wr, rfl⟩
            subst hwq
            have X_27 := hide (X_22.out.below hbr3)
            have TM_28 := hide (TM_23.out.below hbr3)
            have TJ_29 := hide (TJ_24.out.below hbr3)
            have TD_30 := hide (TD_25.out.below hbr3)
            have C_31 : Below w.heap.size w wq3 := C_26.trans (hbr3.mono C_26.size)
            by_cases hltp : p < YL.length
            · have hltp' : ((p : Nat) : Int) < ((YL.length : Nat) : Int) := by omega
              obtain ⟨d0, d1, d2, d3, d4⟩ := HDS.out
              have d0 := ((hbr2.trans (hbr3.mono hbr2.size)).cell (World.block_lt_of_cell? _ _ d0)).trans d0
              have d1 := ((hbr2.trans (hbr3.mono hbr2.size)).cell (World.block_lt_of_cell? _ _ d1)).trans d1
              have d2 := ((hbr2.trans (hbr3.mono hbr2.size)).cell (World.block_lt_of_cell? _ _ d2)).trans d2
              have d3 := ((hbr2.trans (hbr3.mono hbr2.size)).cell (World.block_lt_of_cell? _ _ d3)).trans d3
              have d4 := ((hbr2.trans (hbr3.mono hbr2.size)).cell (World.block_lt_of_cell? _ _ d4)).trans d4
              obtain ⟨gY, oY, rfl, hcsY⟩ : ∃ g o, b1 = some ⟨g, o, none⟩ ∧ ∀ i (h : i < YL.length), wq1.cell? ⟨g, o + i, none⟩ = some (.string YL[i]) := by
                rcases HTY.out with h | h
                · subst h; simp at hltp
                · exact h
              have dtY := ((hbr2.trans (hbr3.mono hbr2.size)).cell (World.block_lt_of_cell? _ _ (hcsY p hltp))).trans (hcsY p hltp)
              have HE2 : Hid (YL[p] ∈ Y.l) := by rw [Hid, HYL.out]; exact List.getElem_mem _
              clear hcsY
              generalize YL[p] = s2 at *
              go_wp2_with fail
              refine (HIJ.out _ _ _ Y s2 TJ_29.out HYM.out HE2.out).mono ?_
              rintro e w6 ⟨rfl, hbi⟩
              all_goals
                have HRB : Hid (Below wq2.heap.size wq2 w6) := hbr3.trans (hbi.mono hbr3.size)
                go_wp2_with fail
                go_roundw
                case rel => exact ⟨p + 1, by omega, by go_num, HRB.out⟩
                case measure => simp [intOf]; omega
            · have hgep : ¬ ((p : Nat) : Int) < ((YL.length : Nat) : Int) := by omega
              obtain ⟨d0, d1, d2, d3, d4⟩ := HDS.out
              have d0 := ((hbr2.trans (hbr3.mono hbr2.size)).cell (World.block_lt_of_cell? _ _ d0)).trans d0
              have d1 := ((hbr2.trans (hbr3.mono hbr2.size)).cell (World.block_lt_of_cell? _ _ d1)).trans d1
              have d2 := ((hbr2.trans (hbr3.mono hbr2.size)).cell (World.block_lt_of_cell? _ _ d2)).trans d2
              have d3 := ((hbr2.trans (hbr3.mono hbr2.size)).cell (World.block_lt_of_cell? _ _ d3)).trans d3
              have d4 := ((hbr2.trans (hbr3.mono hbr2.size)).cell (World.block_lt_of_cell? _ _ d4)).trans d4
              have HRB : Hid (Below w5.heap.size w5 wq3) := (hbr1.trans (hbr2.mono hbr1.size)).trans (hbr3.mono (hbr1.trans (hbr2.mono hbr1.size)).size)
              go_wp2_with fail
              go_roundw
              case rel => exact ⟨q + 1, by omega, by go_num, HRB.out⟩
              case measure => simp [intOf]; omega
    · have hgeq : ¬ ((q : Nat) : Int) < ((NA : Nat) : Int) := by omega
      go_wp2_with fail
      refine (HJ2.out _ aa ca (HX.out.below C_21)).mono ?_
      rintro e w6 ⟨⟨aO, cO, rfl, iO⟩, hb6⟩
      have C_22 : Below w.heap.size w w6 := C_21.trans (hb6.mono C_21.size)
      clear C_21
      have X_23 := hide (X_16.out.below hb6)
      have ALL_23 := hide (ALL_17.out.below hb6)
      have TM_23 := hide (TM_18.out.below hb6)
      have TJ_23 := hide (TJ_19.out.below hb6)
      have TD_23 := hide (TD_20.out.below hb6)
      clear X_16 ALL_17 TM_18 TJ_19 TD_20
      clear hb6
      have TO_24 := hide (iO)
      clear iO
      obtain ⟨xc0, xc1, xc2, xc3, xc4, xlt⟩ := X_23.out
      go_wp2_with fail
      clear xc0 xc1 xc2 xc3 xc4 xlt
      go_loopw [18] (fun i wr => ∃ q : Nat, q ≤ x.l.length ∧ i = .int .i64 q ∧ Below w6.heap.size w6 wr) (fun i _ => x.l.length - (intOf i).toNat)
      case atStart => exact ⟨0, Nat.zero_le _, rfl, Below.refl _ _⟩
      case round =>
        obtain ⟨y, hy, rfl, hbr4⟩ := hrel
        obtain ⟨wq4, hwq⟩ : ∃ wq, wq = wr := ⟨wr, rfl⟩
        subst hwq
        have X_25 := hide (X_23.out.below hbr4)
        have ALL_26 := hide (ALL_23.out.below hbr4)
        have TM_27 := hide (TM_23.out.below hbr4)
        have TJ_28 := hide (TJ_23.out.below hbr4)
        have TD_29 := hide (TD_23.out.below hbr4)
        have TO_30 := hide (TO_24.out.below hbr4)
        have C_31 : Below w.heap.size w wq4 := C_22.trans (hbr4.mono C_22.size)
        by_cases hlty : y < x.l.length
        · have hlty' : ((y : Nat) : Int) < ((x.l.length : Nat) : Int) := by omega
          obtain ⟨xc0, xc1, xc2, xc3, xc4, xlt⟩ := X_25.out
          obtain ⟨gF, oF, rfl, hcsF⟩ : ∃ g o, a1 = some ⟨g, o, none⟩ ∧ ∀ i (h : i < x.l.length), w.cell? ⟨g, o + i, none⟩ = some (.string x.l[i]) := by
            rcases HX1.out with h | h
            · rw [h] at hlty; simp at hlty
            · exact h
          have dtF := (C_31.cell (World.block_lt_of_cell? _ _ (hcsF y hlty))).trans (hcsF y hlty)
          have HE3 : Hid (x.l[y] ∈ x.l) := List.getElem_mem _
          clear hcsF
          generalize x.l[y] = s3 at *
          have HD3 : Hid (∀ W, Below wq4.heap.size wq4 W → Calls Try.prog 34 #[.slice aD T3.length cD, .string s3] W fun e w' => e = .returned (.bool (hasT T3 s3)) ∧ Below wq4.heap.size wq4 w') := fun W h => (HID.out W aD cD s3 (TD_29.out.below h)).mono fun e w' ⟨h1, h2⟩ => ⟨h1, h2 ▸ h⟩
          have HO3 : Hid (∀ W, Below wq4.heap.size wq4 W → Calls Try.prog 34 #[.slice aO T4.length cO, .string s3] W fun e w' => e = .returned (.bool (!hasT T3 s3)) ∧ Below wq4.heap.size wq4 w') := fun W h => (HIO.out W aO cO s3 HE3.out (TO_30.out.below h)).mono fun e w' ⟨h1, h2⟩ => ⟨h1, h2 ▸ h⟩
          generalize hasT T3 s3 = B at *
          have HSS : Hid (∀ W, Below wq4.heap.size wq4 W → (fun w' => w'.cell? ⟨w.heap.size, 2, none⟩ = some (.slice (some ⟨gF, oF, none⟩) x.l.length c1) ∧ w'.cell? ⟨gF, oF + y, none⟩ = some (.string s3)) W) := fun W hW => ⟨(hW.cell (p := ⟨w.heap.size, 2, none⟩) xlt).trans xc2, (hW.cell (p := ⟨gF, oF + y, none⟩) (World.block_lt_of_cell? _ _ dtF)).trans dtF⟩
          have C0 : Below wq4.heap.size wq4 wq4.drew := (Below.refl _ wq4).drew
          go_wp2_with fail
          refine wp_region_held_drew (S := (fun w' => w'.cell? ⟨w.heap.size, 2, none⟩ = some (.slice (some ⟨gF, oF, none⟩) x.l.length c1) ∧ w'.cell? ⟨gF, oF + y, none⟩ = some (.string s3))) (by kernel_rfl) (HSS.out _ C0) (fun hHeld => ?_)
          refine wpAnyH_take (i := 0) (v := .slice aD T3.length cD) rfl (by kernel_rfl) (by kernel_rfl) (by kernel_rfl) (fun _ _ _ h => h) (Or.inl ⟨by kernel_rfl, by intro w hSw; (try dsimp only at hSw); go_simp⟩) (by assumption) ?_
          refine wpAnyH_take (i := 1) (v := .pointer (some ⟨w.heap.size, 2, none⟩)) rfl (by kernel_rfl) (by kernel_rfl) (by kernel_rfl) (fun _ _ _ h => h) (Or.inl ⟨by kernel_rfl, by intro w hSw; (try dsimp only at hSw); go_simp⟩) (by assumption) ?_
          refine wpAnyH_take (i := 2) (v := .slice (some ⟨gF, oF, none⟩) x.l.length c1) rfl (by kernel_rfl) (by kernel_rfl) (by kernel_rfl) (fun _ _ _ h => h) (Or.inl ⟨by kernel_rfl, by intro w hSw; (try dsimp only at hSw); go_simp⟩) (by assumption) ?_
          refine wpAnyH_take (i := 3) (v := .int .i64 y) rfl (by kernel_rfl) (by kernel_rfl) (by kernel_rfl) (fun _ _ _ h => h) (Or.inl ⟨by kernel_rfl, by intro w hSw; (try dsimp only at hSw); go_simp⟩) (by assumption) ?_
          refine wpAnyH_take (i := 4) (v := .pointer (some ⟨gF, oF + y, none⟩)) rfl (by kernel_rfl) (by kernel_rfl) (by kernel_rfl) (fun _ _ _ h => h) (Or.inl ⟨by kernel_rfl, by intro w hSw; (try dsimp only at hSw); go_simp⟩) (by assumption) ?_
          refine wpAnyH_take (i := 5) (v := .string s3) rfl (by kernel_rfl) (by kernel_rfl) (by kernel_rfl) (fun _ _ _ h => h) (Or.inl ⟨by kernel_rfl, by intro w hSw; (try dsimp only at hSw); go_simp⟩) (by assumption) ?_
          refine wpAnyH_take (i := 7) (v := .slice aO T4.length cO) rfl (by kernel_rfl) (by kernel_rfl) (by kernel_rfl) (fun _ _ _ h => h) (Or.inl ⟨by kernel_rfl, by intro w hSw; (try dsimp only at hSw); go_simp⟩) (by assumption) ?_
          refine wpAnyH_take (i := 8) (v := .pointer (some ⟨w.heap.size, 2, none⟩)) rfl (by kernel_rfl) (by kernel_rfl) (by kernel_rfl) (fun _ _ _ h => h) (Or.inl ⟨by kernel_rfl, by intro w hSw; (try dsimp only at hSw); go_simp⟩) (by assumption) ?_
          refine wpAnyH_take (i := 9) (v := .slice (some ⟨gF, oF, none⟩) x.l.length c1) rfl (by kernel_rfl) (by kernel_rfl) (by kernel_rfl) (fun _ _ _ h => h) (Or.inl ⟨by kernel_rfl, by intro w hSw; (try dsimp only at hSw); go_simp⟩) (by assumption) ?_
          refine wpAnyH_take (i := 10) (v := .int .i64 y) rfl (by kernel_rfl) (by kernel_rfl) (by kernel_rfl) (fun _ _ _ h => h) (Or.inl ⟨by kernel_rfl, by intro w hSw; (try dsimp only at hSw); go_simp⟩) (by assumption) ?_
          refine wpAnyH_take (i := 11) (v := .pointer (some ⟨gF, oF + y, none⟩)) rfl (by kernel_rfl) (by kernel_rfl) (by kernel_rfl) (fun _ _ _ h => h) (Or.inl ⟨by kernel_rfl, by intro w hSw; (try dsimp only at hSw); go_simp⟩) (by assumption) ?_
          refine wpAnyH_take (i := 12) (v := .string s3) rfl (by kernel_rfl) (by kernel_rfl) (by kernel_rfl) (fun _ _ _ h => h) (Or.inl ⟨by kernel_rfl, by intro w hSw; (try dsimp only at hSw); go_simp⟩) (by assumption) ?_
          refine wpAnyH_ready (rs := [6]) (by kernel_rfl) (by simp) ?_
          refine AllReadyH.cons rfl (fun K hK => ?_) AllReadyH.nil
          go_simp
          refine (HD3.out _ C0).mono ?_
          rintro e v6 ⟨rfl, hbv6⟩
          refine hK.out _ _ (HSS.out _ hbv6) (fun hHeld => ?_)
          clear hK K hHeld
          have hHeld := HSS.out _ hbv6
          refine wpAnyH_ready (rs := [13]) (by kernel_rfl) (by simp) ?_
          refine AllReadyH.cons rfl (fun K hK => ?_) AllReadyH.nil
          go_simp
          refine (HO3.out _ hbv6).mono ?_
          rintro e v7 ⟨rfl, hbv7⟩
          refine hK.out _ _ (HSS.out _ hbv7) (fun hHeld => ?_)
          clear hK K hHeld
          have hHeld := HSS.out _ hbv7
          refine wpAnyH_take (i := 14) (v := .bool false) rfl (by kernel_rfl) (by kernel_rfl) (by kernel_rfl) (fun _ _ _ h => h) (Or.inl ⟨by kernel_rfl, by intro w hSw; (try dsimp only at hSw); go_simp⟩) (by assumption) ?_
          refine wpAnyH_done (by kernel_rfl) ?_ _
          clear xc0 xc1 xc2 xc3 xc4 xlt hHeld HSS HD3 HO3 dtF
          have HRB : Hid (Below w6.heap.size w6 v7) := hbr4.trans (hbv7.mono hbr4.size)
          go_wp2_with fail
          go_roundw
          case rel => exact ⟨y + 1, by omega, by go_num, HRB.out⟩
          case measure => simp [intOf]; omega
        · have hgey : ¬ ((y : Nat) : Int) < ((x.l.length : Nat) : Int) := by omega
          obtain ⟨xc0, xc1, xc2, xc3, xc4, xlt⟩ := X_25.out
          go_wp2_with fail
          clear xc0 xc1 xc2 xc3 xc4 xlt
          go_loopw [19] (fun i wr => ∃ q : Nat, q ≤ T3.length ∧ i = .int .i64 q ∧ Below wq4.heap.size wq4 wr) (fun i _ => T3.length - (intOf i).toNat)
          case atStart => exact ⟨0, Nat.zero_le _, rfl, Below.refl _ _⟩
          case round =>
            obtain ⟨z, hz, rfl, hbr5⟩ := hrel
            obtain ⟨wq5, hwq⟩ : ∃ wq, wq = wr := ⟨wr, rfl⟩
            subst hwq
            have X_32 := hide (X_25.out.below hbr5)
            have ALL_33 := hide (ALL_26.out.below hbr5)
            have TM_34 := hide (TM_27.out.below hbr5)
            have TJ_35 := hide (TJ_28.out.below hbr5)
            have TD_36 := hide (TD_29.out.below hbr5)
            have TO_37 := hide (TO_30.out.below hbr5)
            have C_38 : Below w.heap.size w wq5 := C_31.trans (hbr5.mono C_31.size)
            by_cases hltz : z < T3.length
            · have hltz' : ((z : Nat) : Int) < ((T3.length : Nat) : Int) := by omega
              obtain ⟨xc0, xc1, xc2, xc3, xc4, xlt⟩ := X_32.out
              obtain ⟨gD, oD, rfl, hcsD⟩ : ∃ g o, aD = some ⟨g, o, none⟩ ∧ ∀ i (h : i < T3.length), wq5.cell? ⟨g, o + i, none⟩ = some (.string T3[i]) := by
                rcases TD_36.out with h | h
                · exact absurd hltz (by rw [h]; simp)
                · exact h
              have dtD := hcsD z hltz
              clear hcsD
              have HE4 : Hid (T3[z] ∈ T3) := List.getElem_mem _
              generalize T3[z] = s4 at *
              go_wp2_with fail
              go_region_law (go_simp; refine (HIX.out _ _ _ s4 HE4.out (HX1.out.below (C_38.trans (below_drewN' (Below.refl _ _) _ |>.mono C_38.size)))).mono ?_; rintro e w6 ⟨rfl, hbi0⟩; have hbi : Below wq5.heap.size wq5 w6 := (below_drewN' (Below.refl _ wq5) _).trans hbi0)
              all_goals
                have HRB : Hid (Below wq4.heap.size wq4 w6) := hbr5.trans (hbi.mono hbr5.size)
                go_wp2_with fail
                go_roundw
                case rel => exact ⟨z + 1, by omega, by go_num, HRB.out⟩
                case measure => simp [intOf]; omega
            · have hgez : ¬ ((z : Nat) : Int) < ((T3.length : Nat) : Int) := by omega
              go_wp2_with fail
              go_ret
              exact ⟨rfl, C_38⟩
theorem setParts_walk (v : Value) (x : Itm) (aa : Option Addr) (ca : Nat) (xs : List Itm) (w : World) (h : ItemIs w v x) (hx : ItemsAt w aa xs) (hxl : xs.length ≤ 1400000) (hsum : ((x :: xs).map Itm.l).flatten.length ≤ 1500000) :
    Calls Try.prog 7 #[v, .slice aa xs.length ca] w fun e w' => e = .returned (.bool true) ∧ Below w.heap.size w w' := by
  by_cases hz : setsF (x :: xs) = 0
  · by_cases hne : xs = []
    · exact setParts_walk_nil v x aa ca xs w h hx hxl hsum hz hne
    · exact setParts_walk_some v x aa ca xs w h hx hxl hsum hz hne
  · exact setParts_walk_bad v x aa ca xs w h hx hxl hsum (by simpa using hz)
end Go.Proofs.Ytkjnalbnhmpopaa
