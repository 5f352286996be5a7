/- WALK of ScorePlaces. -/
import Derived.Test.YtnobcdhlagfhmaaZPla
import Derived.BigQuiet
import Derived.Laws.Cover1
import Derived.Sort.Walk0
import Derived.Deep.RegionHeld3
import Derived.Handy
namespace Go.Proofs.Ytnobcdhlagfhmaa.Z
open Go.RowKit

theorem leq_not {a b : ByteArray} (h : lessT b a) : Op.bytesLess a.toList b.toList = false ∧ (a.toList == b.toList) = false := by
  have h1 : ¬ lessT a b := fun h2 => lessT_irrefl _ (lessT_trans h h2)
  have h2 : a ≠ b := fun e => lessT_irrefl b (by rw [e] at h; exact h)
  refine ⟨?_, ?_⟩
  · rw [bytesLess_eq, decide_eq_false_iff_not, ByteArray.toList_eq, ByteArray.toList_eq]
    exact h1
  · rw [beq_eq_false_iff_ne]
    exact fun e => h2 (bytes_inj e)
set_option maxRecDepth 100000 in
set_option maxHeartbeats 16000000 in
theorem scorePlaces_walk (v : Value) (x : Itm) (al : Option Addr) (cl : Nat) (l : List Sc) (least most : Int) (w : World) (h : ItemIs w v x) (hl : ScoresAt w al l) (hll : l.length ≤ 1400000) :
    Calls Try.prog 5 #[v, .slice al l.length cl, .int .i64 least, .int .i64 most] w fun e w' => e = .returned (.bool true) ∧ Below w.heap.size w w' := by
  have HI := hide h
  have HL := hide hl
  obtain ⟨⟨a1, c1, a2, c2, a3, c3, rfl, -, -, -⟩, -, -, -, -, -, -, -⟩ := h
  clear hl
  have HG := hide scoreBegun_any
  have HP : Hid (∀ W, Below w.heap.size w W → Calls Try.prog 15 #[.agg #[.int .i64 x.k, .string x.t, .slice a1 x.l.length c1, .slice a2 x.p.length c2, .slice a3 x.s.length c3], .slice al l.length cl] W fun e w' => ∃ u, (e = .returned (.tuple #[u, .int .i64 (putN x l), .int .i64 (putE x l)]) ∧ ItemIs w' u (putI x l)) ∧ Below W.heap.size W w') := fun W hW => (scorePut_any _ x al cl l W (HI.out.below hW) (HL.out.below hW) hll).mono fun e w' ⟨u, h1, h2, h3⟩ => ⟨u, ⟨h1, h2.is⟩, h3⟩
  clear HI
  by_cases h0 : putE x l = 0
  · have HOK := hide (put_ok h0)
    have hys : (putI x l).s = togS x.s l := by rw [HOK.out.i]
    have HRG : Hid (∀ u W, ItemIs W u (putI x l) → Calls Try.prog 16 #[u, .int .i64 0, .int .i64 (-1)] W fun e w' => (∃ a c, e = .returned (.tuple #[.slice a (togS x.s l).length c, .int .i64 0]) ∧ TextsAt w' a ((togS x.s l).map Prod.snd)) ∧ Below W.heap.size W w') := fun u W hu => by
      have hh := scoreRange_any u (putI x l) 0 (-1) W hu (by rw [hys]; have := HOK.out.n; omega) (by decide) (by decide) (by decide) (by decide)
      rw [ask_all HOK.out.a hys, HOK.out.a, List.length_map] at hh
      exact hh.mono fun e w' ⟨a, c, h1, h2, h3⟩ => ⟨⟨a, c, h1, h2⟩, h3⟩
    have HWI : Hid (∀ u W, ItemIs W u (putI x l) → Calls Try.prog 17 #[u, .int .i64 least, .int .i64 most] W fun e w' => (∃ a c, e = .returned (.tuple #[.slice a (askTo (byNumber least most) (togS x.s l) (togS x.s l).length).length c, .int .i64 0]) ∧ TextsAt w' a (askTo (byNumber least most) (togS x.s l) (togS x.s l).length)) ∧ Below W.heap.size W w') := fun u W hu => by
      have hh := scoreWithin_any u (putI x l) least most W hu
      rw [askS, if_pos HOK.out.a, hys, HOK.out.a] at hh
      exact hh.mono fun e w' ⟨a, c, h1, h2, h3⟩ => ⟨⟨a, c, h1, h2⟩, h3⟩
    have HRK : Hid (∀ u W i (hi : i < (togS x.s l).length), ItemIs W u (putI x l) → Calls Try.prog 18 #[u, .string (togS x.s l)[i].2] W fun e w' => e = .returned (.tuple #[.int .i64 i, .int .i64 0]) ∧ Below W.heap.size W w') := fun u W i hi hu => by
      have hh := rank_any u (putI x l) (togS x.s l)[i].2 W hu
      obtain ⟨r1, r2, r3⟩ := rank_at HOK.out.a hys HOK.out.o (List.getElem_mem hi)
      rw [r1, r3 i hi rfl] at hh
      exact hh
    have HNM : Hid (∀ u W i (hi : i < (togS x.s l).length), ItemIs W u (putI x l) → Calls Try.prog 19 #[u, .string (togS x.s l)[i].2] W fun e w' => e = .returned (.tuple #[.int .i64 (togS x.s l)[i].1, .int .i64 0]) ∧ Below W.heap.size W w') := fun u W i hi hu => by
      have hh := number_any u (putI x l) (togS x.s l)[i].2 W hu
      obtain ⟨r1, r2, r3⟩ := rank_at HOK.out.a hys HOK.out.o (List.getElem_mem hi)
      rw [r1, r2] at hh
      exact hh
    have HNL : Hid (∀ f p, lastS l f = some p → ∀ u W, ItemIs W u (putI x l) → Calls Try.prog 19 #[u, .string f] W fun e w' => e = .returned (.tuple #[.int .i64 p.1, .int .i64 0]) ∧ Below W.heap.size W w') := fun f p hp u W hu => by
      have hh := number_any u (putI x l) f W hu
      obtain ⟨p1, p2⟩ := put_last HOK.out hp
      obtain ⟨r1, r2, r3⟩ := rank_at HOK.out.a hys HOK.out.o p1
      rw [p2] at r1 r2
      rw [r1, r2] at hh
      exact hh
    have hK24 := HOK.out.n
    have hx24 := HOK.out.q
    have hsum : ((x.s.length : Nat) : Int) + putN x l = (((togS x.s l).length : Nat) : Int) := by rw [HOK.out.p]; omega
    rw [h0] at HP
    clear h0 hys
    generalize togS x.s l = K at *
    generalize putI x l = Y at *
    generalize putN x l = PN at *
    generalize hP : byNumber least most = P at *
    have HPP : Hid (∀ i m, P i m = (decide (least ≤ m) && decide (m ≤ most))) := fun i m => by rw [← hP]; rfl
    clear hP
    generalize x.k = k at *
    generalize x.t = t at *
    generalize x.l.length = n1 at *
    generalize x.p.length = n2 at *
    generalize x.s.length = n3 at *
    go_enter Try.func5, Try.ntmps5
    go_wp2_with fail
    have C_0 : Below w.heap.size w (w.alloc (.cells #[.int .i64 k, .string t, .slice a1 n1 c1, .slice a2 n2 c2, .slice a3 n3 c3] 26)) := (Below.refl _ w).alloc (Nat.le_refl _) _
    have X_1 := hide (BoxAt.new w (.int .i64 k) (.string t) (.slice a1 n1 c1) (.slice a2 n2 c2) (.slice a3 n3 c3) 26)
    refine (HG.out _).mono ?_
    rintro e w1 ⟨rfl, hb1⟩
    have C_2 : Below w.heap.size w w1 := C_0.trans (hb1.mono C_0.size)
    clear C_0
    have X_3 := hide (X_1.out.below hb1)
    clear X_1
    clear hb1
    obtain ⟨xc0, xc1, xc2, xc3, xc4, xlt⟩ := X_3.out
    go_wp2_with fail
    refine (HP.out _ C_2).mono ?_
    rintro e w2 ⟨uA, ⟨rfl, iA⟩, hb2⟩
    clear xc0 xc1 xc2 xc3 xc4 xlt
    have C_4 : Below w.heap.size w w2 := C_2.trans (hb2.mono C_2.size)
    clear C_2
    have X_5 := hide (X_3.out.below hb2)
    clear X_3
    clear hb2
    obtain ⟨kA, tA, aA1, nA1, cA1, aA2, nA2, cA2, aA3, nA3, cA3, rfl⟩ := shapeZ iA
    have IA_6 := hide (iA)
    clear iA
    go_wp2_with fail
    have X_7 := hide (X_5.out.below ((Below.refl _ w2).alloc (Nat.le_refl _) (.cells #[.int .i64 kA, .string tA, .slice aA1 nA1 cA1, .slice aA2 nA2 cA2, .slice aA3 nA3 cA3] 26)))
    clear X_5
    have IA_8 := hide (IA_6.out.below ((Below.refl _ w2).alloc (Nat.le_refl _) (.cells #[.int .i64 kA, .string tA, .slice aA1 nA1 cA1, .slice aA2 nA2 cA2, .slice aA3 nA3 cA3] 26)))
    clear IA_6
    have C_9 : Below w.heap.size w (w2.alloc (.cells #[.int .i64 kA, .string tA, .slice aA1 nA1 cA1, .slice aA2 nA2 cA2, .slice aA3 nA3 cA3] 26)) := C_4.alloc C_4.size (.cells #[.int .i64 kA, .string tA, .slice aA1 nA1 cA1, .slice aA2 nA2 cA2, .slice aA3 nA3 cA3] 26)
    clear C_4
    have A_10 := hide (BoxAt.new w2 (.int .i64 kA) (.string tA) (.slice aA1 nA1 cA1) (.slice aA2 nA2 cA2) (.slice aA3 nA3 cA3) 26)
    refine (HRG.out _ _ IA_8.out).mono ?_
    rintro e w3 ⟨⟨aR, cR, rfl, iR⟩, hb3⟩
    have C_11 : Below w.heap.size w w3 := C_9.trans (hb3.mono C_9.size)
    clear C_9
    have X_12 := hide (X_7.out.below hb3)
    have IA_12 := hide (IA_8.out.below hb3)
    have A_12 := hide (A_10.out.below hb3)
    clear X_7 IA_8 A_10
    clear hb3
    obtain ⟨ac0, ac1, ac2, ac3, ac4, alt⟩ := A_12.out
    have TR_13 := hide (iR)
    clear iR
    go_wp2_with fail
    refine (HWI.out _ _ IA_12.out).mono ?_
    rintro e w4 ⟨⟨aW, cW, rfl, iW⟩, hb4⟩
    clear ac0 ac1 ac2 ac3 ac4 alt
    have C_14 : Below w.heap.size w w4 := C_11.trans (hb4.mono C_11.size)
    clear C_11
    have X_15 := hide (X_12.out.below hb4)
    have IA_15 := hide (IA_12.out.below hb4)
    have A_15 := hide (A_12.out.below hb4)
    have TR_15 := hide (TR_13.out.below hb4)
    clear X_12 IA_12 A_12 TR_13
    clear hb4
    obtain ⟨xc0, xc1, xc2, xc3, xc4, xlt⟩ := X_15.out
    have TW_16 := hide (iW)
    clear iW
    go_wp2_with fail
    go_loopw [15, 16, 17] (fun kv sv iv wr => ∃ i : Nat, i ≤ K.length ∧ kv = .int .i64 (askTo P K i).length ∧ sv = .int .i64 (wasS K i) ∧ iv = .int .i64 i ∧ Below w4.heap.size w4 wr) (fun _ _ iv _ => K.length - (intOf iv).toNat)
    case atStart => exact ⟨0, Nat.zero_le _, rfl, rfl, rfl, Below.refl _ _⟩
    case round =>
      clear xc0 xc1 xc2 xc3 xc4 xlt
      obtain ⟨i, hi, rfl, rfl, rfl, hbr⟩ := hrel
      have hz8 := C_14.size
      have hsz := hbr.size
      have hBr : Below w.heap.size w wr := C_14.trans (hbr.mono hz8)
      by_cases hlt : i < K.length
      · have hlt' : ((i : Nat) : Int) < ((K.length : Nat) : Int) := by omega
        obtain ⟨gR, oR, rfl, hcs⟩ : ∃ g o, aR = some ⟨g, o, none⟩ ∧ ∀ j (h : j < K.length), w4.cell? ⟨g, o + j, none⟩ = some (.string K[j].2) := by
          rcases TR_15.out with h | ⟨g, o, h1, h2⟩
          · rw [List.map_eq_nil_iff] at h; rw [h] at hlt; simp at hlt
          · exact ⟨g, o, h1, fun j hj => by have := h2 j (by simpa using hj); simpa using this⟩
        have dR := (hbr.cell (p := ⟨gR, oR + i, none⟩) (World.block_lt_of_cell? _ _ (hcs i hlt))).trans (hcs i hlt)
        have HPR : Hid (∀ m, m + 1 = i → ∃ hm : m < K.length, wr.cell? ⟨gR, oR + m, none⟩ = some (.string K[m].2) ∧ lessS K[m] K[i] ∧ wasS K i = K[m].1) := fun m hm => ⟨by omega, (hbr.cell (p := ⟨gR, oR + m, none⟩) (World.block_lt_of_cell? _ _ (hcs m (by omega)))).trans (hcs m (by omega)), by
          have := List.pairwise_iff_getElem.1 HOK.out.r m i (by omega) hlt (by omega)
          exact this, by
          subst hm
          rw [wasS, if_neg (by omega)]
          simp [show m < K.length by omega]⟩
        have HAS : Hid (wasS K (i + 1) = K[i].1) := by rw [Hid, wasS, if_neg (by omega)]; simp [hlt]
        have HYES : Hid (P i K[i].1 = true → askTo P K (i + 1) = askTo P K i ++ [K[i].2] ∧ (askTo P K K.length)[(askTo P K i).length]? = some K[i].2) := fun h => ⟨askTo_yes hlt h, askTo_here hlt h⟩
        have HNO : Hid (P i K[i].1 = false → askTo P K (i + 1) = askTo P K i) := askTo_no hlt
        have HIN : Hid (P i K[i].1 = true → ∃ gW oW, aW = some ⟨gW, oW, none⟩ ∧ (askTo P K i).length < (askTo P K K.length).length ∧ ∀ W, Below w4.heap.size w4 W → W.cell? ⟨gW, oW + (askTo P K i).length, none⟩ = some (.string K[i].2)) := fun h => by
          have h2 := askTo_here hlt h
          obtain ⟨hq, he⟩ := List.getElem?_eq_some_iff.1 h2
          rcases TW_16.out with h3 | ⟨g, o, h3, hc⟩
          · rw [h3] at hq; simp at hq
          · refine ⟨g, o, h3, hq, fun W hW => ?_⟩
            have := hc _ hq
            rw [he] at this
            exact (hW.cell (p := ⟨g, o + (askTo P K i).length, none⟩) (World.block_lt_of_cell? _ _ this)).trans this
        have HK1 := hide (fun u W => HRK.out u W i hlt)
        have HK2 := hide (fun u W => HNM.out u W i hlt)
        have hLk := askTo_len P K i
        have hgR : gR < wr.heap.size := World.block_lt_of_cell? _ _ dR
        clear hcs HRK HNM HRG HWI HP HG HNL
        generalize K[i] = X at *
        obtain ⟨X1, X2⟩ := X
        dsimp only at dR HAS HYES HNO HIN HK1 HK2 HPR
        have IAr := hide (IA_15.out.below hbr.drew)
        have HBX : Hid (∀ W, Below w4.heap.size w4 W → BoxAt W w2.heap.size (.int .i64 kA) (.string tA) (.slice aA1 nA1 cA1) (.slice aA2 nA2 cA2) (.slice aA3 nA3 cA3)) := fun W hW => A_15.out.below hW
        have HDR : Hid (∀ W, Below wr.heap.size wr W → W.cell? ⟨gR, oR + i, none⟩ = some (.string X2)) := fun W hW => (hW.cell (p := ⟨gR, oR + i, none⟩) hgR).trans dR
        have hbd := hbr.drew
        have hbd0 : Below wr.heap.size wr wr.drew := (Below.refl _ _).drew
        obtain ⟨y0, y1, y2, y3, y4, ylt⟩ := HBX.out _ hbr
        go_wp2_with fail
        go_region_held3 (fun w' => w'.cell? ⟨w2.heap.size, 0, none⟩ = some (.int .i64 kA) ∧ w'.cell? ⟨w2.heap.size, 1, none⟩ = some (.string tA) ∧ w'.cell? ⟨w2.heap.size, 2, none⟩ = some (.slice aA1 nA1 cA1) ∧ w'.cell? ⟨w2.heap.size, 3, none⟩ = some (.slice aA2 nA2 cA2) ∧ w'.cell? ⟨w2.heap.size, 4, none⟩ = some (.slice aA3 nA3 cA3) ∧ w'.cell? ⟨gR, oR + i, none⟩ = some (.string X2)) (go_keep) ((go_at_call 18; refine (HK1.out _ _ IAr.out).mono ?_; rintro e w5 ⟨rfl, hb5⟩; have C5 := hbd.trans (hb5.mono hsz); have D5 := hbd0.trans (hb5.mono (Nat.le_refl _)); obtain ⟨z0, z1, z2, z3, z4, zlt⟩ := HBX.out _ C5; have zd := HDR.out _ D5))
        have IA5 := hide (IA_15.out.below C5.drew)
        have hbd5 := C5.drew
        have D5d := D5.drew
        have hsz5 := C5.size
        clear IAr HK1
        go_wp2_with fail
        go_region_held3 (fun w' => w'.cell? ⟨w2.heap.size, 0, none⟩ = some (.int .i64 kA) ∧ w'.cell? ⟨w2.heap.size, 1, none⟩ = some (.string tA) ∧ w'.cell? ⟨w2.heap.size, 2, none⟩ = some (.slice aA1 nA1 cA1) ∧ w'.cell? ⟨w2.heap.size, 3, none⟩ = some (.slice aA2 nA2 cA2) ∧ w'.cell? ⟨w2.heap.size, 4, none⟩ = some (.slice aA3 nA3 cA3) ∧ w'.cell? ⟨gR, oR + i, none⟩ = some (.string X2)) (go_keep) ((go_at_call 19; refine (HK2.out _ _ IA5.out).mono ?_; rintro e w6 ⟨rfl, hb6⟩; have C6 := hbd5.trans (hb6.mono hsz5); have D6 := D5d.trans (hb6.mono D5.size); obtain ⟨q0, q1, q2, q3, q4, qlt⟩ := HBX.out _ C6; have qd := HDR.out _ D6))
        clear z0 z1 z2 z3 z4 zlt zd y0 y1 y2 y3 y4 ylt IA5 HK2 q0 q1 q2 q3 q4 qlt HBX dR
        by_cases hi0 : i = 0
        · subst hi0
          rw [Nat.add_zero] at qd
          go_wp2_with fail
          go_quiet (fail)
          by_cases hl1 : least ≤ X1
          · by_cases hl2 : X1 ≤ most
            · have hp : P (0) X1 = true := by rw [HPP.out, decide_eq_true hl1, decide_eq_true hl2]; rfl
              have HA1 := hide (HYES.out hp).1
              obtain ⟨gW, oW, rfl, hq, hdW⟩ := HIN.out hp
              have HDW := hide hdW
              have qW := HDW.out _ C6
              have hq1 : (((askTo P K (0)).length : Nat) : Int) < (((askTo P K K.length).length : Nat) : Int) := by omega
              clear hdW HIN HYES HNO hp
              go_wp2_with fail
              go_quiet (fail)
              go_wp2_with fail
              go_roundw
              case rel => exact ⟨0 + 1, by omega, by rw [HA1.out, List.length_append, List.length_singleton]; go_num, by rw [HAS.out], by go_num, by first | exact below_drewN C6 _ | exact below_drewN (below_drewN C6 _) _⟩
              case measure => simp [intOf]; omega
            · have HA1 := hide (HNO.out (by rw [HPP.out, decide_eq_false hl2, Bool.and_false]))
              clear HIN HYES HNO
              go_wp2_with fail
              go_roundw
              case rel => exact ⟨0 + 1, by omega, by rw [HA1.out], by rw [HAS.out], by go_num, below_drewN C6 _⟩
              case measure => simp [intOf]; omega
          · have HA1 := hide (HNO.out (by rw [HPP.out, decide_eq_false hl1, Bool.false_and]))
            clear HIN HYES HNO
            go_wp2_with fail
            go_roundw
            case rel => exact ⟨0 + 1, by omega, by rw [HA1.out], by rw [HAS.out], by go_num, below_drewN C6 _⟩
            case measure => simp [intOf]; omega
        · obtain ⟨m, rfl⟩ : ∃ m, i = m + 1 := ⟨i - 1, by omega⟩
          obtain ⟨hm, dM, hless, hwas⟩ := HPR.out m rfl
          have qM := (D6.cell (p := ⟨gR, oR + m, none⟩) (World.block_lt_of_cell? _ _ dM)).trans dM
          have hm1 : ((m : Nat) : Int) < ((K.length : Nat) : Int) := by omega
          have hm0 : (0 : Int) < ((m : Nat) : Int) + 1 := by omega
          have hm3 : (0 : Int) ≤ ((m : Nat) : Int) + 1 := by omega
          have hm2 : ((m : Nat) : Int) + 1 < ((K.length : Nat) : Int) := by omega
          rw [hwas]
          generalize K[m] = Z at *
          obtain ⟨Z1, Z2⟩ := Z
          dsimp only at qM hless
          clear dM hwas HPR
          by_cases hz : Z1 < X1
          · have hn1 : decide (X1 < Z1) = false := decide_eq_false (by omega)
            have hn2 : (X1 == Z1) = false := by rw [beq_eq_false_iff_ne]; omega
            clear hz hless
            go_wp2_with fail
            go_quiet (fail)
            by_cases hl1 : least ≤ X1
            · by_cases hl2 : X1 ≤ most
              · have hp : P (m + 1) X1 = true := by rw [HPP.out, decide_eq_true hl1, decide_eq_true hl2]; rfl
                have HA1 := hide (HYES.out hp).1
                obtain ⟨gW, oW, rfl, hq, hdW⟩ := HIN.out hp
                have HDW := hide hdW
                have qW := HDW.out _ C6
                have hq1 : (((askTo P K (m + 1)).length : Nat) : Int) < (((askTo P K K.length).length : Nat) : Int) := by omega
                clear hdW HIN HYES HNO hp
                go_wp2_with fail
                go_quiet (fail)
                go_wp2_with fail
                go_roundw
                case rel => exact ⟨m + 1 + 1, by omega, by rw [HA1.out, List.length_append, List.length_singleton]; go_num, by rw [HAS.out], by go_num, by first | exact below_drewN C6 _ | exact below_drewN (below_drewN C6 _) _⟩
                case measure => simp [intOf]; omega
              · have HA1 := hide (HNO.out (by rw [HPP.out, decide_eq_false hl2, Bool.and_false]))
                clear HIN HYES HNO
                go_wp2_with fail
                go_roundw
                case rel => exact ⟨m + 1 + 1, by omega, by rw [HA1.out], by rw [HAS.out], by go_num, below_drewN C6 _⟩
                case measure => simp [intOf]; omega
            · have HA1 := hide (HNO.out (by rw [HPP.out, decide_eq_false hl1, Bool.false_and]))
              clear HIN HYES HNO
              go_wp2_with fail
              go_roundw
              case rel => exact ⟨m + 1 + 1, by omega, by rw [HA1.out], by rw [HAS.out], by go_num, below_drewN C6 _⟩
              case measure => simp [intOf]; omega
          · obtain ⟨rfl, hl2⟩ : X1 = Z1 ∧ lessT Z2 X2 := by
              rcases hless with h | ⟨h1, h2⟩
              · exact absurd h hz
              · exact ⟨h1.symm, h2⟩
            obtain ⟨hq1, hq2⟩ := leq_not hl2
            clear hless hz
            go_wp2_with fail
            go_quiet (fail)
            by_cases hl1 : least ≤ X1
            · by_cases hl2 : X1 ≤ most
              · have hp : P (m + 1) X1 = true := by rw [HPP.out, decide_eq_true hl1, decide_eq_true hl2]; rfl
                have HA1 := hide (HYES.out hp).1
                obtain ⟨gW, oW, rfl, hq, hdW⟩ := HIN.out hp
                have HDW := hide hdW
                have qW := HDW.out _ C6
                have hq1 : (((askTo P K (m + 1)).length : Nat) : Int) < (((askTo P K K.length).length : Nat) : Int) := by omega
                clear hdW HIN HYES HNO hp
                go_wp2_with fail
                go_quiet (fail)
                go_wp2_with fail
                go_roundw
                case rel => exact ⟨m + 1 + 1, by omega, by rw [HA1.out, List.length_append, List.length_singleton]; go_num, by rw [HAS.out], by go_num, by first | exact below_drewN C6 _ | exact below_drewN (below_drewN C6 _) _⟩
                case measure => simp [intOf]; omega
              · have HA1 := hide (HNO.out (by rw [HPP.out, decide_eq_false hl2, Bool.and_false]))
                clear HIN HYES HNO
                go_wp2_with fail
                go_roundw
                case rel => exact ⟨m + 1 + 1, by omega, by rw [HA1.out], by rw [HAS.out], by go_num, below_drewN C6 _⟩
                case measure => simp [intOf]; omega
            · have HA1 := hide (HNO.out (by rw [HPP.out, decide_eq_false hl1, Bool.false_and]))
              clear HIN HYES HNO
              go_wp2_with fail
              go_roundw
              case rel => exact ⟨m + 1 + 1, by omega, by rw [HA1.out], by rw [HAS.out], by go_num, below_drewN C6 _⟩
              case measure => simp [intOf]; omega
      · have hge : ¬ ((i : Nat) : Int) < ((K.length : Nat) : Int) := by omega
        obtain rfl : i = K.length := by omega
        obtain ⟨w9, hw9⟩ : ∃ w9, w9 = wr := ⟨wr, rfl⟩
        subst hw9
        have hsz9 := hBr.size
        clear HRK HNM HRG HWI HP HG
        go_wp2_with fail
        go_loopw [22] (fun iv wr => ∃ i : Nat, i ≤ l.length ∧ iv = .int .i64 i ∧ Below w9.heap.size w9 wr) (fun iv _ => l.length - (intOf iv).toNat)
        case atStart => exact ⟨0, Nat.zero_le _, rfl, Below.refl _ _⟩
        case round =>
          obtain ⟨i, hi, rfl, hbr2⟩ := hrel
          have hsz2 := hbr2.size
          by_cases hlt : i < l.length
          · have hlt' : ((i : Nat) : Int) < ((l.length : Nat) : Int) := by omega
            obtain ⟨g0, o0, rfl, hcs⟩ : ∃ g o, al = some ⟨g, o, none⟩ ∧ ∀ i (h : i < l.length), w.cell? ⟨g, o + i * 2, none⟩ = some (.int .i64 l[i].1) ∧ w.cell? ⟨g, o + i * 2 + 1, none⟩ = some (.string l[i].2) := by
              rcases HL.out with h | h
              · rw [h] at hlt; simp at hlt
              · exact h
            have HD : Hid (∀ W, Below w9.heap.size w9 W → ∀ h (hh : h < l.length), W.cell? ⟨g0, o0 + h * 2, none⟩ = some (.int .i64 l[h].1) ∧ W.cell? ⟨g0, o0 + h * 2 + 1, none⟩ = some (.string l[h].2)) := fun W hW h hh => by
              have hX := hBr.trans (hW.mono hsz9)
              exact ⟨(hX.cell (p := ⟨g0, o0 + h * 2, none⟩) (World.block_lt_of_cell? _ _ (hcs h hh).1)).trans (hcs h hh).1, (hX.cell (p := ⟨g0, o0 + h * 2 + 1, none⟩) (World.block_lt_of_cell? _ _ (hcs h hh).2)).trans (hcs h hh).2⟩
            obtain ⟨p, hp⟩ := lastS_some (List.getElem_mem hlt)
            have HN1 := hide (HNL.out l[i].2 p hp)
            have HLS := hide hp
            have HJ0 : Hid (lastS (l.take (i + 1)) l[i].2 = some l[i]) := by rw [Hid, List.take_succ_eq_append_getElem hlt, lastS_snoc, if_pos rfl]
            have HST : Hid (∀ h (hh : h < l.length), lastS (l.take (h + 1)) l[i].2 = if l[h].2 = l[i].2 then some l[h] else lastS (l.take h) l[i].2) := fun h hh => by rw [List.take_succ_eq_append_getElem hh, lastS_snoc]
            have HSE : Hid (∀ h (hh : h < l.length), h = i → l[h].2 = l[i].2) := fun h hh e => by subst e; rfl
            have HDI : Hid (∀ W, Below w9.heap.size w9 W → W.cell? ⟨g0, o0 + i * 2, none⟩ = some (.int .i64 l[i].1) ∧ W.cell? ⟨g0, o0 + i * 2 + 1, none⟩ = some (.string l[i].2)) := fun W hW => HD.out W hW i hlt
            clear hcs HL HNL hp
            generalize l[i] = X at *
            obtain ⟨X1, X2⟩ := X
            obtain ⟨p1, p2⟩ := p
            dsimp only at HN1 HLS HJ0 HST HSE HDI
            have hC8 : Below w4.heap.size w4 wr := hbr.trans (hbr2.mono hbr.size)
            have IAr := hide (IA_15.out.below hC8.drew)
            have HBX : Hid (∀ W, Below w9.heap.size w9 W → BoxAt W w2.heap.size (.int .i64 kA) (.string tA) (.slice aA1 nA1 cA1) (.slice aA2 nA2 cA2) (.slice aA3 nA3 cA3)) := fun W hW => A_15.out.below (hbr.trans (hW.mono hbr.size))
            have hbd := hbr2.drew
            obtain ⟨y0, y1, y2, y3, y4, ylt⟩ := HBX.out _ hbr2
            obtain ⟨d0, d1⟩ := HDI.out _ hbr2
            go_wp2_with fail
            go_region_held3 (fun w' => w'.cell? ⟨w2.heap.size, 0, none⟩ = some (.int .i64 kA) ∧ w'.cell? ⟨w2.heap.size, 1, none⟩ = some (.string tA) ∧ w'.cell? ⟨w2.heap.size, 2, none⟩ = some (.slice aA1 nA1 cA1) ∧ w'.cell? ⟨w2.heap.size, 3, none⟩ = some (.slice aA2 nA2 cA2) ∧ w'.cell? ⟨w2.heap.size, 4, none⟩ = some (.slice aA3 nA3 cA3) ∧ w'.cell? ⟨g0, o0 + i * 2 + 1, none⟩ = some (.string X2)) (go_keep) ((go_at_call 19; refine (HN1.out _ _ IAr.out).mono ?_; rintro e w5 ⟨rfl, hb5⟩; have C5 := hbd.trans (hb5.mono hsz2); obtain ⟨z0, z1, z2, z3, z4, zlt⟩ := HBX.out _ C5; obtain ⟨e0, e1⟩ := HDI.out _ C5))
            clear z0 z1 z2 z3 z4 zlt y0 y1 y2 y3 y4 ylt IAr HN1 HBX d0 d1
            have hsz5 := C5.size
            go_wp2_with fail
            go_loopw [25, 26] (fun zv hv wr => ∃ (h : Nat) (z : Sc), i ≤ h ∧ h ≤ l.length ∧ hv = .int .i64 h ∧ zv = .int .i64 z.1 ∧ Hid (lastS (l.take (if h ≤ i then i + 1 else h)) X2 = some z) ∧ Below w5.heap.size w5 wr) (fun _ hv _ => l.length - (intOf hv).toNat)
            case atStart => exact ⟨i, (X1, X2), Nat.le_refl _, by omega, rfl, rfl, by rw [Hid, if_pos (Nat.le_refl _)]; exact HJ0.out, Below.refl _ _⟩
            case round =>
              obtain ⟨h, z, h1, h2, rfl, rfl, HZ, hb7⟩ := hrel
              have C7 := C5.trans (hb7.mono hsz5)
              by_cases hlt3 : h < l.length
              · have hlt3' : ((h : Nat) : Int) < ((l.length : Nat) : Int) := by omega
                obtain ⟨f0, f1⟩ := HD.out _ C7 h hlt3
                obtain ⟨k0, k1⟩ := HDI.out _ C7
                have HS1 := hide (HST.out h hlt3)
                have HS2 := hide (HSE.out h hlt3)
                have hbq := beq_fd l[h].2 X2
                clear HD HDI HST HSE HJ0 HLS e0 e1
                generalize l[h] = Z at *
                obtain ⟨Z1, Z2⟩ := Z
                dsimp only at f0 f1 HS1 HS2 hbq
                by_cases hE : Z2 = X2
                · have HZ2 : Hid (lastS (l.take (if h + 1 ≤ i then i + 1 else h + 1)) X2 = some (Z1, Z2)) := by rw [Hid, if_neg (by omega), HS1.out, if_pos hE]
                  rw [decide_eq_true hE] at hbq
                  clear HZ HS1 HS2 hE
                  go_wp2_with fail
                  go_quiet (fail)
                  go_wp2_with fail
                  go_roundw
                  case rel => exact ⟨h + 1, (Z1, Z2), by omega, by omega, by go_num, rfl, HZ2, below_drewN hb7 _⟩
                  case measure => simp [intOf]; omega
                · have hhi : ¬ h ≤ i := fun h9 => hE (HS2.out (by omega))
                  have HZ2 : Hid (lastS (l.take (if h + 1 ≤ i then i + 1 else h + 1)) X2 = some z) := by
                    have := HZ.out
                    rw [if_neg hhi] at this
                    rw [Hid, if_neg (by omega), HS1.out, if_neg hE, this]
                  rw [decide_eq_false hE] at hbq
                  clear HZ HS1 HS2 hE
                  go_wp2_with fail
                  go_quiet (fail)
                  go_wp2_with fail
                  go_roundw
                  case rel => exact ⟨h + 1, z, by omega, by omega, by go_num, rfl, HZ2, below_drewN hb7 _⟩
                  case measure => simp [intOf]; omega
              · have hge3 : ¬ ((h : Nat) : Int) < ((l.length : Nat) : Int) := by omega
                obtain rfl : h = l.length := by omega
                obtain rfl : z = (p1, p2) := by
                  have := HZ.out
                  rw [if_neg (by omega), List.take_length, HLS.out] at this
                  exact (Option.some.inj this).symm
                clear HZ HLS HJ0 HST HSE HD HDI e0 e1
                dsimp only
                go_wp2_with fail
                go_roundw
                case rel => exact ⟨i + 1, by omega, by go_num, C7⟩
                case measure => simp [intOf]; omega
          · have hge2 : ¬ ((i : Nat) : Int) < ((l.length : Nat) : Int) := by omega
            obtain rfl : i = l.length := by omega
            have hfin := hBr.trans (hbr2.mono hsz9)
            go_wp2_with fail
            go_ret
            exact ⟨rfl, hfin⟩
  · have hN : putN x l = 0 := by rw [putN, if_neg h0]
    have h0' : (putE x l == 0) = false := by rw [beq_eq_false_iff_ne]; exact h0
    rw [hN] at HP
    clear hN h0
    generalize putE x l = PE at *
    generalize putI x l = Y at *
    generalize x.k = k at *
    generalize x.t = t at *
    generalize x.l.length = n1 at *
    generalize x.p.length = n2 at *
    generalize x.s.length = n3 at *
    go_enter Try.func5, Try.ntmps5
    go_wp2_with fail
    have C_0 : Below w.heap.size w (w.alloc (.cells #[.int .i64 k, .string t, .slice a1 n1 c1, .slice a2 n2 c2, .slice a3 n3 c3] 26)) := (Below.refl _ w).alloc (Nat.le_refl _) _
    have X_1 := hide (BoxAt.new w (.int .i64 k) (.string t) (.slice a1 n1 c1) (.slice a2 n2 c2) (.slice a3 n3 c3) 26)
    refine (HG.out _).mono ?_
    rintro e w1 ⟨rfl, hb1⟩
    have C_2 : Below w.heap.size w w1 := C_0.trans (hb1.mono C_0.size)
    clear C_0
    have X_3 := hide (X_1.out.below hb1)
    clear X_1
    clear hb1
    obtain ⟨xc0, xc1, xc2, xc3, xc4, xlt⟩ := X_3.out
    go_wp2_with fail
    refine (HP.out _ C_2).mono ?_
    rintro e w2 ⟨uA, ⟨rfl, iA⟩, hb2⟩
    clear xc0 xc1 xc2 xc3 xc4 xlt
    have C_4 : Below w.heap.size w w2 := C_2.trans (hb2.mono C_2.size)
    clear C_2
    have X_5 := hide (X_3.out.below hb2)
    clear X_3
    clear hb2
    obtain ⟨kA, tA, aA1, nA1, cA1, aA2, nA2, cA2, aA3, nA3, cA3, rfl⟩ := shapeZ iA
    have IA_6 := hide (iA)
    clear iA
    go_wp2_with fail
    have X_7 := hide (X_5.out.below ((Below.refl _ w2).alloc (Nat.le_refl _) (.cells #[.int .i64 kA, .string tA, .slice aA1 nA1 cA1, .slice aA2 nA2 cA2, .slice aA3 nA3 cA3] 26)))
    clear X_5
    have IA_8 := hide (IA_6.out.below ((Below.refl _ w2).alloc (Nat.le_refl _) (.cells #[.int .i64 kA, .string tA, .slice aA1 nA1 cA1, .slice aA2 nA2 cA2, .slice aA3 nA3 cA3] 26)))
    clear IA_6
    have C_9 : Below w.heap.size w (w2.alloc (.cells #[.int .i64 kA, .string tA, .slice aA1 nA1 cA1, .slice aA2 nA2 cA2, .slice aA3 nA3 cA3] 26)) := C_4.alloc C_4.size (.cells #[.int .i64 kA, .string tA, .slice aA1 nA1 cA1, .slice aA2 nA2 cA2, .slice aA3 nA3 cA3] 26)
    clear C_4
    have A_10 := hide (BoxAt.new w2 (.int .i64 kA) (.string tA) (.slice aA1 nA1 cA1) (.slice aA2 nA2 cA2) (.slice aA3 nA3 cA3) 26)
    go_wp2_with fail
    go_ret
    exact ⟨rfl, C_9⟩
end Go.Proofs.Ytnobcdhlagfhmaa.Z
