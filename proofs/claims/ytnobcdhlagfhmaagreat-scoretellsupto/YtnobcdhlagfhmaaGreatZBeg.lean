/- WALK of scoreBegun. -/
import Derived.Test.YtnobcdhlagfhmaaGreatZDrop
import Derived.Test.YtnobcdhlagfhmaaGreatZRank
import Derived.Test.YtnobcdhlagfhmaaGreatZRng
import Derived.Test.YtnobcdhlagfhmaaGreatBoxes
import Derived.Handy
namespace Go.Proofs.YtnobcdhlagfhmaaGreat.Z
open Go.RowKit

def tallyI : Itm := ⟨5, ⟨#[]⟩, [], [], [(-1, ⟨#[98]⟩), (2, ⟨#[97]⟩), (2, ⟨#[99]⟩)]⟩
theorem tally_is {w W : World} (hw : ∀ o u, (w.alloc (.cells #[.int .i64 (-1), .string ⟨#[98]⟩, .int .i64 2, .string ⟨#[97]⟩, .int .i64 2, .string ⟨#[99]⟩] 36)).cell? ⟨w.heap.size, o, none⟩ = some u → W.cell? ⟨w.heap.size, o, none⟩ = some u) :
    ItemIs W (.agg #[.int .i64 5, .string ⟨#[]⟩, .slice none 0 0, .slice none 0 0, .slice (some ⟨w.heap.size, 0, none⟩) 3 3]) tallyI := by
  refine ⟨⟨none, 0, none, 0, some ⟨w.heap.size, 0, none⟩, 3, rfl, .inl rfl, .inl rfl, .inr ⟨w.heap.size, 0, rfl, fun i hi => ?_⟩⟩, (show (0 : Nat) ≤ maxLen by simp), by simp [tallyI], by simp [tallyI], ?_, by simp [tallyI], by simp [tallyI], by simp [tallyI]⟩
  · match i, hi with
    | 0, _ => exact ⟨hw _ _ (by simp [go_sem, tallyI]), hw _ _ (by simp [go_sem, tallyI])⟩
    | 1, _ => exact ⟨hw _ _ (by simp [go_sem, tallyI]), hw _ _ (by simp [go_sem, tallyI])⟩
    | 2, _ => exact ⟨hw _ _ (by simp [go_sem, tallyI]), hw _ _ (by simp [go_sem, tallyI])⟩
  · intro t ht
    simp [tallyI] at ht
    rcases ht with rfl | rfl | rfl <;> (show (1 : Nat) ≤ maxLen; unfold maxLen; omega)
set_option maxRecDepth 100000 in
theorem tally_any (w : World) : Calls Tryz.prog 40 #[] w fun e w' => ∃ g, e = .returned (.agg #[.int .i64 5, .string ⟨#[]⟩, .slice none 0 0, .slice none 0 0, .slice (some ⟨g, 0, none⟩) 3 3]) ∧ ItemIs w' (.agg #[.int .i64 5, .string ⟨#[]⟩, .slice none 0 0, .slice none 0 0, .slice (some ⟨g, 0, none⟩) 3 3]) tallyI ∧ Below w.heap.size w w' := by
  go_enter Tryz.func40, Tryz.ntmps40
  go_wp2_with fail
  refine bodyPost_ret (v := .agg #[.int .i64 5, .string ⟨#[]⟩, .slice none 0 0, .slice none 0 0, .slice (some ⟨w.heap.size + 1, 0, none⟩) 3 3]) (by simp [results, Tryz.results40, go_sem]) rfl ⟨_, rfl, ?_, ?_⟩
  · have h := tally_is (w := w.alloc (.cells #[.int .i64 5, .string ⟨#[]⟩, .slice none 0 0, .slice none 0 0, .slice (some ⟨w.heap.size + 1, 0, none⟩) 3 3] 26)) (W := _) (fun _ _ h => h)
    rw [World.size_alloc] at h
    exact h
  · go_grown
def sL : List Sc := [(9, ⟨#[98]⟩), (2, ⟨#[97, 97]⟩)]
def sbX : Itm := ⟨5, ⟨#[]⟩, [], [], [(2, ⟨#[97]⟩), (2, ⟨#[97, 97]⟩), (2, ⟨#[99]⟩), (9, ⟨#[98]⟩)]⟩
def sbY : Itm := ⟨5, ⟨#[]⟩, [], [], [(2, ⟨#[97]⟩), (2, ⟨#[97, 97]⟩), (2, ⟨#[99]⟩)]⟩
theorem sb_put : putE tallyI sL = 0 ∧ putN tallyI sL = 1 ∧ putI tallyI sL = sbX := ⟨by kernel_rfl, by kernel_rfl, by kernel_rfl⟩
theorem sb_rank : rankE sbX ⟨#[98]⟩ = 0 ∧ rankN sbX ⟨#[98]⟩ = 3 ∧ numN sbX ⟨#[98]⟩ = 9 := ⟨by kernel_rfl, by kernel_rfl, by kernel_rfl⟩
theorem sb_range : asI sbX 5 = 0 ∧ askS (byPlace sbX.s.length 0 1) sbX = [⟨#[97]⟩, ⟨#[97, 97]⟩] ∧ askS (byNumber 2 2) sbX = [⟨#[97]⟩, ⟨#[97, 97]⟩, ⟨#[99]⟩] := ⟨by kernel_rfl, by kernel_rfl, by kernel_rfl⟩
theorem sb_drop : dropN sbX [⟨#[98]⟩] = 1 ∧ dropI sbX [⟨#[98]⟩] = sbY := ⟨by kernel_rfl, by kernel_rfl⟩
theorem shapeZ {w : World} {v : Value} {x : Itm} (h : ItemIs w v x) : ∃ k t a1 n1 c1 a2 n2 c2 a3 n3 c3, v = .agg #[.int .i64 k, .string t, .slice a1 n1 c1, .slice a2 n2 c2, .slice a3 n3 c3] := by
  obtain ⟨⟨a1, c1, a2, c2, a3, c3, e, -, -, -⟩, -, -, -, -, -, -, -⟩ := h
  exact ⟨_, _, _, _, _, _, _, _, _, _, _, e⟩
theorem lenZ {w : World} {x : Itm} {k : Int} {t : ByteArray} {a1 a2 a3 : Option Addr} {n1 n2 n3 c1 c2 c3 : Nat} (h : ItemIs w (.agg #[.int .i64 k, .string t, .slice a1 n1 c1, .slice a2 n2 c2, .slice a3 n3 c3]) x) : n3 = x.s.length := by
  obtain ⟨⟨b1, q1, b2, q2, b3, q3, e, -, -, -⟩, -⟩ := h
  injection e with e
  have e' := congrArg (fun z => z[4]?) e
  simp at e'
  exact e'.2.1
theorem one_textZ (w : World) (t1 : ByteArray) (T : TypeId) (g : Nat) (hg : g = w.heap.size) : TextsAt (w.alloc (.cells #[.string t1] T)) (some ⟨g, 0, none⟩) [t1] := by
  subst hg
  refine .inr ⟨w.heap.size, 0, rfl, fun i hi => ?_⟩
  match i, hi with
  | 0, _ => simp [go_sem]
theorem two_textsZ (w : World) (t1 t2 : ByteArray) (T : TypeId) (g : Nat) (hg : g = w.heap.size) : TextsAt (w.alloc (.cells #[.string t1, .string t2] T)) (some ⟨g, 0, none⟩) [t1, t2] := by
  subst hg
  refine .inr ⟨w.heap.size, 0, rfl, fun i hi => ?_⟩
  match i, hi with
  | 0, _ => simp [go_sem]
  | 1, _ => simp [go_sem]
theorem three_textsZ (w : World) (t1 t2 t3 : ByteArray) (T : TypeId) (g : Nat) (hg : g = w.heap.size) : TextsAt (w.alloc (.cells #[.string t1, .string t2, .string t3] T)) (some ⟨g, 0, none⟩) [t1, t2, t3] := by
  subst hg
  refine .inr ⟨w.heap.size, 0, rfl, fun i hi => ?_⟩
  match i, hi with
  | 0, _ => simp [go_sem]
  | 1, _ => simp [go_sem]
  | 2, _ => simp [go_sem]
theorem two_scores (w : World) (p q : Sc) (g : Nat) (hg : g = w.heap.size) : ScoresAt (w.alloc (.cells #[.int .i64 p.1, .string p.2, .int .i64 q.1, .string q.2] 36)) (some ⟨g, 0, none⟩) [p, q] := by
  subst hg
  refine .inr ⟨w.heap.size, 0, rfl, fun i hi => ?_⟩
  match i, hi with
  | 0, _ => exact ⟨by simp [go_sem], by simp [go_sem]⟩
  | 1, _ => exact ⟨by simp [go_sem], by simp [go_sem]⟩
set_option maxRecDepth 100000 in
set_option maxHeartbeats 8000000 in
theorem scoreBegun_any (w : World) : Calls Tryz.prog 16 #[] w fun e w' => e = .returned (.bool true) ∧ Below w.heap.size w w' := by
  have HT := hide tally_any
  have HA : Hid (∀ v W ad, ItemIs W v tallyI → ScoresAt W (some ad) sL → Calls Tryz.prog 4 #[v, .slice (some ad) 2 2] W fun e w' => ∃ u, (e = .returned (.tuple #[u, .int .i64 1, .int .i64 0]) ∧ ItemIs w' u sbX) ∧ Below W.heap.size W w') := fun v W ad hv h => by
    have hh := scorePut_any v tallyI (some ad) 2 sL W hv h (by simp [sL])
    rw [sb_put.1, sb_put.2.1, sb_put.2.2] at hh
    exact hh.mono fun e w' ⟨u, h1, h2, h3⟩ => ⟨u, ⟨h1, h2.is⟩, h3⟩
  have HK : Hid (∀ v W, ItemIs W v sbX → Calls Tryz.prog 7 #[v, .string ⟨#[98]⟩] W fun e w' => e = .returned (.tuple #[.int .i64 3, .int .i64 0]) ∧ Below W.heap.size W w') := fun v W hv => by
    have hh := rank_any v sbX ⟨#[98]⟩ W hv
    rw [sb_rank.1, sb_rank.2.1] at hh
    exact hh
  have HN : Hid (∀ v W, ItemIs W v sbX → Calls Tryz.prog 6 #[v, .string ⟨#[98]⟩] W fun e w' => e = .returned (.tuple #[.int .i64 9, .int .i64 0]) ∧ Below W.heap.size W w') := fun v W hv => by
    have hh := number_any v sbX ⟨#[98]⟩ W hv
    rw [sb_rank.1, sb_rank.2.2] at hh
    exact hh
  have HR : Hid (∀ v W, ItemIs W v sbX → Calls Tryz.prog 8 #[v, .int .i64 0, .int .i64 1] W fun e w' => (∃ a c, e = .returned (.tuple #[.slice a 2 c, .int .i64 0]) ∧ TextsAt w' a [⟨#[97]⟩, ⟨#[97, 97]⟩]) ∧ Below W.heap.size W w') := fun v W hv => by
    have hh := scoreRange_any v sbX 0 1 W hv (by simp [sbX]) (by decide) (by decide) (by decide) (by decide)
    rw [sb_range.1, sb_range.2.1] at hh
    exact hh.mono fun e w' ⟨a, c, h1, h2, h3⟩ => ⟨⟨a, c, h1, h2⟩, h3⟩
  have HW : Hid (∀ v W, ItemIs W v sbX → Calls Tryz.prog 9 #[v, .int .i64 2, .int .i64 2] W fun e w' => (∃ a c, e = .returned (.tuple #[.slice a 3 c, .int .i64 0]) ∧ TextsAt w' a [⟨#[97]⟩, ⟨#[97, 97]⟩, ⟨#[99]⟩]) ∧ Below W.heap.size W w') := fun v W hv => by
    have hh := scoreWithin_any v sbX 2 2 W hv
    rw [sb_range.1, sb_range.2.2] at hh
    exact hh.mono fun e w' ⟨a, c, h1, h2, h3⟩ => ⟨⟨a, c, h1, h2⟩, h3⟩
  have HD : Hid (∀ v W ad, ItemIs W v sbX → TextsAt W (some ad) [⟨#[98]⟩] → Calls Tryz.prog 5 #[v, .slice (some ad) 1 1] W fun e w' => ∃ u, (e = .returned (.tuple #[u, .int .i64 1, .int .i64 0]) ∧ ItemIs w' u sbY) ∧ Below W.heap.size W w') := fun v W ad hv h => by
    have hh := scoreDrop_any v sbX (some ad) 1 [⟨#[98]⟩] W hv h (by simp)
    rw [sb_range.1, sb_drop.1, sb_drop.2] at hh
    exact hh.mono fun e w' ⟨u, h1, h2, h3⟩ => ⟨u, ⟨h1, h2.is⟩, h3⟩
  have HS : Hid (∀ a b c d W, TextsAt W a [⟨#[97]⟩, ⟨#[97, 97]⟩] → TextsAt W b [⟨#[97]⟩, ⟨#[97, 97]⟩] → Calls Tryz.prog 18 #[.slice a 2 c, .slice b 2 d] W fun e w' => e = .returned (.bool true) ∧ Below W.heap.size W w') := fun a b c d W h1 h2 => by
    have hh := sameT_any a b c d _ _ W h1 h2 (by simp)
    rw [decide_eq_true rfl] at hh
    exact hh
  have HS3 : Hid (∀ a b c d W, TextsAt W a [⟨#[97]⟩, ⟨#[97, 97]⟩, ⟨#[99]⟩] → TextsAt W b [⟨#[97]⟩, ⟨#[97, 97]⟩, ⟨#[99]⟩] → Calls Tryz.prog 18 #[.slice a 3 c, .slice b 3 d] W fun e w' => e = .returned (.bool true) ∧ Below W.heap.size W w') := fun a b c d W h1 h2 => by
    have hh := sameT_any a b c d _ _ W h1 h2 (by simp)
    rw [decide_eq_true rfl] at hh
    exact hh
  go_enter Tryz.func16, Tryz.ntmps16
  go_wp2_with fail
  have C_0 : Below w.heap.size w w := Below.refl _ _
  refine (HT.out _).mono ?_
  rintro e w1 ⟨gT, rfl, iT, hb1⟩
  have C_1 : Below w.heap.size w w1 := C_0.trans (hb1.mono C_0.size)
  clear C_0
  clear hb1
  have IT_3 := hide (iT)
  clear iT
  go_wp2_with fail
  have IT_4 := hide (IT_3.out.below ((Below.refl _ w1).alloc (Nat.le_refl _) (.cells #[.int .i64 9, .string ⟨#[98]⟩, .int .i64 2, .string ⟨#[97, 97]⟩] 36)))
  clear IT_3
  have C_5 : Below w.heap.size w (w1.alloc (.cells #[.int .i64 9, .string ⟨#[98]⟩, .int .i64 2, .string ⟨#[97, 97]⟩] 36)) := C_1.alloc C_1.size (.cells #[.int .i64 9, .string ⟨#[98]⟩, .int .i64 2, .string ⟨#[97, 97]⟩] 36)
  clear C_1
  refine (HA.out _ _ _ IT_4.out (by exact two_scores _ (9, ⟨#[98]⟩) (2, ⟨#[97, 97]⟩) _ (by simp))).mono ?_
  rintro e w2 ⟨uX, ⟨rfl, iX⟩, hb2⟩
  have C_6 : Below w.heap.size w w2 := C_5.trans (hb2.mono C_5.size)
  clear C_5
  have IT_7 := hide (IT_4.out.below hb2)
  clear IT_4
  clear hb2
  obtain ⟨kX, tX, aX1, nX1, cX1, aX2, nX2, cX2, aX3, nX3, cX3, rfl⟩ := shapeZ iX
  have IX_8 := hide (iX)
  clear iX
  go_wp2_with fail
  have IX_9 := hide (IX_8.out.below ((Below.refl _ w2).alloc (Nat.le_refl _) (.cells #[.int .i64 kX, .string tX, .slice aX1 nX1 cX1, .slice aX2 nX2 cX2, .slice aX3 nX3 cX3] 26)))
  clear IX_8
  have C_10 : Below w.heap.size w (w2.alloc (.cells #[.int .i64 kX, .string tX, .slice aX1 nX1 cX1, .slice aX2 nX2 cX2, .slice aX3 nX3 cX3] 26)) := C_6.alloc C_6.size (.cells #[.int .i64 kX, .string tX, .slice aX1 nX1 cX1, .slice aX2 nX2 cX2, .slice aX3 nX3 cX3] 26)
  clear C_6
  have X_11 := hide (BoxAt.new w2 (.int .i64 kX) (.string tX) (.slice aX1 nX1 cX1) (.slice aX2 nX2 cX2) (.slice aX3 nX3 cX3) 26)
  refine (HK.out _ _ IX_9.out).mono ?_
  rintro e w3 ⟨rfl, hb3⟩
  have C_12 : Below w.heap.size w w3 := C_10.trans (hb3.mono C_10.size)
  clear C_10
  have IX_13 := hide (IX_9.out.below hb3)
  have X_13 := hide (X_11.out.below hb3)
  clear IX_9 X_11
  clear hb3
  obtain ⟨xc0, xc1, xc2, xc3, xc4, xlt⟩ := X_13.out
  go_wp2_with fail
  refine (HN.out _ _ IX_13.out).mono ?_
  rintro e w4 ⟨rfl, hb4⟩
  clear xc0 xc1 xc2 xc3 xc4 xlt
  have C_14 : Below w.heap.size w w4 := C_12.trans (hb4.mono C_12.size)
  clear C_12
  have IX_15 := hide (IX_13.out.below hb4)
  have X_15 := hide (X_13.out.below hb4)
  clear IX_13 X_13
  clear hb4
  obtain ⟨xc0, xc1, xc2, xc3, xc4, xlt⟩ := X_15.out
  go_wp2_with fail
  refine (HR.out _ _ IX_15.out).mono ?_
  rintro e w5 ⟨⟨aR, cR, rfl, iR⟩, hb5⟩
  clear xc0 xc1 xc2 xc3 xc4 xlt
  have C_16 : Below w.heap.size w w5 := C_14.trans (hb5.mono C_14.size)
  clear C_14
  have IX_17 := hide (IX_15.out.below hb5)
  have X_17 := hide (X_15.out.below hb5)
  clear IX_15 X_15
  clear hb5
  have TR_18 := hide (iR)
  clear iR
  obtain ⟨xc0, xc1, xc2, xc3, xc4, xlt⟩ := X_17.out
  go_wp2_with fail
  refine (HW.out _ _ IX_17.out).mono ?_
  rintro e w6 ⟨⟨aW, cW, rfl, iW⟩, hb6⟩
  clear xc0 xc1 xc2 xc3 xc4 xlt
  have C_19 : Below w.heap.size w w6 := C_16.trans (hb6.mono C_16.size)
  clear C_16
  have IX_20 := hide (IX_17.out.below hb6)
  have X_20 := hide (X_17.out.below hb6)
  have TR_20 := hide (TR_18.out.below hb6)
  clear IX_17 X_17 TR_18
  clear hb6
  have TW_21 := hide (iW)
  clear iW
  obtain ⟨xc0, xc1, xc2, xc3, xc4, xlt⟩ := X_20.out
  go_wp2_with fail
  have IX_22 := hide (IX_20.out.below ((Below.refl _ w6).alloc (Nat.le_refl _) (.cells #[.string ⟨#[98]⟩] 9)))
  clear IX_20
  have X_23 := hide (X_20.out.below ((Below.refl _ w6).alloc (Nat.le_refl _) (.cells #[.string ⟨#[98]⟩] 9)))
  clear X_20
  have TR_24 := hide (TR_20.out.below ((Below.refl _ w6).alloc (Nat.le_refl _) (.cells #[.string ⟨#[98]⟩] 9)))
  clear TR_20
  have TW_25 := hide (TW_21.out.below ((Below.refl _ w6).alloc (Nat.le_refl _) (.cells #[.string ⟨#[98]⟩] 9)))
  clear TW_21
  have C_26 : Below w.heap.size w (w6.alloc (.cells #[.string ⟨#[98]⟩] 9)) := C_19.alloc C_19.size (.cells #[.string ⟨#[98]⟩] 9)
  clear C_19
  refine (HD.out _ _ _ IX_22.out (by exact one_textZ _ _ _ _ (by simp))).mono ?_
  rintro e w7 ⟨uY, ⟨rfl, iY⟩, hb7⟩
  clear xc0 xc1 xc2 xc3 xc4 xlt
  have C_27 : Below w.heap.size w w7 := C_26.trans (hb7.mono C_26.size)
  clear C_26
  have IX_28 := hide (IX_22.out.below hb7)
  have X_28 := hide (X_23.out.below hb7)
  have TR_28 := hide (TR_24.out.below hb7)
  have TW_28 := hide (TW_25.out.below hb7)
  clear IX_22 X_23 TR_24 TW_25
  clear hb7
  obtain ⟨kY, tY, aY1, nY1, cY1, aY2, nY2, cY2, aY3, nY3, cY3, rfl⟩ := shapeZ iY
  obtain rfl : nY3 = 3 := lenZ iY
  clear iY
  go_wp2_with fail
  have IX_29 := hide (IX_28.out.below ((Below.refl _ w7).alloc (Nat.le_refl _) (.cells #[.int .i64 kY, .string tY, .slice aY1 nY1 cY1, .slice aY2 nY2 cY2, .slice aY3 3 cY3] 26)))
  clear IX_28
  have X_30 := hide (X_28.out.below ((Below.refl _ w7).alloc (Nat.le_refl _) (.cells #[.int .i64 kY, .string tY, .slice aY1 nY1 cY1, .slice aY2 nY2 cY2, .slice aY3 3 cY3] 26)))
  clear X_28
  have TR_31 := hide (TR_28.out.below ((Below.refl _ w7).alloc (Nat.le_refl _) (.cells #[.int .i64 kY, .string tY, .slice aY1 nY1 cY1, .slice aY2 nY2 cY2, .slice aY3 3 cY3] 26)))
  clear TR_28
  have TW_32 := hide (TW_28.out.below ((Below.refl _ w7).alloc (Nat.le_refl _) (.cells #[.int .i64 kY, .string tY, .slice aY1 nY1 cY1, .slice aY2 nY2 cY2, .slice aY3 3 cY3] 26)))
  clear TW_28
  have C_33 : Below w.heap.size w (w7.alloc (.cells #[.int .i64 kY, .string tY, .slice aY1 nY1 cY1, .slice aY2 nY2 cY2, .slice aY3 3 cY3] 26)) := C_27.alloc C_27.size (.cells #[.int .i64 kY, .string tY, .slice aY1 nY1 cY1, .slice aY2 nY2 cY2, .slice aY3 3 cY3] 26)
  clear C_27
  have Y_34 := hide (BoxAt.new w7 (.int .i64 kY) (.string tY) (.slice aY1 nY1 cY1) (.slice aY2 nY2 cY2) (.slice aY3 3 cY3) 26)
  have IX_35 := hide (IX_29.out.below ((Below.refl _ (w7.alloc (.cells #[.int .i64 kY, .string tY, .slice aY1 nY1 cY1, .slice aY2 nY2 cY2, .slice aY3 3 cY3] 26))).alloc (Nat.le_refl _) (.cells #[.string ⟨#[97]⟩, .string ⟨#[97, 97]⟩] 9)))
  clear IX_29
  have X_36 := hide (X_30.out.below ((Below.refl _ (w7.alloc (.cells #[.int .i64 kY, .string tY, .slice aY1 nY1 cY1, .slice aY2 nY2 cY2, .slice aY3 3 cY3] 26))).alloc (Nat.le_refl _) (.cells #[.string ⟨#[97]⟩, .string ⟨#[97, 97]⟩] 9)))
  clear X_30
  have TR_37 := hide (TR_31.out.below ((Below.refl _ (w7.alloc (.cells #[.int .i64 kY, .string tY, .slice aY1 nY1 cY1, .slice aY2 nY2 cY2, .slice aY3 3 cY3] 26))).alloc (Nat.le_refl _) (.cells #[.string ⟨#[97]⟩, .string ⟨#[97, 97]⟩] 9)))
  clear TR_31
  have TW_38 := hide (TW_32.out.below ((Below.refl _ (w7.alloc (.cells #[.int .i64 kY, .string tY, .slice aY1 nY1 cY1, .slice aY2 nY2 cY2, .slice aY3 3 cY3] 26))).alloc (Nat.le_refl _) (.cells #[.string ⟨#[97]⟩, .string ⟨#[97, 97]⟩] 9)))
  clear TW_32
  have Y_39 := hide (Y_34.out.below ((Below.refl _ (w7.alloc (.cells #[.int .i64 kY, .string tY, .slice aY1 nY1 cY1, .slice aY2 nY2 cY2, .slice aY3 3 cY3] 26))).alloc (Nat.le_refl _) (.cells #[.string ⟨#[97]⟩, .string ⟨#[97, 97]⟩] 9)))
  clear Y_34
  have C_40 : Below w.heap.size w ((w7.alloc (.cells #[.int .i64 kY, .string tY, .slice aY1 nY1 cY1, .slice aY2 nY2 cY2, .slice aY3 3 cY3] 26)).alloc (.cells #[.string ⟨#[97]⟩, .string ⟨#[97, 97]⟩] 9)) := C_33.alloc C_33.size (.cells #[.string ⟨#[97]⟩, .string ⟨#[97, 97]⟩] 9)
  clear C_33
  refine (HS.out _ _ _ _ _ TR_37.out (by exact two_textsZ _ _ _ _ _ (by simp))).mono ?_
  rintro e w8 ⟨rfl, hb8⟩
  have C_41 : Below w.heap.size w w8 := C_40.trans (hb8.mono C_40.size)
  clear C_40
  have IX_42 := hide (IX_35.out.below hb8)
  have X_42 := hide (X_36.out.below hb8)
  have TR_42 := hide (TR_37.out.below hb8)
  have TW_42 := hide (TW_38.out.below hb8)
  have Y_42 := hide (Y_39.out.below hb8)
  clear IX_35 X_36 TR_37 TW_38 Y_39
  clear hb8
  go_wp2_with fail
  have IX_43 := hide (IX_42.out.below ((Below.refl _ w8).alloc (Nat.le_refl _) (.cells #[.string ⟨#[97]⟩, .string ⟨#[97, 97]⟩, .string ⟨#[99]⟩] 9)))
  clear IX_42
  have X_44 := hide (X_42.out.below ((Below.refl _ w8).alloc (Nat.le_refl _) (.cells #[.string ⟨#[97]⟩, .string ⟨#[97, 97]⟩, .string ⟨#[99]⟩] 9)))
  clear X_42
  have TR_45 := hide (TR_42.out.below ((Below.refl _ w8).alloc (Nat.le_refl _) (.cells #[.string ⟨#[97]⟩, .string ⟨#[97, 97]⟩, .string ⟨#[99]⟩] 9)))
  clear TR_42
  have TW_46 := hide (TW_42.out.below ((Below.refl _ w8).alloc (Nat.le_refl _) (.cells #[.string ⟨#[97]⟩, .string ⟨#[97, 97]⟩, .string ⟨#[99]⟩] 9)))
  clear TW_42
  have Y_47 := hide (Y_42.out.below ((Below.refl _ w8).alloc (Nat.le_refl _) (.cells #[.string ⟨#[97]⟩, .string ⟨#[97, 97]⟩, .string ⟨#[99]⟩] 9)))
  clear Y_42
  have C_48 : Below w.heap.size w (w8.alloc (.cells #[.string ⟨#[97]⟩, .string ⟨#[97, 97]⟩, .string ⟨#[99]⟩] 9)) := C_41.alloc C_41.size (.cells #[.string ⟨#[97]⟩, .string ⟨#[97, 97]⟩, .string ⟨#[99]⟩] 9)
  clear C_41
  refine (HS3.out _ _ _ _ _ TW_46.out (by exact three_textsZ _ _ _ _ _ _ (by simp))).mono ?_
  rintro e w9 ⟨rfl, hb9⟩
  have C_49 : Below w.heap.size w w9 := C_48.trans (hb9.mono C_48.size)
  clear C_48
  have IX_50 := hide (IX_43.out.below hb9)
  have X_50 := hide (X_44.out.below hb9)
  have TR_50 := hide (TR_45.out.below hb9)
  have TW_50 := hide (TW_46.out.below hb9)
  have Y_50 := hide (Y_47.out.below hb9)
  clear IX_43 X_44 TR_45 TW_46 Y_47
  clear hb9
  obtain ⟨yc0, yc1, yc2, yc3, yc4, ylt⟩ := Y_50.out
  go_wp2_with fail
  go_ret
  exact ⟨rfl, C_49⟩
end Go.Proofs.YtnobcdhlagfhmaaGreat.Z
