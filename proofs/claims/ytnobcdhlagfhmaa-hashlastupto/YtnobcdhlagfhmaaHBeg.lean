/- WALK of hashBegun. -/
import Derived.Test.YtnobcdhlagfhmaaHDrop
import Derived.Test.YtnobcdhlagfhmaaBoxes
import Derived.Handy
namespace Go.Proofs.Ytnobcdhlagfhmaa
open Go.RowKit

def pB1 : Pr := (⟨#[98]⟩, ⟨#[49]⟩)
def pA2 : Pr := (⟨#[97]⟩, ⟨#[50]⟩)
def pB3 : Pr := (⟨#[98]⟩, ⟨#[51]⟩)
def hbX : Itm := ⟨4, ⟨#[]⟩, [], [pA2, pB3], []⟩
def hbY : Itm := ⟨4, ⟨#[]⟩, [], [pA2], []⟩
theorem hb_put : putE Itm.none [pB1, pA2, pB3] = 0 ∧ putN Itm.none [pB1, pA2, pB3] = 2 ∧ putI Itm.none [pB1, pA2, pB3] = hbX := ⟨by kernel_rfl, by kernel_rfl, by kernel_rfl⟩
theorem hb_get : getE hbX ⟨#[98]⟩ = 0 ∧ getS hbX ⟨#[98]⟩ = ⟨#[51]⟩ := ⟨by kernel_rfl, by kernel_rfl⟩
theorem hb_drop : asI hbX 4 = 0 ∧ dropN hbX [⟨#[98]⟩, ⟨#[122]⟩] = 1 ∧ dropI hbX [⟨#[98]⟩, ⟨#[122]⟩] = hbY := ⟨by kernel_rfl, by kernel_rfl, by kernel_rfl⟩
theorem hb_get2 : getE hbY ⟨#[98]⟩ = 5 ∧ getS hbY ⟨#[98]⟩ = ⟨#[]⟩ := ⟨by kernel_rfl, by kernel_rfl⟩
theorem ItemIs.shapeH {w : World} {v : Value} {x : Itm} (h : ItemIs w v x) : ∃ k t a1 n1 c1 a2 n2 c2 a3 n3 c3, v = .agg #[.int .i64 k, .string t, .slice a1 n1 c1, .slice a2 n2 c2, .slice a3 n3 c3] := by
  obtain ⟨⟨a1, c1, a2, c2, a3, c3, e, -, -, -⟩, -, -, -, -, -, -, -⟩ := h
  exact ⟨_, _, _, _, _, _, _, _, _, _, _, e⟩
theorem ItemIs.lenH {w : World} {x : Itm} {k : Int} {t : ByteArray} {a1 a2 a3 : Option Addr} {n1 n2 n3 c1 c2 c3 : Nat} (h : ItemIs w (.agg #[.int .i64 k, .string t, .slice a1 n1 c1, .slice a2 n2 c2, .slice a3 n3 c3]) x) : n2 = x.p.length := by
  obtain ⟨⟨b1, q1, b2, q2, b3, q3, e, -, -, -⟩, -⟩ := h
  injection e with e
  have e' := congrArg (fun z => z[3]?) e
  simp at e'
  exact e'.2.1
theorem short_pr : ∀ t ∈ [pB1, pA2, pB3], t.1.size ≤ maxLen ∧ t.2.size ≤ maxLen := by
  have h1 : (1 : Nat) ≤ maxLen := by unfold maxLen; omega
  intro t ht
  simp at ht
  rcases ht with rfl | rfl | rfl <;> exact ⟨h1, h1⟩
theorem two_textsH (w : World) (t1 t2 : ByteArray) (T : TypeId) (g : Nat) (hg : g = w.heap.size) : TextsAt (w.alloc (.cells #[.string t1, .string t2] T)) (some ⟨g, 0, none⟩) [t1, t2] := by
  subst hg
  refine .inr ⟨w.heap.size, 0, rfl, fun i hi => ?_⟩
  match i, hi with
  | 0, _ => simp [go_sem]
  | 1, _ => simp [go_sem]
theorem three_pairs (w : World) (p q r : Pr) (g : Nat) (hg : g = w.heap.size) : PairsAt (w.alloc (.cells #[.string p.1, .string p.2, .string q.1, .string q.2, .string r.1, .string r.2] 37)) (some ⟨g, 0, none⟩) [p, q, r] := by
  subst hg
  refine .inr ⟨w.heap.size, 0, rfl, fun i hi => ?_⟩
  match i, hi with
  | 0, _ => exact ⟨by simp [go_sem], by simp [go_sem]⟩
  | 1, _ => exact ⟨by simp [go_sem], by simp [go_sem]⟩
  | 2, _ => exact ⟨by simp [go_sem], by simp [go_sem]⟩
set_option maxRecDepth 100000 in
set_option maxHeartbeats 8000000 in
theorem hashBegun_any (w : World) : Calls Try.prog 12 #[] w fun e w' => e = .returned (.bool true) ∧ Below w.heap.size w w' := by
  have HA : Hid (∀ W ad, PairsAt W (some ad) [pB1, pA2, pB3] → Calls Try.prog 6 #[.agg #[.int .i64 0, .string ⟨#[]⟩, .slice none 0 0, .slice none 0 0, .slice none 0 0], .slice (some ad) 3 3] W fun e w' => ∃ u, (e = .returned (.tuple #[u, .int .i64 2, .int .i64 0]) ∧ ItemIs w' u hbX) ∧ Below W.heap.size W w') := fun W ad h => by
    have hh := hashPut_any _ Itm.none (some ad) 3 [pB1, pA2, pB3] W (zero_is W) h short_pr (by simp)
    rw [hb_put.1, hb_put.2.1, hb_put.2.2] at hh
    exact hh.mono fun e w' ⟨u, h1, h2, h3⟩ => ⟨u, ⟨h1, h2.is⟩, h3⟩
  have HD : Hid (∀ v W ad, ItemIs W v hbX → TextsAt W (some ad) [⟨#[98]⟩, ⟨#[122]⟩] → Calls Try.prog 8 #[v, .slice (some ad) 2 2] W fun e w' => ∃ u, (e = .returned (.tuple #[u, .int .i64 1, .int .i64 0]) ∧ ItemIs w' u hbY) ∧ Below W.heap.size W w') := fun v W ad hv h => by
    have hh := hashDrop_any v hbX (some ad) 2 [⟨#[98]⟩, ⟨#[122]⟩] W hv h (by simp)
    rw [hb_drop.1, hb_drop.2.1, hb_drop.2.2] at hh
    exact hh.mono fun e w' ⟨u, h1, h2, h3⟩ => ⟨u, ⟨h1, h2.is⟩, h3⟩
  have HG : Hid (∀ v W, ItemIs W v hbX → Calls Try.prog 7 #[v, .string ⟨#[98]⟩] W fun e w' => e = .returned (.tuple #[.string ⟨#[51]⟩, .int .i64 0]) ∧ Below W.heap.size W w') := fun v W hv => by
    have hh := hashGet_any v hbX ⟨#[98]⟩ W hv
    rw [hb_get.1, hb_get.2] at hh
    exact hh
  have HG2 : Hid (∀ v W, ItemIs W v hbY → Calls Try.prog 7 #[v, .string ⟨#[98]⟩] W fun e w' => e = .returned (.tuple #[.string ⟨#[]⟩, .int .i64 5]) ∧ Below W.heap.size W w') := fun v W hv => by
    have hh := hashGet_any v hbY ⟨#[98]⟩ W hv
    rw [hb_get2.1, hb_get2.2] at hh
    exact hh
  go_enter Try.func12, Try.ntmps12
  go_wp2_with fail
  have C_0 : Below w.heap.size w (w.alloc (.cells #[.string ⟨#[98]⟩, .string ⟨#[49]⟩, .string ⟨#[97]⟩, .string ⟨#[50]⟩, .string ⟨#[98]⟩, .string ⟨#[51]⟩] 37)) := (Below.refl _ w).alloc (Nat.le_refl _) _
  refine (HA.out _ _ (by exact three_pairs _ _ _ _ _ (by simp))).mono ?_
  rintro e w1 ⟨uX, ⟨rfl, iX⟩, hb1⟩
  have C_1 : Below w.heap.size w w1 := C_0.trans (hb1.mono C_0.size)
  clear C_0
  clear hb1
  obtain ⟨kX, tX, aX1, nX1, cX1, aX2, nX2, cX2, aX3, nX3, cX3, rfl⟩ := iX.shapeH
  have IX_3 := hide (iX)
  clear iX
  go_wp2_with fail
  have IX_4 := hide (IX_3.out.below ((Below.refl _ w1).alloc (Nat.le_refl _) (.cells #[.int .i64 kX, .string tX, .slice aX1 nX1 cX1, .slice aX2 nX2 cX2, .slice aX3 nX3 cX3] 26)))
  clear IX_3
  have C_5 : Below w.heap.size w (w1.alloc (.cells #[.int .i64 kX, .string tX, .slice aX1 nX1 cX1, .slice aX2 nX2 cX2, .slice aX3 nX3 cX3] 26)) := C_1.alloc C_1.size (.cells #[.int .i64 kX, .string tX, .slice aX1 nX1 cX1, .slice aX2 nX2 cX2, .slice aX3 nX3 cX3] 26)
  clear C_1
  have X_6 := hide (BoxAt.new w1 (.int .i64 kX) (.string tX) (.slice aX1 nX1 cX1) (.slice aX2 nX2 cX2) (.slice aX3 nX3 cX3) 26)
  refine (HG.out _ _ IX_4.out).mono ?_
  rintro e w2 ⟨rfl, hb2⟩
  have C_7 : Below w.heap.size w w2 := C_5.trans (hb2.mono C_5.size)
  clear C_5
  have IX_8 := hide (IX_4.out.below hb2)
  have X_8 := hide (X_6.out.below hb2)
  clear IX_4 X_6
  clear hb2
  obtain ⟨xc0, xc1, xc2, xc3, xc4, xlt⟩ := X_8.out
  go_wp2_with fail
  clear xc0 xc1 xc2 xc3 xc4 xlt
  have IX_9 := hide (IX_8.out.below ((Below.refl _ w2).alloc (Nat.le_refl _) (.cells #[.string ⟨#[98]⟩, .string ⟨#[122]⟩] 9)))
  clear IX_8
  have X_10 := hide (X_8.out.below ((Below.refl _ w2).alloc (Nat.le_refl _) (.cells #[.string ⟨#[98]⟩, .string ⟨#[122]⟩] 9)))
  clear X_8
  have C_11 : Below w.heap.size w (w2.alloc (.cells #[.string ⟨#[98]⟩, .string ⟨#[122]⟩] 9)) := C_7.alloc C_7.size (.cells #[.string ⟨#[98]⟩, .string ⟨#[122]⟩] 9)
  clear C_7
  refine (HD.out _ _ _ IX_9.out (by exact two_textsH _ _ _ _ _ (by simp))).mono ?_
  rintro e w3 ⟨uY, ⟨rfl, iY⟩, hb3⟩
  have C_12 : Below w.heap.size w w3 := C_11.trans (hb3.mono C_11.size)
  clear C_11
  have IX_13 := hide (IX_9.out.below hb3)
  have X_13 := hide (X_10.out.below hb3)
  clear IX_9 X_10
  clear hb3
  obtain ⟨kY, tY, aY1, nY1, cY1, aY2, nY2, cY2, aY3, nY3, cY3, rfl⟩ := iY.shapeH
  obtain rfl : nY2 = 1 := iY.lenH
  have IY_14 := hide (iY)
  clear iY
  go_wp2_with fail
  have IX_15 := hide (IX_13.out.below ((Below.refl _ w3).alloc (Nat.le_refl _) (.cells #[.int .i64 kY, .string tY, .slice aY1 nY1 cY1, .slice aY2 1 cY2, .slice aY3 nY3 cY3] 26)))
  clear IX_13
  have X_16 := hide (X_13.out.below ((Below.refl _ w3).alloc (Nat.le_refl _) (.cells #[.int .i64 kY, .string tY, .slice aY1 nY1 cY1, .slice aY2 1 cY2, .slice aY3 nY3 cY3] 26)))
  clear X_13
  have IY_17 := hide (IY_14.out.below ((Below.refl _ w3).alloc (Nat.le_refl _) (.cells #[.int .i64 kY, .string tY, .slice aY1 nY1 cY1, .slice aY2 1 cY2, .slice aY3 nY3 cY3] 26)))
  clear IY_14
  have C_18 : Below w.heap.size w (w3.alloc (.cells #[.int .i64 kY, .string tY, .slice aY1 nY1 cY1, .slice aY2 1 cY2, .slice aY3 nY3 cY3] 26)) := C_12.alloc C_12.size (.cells #[.int .i64 kY, .string tY, .slice aY1 nY1 cY1, .slice aY2 1 cY2, .slice aY3 nY3 cY3] 26)
  clear C_12
  have Y_19 := hide (BoxAt.new w3 (.int .i64 kY) (.string tY) (.slice aY1 nY1 cY1) (.slice aY2 1 cY2) (.slice aY3 nY3 cY3) 26)
  refine (HG2.out _ _ IY_17.out).mono ?_
  rintro e w4 ⟨rfl, hb4⟩
  have C_20 : Below w.heap.size w w4 := C_18.trans (hb4.mono C_18.size)
  clear C_18
  have IX_21 := hide (IX_15.out.below hb4)
  have X_21 := hide (X_16.out.below hb4)
  have IY_21 := hide (IY_17.out.below hb4)
  have Y_21 := hide (Y_19.out.below hb4)
  clear IX_15 X_16 IY_17 Y_19
  clear hb4
  obtain ⟨yc0, yc1, yc2, yc3, yc4, ylt⟩ := Y_21.out
  go_wp2_with fail
  go_ret
  exact ⟨rfl, C_20⟩
end Go.Proofs.Ytnobcdhlagfhmaa
