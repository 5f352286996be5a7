/- WALK of setBegun. -/
import Derived.Test.YtkjnalbnhmpopaaSet8
import Derived.Test.YtkjnalbnhmpopaaISame2
import Derived.Test.YtkjnalbnhmpopaaBoxes
import Derived.Handy
namespace Go.Proofs.Ytkjnalbnhmpopaa
open Go.RowKit

def tA : ByteArray := ⟨#[97]⟩
def tB : ByteArray := ⟨#[98]⟩
def tZ : ByteArray := ⟨#[122]⟩
def bgX : Itm := ⟨3, ⟨#[]⟩, [tA, tB], [], []⟩
def bgY : Itm := ⟨3, ⟨#[]⟩, [tB], [], []⟩
theorem tAB : lessT tA tB := by unfold lessT tA tB; decide
theorem none_as : asI Itm.none 3 = 0 := by
  have : Itm.none.isNone = true := by simp [Itm.isNone, Itm.none]
  rw [asI, if_pos this]
theorem set_as {l : List ByteArray} (hr : Rises l) (hne : l ≠ []) (h24 : l.length ≤ 24) (hz : ∀ t ∈ l, t.size ≤ 60) : asI ⟨3, ⟨#[]⟩, l, [], []⟩ 3 = 0 := by
  have h1 : chkI ⟨3, ⟨#[]⟩, l, [], []⟩ = 0 := by
    unfold chkI
    have ho : otherI ⟨3, ⟨#[]⟩, l, [], []⟩ = false := by simp [otherI]
    have hs : sizeT l.length (l.any longT) = 0 := by
      have h2 : l.any longT = false := by
        rw [List.any_eq_false]
        intro t ht
        have := hz t ht
        simp [longT]
        omega
      have h3 : l.length ≠ 0 := fun e => hne (List.eq_nil_of_length_eq_zero e)
      unfold sizeT
      rw [if_neg h3, if_neg (by simp [h2]; omega)]
    rw [if_neg (by simp), ho, if_neg (by decide), if_neg (by simp), if_pos rfl]
    unfold setT
    rw [if_neg (by simp [hs]), if_pos (riseTo_of_rises hr)]
  unfold asI
  split
  · rfl
  · rw [if_neg (by simp [h1]), if_neg (by simp)]
theorem rises_AB : Rises [tA, tB] := by simp [Rises, tAB]
theorem rises_B : Rises [tB] := by simp [Rises]
theorem short_A : tA.size = 1 := rfl
theorem short_B : tB.size = 1 := rfl
theorem bgX_as : asI bgX 3 = 0 := set_as rises_AB (by simp) (by simp) (by simp [short_A, short_B])
theorem bgY_as : asI bgY 3 = 0 := set_as rises_B (by simp) (by simp) (by simp [short_B])
theorem bg_addT : addT [] [tB, tA, tB] = [tA, tB] := rises_unique (rises_addT List.Pairwise.nil) rises_AB (fun x => by
  rw [mem_addT]
  simp
  exact fun h => .inr h)
theorem bg_add : addE Itm.none [tB, tA, tB] = 0 ∧ addN Itm.none [tB, tA, tB] = 2 ∧ addI Itm.none [tB, tA, tB] = bgX := by
  have e : Itm.none.l = [] := rfl
  have h1 : addE Itm.none [tB, tA, tB] = 0 := by
    rw [addE, if_neg (by simp [none_as]), e, bg_addT, if_neg (by simp [longT, short_A, short_B]), if_neg (by simp)]
  refine ⟨h1, ?_, ?_⟩
  · rw [addN, if_pos h1, e, bg_addT]; rfl
  · rw [addI, if_pos h1, e, bg_addT]; rfl
theorem ne_AB : ¬ tA = tB := fun e => lessT_irrefl tB (e ▸ tAB)
theorem ne_BA : ¬ tB = tA := fun e => ne_AB e.symm
theorem ne_BZ : ¬ tB = tZ := fun e => by
  have : tB.data = tZ.data := congrArg ByteArray.data e
  exact absurd this (by decide)
theorem bg_rem : remofN bgX 3 [tA, tZ] = 1 ∧ remofI bgX 3 [tA, tZ] = bgY := by
  have e : lessK bgX.l [tA, tZ] = [tB] := by
    rw [less_stay]
    have h1 : hasT [tA, tZ] tA = true := hasT_iff.2 (by simp)
    have h2 : hasT [tA, tZ] tB = false := hasT_not (by simp [ne_BA, ne_BZ])
    simp [stayL, bgX, h1, h2]
  rw [remofN, remofI, if_pos bgX_as, if_pos bgX_as, e]
  exact ⟨rfl, rfl⟩
theorem bg_has : hasE bgX tB = true := by
  rw [hasE, if_pos bgX_as]
  exact hasT_iff.2 (by simp [bgX])
theorem bg_E : setsF [bgX, bgY] = 0 := by
  rw [setsF, if_neg (by simp)]
  exact setsE_all (by simp [bgX_as, bgY_as])
theorem bg_cnt : cntL [[tA, tB], [tB]] tA = 1 ∧ cntL [[tA, tB], [tB]] tB = 2 := by
  have h1 : hasT [tA, tB] tA = true := hasT_iff.2 (by simp)
  have h2 : hasT [tB] tA = false := hasT_not (by simp [ne_AB])
  have h3 : hasT [tA, tB] tB = true := hasT_iff.2 (by simp)
  have h4 : hasT [tB] tB = true := hasT_iff.2 (by simp)
  simp [cntL, h1, h2, h3, h4]
theorem bg_meet : thoseL (askM [bgX, bgY]) ([bgX, bgY].map Itm.l) = [tB] := rises_unique (thoseL_rises _ _) rises_B (fun x => by
  rw [mem_thoseL]
  show (∃ l ∈ [[tA, tB], [tB]], x ∈ l) ∧ decide (cntL [[tA, tB], [tB]] x = 2) = true ↔ _
  rw [decide_eq_true_eq]
  simp
  constructor
  · rintro ⟨h | h, h2⟩
    · subst h; rw [bg_cnt.1] at h2; cases h2
    · exact h
  · intro h; subst h; exact ⟨.inr rfl, bg_cnt.2⟩)
theorem bg_join : thoseL (askJ [bgX, bgY]) ([bgX, bgY].map Itm.l) = [tA, tB] := rises_unique (thoseL_rises _ _) rises_AB (fun x => by
  rw [mem_thoseL]
  show (∃ l ∈ [[tA, tB], [tB]], x ∈ l) ∧ true = true ↔ _
  simp)
theorem bg_less : thoseL (askL1 [bgX, bgY]) ([bgX, bgY].map Itm.l) = [tA] := rises_unique (thoseL_rises _ _) (by simp [Rises]) (fun x => by
  rw [mem_thoseL]
  show (∃ l ∈ [[tA, tB], [tB]], x ∈ l) ∧ (decide (cntL [[tA, tB], [tB]] x = 1) && hasT [tA, tB] x) = true ↔ _
  rw [Bool.and_eq_true, decide_eq_true_eq, hasT_iff]
  simp
  constructor
  · rintro ⟨_, h2, h | h⟩
    · exact h
    · subst h; rw [bg_cnt.2] at h2; cases h2
  · intro h; subst h; exact ⟨.inl rfl, bg_cnt.1, .inl rfl⟩)
/-- two items laid side by side -/
theorem items_two {w : World} {X Y : Itm} {kX kY : Int} {tX tY : ByteArray} {aX1 aX2 aX3 aY1 aY2 aY3 : Option Addr} {nX1 nX2 nX3 nY1 nY2 nY3 cX1 cX2 cX3 cY1 cY2 cY3 : Nat} (hx : ItemIs w (.agg #[.int .i64 kX, .string tX, .slice aX1 nX1 cX1, .slice aX2 nX2 cX2, .slice aX3 nX3 cX3]) X) (hy : ItemIs w (.agg #[.int .i64 kY, .string tY, .slice aY1 nY1 cY1, .slice aY2 nY2 cY2, .slice aY3 nY3 cY3]) Y) (T : Nat) (g : Nat) (hg : g = w.heap.size) :
    ItemsAt (w.alloc (.cells #[.int .i64 kX, .string tX, .slice aX1 nX1 cX1, .slice aX2 nX2 cX2, .slice aX3 nX3 cX3, .int .i64 kY, .string tY, .slice aY1 nY1 cY1, .slice aY2 nY2 cY2, .slice aY3 nY3 cY3] T)) (some ⟨g, 0, none⟩) [X, Y] := by
  subst hg
  have hb : Below w.heap.size w (w.alloc (.cells #[.int .i64 kX, .string tX, .slice aX1 nX1 cX1, .slice aX2 nX2 cX2, .slice aX3 nX3 cX3, .int .i64 kY, .string tY, .slice aY1 nY1 cY1, .slice aY2 nY2 cY2, .slice aY3 nY3 cY3] T)) := (Below.refl _ _).alloc (Nat.le_refl _) _
  have hx' := hx
  have hy' := hy
  obtain ⟨⟨b1, q1, b2, q2, b3, q3, e, -, -, -⟩, -, -, -, -, -, -, -⟩ := hx'
  obtain ⟨⟨d1, r1, d2, r2, d3, r3, f, -, -, -⟩, -, -, -, -, -, -, -⟩ := hy'
  injection e with e
  injection f with f
  simp at e f
  obtain ⟨rfl, rfl, ⟨rfl, rfl, rfl⟩, ⟨rfl, rfl, rfl⟩, rfl, rfl, rfl⟩ := e
  obtain ⟨rfl, rfl, ⟨rfl, rfl, rfl⟩, ⟨rfl, rfl, rfl⟩, rfl, rfl, rfl⟩ := f
  refine .inr ⟨w.heap.size, 0, rfl, fun i hi => ?_⟩
  match i, hi with
  | 0, _ => exact ⟨_, _, _, _, _, _, ⟨by simp [go_sem], by simp [go_sem], by simp [go_sem], by simp [go_sem], by simp [go_sem]⟩, hx.below hb⟩
  | 1, _ => exact ⟨_, _, _, _, _, _, ⟨by simp [go_sem], by simp [go_sem], by simp [go_sem], by simp [go_sem], by simp [go_sem]⟩, hy.below hb⟩
theorem ItemIs.shapeS {w : World} {v : Value} {x : Itm} (h : ItemIs w v x) : ∃ k t a1 n1 c1 a2 n2 c2 a3 n3 c3, v = .agg #[.int .i64 k, .string t, .slice a1 n1 c1, .slice a2 n2 c2, .slice a3 n3 c3] := by
  obtain ⟨⟨a1, c1, a2, c2, a3, c3, e, -, -, -⟩, -, -, -, -, -, -, -⟩ := h
  exact ⟨_, _, _, _, _, _, _, _, _, _, _, e⟩
theorem ones_texts (w : World) (t1 : ByteArray) (T : TypeId) (g : Nat) (hg : g = w.heap.size) : TextsAt (w.alloc (.cells #[.string t1] T)) (some ⟨g, 0, none⟩) [t1] := by
  subst hg
  refine .inr ⟨w.heap.size, 0, rfl, fun i hi => ?_⟩
  match i, hi with
  | 0, _ => simp [go_sem]
theorem two_texts (w : World) (t1 t2 : ByteArray) (T : TypeId) (g : Nat) (hg : g = w.heap.size) : TextsAt (w.alloc (.cells #[.string t1, .string t2] T)) (some ⟨g, 0, none⟩) [t1, t2] := by
  subst hg
  refine .inr ⟨w.heap.size, 0, rfl, fun i hi => ?_⟩
  match i, hi with
  | 0, _ => simp [go_sem]
  | 1, _ => simp [go_sem]
theorem three_texts (w : World) (t1 t2 t3 : ByteArray) (T : TypeId) (g : Nat) (hg : g = w.heap.size) : TextsAt (w.alloc (.cells #[.string t1, .string t2, .string t3] T)) (some ⟨g, 0, none⟩) [t1, t2, t3] := by
  subst hg
  refine .inr ⟨w.heap.size, 0, rfl, fun i hi => ?_⟩
  match i, hi with
  | 0, _ => simp [go_sem]
  | 1, _ => simp [go_sem]
  | 2, _ => simp [go_sem]
theorem short_txt : ∀ t ∈ [tB, tA, tB], t.size ≤ maxLen := by simp [short_A, short_B, maxLen]
set_option maxRecDepth 100000 in
set_option maxHeartbeats 8000000 in
theorem setBegun_any (w : World) : Calls Try.prog 33 #[] w fun e w' => e = .returned (.bool true) ∧ Below w.heap.size w w' := by
  have HA : Hid (∀ W ad, TextsAt W (some ad) [⟨#[98]⟩, ⟨#[97]⟩, ⟨#[98]⟩] → Calls Try.prog 25 #[.agg #[.int .i64 0, .string ⟨#[]⟩, .slice none 0 0, .slice none 0 0, .slice none 0 0], .slice (some ad) 3 3] W fun e w' => ∃ u, (e = .returned (.tuple #[u, .int .i64 2, .int .i64 0]) ∧ ItemIs w' u bgX) ∧ Below W.heap.size W w') := fun W ad h => by
    have hh := setAdd_any _ Itm.none (some ad) 3 [tB, tA, tB] W (zero_is W) h short_txt (by simp)
    rw [bg_add.1, bg_add.2.1, bg_add.2.2] at hh
    exact hh.mono fun e w' ⟨u, h1, h2, h3⟩ => ⟨u, ⟨h1, h2.is⟩, h3⟩
  have HR : Hid (∀ v W ad, ItemIs W v bgX → TextsAt W (some ad) [⟨#[97]⟩, ⟨#[122]⟩] → Calls Try.prog 26 #[v, .slice (some ad) 2 2] W fun e w' => ∃ u, (e = .returned (.tuple #[u, .int .i64 1, .int .i64 0]) ∧ ItemIs w' u bgY) ∧ Below W.heap.size W w') := fun v W ad hv h => by
    have hh := setRemove_any v bgX (some ad) 2 [tA, tZ] W hv h (by simp)
    rw [bg_rem.1, bg_rem.2, bgX_as] at hh
    exact hh.mono fun e w' ⟨u, h1, h2, h3⟩ => ⟨u, ⟨h1, h2.is⟩, h3⟩
  have HH : Hid (∀ v W, ItemIs W v bgX → Calls Try.prog 27 #[v, .string ⟨#[98]⟩] W fun e w' => e = .returned (.tuple #[.bool true, .int .i64 0]) ∧ Below W.heap.size W w') := fun v W hv => by
    have hh := has_any v bgX tB W hv
    rw [bg_has, bgX_as] at hh
    exact hh
  have HM : Hid (∀ W ad, ItemsAt W (some ad) [bgX, bgY] → Calls Try.prog 28 #[.slice (some ad) 2 2] W fun e w' => (∃ a c, e = .returned (.tuple #[.slice a 1 c, .int .i64 0]) ∧ TextsAt w' a [⟨#[98]⟩]) ∧ Below W.heap.size W w') := fun W ad h => (meet_any (some ad) 2 [bgX, bgY] W h (by simp) (by simp [bgX, bgY]) 0 [tB] ⟨bg_E.symm, by rw [if_pos bg_E, bg_meet]⟩).mono fun e w' ⟨a, c, h1, h2, h3⟩ => ⟨⟨a, c, h1, h2 w' (fun _ _ _ _ h => h)⟩, h3⟩
  have HJ : Hid (∀ W ad, ItemsAt W (some ad) [bgX, bgY] → Calls Try.prog 29 #[.slice (some ad) 2 2] W fun e w' => (∃ a c, e = .returned (.tuple #[.slice a 2 c, .int .i64 0]) ∧ TextsAt w' a [⟨#[97]⟩, ⟨#[98]⟩]) ∧ Below W.heap.size W w') := fun W ad h => (joinS_any (some ad) 2 [bgX, bgY] W h (by simp) (by simp [bgX, bgY]) 0 [tA, tB] ⟨bg_E.symm, by rw [if_pos bg_E, bg_join]⟩).mono fun e w' ⟨a, c, h1, h2, h3⟩ => ⟨⟨a, c, h1, h2 w' (fun _ _ _ _ h => h)⟩, h3⟩
  have HL : Hid (∀ W ad, ItemsAt W (some ad) [bgX, bgY] → Calls Try.prog 30 #[.slice (some ad) 2 2] W fun e w' => (∃ a c, e = .returned (.tuple #[.slice a 1 c, .int .i64 0]) ∧ TextsAt w' a [⟨#[97]⟩]) ∧ Below W.heap.size W w') := fun W ad h => (lessS_any (some ad) 2 [bgX, bgY] W h (by simp) (by simp [bgX, bgY]) 0 [tA] ⟨bg_E.symm, by rw [if_pos bg_E, bg_less]⟩).mono fun e w' ⟨a, c, h1, h2, h3⟩ => ⟨⟨a, c, h1, h2 w' (fun _ _ _ _ h => h)⟩, h3⟩
  have HSM : Hid (∀ a c b W, TextsAt W a [⟨#[98]⟩] → TextsAt W (some b) [⟨#[98]⟩] → Calls Try.prog 24 #[.slice a 1 c, .slice (some b) 1 1] W fun e w' => e = .returned (.bool true) ∧ Below W.heap.size W w') := fun a c b W h1 h2 => by
    have hh := sameT_any a (some b) c 1 _ _ W h1 h2 (by simp)
    rw [decide_eq_true rfl] at hh
    exact hh
  have HSJ : Hid (∀ a c b W, TextsAt W a [⟨#[97]⟩, ⟨#[98]⟩] → TextsAt W (some b) [⟨#[97]⟩, ⟨#[98]⟩] → Calls Try.prog 24 #[.slice a 2 c, .slice (some b) 2 2] W fun e w' => e = .returned (.bool true) ∧ Below W.heap.size W w') := fun a c b W h1 h2 => by
    have hh := sameT_any a (some b) c 2 _ _ W h1 h2 (by simp)
    rw [decide_eq_true rfl] at hh
    exact hh
  have HSL : Hid (∀ a c b W, TextsAt W a [⟨#[97]⟩] → TextsAt W (some b) [⟨#[97]⟩] → Calls Try.prog 24 #[.slice a 1 c, .slice (some b) 1 1] W fun e w' => e = .returned (.bool true) ∧ Below W.heap.size W w') := fun a c b W h1 h2 => by
    have hh := sameT_any a (some b) c 1 _ _ W h1 h2 (by simp)
    rw [decide_eq_true rfl] at hh
    exact hh
  go_enter Try.func33, Try.ntmps33
  go_wp2_with fail
  have C_0 : Below w.heap.size w (w.alloc (.cells #[.string ⟨#[98]⟩, .string ⟨#[97]⟩, .string ⟨#[98]⟩] 9)) := (Below.refl _ w).alloc (Nat.le_refl _) _
  refine (HA.out _ _ (by exact three_texts _ _ _ _ _ _ (by simp))).mono ?_
  rintro e w1 ⟨uX, ⟨rfl, iX⟩, hb1⟩
  have C_1 : Below w.heap.size w w1 := C_0.trans (hb1.mono C_0.size)
  clear C_0
  clear hb1
  obtain ⟨kX, tX, aX1, nX1, cX1, aX2, nX2, cX2, aX3, nX3, cX3, rfl⟩ := iX.shapeS
  have IX_3 := hide (iX)
  clear iX
  go_wp2_with fail
  have IX_4 := hide (IX_3.out.below ((Below.refl _ w1).alloc (Nat.le_refl _) (.cells #[.int .i64 kX, .string tX, .slice aX1 nX1 cX1, .slice aX2 nX2 cX2, .slice aX3 nX3 cX3] 32)))
  clear IX_3
  have C_5 : Below w.heap.size w (w1.alloc (.cells #[.int .i64 kX, .string tX, .slice aX1 nX1 cX1, .slice aX2 nX2 cX2, .slice aX3 nX3 cX3] 32)) := C_1.alloc C_1.size (.cells #[.int .i64 kX, .string tX, .slice aX1 nX1 cX1, .slice aX2 nX2 cX2, .slice aX3 nX3 cX3] 32)
  clear C_1
  have X_6 := hide (BoxAt.new w1 (.int .i64 kX) (.string tX) (.slice aX1 nX1 cX1) (.slice aX2 nX2 cX2) (.slice aX3 nX3 cX3) 32)
  have IX_7 := hide (IX_4.out.below ((Below.refl _ (w1.alloc (.cells #[.int .i64 kX, .string tX, .slice aX1 nX1 cX1, .slice aX2 nX2 cX2, .slice aX3 nX3 cX3] 32))).alloc (Nat.le_refl _) (.cells #[.string ⟨#[97]⟩, .string ⟨#[122]⟩] 9)))
  clear IX_4
  have X_8 := hide (X_6.out.below ((Below.refl _ (w1.alloc (.cells #[.int .i64 kX, .string tX, .slice aX1 nX1 cX1, .slice aX2 nX2 cX2, .slice aX3 nX3 cX3] 32))).alloc (Nat.le_refl _) (.cells #[.string ⟨#[97]⟩, .string ⟨#[122]⟩] 9)))
  clear X_6
  have C_9 : Below w.heap.size w ((w1.alloc (.cells #[.int .i64 kX, .string tX, .slice aX1 nX1 cX1, .slice aX2 nX2 cX2, .slice aX3 nX3 cX3] 32)).alloc (.cells #[.string ⟨#[97]⟩, .string ⟨#[122]⟩] 9)) := C_5.alloc C_5.size (.cells #[.string ⟨#[97]⟩, .string ⟨#[122]⟩] 9)
  clear C_5
  refine (HR.out _ _ _ IX_7.out (by exact two_texts _ _ _ _ _ (by simp))).mono ?_
  rintro e w2 ⟨uY, ⟨rfl, iY⟩, hb2⟩
  have C_10 : Below w.heap.size w w2 := C_9.trans (hb2.mono C_9.size)
  clear C_9
  have IX_11 := hide (IX_7.out.below hb2)
  have X_11 := hide (X_8.out.below hb2)
  clear IX_7 X_8
  clear hb2
  obtain ⟨kY, tY, aY1, nY1, cY1, aY2, nY2, cY2, aY3, nY3, cY3, rfl⟩ := iY.shapeS
  have IY_12 := hide (iY)
  clear iY
  obtain ⟨xc0, xc1, xc2, xc3, xc4, xlt⟩ := X_11.out
  go_wp2_with fail
  have IX_13 := hide (IX_11.out.below ((Below.refl _ w2).alloc (Nat.le_refl _) (.cells #[.int .i64 kY, .string tY, .slice aY1 nY1 cY1, .slice aY2 nY2 cY2, .slice aY3 nY3 cY3] 32)))
  clear IX_11
  have X_14 := hide (X_11.out.below ((Below.refl _ w2).alloc (Nat.le_refl _) (.cells #[.int .i64 kY, .string tY, .slice aY1 nY1 cY1, .slice aY2 nY2 cY2, .slice aY3 nY3 cY3] 32)))
  clear X_11
  have IY_15 := hide (IY_12.out.below ((Below.refl _ w2).alloc (Nat.le_refl _) (.cells #[.int .i64 kY, .string tY, .slice aY1 nY1 cY1, .slice aY2 nY2 cY2, .slice aY3 nY3 cY3] 32)))
  clear IY_12
  have C_16 : Below w.heap.size w (w2.alloc (.cells #[.int .i64 kY, .string tY, .slice aY1 nY1 cY1, .slice aY2 nY2 cY2, .slice aY3 nY3 cY3] 32)) := C_10.alloc C_10.size (.cells #[.int .i64 kY, .string tY, .slice aY1 nY1 cY1, .slice aY2 nY2 cY2, .slice aY3 nY3 cY3] 32)
  clear C_10
  have Y_17 := hide (BoxAt.new w2 (.int .i64 kY) (.string tY) (.slice aY1 nY1 cY1) (.slice aY2 nY2 cY2) (.slice aY3 nY3 cY3) 32)
  refine (HH.out _ _ IX_13.out).mono ?_
  rintro e w3 ⟨rfl, hb3⟩
  clear xc0 xc1 xc2 xc3 xc4 xlt
  have C_18 : Below w.heap.size w w3 := C_16.trans (hb3.mono C_16.size)
  clear C_16
  have IX_19 := hide (IX_13.out.below hb3)
  have X_19 := hide (X_14.out.below hb3)
  have IY_19 := hide (IY_15.out.below hb3)
  have Y_19 := hide (Y_17.out.below hb3)
  clear IX_13 X_14 IY_15 Y_17
  clear hb3
  obtain ⟨xc0, xc1, xc2, xc3, xc4, xlt⟩ := X_19.out
  obtain ⟨yc0, yc1, yc2, yc3, yc4, ylt⟩ := Y_19.out
  go_wp2_with fail
  have IT := hide (items_two IX_19.out IY_19.out 32 w3.heap.size rfl)
  have IX_20 := hide (IX_19.out.below ((Below.refl _ w3).alloc (Nat.le_refl _) (.cells #[.int .i64 kX, .string tX, .slice aX1 nX1 cX1, .slice aX2 nX2 cX2, .slice aX3 nX3 cX3, .int .i64 kY, .string tY, .slice aY1 nY1 cY1, .slice aY2 nY2 cY2, .slice aY3 nY3 cY3] 32)))
  clear IX_19
  have X_21 := hide (X_19.out.below ((Below.refl _ w3).alloc (Nat.le_refl _) (.cells #[.int .i64 kX, .string tX, .slice aX1 nX1 cX1, .slice aX2 nX2 cX2, .slice aX3 nX3 cX3, .int .i64 kY, .string tY, .slice aY1 nY1 cY1, .slice aY2 nY2 cY2, .slice aY3 nY3 cY3] 32)))
  clear X_19
  have IY_22 := hide (IY_19.out.below ((Below.refl _ w3).alloc (Nat.le_refl _) (.cells #[.int .i64 kX, .string tX, .slice aX1 nX1 cX1, .slice aX2 nX2 cX2, .slice aX3 nX3 cX3, .int .i64 kY, .string tY, .slice aY1 nY1 cY1, .slice aY2 nY2 cY2, .slice aY3 nY3 cY3] 32)))
  clear IY_19
  have Y_23 := hide (Y_19.out.below ((Below.refl _ w3).alloc (Nat.le_refl _) (.cells #[.int .i64 kX, .string tX, .slice aX1 nX1 cX1, .slice aX2 nX2 cX2, .slice aX3 nX3 cX3, .int .i64 kY, .string tY, .slice aY1 nY1 cY1, .slice aY2 nY2 cY2, .slice aY3 nY3 cY3] 32)))
  clear Y_19
  have C_24 : Below w.heap.size w (w3.alloc (.cells #[.int .i64 kX, .string tX, .slice aX1 nX1 cX1, .slice aX2 nX2 cX2, .slice aX3 nX3 cX3, .int .i64 kY, .string tY, .slice aY1 nY1 cY1, .slice aY2 nY2 cY2, .slice aY3 nY3 cY3] 32)) := C_18.alloc C_18.size (.cells #[.int .i64 kX, .string tX, .slice aX1 nX1 cX1, .slice aX2 nX2 cX2, .slice aX3 nX3 cX3, .int .i64 kY, .string tY, .slice aY1 nY1 cY1, .slice aY2 nY2 cY2, .slice aY3 nY3 cY3] 32)
  clear C_18
  refine (HM.out _ _ IT.out).mono ?_
  rintro e w4 ⟨⟨aM, cM, rfl, iM⟩, hb4⟩
  clear xc0 xc1 xc2 xc3 xc4 xlt yc0 yc1 yc2 yc3 yc4 ylt
  have C_25 : Below w.heap.size w w4 := C_24.trans (hb4.mono C_24.size)
  clear C_24
  have IX_26 := hide (IX_20.out.below hb4)
  have X_26 := hide (X_21.out.below hb4)
  have IY_26 := hide (IY_22.out.below hb4)
  have Y_26 := hide (Y_23.out.below hb4)
  clear IX_20 X_21 IY_22 Y_23
  clear hb4
  clear IT
  have TM_27 := hide (iM)
  clear iM
  obtain ⟨xc0, xc1, xc2, xc3, xc4, xlt⟩ := X_26.out
  obtain ⟨yc0, yc1, yc2, yc3, yc4, ylt⟩ := Y_26.out
  go_wp2_with fail
  have IT := hide (items_two IX_26.out IY_26.out 32 w4.heap.size rfl)
  have IX_28 := hide (IX_26.out.below ((Below.refl _ w4).alloc (Nat.le_refl _) (.cells #[.int .i64 kX, .string tX, .slice aX1 nX1 cX1, .slice aX2 nX2 cX2, .slice aX3 nX3 cX3, .int .i64 kY, .string tY, .slice aY1 nY1 cY1, .slice aY2 nY2 cY2, .slice aY3 nY3 cY3] 32)))
  clear IX_26
  have X_29 := hide (X_26.out.below ((Below.refl _ w4).alloc (Nat.le_refl _) (.cells #[.int .i64 kX, .string tX, .slice aX1 nX1 cX1, .slice aX2 nX2 cX2, .slice aX3 nX3 cX3, .int .i64 kY, .string tY, .slice aY1 nY1 cY1, .slice aY2 nY2 cY2, .slice aY3 nY3 cY3] 32)))
  clear X_26
  have IY_30 := hide (IY_26.out.below ((Below.refl _ w4).alloc (Nat.le_refl _) (.cells #[.int .i64 kX, .string tX, .slice aX1 nX1 cX1, .slice aX2 nX2 cX2, .slice aX3 nX3 cX3, .int .i64 kY, .string tY, .slice aY1 nY1 cY1, .slice aY2 nY2 cY2, .slice aY3 nY3 cY3] 32)))
  clear IY_26
  have Y_31 := hide (Y_26.out.below ((Below.refl _ w4).alloc (Nat.le_refl _) (.cells #[.int .i64 kX, .string tX, .slice aX1 nX1 cX1, .slice aX2 nX2 cX2, .slice aX3 nX3 cX3, .int .i64 kY, .string tY, .slice aY1 nY1 cY1, .slice aY2 nY2 cY2, .slice aY3 nY3 cY3] 32)))
  clear Y_26
  have TM_32 := hide (TM_27.out.below ((Below.refl _ w4).alloc (Nat.le_refl _) (.cells #[.int .i64 kX, .string tX, .slice aX1 nX1 cX1, .slice aX2 nX2 cX2, .slice aX3 nX3 cX3, .int .i64 kY, .string tY, .slice aY1 nY1 cY1, .slice aY2 nY2 cY2, .slice aY3 nY3 cY3] 32)))
  clear TM_27
  have C_33 : Below w.heap.size w (w4.alloc (.cells #[.int .i64 kX, .string tX, .slice aX1 nX1 cX1, .slice aX2 nX2 cX2, .slice aX3 nX3 cX3, .int .i64 kY, .string tY, .slice aY1 nY1 cY1, .slice aY2 nY2 cY2, .slice aY3 nY3 cY3] 32)) := C_25.alloc C_25.size (.cells #[.int .i64 kX, .string tX, .slice aX1 nX1 cX1, .slice aX2 nX2 cX2, .slice aX3 nX3 cX3, .int .i64 kY, .string tY, .slice aY1 nY1 cY1, .slice aY2 nY2 cY2, .slice aY3 nY3 cY3] 32)
  clear C_25
  refine (HJ.out _ _ IT.out).mono ?_
  rintro e w5 ⟨⟨aJ, cJ, rfl, iJ⟩, hb5⟩
  clear xc0 xc1 xc2 xc3 xc4 xlt yc0 yc1 yc2 yc3 yc4 ylt
  have C_34 : Below w.heap.size w w5 := C_33.trans (hb5.mono C_33.size)
  clear C_33
  have IX_35 := hide (IX_28.out.below hb5)
  have X_35 := hide (X_29.out.below hb5)
  have IY_35 := hide (IY_30.out.below hb5)
  have Y_35 := hide (Y_31.out.below hb5)
  have TM_35 := hide (TM_32.out.below hb5)
  clear IX_28 X_29 IY_30 Y_31 TM_32
  clear hb5
  clear IT
  have TJ_36 := hide (iJ)
  clear iJ
  obtain ⟨xc0, xc1, xc2, xc3, xc4, xlt⟩ := X_35.out
  obtain ⟨yc0, yc1, yc2, yc3, yc4, ylt⟩ := Y_35.out
  go_wp2_with fail
  have IT := hide (items_two IX_35.out IY_35.out 32 w5.heap.size rfl)
  have IX_37 := hide (IX_35.out.below ((Below.refl _ w5).alloc (Nat.le_refl _) (.cells #[.int .i64 kX, .string tX, .slice aX1 nX1 cX1, .slice aX2 nX2 cX2, .slice aX3 nX3 cX3, .int .i64 kY, .string tY, .slice aY1 nY1 cY1, .slice aY2 nY2 cY2, .slice aY3 nY3 cY3] 32)))
  clear IX_35
  have X_38 := hide (X_35.out.below ((Below.refl _ w5).alloc (Nat.le_refl _) (.cells #[.int .i64 kX, .string tX, .slice aX1 nX1 cX1, .slice aX2 nX2 cX2, .slice aX3 nX3 cX3, .int .i64 kY, .string tY, .slice aY1 nY1 cY1, .slice aY2 nY2 cY2, .slice aY3 nY3 cY3] 32)))
  clear X_35
  have IY_39 := hide (IY_35.out.below ((Below.refl _ w5).alloc (Nat.le_refl _) (.cells #[.int .i64 kX, .string tX, .slice aX1 nX1 cX1, .slice aX2 nX2 cX2, .slice aX3 nX3 cX3, .int .i64 kY, .string tY, .slice aY1 nY1 cY1, .slice aY2 nY2 cY2, .slice aY3 nY3 cY3] 32)))
  clear IY_35
  have Y_40 := hide (Y_35.out.below ((Below.refl _ w5).alloc (Nat.le_refl _) (.cells #[.int .i64 kX, .string tX, .slice aX1 nX1 cX1, .slice aX2 nX2 cX2, .slice aX3 nX3 cX3, .int .i64 kY, .string tY, .slice aY1 nY1 cY1, .slice aY2 nY2 cY2, .slice aY3 nY3 cY3] 32)))
  clear Y_35
  have TM_41 := hide (TM_35.out.below ((Below.refl _ w5).alloc (Nat.le_refl _) (.cells #[.int .i64 kX, .string tX, .slice aX1 nX1 cX1, .slice aX2 nX2 cX2, .slice aX3 nX3 cX3, .int .i64 kY, .string tY, .slice aY1 nY1 cY1, .slice aY2 nY2 cY2, .slice aY3 nY3 cY3] 32)))
  clear TM_35
  have TJ_42 := hide (TJ_36.out.below ((Below.refl _ w5).alloc (Nat.le_refl _) (.cells #[.int .i64 kX, .string tX, .slice aX1 nX1 cX1, .slice aX2 nX2 cX2, .slice aX3 nX3 cX3, .int .i64 kY, .string tY, .slice aY1 nY1 cY1, .slice aY2 nY2 cY2, .slice aY3 nY3 cY3] 32)))
  clear TJ_36
  have C_43 : Below w.heap.size w (w5.alloc (.cells #[.int .i64 kX, .string tX, .slice aX1 nX1 cX1, .slice aX2 nX2 cX2, .slice aX3 nX3 cX3, .int .i64 kY, .string tY, .slice aY1 nY1 cY1, .slice aY2 nY2 cY2, .slice aY3 nY3 cY3] 32)) := C_34.alloc C_34.size (.cells #[.int .i64 kX, .string tX, .slice aX1 nX1 cX1, .slice aX2 nX2 cX2, .slice aX3 nX3 cX3, .int .i64 kY, .string tY, .slice aY1 nY1 cY1, .slice aY2 nY2 cY2, .slice aY3 nY3 cY3] 32)
  clear C_34
  refine (HL.out _ _ IT.out).mono ?_
  rintro e w6 ⟨⟨aL, cL, rfl, iL⟩, hb6⟩
  clear xc0 xc1 xc2 xc3 xc4 xlt yc0 yc1 yc2 yc3 yc4 ylt
  have C_44 : Below w.heap.size w w6 := C_43.trans (hb6.mono C_43.size)
  clear C_43
  have IX_45 := hide (IX_37.out.below hb6)
  have X_45 := hide (X_38.out.below hb6)
  have IY_45 := hide (IY_39.out.below hb6)
  have Y_45 := hide (Y_40.out.below hb6)
  have TM_45 := hide (TM_41.out.below hb6)
  have TJ_45 := hide (TJ_42.out.below hb6)
  clear IX_37 X_38 IY_39 Y_40 TM_41 TJ_42
  clear hb6
  clear IT
  have TL_46 := hide (iL)
  clear iL
  go_wp2_with fail
  have IX_47 := hide (IX_45.out.below ((Below.refl _ w6).alloc (Nat.le_refl _) (.cells #[.string ⟨#[98]⟩] 9)))
  clear IX_45
  have X_48 := hide (X_45.out.below ((Below.refl _ w6).alloc (Nat.le_refl _) (.cells #[.string ⟨#[98]⟩] 9)))
  clear X_45
  have IY_49 := hide (IY_45.out.below ((Below.refl _ w6).alloc (Nat.le_refl _) (.cells #[.string ⟨#[98]⟩] 9)))
  clear IY_45
  have Y_50 := hide (Y_45.out.below ((Below.refl _ w6).alloc (Nat.le_refl _) (.cells #[.string ⟨#[98]⟩] 9)))
  clear Y_45
  have TM_51 := hide (TM_45.out.below ((Below.refl _ w6).alloc (Nat.le_refl _) (.cells #[.string ⟨#[98]⟩] 9)))
  clear TM_45
  have TJ_52 := hide (TJ_45.out.below ((Below.refl _ w6).alloc (Nat.le_refl _) (.cells #[.string ⟨#[98]⟩] 9)))
  clear TJ_45
  have TL_53 := hide (TL_46.out.below ((Below.refl _ w6).alloc (Nat.le_refl _) (.cells #[.string ⟨#[98]⟩] 9)))
  clear TL_46
  have C_54 : Below w.heap.size w (w6.alloc (.cells #[.string ⟨#[98]⟩] 9)) := C_44.alloc C_44.size (.cells #[.string ⟨#[98]⟩] 9)
  clear C_44
  refine (HSM.out _ _ _ _ TM_51.out (by exact ones_texts _ _  _ _ (by simp))).mono ?_
  rintro e w7 ⟨rfl, hb7⟩
  have C_55 : Below w.heap.size w w7 := C_54.trans (hb7.mono C_54.size)
  clear C_54
  have IX_56 := hide (IX_47.out.below hb7)
  have X_56 := hide (X_48.out.below hb7)
  have IY_56 := hide (IY_49.out.below hb7)
  have Y_56 := hide (Y_50.out.below hb7)
  have TM_56 := hide (TM_51.out.below hb7)
  have TJ_56 := hide (TJ_52.out.below hb7)
  have TL_56 := hide (TL_53.out.below hb7)
  clear IX_47 X_48 IY_49 Y_50 TM_51 TJ_52 TL_53
  clear hb7
  go_wp2_with fail
  have IX_57 := hide (IX_56.out.below ((Below.refl _ w7).alloc (Nat.le_refl _) (.cells #[.string ⟨#[97]⟩, .string ⟨#[98]⟩] 9)))
  clear IX_56
  have X_58 := hide (X_56.out.below ((Below.refl _ w7).alloc (Nat.le_refl _) (.cells #[.string ⟨#[97]⟩, .string ⟨#[98]⟩] 9)))
  clear X_56
  have IY_59 := hide (IY_56.out.below ((Below.refl _ w7).alloc (Nat.le_refl _) (.cells #[.string ⟨#[97]⟩, .string ⟨#[98]⟩] 9)))
  clear IY_56
  have Y_60 := hide (Y_56.out.below ((Below.refl _ w7).alloc (Nat.le_refl _) (.cells #[.string ⟨#[97]⟩, .string ⟨#[98]⟩] 9)))
  clear Y_56
  have TM_61 := hide (TM_56.out.below ((Below.refl _ w7).alloc (Nat.le_refl _) (.cells #[.string ⟨#[97]⟩, .string ⟨#[98]⟩] 9)))
  clear TM_56
  have TJ_62 := hide (TJ_56.out.below ((Below.refl _ w7).alloc (Nat.le_refl _) (.cells #[.string ⟨#[97]⟩, .string ⟨#[98]⟩] 9)))
  clear TJ_56
  have TL_63 := hide (TL_56.out.below ((Below.refl _ w7).alloc (Nat.le_refl _) (.cells #[.string ⟨#[97]⟩, .string ⟨#[98]⟩] 9)))
  clear TL_56
  have C_64 : Below w.heap.size w (w7.alloc (.cells #[.string ⟨#[97]⟩, .string ⟨#[98]⟩] 9)) := C_55.alloc C_55.size (.cells #[.string ⟨#[97]⟩, .string ⟨#[98]⟩] 9)
  clear C_55
  refine (HSJ.out _ _ _ _ TJ_62.out (by exact two_texts _ _ _  _ _ (by simp))).mono ?_
  rintro e w8 ⟨rfl, hb8⟩
  have C_65 : Below w.heap.size w w8 := C_64.trans (hb8.mono C_64.size)
  clear C_64
  have IX_66 := hide (IX_57.out.below hb8)
  have X_66 := hide (X_58.out.below hb8)
  have IY_66 := hide (IY_59.out.below hb8)
  have Y_66 := hide (Y_60.out.below hb8)
  have TM_66 := hide (TM_61.out.below hb8)
  have TJ_66 := hide (TJ_62.out.below hb8)
  have TL_66 := hide (TL_63.out.below hb8)
  clear IX_57 X_58 IY_59 Y_60 TM_61 TJ_62 TL_63
  clear hb8
  go_wp2_with fail
  have IX_67 := hide (IX_66.out.below ((Below.refl _ w8).alloc (Nat.le_refl _) (.cells #[.string ⟨#[97]⟩] 9)))
  clear IX_66
  have X_68 := hide (X_66.out.below ((Below.refl _ w8).alloc (Nat.le_refl _) (.cells #[.string ⟨#[97]⟩] 9)))
  clear X_66
  have IY_69 := hide (IY_66.out.below ((Below.refl _ w8).alloc (Nat.le_refl _) (.cells #[.string ⟨#[97]⟩] 9)))
  clear IY_66
  have Y_70 := hide (Y_66.out.below ((Below.refl _ w8).alloc (Nat.le_refl _) (.cells #[.string ⟨#[97]⟩] 9)))
  clear Y_66
  have TM_71 := hide (TM_66.out.below ((Below.refl _ w8).alloc (Nat.le_refl _) (.cells #[.string ⟨#[97]⟩] 9)))
  clear TM_66
  have TJ_72 := hide (TJ_66.out.below ((Below.refl _ w8).alloc (Nat.le_refl _) (.cells #[.string ⟨#[97]⟩] 9)))
  clear TJ_66
  have TL_73 := hide (TL_66.out.below ((Below.refl _ w8).alloc (Nat.le_refl _) (.cells #[.string ⟨#[97]⟩] 9)))
  clear TL_66
  have C_74 : Below w.heap.size w (w8.alloc (.cells #[.string ⟨#[97]⟩] 9)) := C_65.alloc C_65.size (.cells #[.string ⟨#[97]⟩] 9)
  clear C_65
  refine (HSL.out _ _ _ _ TL_73.out (by exact ones_texts _ _  _ _ (by simp))).mono ?_
  rintro e w9 ⟨rfl, hb9⟩
  have C_75 : Below w.heap.size w w9 := C_74.trans (hb9.mono C_74.size)
  clear C_74
  have IX_76 := hide (IX_67.out.below hb9)
  have X_76 := hide (X_68.out.below hb9)
  have IY_76 := hide (IY_69.out.below hb9)
  have Y_76 := hide (Y_70.out.below hb9)
  have TM_76 := hide (TM_71.out.below hb9)
  have TJ_76 := hide (TJ_72.out.below hb9)
  have TL_76 := hide (TL_73.out.below hb9)
  clear IX_67 X_68 IY_69 Y_70 TM_71 TJ_72 TL_73
  clear hb9
  go_wp2_with fail
  go_ret
  exact ⟨rfl, C_75⟩
end Go.Proofs.Ytkjnalbnhmpopaa
