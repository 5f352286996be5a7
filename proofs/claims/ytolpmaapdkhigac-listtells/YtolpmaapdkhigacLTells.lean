/- WALK of ListTells. -/
import Derived.Test.YtolpmaapdkhigacLBeg
import Derived.Test.YtolpmaapdkhigacLHold
import Derived.Test.YtolpmaapdkhigacRLst4
import Derived.Test.YtolpmaapdkhigacRLst5
import Derived.Deep.RegionHeld3
import Derived.Handy
namespace Go.Proofs.Ytolpmaapdkhigac
open Go.RowKit

theorem ItemIs.shape {w : World} {v : Value} {x : Itm} (h : ItemIs w v x) : ∃ k t a1 n1 c1 a2 n2 c2 a3 n3 c3, v = .agg #[.int .i64 k, .string t, .slice a1 n1 c1, .slice a2 n2 c2, .slice a3 n3 c3] := by
  obtain ⟨⟨a1, c1, a2, c2, a3, c3, e, -, -, -⟩, -, -, -, -, -, -, -⟩ := h
  exact ⟨_, _, _, _, _, _, _, _, _, _, _, e⟩
theorem lessK_one (L : List ByteArray) (s : ByteArray) : lessK L [s] = remK L s := by
  unfold lessK remK
  have e : (fun (_ : Nat) t => hasT [s] t) = fun _ t => decide (t = s) := by
    funext _ t
    rw [Bool.eq_iff_iff, hasT_iff]
    simp
  rw [e]
theorem remof_list (x : Itm) (s : ByteArray) : remofI x 2 [s] = remI x s ∧ remofN x 2 [s] = remN x s := by
  unfold remofI remofN remI remN
  rw [lessK_one]
  exact ⟨rfl, rfl⟩
theorem range_trim {L : List ByteArray} (f t : Int) (h : L.length ≤ 100) : keptTo (rngGo L.length (clampN f) (clampN t)) L L.length = trimK L f t := by
  obtain ⟨p1, p2⟩ := place_clamp L.length f t h
  unfold trimK
  have e : rngGo L.length (clampN f) (clampN t) = trimGo (place1 L.length f t) (place2 L.length f t) := by
    funext i s
    unfold rngGo trimGo inR
    rw [p1, p2, Bool.eq_iff_iff]
    first | (simp; done) | (simp; omega)
  rw [e]
theorem push_zero {x : Itm} {left : Bool} {l : List ByteArray} (h : pushE x l ≠ 0) : pushI x left l = Itm.none ∧ pushN x l = 0 := by
  rw [pushI, pushN, if_neg h, if_neg h]
  exact ⟨rfl, rfl⟩
theorem trimI_len (x : Itm) (f t : Int) : (trimI x f t).l.length ≤ 281474976710656 := by
  by_cases h0 : asI x 2 = 0
  · obtain ⟨-, h24, -⟩ := asI_list h0
    rw [trimI, if_pos h0, lstI_l']
    have := keptTo_len (trimGo (place1 x.l.length f t) (place2 x.l.length f t)) x.l x.l.length
    unfold trimK
    omega
  · rw [trimI, if_neg h0]
    simp [Itm.none]
theorem one_texts (w : World) (t1 : ByteArray) (T : TypeId) (g : Nat) (hg : g = w.heap.size) : TextsAt (w.alloc (.cells #[.string t1] T)) (some ⟨g, 0, none⟩) [t1] := by
  subst hg
  refine .inr ⟨w.heap.size, 0, rfl, fun i hi => ?_⟩
  match i, hi with
  | 0, _ => simp [go_sem]

set_option maxRecDepth 100000 in
set_option maxHeartbeats 16000000 in
theorem listTells_walk (v : Value) (x : Itm) (left : Bool) (al : Option Addr) (cl : Nat) (l : List ByteArray) (from_ to_ : Int) (s : ByteArray) (w : World) (h : ItemIs w v x) (hcap : CapOk v) (hl : TextsAt w al l) (hlz : ∀ t ∈ l, t.size ≤ maxLen) (hll : l.length ≤ 281474976710656) (hf1 : -9223372036854775808 ≤ from_) (hf2 : from_ ≤ 9223372036854775807) (ht1 : -9223372036854775808 ≤ to_) (ht2 : to_ ≤ 9223372036854775807) :
    Calls Try.prog 3 #[v, .bool left, .slice al l.length cl, .int .i64 from_, .int .i64 to_, .string s] w fun e w' => e = .returned (.bool true) ∧ Below w.heap.size w w' := by
  have HI := hide h
  have HL := hide hl
  have hcp := hcap
  obtain ⟨⟨a1, c1, a2, c2, a3, c3, rfl, hx1, -, -⟩, -, -, -, -, -, -, -⟩ := h
  have HX1 := hide hx1
  have HCP := hide hcp
  have HLZ := hide hlz
  clear hl hx1 hcp hcap hlz
  have HG := hide listBegun_any
  have HA : Hid (∀ W, Below w.heap.size w W → Calls Try.prog 5 #[.agg #[.int .i64 x.k, .string x.t, .slice a1 x.l.length c1, .slice a2 x.p.length c2, .slice a3 x.s.length c3], .bool left, .slice al l.length cl] W fun e w' => ∃ u, (e = .returned (.tuple #[u, .int .i64 (pushN x l), .int .i64 (pushE x l)]) ∧ ItemIs w' u (pushI x left l)) ∧ Below W.heap.size W w') := fun W hW => (push_any _ x left al cl l W (HI.out.below hW) (HL.out.below hW) hll).mono fun e w' ⟨u, h1, h2, h3⟩ => ⟨u, ⟨h1, h2.is⟩, h3⟩
  have HAO : Hid (∀ W, Below w.heap.size w W → Calls Try.prog 10 #[.agg #[.int .i64 x.k, .string x.t, .slice a1 x.l.length c1, .slice a2 x.p.length c2, .slice a3 x.s.length c3], .bool left, .slice al l.length cl] W fun e w' => ∃ u, (e = .returned (.tuple #[u, .int .i64 (pushN x l), .int .i64 (pushE x l)]) ∧ ItemIs w' u (pushI x left l)) ∧ Below W.heap.size W w') := fun W hW => (pushOf_any _ x left al cl l W (HI.out.below hW) (HL.out.below hW) HLZ.out hll).mono fun e w' ⟨u, h1, h2, h3⟩ => ⟨u, ⟨h1, h2.is⟩, h3⟩
  have HB : Hid (∀ W, Below w.heap.size w W → Calls Try.prog 6 #[.agg #[.int .i64 x.k, .string x.t, .slice a1 x.l.length c1, .slice a2 x.p.length c2, .slice a3 x.s.length c3], .bool left] W fun e w' => ∃ u, (e = .returned (.tuple #[u, .string (popS x left), .int .i64 (popE x)]) ∧ ItemIs w' u (popI x left)) ∧ Below W.heap.size W w') := fun W hW => (pop_any _ x left W (HI.out.below hW)).mono fun e w' ⟨u, h1, h2, h3⟩ => ⟨u, ⟨h1, h2.is⟩, h3⟩
  have HBO : Hid (∀ W, Below w.heap.size w W → Calls Try.prog 11 #[.agg #[.int .i64 x.k, .string x.t, .slice a1 x.l.length c1, .slice a2 x.p.length c2, .slice a3 x.s.length c3], .bool left] W fun e w' => ∃ u, (e = .returned (.tuple #[u, .string (popS x left), .int .i64 (popE x)]) ∧ ItemIs w' u (popI x left)) ∧ Below W.heap.size W w') := fun W hW => (popOf_any _ x left W (HI.out.below hW) HCP.out).mono fun e w' ⟨u, h1, h2, h3⟩ => ⟨u, ⟨h1, h2 w' h3⟩, h3⟩
  have HR : Hid (∀ W, Below w.heap.size w W → Calls Try.prog 7 #[.agg #[.int .i64 x.k, .string x.t, .slice a1 x.l.length c1, .slice a2 x.p.length c2, .slice a3 x.s.length c3], .int .i64 from_, .int .i64 to_] W fun e w' => (∃ a c, e = .returned (.tuple #[.slice a (trimI x from_ to_).l.length c, .int .i64 (asI x 2)]) ∧ TextsAt w' a (trimI x from_ to_).l) ∧ Below W.heap.size W w') := fun W hW => (listRange_any _ x from_ to_ W (HI.out.below hW) hf1 ht1 hf2 ht2).mono fun e w' ⟨a, c, h1, h2, h3⟩ => ⟨⟨a, c, h1, h2⟩, h3⟩
  have HT : Hid (∀ W, Below w.heap.size w W → Calls Try.prog 8 #[.agg #[.int .i64 x.k, .string x.t, .slice a1 x.l.length c1, .slice a2 x.p.length c2, .slice a3 x.s.length c3], .int .i64 from_, .int .i64 to_] W fun e w' => ∃ u, (e = .returned (.tuple #[u, .int .i64 (asI x 2)]) ∧ ItemIs w' u (trimI x from_ to_)) ∧ Below W.heap.size W w') := fun W hW => (trim_any _ x from_ to_ W (HI.out.below hW) hf1 ht1 hf2 ht2).mono fun e w' ⟨u, h1, h2, h3⟩ => ⟨u, ⟨h1, h2.is⟩, h3⟩
  have HD : Hid (∀ W, Below w.heap.size w W → Calls Try.prog 9 #[.agg #[.int .i64 x.k, .string x.t, .slice a1 x.l.length c1, .slice a2 x.p.length c2, .slice a3 x.s.length c3], .string s] W fun e w' => ∃ u, (e = .returned (.tuple #[u, .int .i64 (remN x s), .int .i64 (asI x 2)]) ∧ ItemIs w' u (remI x s)) ∧ Below W.heap.size W w') := fun W hW => (remove_any _ x s W (HI.out.below hW)).mono fun e w' ⟨u, h1, h2, h3⟩ => ⟨u, ⟨h1, h2.is⟩, h3⟩
  have HDO : Hid (∀ g W, Below w.heap.size w W → TextsAt W (some g) [s] → Calls Try.prog 12 #[.agg #[.int .i64 x.k, .string x.t, .slice a1 x.l.length c1, .slice a2 x.p.length c2, .slice a3 x.s.length c3], .int .i64 2, .slice (some g) 1 1] W fun e w' => ∃ u, (e = .returned (.tuple #[u, .int .i64 (remN x s), .int .i64 (asI x 2)]) ∧ ItemIs w' u (remI x s)) ∧ Below W.heap.size W w') := fun g W hW hg => by
    have hh := removeOf_any _ x 2 (some g) 1 [s] W (HI.out.below hW) hg (by simp) (fun h => (asI_list h).2.1)
    rw [(remof_list x s).1, (remof_list x s).2] at hh
    exact hh.mono fun e w' ⟨u, h1, h2, h3⟩ => ⟨u, ⟨h1, h2.is⟩, h3⟩
  have HC : Hid (∀ W, Below w.heap.size w W → Calls Try.prog 13 #[.agg #[.int .i64 x.k, .string x.t, .slice a1 x.l.length c1, .slice a2 x.p.length c2, .slice a3 x.s.length c3], .int .i64 2] W fun e w' => e = .returned (.int .i64 (asI x 2)) ∧ Below W.heap.size W w') := fun W hW => refAs_any _ x 2 W (HI.out.below hW)
  have HIA : Hid (∀ v u W, ItemIs W v (pushI x left l) → ItemIs W u (pushI x left l) → Calls Try.prog 17 #[v, .int .i64 (pushN x l), .int .i64 (pushE x l), .int .i64 (pushE x l), u, .int .i64 (pushN x l)] W fun e w' => e = .returned (.bool true) ∧ Below W.heap.size W w') := fun v u W h1 h2 => itemIs_any v u _ _ _ W h1 h2 push_zero
  have HIB : Hid (∀ v u W, ItemIs W v (popI x left) → ItemIs W u (popI x left) → Calls Try.prog 17 #[v, .int .i64 0, .int .i64 (popE x), .int .i64 (popE x), u, .int .i64 0] W fun e w' => e = .returned (.bool true) ∧ Below W.heap.size W w') := fun v u W h1 h2 => itemIs_any v u _ _ _ W h1 h2 (fun h => ⟨by rw [popI, if_neg h], rfl⟩)
  have HIC : Hid (∀ v u W, ItemIs W v (trimI x from_ to_) → ItemIs W u (trimI x from_ to_) → Calls Try.prog 17 #[v, .int .i64 0, .int .i64 (asI x 2), .int .i64 (asI x 2), u, .int .i64 0] W fun e w' => e = .returned (.bool true) ∧ Below W.heap.size W w') := fun v u W h1 h2 => itemIs_any v u _ _ _ W h1 h2 (fun h => ⟨by rw [trimI, if_neg h], rfl⟩)
  have HID : Hid (∀ v u W, ItemIs W v (remI x s) → ItemIs W u (remI x s) → Calls Try.prog 17 #[v, .int .i64 (remN x s), .int .i64 (asI x 2), .int .i64 (asI x 2), u, .int .i64 (remN x s)] W fun e w' => e = .returned (.bool true) ∧ Below W.heap.size W w') := fun v u W h1 h2 => itemIs_any v u _ _ _ W h1 h2 (fun h => ⟨by rw [remI, if_neg h], by rw [remN, if_neg h]⟩)
  have HST : Hid (∀ a b c d W, TextsAt W a (trimI x from_ to_).l → TextsAt W b (trimI x from_ to_).l → Calls Try.prog 18 #[.slice a (trimI x from_ to_).l.length c, .slice b (trimI x from_ to_).l.length d] W fun e w' => e = .returned (.bool true) ∧ Below W.heap.size W w') := fun a b c d W h1 h2 => by
    have hh := sameT_any a b c d _ _ W h1 h2 (trimI_len _ _ _)
    rw [decide_eq_true rfl] at hh
    exact hh
  by_cases h0 : asI x 2 = 0
  · obtain ⟨-, hx24, -⟩ := asI_list h0
    have hTI : trimI x from_ to_ = lstI (trimK x.l from_ to_) := by rw [trimI, if_pos h0]
    have HRL : Hid (∀ W, Below w.heap.size w W → Calls Try.prog 14 #[.slice a1 x.l.length c1, .int .i64 (clampN from_), .int .i64 (clampN to_)] W fun e w' => ∃ v, e = .returned v ∧ w'.ownsRow W.heap.size 9 1 v (trimK x.l from_ to_).length (strs (trimK x.l from_ to_)) ∧ Below W.heap.size W w') := fun W hW => by
      have hh := rangeList_any a1 c1 x.l W (HX1.out.below hW) (by omega) (clampN from_) (clampN to_) (by omega) (clamp_bounds from_).1 (clamp_bounds from_).2 (clamp_bounds to_).1 (clamp_bounds to_).2
      rw [range_trim from_ to_ (by omega)] at hh
      exact hh
    have HKZ : Hid (∀ t ∈ trimK x.l from_ to_, t.size ≤ maxLen) := fun t ht => HI.out.lz t (keptTo_mem (Nat.le_refl _) t ht)
    have hKK : (trimK x.l from_ to_).length ≤ x.l.length := keptTo_len _ _ _
    rw [hTI] at HR HT HIC HST
    rw [lstI_l'] at HR HST
    rw [h0] at HR HT HD HDO HC HIC HID
    clear hTI HI HL HX1 HCP HLZ h0
    generalize trimK x.l from_ to_ = KK at *
    generalize x.l.length = n1 at *
    generalize pushI x left l = IA at *
    generalize pushN x l = nA at *
    generalize pushE x l = eA at *
    generalize popI x left = IB at *
    generalize popS x left = sB at *
    generalize popE x = eB at *
    generalize remI x s = ID at *
    generalize remN x s = nD at *
    generalize x.k = k at *
    generalize x.t = t at *
    generalize x.p.length = n2 at *
    generalize x.s.length = n3 at *
    go_enter Try.func3, Try.ntmps3
    go_wp2_with fail
    have C_0 : Below w.heap.size w (w.alloc (.cells #[.int .i64 k, .string t, .slice a1 n1 c1, .slice a2 n2 c2, .slice a3 n3 c3] 26)) := (Below.refl _ w).alloc (Nat.le_refl _) _
    have X_1 := hide (BoxAt.new w (.int .i64 k) (.string t) (.slice a1 n1 c1) (.slice a2 n2 c2) (.slice a3 n3 c3) 26)
    refine (HA.out _ C_0).mono ?_
    rintro e w1 ⟨uA, ⟨rfl, iA⟩, hb1⟩
    have C_2 : Below w.heap.size w w1 := C_0.trans (hb1.mono C_0.size)
    clear C_0
    have X_3 := hide (X_1.out.below hb1)
    clear X_1
    clear hb1
    obtain ⟨kA, tA, aA1, nA1, cA1, aA2, nA2, cA2, aA3, nA3, cA3, rfl⟩ := iA.shape
    have IA_4 := hide (iA)
    clear iA
    obtain ⟨xc0, xc1, xc2, xc3, xc4, xlt⟩ := X_3.out
    go_wp2_with fail
    have X_5 := hide (X_3.out.below ((Below.refl _ w1).alloc (Nat.le_refl _) (.cells #[.int .i64 kA, .string tA, .slice aA1 nA1 cA1, .slice aA2 nA2 cA2, .slice aA3 nA3 cA3] 26)))
    clear X_3
    have IA_6 := hide (IA_4.out.below ((Below.refl _ w1).alloc (Nat.le_refl _) (.cells #[.int .i64 kA, .string tA, .slice aA1 nA1 cA1, .slice aA2 nA2 cA2, .slice aA3 nA3 cA3] 26)))
    clear IA_4
    have C_7 : Below w.heap.size w (w1.alloc (.cells #[.int .i64 kA, .string tA, .slice aA1 nA1 cA1, .slice aA2 nA2 cA2, .slice aA3 nA3 cA3] 26)) := C_2.alloc C_2.size (.cells #[.int .i64 kA, .string tA, .slice aA1 nA1 cA1, .slice aA2 nA2 cA2, .slice aA3 nA3 cA3] 26)
    clear C_2
    have A_8 := hide (BoxAt.new w1 (.int .i64 kA) (.string tA) (.slice aA1 nA1 cA1) (.slice aA2 nA2 cA2) (.slice aA3 nA3 cA3) 26)
    refine (HB.out _ C_7).mono ?_
    rintro e w2 ⟨uB, ⟨rfl, iB⟩, hb2⟩
    clear xc0 xc1 xc2 xc3 xc4 xlt
    have C_9 : Below w.heap.size w w2 := C_7.trans (hb2.mono C_7.size)
    clear C_7
    have X_10 := hide (X_5.out.below hb2)
    have IA_10 := hide (IA_6.out.below hb2)
    have A_10 := hide (A_8.out.below hb2)
    clear X_5 IA_6 A_8
    clear hb2
    obtain ⟨kB, tB, aB1, nB1, cB1, aB2, nB2, cB2, aB3, nB3, cB3, rfl⟩ := iB.shape
    have IB_11 := hide (iB)
    clear iB
    obtain ⟨xc0, xc1, xc2, xc3, xc4, xlt⟩ := X_10.out
    go_wp2_with fail
    have X_12 := hide (X_10.out.below ((Below.refl _ w2).alloc (Nat.le_refl _) (.cells #[.int .i64 kB, .string tB, .slice aB1 nB1 cB1, .slice aB2 nB2 cB2, .slice aB3 nB3 cB3] 26)))
    clear X_10
    have IA_13 := hide (IA_10.out.below ((Below.refl _ w2).alloc (Nat.le_refl _) (.cells #[.int .i64 kB, .string tB, .slice aB1 nB1 cB1, .slice aB2 nB2 cB2, .slice aB3 nB3 cB3] 26)))
    clear IA_10
    have A_14 := hide (A_10.out.below ((Below.refl _ w2).alloc (Nat.le_refl _) (.cells #[.int .i64 kB, .string tB, .slice aB1 nB1 cB1, .slice aB2 nB2 cB2, .slice aB3 nB3 cB3] 26)))
    clear A_10
    have IB_15 := hide (IB_11.out.below ((Below.refl _ w2).alloc (Nat.le_refl _) (.cells #[.int .i64 kB, .string tB, .slice aB1 nB1 cB1, .slice aB2 nB2 cB2, .slice aB3 nB3 cB3] 26)))
    clear IB_11
    have C_16 : Below w.heap.size w (w2.alloc (.cells #[.int .i64 kB, .string tB, .slice aB1 nB1 cB1, .slice aB2 nB2 cB2, .slice aB3 nB3 cB3] 26)) := C_9.alloc C_9.size (.cells #[.int .i64 kB, .string tB, .slice aB1 nB1 cB1, .slice aB2 nB2 cB2, .slice aB3 nB3 cB3] 26)
    clear C_9
    have B_17 := hide (BoxAt.new w2 (.int .i64 kB) (.string tB) (.slice aB1 nB1 cB1) (.slice aB2 nB2 cB2) (.slice aB3 nB3 cB3) 26)
    refine (HR.out _ C_16).mono ?_
    rintro e w3 ⟨⟨aR, cR, rfl, iR⟩, hb3⟩
    clear xc0 xc1 xc2 xc3 xc4 xlt
    have C_18 : Below w.heap.size w w3 := C_16.trans (hb3.mono C_16.size)
    clear C_16
    have X_19 := hide (X_12.out.below hb3)
    have IA_19 := hide (IA_13.out.below hb3)
    have A_19 := hide (A_14.out.below hb3)
    have IB_19 := hide (IB_15.out.below hb3)
    have B_19 := hide (B_17.out.below hb3)
    clear X_12 IA_13 A_14 IB_15 B_17
    clear hb3
    have TR_20 := hide (iR)
    clear iR
    obtain ⟨xc0, xc1, xc2, xc3, xc4, xlt⟩ := X_19.out
    go_wp2_with fail
    refine (HT.out _ C_18).mono ?_
    rintro e w4 ⟨uC, ⟨rfl, iC⟩, hb4⟩
    clear xc0 xc1 xc2 xc3 xc4 xlt
    have C_21 : Below w.heap.size w w4 := C_18.trans (hb4.mono C_18.size)
    clear C_18
    have X_22 := hide (X_19.out.below hb4)
    have IA_22 := hide (IA_19.out.below hb4)
    have A_22 := hide (A_19.out.below hb4)
    have IB_22 := hide (IB_19.out.below hb4)
    have B_22 := hide (B_19.out.below hb4)
    have TR_22 := hide (TR_20.out.below hb4)
    clear X_19 IA_19 A_19 IB_19 B_19 TR_20
    clear hb4
    obtain ⟨kC, tC, aC1, nC1, cC1, aC2, nC2, cC2, aC3, nC3, cC3, rfl⟩ := iC.shape
    have IC_23 := hide (iC)
    clear iC
    obtain ⟨xc0, xc1, xc2, xc3, xc4, xlt⟩ := X_22.out
    go_wp2_with fail
    have X_24 := hide (X_22.out.below ((Below.refl _ w4).alloc (Nat.le_refl _) (.cells #[.int .i64 kC, .string tC, .slice aC1 nC1 cC1, .slice aC2 nC2 cC2, .slice aC3 nC3 cC3] 26)))
    clear X_22
    have IA_25 := hide (IA_22.out.below ((Below.refl _ w4).alloc (Nat.le_refl _) (.cells #[.int .i64 kC, .string tC, .slice aC1 nC1 cC1, .slice aC2 nC2 cC2, .slice aC3 nC3 cC3] 26)))
    clear IA_22
    have A_26 := hide (A_22.out.below ((Below.refl _ w4).alloc (Nat.le_refl _) (.cells #[.int .i64 kC, .string tC, .slice aC1 nC1 cC1, .slice aC2 nC2 cC2, .slice aC3 nC3 cC3] 26)))
    clear A_22
    have IB_27 := hide (IB_22.out.below ((Below.refl _ w4).alloc (Nat.le_refl _) (.cells #[.int .i64 kC, .string tC, .slice aC1 nC1 cC1, .slice aC2 nC2 cC2, .slice aC3 nC3 cC3] 26)))
    clear IB_22
    have B_28 := hide (B_22.out.below ((Below.refl _ w4).alloc (Nat.le_refl _) (.cells #[.int .i64 kC, .string tC, .slice aC1 nC1 cC1, .slice aC2 nC2 cC2, .slice aC3 nC3 cC3] 26)))
    clear B_22
    have TR_29 := hide (TR_22.out.below ((Below.refl _ w4).alloc (Nat.le_refl _) (.cells #[.int .i64 kC, .string tC, .slice aC1 nC1 cC1, .slice aC2 nC2 cC2, .slice aC3 nC3 cC3] 26)))
    clear TR_22
    have IC_30 := hide (IC_23.out.below ((Below.refl _ w4).alloc (Nat.le_refl _) (.cells #[.int .i64 kC, .string tC, .slice aC1 nC1 cC1, .slice aC2 nC2 cC2, .slice aC3 nC3 cC3] 26)))
    clear IC_23
    have C_31 : Below w.heap.size w (w4.alloc (.cells #[.int .i64 kC, .string tC, .slice aC1 nC1 cC1, .slice aC2 nC2 cC2, .slice aC3 nC3 cC3] 26)) := C_21.alloc C_21.size (.cells #[.int .i64 kC, .string tC, .slice aC1 nC1 cC1, .slice aC2 nC2 cC2, .slice aC3 nC3 cC3] 26)
    clear C_21
    have C_32 := hide (BoxAt.new w4 (.int .i64 kC) (.string tC) (.slice aC1 nC1 cC1) (.slice aC2 nC2 cC2) (.slice aC3 nC3 cC3) 26)
    refine (HD.out _ C_31).mono ?_
    rintro e w5 ⟨uD, ⟨rfl, iD⟩, hb5⟩
    clear xc0 xc1 xc2 xc3 xc4 xlt
    have C_33 : Below w.heap.size w w5 := C_31.trans (hb5.mono C_31.size)
    clear C_31
    have X_34 := hide (X_24.out.below hb5)
    have IA_34 := hide (IA_25.out.below hb5)
    have A_34 := hide (A_26.out.below hb5)
    have IB_34 := hide (IB_27.out.below hb5)
    have B_34 := hide (B_28.out.below hb5)
    have TR_34 := hide (TR_29.out.below hb5)
    have IC_34 := hide (IC_30.out.below hb5)
    have C_34 := hide (C_32.out.below hb5)
    clear X_24 IA_25 A_26 IB_27 B_28 TR_29 IC_30 C_32
    clear hb5
    obtain ⟨kD, tD, aD1, nD1, cD1, aD2, nD2, cD2, aD3, nD3, cD3, rfl⟩ := iD.shape
    have ID_35 := hide (iD)
    clear iD
    obtain ⟨xc0, xc1, xc2, xc3, xc4, xlt⟩ := X_34.out
    go_wp2_with fail
    have X_36 := hide (X_34.out.below ((Below.refl _ w5).alloc (Nat.le_refl _) (.cells #[.int .i64 kD, .string tD, .slice aD1 nD1 cD1, .slice aD2 nD2 cD2, .slice aD3 nD3 cD3] 26)))
    clear X_34
    have IA_37 := hide (IA_34.out.below ((Below.refl _ w5).alloc (Nat.le_refl _) (.cells #[.int .i64 kD, .string tD, .slice aD1 nD1 cD1, .slice aD2 nD2 cD2, .slice aD3 nD3 cD3] 26)))
    clear IA_34
    have A_38 := hide (A_34.out.below ((Below.refl _ w5).alloc (Nat.le_refl _) (.cells #[.int .i64 kD, .string tD, .slice aD1 nD1 cD1, .slice aD2 nD2 cD2, .slice aD3 nD3 cD3] 26)))
    clear A_34
    have IB_39 := hide (IB_34.out.below ((Below.refl _ w5).alloc (Nat.le_refl _) (.cells #[.int .i64 kD, .string tD, .slice aD1 nD1 cD1, .slice aD2 nD2 cD2, .slice aD3 nD3 cD3] 26)))
    clear IB_34
    have B_40 := hide (B_34.out.below ((Below.refl _ w5).alloc (Nat.le_refl _) (.cells #[.int .i64 kD, .string tD, .slice aD1 nD1 cD1, .slice aD2 nD2 cD2, .slice aD3 nD3 cD3] 26)))
    clear B_34
    have TR_41 := hide (TR_34.out.below ((Below.refl _ w5).alloc (Nat.le_refl _) (.cells #[.int .i64 kD, .string tD, .slice aD1 nD1 cD1, .slice aD2 nD2 cD2, .slice aD3 nD3 cD3] 26)))
    clear TR_34
    have IC_42 := hide (IC_34.out.below ((Below.refl _ w5).alloc (Nat.le_refl _) (.cells #[.int .i64 kD, .string tD, .slice aD1 nD1 cD1, .slice aD2 nD2 cD2, .slice aD3 nD3 cD3] 26)))
    clear IC_34
    have C_43 := hide (C_34.out.below ((Below.refl _ w5).alloc (Nat.le_refl _) (.cells #[.int .i64 kD, .string tD, .slice aD1 nD1 cD1, .slice aD2 nD2 cD2, .slice aD3 nD3 cD3] 26)))
    clear C_34
    have ID_44 := hide (ID_35.out.below ((Below.refl _ w5).alloc (Nat.le_refl _) (.cells #[.int .i64 kD, .string tD, .slice aD1 nD1 cD1, .slice aD2 nD2 cD2, .slice aD3 nD3 cD3] 26)))
    clear ID_35
    have C_45 : Below w.heap.size w (w5.alloc (.cells #[.int .i64 kD, .string tD, .slice aD1 nD1 cD1, .slice aD2 nD2 cD2, .slice aD3 nD3 cD3] 26)) := C_33.alloc C_33.size (.cells #[.int .i64 kD, .string tD, .slice aD1 nD1 cD1, .slice aD2 nD2 cD2, .slice aD3 nD3 cD3] 26)
    clear C_33
    have D_46 := hide (BoxAt.new w5 (.int .i64 kD) (.string tD) (.slice aD1 nD1 cD1) (.slice aD2 nD2 cD2) (.slice aD3 nD3 cD3) 26)
    refine (HAO.out _ C_45).mono ?_
    rintro e w6 ⟨uY, ⟨rfl, iY⟩, hb6⟩
    clear xc0 xc1 xc2 xc3 xc4 xlt
    have C_47 : Below w.heap.size w w6 := C_45.trans (hb6.mono C_45.size)
    clear C_45
    have X_48 := hide (X_36.out.below hb6)
    have IA_48 := hide (IA_37.out.below hb6)
    have A_48 := hide (A_38.out.below hb6)
    have IB_48 := hide (IB_39.out.below hb6)
    have B_48 := hide (B_40.out.below hb6)
    have TR_48 := hide (TR_41.out.below hb6)
    have IC_48 := hide (IC_42.out.below hb6)
    have C_48 := hide (C_43.out.below hb6)
    have ID_48 := hide (ID_44.out.below hb6)
    have D_48 := hide (D_46.out.below hb6)
    clear X_36 IA_37 A_38 IB_39 B_40 TR_41 IC_42 C_43 ID_44 D_46
    clear hb6
    obtain ⟨kY, tY, aY1, nY1, cY1, aY2, nY2, cY2, aY3, nY3, cY3, rfl⟩ := iY.shape
    have IY_49 := hide (iY)
    clear iY
    obtain ⟨xc0, xc1, xc2, xc3, xc4, xlt⟩ := X_48.out
    go_wp2_with fail
    have X_50 := hide (X_48.out.below ((Below.refl _ w6).alloc (Nat.le_refl _) (.cells #[.int .i64 kY, .string tY, .slice aY1 nY1 cY1, .slice aY2 nY2 cY2, .slice aY3 nY3 cY3] 26)))
    clear X_48
    have IA_51 := hide (IA_48.out.below ((Below.refl _ w6).alloc (Nat.le_refl _) (.cells #[.int .i64 kY, .string tY, .slice aY1 nY1 cY1, .slice aY2 nY2 cY2, .slice aY3 nY3 cY3] 26)))
    clear IA_48
    have A_52 := hide (A_48.out.below ((Below.refl _ w6).alloc (Nat.le_refl _) (.cells #[.int .i64 kY, .string tY, .slice aY1 nY1 cY1, .slice aY2 nY2 cY2, .slice aY3 nY3 cY3] 26)))
    clear A_48
    have IB_53 := hide (IB_48.out.below ((Below.refl _ w6).alloc (Nat.le_refl _) (.cells #[.int .i64 kY, .string tY, .slice aY1 nY1 cY1, .slice aY2 nY2 cY2, .slice aY3 nY3 cY3] 26)))
    clear IB_48
    have B_54 := hide (B_48.out.below ((Below.refl _ w6).alloc (Nat.le_refl _) (.cells #[.int .i64 kY, .string tY, .slice aY1 nY1 cY1, .slice aY2 nY2 cY2, .slice aY3 nY3 cY3] 26)))
    clear B_48
    have TR_55 := hide (TR_48.out.below ((Below.refl _ w6).alloc (Nat.le_refl _) (.cells #[.int .i64 kY, .string tY, .slice aY1 nY1 cY1, .slice aY2 nY2 cY2, .slice aY3 nY3 cY3] 26)))
    clear TR_48
    have IC_56 := hide (IC_48.out.below ((Below.refl _ w6).alloc (Nat.le_refl _) (.cells #[.int .i64 kY, .string tY, .slice aY1 nY1 cY1, .slice aY2 nY2 cY2, .slice aY3 nY3 cY3] 26)))
    clear IC_48
    have C_57 := hide (C_48.out.below ((Below.refl _ w6).alloc (Nat.le_refl _) (.cells #[.int .i64 kY, .string tY, .slice aY1 nY1 cY1, .slice aY2 nY2 cY2, .slice aY3 nY3 cY3] 26)))
    clear C_48
    have ID_58 := hide (ID_48.out.below ((Below.refl _ w6).alloc (Nat.le_refl _) (.cells #[.int .i64 kY, .string tY, .slice aY1 nY1 cY1, .slice aY2 nY2 cY2, .slice aY3 nY3 cY3] 26)))
    clear ID_48
    have D_59 := hide (D_48.out.below ((Below.refl _ w6).alloc (Nat.le_refl _) (.cells #[.int .i64 kY, .string tY, .slice aY1 nY1 cY1, .slice aY2 nY2 cY2, .slice aY3 nY3 cY3] 26)))
    clear D_48
    have IY_60 := hide (IY_49.out.below ((Below.refl _ w6).alloc (Nat.le_refl _) (.cells #[.int .i64 kY, .string tY, .slice aY1 nY1 cY1, .slice aY2 nY2 cY2, .slice aY3 nY3 cY3] 26)))
    clear IY_49
    have C_61 : Below w.heap.size w (w6.alloc (.cells #[.int .i64 kY, .string tY, .slice aY1 nY1 cY1, .slice aY2 nY2 cY2, .slice aY3 nY3 cY3] 26)) := C_47.alloc C_47.size (.cells #[.int .i64 kY, .string tY, .slice aY1 nY1 cY1, .slice aY2 nY2 cY2, .slice aY3 nY3 cY3] 26)
    clear C_47
    have Y_62 := hide (BoxAt.new w6 (.int .i64 kY) (.string tY) (.slice aY1 nY1 cY1) (.slice aY2 nY2 cY2) (.slice aY3 nY3 cY3) 26)
    refine (HBO.out _ C_61).mono ?_
    rintro e w7 ⟨uZ, ⟨rfl, iZ⟩, hb7⟩
    clear xc0 xc1 xc2 xc3 xc4 xlt
    have C_63 : Below w.heap.size w w7 := C_61.trans (hb7.mono C_61.size)
    clear C_61
    have X_64 := hide (X_50.out.below hb7)
    have IA_64 := hide (IA_51.out.below hb7)
    have A_64 := hide (A_52.out.below hb7)
    have IB_64 := hide (IB_53.out.below hb7)
    have B_64 := hide (B_54.out.below hb7)
    have TR_64 := hide (TR_55.out.below hb7)
    have IC_64 := hide (IC_56.out.below hb7)
    have C_64 := hide (C_57.out.below hb7)
    have ID_64 := hide (ID_58.out.below hb7)
    have D_64 := hide (D_59.out.below hb7)
    have IY_64 := hide (IY_60.out.below hb7)
    have Y_64 := hide (Y_62.out.below hb7)
    clear X_50 IA_51 A_52 IB_53 B_54 TR_55 IC_56 C_57 ID_58 D_59 IY_60 Y_62
    clear hb7
    obtain ⟨kZ, tZ, aZ1, nZ1, cZ1, aZ2, nZ2, cZ2, aZ3, nZ3, cZ3, rfl⟩ := iZ.shape
    have IZ_65 := hide (iZ)
    clear iZ
    obtain ⟨xc0, xc1, xc2, xc3, xc4, xlt⟩ := X_64.out
    go_wp2_with fail
    have X_66 := hide (X_64.out.below ((Below.refl _ w7).alloc (Nat.le_refl _) (.cells #[.int .i64 kZ, .string tZ, .slice aZ1 nZ1 cZ1, .slice aZ2 nZ2 cZ2, .slice aZ3 nZ3 cZ3] 26)))
    clear X_64
    have IA_67 := hide (IA_64.out.below ((Below.refl _ w7).alloc (Nat.le_refl _) (.cells #[.int .i64 kZ, .string tZ, .slice aZ1 nZ1 cZ1, .slice aZ2 nZ2 cZ2, .slice aZ3 nZ3 cZ3] 26)))
    clear IA_64
    have A_68 := hide (A_64.out.below ((Below.refl _ w7).alloc (Nat.le_refl _) (.cells #[.int .i64 kZ, .string tZ, .slice aZ1 nZ1 cZ1, .slice aZ2 nZ2 cZ2, .slice aZ3 nZ3 cZ3] 26)))
    clear A_64
    have IB_69 := hide (IB_64.out.below ((Below.refl _ w7).alloc (Nat.le_refl _) (.cells #[.int .i64 kZ, .string tZ, .slice aZ1 nZ1 cZ1, .slice aZ2 nZ2 cZ2, .slice aZ3 nZ3 cZ3] 26)))
    clear IB_64
    have B_70 := hide (B_64.out.below ((Below.refl _ w7).alloc (Nat.le_refl _) (.cells #[.int .i64 kZ, .string tZ, .slice aZ1 nZ1 cZ1, .slice aZ2 nZ2 cZ2, .slice aZ3 nZ3 cZ3] 26)))
    clear B_64
    have TR_71 := hide (TR_64.out.below ((Below.refl _ w7).alloc (Nat.le_refl _) (.cells #[.int .i64 kZ, .string tZ, .slice aZ1 nZ1 cZ1, .slice aZ2 nZ2 cZ2, .slice aZ3 nZ3 cZ3] 26)))
    clear TR_64
    have IC_72 := hide (IC_64.out.below ((Below.refl _ w7).alloc (Nat.le_refl _) (.cells #[.int .i64 kZ, .string tZ, .slice aZ1 nZ1 cZ1, .slice aZ2 nZ2 cZ2, .slice aZ3 nZ3 cZ3] 26)))
    clear IC_64
    have C_73 := hide (C_64.out.below ((Below.refl _ w7).alloc (Nat.le_refl _) (.cells #[.int .i64 kZ, .string tZ, .slice aZ1 nZ1 cZ1, .slice aZ2 nZ2 cZ2, .slice aZ3 nZ3 cZ3] 26)))
    clear C_64
    have ID_74 := hide (ID_64.out.below ((Below.refl _ w7).alloc (Nat.le_refl _) (.cells #[.int .i64 kZ, .string tZ, .slice aZ1 nZ1 cZ1, .slice aZ2 nZ2 cZ2, .slice aZ3 nZ3 cZ3] 26)))
    clear ID_64
    have D_75 := hide (D_64.out.below ((Below.refl _ w7).alloc (Nat.le_refl _) (.cells #[.int .i64 kZ, .string tZ, .slice aZ1 nZ1 cZ1, .slice aZ2 nZ2 cZ2, .slice aZ3 nZ3 cZ3] 26)))
    clear D_64
    have IY_76 := hide (IY_64.out.below ((Below.refl _ w7).alloc (Nat.le_refl _) (.cells #[.int .i64 kZ, .string tZ, .slice aZ1 nZ1 cZ1, .slice aZ2 nZ2 cZ2, .slice aZ3 nZ3 cZ3] 26)))
    clear IY_64
    have Y_77 := hide (Y_64.out.below ((Below.refl _ w7).alloc (Nat.le_refl _) (.cells #[.int .i64 kZ, .string tZ, .slice aZ1 nZ1 cZ1, .slice aZ2 nZ2 cZ2, .slice aZ3 nZ3 cZ3] 26)))
    clear Y_64
    have IZ_78 := hide (IZ_65.out.below ((Below.refl _ w7).alloc (Nat.le_refl _) (.cells #[.int .i64 kZ, .string tZ, .slice aZ1 nZ1 cZ1, .slice aZ2 nZ2 cZ2, .slice aZ3 nZ3 cZ3] 26)))
    clear IZ_65
    have C_79 : Below w.heap.size w (w7.alloc (.cells #[.int .i64 kZ, .string tZ, .slice aZ1 nZ1 cZ1, .slice aZ2 nZ2 cZ2, .slice aZ3 nZ3 cZ3] 26)) := C_63.alloc C_63.size (.cells #[.int .i64 kZ, .string tZ, .slice aZ1 nZ1 cZ1, .slice aZ2 nZ2 cZ2, .slice aZ3 nZ3 cZ3] 26)
    clear C_63
    have Z_80 := hide (BoxAt.new w7 (.int .i64 kZ) (.string tZ) (.slice aZ1 nZ1 cZ1) (.slice aZ2 nZ2 cZ2) (.slice aZ3 nZ3 cZ3) 26)
    have X_81 := hide (X_66.out.below ((Below.refl _ (w7.alloc (.cells #[.int .i64 kZ, .string tZ, .slice aZ1 nZ1 cZ1, .slice aZ2 nZ2 cZ2, .slice aZ3 nZ3 cZ3] 26))).alloc (Nat.le_refl _) (.cells #[.string s] 9)))
    clear X_66
    have IA_82 := hide (IA_67.out.below ((Below.refl _ (w7.alloc (.cells #[.int .i64 kZ, .string tZ, .slice aZ1 nZ1 cZ1, .slice aZ2 nZ2 cZ2, .slice aZ3 nZ3 cZ3] 26))).alloc (Nat.le_refl _) (.cells #[.string s] 9)))
    clear IA_67
    have A_83 := hide (A_68.out.below ((Below.refl _ (w7.alloc (.cells #[.int .i64 kZ, .string tZ, .slice aZ1 nZ1 cZ1, .slice aZ2 nZ2 cZ2, .slice aZ3 nZ3 cZ3] 26))).alloc (Nat.le_refl _) (.cells #[.string s] 9)))
    clear A_68
    have IB_84 := hide (IB_69.out.below ((Below.refl _ (w7.alloc (.cells #[.int .i64 kZ, .string tZ, .slice aZ1 nZ1 cZ1, .slice aZ2 nZ2 cZ2, .slice aZ3 nZ3 cZ3] 26))).alloc (Nat.le_refl _) (.cells #[.string s] 9)))
    clear IB_69
    have B_85 := hide (B_70.out.below ((Below.refl _ (w7.alloc (.cells #[.int .i64 kZ, .string tZ, .slice aZ1 nZ1 cZ1, .slice aZ2 nZ2 cZ2, .slice aZ3 nZ3 cZ3] 26))).alloc (Nat.le_refl _) (.cells #[.string s] 9)))
    clear B_70
    have TR_86 := hide (TR_71.out.below ((Below.refl _ (w7.alloc (.cells #[.int .i64 kZ, .string tZ, .slice aZ1 nZ1 cZ1, .slice aZ2 nZ2 cZ2, .slice aZ3 nZ3 cZ3] 26))).alloc (Nat.le_refl _) (.cells #[.string s] 9)))
    clear TR_71
    have IC_87 := hide (IC_72.out.below ((Below.refl _ (w7.alloc (.cells #[.int .i64 kZ, .string tZ, .slice aZ1 nZ1 cZ1, .slice aZ2 nZ2 cZ2, .slice aZ3 nZ3 cZ3] 26))).alloc (Nat.le_refl _) (.cells #[.string s] 9)))
    clear IC_72
    have C_88 := hide (C_73.out.below ((Below.refl _ (w7.alloc (.cells #[.int .i64 kZ, .string tZ, .slice aZ1 nZ1 cZ1, .slice aZ2 nZ2 cZ2, .slice aZ3 nZ3 cZ3] 26))).alloc (Nat.le_refl _) (.cells #[.string s] 9)))
    clear C_73
    have ID_89 := hide (ID_74.out.below ((Below.refl _ (w7.alloc (.cells #[.int .i64 kZ, .string tZ, .slice aZ1 nZ1 cZ1, .slice aZ2 nZ2 cZ2, .slice aZ3 nZ3 cZ3] 26))).alloc (Nat.le_refl _) (.cells #[.string s] 9)))
    clear ID_74
    have D_90 := hide (D_75.out.below ((Below.refl _ (w7.alloc (.cells #[.int .i64 kZ, .string tZ, .slice aZ1 nZ1 cZ1, .slice aZ2 nZ2 cZ2, .slice aZ3 nZ3 cZ3] 26))).alloc (Nat.le_refl _) (.cells #[.string s] 9)))
    clear D_75
    have IY_91 := hide (IY_76.out.below ((Below.refl _ (w7.alloc (.cells #[.int .i64 kZ, .string tZ, .slice aZ1 nZ1 cZ1, .slice aZ2 nZ2 cZ2, .slice aZ3 nZ3 cZ3] 26))).alloc (Nat.le_refl _) (.cells #[.string s] 9)))
    clear IY_76
    have Y_92 := hide (Y_77.out.below ((Below.refl _ (w7.alloc (.cells #[.int .i64 kZ, .string tZ, .slice aZ1 nZ1 cZ1, .slice aZ2 nZ2 cZ2, .slice aZ3 nZ3 cZ3] 26))).alloc (Nat.le_refl _) (.cells #[.string s] 9)))
    clear Y_77
    have IZ_93 := hide (IZ_78.out.below ((Below.refl _ (w7.alloc (.cells #[.int .i64 kZ, .string tZ, .slice aZ1 nZ1 cZ1, .slice aZ2 nZ2 cZ2, .slice aZ3 nZ3 cZ3] 26))).alloc (Nat.le_refl _) (.cells #[.string s] 9)))
    clear IZ_78
    have Z_94 := hide (Z_80.out.below ((Below.refl _ (w7.alloc (.cells #[.int .i64 kZ, .string tZ, .slice aZ1 nZ1 cZ1, .slice aZ2 nZ2 cZ2, .slice aZ3 nZ3 cZ3] 26))).alloc (Nat.le_refl _) (.cells #[.string s] 9)))
    clear Z_80
    have C_95 : Below w.heap.size w ((w7.alloc (.cells #[.int .i64 kZ, .string tZ, .slice aZ1 nZ1 cZ1, .slice aZ2 nZ2 cZ2, .slice aZ3 nZ3 cZ3] 26)).alloc (.cells #[.string s] 9)) := C_79.alloc C_79.size (.cells #[.string s] 9)
    clear C_79
    refine (HDO.out _ _ C_95 (by exact one_texts _ _ _ _ (by simp))).mono ?_
    rintro e w8 ⟨uQ, ⟨rfl, iQ⟩, hb8⟩
    clear xc0 xc1 xc2 xc3 xc4 xlt
    have C_96 : Below w.heap.size w w8 := C_95.trans (hb8.mono C_95.size)
    clear C_95
    have X_97 := hide (X_81.out.below hb8)
    have IA_97 := hide (IA_82.out.below hb8)
    have A_97 := hide (A_83.out.below hb8)
    have IB_97 := hide (IB_84.out.below hb8)
    have B_97 := hide (B_85.out.below hb8)
    have TR_97 := hide (TR_86.out.below hb8)
    have IC_97 := hide (IC_87.out.below hb8)
    have C_97 := hide (C_88.out.below hb8)
    have ID_97 := hide (ID_89.out.below hb8)
    have D_97 := hide (D_90.out.below hb8)
    have IY_97 := hide (IY_91.out.below hb8)
    have Y_97 := hide (Y_92.out.below hb8)
    have IZ_97 := hide (IZ_93.out.below hb8)
    have Z_97 := hide (Z_94.out.below hb8)
    clear X_81 IA_82 A_83 IB_84 B_85 TR_86 IC_87 C_88 ID_89 D_90 IY_91 Y_92 IZ_93 Z_94
    clear hb8
    obtain ⟨kQ, tQ, aQ1, nQ1, cQ1, aQ2, nQ2, cQ2, aQ3, nQ3, cQ3, rfl⟩ := iQ.shape
    have IQ_98 := hide (iQ)
    clear iQ
    obtain ⟨xc0, xc1, xc2, xc3, xc4, xlt⟩ := X_97.out
    go_wp2_with fail
    have X_99 := hide (X_97.out.below ((Below.refl _ w8).alloc (Nat.le_refl _) (.cells #[.int .i64 kQ, .string tQ, .slice aQ1 nQ1 cQ1, .slice aQ2 nQ2 cQ2, .slice aQ3 nQ3 cQ3] 26)))
    clear X_97
    have IA_100 := hide (IA_97.out.below ((Below.refl _ w8).alloc (Nat.le_refl _) (.cells #[.int .i64 kQ, .string tQ, .slice aQ1 nQ1 cQ1, .slice aQ2 nQ2 cQ2, .slice aQ3 nQ3 cQ3] 26)))
    clear IA_97
    have A_101 := hide (A_97.out.below ((Below.refl _ w8).alloc (Nat.le_refl _) (.cells #[.int .i64 kQ, .string tQ, .slice aQ1 nQ1 cQ1, .slice aQ2 nQ2 cQ2, .slice aQ3 nQ3 cQ3] 26)))
    clear A_97
    have IB_102 := hide (IB_97.out.below ((Below.refl _ w8).alloc (Nat.le_refl _) (.cells #[.int .i64 kQ, .string tQ, .slice aQ1 nQ1 cQ1, .slice aQ2 nQ2 cQ2, .slice aQ3 nQ3 cQ3] 26)))
    clear IB_97
    have B_103 := hide (B_97.out.below ((Below.refl _ w8).alloc (Nat.le_refl _) (.cells #[.int .i64 kQ, .string tQ, .slice aQ1 nQ1 cQ1, .slice aQ2 nQ2 cQ2, .slice aQ3 nQ3 cQ3] 26)))
    clear B_97
    have TR_104 := hide (TR_97.out.below ((Below.refl _ w8).alloc (Nat.le_refl _) (.cells #[.int .i64 kQ, .string tQ, .slice aQ1 nQ1 cQ1, .slice aQ2 nQ2 cQ2, .slice aQ3 nQ3 cQ3] 26)))
    clear TR_97
    have IC_105 := hide (IC_97.out.below ((Below.refl _ w8).alloc (Nat.le_refl _) (.cells #[.int .i64 kQ, .string tQ, .slice aQ1 nQ1 cQ1, .slice aQ2 nQ2 cQ2, .slice aQ3 nQ3 cQ3] 26)))
    clear IC_97
    have C_106 := hide (C_97.out.below ((Below.refl _ w8).alloc (Nat.le_refl _) (.cells #[.int .i64 kQ, .string tQ, .slice aQ1 nQ1 cQ1, .slice aQ2 nQ2 cQ2, .slice aQ3 nQ3 cQ3] 26)))
    clear C_97
    have ID_107 := hide (ID_97.out.below ((Below.refl _ w8).alloc (Nat.le_refl _) (.cells #[.int .i64 kQ, .string tQ, .slice aQ1 nQ1 cQ1, .slice aQ2 nQ2 cQ2, .slice aQ3 nQ3 cQ3] 26)))
    clear ID_97
    have D_108 := hide (D_97.out.below ((Below.refl _ w8).alloc (Nat.le_refl _) (.cells #[.int .i64 kQ, .string tQ, .slice aQ1 nQ1 cQ1, .slice aQ2 nQ2 cQ2, .slice aQ3 nQ3 cQ3] 26)))
    clear D_97
    have IY_109 := hide (IY_97.out.below ((Below.refl _ w8).alloc (Nat.le_refl _) (.cells #[.int .i64 kQ, .string tQ, .slice aQ1 nQ1 cQ1, .slice aQ2 nQ2 cQ2, .slice aQ3 nQ3 cQ3] 26)))
    clear IY_97
    have Y_110 := hide (Y_97.out.below ((Below.refl _ w8).alloc (Nat.le_refl _) (.cells #[.int .i64 kQ, .string tQ, .slice aQ1 nQ1 cQ1, .slice aQ2 nQ2 cQ2, .slice aQ3 nQ3 cQ3] 26)))
    clear Y_97
    have IZ_111 := hide (IZ_97.out.below ((Below.refl _ w8).alloc (Nat.le_refl _) (.cells #[.int .i64 kQ, .string tQ, .slice aQ1 nQ1 cQ1, .slice aQ2 nQ2 cQ2, .slice aQ3 nQ3 cQ3] 26)))
    clear IZ_97
    have Z_112 := hide (Z_97.out.below ((Below.refl _ w8).alloc (Nat.le_refl _) (.cells #[.int .i64 kQ, .string tQ, .slice aQ1 nQ1 cQ1, .slice aQ2 nQ2 cQ2, .slice aQ3 nQ3 cQ3] 26)))
    clear Z_97
    have IQ_113 := hide (IQ_98.out.below ((Below.refl _ w8).alloc (Nat.le_refl _) (.cells #[.int .i64 kQ, .string tQ, .slice aQ1 nQ1 cQ1, .slice aQ2 nQ2 cQ2, .slice aQ3 nQ3 cQ3] 26)))
    clear IQ_98
    have C_114 : Below w.heap.size w (w8.alloc (.cells #[.int .i64 kQ, .string tQ, .slice aQ1 nQ1 cQ1, .slice aQ2 nQ2 cQ2, .slice aQ3 nQ3 cQ3] 26)) := C_96.alloc C_96.size (.cells #[.int .i64 kQ, .string tQ, .slice aQ1 nQ1 cQ1, .slice aQ2 nQ2 cQ2, .slice aQ3 nQ3 cQ3] 26)
    clear C_96
    have Q_115 := hide (BoxAt.new w8 (.int .i64 kQ) (.string tQ) (.slice aQ1 nQ1 cQ1) (.slice aQ2 nQ2 cQ2) (.slice aQ3 nQ3 cQ3) 26)
    refine (HC.out _ C_114).mono ?_
    rintro e w9 ⟨rfl, hb9⟩
    clear xc0 xc1 xc2 xc3 xc4 xlt
    have C_116 : Below w.heap.size w w9 := C_114.trans (hb9.mono C_114.size)
    clear C_114
    have X_117 := hide (X_99.out.below hb9)
    have IA_117 := hide (IA_100.out.below hb9)
    have A_117 := hide (A_101.out.below hb9)
    have IB_117 := hide (IB_102.out.below hb9)
    have B_117 := hide (B_103.out.below hb9)
    have TR_117 := hide (TR_104.out.below hb9)
    have IC_117 := hide (IC_105.out.below hb9)
    have C_117 := hide (C_106.out.below hb9)
    have ID_117 := hide (ID_107.out.below hb9)
    have D_117 := hide (D_108.out.below hb9)
    have IY_117 := hide (IY_109.out.below hb9)
    have Y_117 := hide (Y_110.out.below hb9)
    have IZ_117 := hide (IZ_111.out.below hb9)
    have Z_117 := hide (Z_112.out.below hb9)
    have IQ_117 := hide (IQ_113.out.below hb9)
    have Q_117 := hide (Q_115.out.below hb9)
    clear X_99 IA_100 A_101 IB_102 B_103 TR_104 IC_105 C_106 ID_107 D_108 IY_109 Y_110 IZ_111 Z_112 IQ_113 Q_115
    clear hb9
    obtain ⟨xc0, xc1, xc2, xc3, xc4, xlt⟩ := X_117.out
    go_wp2_with fail
    have CM := hide (C_116.alloc C_116.size (.cells #[.int .i64 0, .string ⟨#[]⟩, .slice none 0 0, .slice none 0 0, .slice none 0 0] 26))
    have M0 := hide (BoxAt.new w9 (.int .i64 0) (.string ⟨#[]⟩) (.slice none 0 0) (.slice none 0 0) (.slice none 0 0) 26)
    have S0 : Hid (Soft (w9.alloc (.cells #[.int .i64 0, .string ⟨#[]⟩, .slice none 0 0, .slice none 0 0, .slice none 0 0] 26)) w9.heap.size) := ⟨by simp [go_sem], by simp [go_sem], by simp [go_sem], by simp [go_sem], by simp [go_sem]⟩
    have A9 : Hid (Below w9.heap.size w9 (w9.alloc (.cells #[.int .i64 0, .string ⟨#[]⟩, .slice none 0 0, .slice none 0 0, .slice none 0 0] 26))) := (Below.refl _ w9).alloc (Nat.le_refl _) _
    have z9 : Hid ((w9.alloc (.cells #[.int .i64 0, .string ⟨#[]⟩, .slice none 0 0, .slice none 0 0, .slice none 0 0] 26)).heap.size = w9.heap.size + 1) := by simp [Hid]
    have XQ : Hid ((w9.alloc (.cells #[.int .i64 0, .string ⟨#[]⟩, .slice none 0 0, .slice none 0 0, .slice none 0 0] 26)).cell? ⟨w.heap.size, 2, none⟩ = some (.slice a1 n1 c1)) := (A9.out.cell (p := ⟨w.heap.size, 2, none⟩) xlt).trans xc2
    clear xc0 xc1 xc2 xc3 xc4 xlt
    generalize hWq : World.alloc w9 _ = Wq at *
    clear hWq
    refine wp_region_held_drew (S := (fun w' => w'.cell? ⟨w.heap.size, 2, none⟩ = some (.slice a1 n1 c1))) (by kernel_rfl) XQ.out (fun hHeld => ?_)
    refine wpAnyH_take (i := 0) (v := .pointer (some ⟨w.heap.size, 2, none⟩)) rfl (by kernel_rfl) (by kernel_rfl) (by kernel_rfl) (fun _ _ _ h => h) (Or.inl ⟨by kernel_rfl, by intro w hSw; (try dsimp only at hSw); go_simp⟩) (by assumption) ?_
    refine wpAnyH_take (i := 1) (v := .slice a1 n1 c1) rfl (by kernel_rfl) (by kernel_rfl) (by kernel_rfl) (fun _ _ _ h => h) (Or.inl ⟨by kernel_rfl, by intro w hSw; (try dsimp only at hSw); go_simp⟩) (by assumption) ?_
    refine wpAnyH_take (i := 2) (v := .int .i64 from_) rfl (by kernel_rfl) (by kernel_rfl) (by kernel_rfl) (fun _ _ _ h => h) (Or.inl ⟨by kernel_rfl, by intro w hSw; (try dsimp only at hSw); go_simp⟩) (by assumption) ?_
    refine wpAnyH_take (i := 4) (v := .int .i64 to_) rfl (by kernel_rfl) (by kernel_rfl) (by kernel_rfl) (fun _ _ _ h => h) (Or.inl ⟨by kernel_rfl, by intro w hSw; (try dsimp only at hSw); go_simp⟩) (by assumption) ?_
    refine wpAnyH_ready (rs := [3]) (by kernel_rfl) (by simp) ?_
    refine AllReadyH.cons rfl (fun K hK => ?_) AllReadyH.nil
    go_simp
    refine (clamped_any from_ _).mono ?_
    rintro e wc ⟨rfl, rfl⟩
    refine hK.out _ _ XQ.out (fun hHeld => ?_)
    clear hK K
    refine wpAnyH_ready (rs := [5]) (by kernel_rfl) (by simp) ?_
    refine AllReadyH.cons rfl (fun K hK => ?_) AllReadyH.nil
    go_simp
    refine (clamped_any to_ _).mono ?_
    rintro e wc ⟨rfl, rfl⟩
    refine hK.out _ _ XQ.out (fun hHeld => ?_)
    clear hK K
    refine wpAnyH_ready (rs := [6]) (by kernel_rfl) (by simp) ?_
    refine AllReadyH.cons rfl (fun K hK => ?_) AllReadyH.nil
    go_simp
    refine (HRL.out _ CM.out.drew).mono ?_
    rintro e w10 ⟨v10, rfl, ho10, hb10⟩
    obtain ⟨aS, cS, rfl⟩ := slice_own ho10
    have hb10' : Below Wq.heap.size Wq w10 := ⟨hb10.os, hb10.tape, hb10.output, hb10.size, hb10.block⟩
    have hHeld10 : w10.cell? ⟨w.heap.size, 2, none⟩ = some (.slice a1 n1 c1) := (hb10'.cell (p := ⟨w.heap.size, 2, none⟩) (World.block_lt_of_cell? _ _ XQ.out)).trans XQ.out
    refine hK.out _ _ hHeld10 (fun hHeld => ?_)
    clear hK K hb10
    refine wpAnyH_take (i := 7) (v := .slice aS KK.length cS) rfl (by kernel_rfl) (by kernel_rfl) (by kernel_rfl) (fun _ _ _ h => h) (Or.inl ⟨by kernel_rfl, by intro w hSw; (try dsimp only at hSw); go_simp⟩) (by assumption) ?_
    refine wpAnyH_done (by kernel_rfl) ?_ _
    have M10 := hide (M0.out.below hb10')
    have S10 := hide (S0.out.below hb10' M0.out.lt)
    have A10 : Below w9.heap.size w9 w10 := A9.out.trans (hb10'.mono A9.out.size)
    have HTX : Hid (∀ w', (∀ g o u, Wq.heap.size ≤ g → w10.cell? ⟨g, o, none⟩ = some u → w'.cell? ⟨g, o, none⟩ = some u) → TextsAt w' aS KK) := fun w' hw => texts_from ho10 hw
    have HGG : Hid (∀ p0 p1 p2 p3 p4 W, Below w9.heap.size w9 W → BoxAt W w9.heap.size p0 p1 p2 p3 p4 → TextsAt W aS KK → Calls Try.prog 16 #[] W fun e w' => e = .returned (.bool true) ∧ Below w9.heap.size w9 w' ∧ BoxAt w' w9.heap.size p0 p1 p2 p3 p4 ∧ TextsAt w' aS KK) := fun p0 p1 p2 p3 p4 W h1 h2 h3 => (HG.out W).mono fun e w' ⟨e1, b⟩ => ⟨e1, h1.trans (b.mono h1.size), h2.below b, h3.below b⟩
    clear ho10 hHeld hHeld10 XQ M0 S0 A9 CM HRL HG hb10'
    by_cases hK0 : KK = []
    · subst hK0
      go_wp2_with fail
      refine (HGG.out _ _ _ _ _ _ A10 M10.out (.inl rfl)).mono ?_
      rintro e w11 ⟨rfl, hB11, hM11, hT11⟩
      have C_118 : Below w.heap.size w w11 := C_116.trans (hB11.mono C_116.size)
      clear C_116
      have X_119 := hide (X_117.out.below hB11)
      have IA_119 := hide (IA_117.out.below hB11)
      have A_119 := hide (A_117.out.below hB11)
      have IB_119 := hide (IB_117.out.below hB11)
      have B_119 := hide (B_117.out.below hB11)
      have TR_119 := hide (TR_117.out.below hB11)
      have IC_119 := hide (IC_117.out.below hB11)
      have C_119 := hide (C_117.out.below hB11)
      have ID_119 := hide (ID_117.out.below hB11)
      have D_119 := hide (D_117.out.below hB11)
      have IY_119 := hide (IY_117.out.below hB11)
      have Y_119 := hide (Y_117.out.below hB11)
      have IZ_119 := hide (IZ_117.out.below hB11)
      have Z_119 := hide (Z_117.out.below hB11)
      have IQ_119 := hide (IQ_117.out.below hB11)
      have Q_119 := hide (Q_117.out.below hB11)
      clear X_117 IA_117 A_117 IB_117 B_117 TR_117 IC_117 C_117 ID_117 D_117 IY_117 Y_117 IZ_117 Z_117 IQ_117 Q_117
      have M_120 := hide (hM11)
      have TS_121 := hide (hT11)
      have IM_122 := hide (show ItemIs w11 (.agg #[.int .i64 0, .string ⟨#[]⟩, .slice none 0 0, .slice none 0 0, .slice none 0 0]) (lstI []) by rw [show lstI [] = Itm.none from if_pos rfl]; exact zero_is _)
      clear hM11 hT11 hB11
      obtain ⟨ac0, ac1, ac2, ac3, ac4, alt⟩ := A_119.out
      obtain ⟨yc0, yc1, yc2, yc3, yc4, ylt⟩ := Y_119.out
      go_wp2_with fail
      refine (HIA.out _ _ _ IA_119.out IY_119.out).mono ?_
      rintro e w12 ⟨rfl, hb12⟩
      clear ac0 ac1 ac2 ac3 ac4 alt yc0 yc1 yc2 yc3 yc4 ylt
      have C_123 : Below w.heap.size w w12 := C_118.trans (hb12.mono C_118.size)
      clear C_118
      have X_124 := hide (X_119.out.below hb12)
      have IA_124 := hide (IA_119.out.below hb12)
      have A_124 := hide (A_119.out.below hb12)
      have IB_124 := hide (IB_119.out.below hb12)
      have B_124 := hide (B_119.out.below hb12)
      have TR_124 := hide (TR_119.out.below hb12)
      have IC_124 := hide (IC_119.out.below hb12)
      have C_124 := hide (C_119.out.below hb12)
      have ID_124 := hide (ID_119.out.below hb12)
      have D_124 := hide (D_119.out.below hb12)
      have IY_124 := hide (IY_119.out.below hb12)
      have Y_124 := hide (Y_119.out.below hb12)
      have IZ_124 := hide (IZ_119.out.below hb12)
      have Z_124 := hide (Z_119.out.below hb12)
      have IQ_124 := hide (IQ_119.out.below hb12)
      have Q_124 := hide (Q_119.out.below hb12)
      have M_124 := hide (M_120.out.below hb12)
      have TS_124 := hide (TS_121.out.below hb12)
      have IM_124 := hide (IM_122.out.below hb12)
      clear X_119 IA_119 A_119 IB_119 B_119 TR_119 IC_119 C_119 ID_119 D_119 IY_119 Y_119 IZ_119 Z_119 IQ_119 Q_119 M_120 TS_121 IM_122
      clear hb12
      obtain ⟨bc0, bc1, bc2, bc3, bc4, blt⟩ := B_124.out
      obtain ⟨zc0, zc1, zc2, zc3, zc4, zlt⟩ := Z_124.out
      go_wp2_with fail
      refine (HIB.out _ _ _ IB_124.out IZ_124.out).mono ?_
      rintro e w13 ⟨rfl, hb13⟩
      clear bc0 bc1 bc2 bc3 bc4 blt zc0 zc1 zc2 zc3 zc4 zlt
      have C_125 : Below w.heap.size w w13 := C_123.trans (hb13.mono C_123.size)
      clear C_123
      have X_126 := hide (X_124.out.below hb13)
      have IA_126 := hide (IA_124.out.below hb13)
      have A_126 := hide (A_124.out.below hb13)
      have IB_126 := hide (IB_124.out.below hb13)
      have B_126 := hide (B_124.out.below hb13)
      have TR_126 := hide (TR_124.out.below hb13)
      have IC_126 := hide (IC_124.out.below hb13)
      have C_126 := hide (C_124.out.below hb13)
      have ID_126 := hide (ID_124.out.below hb13)
      have D_126 := hide (D_124.out.below hb13)
      have IY_126 := hide (IY_124.out.below hb13)
      have Y_126 := hide (Y_124.out.below hb13)
      have IZ_126 := hide (IZ_124.out.below hb13)
      have Z_126 := hide (Z_124.out.below hb13)
      have IQ_126 := hide (IQ_124.out.below hb13)
      have Q_126 := hide (Q_124.out.below hb13)
      have M_126 := hide (M_124.out.below hb13)
      have TS_126 := hide (TS_124.out.below hb13)
      have IM_126 := hide (IM_124.out.below hb13)
      clear X_124 IA_124 A_124 IB_124 B_124 TR_124 IC_124 C_124 ID_124 D_124 IY_124 Y_124 IZ_124 Z_124 IQ_124 Q_124 M_124 TS_124 IM_124
      clear hb13
      go_wp2_with fail
      refine (HST.out _ _ _ _ _ TR_126.out TS_126.out).mono ?_
      rintro e w14 ⟨rfl, hb14⟩
      have C_127 : Below w.heap.size w w14 := C_125.trans (hb14.mono C_125.size)
      clear C_125
      have X_128 := hide (X_126.out.below hb14)
      have IA_128 := hide (IA_126.out.below hb14)
      have A_128 := hide (A_126.out.below hb14)
      have IB_128 := hide (IB_126.out.below hb14)
      have B_128 := hide (B_126.out.below hb14)
      have TR_128 := hide (TR_126.out.below hb14)
      have IC_128 := hide (IC_126.out.below hb14)
      have C_128 := hide (C_126.out.below hb14)
      have ID_128 := hide (ID_126.out.below hb14)
      have D_128 := hide (D_126.out.below hb14)
      have IY_128 := hide (IY_126.out.below hb14)
      have Y_128 := hide (Y_126.out.below hb14)
      have IZ_128 := hide (IZ_126.out.below hb14)
      have Z_128 := hide (Z_126.out.below hb14)
      have IQ_128 := hide (IQ_126.out.below hb14)
      have Q_128 := hide (Q_126.out.below hb14)
      have M_128 := hide (M_126.out.below hb14)
      have TS_128 := hide (TS_126.out.below hb14)
      have IM_128 := hide (IM_126.out.below hb14)
      clear X_126 IA_126 A_126 IB_126 B_126 TR_126 IC_126 C_126 ID_126 D_126 IY_126 Y_126 IZ_126 Z_126 IQ_126 Q_126 M_126 TS_126 IM_126
      clear hb14
      obtain ⟨cc0, cc1, cc2, cc3, cc4, clt⟩ := C_128.out
      obtain ⟨mc0, mc1, mc2, mc3, mc4, mlt⟩ := M_128.out
      go_wp2_with fail
      refine (HIC.out _ _ _ IC_128.out IM_128.out).mono ?_
      rintro e w15 ⟨rfl, hb15⟩
      clear cc0 cc1 cc2 cc3 cc4 clt mc0 mc1 mc2 mc3 mc4 mlt
      have C_129 : Below w.heap.size w w15 := C_127.trans (hb15.mono C_127.size)
      clear C_127
      have X_130 := hide (X_128.out.below hb15)
      have IA_130 := hide (IA_128.out.below hb15)
      have A_130 := hide (A_128.out.below hb15)
      have IB_130 := hide (IB_128.out.below hb15)
      have B_130 := hide (B_128.out.below hb15)
      have TR_130 := hide (TR_128.out.below hb15)
      have IC_130 := hide (IC_128.out.below hb15)
      have C_130 := hide (C_128.out.below hb15)
      have ID_130 := hide (ID_128.out.below hb15)
      have D_130 := hide (D_128.out.below hb15)
      have IY_130 := hide (IY_128.out.below hb15)
      have Y_130 := hide (Y_128.out.below hb15)
      have IZ_130 := hide (IZ_128.out.below hb15)
      have Z_130 := hide (Z_128.out.below hb15)
      have IQ_130 := hide (IQ_128.out.below hb15)
      have Q_130 := hide (Q_128.out.below hb15)
      have M_130 := hide (M_128.out.below hb15)
      have TS_130 := hide (TS_128.out.below hb15)
      have IM_130 := hide (IM_128.out.below hb15)
      clear X_128 IA_128 A_128 IB_128 B_128 TR_128 IC_128 C_128 ID_128 D_128 IY_128 Y_128 IZ_128 Z_128 IQ_128 Q_128 M_128 TS_128 IM_128
      clear hb15
      obtain ⟨dc0, dc1, dc2, dc3, dc4, dlt⟩ := D_130.out
      obtain ⟨qc0, qc1, qc2, qc3, qc4, qlt⟩ := Q_130.out
      go_wp2_with fail
      refine (HID.out _ _ _ ID_130.out IQ_130.out).mono ?_
      rintro e w16 ⟨rfl, hb16⟩
      clear dc0 dc1 dc2 dc3 dc4 dlt qc0 qc1 qc2 qc3 qc4 qlt
      have C_131 : Below w.heap.size w w16 := C_129.trans (hb16.mono C_129.size)
      clear C_129
      have X_132 := hide (X_130.out.below hb16)
      have IA_132 := hide (IA_130.out.below hb16)
      have A_132 := hide (A_130.out.below hb16)
      have IB_132 := hide (IB_130.out.below hb16)
      have B_132 := hide (B_130.out.below hb16)
      have TR_132 := hide (TR_130.out.below hb16)
      have IC_132 := hide (IC_130.out.below hb16)
      have C_132 := hide (C_130.out.below hb16)
      have ID_132 := hide (ID_130.out.below hb16)
      have D_132 := hide (D_130.out.below hb16)
      have IY_132 := hide (IY_130.out.below hb16)
      have Y_132 := hide (Y_130.out.below hb16)
      have IZ_132 := hide (IZ_130.out.below hb16)
      have Z_132 := hide (Z_130.out.below hb16)
      have IQ_132 := hide (IQ_130.out.below hb16)
      have Q_132 := hide (Q_130.out.below hb16)
      have M_132 := hide (M_130.out.below hb16)
      have TS_132 := hide (TS_130.out.below hb16)
      have IM_132 := hide (IM_130.out.below hb16)
      clear X_130 IA_130 A_130 IB_130 B_130 TR_130 IC_130 C_130 ID_130 D_130 IY_130 Y_130 IZ_130 Z_130 IQ_130 Q_130 M_130 TS_130 IM_130
      clear hb16
      go_wp2_with fail
      go_ret
      exact ⟨rfl, C_131⟩
    · have hKpos : (0 : Int) < ((KK.length : Nat) : Int) := by have := List.length_pos_iff.2 hK0; omega
      have HK0 := hide hK0
      obtain ⟨m0, m1, m2, m3, m4, mlt⟩ := M10.out
      obtain ⟨f0, f1, f2, f3, f4⟩ := S10.out
      clear hK0
      go_wp2_with fail
      refine (HGG.out _ _ _ _ _ _ ?_ (box_set _ _ _ _ _ M10.out) (HTX.out _ (fun g o u hg hu => (five_apart _ _ _ _ _ _ _ g o (by have := z9.out; omega)).trans hu))).mono ?_
      · go_grown
      clear m0 m1 m2 m3 m4 mlt f0 f1 f2 f3 f4 HTX
      rintro e w11 ⟨rfl, hB11, hM11, hT11⟩
      have C_133 : Below w.heap.size w w11 := C_116.trans (hB11.mono C_116.size)
      clear C_116
      have X_134 := hide (X_117.out.below hB11)
      have IA_134 := hide (IA_117.out.below hB11)
      have A_134 := hide (A_117.out.below hB11)
      have IB_134 := hide (IB_117.out.below hB11)
      have B_134 := hide (B_117.out.below hB11)
      have TR_134 := hide (TR_117.out.below hB11)
      have IC_134 := hide (IC_117.out.below hB11)
      have C_134 := hide (C_117.out.below hB11)
      have ID_134 := hide (ID_117.out.below hB11)
      have D_134 := hide (D_117.out.below hB11)
      have IY_134 := hide (IY_117.out.below hB11)
      have Y_134 := hide (Y_117.out.below hB11)
      have IZ_134 := hide (IZ_117.out.below hB11)
      have Z_134 := hide (Z_117.out.below hB11)
      have IQ_134 := hide (IQ_117.out.below hB11)
      have Q_134 := hide (Q_117.out.below hB11)
      clear X_117 IA_117 A_117 IB_117 B_117 TR_117 IC_117 C_117 ID_117 D_117 IY_117 Y_117 IZ_117 Z_117 IQ_117 Q_117
      have M_135 := hide (hM11)
      have TS_136 := hide (hT11)
      have IM_137 := hide (lstI_is (cap := cS) hT11 HK0.out HKZ.out (show KK.length ≤ 281474976710656 by omega))
      clear hM11 hT11 hB11
      obtain ⟨ac0, ac1, ac2, ac3, ac4, alt⟩ := A_134.out
      obtain ⟨yc0, yc1, yc2, yc3, yc4, ylt⟩ := Y_134.out
      go_wp2_with fail
      refine (HIA.out _ _ _ IA_134.out IY_134.out).mono ?_
      rintro e w12 ⟨rfl, hb12⟩
      clear ac0 ac1 ac2 ac3 ac4 alt yc0 yc1 yc2 yc3 yc4 ylt
      have C_138 : Below w.heap.size w w12 := C_133.trans (hb12.mono C_133.size)
      clear C_133
      have X_139 := hide (X_134.out.below hb12)
      have IA_139 := hide (IA_134.out.below hb12)
      have A_139 := hide (A_134.out.below hb12)
      have IB_139 := hide (IB_134.out.below hb12)
      have B_139 := hide (B_134.out.below hb12)
      have TR_139 := hide (TR_134.out.below hb12)
      have IC_139 := hide (IC_134.out.below hb12)
      have C_139 := hide (C_134.out.below hb12)
      have ID_139 := hide (ID_134.out.below hb12)
      have D_139 := hide (D_134.out.below hb12)
      have IY_139 := hide (IY_134.out.below hb12)
      have Y_139 := hide (Y_134.out.below hb12)
      have IZ_139 := hide (IZ_134.out.below hb12)
      have Z_139 := hide (Z_134.out.below hb12)
      have IQ_139 := hide (IQ_134.out.below hb12)
      have Q_139 := hide (Q_134.out.below hb12)
      have M_139 := hide (M_135.out.below hb12)
      have TS_139 := hide (TS_136.out.below hb12)
      have IM_139 := hide (IM_137.out.below hb12)
      clear X_134 IA_134 A_134 IB_134 B_134 TR_134 IC_134 C_134 ID_134 D_134 IY_134 Y_134 IZ_134 Z_134 IQ_134 Q_134 M_135 TS_136 IM_137
      clear hb12
      obtain ⟨bc0, bc1, bc2, bc3, bc4, blt⟩ := B_139.out
      obtain ⟨zc0, zc1, zc2, zc3, zc4, zlt⟩ := Z_139.out
      go_wp2_with fail
      refine (HIB.out _ _ _ IB_139.out IZ_139.out).mono ?_
      rintro e w13 ⟨rfl, hb13⟩
      clear bc0 bc1 bc2 bc3 bc4 blt zc0 zc1 zc2 zc3 zc4 zlt
      have C_140 : Below w.heap.size w w13 := C_138.trans (hb13.mono C_138.size)
      clear C_138
      have X_141 := hide (X_139.out.below hb13)
      have IA_141 := hide (IA_139.out.below hb13)
      have A_141 := hide (A_139.out.below hb13)
      have IB_141 := hide (IB_139.out.below hb13)
      have B_141 := hide (B_139.out.below hb13)
      have TR_141 := hide (TR_139.out.below hb13)
      have IC_141 := hide (IC_139.out.below hb13)
      have C_141 := hide (C_139.out.below hb13)
      have ID_141 := hide (ID_139.out.below hb13)
      have D_141 := hide (D_139.out.below hb13)
      have IY_141 := hide (IY_139.out.below hb13)
      have Y_141 := hide (Y_139.out.below hb13)
      have IZ_141 := hide (IZ_139.out.below hb13)
      have Z_141 := hide (Z_139.out.below hb13)
      have IQ_141 := hide (IQ_139.out.below hb13)
      have Q_141 := hide (Q_139.out.below hb13)
      have M_141 := hide (M_139.out.below hb13)
      have TS_141 := hide (TS_139.out.below hb13)
      have IM_141 := hide (IM_139.out.below hb13)
      clear X_139 IA_139 A_139 IB_139 B_139 TR_139 IC_139 C_139 ID_139 D_139 IY_139 Y_139 IZ_139 Z_139 IQ_139 Q_139 M_139 TS_139 IM_139
      clear hb13
      go_wp2_with fail
      refine (HST.out _ _ _ _ _ TR_141.out TS_141.out).mono ?_
      rintro e w14 ⟨rfl, hb14⟩
      have C_142 : Below w.heap.size w w14 := C_140.trans (hb14.mono C_140.size)
      clear C_140
      have X_143 := hide (X_141.out.below hb14)
      have IA_143 := hide (IA_141.out.below hb14)
      have A_143 := hide (A_141.out.below hb14)
      have IB_143 := hide (IB_141.out.below hb14)
      have B_143 := hide (B_141.out.below hb14)
      have TR_143 := hide (TR_141.out.below hb14)
      have IC_143 := hide (IC_141.out.below hb14)
      have C_143 := hide (C_141.out.below hb14)
      have ID_143 := hide (ID_141.out.below hb14)
      have D_143 := hide (D_141.out.below hb14)
      have IY_143 := hide (IY_141.out.below hb14)
      have Y_143 := hide (Y_141.out.below hb14)
      have IZ_143 := hide (IZ_141.out.below hb14)
      have Z_143 := hide (Z_141.out.below hb14)
      have IQ_143 := hide (IQ_141.out.below hb14)
      have Q_143 := hide (Q_141.out.below hb14)
      have M_143 := hide (M_141.out.below hb14)
      have TS_143 := hide (TS_141.out.below hb14)
      have IM_143 := hide (IM_141.out.below hb14)
      clear X_141 IA_141 A_141 IB_141 B_141 TR_141 IC_141 C_141 ID_141 D_141 IY_141 Y_141 IZ_141 Z_141 IQ_141 Q_141 M_141 TS_141 IM_141
      clear hb14
      obtain ⟨cc0, cc1, cc2, cc3, cc4, clt⟩ := C_143.out
      obtain ⟨mc0, mc1, mc2, mc3, mc4, mlt⟩ := M_143.out
      go_wp2_with fail
      refine (HIC.out _ _ _ IC_143.out IM_143.out).mono ?_
      rintro e w15 ⟨rfl, hb15⟩
      clear cc0 cc1 cc2 cc3 cc4 clt mc0 mc1 mc2 mc3 mc4 mlt
      have C_144 : Below w.heap.size w w15 := C_142.trans (hb15.mono C_142.size)
      clear C_142
      have X_145 := hide (X_143.out.below hb15)
      have IA_145 := hide (IA_143.out.below hb15)
      have A_145 := hide (A_143.out.below hb15)
      have IB_145 := hide (IB_143.out.below hb15)
      have B_145 := hide (B_143.out.below hb15)
      have TR_145 := hide (TR_143.out.below hb15)
      have IC_145 := hide (IC_143.out.below hb15)
      have C_145 := hide (C_143.out.below hb15)
      have ID_145 := hide (ID_143.out.below hb15)
      have D_145 := hide (D_143.out.below hb15)
      have IY_145 := hide (IY_143.out.below hb15)
      have Y_145 := hide (Y_143.out.below hb15)
      have IZ_145 := hide (IZ_143.out.below hb15)
      have Z_145 := hide (Z_143.out.below hb15)
      have IQ_145 := hide (IQ_143.out.below hb15)
      have Q_145 := hide (Q_143.out.below hb15)
      have M_145 := hide (M_143.out.below hb15)
      have TS_145 := hide (TS_143.out.below hb15)
      have IM_145 := hide (IM_143.out.below hb15)
      clear X_143 IA_143 A_143 IB_143 B_143 TR_143 IC_143 C_143 ID_143 D_143 IY_143 Y_143 IZ_143 Z_143 IQ_143 Q_143 M_143 TS_143 IM_143
      clear hb15
      obtain ⟨dc0, dc1, dc2, dc3, dc4, dlt⟩ := D_145.out
      obtain ⟨qc0, qc1, qc2, qc3, qc4, qlt⟩ := Q_145.out
      go_wp2_with fail
      refine (HID.out _ _ _ ID_145.out IQ_145.out).mono ?_
      rintro e w16 ⟨rfl, hb16⟩
      clear dc0 dc1 dc2 dc3 dc4 dlt qc0 qc1 qc2 qc3 qc4 qlt
      have C_146 : Below w.heap.size w w16 := C_144.trans (hb16.mono C_144.size)
      clear C_144
      have X_147 := hide (X_145.out.below hb16)
      have IA_147 := hide (IA_145.out.below hb16)
      have A_147 := hide (A_145.out.below hb16)
      have IB_147 := hide (IB_145.out.below hb16)
      have B_147 := hide (B_145.out.below hb16)
      have TR_147 := hide (TR_145.out.below hb16)
      have IC_147 := hide (IC_145.out.below hb16)
      have C_147 := hide (C_145.out.below hb16)
      have ID_147 := hide (ID_145.out.below hb16)
      have D_147 := hide (D_145.out.below hb16)
      have IY_147 := hide (IY_145.out.below hb16)
      have Y_147 := hide (Y_145.out.below hb16)
      have IZ_147 := hide (IZ_145.out.below hb16)
      have Z_147 := hide (Z_145.out.below hb16)
      have IQ_147 := hide (IQ_145.out.below hb16)
      have Q_147 := hide (Q_145.out.below hb16)
      have M_147 := hide (M_145.out.below hb16)
      have TS_147 := hide (TS_145.out.below hb16)
      have IM_147 := hide (IM_145.out.below hb16)
      clear X_145 IA_145 A_145 IB_145 B_145 TR_145 IC_145 C_145 ID_145 D_145 IY_145 Y_145 IZ_145 Z_145 IQ_145 Q_145 M_145 TS_145 IM_145
      clear hb16
      go_wp2_with fail
      go_ret
      exact ⟨rfl, C_146⟩
  · have h0' : (asI x 2 == 0) = false := by rw [beq_eq_false_iff_ne]; exact h0
    have hTI : trimI x from_ to_ = Itm.none := by rw [trimI, if_neg h0]
    rw [hTI] at HR HT HIC HST
    have hTl : Itm.none.l = [] := rfl
    rw [hTl, List.length_nil] at HR HST
    clear hTI hTl HI HL HX1 HCP HLZ h0
    generalize asI x 2 = E at *
    generalize x.l.length = n1 at *
    generalize pushI x left l = IA at *
    generalize pushN x l = nA at *
    generalize pushE x l = eA at *
    generalize popI x left = IB at *
    generalize popS x left = sB at *
    generalize popE x = eB at *
    generalize remI x s = ID at *
    generalize remN x s = nD at *
    generalize x.k = k at *
    generalize x.t = t at *
    generalize x.p.length = n2 at *
    generalize x.s.length = n3 at *
    go_enter Try.func3, Try.ntmps3
    go_wp2_with fail
    have C_0 : Below w.heap.size w (w.alloc (.cells #[.int .i64 k, .string t, .slice a1 n1 c1, .slice a2 n2 c2, .slice a3 n3 c3] 26)) := (Below.refl _ w).alloc (Nat.le_refl _) _
    have X_1 := hide (BoxAt.new w (.int .i64 k) (.string t) (.slice a1 n1 c1) (.slice a2 n2 c2) (.slice a3 n3 c3) 26)
    refine (HA.out _ C_0).mono ?_
    rintro e w1 ⟨uA, ⟨rfl, iA⟩, hb1⟩
    have C_2 : Below w.heap.size w w1 := C_0.trans (hb1.mono C_0.size)
    clear C_0
    have X_3 := hide (X_1.out.below hb1)
    clear X_1
    clear hb1
    obtain ⟨kA, tA, aA1, nA1, cA1, aA2, nA2, cA2, aA3, nA3, cA3, rfl⟩ := iA.shape
    have IA_4 := hide (iA)
    clear iA
    obtain ⟨xc0, xc1, xc2, xc3, xc4, xlt⟩ := X_3.out
    go_wp2_with fail
    have X_5 := hide (X_3.out.below ((Below.refl _ w1).alloc (Nat.le_refl _) (.cells #[.int .i64 kA, .string tA, .slice aA1 nA1 cA1, .slice aA2 nA2 cA2, .slice aA3 nA3 cA3] 26)))
    clear X_3
    have IA_6 := hide (IA_4.out.below ((Below.refl _ w1).alloc (Nat.le_refl _) (.cells #[.int .i64 kA, .string tA, .slice aA1 nA1 cA1, .slice aA2 nA2 cA2, .slice aA3 nA3 cA3] 26)))
    clear IA_4
    have C_7 : Below w.heap.size w (w1.alloc (.cells #[.int .i64 kA, .string tA, .slice aA1 nA1 cA1, .slice aA2 nA2 cA2, .slice aA3 nA3 cA3] 26)) := C_2.alloc C_2.size (.cells #[.int .i64 kA, .string tA, .slice aA1 nA1 cA1, .slice aA2 nA2 cA2, .slice aA3 nA3 cA3] 26)
    clear C_2
    have A_8 := hide (BoxAt.new w1 (.int .i64 kA) (.string tA) (.slice aA1 nA1 cA1) (.slice aA2 nA2 cA2) (.slice aA3 nA3 cA3) 26)
    refine (HB.out _ C_7).mono ?_
    rintro e w2 ⟨uB, ⟨rfl, iB⟩, hb2⟩
    clear xc0 xc1 xc2 xc3 xc4 xlt
    have C_9 : Below w.heap.size w w2 := C_7.trans (hb2.mono C_7.size)
    clear C_7
    have X_10 := hide (X_5.out.below hb2)
    have IA_10 := hide (IA_6.out.below hb2)
    have A_10 := hide (A_8.out.below hb2)
    clear X_5 IA_6 A_8
    clear hb2
    obtain ⟨kB, tB, aB1, nB1, cB1, aB2, nB2, cB2, aB3, nB3, cB3, rfl⟩ := iB.shape
    have IB_11 := hide (iB)
    clear iB
    obtain ⟨xc0, xc1, xc2, xc3, xc4, xlt⟩ := X_10.out
    go_wp2_with fail
    have X_12 := hide (X_10.out.below ((Below.refl _ w2).alloc (Nat.le_refl _) (.cells #[.int .i64 kB, .string tB, .slice aB1 nB1 cB1, .slice aB2 nB2 cB2, .slice aB3 nB3 cB3] 26)))
    clear X_10
    have IA_13 := hide (IA_10.out.below ((Below.refl _ w2).alloc (Nat.le_refl _) (.cells #[.int .i64 kB, .string tB, .slice aB1 nB1 cB1, .slice aB2 nB2 cB2, .slice aB3 nB3 cB3] 26)))
    clear IA_10
    have A_14 := hide (A_10.out.below ((Below.refl _ w2).alloc (Nat.le_refl _) (.cells #[.int .i64 kB, .string tB, .slice aB1 nB1 cB1, .slice aB2 nB2 cB2, .slice aB3 nB3 cB3] 26)))
    clear A_10
    have IB_15 := hide (IB_11.out.below ((Below.refl _ w2).alloc (Nat.le_refl _) (.cells #[.int .i64 kB, .string tB, .slice aB1 nB1 cB1, .slice aB2 nB2 cB2, .slice aB3 nB3 cB3] 26)))
    clear IB_11
    have C_16 : Below w.heap.size w (w2.alloc (.cells #[.int .i64 kB, .string tB, .slice aB1 nB1 cB1, .slice aB2 nB2 cB2, .slice aB3 nB3 cB3] 26)) := C_9.alloc C_9.size (.cells #[.int .i64 kB, .string tB, .slice aB1 nB1 cB1, .slice aB2 nB2 cB2, .slice aB3 nB3 cB3] 26)
    clear C_9
    have B_17 := hide (BoxAt.new w2 (.int .i64 kB) (.string tB) (.slice aB1 nB1 cB1) (.slice aB2 nB2 cB2) (.slice aB3 nB3 cB3) 26)
    refine (HR.out _ C_16).mono ?_
    rintro e w3 ⟨⟨aR, cR, rfl, iR⟩, hb3⟩
    clear xc0 xc1 xc2 xc3 xc4 xlt
    have C_18 : Below w.heap.size w w3 := C_16.trans (hb3.mono C_16.size)
    clear C_16
    have X_19 := hide (X_12.out.below hb3)
    have IA_19 := hide (IA_13.out.below hb3)
    have A_19 := hide (A_14.out.below hb3)
    have IB_19 := hide (IB_15.out.below hb3)
    have B_19 := hide (B_17.out.below hb3)
    clear X_12 IA_13 A_14 IB_15 B_17
    clear hb3
    have TR_20 := hide (iR)
    clear iR
    obtain ⟨xc0, xc1, xc2, xc3, xc4, xlt⟩ := X_19.out
    go_wp2_with fail
    refine (HT.out _ C_18).mono ?_
    rintro e w4 ⟨uC, ⟨rfl, iC⟩, hb4⟩
    clear xc0 xc1 xc2 xc3 xc4 xlt
    have C_21 : Below w.heap.size w w4 := C_18.trans (hb4.mono C_18.size)
    clear C_18
    have X_22 := hide (X_19.out.below hb4)
    have IA_22 := hide (IA_19.out.below hb4)
    have A_22 := hide (A_19.out.below hb4)
    have IB_22 := hide (IB_19.out.below hb4)
    have B_22 := hide (B_19.out.below hb4)
    have TR_22 := hide (TR_20.out.below hb4)
    clear X_19 IA_19 A_19 IB_19 B_19 TR_20
    clear hb4
    obtain ⟨kC, tC, aC1, nC1, cC1, aC2, nC2, cC2, aC3, nC3, cC3, rfl⟩ := iC.shape
    have IC_23 := hide (iC)
    clear iC
    obtain ⟨xc0, xc1, xc2, xc3, xc4, xlt⟩ := X_22.out
    go_wp2_with fail
    have X_24 := hide (X_22.out.below ((Below.refl _ w4).alloc (Nat.le_refl _) (.cells #[.int .i64 kC, .string tC, .slice aC1 nC1 cC1, .slice aC2 nC2 cC2, .slice aC3 nC3 cC3] 26)))
    clear X_22
    have IA_25 := hide (IA_22.out.below ((Below.refl _ w4).alloc (Nat.le_refl _) (.cells #[.int .i64 kC, .string tC, .slice aC1 nC1 cC1, .slice aC2 nC2 cC2, .slice aC3 nC3 cC3] 26)))
    clear IA_22
    have A_26 := hide (A_22.out.below ((Below.refl _ w4).alloc (Nat.le_refl _) (.cells #[.int .i64 kC, .string tC, .slice aC1 nC1 cC1, .slice aC2 nC2 cC2, .slice aC3 nC3 cC3] 26)))
    clear A_22
    have IB_27 := hide (IB_22.out.below ((Below.refl _ w4).alloc (Nat.le_refl _) (.cells #[.int .i64 kC, .string tC, .slice aC1 nC1 cC1, .slice aC2 nC2 cC2, .slice aC3 nC3 cC3] 26)))
    clear IB_22
    have B_28 := hide (B_22.out.below ((Below.refl _ w4).alloc (Nat.le_refl _) (.cells #[.int .i64 kC, .string tC, .slice aC1 nC1 cC1, .slice aC2 nC2 cC2, .slice aC3 nC3 cC3] 26)))
    clear B_22
    have TR_29 := hide (TR_22.out.below ((Below.refl _ w4).alloc (Nat.le_refl _) (.cells #[.int .i64 kC, .string tC, .slice aC1 nC1 cC1, .slice aC2 nC2 cC2, .slice aC3 nC3 cC3] 26)))
    clear TR_22
    have IC_30 := hide (IC_23.out.below ((Below.refl _ w4).alloc (Nat.le_refl _) (.cells #[.int .i64 kC, .string tC, .slice aC1 nC1 cC1, .slice aC2 nC2 cC2, .slice aC3 nC3 cC3] 26)))
    clear IC_23
    have C_31 : Below w.heap.size w (w4.alloc (.cells #[.int .i64 kC, .string tC, .slice aC1 nC1 cC1, .slice aC2 nC2 cC2, .slice aC3 nC3 cC3] 26)) := C_21.alloc C_21.size (.cells #[.int .i64 kC, .string tC, .slice aC1 nC1 cC1, .slice aC2 nC2 cC2, .slice aC3 nC3 cC3] 26)
    clear C_21
    have C_32 := hide (BoxAt.new w4 (.int .i64 kC) (.string tC) (.slice aC1 nC1 cC1) (.slice aC2 nC2 cC2) (.slice aC3 nC3 cC3) 26)
    refine (HD.out _ C_31).mono ?_
    rintro e w5 ⟨uD, ⟨rfl, iD⟩, hb5⟩
    clear xc0 xc1 xc2 xc3 xc4 xlt
    have C_33 : Below w.heap.size w w5 := C_31.trans (hb5.mono C_31.size)
    clear C_31
    have X_34 := hide (X_24.out.below hb5)
    have IA_34 := hide (IA_25.out.below hb5)
    have A_34 := hide (A_26.out.below hb5)
    have IB_34 := hide (IB_27.out.below hb5)
    have B_34 := hide (B_28.out.below hb5)
    have TR_34 := hide (TR_29.out.below hb5)
    have IC_34 := hide (IC_30.out.below hb5)
    have C_34 := hide (C_32.out.below hb5)
    clear X_24 IA_25 A_26 IB_27 B_28 TR_29 IC_30 C_32
    clear hb5
    obtain ⟨kD, tD, aD1, nD1, cD1, aD2, nD2, cD2, aD3, nD3, cD3, rfl⟩ := iD.shape
    have ID_35 := hide (iD)
    clear iD
    obtain ⟨xc0, xc1, xc2, xc3, xc4, xlt⟩ := X_34.out
    go_wp2_with fail
    have X_36 := hide (X_34.out.below ((Below.refl _ w5).alloc (Nat.le_refl _) (.cells #[.int .i64 kD, .string tD, .slice aD1 nD1 cD1, .slice aD2 nD2 cD2, .slice aD3 nD3 cD3] 26)))
    clear X_34
    have IA_37 := hide (IA_34.out.below ((Below.refl _ w5).alloc (Nat.le_refl _) (.cells #[.int .i64 kD, .string tD, .slice aD1 nD1 cD1, .slice aD2 nD2 cD2, .slice aD3 nD3 cD3] 26)))
    clear IA_34
    have A_38 := hide (A_34.out.below ((Below.refl _ w5).alloc (Nat.le_refl _) (.cells #[.int .i64 kD, .string tD, .slice aD1 nD1 cD1, .slice aD2 nD2 cD2, .slice aD3 nD3 cD3] 26)))
    clear A_34
    have IB_39 := hide (IB_34.out.below ((Below.refl _ w5).alloc (Nat.le_refl _) (.cells #[.int .i64 kD, .string tD, .slice aD1 nD1 cD1, .slice aD2 nD2 cD2, .slice aD3 nD3 cD3] 26)))
    clear IB_34
    have B_40 := hide (B_34.out.below ((Below.refl _ w5).alloc (Nat.le_refl _) (.cells #[.int .i64 kD, .string tD, .slice aD1 nD1 cD1, .slice aD2 nD2 cD2, .slice aD3 nD3 cD3] 26)))
    clear B_34
    have TR_41 := hide (TR_34.out.below ((Below.refl _ w5).alloc (Nat.le_refl _) (.cells #[.int .i64 kD, .string tD, .slice aD1 nD1 cD1, .slice aD2 nD2 cD2, .slice aD3 nD3 cD3] 26)))
    clear TR_34
    have IC_42 := hide (IC_34.out.below ((Below.refl _ w5).alloc (Nat.le_refl _) (.cells #[.int .i64 kD, .string tD, .slice aD1 nD1 cD1, .slice aD2 nD2 cD2, .slice aD3 nD3 cD3] 26)))
    clear IC_34
    have C_43 := hide (C_34.out.below ((Below.refl _ w5).alloc (Nat.le_refl _) (.cells #[.int .i64 kD, .string tD, .slice aD1 nD1 cD1, .slice aD2 nD2 cD2, .slice aD3 nD3 cD3] 26)))
    clear C_34
    have ID_44 := hide (ID_35.out.below ((Below.refl _ w5).alloc (Nat.le_refl _) (.cells #[.int .i64 kD, .string tD, .slice aD1 nD1 cD1, .slice aD2 nD2 cD2, .slice aD3 nD3 cD3] 26)))
    clear ID_35
    have C_45 : Below w.heap.size w (w5.alloc (.cells #[.int .i64 kD, .string tD, .slice aD1 nD1 cD1, .slice aD2 nD2 cD2, .slice aD3 nD3 cD3] 26)) := C_33.alloc C_33.size (.cells #[.int .i64 kD, .string tD, .slice aD1 nD1 cD1, .slice aD2 nD2 cD2, .slice aD3 nD3 cD3] 26)
    clear C_33
    have D_46 := hide (BoxAt.new w5 (.int .i64 kD) (.string tD) (.slice aD1 nD1 cD1) (.slice aD2 nD2 cD2) (.slice aD3 nD3 cD3) 26)
    refine (HAO.out _ C_45).mono ?_
    rintro e w6 ⟨uY, ⟨rfl, iY⟩, hb6⟩
    clear xc0 xc1 xc2 xc3 xc4 xlt
    have C_47 : Below w.heap.size w w6 := C_45.trans (hb6.mono C_45.size)
    clear C_45
    have X_48 := hide (X_36.out.below hb6)
    have IA_48 := hide (IA_37.out.below hb6)
    have A_48 := hide (A_38.out.below hb6)
    have IB_48 := hide (IB_39.out.below hb6)
    have B_48 := hide (B_40.out.below hb6)
    have TR_48 := hide (TR_41.out.below hb6)
    have IC_48 := hide (IC_42.out.below hb6)
    have C_48 := hide (C_43.out.below hb6)
    have ID_48 := hide (ID_44.out.below hb6)
    have D_48 := hide (D_46.out.below hb6)
    clear X_36 IA_37 A_38 IB_39 B_40 TR_41 IC_42 C_43 ID_44 D_46
    clear hb6
    obtain ⟨kY, tY, aY1, nY1, cY1, aY2, nY2, cY2, aY3, nY3, cY3, rfl⟩ := iY.shape
    have IY_49 := hide (iY)
    clear iY
    obtain ⟨xc0, xc1, xc2, xc3, xc4, xlt⟩ := X_48.out
    go_wp2_with fail
    have X_50 := hide (X_48.out.below ((Below.refl _ w6).alloc (Nat.le_refl _) (.cells #[.int .i64 kY, .string tY, .slice aY1 nY1 cY1, .slice aY2 nY2 cY2, .slice aY3 nY3 cY3] 26)))
    clear X_48
    have IA_51 := hide (IA_48.out.below ((Below.refl _ w6).alloc (Nat.le_refl _) (.cells #[.int .i64 kY, .string tY, .slice aY1 nY1 cY1, .slice aY2 nY2 cY2, .slice aY3 nY3 cY3] 26)))
    clear IA_48
    have A_52 := hide (A_48.out.below ((Below.refl _ w6).alloc (Nat.le_refl _) (.cells #[.int .i64 kY, .string tY, .slice aY1 nY1 cY1, .slice aY2 nY2 cY2, .slice aY3 nY3 cY3] 26)))
    clear A_48
    have IB_53 := hide (IB_48.out.below ((Below.refl _ w6).alloc (Nat.le_refl _) (.cells #[.int .i64 kY, .string tY, .slice aY1 nY1 cY1, .slice aY2 nY2 cY2, .slice aY3 nY3 cY3] 26)))
    clear IB_48
    have B_54 := hide (B_48.out.below ((Below.refl _ w6).alloc (Nat.le_refl _) (.cells #[.int .i64 kY, .string tY, .slice aY1 nY1 cY1, .slice aY2 nY2 cY2, .slice aY3 nY3 cY3] 26)))
    clear B_48
    have TR_55 := hide (TR_48.out.below ((Below.refl _ w6).alloc (Nat.le_refl _) (.cells #[.int .i64 kY, .string tY, .slice aY1 nY1 cY1, .slice aY2 nY2 cY2, .slice aY3 nY3 cY3] 26)))
    clear TR_48
    have IC_56 := hide (IC_48.out.below ((Below.refl _ w6).alloc (Nat.le_refl _) (.cells #[.int .i64 kY, .string tY, .slice aY1 nY1 cY1, .slice aY2 nY2 cY2, .slice aY3 nY3 cY3] 26)))
    clear IC_48
    have C_57 := hide (C_48.out.below ((Below.refl _ w6).alloc (Nat.le_refl _) (.cells #[.int .i64 kY, .string tY, .slice aY1 nY1 cY1, .slice aY2 nY2 cY2, .slice aY3 nY3 cY3] 26)))
    clear C_48
    have ID_58 := hide (ID_48.out.below ((Below.refl _ w6).alloc (Nat.le_refl _) (.cells #[.int .i64 kY, .string tY, .slice aY1 nY1 cY1, .slice aY2 nY2 cY2, .slice aY3 nY3 cY3] 26)))
    clear ID_48
    have D_59 := hide (D_48.out.below ((Below.refl _ w6).alloc (Nat.le_refl _) (.cells #[.int .i64 kY, .string tY, .slice aY1 nY1 cY1, .slice aY2 nY2 cY2, .slice aY3 nY3 cY3] 26)))
    clear D_48
    have IY_60 := hide (IY_49.out.below ((Below.refl _ w6).alloc (Nat.le_refl _) (.cells #[.int .i64 kY, .string tY, .slice aY1 nY1 cY1, .slice aY2 nY2 cY2, .slice aY3 nY3 cY3] 26)))
    clear IY_49
    have C_61 : Below w.heap.size w (w6.alloc (.cells #[.int .i64 kY, .string tY, .slice aY1 nY1 cY1, .slice aY2 nY2 cY2, .slice aY3 nY3 cY3] 26)) := C_47.alloc C_47.size (.cells #[.int .i64 kY, .string tY, .slice aY1 nY1 cY1, .slice aY2 nY2 cY2, .slice aY3 nY3 cY3] 26)
    clear C_47
    have Y_62 := hide (BoxAt.new w6 (.int .i64 kY) (.string tY) (.slice aY1 nY1 cY1) (.slice aY2 nY2 cY2) (.slice aY3 nY3 cY3) 26)
    refine (HBO.out _ C_61).mono ?_
    rintro e w7 ⟨uZ, ⟨rfl, iZ⟩, hb7⟩
    clear xc0 xc1 xc2 xc3 xc4 xlt
    have C_63 : Below w.heap.size w w7 := C_61.trans (hb7.mono C_61.size)
    clear C_61
    have X_64 := hide (X_50.out.below hb7)
    have IA_64 := hide (IA_51.out.below hb7)
    have A_64 := hide (A_52.out.below hb7)
    have IB_64 := hide (IB_53.out.below hb7)
    have B_64 := hide (B_54.out.below hb7)
    have TR_64 := hide (TR_55.out.below hb7)
    have IC_64 := hide (IC_56.out.below hb7)
    have C_64 := hide (C_57.out.below hb7)
    have ID_64 := hide (ID_58.out.below hb7)
    have D_64 := hide (D_59.out.below hb7)
    have IY_64 := hide (IY_60.out.below hb7)
    have Y_64 := hide (Y_62.out.below hb7)
    clear X_50 IA_51 A_52 IB_53 B_54 TR_55 IC_56 C_57 ID_58 D_59 IY_60 Y_62
    clear hb7
    obtain ⟨kZ, tZ, aZ1, nZ1, cZ1, aZ2, nZ2, cZ2, aZ3, nZ3, cZ3, rfl⟩ := iZ.shape
    have IZ_65 := hide (iZ)
    clear iZ
    obtain ⟨xc0, xc1, xc2, xc3, xc4, xlt⟩ := X_64.out
    go_wp2_with fail
    have X_66 := hide (X_64.out.below ((Below.refl _ w7).alloc (Nat.le_refl _) (.cells #[.int .i64 kZ, .string tZ, .slice aZ1 nZ1 cZ1, .slice aZ2 nZ2 cZ2, .slice aZ3 nZ3 cZ3] 26)))
    clear X_64
    have IA_67 := hide (IA_64.out.below ((Below.refl _ w7).alloc (Nat.le_refl _) (.cells #[.int .i64 kZ, .string tZ, .slice aZ1 nZ1 cZ1, .slice aZ2 nZ2 cZ2, .slice aZ3 nZ3 cZ3] 26)))
    clear IA_64
    have A_68 := hide (A_64.out.below ((Below.refl _ w7).alloc (Nat.le_refl _) (.cells #[.int .i64 kZ, .string tZ, .slice aZ1 nZ1 cZ1, .slice aZ2 nZ2 cZ2, .slice aZ3 nZ3 cZ3] 26)))
    clear A_64
    have IB_69 := hide (IB_64.out.below ((Below.refl _ w7).alloc (Nat.le_refl _) (.cells #[.int .i64 kZ, .string tZ, .slice aZ1 nZ1 cZ1, .slice aZ2 nZ2 cZ2, .slice aZ3 nZ3 cZ3] 26)))
    clear IB_64
    have B_70 := hide (B_64.out.below ((Below.refl _ w7).alloc (Nat.le_refl _) (.cells #[.int .i64 kZ, .string tZ, .slice aZ1 nZ1 cZ1, .slice aZ2 nZ2 cZ2, .slice aZ3 nZ3 cZ3] 26)))
    clear B_64
    have TR_71 := hide (TR_64.out.below ((Below.refl _ w7).alloc (Nat.le_refl _) (.cells #[.int .i64 kZ, .string tZ, .slice aZ1 nZ1 cZ1, .slice aZ2 nZ2 cZ2, .slice aZ3 nZ3 cZ3] 26)))
    clear TR_64
    have IC_72 := hide (IC_64.out.below ((Below.refl _ w7).alloc (Nat.le_refl _) (.cells #[.int .i64 kZ, .string tZ, .slice aZ1 nZ1 cZ1, .slice aZ2 nZ2 cZ2, .slice aZ3 nZ3 cZ3] 26)))
    clear IC_64
    have C_73 := hide (C_64.out.below ((Below.refl _ w7).alloc (Nat.le_refl _) (.cells #[.int .i64 kZ, .string tZ, .slice aZ1 nZ1 cZ1, .slice aZ2 nZ2 cZ2, .slice aZ3 nZ3 cZ3] 26)))
    clear C_64
    have ID_74 := hide (ID_64.out.below ((Below.refl _ w7).alloc (Nat.le_refl _) (.cells #[.int .i64 kZ, .string tZ, .slice aZ1 nZ1 cZ1, .slice aZ2 nZ2 cZ2, .slice aZ3 nZ3 cZ3] 26)))
    clear ID_64
    have D_75 := hide (D_64.out.below ((Below.refl _ w7).alloc (Nat.le_refl _) (.cells #[.int .i64 kZ, .string tZ, .slice aZ1 nZ1 cZ1, .slice aZ2 nZ2 cZ2, .slice aZ3 nZ3 cZ3] 26)))
    clear D_64
    have IY_76 := hide (IY_64.out.below ((Below.refl _ w7).alloc (Nat.le_refl _) (.cells #[.int .i64 kZ, .string tZ, .slice aZ1 nZ1 cZ1, .slice aZ2 nZ2 cZ2, .slice aZ3 nZ3 cZ3] 26)))
    clear IY_64
    have Y_77 := hide (Y_64.out.below ((Below.refl _ w7).alloc (Nat.le_refl _) (.cells #[.int .i64 kZ, .string tZ, .slice aZ1 nZ1 cZ1, .slice aZ2 nZ2 cZ2, .slice aZ3 nZ3 cZ3] 26)))
    clear Y_64
    have IZ_78 := hide (IZ_65.out.below ((Below.refl _ w7).alloc (Nat.le_refl _) (.cells #[.int .i64 kZ, .string tZ, .slice aZ1 nZ1 cZ1, .slice aZ2 nZ2 cZ2, .slice aZ3 nZ3 cZ3] 26)))
    clear IZ_65
    have C_79 : Below w.heap.size w (w7.alloc (.cells #[.int .i64 kZ, .string tZ, .slice aZ1 nZ1 cZ1, .slice aZ2 nZ2 cZ2, .slice aZ3 nZ3 cZ3] 26)) := C_63.alloc C_63.size (.cells #[.int .i64 kZ, .string tZ, .slice aZ1 nZ1 cZ1, .slice aZ2 nZ2 cZ2, .slice aZ3 nZ3 cZ3] 26)
    clear C_63
    have Z_80 := hide (BoxAt.new w7 (.int .i64 kZ) (.string tZ) (.slice aZ1 nZ1 cZ1) (.slice aZ2 nZ2 cZ2) (.slice aZ3 nZ3 cZ3) 26)
    have X_81 := hide (X_66.out.below ((Below.refl _ (w7.alloc (.cells #[.int .i64 kZ, .string tZ, .slice aZ1 nZ1 cZ1, .slice aZ2 nZ2 cZ2, .slice aZ3 nZ3 cZ3] 26))).alloc (Nat.le_refl _) (.cells #[.string s] 9)))
    clear X_66
    have IA_82 := hide (IA_67.out.below ((Below.refl _ (w7.alloc (.cells #[.int .i64 kZ, .string tZ, .slice aZ1 nZ1 cZ1, .slice aZ2 nZ2 cZ2, .slice aZ3 nZ3 cZ3] 26))).alloc (Nat.le_refl _) (.cells #[.string s] 9)))
    clear IA_67
    have A_83 := hide (A_68.out.below ((Below.refl _ (w7.alloc (.cells #[.int .i64 kZ, .string tZ, .slice aZ1 nZ1 cZ1, .slice aZ2 nZ2 cZ2, .slice aZ3 nZ3 cZ3] 26))).alloc (Nat.le_refl _) (.cells #[.string s] 9)))
    clear A_68
    have IB_84 := hide (IB_69.out.below ((Below.refl _ (w7.alloc (.cells #[.int .i64 kZ, .string tZ, .slice aZ1 nZ1 cZ1, .slice aZ2 nZ2 cZ2, .slice aZ3 nZ3 cZ3] 26))).alloc (Nat.le_refl _) (.cells #[.string s] 9)))
    clear IB_69
    have B_85 := hide (B_70.out.below ((Below.refl _ (w7.alloc (.cells #[.int .i64 kZ, .string tZ, .slice aZ1 nZ1 cZ1, .slice aZ2 nZ2 cZ2, .slice aZ3 nZ3 cZ3] 26))).alloc (Nat.le_refl _) (.cells #[.string s] 9)))
    clear B_70
    have TR_86 := hide (TR_71.out.below ((Below.refl _ (w7.alloc (.cells #[.int .i64 kZ, .string tZ, .slice aZ1 nZ1 cZ1, .slice aZ2 nZ2 cZ2, .slice aZ3 nZ3 cZ3] 26))).alloc (Nat.le_refl _) (.cells #[.string s] 9)))
    clear TR_71
    have IC_87 := hide (IC_72.out.below ((Below.refl _ (w7.alloc (.cells #[.int .i64 kZ, .string tZ, .slice aZ1 nZ1 cZ1, .slice aZ2 nZ2 cZ2, .slice aZ3 nZ3 cZ3] 26))).alloc (Nat.le_refl _) (.cells #[.string s] 9)))
    clear IC_72
    have C_88 := hide (C_73.out.below ((Below.refl _ (w7.alloc (.cells #[.int .i64 kZ, .string tZ, .slice aZ1 nZ1 cZ1, .slice aZ2 nZ2 cZ2, .slice aZ3 nZ3 cZ3] 26))).alloc (Nat.le_refl _) (.cells #[.string s] 9)))
    clear C_73
    have ID_89 := hide (ID_74.out.below ((Below.refl _ (w7.alloc (.cells #[.int .i64 kZ, .string tZ, .slice aZ1 nZ1 cZ1, .slice aZ2 nZ2 cZ2, .slice aZ3 nZ3 cZ3] 26))).alloc (Nat.le_refl _) (.cells #[.string s] 9)))
    clear ID_74
    have D_90 := hide (D_75.out.below ((Below.refl _ (w7.alloc (.cells #[.int .i64 kZ, .string tZ, .slice aZ1 nZ1 cZ1, .slice aZ2 nZ2 cZ2, .slice aZ3 nZ3 cZ3] 26))).alloc (Nat.le_refl _) (.cells #[.string s] 9)))
    clear D_75
    have IY_91 := hide (IY_76.out.below ((Below.refl _ (w7.alloc (.cells #[.int .i64 kZ, .string tZ, .slice aZ1 nZ1 cZ1, .slice aZ2 nZ2 cZ2, .slice aZ3 nZ3 cZ3] 26))).alloc (Nat.le_refl _) (.cells #[.string s] 9)))
    clear IY_76
    have Y_92 := hide (Y_77.out.below ((Below.refl _ (w7.alloc (.cells #[.int .i64 kZ, .string tZ, .slice aZ1 nZ1 cZ1, .slice aZ2 nZ2 cZ2, .slice aZ3 nZ3 cZ3] 26))).alloc (Nat.le_refl _) (.cells #[.string s] 9)))
    clear Y_77
    have IZ_93 := hide (IZ_78.out.below ((Below.refl _ (w7.alloc (.cells #[.int .i64 kZ, .string tZ, .slice aZ1 nZ1 cZ1, .slice aZ2 nZ2 cZ2, .slice aZ3 nZ3 cZ3] 26))).alloc (Nat.le_refl _) (.cells #[.string s] 9)))
    clear IZ_78
    have Z_94 := hide (Z_80.out.below ((Below.refl _ (w7.alloc (.cells #[.int .i64 kZ, .string tZ, .slice aZ1 nZ1 cZ1, .slice aZ2 nZ2 cZ2, .slice aZ3 nZ3 cZ3] 26))).alloc (Nat.le_refl _) (.cells #[.string s] 9)))
    clear Z_80
    have C_95 : Below w.heap.size w ((w7.alloc (.cells #[.int .i64 kZ, .string tZ, .slice aZ1 nZ1 cZ1, .slice aZ2 nZ2 cZ2, .slice aZ3 nZ3 cZ3] 26)).alloc (.cells #[.string s] 9)) := C_79.alloc C_79.size (.cells #[.string s] 9)
    clear C_79
    refine (HDO.out _ _ C_95 (by exact one_texts _ _ _ _ (by simp))).mono ?_
    rintro e w8 ⟨uQ, ⟨rfl, iQ⟩, hb8⟩
    clear xc0 xc1 xc2 xc3 xc4 xlt
    have C_96 : Below w.heap.size w w8 := C_95.trans (hb8.mono C_95.size)
    clear C_95
    have X_97 := hide (X_81.out.below hb8)
    have IA_97 := hide (IA_82.out.below hb8)
    have A_97 := hide (A_83.out.below hb8)
    have IB_97 := hide (IB_84.out.below hb8)
    have B_97 := hide (B_85.out.below hb8)
    have TR_97 := hide (TR_86.out.below hb8)
    have IC_97 := hide (IC_87.out.below hb8)
    have C_97 := hide (C_88.out.below hb8)
    have ID_97 := hide (ID_89.out.below hb8)
    have D_97 := hide (D_90.out.below hb8)
    have IY_97 := hide (IY_91.out.below hb8)
    have Y_97 := hide (Y_92.out.below hb8)
    have IZ_97 := hide (IZ_93.out.below hb8)
    have Z_97 := hide (Z_94.out.below hb8)
    clear X_81 IA_82 A_83 IB_84 B_85 TR_86 IC_87 C_88 ID_89 D_90 IY_91 Y_92 IZ_93 Z_94
    clear hb8
    obtain ⟨kQ, tQ, aQ1, nQ1, cQ1, aQ2, nQ2, cQ2, aQ3, nQ3, cQ3, rfl⟩ := iQ.shape
    have IQ_98 := hide (iQ)
    clear iQ
    obtain ⟨xc0, xc1, xc2, xc3, xc4, xlt⟩ := X_97.out
    go_wp2_with fail
    have X_99 := hide (X_97.out.below ((Below.refl _ w8).alloc (Nat.le_refl _) (.cells #[.int .i64 kQ, .string tQ, .slice aQ1 nQ1 cQ1, .slice aQ2 nQ2 cQ2, .slice aQ3 nQ3 cQ3] 26)))
    clear X_97
    have IA_100 := hide (IA_97.out.below ((Below.refl _ w8).alloc (Nat.le_refl _) (.cells #[.int .i64 kQ, .string tQ, .slice aQ1 nQ1 cQ1, .slice aQ2 nQ2 cQ2, .slice aQ3 nQ3 cQ3] 26)))
    clear IA_97
    have A_101 := hide (A_97.out.below ((Below.refl _ w8).alloc (Nat.le_refl _) (.cells #[.int .i64 kQ, .string tQ, .slice aQ1 nQ1 cQ1, .slice aQ2 nQ2 cQ2, .slice aQ3 nQ3 cQ3] 26)))
    clear A_97
    have IB_102 := hide (IB_97.out.below ((Below.refl _ w8).alloc (Nat.le_refl _) (.cells #[.int .i64 kQ, .string tQ, .slice aQ1 nQ1 cQ1, .slice aQ2 nQ2 cQ2, .slice aQ3 nQ3 cQ3] 26)))
    clear IB_97
    have B_103 := hide (B_97.out.below ((Below.refl _ w8).alloc (Nat.le_refl _) (.cells #[.int .i64 kQ, .string tQ, .slice aQ1 nQ1 cQ1, .slice aQ2 nQ2 cQ2, .slice aQ3 nQ3 cQ3] 26)))
    clear B_97
    have TR_104 := hide (TR_97.out.below ((Below.refl _ w8).alloc (Nat.le_refl _) (.cells #[.int .i64 kQ, .string tQ, .slice aQ1 nQ1 cQ1, .slice aQ2 nQ2 cQ2, .slice aQ3 nQ3 cQ3] 26)))
    clear TR_97
    have IC_105 := hide (IC_97.out.below ((Below.refl _ w8).alloc (Nat.le_refl _) (.cells #[.int .i64 kQ, .string tQ, .slice aQ1 nQ1 cQ1, .slice aQ2 nQ2 cQ2, .slice aQ3 nQ3 cQ3] 26)))
    clear IC_97
    have C_106 := hide (C_97.out.below ((Below.refl _ w8).alloc (Nat.le_refl _) (.cells #[.int .i64 kQ, .string tQ, .slice aQ1 nQ1 cQ1, .slice aQ2 nQ2 cQ2, .slice aQ3 nQ3 cQ3] 26)))
    clear C_97
    have ID_107 := hide (ID_97.out.below ((Below.refl _ w8).alloc (Nat.le_refl _) (.cells #[.int .i64 kQ, .string tQ, .slice aQ1 nQ1 cQ1, .slice aQ2 nQ2 cQ2, .slice aQ3 nQ3 cQ3] 26)))
    clear ID_97
    have D_108 := hide (D_97.out.below ((Below.refl _ w8).alloc (Nat.le_refl _) (.cells #[.int .i64 kQ, .string tQ, .slice aQ1 nQ1 cQ1, .slice aQ2 nQ2 cQ2, .slice aQ3 nQ3 cQ3] 26)))
    clear D_97
    have IY_109 := hide (IY_97.out.below ((Below.refl _ w8).alloc (Nat.le_refl _) (.cells #[.int .i64 kQ, .string tQ, .slice aQ1 nQ1 cQ1, .slice aQ2 nQ2 cQ2, .slice aQ3 nQ3 cQ3] 26)))
    clear IY_97
    have Y_110 := hide (Y_97.out.below ((Below.refl _ w8).alloc (Nat.le_refl _) (.cells #[.int .i64 kQ, .string tQ, .slice aQ1 nQ1 cQ1, .slice aQ2 nQ2 cQ2, .slice aQ3 nQ3 cQ3] 26)))
    clear Y_97
    have IZ_111 := hide (IZ_97.out.below ((Below.refl _ w8).alloc (Nat.le_refl _) (.cells #[.int .i64 kQ, .string tQ, .slice aQ1 nQ1 cQ1, .slice aQ2 nQ2 cQ2, .slice aQ3 nQ3 cQ3] 26)))
    clear IZ_97
    have Z_112 := hide (Z_97.out.below ((Below.refl _ w8).alloc (Nat.le_refl _) (.cells #[.int .i64 kQ, .string tQ, .slice aQ1 nQ1 cQ1, .slice aQ2 nQ2 cQ2, .slice aQ3 nQ3 cQ3] 26)))
    clear Z_97
    have IQ_113 := hide (IQ_98.out.below ((Below.refl _ w8).alloc (Nat.le_refl _) (.cells #[.int .i64 kQ, .string tQ, .slice aQ1 nQ1 cQ1, .slice aQ2 nQ2 cQ2, .slice aQ3 nQ3 cQ3] 26)))
    clear IQ_98
    have C_114 : Below w.heap.size w (w8.alloc (.cells #[.int .i64 kQ, .string tQ, .slice aQ1 nQ1 cQ1, .slice aQ2 nQ2 cQ2, .slice aQ3 nQ3 cQ3] 26)) := C_96.alloc C_96.size (.cells #[.int .i64 kQ, .string tQ, .slice aQ1 nQ1 cQ1, .slice aQ2 nQ2 cQ2, .slice aQ3 nQ3 cQ3] 26)
    clear C_96
    have Q_115 := hide (BoxAt.new w8 (.int .i64 kQ) (.string tQ) (.slice aQ1 nQ1 cQ1) (.slice aQ2 nQ2 cQ2) (.slice aQ3 nQ3 cQ3) 26)
    refine (HC.out _ C_114).mono ?_
    rintro e w9 ⟨rfl, hb9⟩
    clear xc0 xc1 xc2 xc3 xc4 xlt
    have C_116 : Below w.heap.size w w9 := C_114.trans (hb9.mono C_114.size)
    clear C_114
    have X_117 := hide (X_99.out.below hb9)
    have IA_117 := hide (IA_100.out.below hb9)
    have A_117 := hide (A_101.out.below hb9)
    have IB_117 := hide (IB_102.out.below hb9)
    have B_117 := hide (B_103.out.below hb9)
    have TR_117 := hide (TR_104.out.below hb9)
    have IC_117 := hide (IC_105.out.below hb9)
    have C_117 := hide (C_106.out.below hb9)
    have ID_117 := hide (ID_107.out.below hb9)
    have D_117 := hide (D_108.out.below hb9)
    have IY_117 := hide (IY_109.out.below hb9)
    have Y_117 := hide (Y_110.out.below hb9)
    have IZ_117 := hide (IZ_111.out.below hb9)
    have Z_117 := hide (Z_112.out.below hb9)
    have IQ_117 := hide (IQ_113.out.below hb9)
    have Q_117 := hide (Q_115.out.below hb9)
    clear X_99 IA_100 A_101 IB_102 B_103 TR_104 IC_105 C_106 ID_107 D_108 IY_109 Y_110 IZ_111 Z_112 IQ_113 Q_115
    clear hb9
    obtain ⟨xc0, xc1, xc2, xc3, xc4, xlt⟩ := X_117.out
    go_wp2_with fail
    have X_118 := hide (X_117.out.below ((Below.refl _ w9).alloc (Nat.le_refl _) (.cells #[.int .i64 0, .string ⟨#[]⟩, .slice none 0 0, .slice none 0 0, .slice none 0 0] 26)))
    clear X_117
    have IA_119 := hide (IA_117.out.below ((Below.refl _ w9).alloc (Nat.le_refl _) (.cells #[.int .i64 0, .string ⟨#[]⟩, .slice none 0 0, .slice none 0 0, .slice none 0 0] 26)))
    clear IA_117
    have A_120 := hide (A_117.out.below ((Below.refl _ w9).alloc (Nat.le_refl _) (.cells #[.int .i64 0, .string ⟨#[]⟩, .slice none 0 0, .slice none 0 0, .slice none 0 0] 26)))
    clear A_117
    have IB_121 := hide (IB_117.out.below ((Below.refl _ w9).alloc (Nat.le_refl _) (.cells #[.int .i64 0, .string ⟨#[]⟩, .slice none 0 0, .slice none 0 0, .slice none 0 0] 26)))
    clear IB_117
    have B_122 := hide (B_117.out.below ((Below.refl _ w9).alloc (Nat.le_refl _) (.cells #[.int .i64 0, .string ⟨#[]⟩, .slice none 0 0, .slice none 0 0, .slice none 0 0] 26)))
    clear B_117
    have TR_123 := hide (TR_117.out.below ((Below.refl _ w9).alloc (Nat.le_refl _) (.cells #[.int .i64 0, .string ⟨#[]⟩, .slice none 0 0, .slice none 0 0, .slice none 0 0] 26)))
    clear TR_117
    have IC_124 := hide (IC_117.out.below ((Below.refl _ w9).alloc (Nat.le_refl _) (.cells #[.int .i64 0, .string ⟨#[]⟩, .slice none 0 0, .slice none 0 0, .slice none 0 0] 26)))
    clear IC_117
    have C_125 := hide (C_117.out.below ((Below.refl _ w9).alloc (Nat.le_refl _) (.cells #[.int .i64 0, .string ⟨#[]⟩, .slice none 0 0, .slice none 0 0, .slice none 0 0] 26)))
    clear C_117
    have ID_126 := hide (ID_117.out.below ((Below.refl _ w9).alloc (Nat.le_refl _) (.cells #[.int .i64 0, .string ⟨#[]⟩, .slice none 0 0, .slice none 0 0, .slice none 0 0] 26)))
    clear ID_117
    have D_127 := hide (D_117.out.below ((Below.refl _ w9).alloc (Nat.le_refl _) (.cells #[.int .i64 0, .string ⟨#[]⟩, .slice none 0 0, .slice none 0 0, .slice none 0 0] 26)))
    clear D_117
    have IY_128 := hide (IY_117.out.below ((Below.refl _ w9).alloc (Nat.le_refl _) (.cells #[.int .i64 0, .string ⟨#[]⟩, .slice none 0 0, .slice none 0 0, .slice none 0 0] 26)))
    clear IY_117
    have Y_129 := hide (Y_117.out.below ((Below.refl _ w9).alloc (Nat.le_refl _) (.cells #[.int .i64 0, .string ⟨#[]⟩, .slice none 0 0, .slice none 0 0, .slice none 0 0] 26)))
    clear Y_117
    have IZ_130 := hide (IZ_117.out.below ((Below.refl _ w9).alloc (Nat.le_refl _) (.cells #[.int .i64 0, .string ⟨#[]⟩, .slice none 0 0, .slice none 0 0, .slice none 0 0] 26)))
    clear IZ_117
    have Z_131 := hide (Z_117.out.below ((Below.refl _ w9).alloc (Nat.le_refl _) (.cells #[.int .i64 0, .string ⟨#[]⟩, .slice none 0 0, .slice none 0 0, .slice none 0 0] 26)))
    clear Z_117
    have IQ_132 := hide (IQ_117.out.below ((Below.refl _ w9).alloc (Nat.le_refl _) (.cells #[.int .i64 0, .string ⟨#[]⟩, .slice none 0 0, .slice none 0 0, .slice none 0 0] 26)))
    clear IQ_117
    have Q_133 := hide (Q_117.out.below ((Below.refl _ w9).alloc (Nat.le_refl _) (.cells #[.int .i64 0, .string ⟨#[]⟩, .slice none 0 0, .slice none 0 0, .slice none 0 0] 26)))
    clear Q_117
    have C_134 : Below w.heap.size w (w9.alloc (.cells #[.int .i64 0, .string ⟨#[]⟩, .slice none 0 0, .slice none 0 0, .slice none 0 0] 26)) := C_116.alloc C_116.size (.cells #[.int .i64 0, .string ⟨#[]⟩, .slice none 0 0, .slice none 0 0, .slice none 0 0] 26)
    clear C_116
    have M_135 := hide (BoxAt.new w9 (.int .i64 0) (.string ⟨#[]⟩) (.slice none 0 0) (.slice none 0 0) (.slice none 0 0) 26)
    have IM_136 := hide (zero_is (w9.alloc (.cells #[.int .i64 0, .string ⟨#[]⟩, .slice none 0 0, .slice none 0 0, .slice none 0 0] 26)))
    have TS_137 := hide (TextsAt.nil (w9.alloc (.cells #[.int .i64 0, .string ⟨#[]⟩, .slice none 0 0, .slice none 0 0, .slice none 0 0] 26)))
    refine (HG.out _).mono ?_
    rintro e w10 ⟨rfl, hb10⟩
    clear xc0 xc1 xc2 xc3 xc4 xlt
    have C_138 : Below w.heap.size w w10 := C_134.trans (hb10.mono C_134.size)
    clear C_134
    have X_139 := hide (X_118.out.below hb10)
    have IA_139 := hide (IA_119.out.below hb10)
    have A_139 := hide (A_120.out.below hb10)
    have IB_139 := hide (IB_121.out.below hb10)
    have B_139 := hide (B_122.out.below hb10)
    have TR_139 := hide (TR_123.out.below hb10)
    have IC_139 := hide (IC_124.out.below hb10)
    have C_139 := hide (C_125.out.below hb10)
    have ID_139 := hide (ID_126.out.below hb10)
    have D_139 := hide (D_127.out.below hb10)
    have IY_139 := hide (IY_128.out.below hb10)
    have Y_139 := hide (Y_129.out.below hb10)
    have IZ_139 := hide (IZ_130.out.below hb10)
    have Z_139 := hide (Z_131.out.below hb10)
    have IQ_139 := hide (IQ_132.out.below hb10)
    have Q_139 := hide (Q_133.out.below hb10)
    have M_139 := hide (M_135.out.below hb10)
    have IM_139 := hide (IM_136.out.below hb10)
    have TS_139 := hide (TS_137.out.below hb10)
    clear X_118 IA_119 A_120 IB_121 B_122 TR_123 IC_124 C_125 ID_126 D_127 IY_128 Y_129 IZ_130 Z_131 IQ_132 Q_133 M_135 IM_136 TS_137
    clear hb10
    obtain ⟨ac0, ac1, ac2, ac3, ac4, alt⟩ := A_139.out
    obtain ⟨yc0, yc1, yc2, yc3, yc4, ylt⟩ := Y_139.out
    go_wp2_with fail
    refine (HIA.out _ _ _ IA_139.out IY_139.out).mono ?_
    rintro e w11 ⟨rfl, hb11⟩
    clear ac0 ac1 ac2 ac3 ac4 alt yc0 yc1 yc2 yc3 yc4 ylt
    have C_140 : Below w.heap.size w w11 := C_138.trans (hb11.mono C_138.size)
    clear C_138
    have X_141 := hide (X_139.out.below hb11)
    have IA_141 := hide (IA_139.out.below hb11)
    have A_141 := hide (A_139.out.below hb11)
    have IB_141 := hide (IB_139.out.below hb11)
    have B_141 := hide (B_139.out.below hb11)
    have TR_141 := hide (TR_139.out.below hb11)
    have IC_141 := hide (IC_139.out.below hb11)
    have C_141 := hide (C_139.out.below hb11)
    have ID_141 := hide (ID_139.out.below hb11)
    have D_141 := hide (D_139.out.below hb11)
    have IY_141 := hide (IY_139.out.below hb11)
    have Y_141 := hide (Y_139.out.below hb11)
    have IZ_141 := hide (IZ_139.out.below hb11)
    have Z_141 := hide (Z_139.out.below hb11)
    have IQ_141 := hide (IQ_139.out.below hb11)
    have Q_141 := hide (Q_139.out.below hb11)
    have M_141 := hide (M_139.out.below hb11)
    have IM_141 := hide (IM_139.out.below hb11)
    have TS_141 := hide (TS_139.out.below hb11)
    clear X_139 IA_139 A_139 IB_139 B_139 TR_139 IC_139 C_139 ID_139 D_139 IY_139 Y_139 IZ_139 Z_139 IQ_139 Q_139 M_139 IM_139 TS_139
    clear hb11
    obtain ⟨bc0, bc1, bc2, bc3, bc4, blt⟩ := B_141.out
    obtain ⟨zc0, zc1, zc2, zc3, zc4, zlt⟩ := Z_141.out
    go_wp2_with fail
    refine (HIB.out _ _ _ IB_141.out IZ_141.out).mono ?_
    rintro e w12 ⟨rfl, hb12⟩
    clear bc0 bc1 bc2 bc3 bc4 blt zc0 zc1 zc2 zc3 zc4 zlt
    have C_142 : Below w.heap.size w w12 := C_140.trans (hb12.mono C_140.size)
    clear C_140
    have X_143 := hide (X_141.out.below hb12)
    have IA_143 := hide (IA_141.out.below hb12)
    have A_143 := hide (A_141.out.below hb12)
    have IB_143 := hide (IB_141.out.below hb12)
    have B_143 := hide (B_141.out.below hb12)
    have TR_143 := hide (TR_141.out.below hb12)
    have IC_143 := hide (IC_141.out.below hb12)
    have C_143 := hide (C_141.out.below hb12)
    have ID_143 := hide (ID_141.out.below hb12)
    have D_143 := hide (D_141.out.below hb12)
    have IY_143 := hide (IY_141.out.below hb12)
    have Y_143 := hide (Y_141.out.below hb12)
    have IZ_143 := hide (IZ_141.out.below hb12)
    have Z_143 := hide (Z_141.out.below hb12)
    have IQ_143 := hide (IQ_141.out.below hb12)
    have Q_143 := hide (Q_141.out.below hb12)
    have M_143 := hide (M_141.out.below hb12)
    have IM_143 := hide (IM_141.out.below hb12)
    have TS_143 := hide (TS_141.out.below hb12)
    clear X_141 IA_141 A_141 IB_141 B_141 TR_141 IC_141 C_141 ID_141 D_141 IY_141 Y_141 IZ_141 Z_141 IQ_141 Q_141 M_141 IM_141 TS_141
    clear hb12
    go_wp2_with fail
    refine (HST.out _ _ _ _ _ TR_143.out TS_143.out).mono ?_
    rintro e w13 ⟨rfl, hb13⟩
    have C_144 : Below w.heap.size w w13 := C_142.trans (hb13.mono C_142.size)
    clear C_142
    have X_145 := hide (X_143.out.below hb13)
    have IA_145 := hide (IA_143.out.below hb13)
    have A_145 := hide (A_143.out.below hb13)
    have IB_145 := hide (IB_143.out.below hb13)
    have B_145 := hide (B_143.out.below hb13)
    have TR_145 := hide (TR_143.out.below hb13)
    have IC_145 := hide (IC_143.out.below hb13)
    have C_145 := hide (C_143.out.below hb13)
    have ID_145 := hide (ID_143.out.below hb13)
    have D_145 := hide (D_143.out.below hb13)
    have IY_145 := hide (IY_143.out.below hb13)
    have Y_145 := hide (Y_143.out.below hb13)
    have IZ_145 := hide (IZ_143.out.below hb13)
    have Z_145 := hide (Z_143.out.below hb13)
    have IQ_145 := hide (IQ_143.out.below hb13)
    have Q_145 := hide (Q_143.out.below hb13)
    have M_145 := hide (M_143.out.below hb13)
    have IM_145 := hide (IM_143.out.below hb13)
    have TS_145 := hide (TS_143.out.below hb13)
    clear X_143 IA_143 A_143 IB_143 B_143 TR_143 IC_143 C_143 ID_143 D_143 IY_143 Y_143 IZ_143 Z_143 IQ_143 Q_143 M_143 IM_143 TS_143
    clear hb13
    obtain ⟨cc0, cc1, cc2, cc3, cc4, clt⟩ := C_145.out
    obtain ⟨mc0, mc1, mc2, mc3, mc4, mlt⟩ := M_145.out
    go_wp2_with fail
    refine (HIC.out _ _ _ IC_145.out IM_145.out).mono ?_
    rintro e w14 ⟨rfl, hb14⟩
    clear cc0 cc1 cc2 cc3 cc4 clt mc0 mc1 mc2 mc3 mc4 mlt
    have C_146 : Below w.heap.size w w14 := C_144.trans (hb14.mono C_144.size)
    clear C_144
    have X_147 := hide (X_145.out.below hb14)
    have IA_147 := hide (IA_145.out.below hb14)
    have A_147 := hide (A_145.out.below hb14)
    have IB_147 := hide (IB_145.out.below hb14)
    have B_147 := hide (B_145.out.below hb14)
    have TR_147 := hide (TR_145.out.below hb14)
    have IC_147 := hide (IC_145.out.below hb14)
    have C_147 := hide (C_145.out.below hb14)
    have ID_147 := hide (ID_145.out.below hb14)
    have D_147 := hide (D_145.out.below hb14)
    have IY_147 := hide (IY_145.out.below hb14)
    have Y_147 := hide (Y_145.out.below hb14)
    have IZ_147 := hide (IZ_145.out.below hb14)
    have Z_147 := hide (Z_145.out.below hb14)
    have IQ_147 := hide (IQ_145.out.below hb14)
    have Q_147 := hide (Q_145.out.below hb14)
    have M_147 := hide (M_145.out.below hb14)
    have IM_147 := hide (IM_145.out.below hb14)
    have TS_147 := hide (TS_145.out.below hb14)
    clear X_145 IA_145 A_145 IB_145 B_145 TR_145 IC_145 C_145 ID_145 D_145 IY_145 Y_145 IZ_145 Z_145 IQ_145 Q_145 M_145 IM_145 TS_145
    clear hb14
    obtain ⟨dc0, dc1, dc2, dc3, dc4, dlt⟩ := D_147.out
    obtain ⟨qc0, qc1, qc2, qc3, qc4, qlt⟩ := Q_147.out
    go_wp2_with fail
    refine (HID.out _ _ _ ID_147.out IQ_147.out).mono ?_
    rintro e w15 ⟨rfl, hb15⟩
    clear dc0 dc1 dc2 dc3 dc4 dlt qc0 qc1 qc2 qc3 qc4 qlt
    have C_148 : Below w.heap.size w w15 := C_146.trans (hb15.mono C_146.size)
    clear C_146
    have X_149 := hide (X_147.out.below hb15)
    have IA_149 := hide (IA_147.out.below hb15)
    have A_149 := hide (A_147.out.below hb15)
    have IB_149 := hide (IB_147.out.below hb15)
    have B_149 := hide (B_147.out.below hb15)
    have TR_149 := hide (TR_147.out.below hb15)
    have IC_149 := hide (IC_147.out.below hb15)
    have C_149 := hide (C_147.out.below hb15)
    have ID_149 := hide (ID_147.out.below hb15)
    have D_149 := hide (D_147.out.below hb15)
    have IY_149 := hide (IY_147.out.below hb15)
    have Y_149 := hide (Y_147.out.below hb15)
    have IZ_149 := hide (IZ_147.out.below hb15)
    have Z_149 := hide (Z_147.out.below hb15)
    have IQ_149 := hide (IQ_147.out.below hb15)
    have Q_149 := hide (Q_147.out.below hb15)
    have M_149 := hide (M_147.out.below hb15)
    have IM_149 := hide (IM_147.out.below hb15)
    have TS_149 := hide (TS_147.out.below hb15)
    clear X_147 IA_147 A_147 IB_147 B_147 TR_147 IC_147 C_147 ID_147 D_147 IY_147 Y_147 IZ_147 Z_147 IQ_147 Q_147 M_147 IM_147 TS_147
    clear hb15
    go_wp2_with fail
    go_ret
    exact ⟨rfl, C_148⟩
end Go.Proofs.Ytolpmaapdkhigac
