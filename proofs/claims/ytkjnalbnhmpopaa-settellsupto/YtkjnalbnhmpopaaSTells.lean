/- WALK of SetTells. -/
import Derived.Test.YtkjnalbnhmpopaaSBeg
import Derived.Test.YtkjnalbnhmpopaaRSet3
import Derived.Test.YtkjnalbnhmpopaaRIs
import Derived.Handy
namespace Go.Proofs.Ytkjnalbnhmpopaa
open Go.RowKit

def tellsP (p : ByteArray → Nat → Bool) (xs : List Itm) : List ByteArray := if setsF xs = 0 then thoseL p (xs.map Itm.l) else []
def tells1 (xs : List Itm) : List ByteArray := tellsP (askM xs) xs
def tells2 (xs : List Itm) : List ByteArray := tellsP (askJ xs) xs
def tells3 (xs : List Itm) : List ByteArray := tellsP (askL1 xs) xs
theorem tells_len (p : ByteArray → Nat → Bool) (xs : List Itm) (h : (xs.map Itm.l).flatten.length ≤ 281474976710656) : (tellsP p xs).length ≤ 281474976710656 := by
  unfold tellsP
  split
  · have h1 := addT_len [] ((xs.map Itm.l).flatten.filter fun s => p s (cntL (xs.map Itm.l) s))
    have h2 := List.length_filter_le (fun s => p s (cntL (xs.map Itm.l) s)) (xs.map Itm.l).flatten
    unfold thoseL
    simp only [List.length_nil] at h1
    omega
  · simp
set_option maxRecDepth 100000 in
theorem setsOf_none (a : Option Addr) (c : Nat) (op : Int) (w : World) : Calls Try.prog 32 #[.slice a 0 c, .int .i64 op] w fun e w' => ∃ a' cap, e = .returned (.tuple #[.slice a' ([] : List ByteArray).length cap, .int .i64 1]) ∧ (∀ W', (∀ g o u, w.heap.size ≤ g → w'.cell? ⟨g, o, none⟩ = some u → W'.cell? ⟨g, o, none⟩ = some u) → TextsAt W' a' []) ∧ Below w.heap.size w w' := by
  go_enter Try.func32, Try.ntmps32
  go_wp2_with fail
  refine bodyPost_ret (v := .tuple #[.slice none 0 0, .int .i64 1]) (by simp [results, Try.results32, go_sem]) rfl ⟨none, 0, rfl, fun W _ => .inl rfl, Below.refl _ _⟩
theorem setsOf1_any (a : Option Addr) (c : Nat) (xs : List Itm) (w : World) (hx : ItemsAt w a xs) (hxl : xs.length ≤ 1500000) (hsum : (xs.map Itm.l).flatten.length ≤ 1500000) :
    Calls Try.prog 32 #[.slice a xs.length c, .int .i64 1] w fun e w' => ∃ a' cap, e = .returned (.tuple #[.slice a' (tells1 xs).length cap, .int .i64 (setsF xs)]) ∧ (∀ W, (∀ g o u, w.heap.size ≤ g → w'.cell? ⟨g, o, none⟩ = some u → W.cell? ⟨g, o, none⟩ = some u) → TextsAt W a' (tells1 xs)) ∧ Below w.heap.size w w' := by
  by_cases hne : xs = []
  · subst hne
    exact setsOf_none a c 1 w
  · have e : setsF xs = setsE xs := if_neg hne
    refine setsOf1_some a c xs w hx hne hxl hsum (setsF xs) (tells1 xs) ⟨e, ?_⟩
    rw [tells1, tellsP, e, sel1 xs]
theorem setsOf2_any (a : Option Addr) (c : Nat) (xs : List Itm) (w : World) (hx : ItemsAt w a xs) (hxl : xs.length ≤ 1500000) (hsum : (xs.map Itm.l).flatten.length ≤ 1500000) :
    Calls Try.prog 32 #[.slice a xs.length c, .int .i64 2] w fun e w' => ∃ a' cap, e = .returned (.tuple #[.slice a' (tells2 xs).length cap, .int .i64 (setsF xs)]) ∧ (∀ W, (∀ g o u, w.heap.size ≤ g → w'.cell? ⟨g, o, none⟩ = some u → W.cell? ⟨g, o, none⟩ = some u) → TextsAt W a' (tells2 xs)) ∧ Below w.heap.size w w' := by
  by_cases hne : xs = []
  · subst hne
    exact setsOf_none a c 2 w
  · have e : setsF xs = setsE xs := if_neg hne
    refine setsOf2_some a c xs w hx hne hxl hsum (setsF xs) (tells2 xs) ⟨e, ?_⟩
    rw [tells2, tellsP, e, sel2 xs]
theorem setsOf3_any (a : Option Addr) (c : Nat) (xs : List Itm) (w : World) (hx : ItemsAt w a xs) (hxl : xs.length ≤ 1500000) (hsum : (xs.map Itm.l).flatten.length ≤ 1500000) :
    Calls Try.prog 32 #[.slice a xs.length c, .int .i64 3] w fun e w' => ∃ a' cap, e = .returned (.tuple #[.slice a' (tells3 xs).length cap, .int .i64 (setsF xs)]) ∧ (∀ W, (∀ g o u, w.heap.size ≤ g → w'.cell? ⟨g, o, none⟩ = some u → W.cell? ⟨g, o, none⟩ = some u) → TextsAt W a' (tells3 xs)) ∧ Below w.heap.size w w' := by
  by_cases hne : xs = []
  · subst hne
    exact setsOf_none a c 3 w
  · have e : setsF xs = setsE xs := if_neg hne
    refine setsOf3_some a c xs w hx hne hxl hsum (setsF xs) (tells3 xs) ⟨e, ?_⟩
    rw [tells3, tellsP, e, sel3 xs hne]
set_option maxRecDepth 100000 in
set_option maxHeartbeats 16000000 in
theorem setTells_walk (v : Value) (x : Itm) (al : Option Addr) (cl : Nat) (l : List ByteArray) (s : ByteArray) (aa : Option Addr) (ca : Nat) (xs : List Itm) (w : World) (h : ItemIs w v x) (hl : TextsAt w al l) (hlz : ∀ t ∈ l, t.size ≤ maxLen) (hll : l.length ≤ 1500000) (hx : ItemsAt w aa xs) (hxl : xs.length ≤ 1500000) (hsum : (xs.map Itm.l).flatten.length ≤ 1500000) :
    Calls Try.prog 6 #[v, .slice al l.length cl, .string s, .slice aa xs.length ca] w fun e w' => e = .returned (.bool true) ∧ Below w.heap.size w w' := by
  have HI := hide h
  have HL0 := hide hl
  have HX0 := hide hx
  have HLZ := hide hlz
  obtain ⟨⟨a1, c1, a2, c2, a3, c3, rfl, hx1, -, -⟩, -, -, -, -, -, -, -⟩ := h
  have HX1 := hide hx1
  clear hl hx hlz hx1
  have HG := hide setBegun_any
  have HA : Hid (∀ W, Below w.heap.size w W → Calls Try.prog 25 #[.agg #[.int .i64 x.k, .string x.t, .slice a1 x.l.length c1, .slice a2 x.p.length c2, .slice a3 x.s.length c3], .slice al l.length cl] W fun e w' => ∃ u, (e = .returned (.tuple #[u, .int .i64 (addN x l), .int .i64 (addE x l)]) ∧ ItemIs w' u (addI x l)) ∧ Below W.heap.size W w') := fun W hW => (setAdd_any _ x al cl l W (HI.out.below hW) (HL0.out.below hW) HLZ.out hll).mono fun e w' ⟨u, h1, h2, h3⟩ => ⟨u, ⟨h1, h2.is⟩, h3⟩
  have HY : Hid (∀ W, Below w.heap.size w W → Calls Try.prog 31 #[.agg #[.int .i64 x.k, .string x.t, .slice a1 x.l.length c1, .slice a2 x.p.length c2, .slice a3 x.s.length c3], .slice al l.length cl] W fun e w' => ∃ u, (e = .returned (.tuple #[u, .int .i64 (addN x l), .int .i64 (addE x l)]) ∧ ItemIs w' u (addI x l)) ∧ Below W.heap.size W w') := fun W hW => (addSet_any _ x al cl l W (HI.out.below hW) (HL0.out.below hW) HLZ.out hll).mono fun e w' ⟨u, h1, h2, h3⟩ => ⟨u, ⟨h1, h2.is⟩, h3⟩
  have HB : Hid (∀ W, Below w.heap.size w W → Calls Try.prog 26 #[.agg #[.int .i64 x.k, .string x.t, .slice a1 x.l.length c1, .slice a2 x.p.length c2, .slice a3 x.s.length c3], .slice al l.length cl] W fun e w' => ∃ u, (e = .returned (.tuple #[u, .int .i64 (remofN x 3 l), .int .i64 (asI x 3)]) ∧ ItemIs w' u (remofI x 3 l)) ∧ Below W.heap.size W w') := fun W hW => (setRemove_any _ x al cl l W (HI.out.below hW) (HL0.out.below hW) (by omega)).mono fun e w' ⟨u, h1, h2, h3⟩ => ⟨u, ⟨h1, h2.is⟩, h3⟩
  have HZ : Hid (∀ W, Below w.heap.size w W → Calls Try.prog 18 #[.agg #[.int .i64 x.k, .string x.t, .slice a1 x.l.length c1, .slice a2 x.p.length c2, .slice a3 x.s.length c3], .int .i64 3, .slice al l.length cl] W fun e w' => ∃ u, (e = .returned (.tuple #[u, .int .i64 (remofN x 3 l), .int .i64 (asI x 3)]) ∧ ItemIs w' u (remofI x 3 l)) ∧ Below W.heap.size W w') := fun W hW => (removeOf_any _ x 3 al cl l W (HI.out.below hW) (HL0.out.below hW) (by omega) (fun h => (asI_set h).2.1)).mono fun e w' ⟨u, h1, h2, h3⟩ => ⟨u, ⟨h1, h2.is⟩, h3⟩
  have HH : Hid (∀ W, Below w.heap.size w W → Calls Try.prog 27 #[.agg #[.int .i64 x.k, .string x.t, .slice a1 x.l.length c1, .slice a2 x.p.length c2, .slice a3 x.s.length c3], .string s] W fun e w' => e = .returned (.tuple #[.bool (hasE x s), .int .i64 (asI x 3)]) ∧ Below W.heap.size W w') := fun W hW => has_any _ x s W (HI.out.below hW)
  have HC : Hid (∀ W, Below w.heap.size w W → Calls Try.prog 19 #[.agg #[.int .i64 x.k, .string x.t, .slice a1 x.l.length c1, .slice a2 x.p.length c2, .slice a3 x.s.length c3], .int .i64 3] W fun e w' => e = .returned (.int .i64 (asI x 3)) ∧ Below W.heap.size W w') := fun W hW => refAs_any _ x 3 W (HI.out.below hW)
  have HM : Hid (∀ W, Below w.heap.size w W → Calls Try.prog 28 #[.slice aa xs.length ca] W fun e w' => (∃ a c, e = .returned (.tuple #[.slice a (tells1 xs).length c, .int .i64 (setsF xs)]) ∧ TextsAt w' a (tells1 xs)) ∧ Below W.heap.size W w') := fun W hW => (meet_any aa ca xs W (HX0.out.below hW) hxl hsum (setsF xs) (tells1 xs) ⟨rfl, rfl⟩).mono fun e w' ⟨a, c, h1, h2, h3⟩ => ⟨⟨a, c, h1, h2 w' (fun _ _ _ _ h => h)⟩, h3⟩
  have HJ : Hid (∀ W, Below w.heap.size w W → Calls Try.prog 29 #[.slice aa xs.length ca] W fun e w' => (∃ a c, e = .returned (.tuple #[.slice a (tells2 xs).length c, .int .i64 (setsF xs)]) ∧ TextsAt w' a (tells2 xs)) ∧ Below W.heap.size W w') := fun W hW => (joinS_any aa ca xs W (HX0.out.below hW) hxl hsum (setsF xs) (tells2 xs) ⟨rfl, rfl⟩).mono fun e w' ⟨a, c, h1, h2, h3⟩ => ⟨⟨a, c, h1, h2 w' (fun _ _ _ _ h => h)⟩, h3⟩
  have HL : Hid (∀ W, Below w.heap.size w W → Calls Try.prog 30 #[.slice aa xs.length ca] W fun e w' => (∃ a c, e = .returned (.tuple #[.slice a (tells3 xs).length c, .int .i64 (setsF xs)]) ∧ TextsAt w' a (tells3 xs)) ∧ Below W.heap.size W w') := fun W hW => (lessS_any aa ca xs W (HX0.out.below hW) hxl hsum (setsF xs) (tells3 xs) ⟨rfl, rfl⟩).mono fun e w' ⟨a, c, h1, h2, h3⟩ => ⟨⟨a, c, h1, h2 w' (fun _ _ _ _ h => h)⟩, h3⟩
  have HS1 : Hid (∀ W, Below w.heap.size w W → Calls Try.prog 32 #[.slice aa xs.length ca, .int .i64 1] W fun e w' => (∃ a c, e = .returned (.tuple #[.slice a (tells1 xs).length c, .int .i64 (setsF xs)]) ∧ TextsAt w' a (tells1 xs)) ∧ Below W.heap.size W w') := fun W hW => (setsOf1_any aa ca xs W (HX0.out.below hW) hxl hsum).mono fun e w' ⟨a, c, h1, h2, h3⟩ => ⟨⟨a, c, h1, h2 w' (fun _ _ _ _ h => h)⟩, h3⟩
  have HS2 : Hid (∀ W, Below w.heap.size w W → Calls Try.prog 32 #[.slice aa xs.length ca, .int .i64 2] W fun e w' => (∃ a c, e = .returned (.tuple #[.slice a (tells2 xs).length c, .int .i64 (setsF xs)]) ∧ TextsAt w' a (tells2 xs)) ∧ Below W.heap.size W w') := fun W hW => (setsOf2_any aa ca xs W (HX0.out.below hW) hxl hsum).mono fun e w' ⟨a, c, h1, h2, h3⟩ => ⟨⟨a, c, h1, h2 w' (fun _ _ _ _ h => h)⟩, h3⟩
  have HS3 : Hid (∀ W, Below w.heap.size w W → Calls Try.prog 32 #[.slice aa xs.length ca, .int .i64 3] W fun e w' => (∃ a c, e = .returned (.tuple #[.slice a (tells3 xs).length c, .int .i64 (setsF xs)]) ∧ TextsAt w' a (tells3 xs)) ∧ Below W.heap.size W w') := fun W hW => (setsOf3_any aa ca xs W (HX0.out.below hW) hxl hsum).mono fun e w' ⟨a, c, h1, h2, h3⟩ => ⟨⟨a, c, h1, h2 w' (fun _ _ _ _ h => h)⟩, h3⟩
  have HIA : Hid (∀ v u W, ItemIs W v (addI x l) → ItemIs W u (addI x l) → Calls Try.prog 23 #[v, .int .i64 (addN x l), .int .i64 (addE x l), .int .i64 (addE x l), u, .int .i64 (addN x l)] W fun e w' => e = .returned (.bool true) ∧ Below W.heap.size W w') := fun v u W h1 h2 => itemIs_any v u _ _ _ W h1 h2 (fun h => ⟨by rw [addI, if_neg h], by rw [addN, if_neg h]⟩)
  have HIB : Hid (∀ v u W, ItemIs W v (remofI x 3 l) → ItemIs W u (remofI x 3 l) → Calls Try.prog 23 #[v, .int .i64 (remofN x 3 l), .int .i64 (asI x 3), .int .i64 (asI x 3), u, .int .i64 (remofN x 3 l)] W fun e w' => e = .returned (.bool true) ∧ Below W.heap.size W w') := fun v u W h1 h2 => itemIs_any v u _ _ _ W h1 h2 (fun h => ⟨by rw [remofI, if_neg h], by rw [remofN, if_neg h]⟩)
  have HTM : Hid (∀ a b c d W, TextsAt W a (tells1 xs) → TextsAt W b (tells1 xs) → Calls Try.prog 24 #[.slice a (tells1 xs).length c, .slice b (tells1 xs).length d] W fun e w' => e = .returned (.bool true) ∧ Below W.heap.size W w') := fun a b c d W h1 h2 => by
    have hh := sameT_any a b c d _ _ W h1 h2 (tells_len _ _ (by omega))
    rw [decide_eq_true rfl] at hh
    exact hh
  have HTJ : Hid (∀ a b c d W, TextsAt W a (tells2 xs) → TextsAt W b (tells2 xs) → Calls Try.prog 24 #[.slice a (tells2 xs).length c, .slice b (tells2 xs).length d] W fun e w' => e = .returned (.bool true) ∧ Below W.heap.size W w') := fun a b c d W h1 h2 => by
    have hh := sameT_any a b c d _ _ W h1 h2 (tells_len _ _ (by omega))
    rw [decide_eq_true rfl] at hh
    exact hh
  have HTL : Hid (∀ a b c d W, TextsAt W a (tells3 xs) → TextsAt W b (tells3 xs) → Calls Try.prog 24 #[.slice a (tells3 xs).length c, .slice b (tells3 xs).length d] W fun e w' => e = .returned (.bool true) ∧ Below W.heap.size W w') := fun a b c d W h1 h2 => by
    have hh := sameT_any a b c d _ _ W h1 h2 (tells_len _ _ (by omega))
    rw [decide_eq_true rfl] at hh
    exact hh
  generalize tells1 xs = T1 at *
  generalize tells2 xs = T2 at *
  generalize tells3 xs = T3 at *
  generalize setsF xs = SF at *
  generalize addI x l = AI at *
  generalize addN x l = NA at *
  generalize addE x l = EA at *
  generalize remofI x 3 l = CI at *
  generalize remofN x 3 l = NC at *
  by_cases h0 : asI x 3 = 0
  · have HHE : Hid (hasT x.l s = hasE x s) := by rw [Hid, hasE, if_pos h0]
    have hL24 := (asI_set h0).2.1
    rw [h0] at HB HZ HH HC HIB
    clear h0 HI HL0 HX0 HLZ hsum hxl hll
    generalize hasE x s = RS at *
    generalize x.l = LL at *
    generalize x.k = k at *
    generalize x.t = t at *
    generalize x.p.length = n2 at *
    generalize x.s.length = n3 at *
    go_enter Try.func6, Try.ntmps6
    go_wp2_with fail
    have C_0 : Below w.heap.size w (w.alloc (.cells #[.int .i64 k, .string t, .slice a1 LL.length c1, .slice a2 n2 c2, .slice a3 n3 c3] 32)) := (Below.refl _ w).alloc (Nat.le_refl _) _
    have X_1 := hide (BoxAt.new w (.int .i64 k) (.string t) (.slice a1 LL.length c1) (.slice a2 n2 c2) (.slice a3 n3 c3) 32)
    refine (HA.out _ C_0).mono ?_
    rintro e w1 ⟨uA, ⟨rfl, iA⟩, hb1⟩
    have C_2 : Below w.heap.size w w1 := C_0.trans (hb1.mono C_0.size)
    clear C_0
    have X_3 := hide (X_1.out.below hb1)
    clear X_1
    clear hb1
    obtain ⟨kA, tA, aA1, nA1, cA1, aA2, nA2, cA2, aA3, nA3, cA3, rfl⟩ := iA.shapeS
    have IA_4 := hide (iA)
    clear iA
    obtain ⟨xc0, xc1, xc2, xc3, xc4, xlt⟩ := X_3.out
    go_wp2_with fail
    have X_5 := hide (X_3.out.below ((Below.refl _ w1).alloc (Nat.le_refl _) (.cells #[.int .i64 kA, .string tA, .slice aA1 nA1 cA1, .slice aA2 nA2 cA2, .slice aA3 nA3 cA3] 32)))
    clear X_3
    have IA_6 := hide (IA_4.out.below ((Below.refl _ w1).alloc (Nat.le_refl _) (.cells #[.int .i64 kA, .string tA, .slice aA1 nA1 cA1, .slice aA2 nA2 cA2, .slice aA3 nA3 cA3] 32)))
    clear IA_4
    have C_7 : Below w.heap.size w (w1.alloc (.cells #[.int .i64 kA, .string tA, .slice aA1 nA1 cA1, .slice aA2 nA2 cA2, .slice aA3 nA3 cA3] 32)) := C_2.alloc C_2.size (.cells #[.int .i64 kA, .string tA, .slice aA1 nA1 cA1, .slice aA2 nA2 cA2, .slice aA3 nA3 cA3] 32)
    clear C_2
    have A_8 := hide (BoxAt.new w1 (.int .i64 kA) (.string tA) (.slice aA1 nA1 cA1) (.slice aA2 nA2 cA2) (.slice aA3 nA3 cA3) 32)
    clear xc0 xc1 xc2 xc3 xc4 xlt
    refine (HB.out _ C_7).mono ?_
    rintro e w2 ⟨uB, ⟨rfl, iB⟩, hb2⟩
    have C_9 : Below w.heap.size w w2 := C_7.trans (hb2.mono C_7.size)
    clear C_7
    have X_10 := hide (X_5.out.below hb2)
    have IA_10 := hide (IA_6.out.below hb2)
    have A_10 := hide (A_8.out.below hb2)
    clear X_5 IA_6 A_8
    clear hb2
    obtain ⟨kB, tB, aB1, nB1, cB1, aB2, nB2, cB2, aB3, nB3, cB3, rfl⟩ := iB.shapeS
    have IB_11 := hide (iB)
    clear iB
    obtain ⟨xc0, xc1, xc2, xc3, xc4, xlt⟩ := X_10.out
    go_wp2_with fail
    have X_12 := hide (X_10.out.below ((Below.refl _ w2).alloc (Nat.le_refl _) (.cells #[.int .i64 kB, .string tB, .slice aB1 nB1 cB1, .slice aB2 nB2 cB2, .slice aB3 nB3 cB3] 32)))
    clear X_10
    have IA_13 := hide (IA_10.out.below ((Below.refl _ w2).alloc (Nat.le_refl _) (.cells #[.int .i64 kB, .string tB, .slice aB1 nB1 cB1, .slice aB2 nB2 cB2, .slice aB3 nB3 cB3] 32)))
    clear IA_10
    have A_14 := hide (A_10.out.below ((Below.refl _ w2).alloc (Nat.le_refl _) (.cells #[.int .i64 kB, .string tB, .slice aB1 nB1 cB1, .slice aB2 nB2 cB2, .slice aB3 nB3 cB3] 32)))
    clear A_10
    have IB_15 := hide (IB_11.out.below ((Below.refl _ w2).alloc (Nat.le_refl _) (.cells #[.int .i64 kB, .string tB, .slice aB1 nB1 cB1, .slice aB2 nB2 cB2, .slice aB3 nB3 cB3] 32)))
    clear IB_11
    have C_16 : Below w.heap.size w (w2.alloc (.cells #[.int .i64 kB, .string tB, .slice aB1 nB1 cB1, .slice aB2 nB2 cB2, .slice aB3 nB3 cB3] 32)) := C_9.alloc C_9.size (.cells #[.int .i64 kB, .string tB, .slice aB1 nB1 cB1, .slice aB2 nB2 cB2, .slice aB3 nB3 cB3] 32)
    clear C_9
    have B_17 := hide (BoxAt.new w2 (.int .i64 kB) (.string tB) (.slice aB1 nB1 cB1) (.slice aB2 nB2 cB2) (.slice aB3 nB3 cB3) 32)
    clear xc0 xc1 xc2 xc3 xc4 xlt
    refine (HH.out _ C_16).mono ?_
    rintro e w3 ⟨rfl, hb3⟩
    have C_18 : Below w.heap.size w w3 := C_16.trans (hb3.mono C_16.size)
    clear C_16
    have X_19 := hide (X_12.out.below hb3)
    have IA_19 := hide (IA_13.out.below hb3)
    have A_19 := hide (A_14.out.below hb3)
    have IB_19 := hide (IB_15.out.below hb3)
    have B_19 := hide (B_17.out.below hb3)
    clear X_12 IA_13 A_14 IB_15 B_17
    clear hb3
    go_wp2_with fail
    refine (HM.out _ C_18).mono ?_
    rintro e w4 ⟨⟨aM, cM, rfl, iM⟩, hb4⟩
    have C_20 : Below w.heap.size w w4 := C_18.trans (hb4.mono C_18.size)
    clear C_18
    have X_21 := hide (X_19.out.below hb4)
    have IA_21 := hide (IA_19.out.below hb4)
    have A_21 := hide (A_19.out.below hb4)
    have IB_21 := hide (IB_19.out.below hb4)
    have B_21 := hide (B_19.out.below hb4)
    clear X_19 IA_19 A_19 IB_19 B_19
    clear hb4
    have TM_22 := hide (iM)
    clear iM
    go_wp2_with fail
    refine (HJ.out _ C_20).mono ?_
    rintro e w5 ⟨⟨aJ, cJ, rfl, iJ⟩, hb5⟩
    have C_23 : Below w.heap.size w w5 := C_20.trans (hb5.mono C_20.size)
    clear C_20
    have X_24 := hide (X_21.out.below hb5)
    have IA_24 := hide (IA_21.out.below hb5)
    have A_24 := hide (A_21.out.below hb5)
    have IB_24 := hide (IB_21.out.below hb5)
    have B_24 := hide (B_21.out.below hb5)
    have TM_24 := hide (TM_22.out.below hb5)
    clear X_21 IA_21 A_21 IB_21 B_21 TM_22
    clear hb5
    have TJ_25 := hide (iJ)
    clear iJ
    go_wp2_with fail
    refine (HL.out _ C_23).mono ?_
    rintro e w6 ⟨⟨aL, cL, rfl, iL⟩, hb6⟩
    have C_26 : Below w.heap.size w w6 := C_23.trans (hb6.mono C_23.size)
    clear C_23
    have X_27 := hide (X_24.out.below hb6)
    have IA_27 := hide (IA_24.out.below hb6)
    have A_27 := hide (A_24.out.below hb6)
    have IB_27 := hide (IB_24.out.below hb6)
    have B_27 := hide (B_24.out.below hb6)
    have TM_27 := hide (TM_24.out.below hb6)
    have TJ_27 := hide (TJ_25.out.below hb6)
    clear X_24 IA_24 A_24 IB_24 B_24 TM_24 TJ_25
    clear hb6
    have TL_28 := hide (iL)
    clear iL
    obtain ⟨xc0, xc1, xc2, xc3, xc4, xlt⟩ := X_27.out
    go_wp2_with fail
    clear xc0 xc1 xc2 xc3 xc4 xlt
    refine (HY.out _ C_26).mono ?_
    rintro e w7 ⟨uY, ⟨rfl, iY⟩, hb7⟩
    have C_29 : Below w.heap.size w w7 := C_26.trans (hb7.mono C_26.size)
    clear C_26
    have X_30 := hide (X_27.out.below hb7)
    have IA_30 := hide (IA_27.out.below hb7)
    have A_30 := hide (A_27.out.below hb7)
    have IB_30 := hide (IB_27.out.below hb7)
    have B_30 := hide (B_27.out.below hb7)
    have TM_30 := hide (TM_27.out.below hb7)
    have TJ_30 := hide (TJ_27.out.below hb7)
    have TL_30 := hide (TL_28.out.below hb7)
    clear X_27 IA_27 A_27 IB_27 B_27 TM_27 TJ_27 TL_28
    clear hb7
    obtain ⟨kY, tY, aY1, nY1, cY1, aY2, nY2, cY2, aY3, nY3, cY3, rfl⟩ := iY.shapeS
    have IY_31 := hide (iY)
    clear iY
    obtain ⟨xc0, xc1, xc2, xc3, xc4, xlt⟩ := X_30.out
    go_wp2_with fail
    have X_32 := hide (X_30.out.below ((Below.refl _ w7).alloc (Nat.le_refl _) (.cells #[.int .i64 kY, .string tY, .slice aY1 nY1 cY1, .slice aY2 nY2 cY2, .slice aY3 nY3 cY3] 32)))
    clear X_30
    have IA_33 := hide (IA_30.out.below ((Below.refl _ w7).alloc (Nat.le_refl _) (.cells #[.int .i64 kY, .string tY, .slice aY1 nY1 cY1, .slice aY2 nY2 cY2, .slice aY3 nY3 cY3] 32)))
    clear IA_30
    have A_34 := hide (A_30.out.below ((Below.refl _ w7).alloc (Nat.le_refl _) (.cells #[.int .i64 kY, .string tY, .slice aY1 nY1 cY1, .slice aY2 nY2 cY2, .slice aY3 nY3 cY3] 32)))
    clear A_30
    have IB_35 := hide (IB_30.out.below ((Below.refl _ w7).alloc (Nat.le_refl _) (.cells #[.int .i64 kY, .string tY, .slice aY1 nY1 cY1, .slice aY2 nY2 cY2, .slice aY3 nY3 cY3] 32)))
    clear IB_30
    have B_36 := hide (B_30.out.below ((Below.refl _ w7).alloc (Nat.le_refl _) (.cells #[.int .i64 kY, .string tY, .slice aY1 nY1 cY1, .slice aY2 nY2 cY2, .slice aY3 nY3 cY3] 32)))
    clear B_30
    have TM_37 := hide (TM_30.out.below ((Below.refl _ w7).alloc (Nat.le_refl _) (.cells #[.int .i64 kY, .string tY, .slice aY1 nY1 cY1, .slice aY2 nY2 cY2, .slice aY3 nY3 cY3] 32)))
    clear TM_30
    have TJ_38 := hide (TJ_30.out.below ((Below.refl _ w7).alloc (Nat.le_refl _) (.cells #[.int .i64 kY, .string tY, .slice aY1 nY1 cY1, .slice aY2 nY2 cY2, .slice aY3 nY3 cY3] 32)))
    clear TJ_30
    have TL_39 := hide (TL_30.out.below ((Below.refl _ w7).alloc (Nat.le_refl _) (.cells #[.int .i64 kY, .string tY, .slice aY1 nY1 cY1, .slice aY2 nY2 cY2, .slice aY3 nY3 cY3] 32)))
    clear TL_30
    have IY_40 := hide (IY_31.out.below ((Below.refl _ w7).alloc (Nat.le_refl _) (.cells #[.int .i64 kY, .string tY, .slice aY1 nY1 cY1, .slice aY2 nY2 cY2, .slice aY3 nY3 cY3] 32)))
    clear IY_31
    have C_41 : Below w.heap.size w (w7.alloc (.cells #[.int .i64 kY, .string tY, .slice aY1 nY1 cY1, .slice aY2 nY2 cY2, .slice aY3 nY3 cY3] 32)) := C_29.alloc C_29.size (.cells #[.int .i64 kY, .string tY, .slice aY1 nY1 cY1, .slice aY2 nY2 cY2, .slice aY3 nY3 cY3] 32)
    clear C_29
    have Y_42 := hide (BoxAt.new w7 (.int .i64 kY) (.string tY) (.slice aY1 nY1 cY1) (.slice aY2 nY2 cY2) (.slice aY3 nY3 cY3) 32)
    clear xc0 xc1 xc2 xc3 xc4 xlt
    refine (HZ.out _ C_41).mono ?_
    rintro e w8 ⟨uZ, ⟨rfl, iZ⟩, hb8⟩
    have C_43 : Below w.heap.size w w8 := C_41.trans (hb8.mono C_41.size)
    clear C_41
    have X_44 := hide (X_32.out.below hb8)
    have IA_44 := hide (IA_33.out.below hb8)
    have A_44 := hide (A_34.out.below hb8)
    have IB_44 := hide (IB_35.out.below hb8)
    have B_44 := hide (B_36.out.below hb8)
    have TM_44 := hide (TM_37.out.below hb8)
    have TJ_44 := hide (TJ_38.out.below hb8)
    have TL_44 := hide (TL_39.out.below hb8)
    have IY_44 := hide (IY_40.out.below hb8)
    have Y_44 := hide (Y_42.out.below hb8)
    clear X_32 IA_33 A_34 IB_35 B_36 TM_37 TJ_38 TL_39 IY_40 Y_42
    clear hb8
    obtain ⟨kZ, tZ, aZ1, nZ1, cZ1, aZ2, nZ2, cZ2, aZ3, nZ3, cZ3, rfl⟩ := iZ.shapeS
    have IZ_45 := hide (iZ)
    clear iZ
    obtain ⟨xc0, xc1, xc2, xc3, xc4, xlt⟩ := X_44.out
    go_wp2_with fail
    have X_46 := hide (X_44.out.below ((Below.refl _ w8).alloc (Nat.le_refl _) (.cells #[.int .i64 kZ, .string tZ, .slice aZ1 nZ1 cZ1, .slice aZ2 nZ2 cZ2, .slice aZ3 nZ3 cZ3] 32)))
    clear X_44
    have IA_47 := hide (IA_44.out.below ((Below.refl _ w8).alloc (Nat.le_refl _) (.cells #[.int .i64 kZ, .string tZ, .slice aZ1 nZ1 cZ1, .slice aZ2 nZ2 cZ2, .slice aZ3 nZ3 cZ3] 32)))
    clear IA_44
    have A_48 := hide (A_44.out.below ((Below.refl _ w8).alloc (Nat.le_refl _) (.cells #[.int .i64 kZ, .string tZ, .slice aZ1 nZ1 cZ1, .slice aZ2 nZ2 cZ2, .slice aZ3 nZ3 cZ3] 32)))
    clear A_44
    have IB_49 := hide (IB_44.out.below ((Below.refl _ w8).alloc (Nat.le_refl _) (.cells #[.int .i64 kZ, .string tZ, .slice aZ1 nZ1 cZ1, .slice aZ2 nZ2 cZ2, .slice aZ3 nZ3 cZ3] 32)))
    clear IB_44
    have B_50 := hide (B_44.out.below ((Below.refl _ w8).alloc (Nat.le_refl _) (.cells #[.int .i64 kZ, .string tZ, .slice aZ1 nZ1 cZ1, .slice aZ2 nZ2 cZ2, .slice aZ3 nZ3 cZ3] 32)))
    clear B_44
    have TM_51 := hide (TM_44.out.below ((Below.refl _ w8).alloc (Nat.le_refl _) (.cells #[.int .i64 kZ, .string tZ, .slice aZ1 nZ1 cZ1, .slice aZ2 nZ2 cZ2, .slice aZ3 nZ3 cZ3] 32)))
    clear TM_44
    have TJ_52 := hide (TJ_44.out.below ((Below.refl _ w8).alloc (Nat.le_refl _) (.cells #[.int .i64 kZ, .string tZ, .slice aZ1 nZ1 cZ1, .slice aZ2 nZ2 cZ2, .slice aZ3 nZ3 cZ3] 32)))
    clear TJ_44
    have TL_53 := hide (TL_44.out.below ((Below.refl _ w8).alloc (Nat.le_refl _) (.cells #[.int .i64 kZ, .string tZ, .slice aZ1 nZ1 cZ1, .slice aZ2 nZ2 cZ2, .slice aZ3 nZ3 cZ3] 32)))
    clear TL_44
    have IY_54 := hide (IY_44.out.below ((Below.refl _ w8).alloc (Nat.le_refl _) (.cells #[.int .i64 kZ, .string tZ, .slice aZ1 nZ1 cZ1, .slice aZ2 nZ2 cZ2, .slice aZ3 nZ3 cZ3] 32)))
    clear IY_44
    have Y_55 := hide (Y_44.out.below ((Below.refl _ w8).alloc (Nat.le_refl _) (.cells #[.int .i64 kZ, .string tZ, .slice aZ1 nZ1 cZ1, .slice aZ2 nZ2 cZ2, .slice aZ3 nZ3 cZ3] 32)))
    clear Y_44
    have IZ_56 := hide (IZ_45.out.below ((Below.refl _ w8).alloc (Nat.le_refl _) (.cells #[.int .i64 kZ, .string tZ, .slice aZ1 nZ1 cZ1, .slice aZ2 nZ2 cZ2, .slice aZ3 nZ3 cZ3] 32)))
    clear IZ_45
    have C_57 : Below w.heap.size w (w8.alloc (.cells #[.int .i64 kZ, .string tZ, .slice aZ1 nZ1 cZ1, .slice aZ2 nZ2 cZ2, .slice aZ3 nZ3 cZ3] 32)) := C_43.alloc C_43.size (.cells #[.int .i64 kZ, .string tZ, .slice aZ1 nZ1 cZ1, .slice aZ2 nZ2 cZ2, .slice aZ3 nZ3 cZ3] 32)
    clear C_43
    have Z_58 := hide (BoxAt.new w8 (.int .i64 kZ) (.string tZ) (.slice aZ1 nZ1 cZ1) (.slice aZ2 nZ2 cZ2) (.slice aZ3 nZ3 cZ3) 32)
    clear xc0 xc1 xc2 xc3 xc4 xlt
    refine (HC.out _ C_57).mono ?_
    rintro e w9 ⟨rfl, hb9⟩
    have C_59 : Below w.heap.size w w9 := C_57.trans (hb9.mono C_57.size)
    clear C_57
    have X_60 := hide (X_46.out.below hb9)
    have IA_60 := hide (IA_47.out.below hb9)
    have A_60 := hide (A_48.out.below hb9)
    have IB_60 := hide (IB_49.out.below hb9)
    have B_60 := hide (B_50.out.below hb9)
    have TM_60 := hide (TM_51.out.below hb9)
    have TJ_60 := hide (TJ_52.out.below hb9)
    have TL_60 := hide (TL_53.out.below hb9)
    have IY_60 := hide (IY_54.out.below hb9)
    have Y_60 := hide (Y_55.out.below hb9)
    have IZ_60 := hide (IZ_56.out.below hb9)
    have Z_60 := hide (Z_58.out.below hb9)
    clear X_46 IA_47 A_48 IB_49 B_50 TM_51 TJ_52 TL_53 IY_54 Y_55 IZ_56 Z_58
    clear hb9
    obtain ⟨xc0, xc1, xc2, xc3, xc4, xlt⟩ := X_60.out
    go_wp2_with fail
    go_loopw [30, 31] (fun bv i wr => ∃ q : Nat, q ≤ LL.length ∧ i = .int .i64 q ∧ bv = .bool (hasT (LL.take q) s) ∧ wr = w9) (fun _ i _ => LL.length - (intOf i).toNat)
    case atStart => exact ⟨0, Nat.zero_le _, rfl, by rw [List.take_zero]; rfl, rfl⟩
    case round =>
      obtain ⟨q, hq, rfl, rfl, hwr⟩ := hrel
      subst hwr
      by_cases hlt : q < LL.length
      · have hlt' : ((q : Nat) : Int) < ((LL.length : Nat) : Int) := by omega
        obtain ⟨g0, o0, rfl, hcs⟩ : ∃ g o, a1 = some ⟨g, o, none⟩ ∧ ∀ i (h : i < LL.length), w.cell? ⟨g, o + i, none⟩ = some (.string LL[i]) := by
          rcases HX1.out with h | h
          · subst h; simp at hlt
          · exact h
        have d0 := (C_59.cell (p := ⟨g0, o0 + q, none⟩) (World.block_lt_of_cell? _ _ (hcs q hlt))).trans (hcs q hlt)
        have HTQ : Hid (hasT (LL.take (q + 1)) s = (hasT (LL.take q) s || decide (LL[q] = s))) := by rw [Hid, List.take_succ_eq_append_getElem hlt, hasT, hasT, List.any_append]; simp
        have hbt := beq_text LL[q] s
        obtain ⟨Y, hY⟩ : ∃ Y, Y = LL[q] := ⟨_, rfl⟩
        rw [← hY] at d0 HTQ hbt
        obtain ⟨PQ, hPQ⟩ : ∃ P, P = hasT (LL.take q) s := ⟨_, rfl⟩
        rw [← hPQ] at HTQ ⊢
        clear hcs hY hPQ
        cases PQ with
        | true =>
          go_wp2_with fail
          go_roundw
          case rel => exact ⟨q + 1, by omega, by go_num, by rw [HTQ.out]; rfl, by trivial⟩
          case measure => simp [intOf]; omega
        | false =>
          obtain ⟨D, hD⟩ : ∃ D, D = decide (Y = s) := ⟨_, rfl⟩
          rw [← hD] at hbt HTQ
          clear hD
          go_wp2_with fail
          go_roundw
          case rel => exact ⟨q + 1, by omega, by go_num, by rw [HTQ.out]; rfl, by trivial⟩
          case measure => simp [intOf]; omega
      · have hge : ¬ ((q : Nat) : Int) < ((LL.length : Nat) : Int) := by omega
        obtain rfl : q = LL.length := by omega
        rw [List.take_length, HHE.out]
        go_wp2_with fail
        clear xc0 xc1 xc2 xc3 xc4 xlt
        refine (HS1.out _ C_59).mono ?_
        rintro e w10 ⟨⟨aP, cP, rfl, iP⟩, hb10⟩
        have C_61 : Below w.heap.size w w10 := C_59.trans (hb10.mono C_59.size)
        clear C_59
        have X_62 := hide (X_60.out.below hb10)
        have IA_62 := hide (IA_60.out.below hb10)
        have A_62 := hide (A_60.out.below hb10)
        have IB_62 := hide (IB_60.out.below hb10)
        have B_62 := hide (B_60.out.below hb10)
        have TM_62 := hide (TM_60.out.below hb10)
        have TJ_62 := hide (TJ_60.out.below hb10)
        have TL_62 := hide (TL_60.out.below hb10)
        have IY_62 := hide (IY_60.out.below hb10)
        have Y_62 := hide (Y_60.out.below hb10)
        have IZ_62 := hide (IZ_60.out.below hb10)
        have Z_62 := hide (Z_60.out.below hb10)
        clear X_60 IA_60 A_60 IB_60 B_60 TM_60 TJ_60 TL_60 IY_60 Y_60 IZ_60 Z_60
        clear hb10
        have TP_63 := hide (iP)
        clear iP
        go_wp2_with fail
        refine (HS2.out _ C_61).mono ?_
        rintro e w11 ⟨⟨aQ, cQ, rfl, iQ⟩, hb11⟩
        have C_64 : Below w.heap.size w w11 := C_61.trans (hb11.mono C_61.size)
        clear C_61
        have X_65 := hide (X_62.out.below hb11)
        have IA_65 := hide (IA_62.out.below hb11)
        have A_65 := hide (A_62.out.below hb11)
        have IB_65 := hide (IB_62.out.below hb11)
        have B_65 := hide (B_62.out.below hb11)
        have TM_65 := hide (TM_62.out.below hb11)
        have TJ_65 := hide (TJ_62.out.below hb11)
        have TL_65 := hide (TL_62.out.below hb11)
        have IY_65 := hide (IY_62.out.below hb11)
        have Y_65 := hide (Y_62.out.below hb11)
        have IZ_65 := hide (IZ_62.out.below hb11)
        have Z_65 := hide (Z_62.out.below hb11)
        have TP_65 := hide (TP_63.out.below hb11)
        clear X_62 IA_62 A_62 IB_62 B_62 TM_62 TJ_62 TL_62 IY_62 Y_62 IZ_62 Z_62 TP_63
        clear hb11
        have TQ_66 := hide (iQ)
        clear iQ
        go_wp2_with fail
        refine (HS3.out _ C_64).mono ?_
        rintro e w12 ⟨⟨aR, cR, rfl, iR⟩, hb12⟩
        have C_67 : Below w.heap.size w w12 := C_64.trans (hb12.mono C_64.size)
        clear C_64
        have X_68 := hide (X_65.out.below hb12)
        have IA_68 := hide (IA_65.out.below hb12)
        have A_68 := hide (A_65.out.below hb12)
        have IB_68 := hide (IB_65.out.below hb12)
        have B_68 := hide (B_65.out.below hb12)
        have TM_68 := hide (TM_65.out.below hb12)
        have TJ_68 := hide (TJ_65.out.below hb12)
        have TL_68 := hide (TL_65.out.below hb12)
        have IY_68 := hide (IY_65.out.below hb12)
        have Y_68 := hide (Y_65.out.below hb12)
        have IZ_68 := hide (IZ_65.out.below hb12)
        have Z_68 := hide (Z_65.out.below hb12)
        have TP_68 := hide (TP_65.out.below hb12)
        have TQ_68 := hide (TQ_66.out.below hb12)
        clear X_65 IA_65 A_65 IB_65 B_65 TM_65 TJ_65 TL_65 IY_65 Y_65 IZ_65 Z_65 TP_65 TQ_66
        clear hb12
        have TR_69 := hide (iR)
        clear iR
        go_wp2_with fail
        refine (HG.out _).mono ?_
        rintro e w13 ⟨rfl, hb13⟩
        have C_70 : Below w.heap.size w w13 := C_67.trans (hb13.mono C_67.size)
        clear C_67
        have X_71 := hide (X_68.out.below hb13)
        have IA_71 := hide (IA_68.out.below hb13)
        have A_71 := hide (A_68.out.below hb13)
        have IB_71 := hide (IB_68.out.below hb13)
        have B_71 := hide (B_68.out.below hb13)
        have TM_71 := hide (TM_68.out.below hb13)
        have TJ_71 := hide (TJ_68.out.below hb13)
        have TL_71 := hide (TL_68.out.below hb13)
        have IY_71 := hide (IY_68.out.below hb13)
        have Y_71 := hide (Y_68.out.below hb13)
        have IZ_71 := hide (IZ_68.out.below hb13)
        have Z_71 := hide (Z_68.out.below hb13)
        have TP_71 := hide (TP_68.out.below hb13)
        have TQ_71 := hide (TQ_68.out.below hb13)
        have TR_71 := hide (TR_69.out.below hb13)
        clear X_68 IA_68 A_68 IB_68 B_68 TM_68 TJ_68 TL_68 IY_68 Y_68 IZ_68 Z_68 TP_68 TQ_68 TR_69
        clear hb13
        obtain ⟨ac0, ac1, ac2, ac3, ac4, alt⟩ := A_71.out
        obtain ⟨yc0, yc1, yc2, yc3, yc4, ylt⟩ := Y_71.out
        go_wp2_with fail
        refine (HIA.out _ _ _ IA_71.out IY_71.out).mono ?_
        rintro e w14 ⟨rfl, hb14⟩
        clear ac0 ac1 ac2 ac3 ac4 alt yc0 yc1 yc2 yc3 yc4 ylt
        have C_72 : Below w.heap.size w w14 := C_70.trans (hb14.mono C_70.size)
        clear C_70
        have X_73 := hide (X_71.out.below hb14)
        have IA_73 := hide (IA_71.out.below hb14)
        have A_73 := hide (A_71.out.below hb14)
        have IB_73 := hide (IB_71.out.below hb14)
        have B_73 := hide (B_71.out.below hb14)
        have TM_73 := hide (TM_71.out.below hb14)
        have TJ_73 := hide (TJ_71.out.below hb14)
        have TL_73 := hide (TL_71.out.below hb14)
        have IY_73 := hide (IY_71.out.below hb14)
        have Y_73 := hide (Y_71.out.below hb14)
        have IZ_73 := hide (IZ_71.out.below hb14)
        have Z_73 := hide (Z_71.out.below hb14)
        have TP_73 := hide (TP_71.out.below hb14)
        have TQ_73 := hide (TQ_71.out.below hb14)
        have TR_73 := hide (TR_71.out.below hb14)
        clear X_71 IA_71 A_71 IB_71 B_71 TM_71 TJ_71 TL_71 IY_71 Y_71 IZ_71 Z_71 TP_71 TQ_71 TR_71
        clear hb14
        obtain ⟨bc0, bc1, bc2, bc3, bc4, blt⟩ := B_73.out
        obtain ⟨zc0, zc1, zc2, zc3, zc4, zlt⟩ := Z_73.out
        go_wp2_with fail
        refine (HIB.out _ _ _ IB_73.out IZ_73.out).mono ?_
        rintro e w15 ⟨rfl, hb15⟩
        clear bc0 bc1 bc2 bc3 bc4 blt zc0 zc1 zc2 zc3 zc4 zlt
        have C_74 : Below w.heap.size w w15 := C_72.trans (hb15.mono C_72.size)
        clear C_72
        have X_75 := hide (X_73.out.below hb15)
        have IA_75 := hide (IA_73.out.below hb15)
        have A_75 := hide (A_73.out.below hb15)
        have IB_75 := hide (IB_73.out.below hb15)
        have B_75 := hide (B_73.out.below hb15)
        have TM_75 := hide (TM_73.out.below hb15)
        have TJ_75 := hide (TJ_73.out.below hb15)
        have TL_75 := hide (TL_73.out.below hb15)
        have IY_75 := hide (IY_73.out.below hb15)
        have Y_75 := hide (Y_73.out.below hb15)
        have IZ_75 := hide (IZ_73.out.below hb15)
        have Z_75 := hide (Z_73.out.below hb15)
        have TP_75 := hide (TP_73.out.below hb15)
        have TQ_75 := hide (TQ_73.out.below hb15)
        have TR_75 := hide (TR_73.out.below hb15)
        clear X_73 IA_73 A_73 IB_73 B_73 TM_73 TJ_73 TL_73 IY_73 Y_73 IZ_73 Z_73 TP_73 TQ_73 TR_73
        clear hb15
        go_wp2_with fail
        refine (HTM.out _ _ _ _ _ TM_75.out TP_75.out).mono ?_
        rintro e w16 ⟨rfl, hb16⟩
        have C_76 : Below w.heap.size w w16 := C_74.trans (hb16.mono C_74.size)
        clear C_74
        have X_77 := hide (X_75.out.below hb16)
        have IA_77 := hide (IA_75.out.below hb16)
        have A_77 := hide (A_75.out.below hb16)
        have IB_77 := hide (IB_75.out.below hb16)
        have B_77 := hide (B_75.out.below hb16)
        have TM_77 := hide (TM_75.out.below hb16)
        have TJ_77 := hide (TJ_75.out.below hb16)
        have TL_77 := hide (TL_75.out.below hb16)
        have IY_77 := hide (IY_75.out.below hb16)
        have Y_77 := hide (Y_75.out.below hb16)
        have IZ_77 := hide (IZ_75.out.below hb16)
        have Z_77 := hide (Z_75.out.below hb16)
        have TP_77 := hide (TP_75.out.below hb16)
        have TQ_77 := hide (TQ_75.out.below hb16)
        have TR_77 := hide (TR_75.out.below hb16)
        clear X_75 IA_75 A_75 IB_75 B_75 TM_75 TJ_75 TL_75 IY_75 Y_75 IZ_75 Z_75 TP_75 TQ_75 TR_75
        clear hb16
        go_wp2_with fail
        refine (HTJ.out _ _ _ _ _ TJ_77.out TQ_77.out).mono ?_
        rintro e w17 ⟨rfl, hb17⟩
        have C_78 : Below w.heap.size w w17 := C_76.trans (hb17.mono C_76.size)
        clear C_76
        have X_79 := hide (X_77.out.below hb17)
        have IA_79 := hide (IA_77.out.below hb17)
        have A_79 := hide (A_77.out.below hb17)
        have IB_79 := hide (IB_77.out.below hb17)
        have B_79 := hide (B_77.out.below hb17)
        have TM_79 := hide (TM_77.out.below hb17)
        have TJ_79 := hide (TJ_77.out.below hb17)
        have TL_79 := hide (TL_77.out.below hb17)
        have IY_79 := hide (IY_77.out.below hb17)
        have Y_79 := hide (Y_77.out.below hb17)
        have IZ_79 := hide (IZ_77.out.below hb17)
        have Z_79 := hide (Z_77.out.below hb17)
        have TP_79 := hide (TP_77.out.below hb17)
        have TQ_79 := hide (TQ_77.out.below hb17)
        have TR_79 := hide (TR_77.out.below hb17)
        clear X_77 IA_77 A_77 IB_77 B_77 TM_77 TJ_77 TL_77 IY_77 Y_77 IZ_77 Z_77 TP_77 TQ_77 TR_77
        clear hb17
        go_wp2_with fail
        refine (HTL.out _ _ _ _ _ TL_79.out TR_79.out).mono ?_
        rintro e w18 ⟨rfl, hb18⟩
        have C_80 : Below w.heap.size w w18 := C_78.trans (hb18.mono C_78.size)
        clear C_78
        have X_81 := hide (X_79.out.below hb18)
        have IA_81 := hide (IA_79.out.below hb18)
        have A_81 := hide (A_79.out.below hb18)
        have IB_81 := hide (IB_79.out.below hb18)
        have B_81 := hide (B_79.out.below hb18)
        have TM_81 := hide (TM_79.out.below hb18)
        have TJ_81 := hide (TJ_79.out.below hb18)
        have TL_81 := hide (TL_79.out.below hb18)
        have IY_81 := hide (IY_79.out.below hb18)
        have Y_81 := hide (Y_79.out.below hb18)
        have IZ_81 := hide (IZ_79.out.below hb18)
        have Z_81 := hide (Z_79.out.below hb18)
        have TP_81 := hide (TP_79.out.below hb18)
        have TQ_81 := hide (TQ_79.out.below hb18)
        have TR_81 := hide (TR_79.out.below hb18)
        clear X_79 IA_79 A_79 IB_79 B_79 TM_79 TJ_79 TL_79 IY_79 Y_79 IZ_79 Z_79 TP_79 TQ_79 TR_79
        clear hb18
        go_wp2_with fail
        go_ret
        exact ⟨rfl, C_80⟩
  · have hRS : hasE x s = false := by rw [hasE, if_neg h0]
    have h0' : (asI x 3 == 0) = false := by rw [beq_eq_false_iff_ne]; exact h0
    rw [hRS] at HH
    clear h0 hRS HI HL0 HX0 HLZ hsum hxl hll HX1
    generalize asI x 3 = E at *
    generalize x.l.length = n1 at *
    generalize x.k = k at *
    generalize x.t = t at *
    generalize x.p.length = n2 at *
    generalize x.s.length = n3 at *
    by_cases hn1 : 0 < n1
    · have hn1' : (0 : Int) < ((n1 : Nat) : Int) := by omega
      go_enter Try.func6, Try.ntmps6
      go_wp2_with fail
      have C_0 : Below w.heap.size w (w.alloc (.cells #[.int .i64 k, .string t, .slice a1 n1 c1, .slice a2 n2 c2, .slice a3 n3 c3] 32)) := (Below.refl _ w).alloc (Nat.le_refl _) _
      have X_1 := hide (BoxAt.new w (.int .i64 k) (.string t) (.slice a1 n1 c1) (.slice a2 n2 c2) (.slice a3 n3 c3) 32)
      refine (HA.out _ C_0).mono ?_
      rintro e w1 ⟨uA, ⟨rfl, iA⟩, hb1⟩
      have C_2 : Below w.heap.size w w1 := C_0.trans (hb1.mono C_0.size)
      clear C_0
      have X_3 := hide (X_1.out.below hb1)
      clear X_1
      clear hb1
      obtain ⟨kA, tA, aA1, nA1, cA1, aA2, nA2, cA2, aA3, nA3, cA3, rfl⟩ := iA.shapeS
      have IA_4 := hide (iA)
      clear iA
      obtain ⟨xc0, xc1, xc2, xc3, xc4, xlt⟩ := X_3.out
      go_wp2_with fail
      have X_5 := hide (X_3.out.below ((Below.refl _ w1).alloc (Nat.le_refl _) (.cells #[.int .i64 kA, .string tA, .slice aA1 nA1 cA1, .slice aA2 nA2 cA2, .slice aA3 nA3 cA3] 32)))
      clear X_3
      have IA_6 := hide (IA_4.out.below ((Below.refl _ w1).alloc (Nat.le_refl _) (.cells #[.int .i64 kA, .string tA, .slice aA1 nA1 cA1, .slice aA2 nA2 cA2, .slice aA3 nA3 cA3] 32)))
      clear IA_4
      have C_7 : Below w.heap.size w (w1.alloc (.cells #[.int .i64 kA, .string tA, .slice aA1 nA1 cA1, .slice aA2 nA2 cA2, .slice aA3 nA3 cA3] 32)) := C_2.alloc C_2.size (.cells #[.int .i64 kA, .string tA, .slice aA1 nA1 cA1, .slice aA2 nA2 cA2, .slice aA3 nA3 cA3] 32)
      clear C_2
      have A_8 := hide (BoxAt.new w1 (.int .i64 kA) (.string tA) (.slice aA1 nA1 cA1) (.slice aA2 nA2 cA2) (.slice aA3 nA3 cA3) 32)
      clear xc0 xc1 xc2 xc3 xc4 xlt
      refine (HB.out _ C_7).mono ?_
      rintro e w2 ⟨uB, ⟨rfl, iB⟩, hb2⟩
      have C_9 : Below w.heap.size w w2 := C_7.trans (hb2.mono C_7.size)
      clear C_7
      have X_10 := hide (X_5.out.below hb2)
      have IA_10 := hide (IA_6.out.below hb2)
      have A_10 := hide (A_8.out.below hb2)
      clear X_5 IA_6 A_8
      clear hb2
      obtain ⟨kB, tB, aB1, nB1, cB1, aB2, nB2, cB2, aB3, nB3, cB3, rfl⟩ := iB.shapeS
      have IB_11 := hide (iB)
      clear iB
      obtain ⟨xc0, xc1, xc2, xc3, xc4, xlt⟩ := X_10.out
      go_wp2_with fail
      have X_12 := hide (X_10.out.below ((Below.refl _ w2).alloc (Nat.le_refl _) (.cells #[.int .i64 kB, .string tB, .slice aB1 nB1 cB1, .slice aB2 nB2 cB2, .slice aB3 nB3 cB3] 32)))
      clear X_10
      have IA_13 := hide (IA_10.out.below ((Below.refl _ w2).alloc (Nat.le_refl _) (.cells #[.int .i64 kB, .string tB, .slice aB1 nB1 cB1, .slice aB2 nB2 cB2, .slice aB3 nB3 cB3] 32)))
      clear IA_10
      have A_14 := hide (A_10.out.below ((Below.refl _ w2).alloc (Nat.le_refl _) (.cells #[.int .i64 kB, .string tB, .slice aB1 nB1 cB1, .slice aB2 nB2 cB2, .slice aB3 nB3 cB3] 32)))
      clear A_10
      have IB_15 := hide (IB_11.out.below ((Below.refl _ w2).alloc (Nat.le_refl _) (.cells #[.int .i64 kB, .string tB, .slice aB1 nB1 cB1, .slice aB2 nB2 cB2, .slice aB3 nB3 cB3] 32)))
      clear IB_11
      have C_16 : Below w.heap.size w (w2.alloc (.cells #[.int .i64 kB, .string tB, .slice aB1 nB1 cB1, .slice aB2 nB2 cB2, .slice aB3 nB3 cB3] 32)) := C_9.alloc C_9.size (.cells #[.int .i64 kB, .string tB, .slice aB1 nB1 cB1, .slice aB2 nB2 cB2, .slice aB3 nB3 cB3] 32)
      clear C_9
      have B_17 := hide (BoxAt.new w2 (.int .i64 kB) (.string tB) (.slice aB1 nB1 cB1) (.slice aB2 nB2 cB2) (.slice aB3 nB3 cB3) 32)
      clear xc0 xc1 xc2 xc3 xc4 xlt
      refine (HH.out _ C_16).mono ?_
      rintro e w3 ⟨rfl, hb3⟩
      have C_18 : Below w.heap.size w w3 := C_16.trans (hb3.mono C_16.size)
      clear C_16
      have X_19 := hide (X_12.out.below hb3)
      have IA_19 := hide (IA_13.out.below hb3)
      have A_19 := hide (A_14.out.below hb3)
      have IB_19 := hide (IB_15.out.below hb3)
      have B_19 := hide (B_17.out.below hb3)
      clear X_12 IA_13 A_14 IB_15 B_17
      clear hb3
      go_wp2_with fail
      refine (HM.out _ C_18).mono ?_
      rintro e w4 ⟨⟨aM, cM, rfl, iM⟩, hb4⟩
      have C_20 : Below w.heap.size w w4 := C_18.trans (hb4.mono C_18.size)
      clear C_18
      have X_21 := hide (X_19.out.below hb4)
      have IA_21 := hide (IA_19.out.below hb4)
      have A_21 := hide (A_19.out.below hb4)
      have IB_21 := hide (IB_19.out.below hb4)
      have B_21 := hide (B_19.out.below hb4)
      clear X_19 IA_19 A_19 IB_19 B_19
      clear hb4
      have TM_22 := hide (iM)
      clear iM
      go_wp2_with fail
      refine (HJ.out _ C_20).mono ?_
      rintro e w5 ⟨⟨aJ, cJ, rfl, iJ⟩, hb5⟩
      have C_23 : Below w.heap.size w w5 := C_20.trans (hb5.mono C_20.size)
      clear C_20
      have X_24 := hide (X_21.out.below hb5)
      have IA_24 := hide (IA_21.out.below hb5)
      have A_24 := hide (A_21.out.below hb5)
      have IB_24 := hide (IB_21.out.below hb5)
      have B_24 := hide (B_21.out.below hb5)
      have TM_24 := hide (TM_22.out.below hb5)
      clear X_21 IA_21 A_21 IB_21 B_21 TM_22
      clear hb5
      have TJ_25 := hide (iJ)
      clear iJ
      go_wp2_with fail
      refine (HL.out _ C_23).mono ?_
      rintro e w6 ⟨⟨aL, cL, rfl, iL⟩, hb6⟩
      have C_26 : Below w.heap.size w w6 := C_23.trans (hb6.mono C_23.size)
      clear C_23
      have X_27 := hide (X_24.out.below hb6)
      have IA_27 := hide (IA_24.out.below hb6)
      have A_27 := hide (A_24.out.below hb6)
      have IB_27 := hide (IB_24.out.below hb6)
      have B_27 := hide (B_24.out.below hb6)
      have TM_27 := hide (TM_24.out.below hb6)
      have TJ_27 := hide (TJ_25.out.below hb6)
      clear X_24 IA_24 A_24 IB_24 B_24 TM_24 TJ_25
      clear hb6
      have TL_28 := hide (iL)
      clear iL
      obtain ⟨xc0, xc1, xc2, xc3, xc4, xlt⟩ := X_27.out
      go_wp2_with fail
      clear xc0 xc1 xc2 xc3 xc4 xlt
      refine (HY.out _ C_26).mono ?_
      rintro e w7 ⟨uY, ⟨rfl, iY⟩, hb7⟩
      have C_29 : Below w.heap.size w w7 := C_26.trans (hb7.mono C_26.size)
      clear C_26
      have X_30 := hide (X_27.out.below hb7)
      have IA_30 := hide (IA_27.out.below hb7)
      have A_30 := hide (A_27.out.below hb7)
      have IB_30 := hide (IB_27.out.below hb7)
      have B_30 := hide (B_27.out.below hb7)
      have TM_30 := hide (TM_27.out.below hb7)
      have TJ_30 := hide (TJ_27.out.below hb7)
      have TL_30 := hide (TL_28.out.below hb7)
      clear X_27 IA_27 A_27 IB_27 B_27 TM_27 TJ_27 TL_28
      clear hb7
      obtain ⟨kY, tY, aY1, nY1, cY1, aY2, nY2, cY2, aY3, nY3, cY3, rfl⟩ := iY.shapeS
      have IY_31 := hide (iY)
      clear iY
      obtain ⟨xc0, xc1, xc2, xc3, xc4, xlt⟩ := X_30.out
      go_wp2_with fail
      have X_32 := hide (X_30.out.below ((Below.refl _ w7).alloc (Nat.le_refl _) (.cells #[.int .i64 kY, .string tY, .slice aY1 nY1 cY1, .slice aY2 nY2 cY2, .slice aY3 nY3 cY3] 32)))
      clear X_30
      have IA_33 := hide (IA_30.out.below ((Below.refl _ w7).alloc (Nat.le_refl _) (.cells #[.int .i64 kY, .string tY, .slice aY1 nY1 cY1, .slice aY2 nY2 cY2, .slice aY3 nY3 cY3] 32)))
      clear IA_30
      have A_34 := hide (A_30.out.below ((Below.refl _ w7).alloc (Nat.le_refl _) (.cells #[.int .i64 kY, .string tY, .slice aY1 nY1 cY1, .slice aY2 nY2 cY2, .slice aY3 nY3 cY3] 32)))
      clear A_30
      have IB_35 := hide (IB_30.out.below ((Below.refl _ w7).alloc (Nat.le_refl _) (.cells #[.int .i64 kY, .string tY, .slice aY1 nY1 cY1, .slice aY2 nY2 cY2, .slice aY3 nY3 cY3] 32)))
      clear IB_30
      have B_36 := hide (B_30.out.below ((Below.refl _ w7).alloc (Nat.le_refl _) (.cells #[.int .i64 kY, .string tY, .slice aY1 nY1 cY1, .slice aY2 nY2 cY2, .slice aY3 nY3 cY3] 32)))
      clear B_30
      have TM_37 := hide (TM_30.out.below ((Below.refl _ w7).alloc (Nat.le_refl _) (.cells #[.int .i64 kY, .string tY, .slice aY1 nY1 cY1, .slice aY2 nY2 cY2, .slice aY3 nY3 cY3] 32)))
      clear TM_30
      have TJ_38 := hide (TJ_30.out.below ((Below.refl _ w7).alloc (Nat.le_refl _) (.cells #[.int .i64 kY, .string tY, .slice aY1 nY1 cY1, .slice aY2 nY2 cY2, .slice aY3 nY3 cY3] 32)))
      clear TJ_30
      have TL_39 := hide (TL_30.out.below ((Below.refl _ w7).alloc (Nat.le_refl _) (.cells #[.int .i64 kY, .string tY, .slice aY1 nY1 cY1, .slice aY2 nY2 cY2, .slice aY3 nY3 cY3] 32)))
      clear TL_30
      have IY_40 := hide (IY_31.out.below ((Below.refl _ w7).alloc (Nat.le_refl _) (.cells #[.int .i64 kY, .string tY, .slice aY1 nY1 cY1, .slice aY2 nY2 cY2, .slice aY3 nY3 cY3] 32)))
      clear IY_31
      have C_41 : Below w.heap.size w (w7.alloc (.cells #[.int .i64 kY, .string tY, .slice aY1 nY1 cY1, .slice aY2 nY2 cY2, .slice aY3 nY3 cY3] 32)) := C_29.alloc C_29.size (.cells #[.int .i64 kY, .string tY, .slice aY1 nY1 cY1, .slice aY2 nY2 cY2, .slice aY3 nY3 cY3] 32)
      clear C_29
      have Y_42 := hide (BoxAt.new w7 (.int .i64 kY) (.string tY) (.slice aY1 nY1 cY1) (.slice aY2 nY2 cY2) (.slice aY3 nY3 cY3) 32)
      clear xc0 xc1 xc2 xc3 xc4 xlt
      refine (HZ.out _ C_41).mono ?_
      rintro e w8 ⟨uZ, ⟨rfl, iZ⟩, hb8⟩
      have C_43 : Below w.heap.size w w8 := C_41.trans (hb8.mono C_41.size)
      clear C_41
      have X_44 := hide (X_32.out.below hb8)
      have IA_44 := hide (IA_33.out.below hb8)
      have A_44 := hide (A_34.out.below hb8)
      have IB_44 := hide (IB_35.out.below hb8)
      have B_44 := hide (B_36.out.below hb8)
      have TM_44 := hide (TM_37.out.below hb8)
      have TJ_44 := hide (TJ_38.out.below hb8)
      have TL_44 := hide (TL_39.out.below hb8)
      have IY_44 := hide (IY_40.out.below hb8)
      have Y_44 := hide (Y_42.out.below hb8)
      clear X_32 IA_33 A_34 IB_35 B_36 TM_37 TJ_38 TL_39 IY_40 Y_42
      clear hb8
      obtain ⟨kZ, tZ, aZ1, nZ1, cZ1, aZ2, nZ2, cZ2, aZ3, nZ3, cZ3, rfl⟩ := iZ.shapeS
      have IZ_45 := hide (iZ)
      clear iZ
      obtain ⟨xc0, xc1, xc2, xc3, xc4, xlt⟩ := X_44.out
      go_wp2_with fail
      have X_46 := hide (X_44.out.below ((Below.refl _ w8).alloc (Nat.le_refl _) (.cells #[.int .i64 kZ, .string tZ, .slice aZ1 nZ1 cZ1, .slice aZ2 nZ2 cZ2, .slice aZ3 nZ3 cZ3] 32)))
      clear X_44
      have IA_47 := hide (IA_44.out.below ((Below.refl _ w8).alloc (Nat.le_refl _) (.cells #[.int .i64 kZ, .string tZ, .slice aZ1 nZ1 cZ1, .slice aZ2 nZ2 cZ2, .slice aZ3 nZ3 cZ3] 32)))
      clear IA_44
      have A_48 := hide (A_44.out.below ((Below.refl _ w8).alloc (Nat.le_refl _) (.cells #[.int .i64 kZ, .string tZ, .slice aZ1 nZ1 cZ1, .slice aZ2 nZ2 cZ2, .slice aZ3 nZ3 cZ3] 32)))
      clear A_44
      have IB_49 := hide (IB_44.out.below ((Below.refl _ w8).alloc (Nat.le_refl _) (.cells #[.int .i64 kZ, .string tZ, .slice aZ1 nZ1 cZ1, .slice aZ2 nZ2 cZ2, .slice aZ3 nZ3 cZ3] 32)))
      clear IB_44
      have B_50 := hide (B_44.out.below ((Below.refl _ w8).alloc (Nat.le_refl _) (.cells #[.int .i64 kZ, .string tZ, .slice aZ1 nZ1 cZ1, .slice aZ2 nZ2 cZ2, .slice aZ3 nZ3 cZ3] 32)))
      clear B_44
      have TM_51 := hide (TM_44.out.below ((Below.refl _ w8).alloc (Nat.le_refl _) (.cells #[.int .i64 kZ, .string tZ, .slice aZ1 nZ1 cZ1, .slice aZ2 nZ2 cZ2, .slice aZ3 nZ3 cZ3] 32)))
      clear TM_44
      have TJ_52 := hide (TJ_44.out.below ((Below.refl _ w8).alloc (Nat.le_refl _) (.cells #[.int .i64 kZ, .string tZ, .slice aZ1 nZ1 cZ1, .slice aZ2 nZ2 cZ2, .slice aZ3 nZ3 cZ3] 32)))
      clear TJ_44
      have TL_53 := hide (TL_44.out.below ((Below.refl _ w8).alloc (Nat.le_refl _) (.cells #[.int .i64 kZ, .string tZ, .slice aZ1 nZ1 cZ1, .slice aZ2 nZ2 cZ2, .slice aZ3 nZ3 cZ3] 32)))
      clear TL_44
      have IY_54 := hide (IY_44.out.below ((Below.refl _ w8).alloc (Nat.le_refl _) (.cells #[.int .i64 kZ, .string tZ, .slice aZ1 nZ1 cZ1, .slice aZ2 nZ2 cZ2, .slice aZ3 nZ3 cZ3] 32)))
      clear IY_44
      have Y_55 := hide (Y_44.out.below ((Below.refl _ w8).alloc (Nat.le_refl _) (.cells #[.int .i64 kZ, .string tZ, .slice aZ1 nZ1 cZ1, .slice aZ2 nZ2 cZ2, .slice aZ3 nZ3 cZ3] 32)))
      clear Y_44
      have IZ_56 := hide (IZ_45.out.below ((Below.refl _ w8).alloc (Nat.le_refl _) (.cells #[.int .i64 kZ, .string tZ, .slice aZ1 nZ1 cZ1, .slice aZ2 nZ2 cZ2, .slice aZ3 nZ3 cZ3] 32)))
      clear IZ_45
      have C_57 : Below w.heap.size w (w8.alloc (.cells #[.int .i64 kZ, .string tZ, .slice aZ1 nZ1 cZ1, .slice aZ2 nZ2 cZ2, .slice aZ3 nZ3 cZ3] 32)) := C_43.alloc C_43.size (.cells #[.int .i64 kZ, .string tZ, .slice aZ1 nZ1 cZ1, .slice aZ2 nZ2 cZ2, .slice aZ3 nZ3 cZ3] 32)
      clear C_43
      have Z_58 := hide (BoxAt.new w8 (.int .i64 kZ) (.string tZ) (.slice aZ1 nZ1 cZ1) (.slice aZ2 nZ2 cZ2) (.slice aZ3 nZ3 cZ3) 32)
      clear xc0 xc1 xc2 xc3 xc4 xlt
      refine (HC.out _ C_57).mono ?_
      rintro e w9 ⟨rfl, hb9⟩
      have C_59 : Below w.heap.size w w9 := C_57.trans (hb9.mono C_57.size)
      clear C_57
      have X_60 := hide (X_46.out.below hb9)
      have IA_60 := hide (IA_47.out.below hb9)
      have A_60 := hide (A_48.out.below hb9)
      have IB_60 := hide (IB_49.out.below hb9)
      have B_60 := hide (B_50.out.below hb9)
      have TM_60 := hide (TM_51.out.below hb9)
      have TJ_60 := hide (TJ_52.out.below hb9)
      have TL_60 := hide (TL_53.out.below hb9)
      have IY_60 := hide (IY_54.out.below hb9)
      have Y_60 := hide (Y_55.out.below hb9)
      have IZ_60 := hide (IZ_56.out.below hb9)
      have Z_60 := hide (Z_58.out.below hb9)
      clear X_46 IA_47 A_48 IB_49 B_50 TM_51 TJ_52 TL_53 IY_54 Y_55 IZ_56 Z_58
      clear hb9
      obtain ⟨xc0, xc1, xc2, xc3, xc4, xlt⟩ := X_60.out
      go_wp2_with fail
      refine wp_loop_rounds 1 ?_
      rw [rounds_succ]
      go_wp2_with fail
      clear xc0 xc1 xc2 xc3 xc4 xlt
      refine (HS1.out _ C_59).mono ?_
      rintro e w10 ⟨⟨aP, cP, rfl, iP⟩, hb10⟩
      have C_61 : Below w.heap.size w w10 := C_59.trans (hb10.mono C_59.size)
      clear C_59
      have X_62 := hide (X_60.out.below hb10)
      have IA_62 := hide (IA_60.out.below hb10)
      have A_62 := hide (A_60.out.below hb10)
      have IB_62 := hide (IB_60.out.below hb10)
      have B_62 := hide (B_60.out.below hb10)
      have TM_62 := hide (TM_60.out.below hb10)
      have TJ_62 := hide (TJ_60.out.below hb10)
      have TL_62 := hide (TL_60.out.below hb10)
      have IY_62 := hide (IY_60.out.below hb10)
      have Y_62 := hide (Y_60.out.below hb10)
      have IZ_62 := hide (IZ_60.out.below hb10)
      have Z_62 := hide (Z_60.out.below hb10)
      clear X_60 IA_60 A_60 IB_60 B_60 TM_60 TJ_60 TL_60 IY_60 Y_60 IZ_60 Z_60
      clear hb10
      have TP_63 := hide (iP)
      clear iP
      go_wp2_with fail
      refine (HS2.out _ C_61).mono ?_
      rintro e w11 ⟨⟨aQ, cQ, rfl, iQ⟩, hb11⟩
      have C_64 : Below w.heap.size w w11 := C_61.trans (hb11.mono C_61.size)
      clear C_61
      have X_65 := hide (X_62.out.below hb11)
      have IA_65 := hide (IA_62.out.below hb11)
      have A_65 := hide (A_62.out.below hb11)
      have IB_65 := hide (IB_62.out.below hb11)
      have B_65 := hide (B_62.out.below hb11)
      have TM_65 := hide (TM_62.out.below hb11)
      have TJ_65 := hide (TJ_62.out.below hb11)
      have TL_65 := hide (TL_62.out.below hb11)
      have IY_65 := hide (IY_62.out.below hb11)
      have Y_65 := hide (Y_62.out.below hb11)
      have IZ_65 := hide (IZ_62.out.below hb11)
      have Z_65 := hide (Z_62.out.below hb11)
      have TP_65 := hide (TP_63.out.below hb11)
      clear X_62 IA_62 A_62 IB_62 B_62 TM_62 TJ_62 TL_62 IY_62 Y_62 IZ_62 Z_62 TP_63
      clear hb11
      have TQ_66 := hide (iQ)
      clear iQ
      go_wp2_with fail
      refine (HS3.out _ C_64).mono ?_
      rintro e w12 ⟨⟨aR, cR, rfl, iR⟩, hb12⟩
      have C_67 : Below w.heap.size w w12 := C_64.trans (hb12.mono C_64.size)
      clear C_64
      have X_68 := hide (X_65.out.below hb12)
      have IA_68 := hide (IA_65.out.below hb12)
      have A_68 := hide (A_65.out.below hb12)
      have IB_68 := hide (IB_65.out.below hb12)
      have B_68 := hide (B_65.out.below hb12)
      have TM_68 := hide (TM_65.out.below hb12)
      have TJ_68 := hide (TJ_65.out.below hb12)
      have TL_68 := hide (TL_65.out.below hb12)
      have IY_68 := hide (IY_65.out.below hb12)
      have Y_68 := hide (Y_65.out.below hb12)
      have IZ_68 := hide (IZ_65.out.below hb12)
      have Z_68 := hide (Z_65.out.below hb12)
      have TP_68 := hide (TP_65.out.below hb12)
      have TQ_68 := hide (TQ_66.out.below hb12)
      clear X_65 IA_65 A_65 IB_65 B_65 TM_65 TJ_65 TL_65 IY_65 Y_65 IZ_65 Z_65 TP_65 TQ_66
      clear hb12
      have TR_69 := hide (iR)
      clear iR
      go_wp2_with fail
      refine (HG.out _).mono ?_
      rintro e w13 ⟨rfl, hb13⟩
      have C_70 : Below w.heap.size w w13 := C_67.trans (hb13.mono C_67.size)
      clear C_67
      have X_71 := hide (X_68.out.below hb13)
      have IA_71 := hide (IA_68.out.below hb13)
      have A_71 := hide (A_68.out.below hb13)
      have IB_71 := hide (IB_68.out.below hb13)
      have B_71 := hide (B_68.out.below hb13)
      have TM_71 := hide (TM_68.out.below hb13)
      have TJ_71 := hide (TJ_68.out.below hb13)
      have TL_71 := hide (TL_68.out.below hb13)
      have IY_71 := hide (IY_68.out.below hb13)
      have Y_71 := hide (Y_68.out.below hb13)
      have IZ_71 := hide (IZ_68.out.below hb13)
      have Z_71 := hide (Z_68.out.below hb13)
      have TP_71 := hide (TP_68.out.below hb13)
      have TQ_71 := hide (TQ_68.out.below hb13)
      have TR_71 := hide (TR_69.out.below hb13)
      clear X_68 IA_68 A_68 IB_68 B_68 TM_68 TJ_68 TL_68 IY_68 Y_68 IZ_68 Z_68 TP_68 TQ_68 TR_69
      clear hb13
      obtain ⟨ac0, ac1, ac2, ac3, ac4, alt⟩ := A_71.out
      obtain ⟨yc0, yc1, yc2, yc3, yc4, ylt⟩ := Y_71.out
      go_wp2_with fail
      refine (HIA.out _ _ _ IA_71.out IY_71.out).mono ?_
      rintro e w14 ⟨rfl, hb14⟩
      clear ac0 ac1 ac2 ac3 ac4 alt yc0 yc1 yc2 yc3 yc4 ylt
      have C_72 : Below w.heap.size w w14 := C_70.trans (hb14.mono C_70.size)
      clear C_70
      have X_73 := hide (X_71.out.below hb14)
      have IA_73 := hide (IA_71.out.below hb14)
      have A_73 := hide (A_71.out.below hb14)
      have IB_73 := hide (IB_71.out.below hb14)
      have B_73 := hide (B_71.out.below hb14)
      have TM_73 := hide (TM_71.out.below hb14)
      have TJ_73 := hide (TJ_71.out.below hb14)
      have TL_73 := hide (TL_71.out.below hb14)
      have IY_73 := hide (IY_71.out.below hb14)
      have Y_73 := hide (Y_71.out.below hb14)
      have IZ_73 := hide (IZ_71.out.below hb14)
      have Z_73 := hide (Z_71.out.below hb14)
      have TP_73 := hide (TP_71.out.below hb14)
      have TQ_73 := hide (TQ_71.out.below hb14)
      have TR_73 := hide (TR_71.out.below hb14)
      clear X_71 IA_71 A_71 IB_71 B_71 TM_71 TJ_71 TL_71 IY_71 Y_71 IZ_71 Z_71 TP_71 TQ_71 TR_71
      clear hb14
      obtain ⟨bc0, bc1, bc2, bc3, bc4, blt⟩ := B_73.out
      obtain ⟨zc0, zc1, zc2, zc3, zc4, zlt⟩ := Z_73.out
      go_wp2_with fail
      refine (HIB.out _ _ _ IB_73.out IZ_73.out).mono ?_
      rintro e w15 ⟨rfl, hb15⟩
      clear bc0 bc1 bc2 bc3 bc4 blt zc0 zc1 zc2 zc3 zc4 zlt
      have C_74 : Below w.heap.size w w15 := C_72.trans (hb15.mono C_72.size)
      clear C_72
      have X_75 := hide (X_73.out.below hb15)
      have IA_75 := hide (IA_73.out.below hb15)
      have A_75 := hide (A_73.out.below hb15)
      have IB_75 := hide (IB_73.out.below hb15)
      have B_75 := hide (B_73.out.below hb15)
      have TM_75 := hide (TM_73.out.below hb15)
      have TJ_75 := hide (TJ_73.out.below hb15)
      have TL_75 := hide (TL_73.out.below hb15)
      have IY_75 := hide (IY_73.out.below hb15)
      have Y_75 := hide (Y_73.out.below hb15)
      have IZ_75 := hide (IZ_73.out.below hb15)
      have Z_75 := hide (Z_73.out.below hb15)
      have TP_75 := hide (TP_73.out.below hb15)
      have TQ_75 := hide (TQ_73.out.below hb15)
      have TR_75 := hide (TR_73.out.below hb15)
      clear X_73 IA_73 A_73 IB_73 B_73 TM_73 TJ_73 TL_73 IY_73 Y_73 IZ_73 Z_73 TP_73 TQ_73 TR_73
      clear hb15
      go_wp2_with fail
      refine (HTM.out _ _ _ _ _ TM_75.out TP_75.out).mono ?_
      rintro e w16 ⟨rfl, hb16⟩
      have C_76 : Below w.heap.size w w16 := C_74.trans (hb16.mono C_74.size)
      clear C_74
      have X_77 := hide (X_75.out.below hb16)
      have IA_77 := hide (IA_75.out.below hb16)
      have A_77 := hide (A_75.out.below hb16)
      have IB_77 := hide (IB_75.out.below hb16)
      have B_77 := hide (B_75.out.below hb16)
      have TM_77 := hide (TM_75.out.below hb16)
      have TJ_77 := hide (TJ_75.out.below hb16)
      have TL_77 := hide (TL_75.out.below hb16)
      have IY_77 := hide (IY_75.out.below hb16)
      have Y_77 := hide (Y_75.out.below hb16)
      have IZ_77 := hide (IZ_75.out.below hb16)
      have Z_77 := hide (Z_75.out.below hb16)
      have TP_77 := hide (TP_75.out.below hb16)
      have TQ_77 := hide (TQ_75.out.below hb16)
      have TR_77 := hide (TR_75.out.below hb16)
      clear X_75 IA_75 A_75 IB_75 B_75 TM_75 TJ_75 TL_75 IY_75 Y_75 IZ_75 Z_75 TP_75 TQ_75 TR_75
      clear hb16
      go_wp2_with fail
      refine (HTJ.out _ _ _ _ _ TJ_77.out TQ_77.out).mono ?_
      rintro e w17 ⟨rfl, hb17⟩
      have C_78 : Below w.heap.size w w17 := C_76.trans (hb17.mono C_76.size)
      clear C_76
      have X_79 := hide (X_77.out.below hb17)
      have IA_79 := hide (IA_77.out.below hb17)
      have A_79 := hide (A_77.out.below hb17)
      have IB_79 := hide (IB_77.out.below hb17)
      have B_79 := hide (B_77.out.below hb17)
      have TM_79 := hide (TM_77.out.below hb17)
      have TJ_79 := hide (TJ_77.out.below hb17)
      have TL_79 := hide (TL_77.out.below hb17)
      have IY_79 := hide (IY_77.out.below hb17)
      have Y_79 := hide (Y_77.out.below hb17)
      have IZ_79 := hide (IZ_77.out.below hb17)
      have Z_79 := hide (Z_77.out.below hb17)
      have TP_79 := hide (TP_77.out.below hb17)
      have TQ_79 := hide (TQ_77.out.below hb17)
      have TR_79 := hide (TR_77.out.below hb17)
      clear X_77 IA_77 A_77 IB_77 B_77 TM_77 TJ_77 TL_77 IY_77 Y_77 IZ_77 Z_77 TP_77 TQ_77 TR_77
      clear hb17
      go_wp2_with fail
      refine (HTL.out _ _ _ _ _ TL_79.out TR_79.out).mono ?_
      rintro e w18 ⟨rfl, hb18⟩
      have C_80 : Below w.heap.size w w18 := C_78.trans (hb18.mono C_78.size)
      clear C_78
      have X_81 := hide (X_79.out.below hb18)
      have IA_81 := hide (IA_79.out.below hb18)
      have A_81 := hide (A_79.out.below hb18)
      have IB_81 := hide (IB_79.out.below hb18)
      have B_81 := hide (B_79.out.below hb18)
      have TM_81 := hide (TM_79.out.below hb18)
      have TJ_81 := hide (TJ_79.out.below hb18)
      have TL_81 := hide (TL_79.out.below hb18)
      have IY_81 := hide (IY_79.out.below hb18)
      have Y_81 := hide (Y_79.out.below hb18)
      have IZ_81 := hide (IZ_79.out.below hb18)
      have Z_81 := hide (Z_79.out.below hb18)
      have TP_81 := hide (TP_79.out.below hb18)
      have TQ_81 := hide (TQ_79.out.below hb18)
      have TR_81 := hide (TR_79.out.below hb18)
      clear X_79 IA_79 A_79 IB_79 B_79 TM_79 TJ_79 TL_79 IY_79 Y_79 IZ_79 Z_79 TP_79 TQ_79 TR_79
      clear hb18
      go_wp2_with fail
      go_ret
      exact ⟨rfl, C_80⟩
    · have hn1' : ¬ (0 : Int) < ((n1 : Nat) : Int) := by omega
      go_enter Try.func6, Try.ntmps6
      go_wp2_with fail
      have C_0 : Below w.heap.size w (w.alloc (.cells #[.int .i64 k, .string t, .slice a1 n1 c1, .slice a2 n2 c2, .slice a3 n3 c3] 32)) := (Below.refl _ w).alloc (Nat.le_refl _) _
      have X_1 := hide (BoxAt.new w (.int .i64 k) (.string t) (.slice a1 n1 c1) (.slice a2 n2 c2) (.slice a3 n3 c3) 32)
      refine (HA.out _ C_0).mono ?_
      rintro e w1 ⟨uA, ⟨rfl, iA⟩, hb1⟩
      have C_2 : Below w.heap.size w w1 := C_0.trans (hb1.mono C_0.size)
      clear C_0
      have X_3 := hide (X_1.out.below hb1)
      clear X_1
      clear hb1
      obtain ⟨kA, tA, aA1, nA1, cA1, aA2, nA2, cA2, aA3, nA3, cA3, rfl⟩ := iA.shapeS
      have IA_4 := hide (iA)
      clear iA
      obtain ⟨xc0, xc1, xc2, xc3, xc4, xlt⟩ := X_3.out
      go_wp2_with fail
      have X_5 := hide (X_3.out.below ((Below.refl _ w1).alloc (Nat.le_refl _) (.cells #[.int .i64 kA, .string tA, .slice aA1 nA1 cA1, .slice aA2 nA2 cA2, .slice aA3 nA3 cA3] 32)))
      clear X_3
      have IA_6 := hide (IA_4.out.below ((Below.refl _ w1).alloc (Nat.le_refl _) (.cells #[.int .i64 kA, .string tA, .slice aA1 nA1 cA1, .slice aA2 nA2 cA2, .slice aA3 nA3 cA3] 32)))
      clear IA_4
      have C_7 : Below w.heap.size w (w1.alloc (.cells #[.int .i64 kA, .string tA, .slice aA1 nA1 cA1, .slice aA2 nA2 cA2, .slice aA3 nA3 cA3] 32)) := C_2.alloc C_2.size (.cells #[.int .i64 kA, .string tA, .slice aA1 nA1 cA1, .slice aA2 nA2 cA2, .slice aA3 nA3 cA3] 32)
      clear C_2
      have A_8 := hide (BoxAt.new w1 (.int .i64 kA) (.string tA) (.slice aA1 nA1 cA1) (.slice aA2 nA2 cA2) (.slice aA3 nA3 cA3) 32)
      clear xc0 xc1 xc2 xc3 xc4 xlt
      refine (HB.out _ C_7).mono ?_
      rintro e w2 ⟨uB, ⟨rfl, iB⟩, hb2⟩
      have C_9 : Below w.heap.size w w2 := C_7.trans (hb2.mono C_7.size)
      clear C_7
      have X_10 := hide (X_5.out.below hb2)
      have IA_10 := hide (IA_6.out.below hb2)
      have A_10 := hide (A_8.out.below hb2)
      clear X_5 IA_6 A_8
      clear hb2
      obtain ⟨kB, tB, aB1, nB1, cB1, aB2, nB2, cB2, aB3, nB3, cB3, rfl⟩ := iB.shapeS
      have IB_11 := hide (iB)
      clear iB
      obtain ⟨xc0, xc1, xc2, xc3, xc4, xlt⟩ := X_10.out
      go_wp2_with fail
      have X_12 := hide (X_10.out.below ((Below.refl _ w2).alloc (Nat.le_refl _) (.cells #[.int .i64 kB, .string tB, .slice aB1 nB1 cB1, .slice aB2 nB2 cB2, .slice aB3 nB3 cB3] 32)))
      clear X_10
      have IA_13 := hide (IA_10.out.below ((Below.refl _ w2).alloc (Nat.le_refl _) (.cells #[.int .i64 kB, .string tB, .slice aB1 nB1 cB1, .slice aB2 nB2 cB2, .slice aB3 nB3 cB3] 32)))
      clear IA_10
      have A_14 := hide (A_10.out.below ((Below.refl _ w2).alloc (Nat.le_refl _) (.cells #[.int .i64 kB, .string tB, .slice aB1 nB1 cB1, .slice aB2 nB2 cB2, .slice aB3 nB3 cB3] 32)))
      clear A_10
      have IB_15 := hide (IB_11.out.below ((Below.refl _ w2).alloc (Nat.le_refl _) (.cells #[.int .i64 kB, .string tB, .slice aB1 nB1 cB1, .slice aB2 nB2 cB2, .slice aB3 nB3 cB3] 32)))
      clear IB_11
      have C_16 : Below w.heap.size w (w2.alloc (.cells #[.int .i64 kB, .string tB, .slice aB1 nB1 cB1, .slice aB2 nB2 cB2, .slice aB3 nB3 cB3] 32)) := C_9.alloc C_9.size (.cells #[.int .i64 kB, .string tB, .slice aB1 nB1 cB1, .slice aB2 nB2 cB2, .slice aB3 nB3 cB3] 32)
      clear C_9
      have B_17 := hide (BoxAt.new w2 (.int .i64 kB) (.string tB) (.slice aB1 nB1 cB1) (.slice aB2 nB2 cB2) (.slice aB3 nB3 cB3) 32)
      clear xc0 xc1 xc2 xc3 xc4 xlt
      refine (HH.out _ C_16).mono ?_
      rintro e w3 ⟨rfl, hb3⟩
      have C_18 : Below w.heap.size w w3 := C_16.trans (hb3.mono C_16.size)
      clear C_16
      have X_19 := hide (X_12.out.below hb3)
      have IA_19 := hide (IA_13.out.below hb3)
      have A_19 := hide (A_14.out.below hb3)
      have IB_19 := hide (IB_15.out.below hb3)
      have B_19 := hide (B_17.out.below hb3)
      clear X_12 IA_13 A_14 IB_15 B_17
      clear hb3
      go_wp2_with fail
      refine (HM.out _ C_18).mono ?_
      rintro e w4 ⟨⟨aM, cM, rfl, iM⟩, hb4⟩
      have C_20 : Below w.heap.size w w4 := C_18.trans (hb4.mono C_18.size)
      clear C_18
      have X_21 := hide (X_19.out.below hb4)
      have IA_21 := hide (IA_19.out.below hb4)
      have A_21 := hide (A_19.out.below hb4)
      have IB_21 := hide (IB_19.out.below hb4)
      have B_21 := hide (B_19.out.below hb4)
      clear X_19 IA_19 A_19 IB_19 B_19
      clear hb4
      have TM_22 := hide (iM)
      clear iM
      go_wp2_with fail
      refine (HJ.out _ C_20).mono ?_
      rintro e w5 ⟨⟨aJ, cJ, rfl, iJ⟩, hb5⟩
      have C_23 : Below w.heap.size w w5 := C_20.trans (hb5.mono C_20.size)
      clear C_20
      have X_24 := hide (X_21.out.below hb5)
      have IA_24 := hide (IA_21.out.below hb5)
      have A_24 := hide (A_21.out.below hb5)
      have IB_24 := hide (IB_21.out.below hb5)
      have B_24 := hide (B_21.out.below hb5)
      have TM_24 := hide (TM_22.out.below hb5)
      clear X_21 IA_21 A_21 IB_21 B_21 TM_22
      clear hb5
      have TJ_25 := hide (iJ)
      clear iJ
      go_wp2_with fail
      refine (HL.out _ C_23).mono ?_
      rintro e w6 ⟨⟨aL, cL, rfl, iL⟩, hb6⟩
      have C_26 : Below w.heap.size w w6 := C_23.trans (hb6.mono C_23.size)
      clear C_23
      have X_27 := hide (X_24.out.below hb6)
      have IA_27 := hide (IA_24.out.below hb6)
      have A_27 := hide (A_24.out.below hb6)
      have IB_27 := hide (IB_24.out.below hb6)
      have B_27 := hide (B_24.out.below hb6)
      have TM_27 := hide (TM_24.out.below hb6)
      have TJ_27 := hide (TJ_25.out.below hb6)
      clear X_24 IA_24 A_24 IB_24 B_24 TM_24 TJ_25
      clear hb6
      have TL_28 := hide (iL)
      clear iL
      obtain ⟨xc0, xc1, xc2, xc3, xc4, xlt⟩ := X_27.out
      go_wp2_with fail
      clear xc0 xc1 xc2 xc3 xc4 xlt
      refine (HY.out _ C_26).mono ?_
      rintro e w7 ⟨uY, ⟨rfl, iY⟩, hb7⟩
      have C_29 : Below w.heap.size w w7 := C_26.trans (hb7.mono C_26.size)
      clear C_26
      have X_30 := hide (X_27.out.below hb7)
      have IA_30 := hide (IA_27.out.below hb7)
      have A_30 := hide (A_27.out.below hb7)
      have IB_30 := hide (IB_27.out.below hb7)
      have B_30 := hide (B_27.out.below hb7)
      have TM_30 := hide (TM_27.out.below hb7)
      have TJ_30 := hide (TJ_27.out.below hb7)
      have TL_30 := hide (TL_28.out.below hb7)
      clear X_27 IA_27 A_27 IB_27 B_27 TM_27 TJ_27 TL_28
      clear hb7
      obtain ⟨kY, tY, aY1, nY1, cY1, aY2, nY2, cY2, aY3, nY3, cY3, rfl⟩ := iY.shapeS
      have IY_31 := hide (iY)
      clear iY
      obtain ⟨xc0, xc1, xc2, xc3, xc4, xlt⟩ := X_30.out
      go_wp2_with fail
      have X_32 := hide (X_30.out.below ((Below.refl _ w7).alloc (Nat.le_refl _) (.cells #[.int .i64 kY, .string tY, .slice aY1 nY1 cY1, .slice aY2 nY2 cY2, .slice aY3 nY3 cY3] 32)))
      clear X_30
      have IA_33 := hide (IA_30.out.below ((Below.refl _ w7).alloc (Nat.le_refl _) (.cells #[.int .i64 kY, .string tY, .slice aY1 nY1 cY1, .slice aY2 nY2 cY2, .slice aY3 nY3 cY3] 32)))
      clear IA_30
      have A_34 := hide (A_30.out.below ((Below.refl _ w7).alloc (Nat.le_refl _) (.cells #[.int .i64 kY, .string tY, .slice aY1 nY1 cY1, .slice aY2 nY2 cY2, .slice aY3 nY3 cY3] 32)))
      clear A_30
      have IB_35 := hide (IB_30.out.below ((Below.refl _ w7).alloc (Nat.le_refl _) (.cells #[.int .i64 kY, .string tY, .slice aY1 nY1 cY1, .slice aY2 nY2 cY2, .slice aY3 nY3 cY3] 32)))
      clear IB_30
      have B_36 := hide (B_30.out.below ((Below.refl _ w7).alloc (Nat.le_refl _) (.cells #[.int .i64 kY, .string tY, .slice aY1 nY1 cY1, .slice aY2 nY2 cY2, .slice aY3 nY3 cY3] 32)))
      clear B_30
      have TM_37 := hide (TM_30.out.below ((Below.refl _ w7).alloc (Nat.le_refl _) (.cells #[.int .i64 kY, .string tY, .slice aY1 nY1 cY1, .slice aY2 nY2 cY2, .slice aY3 nY3 cY3] 32)))
      clear TM_30
      have TJ_38 := hide (TJ_30.out.below ((Below.refl _ w7).alloc (Nat.le_refl _) (.cells #[.int .i64 kY, .string tY, .slice aY1 nY1 cY1, .slice aY2 nY2 cY2, .slice aY3 nY3 cY3] 32)))
      clear TJ_30
      have TL_39 := hide (TL_30.out.below ((Below.refl _ w7).alloc (Nat.le_refl _) (.cells #[.int .i64 kY, .string tY, .slice aY1 nY1 cY1, .slice aY2 nY2 cY2, .slice aY3 nY3 cY3] 32)))
      clear TL_30
      have IY_40 := hide (IY_31.out.below ((Below.refl _ w7).alloc (Nat.le_refl _) (.cells #[.int .i64 kY, .string tY, .slice aY1 nY1 cY1, .slice aY2 nY2 cY2, .slice aY3 nY3 cY3] 32)))
      clear IY_31
      have C_41 : Below w.heap.size w (w7.alloc (.cells #[.int .i64 kY, .string tY, .slice aY1 nY1 cY1, .slice aY2 nY2 cY2, .slice aY3 nY3 cY3] 32)) := C_29.alloc C_29.size (.cells #[.int .i64 kY, .string tY, .slice aY1 nY1 cY1, .slice aY2 nY2 cY2, .slice aY3 nY3 cY3] 32)
      clear C_29
      have Y_42 := hide (BoxAt.new w7 (.int .i64 kY) (.string tY) (.slice aY1 nY1 cY1) (.slice aY2 nY2 cY2) (.slice aY3 nY3 cY3) 32)
      clear xc0 xc1 xc2 xc3 xc4 xlt
      refine (HZ.out _ C_41).mono ?_
      rintro e w8 ⟨uZ, ⟨rfl, iZ⟩, hb8⟩
      have C_43 : Below w.heap.size w w8 := C_41.trans (hb8.mono C_41.size)
      clear C_41
      have X_44 := hide (X_32.out.below hb8)
      have IA_44 := hide (IA_33.out.below hb8)
      have A_44 := hide (A_34.out.below hb8)
      have IB_44 := hide (IB_35.out.below hb8)
      have B_44 := hide (B_36.out.below hb8)
      have TM_44 := hide (TM_37.out.below hb8)
      have TJ_44 := hide (TJ_38.out.below hb8)
      have TL_44 := hide (TL_39.out.below hb8)
      have IY_44 := hide (IY_40.out.below hb8)
      have Y_44 := hide (Y_42.out.below hb8)
      clear X_32 IA_33 A_34 IB_35 B_36 TM_37 TJ_38 TL_39 IY_40 Y_42
      clear hb8
      obtain ⟨kZ, tZ, aZ1, nZ1, cZ1, aZ2, nZ2, cZ2, aZ3, nZ3, cZ3, rfl⟩ := iZ.shapeS
      have IZ_45 := hide (iZ)
      clear iZ
      obtain ⟨xc0, xc1, xc2, xc3, xc4, xlt⟩ := X_44.out
      go_wp2_with fail
      have X_46 := hide (X_44.out.below ((Below.refl _ w8).alloc (Nat.le_refl _) (.cells #[.int .i64 kZ, .string tZ, .slice aZ1 nZ1 cZ1, .slice aZ2 nZ2 cZ2, .slice aZ3 nZ3 cZ3] 32)))
      clear X_44
      have IA_47 := hide (IA_44.out.below ((Below.refl _ w8).alloc (Nat.le_refl _) (.cells #[.int .i64 kZ, .string tZ, .slice aZ1 nZ1 cZ1, .slice aZ2 nZ2 cZ2, .slice aZ3 nZ3 cZ3] 32)))
      clear IA_44
      have A_48 := hide (A_44.out.below ((Below.refl _ w8).alloc (Nat.le_refl _) (.cells #[.int .i64 kZ, .string tZ, .slice aZ1 nZ1 cZ1, .slice aZ2 nZ2 cZ2, .slice aZ3 nZ3 cZ3] 32)))
      clear A_44
      have IB_49 := hide (IB_44.out.below ((Below.refl _ w8).alloc (Nat.le_refl _) (.cells #[.int .i64 kZ, .string tZ, .slice aZ1 nZ1 cZ1, .slice aZ2 nZ2 cZ2, .slice aZ3 nZ3 cZ3] 32)))
      clear IB_44
      have B_50 := hide (B_44.out.below ((Below.refl _ w8).alloc (Nat.le_refl _) (.cells #[.int .i64 kZ, .string tZ, .slice aZ1 nZ1 cZ1, .slice aZ2 nZ2 cZ2, .slice aZ3 nZ3 cZ3] 32)))
      clear B_44
      have TM_51 := hide (TM_44.out.below ((Below.refl _ w8).alloc (Nat.le_refl _) (.cells #[.int .i64 kZ, .string tZ, .slice aZ1 nZ1 cZ1, .slice aZ2 nZ2 cZ2, .slice aZ3 nZ3 cZ3] 32)))
      clear TM_44
      have TJ_52 := hide (TJ_44.out.below ((Below.refl _ w8).alloc (Nat.le_refl _) (.cells #[.int .i64 kZ, .string tZ, .slice aZ1 nZ1 cZ1, .slice aZ2 nZ2 cZ2, .slice aZ3 nZ3 cZ3] 32)))
      clear TJ_44
      have TL_53 := hide (TL_44.out.below ((Below.refl _ w8).alloc (Nat.le_refl _) (.cells #[.int .i64 kZ, .string tZ, .slice aZ1 nZ1 cZ1, .slice aZ2 nZ2 cZ2, .slice aZ3 nZ3 cZ3] 32)))
      clear TL_44
      have IY_54 := hide (IY_44.out.below ((Below.refl _ w8).alloc (Nat.le_refl _) (.cells #[.int .i64 kZ, .string tZ, .slice aZ1 nZ1 cZ1, .slice aZ2 nZ2 cZ2, .slice aZ3 nZ3 cZ3] 32)))
      clear IY_44
      have Y_55 := hide (Y_44.out.below ((Below.refl _ w8).alloc (Nat.le_refl _) (.cells #[.int .i64 kZ, .string tZ, .slice aZ1 nZ1 cZ1, .slice aZ2 nZ2 cZ2, .slice aZ3 nZ3 cZ3] 32)))
      clear Y_44
      have IZ_56 := hide (IZ_45.out.below ((Below.refl _ w8).alloc (Nat.le_refl _) (.cells #[.int .i64 kZ, .string tZ, .slice aZ1 nZ1 cZ1, .slice aZ2 nZ2 cZ2, .slice aZ3 nZ3 cZ3] 32)))
      clear IZ_45
      have C_57 : Below w.heap.size w (w8.alloc (.cells #[.int .i64 kZ, .string tZ, .slice aZ1 nZ1 cZ1, .slice aZ2 nZ2 cZ2, .slice aZ3 nZ3 cZ3] 32)) := C_43.alloc C_43.size (.cells #[.int .i64 kZ, .string tZ, .slice aZ1 nZ1 cZ1, .slice aZ2 nZ2 cZ2, .slice aZ3 nZ3 cZ3] 32)
      clear C_43
      have Z_58 := hide (BoxAt.new w8 (.int .i64 kZ) (.string tZ) (.slice aZ1 nZ1 cZ1) (.slice aZ2 nZ2 cZ2) (.slice aZ3 nZ3 cZ3) 32)
      clear xc0 xc1 xc2 xc3 xc4 xlt
      refine (HC.out _ C_57).mono ?_
      rintro e w9 ⟨rfl, hb9⟩
      have C_59 : Below w.heap.size w w9 := C_57.trans (hb9.mono C_57.size)
      clear C_57
      have X_60 := hide (X_46.out.below hb9)
      have IA_60 := hide (IA_47.out.below hb9)
      have A_60 := hide (A_48.out.below hb9)
      have IB_60 := hide (IB_49.out.below hb9)
      have B_60 := hide (B_50.out.below hb9)
      have TM_60 := hide (TM_51.out.below hb9)
      have TJ_60 := hide (TJ_52.out.below hb9)
      have TL_60 := hide (TL_53.out.below hb9)
      have IY_60 := hide (IY_54.out.below hb9)
      have Y_60 := hide (Y_55.out.below hb9)
      have IZ_60 := hide (IZ_56.out.below hb9)
      have Z_60 := hide (Z_58.out.below hb9)
      clear X_46 IA_47 A_48 IB_49 B_50 TM_51 TJ_52 TL_53 IY_54 Y_55 IZ_56 Z_58
      clear hb9
      obtain ⟨xc0, xc1, xc2, xc3, xc4, xlt⟩ := X_60.out
      go_wp2_with fail
      refine wp_loop_rounds 1 ?_
      rw [rounds_succ]
      go_wp2_with fail
      clear xc0 xc1 xc2 xc3 xc4 xlt
      refine (HS1.out _ C_59).mono ?_
      rintro e w10 ⟨⟨aP, cP, rfl, iP⟩, hb10⟩
      have C_61 : Below w.heap.size w w10 := C_59.trans (hb10.mono C_59.size)
      clear C_59
      have X_62 := hide (X_60.out.below hb10)
      have IA_62 := hide (IA_60.out.below hb10)
      have A_62 := hide (A_60.out.below hb10)
      have IB_62 := hide (IB_60.out.below hb10)
      have B_62 := hide (B_60.out.below hb10)
      have TM_62 := hide (TM_60.out.below hb10)
      have TJ_62 := hide (TJ_60.out.below hb10)
      have TL_62 := hide (TL_60.out.below hb10)
      have IY_62 := hide (IY_60.out.below hb10)
      have Y_62 := hide (Y_60.out.below hb10)
      have IZ_62 := hide (IZ_60.out.below hb10)
      have Z_62 := hide (Z_60.out.below hb10)
      clear X_60 IA_60 A_60 IB_60 B_60 TM_60 TJ_60 TL_60 IY_60 Y_60 IZ_60 Z_60
      clear hb10
      have TP_63 := hide (iP)
      clear iP
      go_wp2_with fail
      refine (HS2.out _ C_61).mono ?_
      rintro e w11 ⟨⟨aQ, cQ, rfl, iQ⟩, hb11⟩
      have C_64 : Below w.heap.size w w11 := C_61.trans (hb11.mono C_61.size)
      clear C_61
      have X_65 := hide (X_62.out.below hb11)
      have IA_65 := hide (IA_62.out.below hb11)
      have A_65 := hide (A_62.out.below hb11)
      have IB_65 := hide (IB_62.out.below hb11)
      have B_65 := hide (B_62.out.below hb11)
      have TM_65 := hide (TM_62.out.below hb11)
      have TJ_65 := hide (TJ_62.out.below hb11)
      have TL_65 := hide (TL_62.out.below hb11)
      have IY_65 := hide (IY_62.out.below hb11)
      have Y_65 := hide (Y_62.out.below hb11)
      have IZ_65 := hide (IZ_62.out.below hb11)
      have Z_65 := hide (Z_62.out.below hb11)
      have TP_65 := hide (TP_63.out.below hb11)
      clear X_62 IA_62 A_62 IB_62 B_62 TM_62 TJ_62 TL_62 IY_62 Y_62 IZ_62 Z_62 TP_63
      clear hb11
      have TQ_66 := hide (iQ)
      clear iQ
      go_wp2_with fail
      refine (HS3.out _ C_64).mono ?_
      rintro e w12 ⟨⟨aR, cR, rfl, iR⟩, hb12⟩
      have C_67 : Below w.heap.size w w12 := C_64.trans (hb12.mono C_64.size)
      clear C_64
      have X_68 := hide (X_65.out.below hb12)
      have IA_68 := hide (IA_65.out.below hb12)
      have A_68 := hide (A_65.out.below hb12)
      have IB_68 := hide (IB_65.out.below hb12)
      have B_68 := hide (B_65.out.below hb12)
      have TM_68 := hide (TM_65.out.below hb12)
      have TJ_68 := hide (TJ_65.out.below hb12)
      have TL_68 := hide (TL_65.out.below hb12)
      have IY_68 := hide (IY_65.out.below hb12)
      have Y_68 := hide (Y_65.out.below hb12)
      have IZ_68 := hide (IZ_65.out.below hb12)
      have Z_68 := hide (Z_65.out.below hb12)
      have TP_68 := hide (TP_65.out.below hb12)
      have TQ_68 := hide (TQ_66.out.below hb12)
      clear X_65 IA_65 A_65 IB_65 B_65 TM_65 TJ_65 TL_65 IY_65 Y_65 IZ_65 Z_65 TP_65 TQ_66
      clear hb12
      have TR_69 := hide (iR)
      clear iR
      go_wp2_with fail
      refine (HG.out _).mono ?_
      rintro e w13 ⟨rfl, hb13⟩
      have C_70 : Below w.heap.size w w13 := C_67.trans (hb13.mono C_67.size)
      clear C_67
      have X_71 := hide (X_68.out.below hb13)
      have IA_71 := hide (IA_68.out.below hb13)
      have A_71 := hide (A_68.out.below hb13)
      have IB_71 := hide (IB_68.out.below hb13)
      have B_71 := hide (B_68.out.below hb13)
      have TM_71 := hide (TM_68.out.below hb13)
      have TJ_71 := hide (TJ_68.out.below hb13)
      have TL_71 := hide (TL_68.out.below hb13)
      have IY_71 := hide (IY_68.out.below hb13)
      have Y_71 := hide (Y_68.out.below hb13)
      have IZ_71 := hide (IZ_68.out.below hb13)
      have Z_71 := hide (Z_68.out.below hb13)
      have TP_71 := hide (TP_68.out.below hb13)
      have TQ_71 := hide (TQ_68.out.below hb13)
      have TR_71 := hide (TR_69.out.below hb13)
      clear X_68 IA_68 A_68 IB_68 B_68 TM_68 TJ_68 TL_68 IY_68 Y_68 IZ_68 Z_68 TP_68 TQ_68 TR_69
      clear hb13
      obtain ⟨ac0, ac1, ac2, ac3, ac4, alt⟩ := A_71.out
      obtain ⟨yc0, yc1, yc2, yc3, yc4, ylt⟩ := Y_71.out
      go_wp2_with fail
      refine (HIA.out _ _ _ IA_71.out IY_71.out).mono ?_
      rintro e w14 ⟨rfl, hb14⟩
      clear ac0 ac1 ac2 ac3 ac4 alt yc0 yc1 yc2 yc3 yc4 ylt
      have C_72 : Below w.heap.size w w14 := C_70.trans (hb14.mono C_70.size)
      clear C_70
      have X_73 := hide (X_71.out.below hb14)
      have IA_73 := hide (IA_71.out.below hb14)
      have A_73 := hide (A_71.out.below hb14)
      have IB_73 := hide (IB_71.out.below hb14)
      have B_73 := hide (B_71.out.below hb14)
      have TM_73 := hide (TM_71.out.below hb14)
      have TJ_73 := hide (TJ_71.out.below hb14)
      have TL_73 := hide (TL_71.out.below hb14)
      have IY_73 := hide (IY_71.out.below hb14)
      have Y_73 := hide (Y_71.out.below hb14)
      have IZ_73 := hide (IZ_71.out.below hb14)
      have Z_73 := hide (Z_71.out.below hb14)
      have TP_73 := hide (TP_71.out.below hb14)
      have TQ_73 := hide (TQ_71.out.below hb14)
      have TR_73 := hide (TR_71.out.below hb14)
      clear X_71 IA_71 A_71 IB_71 B_71 TM_71 TJ_71 TL_71 IY_71 Y_71 IZ_71 Z_71 TP_71 TQ_71 TR_71
      clear hb14
      obtain ⟨bc0, bc1, bc2, bc3, bc4, blt⟩ := B_73.out
      obtain ⟨zc0, zc1, zc2, zc3, zc4, zlt⟩ := Z_73.out
      go_wp2_with fail
      refine (HIB.out _ _ _ IB_73.out IZ_73.out).mono ?_
      rintro e w15 ⟨rfl, hb15⟩
      clear bc0 bc1 bc2 bc3 bc4 blt zc0 zc1 zc2 zc3 zc4 zlt
      have C_74 : Below w.heap.size w w15 := C_72.trans (hb15.mono C_72.size)
      clear C_72
      have X_75 := hide (X_73.out.below hb15)
      have IA_75 := hide (IA_73.out.below hb15)
      have A_75 := hide (A_73.out.below hb15)
      have IB_75 := hide (IB_73.out.below hb15)
      have B_75 := hide (B_73.out.below hb15)
      have TM_75 := hide (TM_73.out.below hb15)
      have TJ_75 := hide (TJ_73.out.below hb15)
      have TL_75 := hide (TL_73.out.below hb15)
      have IY_75 := hide (IY_73.out.below hb15)
      have Y_75 := hide (Y_73.out.below hb15)
      have IZ_75 := hide (IZ_73.out.below hb15)
      have Z_75 := hide (Z_73.out.below hb15)
      have TP_75 := hide (TP_73.out.below hb15)
      have TQ_75 := hide (TQ_73.out.below hb15)
      have TR_75 := hide (TR_73.out.below hb15)
      clear X_73 IA_73 A_73 IB_73 B_73 TM_73 TJ_73 TL_73 IY_73 Y_73 IZ_73 Z_73 TP_73 TQ_73 TR_73
      clear hb15
      go_wp2_with fail
      refine (HTM.out _ _ _ _ _ TM_75.out TP_75.out).mono ?_
      rintro e w16 ⟨rfl, hb16⟩
      have C_76 : Below w.heap.size w w16 := C_74.trans (hb16.mono C_74.size)
      clear C_74
      have X_77 := hide (X_75.out.below hb16)
      have IA_77 := hide (IA_75.out.below hb16)
      have A_77 := hide (A_75.out.below hb16)
      have IB_77 := hide (IB_75.out.below hb16)
      have B_77 := hide (B_75.out.below hb16)
      have TM_77 := hide (TM_75.out.below hb16)
      have TJ_77 := hide (TJ_75.out.below hb16)
      have TL_77 := hide (TL_75.out.below hb16)
      have IY_77 := hide (IY_75.out.below hb16)
      have Y_77 := hide (Y_75.out.below hb16)
      have IZ_77 := hide (IZ_75.out.below hb16)
      have Z_77 := hide (Z_75.out.below hb16)
      have TP_77 := hide (TP_75.out.below hb16)
      have TQ_77 := hide (TQ_75.out.below hb16)
      have TR_77 := hide (TR_75.out.below hb16)
      clear X_75 IA_75 A_75 IB_75 B_75 TM_75 TJ_75 TL_75 IY_75 Y_75 IZ_75 Z_75 TP_75 TQ_75 TR_75
      clear hb16
      go_wp2_with fail
      refine (HTJ.out _ _ _ _ _ TJ_77.out TQ_77.out).mono ?_
      rintro e w17 ⟨rfl, hb17⟩
      have C_78 : Below w.heap.size w w17 := C_76.trans (hb17.mono C_76.size)
      clear C_76
      have X_79 := hide (X_77.out.below hb17)
      have IA_79 := hide (IA_77.out.below hb17)
      have A_79 := hide (A_77.out.below hb17)
      have IB_79 := hide (IB_77.out.below hb17)
      have B_79 := hide (B_77.out.below hb17)
      have TM_79 := hide (TM_77.out.below hb17)
      have TJ_79 := hide (TJ_77.out.below hb17)
      have TL_79 := hide (TL_77.out.below hb17)
      have IY_79 := hide (IY_77.out.below hb17)
      have Y_79 := hide (Y_77.out.below hb17)
      have IZ_79 := hide (IZ_77.out.below hb17)
      have Z_79 := hide (Z_77.out.below hb17)
      have TP_79 := hide (TP_77.out.below hb17)
      have TQ_79 := hide (TQ_77.out.below hb17)
      have TR_79 := hide (TR_77.out.below hb17)
      clear X_77 IA_77 A_77 IB_77 B_77 TM_77 TJ_77 TL_77 IY_77 Y_77 IZ_77 Z_77 TP_77 TQ_77 TR_77
      clear hb17
      go_wp2_with fail
      refine (HTL.out _ _ _ _ _ TL_79.out TR_79.out).mono ?_
      rintro e w18 ⟨rfl, hb18⟩
      have C_80 : Below w.heap.size w w18 := C_78.trans (hb18.mono C_78.size)
      clear C_78
      have X_81 := hide (X_79.out.below hb18)
      have IA_81 := hide (IA_79.out.below hb18)
      have A_81 := hide (A_79.out.below hb18)
      have IB_81 := hide (IB_79.out.below hb18)
      have B_81 := hide (B_79.out.below hb18)
      have TM_81 := hide (TM_79.out.below hb18)
      have TJ_81 := hide (TJ_79.out.below hb18)
      have TL_81 := hide (TL_79.out.below hb18)
      have IY_81 := hide (IY_79.out.below hb18)
      have Y_81 := hide (Y_79.out.below hb18)
      have IZ_81 := hide (IZ_79.out.below hb18)
      have Z_81 := hide (Z_79.out.below hb18)
      have TP_81 := hide (TP_79.out.below hb18)
      have TQ_81 := hide (TQ_79.out.below hb18)
      have TR_81 := hide (TR_79.out.below hb18)
      clear X_79 IA_79 A_79 IB_79 B_79 TM_79 TJ_79 TL_79 IY_79 Y_79 IZ_79 Z_79 TP_79 TQ_79 TR_79
      clear hb18
      go_wp2_with fail
      go_ret
      exact ⟨rfl, C_80⟩
end Go.Proofs.Ytkjnalbnhmpopaa
