/- WALK of SetParts. -/
import Derived.Test.YtkjnalbnhmpopaaSPart1
import Derived.Test.YtkjnalbnhmpopaaISame2
import Derived.Deep.RegionLaw
import Derived.Handy
namespace Go.Proofs.Ytkjnalbnhmpopaa
open Go.RowKit

def partP (p : ByteArray → Nat → Bool) (xs : List Itm) : List ByteArray := if setsF xs = 0 then thoseL p (xs.map Itm.l) else []
theorem part_len (p : ByteArray → Nat → Bool) (xs : List Itm) (h : (xs.map Itm.l).flatten.length ≤ 281474976710656) : (partP p xs).length ≤ 281474976710656 := by
  unfold partP
  split
  · have h1 := addT_len [] ((xs.map Itm.l).flatten.filter fun s => p s (cntL (xs.map Itm.l) s))
    have h2 := List.length_filter_le (fun s => p s (cntL (xs.map Itm.l) s)) (xs.map Itm.l).flatten
    unfold thoseL
    simp only [List.length_nil] at h1
    omega
  · simp
set_option maxRecDepth 100000 in
set_option maxHeartbeats 16000000 in
theorem setParts_walk_bad (v : Value) (x : Itm) (aa : Option Addr) (ca : Nat) (xs : List Itm) (w : World) (h : ItemIs w v x) (hx : ItemsAt w aa xs) (hxl : xs.length ≤ 1400000) (hsum : ((x :: xs).map Itm.l).flatten.length ≤ 1500000) (hne : (setsF (x :: xs) == 0) = false) :
    Calls Try.prog 7 #[v, .slice aa xs.length ca] w fun e w' => e = .returned (.bool true) ∧ Below w.heap.size w w' := by
  have HI := hide h
  have HX := hide hx
  obtain ⟨⟨a1, c1, a2, c2, a3, c3, rfl, hx1, -, -⟩, -, -, -, -, -, -, -⟩ := h
  have HX1 := hide hx1
  clear hx hx1
  have hxl : xs.length ≤ 1500000 := by omega
  have hal : (x :: xs).length ≤ 1500000 := by simp; omega
  have HG := hide setBegun_any
  obtain ⟨NL, hNL⟩ : ∃ n, n = xs.length := ⟨_, rfl⟩
  obtain ⟨NA, hNA⟩ : ∃ n, n = (x :: xs).length := ⟨_, rfl⟩
  rw [← hNL]
  have HNL := hide hNL
  have HNA := hide hNA
  have HNN : Hid (NA = NL + 1) := by rw [Hid, hNA, hNL, List.length_cons]
  have HM : Hid (∀ W a c, ItemsAt W a (x :: xs) → Calls Try.prog 28 #[.slice a NA c] W fun e w' => (∃ a c, e = .returned (.tuple #[.slice a (partP (askM (x :: xs)) (x :: xs)).length c, .int .i64 (setsF (x :: xs))]) ∧ TextsAt w' a (partP (askM (x :: xs)) (x :: xs))) ∧ Below W.heap.size W w') := fun W a c hW => HNA.out ▸ (meet_any a c _ W hW hal hsum _ _ ⟨rfl, rfl⟩).mono fun e w' ⟨a, c, h1, h2, h3⟩ => ⟨⟨a, c, h1, h2 w' (fun _ _ _ _ h => h)⟩, h3⟩
  have HJ : Hid (∀ W a c, ItemsAt W a (x :: xs) → Calls Try.prog 29 #[.slice a NA c] W fun e w' => (∃ a c, e = .returned (.tuple #[.slice a (partP (askJ (x :: xs)) (x :: xs)).length c, .int .i64 (setsF (x :: xs))]) ∧ TextsAt w' a (partP (askJ (x :: xs)) (x :: xs))) ∧ Below W.heap.size W w') := fun W a c hW => HNA.out ▸ (joinS_any a c _ W hW hal hsum _ _ ⟨rfl, rfl⟩).mono fun e w' ⟨a, c, h1, h2, h3⟩ => ⟨⟨a, c, h1, h2 w' (fun _ _ _ _ h => h)⟩, h3⟩
  have HL : Hid (∀ W a c, ItemsAt W a (x :: xs) → Calls Try.prog 30 #[.slice a NA c] W fun e w' => (∃ a c, e = .returned (.tuple #[.slice a (partP (askL1 (x :: xs)) (x :: xs)).length c, .int .i64 (setsF (x :: xs))]) ∧ TextsAt w' a (partP (askL1 (x :: xs)) (x :: xs))) ∧ Below W.heap.size W w') := fun W a c hW => HNA.out ▸ (lessS_any a c _ W hW hal hsum _ _ ⟨rfl, rfl⟩).mono fun e w' ⟨a, c, h1, h2, h3⟩ => ⟨⟨a, c, h1, h2 w' (fun _ _ _ _ h => h)⟩, h3⟩
  clear hNL hNA hal
  generalize partP (askM (x :: xs)) (x :: xs) = T1 at *
  generalize partP (askJ (x :: xs)) (x :: xs) = T2 at *
  generalize partP (askL1 (x :: xs)) (x :: xs) = T3 at *
  generalize setsF (x :: xs) = SF at *
  have hne2 : ¬ SF = 0 := by simpa using hne
  clear hne
  go_enter Try.func7, Try.ntmps7
  go_wp2_with fail
  have C_0 : Below w.heap.size w (w.alloc (.cells #[.int .i64 x.k, .string x.t, .slice a1 x.l.length c1, .slice a2 x.p.length c2, .slice a3 x.s.length c3] 32)) := (Below.refl _ w).alloc (Nat.le_refl _) _
  have X_1 := hide (BoxAt.new w (.int .i64 x.k) (.string x.t) (.slice a1 x.l.length c1) (.slice a2 x.p.length c2) (.slice a3 x.s.length c3) 32)
  refine (HG.out _).mono ?_
  rintro e w1 ⟨rfl, hb1⟩
  have C_2 : Below w.heap.size w w1 := C_0.trans (hb1.mono C_0.size)
  clear C_0
  have X_3 := hide (X_1.out.below hb1)
  clear X_1
  clear hb1
  obtain ⟨xc0, xc1, xc2, xc3, xc4, xlt⟩ := X_3.out
  have HOW := World.ownsRow_lit (base := w1.heap.size) (e := 32) (size := 5) w1 #[.int .i64 x.k, .string x.t, .slice a1 x.l.length c1, .slice a2 x.p.length c2, .slice a3 x.s.length c3] 1 (Nat.le_refl _) (by decide) rfl
  have HBW : Below w1.heap.size w1 (w1.alloc (.cells #[.int .i64 x.k, .string x.t, .slice a1 x.l.length c1, .slice a2 x.p.length c2, .slice a3 x.s.length c3] 32)) := (Below.refl _ w1).alloc (Nat.le_refl _) _
  have HIW := HI.out.below C_2
  have HXW := HX.out.below C_2
  go_wp2_with (at_builtin; go_loud (refine wpList_append_items rfl _ _ rfl w1 HBW _ x a1 a2 a3 c1 c2 c3 aa ca NL NA xs HNL.out HNA.out rfl rfl HOW HIW HXW hxl ?_))
  intro ao cap w2 iall hb2
  clear HOW HBW HIW HXW
  clear xc0 xc1 xc2 xc3 xc4 xlt
  have C_4 : Below w.heap.size w w2 := C_2.trans (hb2.mono C_2.size)
  clear C_2
  have X_5 := hide (X_3.out.below hb2)
  clear X_3
  clear hb2
  have ALL_6 := hide (iall)
  clear iall
  go_wp2_with fail
  refine (HM.out _ ao cap ALL_6.out).mono ?_
  rintro e w3 ⟨⟨aM, cM, rfl, iM⟩, hb3⟩
  have C_7 : Below w.heap.size w w3 := C_4.trans (hb3.mono C_4.size)
  clear C_4
  have X_8 := hide (X_5.out.below hb3)
  have ALL_8 := hide (ALL_6.out.below hb3)
  clear X_5 ALL_6
  clear hb3
  have TM_9 := hide (iM)
  clear iM
  go_wp2_with fail
  refine (HJ.out _ ao cap ALL_8.out).mono ?_
  rintro e w4 ⟨⟨aJ, cJ, rfl, iJ⟩, hb4⟩
  have C_10 : Below w.heap.size w w4 := C_7.trans (hb4.mono C_7.size)
  clear C_7
  have X_11 := hide (X_8.out.below hb4)
  have ALL_11 := hide (ALL_8.out.below hb4)
  have TM_11 := hide (TM_9.out.below hb4)
  clear X_8 ALL_8 TM_9
  clear hb4
  have TJ_12 := hide (iJ)
  clear iJ
  go_wp2_with fail
  refine (HL.out _ ao cap ALL_11.out).mono ?_
  rintro e w5 ⟨⟨aD, cD, rfl, iD⟩, hb5⟩
  have C_13 : Below w.heap.size w w5 := C_10.trans (hb5.mono C_10.size)
  clear C_10
  have X_14 := hide (X_11.out.below hb5)
  have ALL_14 := hide (ALL_11.out.below hb5)
  have TM_14 := hide (TM_11.out.below hb5)
  have TJ_14 := hide (TJ_12.out.below hb5)
  clear X_11 ALL_11 TM_11 TJ_12
  clear hb5
  have TD_15 := hide (iD)
  clear iD
  clear X_14 ALL_14 TM_14 TJ_14 TD_15 HM HJ HL HG HI HX HX1 hsum
  go_wp2_with fail
  go_ret
  exact ⟨rfl, C_13⟩
set_option maxRecDepth 100000 in
set_option maxHeartbeats 16000000 in
theorem setParts_walk_nil (v : Value) (x : Itm) (aa : Option Addr) (ca : Nat) (xs : List Itm) (w : World) (h : ItemIs w v x) (hx : ItemsAt w aa xs) (hxl : xs.length ≤ 1400000) (hsum : ((x :: xs).map Itm.l).flatten.length ≤ 1500000) (hz : setsF (x :: xs) = 0) (hnil : xs = []) :
    Calls Try.prog 7 #[v, .slice aa xs.length ca] w fun e w' => e = .returned (.bool true) ∧ Below w.heap.size w w' := by
  have HI := hide h
  have HX := hide hx
  obtain ⟨⟨a1, c1, a2, c2, a3, c3, rfl, hx1, -, -⟩, -, -, -, -, -, -, -⟩ := h
  have HX1 := hide hx1
  clear hx hx1
  have hxl : xs.length ≤ 1500000 := by omega
  have hal : (x :: xs).length ≤ 1500000 := by simp; omega
  have HG := hide setBegun_any
  obtain ⟨NL, hNL⟩ : ∃ n, n = xs.length := ⟨_, rfl⟩
  obtain ⟨NA, hNA⟩ : ∃ n, n = (x :: xs).length := ⟨_, rfl⟩
  rw [← hNL]
  have HNL := hide hNL
  have HNA := hide hNA
  have HNN : Hid (NA = NL + 1) := by rw [Hid, hNA, hNL, List.length_cons]
  have HM : Hid (∀ W a c, ItemsAt W a (x :: xs) → Calls Try.prog 28 #[.slice a NA c] W fun e w' => (∃ a c, e = .returned (.tuple #[.slice a (partP (askM (x :: xs)) (x :: xs)).length c, .int .i64 (setsF (x :: xs))]) ∧ TextsAt w' a (partP (askM (x :: xs)) (x :: xs))) ∧ Below W.heap.size W w') := fun W a c hW => HNA.out ▸ (meet_any a c _ W hW hal hsum _ _ ⟨rfl, rfl⟩).mono fun e w' ⟨a, c, h1, h2, h3⟩ => ⟨⟨a, c, h1, h2 w' (fun _ _ _ _ h => h)⟩, h3⟩
  have HJ : Hid (∀ W a c, ItemsAt W a (x :: xs) → Calls Try.prog 29 #[.slice a NA c] W fun e w' => (∃ a c, e = .returned (.tuple #[.slice a (partP (askJ (x :: xs)) (x :: xs)).length c, .int .i64 (setsF (x :: xs))]) ∧ TextsAt w' a (partP (askJ (x :: xs)) (x :: xs))) ∧ Below W.heap.size W w') := fun W a c hW => HNA.out ▸ (joinS_any a c _ W hW hal hsum _ _ ⟨rfl, rfl⟩).mono fun e w' ⟨a, c, h1, h2, h3⟩ => ⟨⟨a, c, h1, h2 w' (fun _ _ _ _ h => h)⟩, h3⟩
  have HL : Hid (∀ W a c, ItemsAt W a (x :: xs) → Calls Try.prog 30 #[.slice a NA c] W fun e w' => (∃ a c, e = .returned (.tuple #[.slice a (partP (askL1 (x :: xs)) (x :: xs)).length c, .int .i64 (setsF (x :: xs))]) ∧ TextsAt w' a (partP (askL1 (x :: xs)) (x :: xs))) ∧ Below W.heap.size W w') := fun W a c hW => HNA.out ▸ (lessS_any a c _ W hW hal hsum _ _ ⟨rfl, rfl⟩).mono fun e w' ⟨a, c, h1, h2, h3⟩ => ⟨⟨a, c, h1, h2 w' (fun _ _ _ _ h => h)⟩, h3⟩
  clear hNL hNA hal
  have hNA15 : NA ≤ 1500000 := by rw [HNA.out]; simp; omega
  have hAll := setsE_zero (setsF_cons ▸ hz)
  have e1 : partP (askM (x :: xs)) (x :: xs) = thoseL (askM (x :: xs)) ((x :: xs).map Itm.l) := if_pos hz
  have e2 : partP (askJ (x :: xs)) (x :: xs) = thoseL (askJ (x :: xs)) ((x :: xs).map Itm.l) := if_pos hz
  have e3 : partP (askL1 (x :: xs)) (x :: xs) = thoseL (askL1 (x :: xs)) ((x :: xs).map Itm.l) := if_pos hz
  have hl1 : (partP (askM (x :: xs)) (x :: xs)).length ≤ 281474976710656 := part_len _ _ (by omega)
  have hl2 : (partP (askJ (x :: xs)) (x :: xs)).length ≤ 281474976710656 := part_len _ _ (by omega)
  have hl3 : (partP (askL1 (x :: xs)) (x :: xs)).length ≤ 281474976710656 := part_len _ _ (by omega)
  have HH : Hid (∀ W v y s, ItemIs W v y → y ∈ x :: xs → s ∈ partP (askM (x :: xs)) (x :: xs) → Calls Try.prog 27 #[v, .string s] W fun e w' => e = .returned (.tuple #[.bool true, .int .i64 0]) ∧ Below W.heap.size W w') := fun W v y s h1 h2 h3 => by
    have hh := has_any v y s W h1
    rw [hasE, if_pos (hAll y h2), hAll y h2, part1 (e1 ▸ h3) h2] at hh
    exact hh
  have HIJ : Hid (∀ W a c y s, TextsAt W a (partP (askJ (x :: xs)) (x :: xs)) → y ∈ x :: xs → s ∈ y.l → Calls Try.prog 34 #[.slice a (partP (askJ (x :: xs)) (x :: xs)).length c, .string s] W fun e w' => e = .returned (.bool true) ∧ Below W.heap.size W w') := fun W a c y s h1 h2 h3 => (inList_any a c _ s W h1 hl2).mono fun e w' ⟨h4, h5⟩ => ⟨by rw [h4, e2, part2 h2 h3], h5 ▸ Below.refl _ _⟩
  have HIL : Hid (∀ y ∈ x :: xs, y.l.length ≤ 24) := fun y hy => (asI_set (hAll y hy)).2.1
  have hx24 : x.l.length ≤ 24 := HIL.out x (by simp)
  have HST : Hid (∀ a b c d T W, T = partP (askL1 (x :: xs)) (x :: xs) → TextsAt W a T → TextsAt W b T → Calls Try.prog 24 #[.slice a T.length c, .slice b T.length d] W fun e w' => e = .returned (.bool true) ∧ Below W.heap.size W w') := fun a b c d T W hT h1 h2 => by
    have hh := sameT_any a b c d _ _ W h1 h2 (by rw [hT]; exact hl3)
    rw [decide_eq_true rfl] at hh
    exact hh
  have hr := (asI_set (hAll x (by simp))).1
  have g1 : partP (askM (x :: xs)) (x :: xs) = x.l := by subst hnil; exact e1.trans (part3 hr _ (fun s hs => by simp [askM]))
  have g2 : partP (askJ (x :: xs)) (x :: xs) = x.l := by subst hnil; exact e2.trans (part3 hr _ (fun s hs => rfl))
  have g3 : partP (askL1 (x :: xs)) (x :: xs) = x.l := by subst hnil; exact e3.trans (part3 hr _ (fun s hs => by simp [askL1, hasT_iff.2 hs]))
  rw [g1] at HM HH
  rw [g2] at HJ HIJ
  rw [g3] at HL HST
  rw [g1] at hl1
  rw [g2] at hl2
  rw [g3] at hl3
  clear e1 e2 e3 g1 g2 g3 hr hAll
  have hNL0 : (((NL : Nat) : Int) == 0) = true := by rw [HNL.out, hnil]; rfl
  clear hnil
  rw [hz] at HM HJ HL
  go_enter Try.func7, Try.ntmps7
  go_wp2_with fail
  have C_0 : Below w.heap.size w (w.alloc (.cells #[.int .i64 x.k, .string x.t, .slice a1 x.l.length c1, .slice a2 x.p.length c2, .slice a3 x.s.length c3] 32)) := (Below.refl _ w).alloc (Nat.le_refl _) _
  have X_1 := hide (BoxAt.new w (.int .i64 x.k) (.string x.t) (.slice a1 x.l.length c1) (.slice a2 x.p.length c2) (.slice a3 x.s.length c3) 32)
  refine (HG.out _).mono ?_
  rintro e w1 ⟨rfl, hb1⟩
  have C_2 : Below w.heap.size w w1 := C_0.trans (hb1.mono C_0.size)
  clear C_0
  have X_3 := hide (X_1.out.below hb1)
  clear X_1
  clear hb1
  obtain ⟨xc0, xc1, xc2, xc3, xc4, xlt⟩ := X_3.out
  have HOW := World.ownsRow_lit (base := w1.heap.size) (e := 32) (size := 5) w1 #[.int .i64 x.k, .string x.t, .slice a1 x.l.length c1, .slice a2 x.p.length c2, .slice a3 x.s.length c3] 1 (Nat.le_refl _) (by decide) rfl
  have HBW : Below w1.heap.size w1 (w1.alloc (.cells #[.int .i64 x.k, .string x.t, .slice a1 x.l.length c1, .slice a2 x.p.length c2, .slice a3 x.s.length c3] 32)) := (Below.refl _ w1).alloc (Nat.le_refl _) _
  have HIW := HI.out.below C_2
  have HXW := HX.out.below C_2
  go_wp2_with (at_builtin; go_loud (refine wpList_append_items rfl _ _ rfl w1 HBW _ x a1 a2 a3 c1 c2 c3 aa ca NL NA xs HNL.out HNA.out rfl rfl HOW HIW HXW hxl ?_))
  intro ao cap w2 iall hb2
  clear HOW HBW HIW HXW
  clear xc0 xc1 xc2 xc3 xc4 xlt
  have C_4 : Below w.heap.size w w2 := C_2.trans (hb2.mono C_2.size)
  clear C_2
  have X_5 := hide (X_3.out.below hb2)
  clear X_3
  clear hb2
  have ALL_6 := hide (iall)
  clear iall
  go_wp2_with fail
  refine (HM.out _ ao cap ALL_6.out).mono ?_
  rintro e w3 ⟨⟨aM, cM, rfl, iM⟩, hb3⟩
  have C_7 : Below w.heap.size w w3 := C_4.trans (hb3.mono C_4.size)
  clear C_4
  have X_8 := hide (X_5.out.below hb3)
  have ALL_8 := hide (ALL_6.out.below hb3)
  clear X_5 ALL_6
  clear hb3
  have TM_9 := hide (iM)
  clear iM
  go_wp2_with fail
  refine (HJ.out _ ao cap ALL_8.out).mono ?_
  rintro e w4 ⟨⟨aJ, cJ, rfl, iJ⟩, hb4⟩
  have C_10 : Below w.heap.size w w4 := C_7.trans (hb4.mono C_7.size)
  clear C_7
  have X_11 := hide (X_8.out.below hb4)
  have ALL_11 := hide (ALL_8.out.below hb4)
  have TM_11 := hide (TM_9.out.below hb4)
  clear X_8 ALL_8 TM_9
  clear hb4
  have TJ_12 := hide (iJ)
  clear iJ
  go_wp2_with fail
  refine (HL.out _ ao cap ALL_11.out).mono ?_
  rintro e w5 ⟨⟨aD, cD, rfl, iD⟩, hb5⟩
  have C_13 : Below w.heap.size w w5 := C_10.trans (hb5.mono C_10.size)
  clear C_10
  have X_14 := hide (X_11.out.below hb5)
  have ALL_14 := hide (ALL_11.out.below hb5)
  have TM_14 := hide (TM_11.out.below hb5)
  have TJ_14 := hide (TJ_12.out.below hb5)
  clear X_11 ALL_11 TM_11 TJ_12
  clear hb5
  have TD_15 := hide (iD)
  clear iD
  go_wp2_with fail
  go_loopw [12] (fun i wr => ∃ q : Nat, q ≤ NA ∧ i = .int .i64 q ∧ Below w5.heap.size w5 wr) (fun i _ => NA - (intOf i).toNat)
  case atStart => exact ⟨0, Nat.zero_le _, rfl, Below.refl _ _⟩
  case round =>
    obtain ⟨q, hq, rfl, hbr1⟩ := hrel
    obtain ⟨wq1, hwq⟩ : ∃ wq, wq = wr := ⟨wr, rfl⟩
    subst hwq
    have X_16 := hide (X_14.out.below hbr1)
    have ALL_17 := hide (ALL_14.out.below hbr1)
    have TM_18 := hide (TM_14.out.below hbr1)
    have TJ_19 := hide (TJ_14.out.below hbr1)
    have TD_20 := hide (TD_15.out.below hbr1)
    have C_21 : Below w.heap.size w wq1 := C_13.trans (hbr1.mono C_13.size)
    by_cases hltq : q < NA
    · have hltq' : ((q : Nat) : Int) < ((NA : Nat) : Int) := by omega
      obtain ⟨g, o, rfl, hcs⟩ : ∃ g o, ao = some ⟨g, o, none⟩ ∧ ∀ i (h : i < (x :: xs).length), ∃ a1 c1 a2 c2 a3 c3, (wq1.cell? ⟨g, o + i * 5, none⟩ = some (.int .i64 (x :: xs)[i].k) ∧ wq1.cell? ⟨g, o + i * 5 + 1, none⟩ = some (.string (x :: xs)[i].t) ∧ wq1.cell? ⟨g, o + i * 5 + 2, none⟩ = some (.slice a1 (x :: xs)[i].l.length c1) ∧ wq1.cell? ⟨g, o + i * 5 + 3, none⟩ = some (.slice a2 (x :: xs)[i].p.length c2) ∧ wq1.cell? ⟨g, o + i * 5 + 4, none⟩ = some (.slice a3 (x :: xs)[i].s.length c3)) ∧ ItemIs wq1 (.agg #[.int .i64 (x :: xs)[i].k, .string (x :: xs)[i].t, .slice a1 (x :: xs)[i].l.length c1, .slice a2 (x :: xs)[i].p.length c2, .slice a3 (x :: xs)[i].s.length c3]) (x :: xs)[i] := by
        rcases ALL_17.out with h | h
        · cases h
        · exact h
      obtain ⟨b1, f1, b2, f2, b3, f3, hds, hIq⟩ := hcs q (HNA.out ▸ hltq)
      have hYM : (x :: xs)[q]'(HNA.out ▸ hltq) ∈ x :: xs := List.getElem_mem _
      generalize (x :: xs)[q]'(HNA.out ▸ hltq) = Y at *
      have HYM := hide hYM
      have HIY := hide hIq
      have HDS := hide hds
      have hY24 := HIL.out Y hYM
      have HTY : Hid (TextsAt wq1 b1 Y.l) := item_list HIY.out
      clear hcs hYM hIq hds
      generalize hYl : Y.l = YL at *
      have HYL := hide hYl
      clear hYl
      go_wp2_with fail
      go_loopw [13] (fun i wr => ∃ q : Nat, q ≤ x.l.length ∧ i = .int .i64 q ∧ Below wq1.heap.size wq1 wr) (fun i _ => x.l.length - (intOf i).toNat)
      case atStart => exact ⟨0, Nat.zero_le _, rfl, Below.refl _ _⟩
      case round =>
        obtain ⟨r, hr, rfl, hbr2⟩ := hrel
        obtain ⟨wq2, hwq⟩ : ∃ wq, wq = wr := ⟨wr, rfl⟩
        subst hwq
        have X_22 := hide (X_16.out.below hbr2)
        have TM_23 := hide (TM_18.out.below hbr2)
        have TJ_24 := hide (TJ_19.out.below hbr2)
        have TD_25 := hide (TD_20.out.below hbr2)
        have C_26 : Below w.heap.size w wq2 := C_21.trans (hbr2.mono C_21.size)
        by_cases hltr : r < x.l.length
        · have hltr' : ((r : Nat) : Int) < ((x.l.length : Nat) : Int) := by omega
          obtain ⟨gM, oM, rfl, hcsM⟩ : ∃ g o, aM = some ⟨g, o, none⟩ ∧ ∀ i (h : i < x.l.length), wq2.cell? ⟨g, o + i, none⟩ = some (.string x.l[i]) := by
            rcases TM_23.out with h | h
            · exact absurd hltr (by rw [h]; simp)
            · exact h
          have dtM := hcsM r hltr
          clear hcsM
          have HE1 : Hid (x.l[r] ∈ x.l) := List.getElem_mem _
          generalize x.l[r] = s1 at *
          obtain ⟨d0, d1, d2, d3, d4⟩ := HDS.out
          have d0 := (hbr2.cell (World.block_lt_of_cell? _ _ d0)).trans d0
          have d1 := (hbr2.cell (World.block_lt_of_cell? _ _ d1)).trans d1
          have d2 := (hbr2.cell (World.block_lt_of_cell? _ _ d2)).trans d2
          have d3 := (hbr2.cell (World.block_lt_of_cell? _ _ d3)).trans d3
          have d4 := (hbr2.cell (World.block_lt_of_cell? _ _ d4)).trans d4
          go_wp2_with fail
          go_region_law (go_simp; refine (HH.out _ _ Y s1 ((HIY.out.below hbr2).below (below_drewN' (Below.refl _ _) _)) HYM.out HE1.out).mono ?_; rintro e w6 ⟨rfl, hbi0⟩; have hbi : Below wq2.heap.size wq2 w6 := (below_drewN' (Below.refl _ wq2) _).trans hbi0)
          all_goals
            have HRB : Hid (Below wq1.heap.size wq1 w6) := hbr2.trans (hbi.mono hbr2.size)
            go_wp2_with fail
            go_roundw
            case rel => exact ⟨r + 1, by omega, by go_num, HRB.out⟩
            case measure => simp [intOf]; omega
        · have hger : ¬ ((r : Nat) : Int) < ((x.l.length : Nat) : Int) := by omega
          obtain ⟨d0, d1, d2, d3, d4⟩ := HDS.out
          have d0 := (hbr2.cell (World.block_lt_of_cell? _ _ d0)).trans d0
          have d1 := (hbr2.cell (World.block_lt_of_cell? _ _ d1)).trans d1
          have d2 := (hbr2.cell (World.block_lt_of_cell? _ _ d2)).trans d2
          have d3 := (hbr2.cell (World.block_lt_of_cell? _ _ d3)).trans d3
          have d4 := (hbr2.cell (World.block_lt_of_cell? _ _ d4)).trans d4
          go_wp2_with fail
          clear d0 d1 d2 d3 d4
          go_loopw [16] (fun i wr => ∃ q : Nat, q ≤ YL.length ∧ i = .int .i64 q ∧ Below wq2.heap.size wq2 wr) (fun i _ => YL.length - (intOf i).toNat)
          case atStart => exact ⟨0, Nat.zero_le _, rfl, Below.refl _ _⟩
          case round =>
            obtain ⟨p, hp, rfl, hbr3⟩ := hrel
            obtain ⟨wq3, hwq⟩ : ∃ wq, wq = wr := ⟨wr, rfl⟩
            subst hwq
            have X_27 := hide (X_22.out.below hbr3)
            have TM_28 := hide (TM_23.out.below hbr3)
            have TJ_29 := hide (TJ_24.out.below hbr3)
            have TD_30 := hide (TD_25.out.below hbr3)
            have C_31 : Below w.heap.size w wq3 := C_26.trans (hbr3.mono C_26.size)
            by_cases hltp : p < YL.length
            · have hltp' : ((p : Nat) : Int) < ((YL.length : Nat) : Int) := by omega
              obtain ⟨d0, d1, d2, d3, d4⟩ := HDS.out
              have d0 := ((hbr2.trans (hbr3.mono hbr2.size)).cell (World.block_lt_of_cell? _ _ d0)).trans d0
              have d1 := ((hbr2.trans (hbr3.mono hbr2.size)).cell (World.block_lt_of_cell? _ _ d1)).trans d1
              have d2 := ((hbr2.trans (hbr3.mono hbr2.size)).cell (World.block_lt_of_cell? _ _ d2)).trans d2
              have d3 := ((hbr2.trans (hbr3.mono hbr2.size)).cell (World.block_lt_of_cell? _ _ d3)).trans d3
              have d4 := ((hbr2.trans (hbr3.mono hbr2.size)).cell (World.block_lt_of_cell? _ _ d4)).trans d4
              obtain ⟨gY, oY, rfl, hcsY⟩ : ∃ g o, b1 = some ⟨g, o, none⟩ ∧ ∀ i (h : i < YL.length), wq1.cell? ⟨g, o + i, none⟩ = some (.string YL[i]) := by
                rcases HTY.out with h | h
                · subst h; simp at hltp
                · exact h
              have dtY := ((hbr2.trans (hbr3.mono hbr2.size)).cell (World.block_lt_of_cell? _ _ (hcsY p hltp))).trans (hcsY p hltp)
              have HE2 : Hid (YL[p] ∈ Y.l) := by rw [Hid, HYL.out]; exact List.getElem_mem _
              clear hcsY
              generalize YL[p] = s2 at *
              go_wp2_with fail
              refine (HIJ.out _ _ _ Y s2 TJ_29.out HYM.out HE2.out).mono ?_
              rintro e w6 ⟨rfl, hbi⟩
              all_goals
                have HRB : Hid (Below wq2.heap.size wq2 w6) := hbr3.trans (hbi.mono hbr3.size)
                go_wp2_with fail
                go_roundw
                case rel => exact ⟨p + 1, by omega, by go_num, HRB.out⟩
                case measure => simp [intOf]; omega
            · have hgep : ¬ ((p : Nat) : Int) < ((YL.length : Nat) : Int) := by omega
              obtain ⟨d0, d1, d2, d3, d4⟩ := HDS.out
              have d0 := ((hbr2.trans (hbr3.mono hbr2.size)).cell (World.block_lt_of_cell? _ _ d0)).trans d0
              have d1 := ((hbr2.trans (hbr3.mono hbr2.size)).cell (World.block_lt_of_cell? _ _ d1)).trans d1
              have d2 := ((hbr2.trans (hbr3.mono hbr2.size)).cell (World.block_lt_of_cell? _ _ d2)).trans d2
              have d3 := ((hbr2.trans (hbr3.mono hbr2.size)).cell (World.block_lt_of_cell? _ _ d3)).trans d3
              have d4 := ((hbr2.trans (hbr3.mono hbr2.size)).cell (World.block_lt_of_cell? _ _ d4)).trans d4
              have HRB : Hid (Below w5.heap.size w5 wq3) := (hbr1.trans (hbr2.mono hbr1.size)).trans (hbr3.mono (hbr1.trans (hbr2.mono hbr1.size)).size)
              go_wp2_with fail
              go_roundw
              case rel => exact ⟨q + 1, by omega, by go_num, HRB.out⟩
              case measure => simp [intOf]; omega
    · have hgeq : ¬ ((q : Nat) : Int) < ((NA : Nat) : Int) := by omega
      obtain ⟨xc0, xc1, xc2, xc3, xc4, xlt⟩ := X_16.out
      go_wp2_with fail
      refine (HST.out _ _ _ _ _ _ rfl TD_20.out (HX1.out.below C_21)).mono ?_
      rintro e w6 ⟨rfl, hb6⟩
      clear xc0 xc1 xc2 xc3 xc4 xlt
      have C_22 : Below w.heap.size w w6 := C_21.trans (hb6.mono C_21.size)
      clear C_21
      have X_23 := hide (X_16.out.below hb6)
      have ALL_23 := hide (ALL_17.out.below hb6)
      have TM_23 := hide (TM_18.out.below hb6)
      have TJ_23 := hide (TJ_19.out.below hb6)
      have TD_23 := hide (TD_20.out.below hb6)
      clear X_16 ALL_17 TM_18 TJ_19 TD_20
      clear hb6
      go_wp2_with fail
      refine (HST.out _ _ _ _ _ _ rfl TM_23.out TD_23.out).mono ?_
      rintro e w7 ⟨rfl, hb7⟩
      have C_24 : Below w.heap.size w w7 := C_22.trans (hb7.mono C_22.size)
      clear C_22
      have X_25 := hide (X_23.out.below hb7)
      have ALL_25 := hide (ALL_23.out.below hb7)
      have TM_25 := hide (TM_23.out.below hb7)
      have TJ_25 := hide (TJ_23.out.below hb7)
      have TD_25 := hide (TD_23.out.below hb7)
      clear X_23 ALL_23 TM_23 TJ_23 TD_23
      clear hb7
      go_wp2_with fail
      refine (HST.out _ _ _ _ _ _ rfl TJ_25.out TD_25.out).mono ?_
      rintro e w8 ⟨rfl, hb8⟩
      have C_26 : Below w.heap.size w w8 := C_24.trans (hb8.mono C_24.size)
      clear C_24
      have X_27 := hide (X_25.out.below hb8)
      have ALL_27 := hide (ALL_25.out.below hb8)
      have TM_27 := hide (TM_25.out.below hb8)
      have TJ_27 := hide (TJ_25.out.below hb8)
      have TD_27 := hide (TD_25.out.below hb8)
      clear X_25 ALL_25 TM_25 TJ_25 TD_25
      clear hb8
      go_wp2_with fail
      go_ret
      exact ⟨rfl, C_26⟩
end Go.Proofs.Ytkjnalbnhmpopaa
