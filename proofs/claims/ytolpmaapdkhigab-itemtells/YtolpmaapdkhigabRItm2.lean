/- WALK of the reference's item out of bytes: what is none, and texts. -/
import Derived.Test.YtolpmaapdkhigabRItm1
import Derived.BigRegion
import Derived.Deep.AppendLies
import Derived.Handy
namespace Go.Proofs.Ytolpmaapdkhigab
open Go.RowKit

theorem bytes_mkT (s : ByteArray) : (⟨s.data.toList.toArray⟩ : ByteArray) = s := by
  cases s
  simp
theorem dec_none {l : List UInt8} (h : pItem l = none) : decE l = 1 ∧ decI l = Itm.none := by
  unfold decE decI
  rw [h]
  exact ⟨rfl, rfl⟩
theorem dec_some {l : List UInt8} {x : Itm} (h : pItem l = some x) : decE l = chkI x ∧ (chkI x = 0 → decI l = x) ∧ (chkI x ≠ 0 → decI l = Itm.none) := by
  unfold decE decI
  rw [h]
  exact ⟨rfl, fun h => if_pos h, fun h => if_neg h⟩
set_option maxRecDepth 100000 in
set_option maxHeartbeats 4000000 in
theorem itemOf_nil (s : ByteArray) (w : World) (hs : s.size ≤ 281474976710656) (hl : s = ⟨#[]⟩) (HDN : Hid (decE s.data.toList = 1 ∧ decI s.data.toList = Itm.none)) :
    Calls Try.prog 12 #[.string s] w fun e w' => ∃ u, e = .returned (.tuple #[u, .int .i64 (decE s.data.toList)]) ∧ (∀ W, Stays w.heap.size w' W → ItemIs W u (decI s.data.toList)) ∧ Below w.heap.size w w' := by
  have HL := hide hl
  clear hl
  go_enter Try.func12, Try.ntmps12
  go_wp2_with fail
  generalize hW : World.alloc _ _ = W
  have BG := hide (begin_of s w W (by rw [← hW]) hs)
  clear hW
  refine (takerOne_bad (w.heap.size + 1) s false W BG.out.2.2.1 (.inr HL.out)).mono ?_
  rintro e w1 ⟨rfl, h1, hk1⟩
  have F0 := hide (OfAt.start (k := 0) BG.out hk1 h1)
  have hxx := F0.out.hx
  have t0 := h1.c0
  have t1 := h1.c1
  clear h1 hk1 BG
  clear HL hs
  obtain ⟨r0, r1, r2, r3, r4, rlt⟩ := F0.out.r
  have g0 := F0.out.rs 0
  have g1 := F0.out.rs 1
  have g2 := F0.out.rs 2
  have g3 := F0.out.rs 3
  have g4 := F0.out.rs 4
  have hbz := F0.out.c
  go_wp2_with fail
  refine bodyPost_ret (v := .tuple #[.agg #[.int .i64 0, .string ⟨#[]⟩, .slice none 0 0, .slice none 0 0, .slice none 0 0], .int .i64 1]) (by simp [results, Try.results12, go_sem, r0, r1, r2, r3, r4]) rfl ⟨_, by rw [HDN.out.1], fun W' _ => by rw [HDN.out.2]; exact zero_isd W', ?_⟩
  clear F0
  go_grown
set_option maxRecDepth 100000 in
set_option maxHeartbeats 4000000 in
theorem itemOf_other (s : ByteArray) (c : UInt8) (l : List UInt8) (w : World) (hs : s.size ≤ 281474976710656) (hl : s = ⟨(c :: l).toArray⟩) (hc : c.toNat < 1 ∨ 5 < c.toNat) (HDN : Hid (decE s.data.toList = 1 ∧ decI s.data.toList = Itm.none)) :
    Calls Try.prog 12 #[.string s] w fun e w' => ∃ u, e = .returned (.tuple #[u, .int .i64 (decE s.data.toList)]) ∧ (∀ W, Stays w.heap.size w' W → ItemIs W u (decI s.data.toList)) ∧ Below w.heap.size w w' := by
  have hcb := byte_lt c
  have hc' : ((c.toNat : Nat) : Int) ≤ 255 := by omega
  have HL := hide hl
  clear hl
  go_enter Try.func12, Try.ntmps12
  go_wp2_with fail
  generalize hW : World.alloc _ _ = W
  have BG := hide (begin_of s w W (by rw [← hW]) hs)
  clear hW
  refine (takerOne_ok (w.heap.size + 1) c l W (by rw [← HL.out]; exact BG.out.2.2.1)).mono ?_
  rintro e w1 ⟨rfl, h1, hk1⟩
  have F0 := hide (OfAt.start (k := ((c.toNat : Nat) : Int)) BG.out hk1 h1)
  have hxx := F0.out.hx
  have t0 := h1.c0
  have t1 := h1.c1
  clear h1 hk1 BG
  go_wp2_with fail
  clear t0 t1
  generalize hbx : w1.heap.size = bx at *
  generalize hW2 : World.alloc w1 _ = W2 at *
  clear hW2 hbx
  obtain ⟨x0, x1, x2, x3, x4, xlt⟩ := F0.out.x
  have t0 := F0.out.t.c0
  have t1 := F0.out.t.c1
  refine (bf 1 _ 5 _ (by omega)).mono ?_
  rintro e w3 ⟨rfl, rfl⟩
  clear x0 x1 x2 x3 x4 xlt t0 t1
  obtain ⟨r0, r1, r2, r3, r4, rlt⟩ := F0.out.r
  have g0 := F0.out.rs 0
  have g1 := F0.out.rs 1
  have g2 := F0.out.rs 2
  have g3 := F0.out.rs 3
  have g4 := F0.out.rs 4
  have t0 := F0.out.t.c0
  have t1 := F0.out.t.c1
  have hbz := F0.out.c
  go_wp2_with fail
  refine bodyPost_ret (v := .tuple #[.agg #[.int .i64 0, .string ⟨#[]⟩, .slice none 0 0, .slice none 0 0, .slice none 0 0], .int .i64 1]) (by simp [results, Try.results12, go_sem, r0, r1, r2, r3, r4]) rfl ⟨_, by rw [HDN.out.1], fun W' _ => by rw [HDN.out.2]; exact zero_isd W', ?_⟩
  clear F0
  go_grown
set_option maxRecDepth 100000 in
set_option maxHeartbeats 800000 in
theorem itemOf_text (s : ByteArray) (c : UInt8) (TX : ByteArray) (w : World) (hs : s.size ≤ 281474976710656) (hl : s = ⟨(c :: TX.data.toList).toArray⟩) (hc : c.toNat = 1) (HDS : Hid (decE s.data.toList = chkI ⟨1, TX, [], [], []⟩ ∧ (chkI ⟨1, TX, [], [], []⟩ = 0 → decI s.data.toList = ⟨1, TX, [], [], []⟩) ∧ (chkI ⟨1, TX, [], [], []⟩ ≠ 0 → decI s.data.toList = Itm.none))) :
    Calls Try.prog 12 #[.string s] w fun e w' => ∃ u, e = .returned (.tuple #[u, .int .i64 (decE s.data.toList)]) ∧ (∀ W, Stays w.heap.size w' W → ItemIs W u (decI s.data.toList)) ∧ Below w.heap.size w w' := by
  have hll : TX.size ≤ 281474976710656 := by rw [hl, size_mk, List.length_cons, size_list] at hs; omega
  have hlz : ((TX.size : Nat) : Int) ≤ 281474976710656 := by omega
  have HSZ : Hid (TX.size ≤ maxLen) := by rw [Hid]; unfold maxLen; omega
  have HO : Hid (∀ W, TakeAt (w.heap.size + 1) s false W → Calls Try.prog 33 #[.pointer (some ⟨w.heap.size + 1, 0, none⟩)] W fun e w' => e = .returned (.int .i64 1) ∧ TakeAt (w.heap.size + 1) TX false w' ∧ Kept (one (w.heap.size + 1)) W w') := fun W hW => by
    have hh := takerOne_ok (w.heap.size + 1) c TX.data.toList W (by rw [← hl]; exact hW)
    rw [hc, bytes_mkT] at hh
    exact hh
  have HT : Hid (∀ W, TakeAt (w.heap.size + 1) TX false W → Calls Try.prog 34 #[.pointer (some ⟨w.heap.size + 1, 0, none⟩), .int .i64 TX.size] W fun e w' => e = .returned (.string TX) ∧ TakeAt (w.heap.size + 1) ⟨#[]⟩ false w' ∧ Kept (one (w.heap.size + 1)) W w') := fun W hW => by
    have hh := takerText_ok (w.heap.size + 1) TX.data.toList TX.size W (by rw [bytes_mkT]; exact hW) (by rw [size_list]; exact Nat.le_refl _)
    rw [List.take_of_length_le (by rw [size_list]; exact Nat.le_refl _), List.drop_of_length_le (by rw [size_list]; exact Nat.le_refl _), bytes_mkT] at hh
    exact hh
  have HSS := hide hs
  clear hl hc hs
  go_enter Try.func12, Try.ntmps12
  go_wp2_with fail
  generalize hW : World.alloc _ _ = W
  have BG := hide (begin_of s w W (by rw [← hW]) HSS.out)
  clear hW
  refine (HO.out W BG.out.2.2.1).mono ?_
  rintro e w1 ⟨rfl, h1, hk1⟩
  have F0 := hide (OfAt.start (k := 1) BG.out hk1 h1)
  have hxx := F0.out.hx
  have t0 := h1.c0
  have t1 := h1.c1
  clear h1 hk1 BG
  go_wp2_with fail
  clear t0 t1
  generalize hbx : w1.heap.size = bx at *
  generalize hW2 : World.alloc w1 _ = W2 at *
  clear hW2 hbx
  obtain ⟨x0, x1, x2, x3, x4, xlt⟩ := F0.out.x
  have t0 := F0.out.t.c0
  have t1 := F0.out.t.c1
  refine (bn15 _ _ (by omega) (by omega)).mono ?_
  rintro e w3 ⟨rfl, rfl⟩
  go_wp2_with fail
  clear x0 x1 x2 x3 x4 xlt t0 t1
  refine (HT.out _ F0.out.t).mono ?_
  rintro e w4 ⟨rfl, h4, hk4⟩
  have F4 := hide (F0.out.taken hk4 h4)
  clear F0 h4 hk4 HT HO
  obtain ⟨x0, x1, x2, x3, x4, xlt⟩ := F4.out.x
  have xf := F4.out.xs 1
  have t0 := F4.out.t.c0
  have t1 := F4.out.t.c1
  have ne7 : bx ≠ w.heap.size + 1 := by omega
  have ne8 : w.heap.size + 1 ≠ bx := by omega
  go_wp2_with fail
  have F5 := hide (F4.out.set1 (.string TX))
  clear F4 x0 x1 x2 x3 x4 xlt xf t0 t1 ne7 ne8
  generalize World.setCell w4 _ _ = W5 at *
  have I5 : Hid (∀ W', Stays (bx + 1) W5 W' → ItemIs W' (.agg #[.int .i64 1, .string TX, .slice none 0 0, .slice none 0 0, .slice none 0 0]) ⟨1, TX, [], [], []⟩) := fun W' _ => ⟨⟨none, 0, none, 0, none, 0, rfl, .inl rfl, .inl rfl, .inl rfl⟩, HSZ.out, by simp, by simp, by simp, by simp, by simp, by simp⟩
  have HC := hide (refCheck_any (.agg #[.int .i64 1, .string TX, .slice none 0 0, .slice none 0 0, .slice none 0 0]) (⟨1, TX, [], [], []⟩) W5 (I5.out _ (fun _ _ _ _ h => h)))
  obtain ⟨E, hE⟩ : ∃ E, E = chkI (⟨1, TX, [], [], []⟩) := ⟨_, rfl⟩
  have HDE := hide HDS.out.1
  have HR0 := hide HDS.out.2.1
  have HRn := hide HDS.out.2.2
  rw [← hE] at HC HDE HR0 HRn
  clear hE HDS
  refine HC.out.mono ?_
  rintro e w9 ⟨rfl, hb9⟩
  have FX := hide (F5.out.grow (S := fun _ => False) (Kept.of_below hb9 _) (fun _ e => e.elim))
  have hzb := hb9.size
  have I3 : Hid (∀ W', Stays (bx + 1) w9 W' → ItemIs W' (.agg #[.int .i64 1, .string TX, .slice none 0 0, .slice none 0 0, .slice none 0 0]) (⟨1, TX, [], [], []⟩)) := fun W' hW' => I5.out W' (fun g o u hg hu => hW' g o u hg ((hb9.cell (p := ⟨g, o, none⟩) (World.block_lt_of_cell? _ _ hu)).trans hu))
  clear HC I5 F5 hb9
  obtain ⟨x0, x1, x2, x3, x4, xlt⟩ := FX.out.x
  obtain ⟨r0, r1, r2, r3, r4, rlt⟩ := FX.out.r
  have g0 := FX.out.rs 0
  have g1 := FX.out.rs 1
  have g2 := FX.out.rs 2
  have g3 := FX.out.rs 3
  have g4 := FX.out.rs 4
  have hbz := FX.out.c
  have hxx := FX.out.hx
  have ne5 : bx ≠ w.heap.size := by omega
  have ne6 : w.heap.size ≠ bx := by omega
  by_cases h0 : E = 0
  · have HRX := hide (HR0.out h0)
    clear HR0 HRn
    subst h0
    go_wp2_with fail
    refine bodyPost_ret (v := .tuple #[.agg #[.int .i64 1, .string TX, .slice none 0 0, .slice none 0 0, .slice none 0 0], .int .i64 0]) (by simp [results, Try.results12, go_sem, r0, r1, r2, r3, r4]) rfl ⟨_, by rw [HDE.out], fun W' hW' => ?_, ?_⟩
    · rw [HRX.out]
      exact I3.out W' (fun g o u hg hu => hW' g o u (by omega) ((five_off _ _ _ _ _ _ _ g o (by omega)).trans hu))
    · clear I3 FX
      go_grown
  · have HRX := hide (HRn.out h0)
    have h0' : (E == 0) = false := by rw [beq_eq_false_iff_ne]; exact h0
    clear HR0 HRn
    go_wp2_with fail
    refine bodyPost_ret (v := .tuple #[.agg #[.int .i64 0, .string ⟨#[]⟩, .slice none 0 0, .slice none 0 0, .slice none 0 0], .int .i64 E]) (by simp [results, Try.results12, go_sem, r0, r1, r2, r3, r4]) rfl ⟨_, by rw [HDE.out], fun W' hW' => ?_, ?_⟩
    · rw [HRX.out]
      exact zero_isd W'
    · clear I3 FX
      go_grown
end Go.Proofs.Ytolpmaapdkhigab
