/- WALK of engineBegun. -/
import Derived.Test.YtmaancidkpfopaaGreatDoorPart12
import Derived.Test.YtmaancidkpfopaaGreatDoorPart13
import Derived.Handy
namespace Go.Proofs.YtmaancidkpfopaaGreatDoor
open Go.RowKit

structure CellIs (w : World) (g o : Nat) (v : Value) : Prop where
  eq : w.cell? ⟨g, o, none⟩ = some v
theorem CellIs.below {w w' : World} {g o : Nat} {v : Value} (h : CellIs w g o v) (hb : Below w.heap.size w w') : CellIs w' g o v := ⟨(hb.cell (p := ⟨g, o, none⟩) (World.block_lt_of_cell? _ _ h.eq)).trans h.eq⟩
theorem words1 {W : World} {g T : Nat} {x : ByteArray} (h : W.heap[g]? = some (.cells #[.string x] T (0, 0))) : ∀ i (hi : i < [x].length), W.cell? ⟨g, 0 + i, none⟩ = some (.string [x][i])
  | 0, _ => by simp [World.cell?, h]
theorem words2 {W : World} {g T : Nat} {x y : ByteArray} (h : W.heap[g]? = some (.cells #[.string x, .string y] T (0, 0))) : ∀ i (hi : i < [x, y].length), W.cell? ⟨g, 0 + i, none⟩ = some (.string [x, y][i])
  | 0, _ => by simp [World.cell?, h]
  | 1, _ => by simp [World.cell?, h]
theorem words3 {W : World} {g T : Nat} {x y z : ByteArray} (h : W.heap[g]? = some (.cells #[.string x, .string y, .string z] T (0, 0))) : ∀ i (hi : i < [x, y, z].length), W.cell? ⟨g, 0 + i, none⟩ = some (.string [x, y, z][i])
  | 0, _ => by simp [World.cell?, h]
  | 1, _ => by simp [World.cell?, h]
  | 2, _ => by simp [World.cell?, h]
theorem words4 {W : World} {g T : Nat} {x y z u : ByteArray} (h : W.heap[g]? = some (.cells #[.string x, .string y, .string z, .string u] T (0, 0))) : ∀ i (hi : i < [x, y, z, u].length), W.cell? ⟨g, 0 + i, none⟩ = some (.string [x, y, z, u][i])
  | 0, _ => by simp [World.cell?, h]
  | 1, _ => by simp [World.cell?, h]
  | 2, _ => by simp [World.cell?, h]
  | 3, _ => by simp [World.cell?, h]
/-- the cells of an entry that an answer holds -/
theorem space_til {w : World} {a : Option Addr} {s : List Ent} (h : SpaceAt w a s) (i : Nat) (hi : i < s.length) : ∃ g o, a = some ⟨g, o, none⟩ ∧ CellIs w g (o + i * 7 + 6) (.int .i64 s[i].til) ∧ ∃ b c, CellIs w g (o + i * 7 + 3) (.slice b s[i].item.l.length c) := by
  rcases h with rfl | ⟨g, o, ha, hc⟩
  · simp at hi
  · obtain ⟨a1, c1, a2, c2, a3, c3, ⟨h0, h1, h2, h3, h4, h5, h6⟩, -⟩ := hc i hi
    exact ⟨g, o, ha, ⟨h6⟩, _, _, ⟨h3⟩⟩
def tT : ByteArray := ⟨#[116]⟩
def lT : ByteArray := ⟨#[108]⟩
def tenI : Itm := ⟨1, ⟨#[49, 48]⟩, [], [], []⟩
theorem eb_chk : chkSp sp0 = 0 := sb_chk
theorem eb_time : timeT 5 = true := by decide +kernel
theorem eb_i0 : addI (getR sp0 5 tT) ((pInt (⟨#[51]⟩ : ByteArray).data.toList).getD 0) = tenI := by kernel_rfl
theorem eb_i1 : putS sp0 5 tT tenI (untilR sp0 5 tT) = [⟨⟨#[108]⟩, rowY, 0⟩, ⟨⟨#[116]⟩, tenI, 10⟩] := by kernel_rfl
theorem eb_i2 : chgE sp0 5 tT tenI (addE (getR sp0 5 tT) ((pInt (⟨#[51]⟩ : ByteArray).data.toList).getD 0)) = 0 := by decide +kernel
theorem eb_i3 : addM (getR sp0 5 tT) ((pInt (⟨#[51]⟩ : ByteArray).data.toList).getD 0) = 10 := by decide +kernel
theorem eb_l1 : getR sp0 5 lT = rowY := by kernel_rfl
theorem eb_l2 : chgE sp0 5 lT (popI rowY true) (popE rowY) = 0 := by decide +kernel
theorem eb_l3 : putS sp0 5 lT (popI rowY true) (untilR sp0 5 lT) = [⟨⟨#[108]⟩, ⟨2, ⟨#[]⟩, [⟨#[98]⟩, ⟨#[97]⟩], [], []⟩, 0⟩, ⟨⟨#[116]⟩, ⟨1, ⟨#[55]⟩, [], [], []⟩, 10⟩] := by kernel_rfl
theorem eb_l4 : popS rowY true = ⟨#[97]⟩ := by decide +kernel
theorem eb_g1 : wholeE rowY = 7 := by decide +kernel
theorem eb_t1 : leftR sp0 5 tT = 5 := by decide +kernel
theorem eb_t2 : untilR sp0 5 tT = 10 := by decide +kernel
theorem eb_w1 : wordsE [⟨#[73, 78, 67, 82, 66, 89]⟩, tT, ⟨#[51]⟩] = 0 := by decide +kernel
theorem eb_w2 : wordsE [lpopW, lT] = 0 := by decide +kernel
theorem eb_w3 : wordsE [getW, lT] = 0 := by decide +kernel
theorem eb_w4 : wordsE [ttlW, tT] = 0 := by decide +kernel
theorem eb_k1 : knownE [⟨#[122, 97, 100, 100]⟩, ⟨#[107]⟩, ⟨#[49]⟩, ⟨#[109]⟩] = 0 := by decide +kernel
theorem eb_k2 : knownE [⟨#[122, 97, 100, 100]⟩, ⟨#[107]⟩, ⟨#[120]⟩, ⟨#[109]⟩] = 3 := by decide +kernel
theorem eb_k3 : knownE [⟨#[110, 111]⟩] = 5 := by decide +kernel
theorem eb_sz {l : List ByteArray} (h : l.all (fun t => decide (t.size ≤ 60)) = true) : ∀ t ∈ l, t.size ≤ maxLen := fun t ht => by
  have := List.all_eq_true.1 h t ht
  exact Nat.le_trans (by simpa using this) (by unfold maxLen; omega)
set_option maxRecDepth 100000 in
set_option maxHeartbeats 4000000 in
theorem engineBegun_any (w : World) (he : Env w) : Calls Tryz.prog 4 #[] w fun e w' => e = .returned (.bool true) ∧ Below w.heap.size w w' := by
  have HS : Hid (∀ W, Calls Tryz.prog 8 #[] W fun e w' => (∃ g, e = .returned (.slice (some ⟨g, 0, none⟩) 2 2) ∧ SpaceAt w' (some ⟨g, 0, none⟩) sp0) ∧ Below W.heap.size W w') := fun W => some_any W
  have HB1 : Hid (∀ g gl W, Below w.heap.size w W → SpaceAt W (some ⟨g, 0, none⟩) sp0 → W.heap[gl]? = some (.cells #[.string ⟨#[73, 78, 67, 82, 66, 89]⟩, .string ⟨#[116]⟩, .string ⟨#[51]⟩] 9 (0, 0)) → Calls Tryz.prog 5 #[.slice (some ⟨g, 0, none⟩) 2 2, .int .i64 5, .slice (some ⟨gl, 0, none⟩) 3 3] W fun e w' => (∃ h1 o1 c1, e = .returned (.tuple #[.slice (some ⟨h1, o1, none⟩) 2 c1, .agg #[.int .i64 3, .string ⟨#[]⟩, .int .i64 10, .slice none 0 0], .int .i64 0]) ∧ CellIs w' h1 (o1 + 13) (.int .i64 10)) ∧ Below W.heap.size W w') := fun g gl W hW hs hg => by
    have hh := do_incr (some ⟨g, 0, none⟩) 2 sp0 5 gl 0 3 ⟨#[73, 78, 67, 82, 66, 89]⟩ tT ⟨#[51]⟩ W (he.below hW) hs eb_chk eb_time (words3 hg) (by omega) eb_w1 (by decide +kernel) (by decide +kernel)
    rw [eb_i0, eb_i1, eb_i2, eb_i3] at hh
    refine hh.mono ?_
    intro e w' h
    obtain ⟨⟨a', c', rfl, hsp⟩, hb⟩ := h.good
    obtain ⟨g1, o1, rfl, h6, -⟩ := space_til hsp 1 (by decide)
    exact ⟨⟨g1, o1, c', rfl, h6⟩, hb⟩
  have HB2 : Hid (∀ g gl W, Below w.heap.size w W → SpaceAt W (some ⟨g, 0, none⟩) sp0 → W.heap[gl]? = some (.cells #[.string ⟨#[108, 112, 111, 112]⟩, .string ⟨#[108]⟩] 9 (0, 0)) → Calls Tryz.prog 5 #[.slice (some ⟨g, 0, none⟩) 2 2, .int .i64 5, .slice (some ⟨gl, 0, none⟩) 2 2] W fun e w' => (∃ h2 o2 c2 b2 d2, e = .returned (.tuple #[.slice (some ⟨h2, o2, none⟩) 2 c2, .agg #[.int .i64 4, .string ⟨#[97]⟩, .int .i64 0, .slice none 0 0], .int .i64 0]) ∧ CellIs w' h2 (o2 + 3) (.slice b2 2 d2)) ∧ Below W.heap.size W w') := fun g gl W hW hs hg => by
    have hh := do_lpop (some ⟨g, 0, none⟩) 2 sp0 5 gl 0 2 lT W (he.below hW) hs eb_chk eb_time (words2 hg) (by omega) eb_w2
    rw [eb_l1, eb_l2, eb_l3, eb_l4] at hh
    refine hh.mono ?_
    intro e w' h
    obtain ⟨⟨a', c', rfl, hsp⟩, hb⟩ := h.good
    obtain ⟨g1, o1, rfl, -, b2, d2, h3⟩ := space_til hsp 0 (by decide)
    exact ⟨⟨g1, o1, c', b2, d2, rfl, by simpa using h3⟩, hb⟩
  have HB3 : Hid (∀ g gl W, Below w.heap.size w W → SpaceAt W (some ⟨g, 0, none⟩) sp0 → W.heap[gl]? = some (.cells #[.string ⟨#[103, 101, 116]⟩, .string ⟨#[108]⟩] 9 (0, 0)) → Calls Tryz.prog 5 #[.slice (some ⟨g, 0, none⟩) 2 2, .int .i64 5, .slice (some ⟨gl, 0, none⟩) 2 2] W fun e w' => (∃ b3 d3, e = .returned (.tuple #[.slice b3 2 d3, .agg #[.int .i64 2, .string ⟨#[]⟩, .int .i64 7, .slice none 0 0], .int .i64 0])) ∧ Below W.heap.size W w') := fun g gl W hW hs hg => by
    have hh := do_get (some ⟨g, 0, none⟩) 2 sp0 5 gl 0 2 lT W (he.below hW) hs eb_chk eb_time (words2 hg) (by omega) eb_w3
    rw [eb_l1, eb_g1] at hh
    refine hh.mono ?_
    intro e w' h
    obtain ⟨⟨a', c', rfl, hsp⟩, hb⟩ := h.bad (by decide)
    exact ⟨⟨a', c', rfl⟩, hb⟩
  have HB4 : Hid (∀ g gl W, Below w.heap.size w W → SpaceAt W (some ⟨g, 0, none⟩) sp0 → W.heap[gl]? = some (.cells #[.string ⟨#[116, 116, 108]⟩, .string ⟨#[116]⟩] 9 (0, 0)) → Calls Tryz.prog 5 #[.slice (some ⟨g, 0, none⟩) 2 2, .int .i64 5, .slice (some ⟨gl, 0, none⟩) 2 2] W fun e w' => (∃ b4 d4, e = .returned (.tuple #[.slice b4 2 d4, .agg #[.int .i64 3, .string ⟨#[]⟩, .int .i64 5, .slice none 0 0], .int .i64 0])) ∧ Below W.heap.size W w') := fun g gl W hW hs hg => by
    have hh := do_ttl (some ⟨g, 0, none⟩) 2 sp0 5 gl 0 2 tT W (he.below hW) hs eb_chk eb_time (words2 hg) (by omega) eb_w4 (by rw [eb_t2]; omega)
    rw [eb_t1] at hh
    refine hh.mono ?_
    intro e w' h
    obtain ⟨⟨a', c', rfl, hsp⟩, hb⟩ := h.good
    exact ⟨⟨a', c', rfl⟩, hb⟩
  have HK1 : Hid (∀ gl W, Below w.heap.size w W → W.heap[gl]? = some (.cells #[.string ⟨#[122, 97, 100, 100]⟩, .string ⟨#[107]⟩, .string ⟨#[49]⟩, .string ⟨#[109]⟩] 9 (0, 0)) → Calls Tryz.prog 9 #[.slice (some ⟨gl, 0, none⟩) 4 4] W fun e w' => e = .returned (.int .i64 0) ∧ Below W.heap.size W w') := fun gl W hW hg => by
    have hh := known_any (some ⟨gl, 0, none⟩) 4 [⟨#[122, 97, 100, 100]⟩, ⟨#[107]⟩, ⟨#[49]⟩, ⟨#[109]⟩] W (he.below hW) (.inr ⟨gl, 0, rfl, words4 hg⟩) (by decide) (eb_sz (by decide +kernel))
    rw [eb_k1] at hh
    exact hh
  have HK2 : Hid (∀ gl W, Below w.heap.size w W → W.heap[gl]? = some (.cells #[.string ⟨#[122, 97, 100, 100]⟩, .string ⟨#[107]⟩, .string ⟨#[120]⟩, .string ⟨#[109]⟩] 9 (0, 0)) → Calls Tryz.prog 9 #[.slice (some ⟨gl, 0, none⟩) 4 4] W fun e w' => e = .returned (.int .i64 3) ∧ Below W.heap.size W w') := fun gl W hW hg => by
    have hh := known_any (some ⟨gl, 0, none⟩) 4 [⟨#[122, 97, 100, 100]⟩, ⟨#[107]⟩, ⟨#[120]⟩, ⟨#[109]⟩] W (he.below hW) (.inr ⟨gl, 0, rfl, words4 hg⟩) (by decide) (eb_sz (by decide +kernel))
    rw [eb_k2] at hh
    exact hh
  have HK3 : Hid (∀ gl W, Below w.heap.size w W → W.heap[gl]? = some (.cells #[.string ⟨#[110, 111]⟩] 9 (0, 0)) → Calls Tryz.prog 9 #[.slice (some ⟨gl, 0, none⟩) 1 1] W fun e w' => e = .returned (.int .i64 5) ∧ Below W.heap.size W w') := fun gl W hW hg => by
    have hh := known_any (some ⟨gl, 0, none⟩) 1 [⟨#[110, 111]⟩] W (he.below hW) (.inr ⟨gl, 0, rfl, words1 hg⟩) (by decide) (eb_sz (by decide +kernel))
    rw [eb_k3] at hh
    exact hh
  clear he
  go_enter Tryz.func4, Tryz.ntmps4
  go_wp2_with fail
  refine (HS.out w).mono ?_
  rintro e u0 ⟨⟨g0, rfl, S_u0⟩, hbu0⟩
  have B_u0 : Below w.heap.size w u0 := hbu0
  clear hbu0
  go_wp2_with fail
  generalize hV1 : u0.alloc (.cells #[.string ⟨#[73, 78, 67, 82, 66, 89]⟩, .string ⟨#[116]⟩, .string ⟨#[51]⟩] 9) = V1
  have AV1 : Below u0.heap.size u0 V1 := hV1 ▸ (Below.refl _ u0).alloc (Nat.le_refl _) _
  have hzV1 : V1.heap.size = u0.heap.size + 1 := by rw [← hV1]; simp
  have A_V1 : V1.heap[u0.heap.size]? = some (.cells #[.string ⟨#[73, 78, 67, 82, 66, 89]⟩, .string ⟨#[116]⟩, .string ⟨#[51]⟩] 9 (0, 0)) := hV1 ▸ allocY_new u0 _
  have lA_V1 := (Array.getElem?_eq_some_iff.1 A_V1).1
  have S_V1 := S_u0.below AV1
  have B_V1 := B_u0.trans (AV1.mono B_u0.size)
  clear S_u0 B_u0 AV1 hV1
  clear hzV1
  refine (HB1.out g0 (u0.heap.size) V1 B_V1 S_V1 A_V1).mono ?_
  rintro e u2 ⟨⟨h1, o1, c1, rfl, C1_u2⟩, hbu2⟩
  have B_u2 := B_V1.trans (hbu2.mono B_V1.size)
  clear B_V1 S_V1 A_V1 lA_V1 hbu2
  go_wp2_with fail
  generalize hV3 : u2.alloc (.cells #[.int .i64 3, .string ⟨#[]⟩, .int .i64 10, .slice none 0 0] 27) = V3
  have AV3 : Below u2.heap.size u2 V3 := hV3 ▸ (Below.refl _ u2).alloc (Nat.le_refl _) _
  have hzV3 : V3.heap.size = u2.heap.size + 1 := by rw [← hV3]; simp
  have R1_V3 : V3.heap[u2.heap.size]? = some (.cells #[.int .i64 3, .string ⟨#[]⟩, .int .i64 10, .slice none 0 0] 27 (0, 0)) := hV3 ▸ allocY_new u2 _
  have lR1_V3 := (Array.getElem?_eq_some_iff.1 R1_V3).1
  have C1_V3 := C1_u2.below AV3
  have B_V3 := B_u2.trans (AV3.mono B_u2.size)
  clear C1_u2 B_u2 AV3 hV3
  clear hzV3
  refine (HS.out V3).mono ?_
  rintro e u4 ⟨⟨g4, rfl, S_u4⟩, hbu4⟩
  have R1_u4 := (hbu4.block _ lR1_V3).trans R1_V3
  have lR1_u4 := (Array.getElem?_eq_some_iff.1 R1_u4).1
  have C1_u4 := C1_V3.below hbu4
  have B_u4 := B_V3.trans (hbu4.mono B_V3.size)
  clear R1_V3 lR1_V3 C1_V3 B_V3 hbu4
  go_wp2_with fail
  generalize hV5 : u4.alloc (.cells #[.string ⟨#[108, 112, 111, 112]⟩, .string ⟨#[108]⟩] 9) = V5
  have AV5 : Below u4.heap.size u4 V5 := hV5 ▸ (Below.refl _ u4).alloc (Nat.le_refl _) _
  have hzV5 : V5.heap.size = u4.heap.size + 1 := by rw [← hV5]; simp
  have A_V5 : V5.heap[u4.heap.size]? = some (.cells #[.string ⟨#[108, 112, 111, 112]⟩, .string ⟨#[108]⟩] 9 (0, 0)) := hV5 ▸ allocY_new u4 _
  have lA_V5 := (Array.getElem?_eq_some_iff.1 A_V5).1
  have R1_V5 := (AV5.block _ lR1_u4).trans R1_u4
  have lR1_V5 := (Array.getElem?_eq_some_iff.1 R1_V5).1
  have C1_V5 := C1_u4.below AV5
  have S_V5 := S_u4.below AV5
  have B_V5 := B_u4.trans (AV5.mono B_u4.size)
  clear R1_u4 lR1_u4 C1_u4 S_u4 B_u4 AV5 hV5
  clear hzV5
  refine (HB2.out g4 (u4.heap.size) V5 B_V5 S_V5 A_V5).mono ?_
  rintro e u6 ⟨⟨h2, o2, c2, b2, d2, rfl, C2_u6⟩, hbu6⟩
  have R1_u6 := (hbu6.block _ lR1_V5).trans R1_V5
  have lR1_u6 := (Array.getElem?_eq_some_iff.1 R1_u6).1
  have C1_u6 := C1_V5.below hbu6
  have B_u6 := B_V5.trans (hbu6.mono B_V5.size)
  clear R1_V5 lR1_V5 C1_V5 B_V5 S_V5 A_V5 lA_V5 hbu6
  go_wp2_with fail
  generalize hV7 : u6.alloc (.cells #[.int .i64 4, .string ⟨#[97]⟩, .int .i64 0, .slice none 0 0] 27) = V7
  have AV7 : Below u6.heap.size u6 V7 := hV7 ▸ (Below.refl _ u6).alloc (Nat.le_refl _) _
  have hzV7 : V7.heap.size = u6.heap.size + 1 := by rw [← hV7]; simp
  have R2_V7 : V7.heap[u6.heap.size]? = some (.cells #[.int .i64 4, .string ⟨#[97]⟩, .int .i64 0, .slice none 0 0] 27 (0, 0)) := hV7 ▸ allocY_new u6 _
  have lR2_V7 := (Array.getElem?_eq_some_iff.1 R2_V7).1
  have R1_V7 := (AV7.block _ lR1_u6).trans R1_u6
  have lR1_V7 := (Array.getElem?_eq_some_iff.1 R1_V7).1
  have C1_V7 := C1_u6.below AV7
  have C2_V7 := C2_u6.below AV7
  have B_V7 := B_u6.trans (AV7.mono B_u6.size)
  clear R1_u6 lR1_u6 C1_u6 C2_u6 B_u6 AV7 hV7
  clear hzV7
  refine (HS.out V7).mono ?_
  rintro e u8 ⟨⟨g8, rfl, S_u8⟩, hbu8⟩
  have R1_u8 := (hbu8.block _ lR1_V7).trans R1_V7
  have lR1_u8 := (Array.getElem?_eq_some_iff.1 R1_u8).1
  have R2_u8 := (hbu8.block _ lR2_V7).trans R2_V7
  have lR2_u8 := (Array.getElem?_eq_some_iff.1 R2_u8).1
  have C1_u8 := C1_V7.below hbu8
  have C2_u8 := C2_V7.below hbu8
  have B_u8 := B_V7.trans (hbu8.mono B_V7.size)
  clear R1_V7 lR1_V7 R2_V7 lR2_V7 C1_V7 C2_V7 B_V7 hbu8
  go_wp2_with fail
  generalize hV9 : u8.alloc (.cells #[.string ⟨#[103, 101, 116]⟩, .string ⟨#[108]⟩] 9) = V9
  have AV9 : Below u8.heap.size u8 V9 := hV9 ▸ (Below.refl _ u8).alloc (Nat.le_refl _) _
  have hzV9 : V9.heap.size = u8.heap.size + 1 := by rw [← hV9]; simp
  have A_V9 : V9.heap[u8.heap.size]? = some (.cells #[.string ⟨#[103, 101, 116]⟩, .string ⟨#[108]⟩] 9 (0, 0)) := hV9 ▸ allocY_new u8 _
  have lA_V9 := (Array.getElem?_eq_some_iff.1 A_V9).1
  have R1_V9 := (AV9.block _ lR1_u8).trans R1_u8
  have lR1_V9 := (Array.getElem?_eq_some_iff.1 R1_V9).1
  have R2_V9 := (AV9.block _ lR2_u8).trans R2_u8
  have lR2_V9 := (Array.getElem?_eq_some_iff.1 R2_V9).1
  have C1_V9 := C1_u8.below AV9
  have C2_V9 := C2_u8.below AV9
  have S_V9 := S_u8.below AV9
  have B_V9 := B_u8.trans (AV9.mono B_u8.size)
  clear R1_u8 lR1_u8 R2_u8 lR2_u8 C1_u8 C2_u8 S_u8 B_u8 AV9 hV9
  clear hzV9
  refine (HB3.out g8 (u8.heap.size) V9 B_V9 S_V9 A_V9).mono ?_
  rintro e u10 ⟨⟨b3, d3, rfl⟩, hbu10⟩
  have R1_u10 := (hbu10.block _ lR1_V9).trans R1_V9
  have lR1_u10 := (Array.getElem?_eq_some_iff.1 R1_u10).1
  have R2_u10 := (hbu10.block _ lR2_V9).trans R2_V9
  have lR2_u10 := (Array.getElem?_eq_some_iff.1 R2_u10).1
  have C1_u10 := C1_V9.below hbu10
  have C2_u10 := C2_V9.below hbu10
  have B_u10 := B_V9.trans (hbu10.mono B_V9.size)
  clear R1_V9 lR1_V9 R2_V9 lR2_V9 C1_V9 C2_V9 B_V9 S_V9 A_V9 lA_V9 hbu10
  go_wp2_with fail
  generalize hV11 : u10.alloc (.cells #[.int .i64 2, .string ⟨#[]⟩, .int .i64 7, .slice none 0 0] 27) = V11
  have AV11 : Below u10.heap.size u10 V11 := hV11 ▸ (Below.refl _ u10).alloc (Nat.le_refl _) _
  have hzV11 : V11.heap.size = u10.heap.size + 1 := by rw [← hV11]; simp
  have R3_V11 : V11.heap[u10.heap.size]? = some (.cells #[.int .i64 2, .string ⟨#[]⟩, .int .i64 7, .slice none 0 0] 27 (0, 0)) := hV11 ▸ allocY_new u10 _
  have lR3_V11 := (Array.getElem?_eq_some_iff.1 R3_V11).1
  have R1_V11 := (AV11.block _ lR1_u10).trans R1_u10
  have lR1_V11 := (Array.getElem?_eq_some_iff.1 R1_V11).1
  have R2_V11 := (AV11.block _ lR2_u10).trans R2_u10
  have lR2_V11 := (Array.getElem?_eq_some_iff.1 R2_V11).1
  have C1_V11 := C1_u10.below AV11
  have C2_V11 := C2_u10.below AV11
  have B_V11 := B_u10.trans (AV11.mono B_u10.size)
  clear R1_u10 lR1_u10 R2_u10 lR2_u10 C1_u10 C2_u10 B_u10 AV11 hV11
  clear hzV11
  refine (HS.out V11).mono ?_
  rintro e u12 ⟨⟨g12, rfl, S_u12⟩, hbu12⟩
  have R1_u12 := (hbu12.block _ lR1_V11).trans R1_V11
  have lR1_u12 := (Array.getElem?_eq_some_iff.1 R1_u12).1
  have R2_u12 := (hbu12.block _ lR2_V11).trans R2_V11
  have lR2_u12 := (Array.getElem?_eq_some_iff.1 R2_u12).1
  have R3_u12 := (hbu12.block _ lR3_V11).trans R3_V11
  have lR3_u12 := (Array.getElem?_eq_some_iff.1 R3_u12).1
  have C1_u12 := C1_V11.below hbu12
  have C2_u12 := C2_V11.below hbu12
  have B_u12 := B_V11.trans (hbu12.mono B_V11.size)
  clear R1_V11 lR1_V11 R2_V11 lR2_V11 R3_V11 lR3_V11 C1_V11 C2_V11 B_V11 hbu12
  go_wp2_with fail
  generalize hV13 : u12.alloc (.cells #[.string ⟨#[116, 116, 108]⟩, .string ⟨#[116]⟩] 9) = V13
  have AV13 : Below u12.heap.size u12 V13 := hV13 ▸ (Below.refl _ u12).alloc (Nat.le_refl _) _
  have hzV13 : V13.heap.size = u12.heap.size + 1 := by rw [← hV13]; simp
  have A_V13 : V13.heap[u12.heap.size]? = some (.cells #[.string ⟨#[116, 116, 108]⟩, .string ⟨#[116]⟩] 9 (0, 0)) := hV13 ▸ allocY_new u12 _
  have lA_V13 := (Array.getElem?_eq_some_iff.1 A_V13).1
  have R1_V13 := (AV13.block _ lR1_u12).trans R1_u12
  have lR1_V13 := (Array.getElem?_eq_some_iff.1 R1_V13).1
  have R2_V13 := (AV13.block _ lR2_u12).trans R2_u12
  have lR2_V13 := (Array.getElem?_eq_some_iff.1 R2_V13).1
  have R3_V13 := (AV13.block _ lR3_u12).trans R3_u12
  have lR3_V13 := (Array.getElem?_eq_some_iff.1 R3_V13).1
  have C1_V13 := C1_u12.below AV13
  have C2_V13 := C2_u12.below AV13
  have S_V13 := S_u12.below AV13
  have B_V13 := B_u12.trans (AV13.mono B_u12.size)
  clear R1_u12 lR1_u12 R2_u12 lR2_u12 R3_u12 lR3_u12 C1_u12 C2_u12 S_u12 B_u12 AV13 hV13
  clear hzV13
  refine (HB4.out g12 (u12.heap.size) V13 B_V13 S_V13 A_V13).mono ?_
  rintro e u14 ⟨⟨b4, d4, rfl⟩, hbu14⟩
  have R1_u14 := (hbu14.block _ lR1_V13).trans R1_V13
  have lR1_u14 := (Array.getElem?_eq_some_iff.1 R1_u14).1
  have R2_u14 := (hbu14.block _ lR2_V13).trans R2_V13
  have lR2_u14 := (Array.getElem?_eq_some_iff.1 R2_u14).1
  have R3_u14 := (hbu14.block _ lR3_V13).trans R3_V13
  have lR3_u14 := (Array.getElem?_eq_some_iff.1 R3_u14).1
  have C1_u14 := C1_V13.below hbu14
  have C2_u14 := C2_V13.below hbu14
  have B_u14 := B_V13.trans (hbu14.mono B_V13.size)
  clear R1_V13 lR1_V13 R2_V13 lR2_V13 R3_V13 lR3_V13 C1_V13 C2_V13 B_V13 S_V13 A_V13 lA_V13 hbu14
  go_wp2_with fail
  generalize hV15 : u14.alloc (.cells #[.int .i64 3, .string ⟨#[]⟩, .int .i64 5, .slice none 0 0] 27) = V15
  have AV15 : Below u14.heap.size u14 V15 := hV15 ▸ (Below.refl _ u14).alloc (Nat.le_refl _) _
  have hzV15 : V15.heap.size = u14.heap.size + 1 := by rw [← hV15]; simp
  have R4_V15 : V15.heap[u14.heap.size]? = some (.cells #[.int .i64 3, .string ⟨#[]⟩, .int .i64 5, .slice none 0 0] 27 (0, 0)) := hV15 ▸ allocY_new u14 _
  have lR4_V15 := (Array.getElem?_eq_some_iff.1 R4_V15).1
  have R1_V15 := (AV15.block _ lR1_u14).trans R1_u14
  have lR1_V15 := (Array.getElem?_eq_some_iff.1 R1_V15).1
  have R2_V15 := (AV15.block _ lR2_u14).trans R2_u14
  have lR2_V15 := (Array.getElem?_eq_some_iff.1 R2_V15).1
  have R3_V15 := (AV15.block _ lR3_u14).trans R3_u14
  have lR3_V15 := (Array.getElem?_eq_some_iff.1 R3_V15).1
  have C1_V15 := C1_u14.below AV15
  have C2_V15 := C2_u14.below AV15
  have B_V15 := B_u14.trans (AV15.mono B_u14.size)
  clear R1_u14 lR1_u14 R2_u14 lR2_u14 R3_u14 lR3_u14 C1_u14 C2_u14 B_u14 AV15 hV15
  generalize hV16 : V15.alloc (.cells #[.string ⟨#[122, 97, 100, 100]⟩, .string ⟨#[107]⟩, .string ⟨#[49]⟩, .string ⟨#[109]⟩] 9) = V16
  have AV16 : Below V15.heap.size V15 V16 := hV16 ▸ (Below.refl _ V15).alloc (Nat.le_refl _) _
  have xV16 : V16.heap[V15.heap.size]? = some (.cells #[.string ⟨#[122, 97, 100, 100]⟩, .string ⟨#[107]⟩, .string ⟨#[49]⟩, .string ⟨#[109]⟩] 9 (0, 0)) := hV16 ▸ allocY_new V15 _
  rw [hzV15] at xV16
  have hzV16 : V16.heap.size = u14.heap.size + 1 + 1 := by rw [← hV16, World.size_alloc, hzV15]
  have K_V16 : V16.heap[u14.heap.size + 1]? = some (.cells #[.string ⟨#[122, 97, 100, 100]⟩, .string ⟨#[107]⟩, .string ⟨#[49]⟩, .string ⟨#[109]⟩] 9 (0, 0)) := xV16
  have lK_V16 := (Array.getElem?_eq_some_iff.1 K_V16).1
  have R1_V16 := (AV16.block _ lR1_V15).trans R1_V15
  have lR1_V16 := (Array.getElem?_eq_some_iff.1 R1_V16).1
  have R2_V16 := (AV16.block _ lR2_V15).trans R2_V15
  have lR2_V16 := (Array.getElem?_eq_some_iff.1 R2_V16).1
  have R3_V16 := (AV16.block _ lR3_V15).trans R3_V15
  have lR3_V16 := (Array.getElem?_eq_some_iff.1 R3_V16).1
  have R4_V16 := (AV16.block _ lR4_V15).trans R4_V15
  have lR4_V16 := (Array.getElem?_eq_some_iff.1 R4_V16).1
  have C1_V16 := C1_V15.below AV16
  have C2_V16 := C2_V15.below AV16
  have B_V16 := B_V15.trans (AV16.mono B_V15.size)
  clear R1_V15 lR1_V15 R2_V15 lR2_V15 R3_V15 lR3_V15 R4_V15 lR4_V15 C1_V15 C2_V15 B_V15 AV16 hV16 xV16 hzV15
  clear hzV16
  refine (HK1.out (u14.heap.size + 1) V16 B_V16 K_V16).mono ?_
  rintro e u17 ⟨rfl, hbu17⟩
  have R1_u17 := (hbu17.block _ lR1_V16).trans R1_V16
  have lR1_u17 := (Array.getElem?_eq_some_iff.1 R1_u17).1
  have R2_u17 := (hbu17.block _ lR2_V16).trans R2_V16
  have lR2_u17 := (Array.getElem?_eq_some_iff.1 R2_u17).1
  have R3_u17 := (hbu17.block _ lR3_V16).trans R3_V16
  have lR3_u17 := (Array.getElem?_eq_some_iff.1 R3_u17).1
  have R4_u17 := (hbu17.block _ lR4_V16).trans R4_V16
  have lR4_u17 := (Array.getElem?_eq_some_iff.1 R4_u17).1
  have C1_u17 := C1_V16.below hbu17
  have C2_u17 := C2_V16.below hbu17
  have B_u17 := B_V16.trans (hbu17.mono B_V16.size)
  clear R1_V16 lR1_V16 R2_V16 lR2_V16 R3_V16 lR3_V16 R4_V16 lR4_V16 C1_V16 C2_V16 B_V16 K_V16 lK_V16 hbu17
  go_wp2_with fail
  generalize hV18 : u17.alloc (.cells #[.string ⟨#[122, 97, 100, 100]⟩, .string ⟨#[107]⟩, .string ⟨#[120]⟩, .string ⟨#[109]⟩] 9) = V18
  have AV18 : Below u17.heap.size u17 V18 := hV18 ▸ (Below.refl _ u17).alloc (Nat.le_refl _) _
  have hzV18 : V18.heap.size = u17.heap.size + 1 := by rw [← hV18]; simp
  have K_V18 : V18.heap[u17.heap.size]? = some (.cells #[.string ⟨#[122, 97, 100, 100]⟩, .string ⟨#[107]⟩, .string ⟨#[120]⟩, .string ⟨#[109]⟩] 9 (0, 0)) := hV18 ▸ allocY_new u17 _
  have lK_V18 := (Array.getElem?_eq_some_iff.1 K_V18).1
  have R1_V18 := (AV18.block _ lR1_u17).trans R1_u17
  have lR1_V18 := (Array.getElem?_eq_some_iff.1 R1_V18).1
  have R2_V18 := (AV18.block _ lR2_u17).trans R2_u17
  have lR2_V18 := (Array.getElem?_eq_some_iff.1 R2_V18).1
  have R3_V18 := (AV18.block _ lR3_u17).trans R3_u17
  have lR3_V18 := (Array.getElem?_eq_some_iff.1 R3_V18).1
  have R4_V18 := (AV18.block _ lR4_u17).trans R4_u17
  have lR4_V18 := (Array.getElem?_eq_some_iff.1 R4_V18).1
  have C1_V18 := C1_u17.below AV18
  have C2_V18 := C2_u17.below AV18
  have B_V18 := B_u17.trans (AV18.mono B_u17.size)
  clear R1_u17 lR1_u17 R2_u17 lR2_u17 R3_u17 lR3_u17 R4_u17 lR4_u17 C1_u17 C2_u17 B_u17 AV18 hV18
  clear hzV18
  refine (HK2.out (u17.heap.size) V18 B_V18 K_V18).mono ?_
  rintro e u19 ⟨rfl, hbu19⟩
  have R1_u19 := (hbu19.block _ lR1_V18).trans R1_V18
  have lR1_u19 := (Array.getElem?_eq_some_iff.1 R1_u19).1
  have R2_u19 := (hbu19.block _ lR2_V18).trans R2_V18
  have lR2_u19 := (Array.getElem?_eq_some_iff.1 R2_u19).1
  have R3_u19 := (hbu19.block _ lR3_V18).trans R3_V18
  have lR3_u19 := (Array.getElem?_eq_some_iff.1 R3_u19).1
  have R4_u19 := (hbu19.block _ lR4_V18).trans R4_V18
  have lR4_u19 := (Array.getElem?_eq_some_iff.1 R4_u19).1
  have C1_u19 := C1_V18.below hbu19
  have C2_u19 := C2_V18.below hbu19
  have B_u19 := B_V18.trans (hbu19.mono B_V18.size)
  clear R1_V18 lR1_V18 R2_V18 lR2_V18 R3_V18 lR3_V18 R4_V18 lR4_V18 C1_V18 C2_V18 B_V18 K_V18 lK_V18 hbu19
  go_wp2_with fail
  generalize hV20 : u19.alloc (.cells #[.string ⟨#[110, 111]⟩] 9) = V20
  have AV20 : Below u19.heap.size u19 V20 := hV20 ▸ (Below.refl _ u19).alloc (Nat.le_refl _) _
  have hzV20 : V20.heap.size = u19.heap.size + 1 := by rw [← hV20]; simp
  have K_V20 : V20.heap[u19.heap.size]? = some (.cells #[.string ⟨#[110, 111]⟩] 9 (0, 0)) := hV20 ▸ allocY_new u19 _
  have lK_V20 := (Array.getElem?_eq_some_iff.1 K_V20).1
  have R1_V20 := (AV20.block _ lR1_u19).trans R1_u19
  have lR1_V20 := (Array.getElem?_eq_some_iff.1 R1_V20).1
  have R2_V20 := (AV20.block _ lR2_u19).trans R2_u19
  have lR2_V20 := (Array.getElem?_eq_some_iff.1 R2_V20).1
  have R3_V20 := (AV20.block _ lR3_u19).trans R3_u19
  have lR3_V20 := (Array.getElem?_eq_some_iff.1 R3_V20).1
  have R4_V20 := (AV20.block _ lR4_u19).trans R4_u19
  have lR4_V20 := (Array.getElem?_eq_some_iff.1 R4_V20).1
  have C1_V20 := C1_u19.below AV20
  have C2_V20 := C2_u19.below AV20
  have B_V20 := B_u19.trans (AV20.mono B_u19.size)
  clear R1_u19 lR1_u19 R2_u19 lR2_u19 R3_u19 lR3_u19 R4_u19 lR4_u19 C1_u19 C2_u19 B_u19 AV20 hV20
  clear hzV20
  refine (HK3.out (u19.heap.size) V20 B_V20 K_V20).mono ?_
  rintro e u21 ⟨rfl, hbu21⟩
  have R1_u21 := (hbu21.block _ lR1_V20).trans R1_V20
  have lR1_u21 := (Array.getElem?_eq_some_iff.1 R1_u21).1
  have R2_u21 := (hbu21.block _ lR2_V20).trans R2_V20
  have lR2_u21 := (Array.getElem?_eq_some_iff.1 R2_u21).1
  have R3_u21 := (hbu21.block _ lR3_V20).trans R3_V20
  have lR3_u21 := (Array.getElem?_eq_some_iff.1 R3_u21).1
  have R4_u21 := (hbu21.block _ lR4_V20).trans R4_V20
  have lR4_u21 := (Array.getElem?_eq_some_iff.1 R4_u21).1
  have C1_u21 := C1_V20.below hbu21
  have C2_u21 := C2_V20.below hbu21
  have B_u21 := B_V20.trans (hbu21.mono B_V20.size)
  clear R1_V20 lR1_V20 R2_V20 lR2_V20 R3_V20 lR3_V20 R4_V20 lR4_V20 C1_V20 C2_V20 B_V20 K_V20 lK_V20 hbu21
  have k1 := C1_u21.eq
  have k2 := C2_u21.eq
  have m1x0 : u21.cell? ⟨u2.heap.size, 0, none⟩ = some (.int .i64 3) := by simp [World.cell?, R1_u21]
  have m1x1 : u21.cell? ⟨u2.heap.size, 1, none⟩ = some (.string ⟨#[]⟩) := by simp [World.cell?, R1_u21]
  have m1x2 : u21.cell? ⟨u2.heap.size, 2, none⟩ = some (.int .i64 10) := by simp [World.cell?, R1_u21]
  have m1x3 : u21.cell? ⟨u2.heap.size, 3, none⟩ = some (.slice none 0 0) := by simp [World.cell?, R1_u21]
  have m2x0 : u21.cell? ⟨u6.heap.size, 0, none⟩ = some (.int .i64 4) := by simp [World.cell?, R2_u21]
  have m2x1 : u21.cell? ⟨u6.heap.size, 1, none⟩ = some (.string ⟨#[97]⟩) := by simp [World.cell?, R2_u21]
  have m2x2 : u21.cell? ⟨u6.heap.size, 2, none⟩ = some (.int .i64 0) := by simp [World.cell?, R2_u21]
  have m2x3 : u21.cell? ⟨u6.heap.size, 3, none⟩ = some (.slice none 0 0) := by simp [World.cell?, R2_u21]
  have m3x0 : u21.cell? ⟨u10.heap.size, 0, none⟩ = some (.int .i64 2) := by simp [World.cell?, R3_u21]
  have m3x1 : u21.cell? ⟨u10.heap.size, 1, none⟩ = some (.string ⟨#[]⟩) := by simp [World.cell?, R3_u21]
  have m3x2 : u21.cell? ⟨u10.heap.size, 2, none⟩ = some (.int .i64 7) := by simp [World.cell?, R3_u21]
  have m3x3 : u21.cell? ⟨u10.heap.size, 3, none⟩ = some (.slice none 0 0) := by simp [World.cell?, R3_u21]
  have m4x0 : u21.cell? ⟨u14.heap.size, 0, none⟩ = some (.int .i64 3) := by simp [World.cell?, R4_u21]
  have m4x1 : u21.cell? ⟨u14.heap.size, 1, none⟩ = some (.string ⟨#[]⟩) := by simp [World.cell?, R4_u21]
  have m4x2 : u21.cell? ⟨u14.heap.size, 2, none⟩ = some (.int .i64 5) := by simp [World.cell?, R4_u21]
  have m4x3 : u21.cell? ⟨u14.heap.size, 3, none⟩ = some (.slice none 0 0) := by simp [World.cell?, R4_u21]
  go_wp2_with fail
  go_ret
  exact ⟨rfl, B_u21⟩
end Go.Proofs.YtmaancidkpfopaaGreatDoor
