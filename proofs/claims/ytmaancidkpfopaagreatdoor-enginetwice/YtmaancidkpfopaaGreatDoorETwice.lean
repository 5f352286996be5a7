/- WALK of EngineTwice. -/
import Derived.Test.YtmaancidkpfopaaGreatDoorEBeg
import Derived.Test.YtmaancidkpfopaaGreatDoorPart13
import Derived.Handy
namespace Go.Proofs.YtmaancidkpfopaaGreatDoor
open Go.RowKit

theorem small2 {n : Nat} {x y : ByteArray} (hx : x.size ≤ n) (hy : y.size ≤ n) : ∀ t ∈ [x, y], t.size ≤ n := by
  intro t h
  simp at h
  rcases h with rfl | rfl <;> assumption
theorem small3 {n : Nat} {x y z : ByteArray} (hx : x.size ≤ n) (hy : y.size ≤ n) (hz : z.size ≤ n) : ∀ t ∈ [x, y, z], t.size ≤ n := by
  intro t h
  simp at h
  rcases h with rfl | rfl | rfl <;> assumption
theorem wordsE_of {l : List ByteArray} (h1 : l ≠ []) (h2 : l.length ≤ 12) (h3 : ∀ t ∈ l, t.size ≤ 60) : wordsE l = 0 := by
  unfold wordsE pWordsR
  rw [List.length_map, if_neg (by cases l with | nil => exact absurd rfl h1 | cons _ _ => simp), if_neg (by omega), if_neg (by
    intro h
    rw [List.any_eq_true] at h
    obtain ⟨x, hx, hy⟩ := h
    obtain ⟨t, ht, rfl⟩ := List.mem_map.1 hx
    have h4 : (lst t).length = t.size := Array.length_toList
    rw [h4] at hy
    have := h3 t ht
    simp at hy
    omega)]
  rfl
set_option maxRecDepth 100000 in
set_option maxHeartbeats 4000000 in
theorem twice_error (a : Option Addr) (c : Nat) (s : List Ent) (now : Int) (key value : ByteArray) (K N E : Int) (w : World) (he : Env w) (hs : SpaceAt w a s) (hE : E ≠ 0)
    (HD : ∀ g W, Below w.heap.size w W → SpaceAt W a s → W.heap[g]? = some (.cells #[.string ⟨#[115, 101, 116]⟩, .string key, .string value] 9 (0, 0)) → Calls Tryz.prog 5 #[.slice a s.length c, .int .i64 now, .slice (some ⟨g, 0, none⟩) 3 3] W fun e w' => (∃ a' n' c', e = .returned (.tuple #[.slice a' n' c', .agg #[.int .i64 K, .string ⟨#[]⟩, .int .i64 N, .slice none 0 0], .int .i64 E])) ∧ Below W.heap.size W w') :
    Calls Tryz.prog 3 #[.slice a s.length c, .int .i64 now, .string key, .string value] w fun e w' => e = .returned (.bool true) ∧ Below w.heap.size w w' := by
  have HBG : Hid (∀ W, Below w.heap.size w W → Calls Tryz.prog 4 #[] W fun e w' => e = .returned (.bool true) ∧ Below W.heap.size W w') := fun W hW => engineBegun_any W (he.below hW)
  have HD := hide HD
  have e1 : (E != 0) = true := by rw [bne_iff_ne]; exact hE
  clear hE he
  have SS_w := hs
  clear hs
  go_enter Tryz.func3, Tryz.ntmps3
  go_wp2_with fail
  refine (HBG.out w (Below.refl _ w)).mono ?_
  rintro e u0 ⟨rfl, hbu0⟩
  have SS_u0 := SS_w.below hbu0
  have B_u0 : Below w.heap.size w u0 := hbu0
  clear SS_w hbu0
  go_wp2_with fail
  generalize hV1 : u0.alloc (.cells #[.string ⟨#[115, 101, 116]⟩, .string key, .string value] 9) = V1
  have AV1 : Below u0.heap.size u0 V1 := hV1 ▸ (Below.refl _ u0).alloc (Nat.le_refl _) _
  have hzV1 : V1.heap.size = u0.heap.size + 1 := by rw [← hV1]; simp
  have A_V1 : V1.heap[u0.heap.size]? = some (.cells #[.string ⟨#[115, 101, 116]⟩, .string key, .string value] 9 (0, 0)) := hV1 ▸ allocY_new u0 _
  have lA_V1 := (Array.getElem?_eq_some_iff.1 A_V1).1
  have SS_V1 := SS_u0.below AV1
  have B_V1 := B_u0.trans (AV1.mono B_u0.size)
  clear SS_u0 B_u0 AV1 hV1
  clear hzV1
  refine (HD.out (u0.heap.size) V1 B_V1 SS_V1 A_V1).mono ?_
  rintro e u2 ⟨⟨a1, n1, c1, rfl⟩, hbu2⟩
  have SS_u2 := SS_V1.below hbu2
  have B_u2 := B_V1.trans (hbu2.mono B_V1.size)
  clear SS_V1 B_V1 A_V1 lA_V1 hbu2
  go_wp2_with fail
  refine bodyPost_ret (v := .bool true) (by simp [results, Tryz.results3, go_sem]) rfl ⟨rfl, B_u2.alloc B_u2.size _⟩
set_option maxRecDepth 100000 in
set_option maxHeartbeats 4000000 in
theorem twice_refused (a : Option Addr) (c : Nat) (s : List Ent) (now : Int) (key value : ByteArray) (K N E : Int) (w : World) (he : Env w) (hs : SpaceAt w a s) (hE : E = 0) (hK : K = 2)
    (HD : ∀ g W, Below w.heap.size w W → SpaceAt W a s → W.heap[g]? = some (.cells #[.string ⟨#[115, 101, 116]⟩, .string key, .string value] 9 (0, 0)) → Calls Tryz.prog 5 #[.slice a s.length c, .int .i64 now, .slice (some ⟨g, 0, none⟩) 3 3] W fun e w' => (∃ a' n' c', e = .returned (.tuple #[.slice a' n' c', .agg #[.int .i64 K, .string ⟨#[]⟩, .int .i64 N, .slice none 0 0], .int .i64 E])) ∧ Below W.heap.size W w') :
    Calls Tryz.prog 3 #[.slice a s.length c, .int .i64 now, .string key, .string value] w fun e w' => e = .returned (.bool true) ∧ Below w.heap.size w w' := by
  subst hE hK
  have HBG : Hid (∀ W, Below w.heap.size w W → Calls Tryz.prog 4 #[] W fun e w' => e = .returned (.bool true) ∧ Below W.heap.size W w') := fun W hW => engineBegun_any W (he.below hW)
  have HD := hide HD
  clear he
  have SS_w := hs
  clear hs
  go_enter Tryz.func3, Tryz.ntmps3
  go_wp2_with fail
  refine (HBG.out w (Below.refl _ w)).mono ?_
  rintro e u0 ⟨rfl, hbu0⟩
  have SS_u0 := SS_w.below hbu0
  have B_u0 : Below w.heap.size w u0 := hbu0
  clear SS_w hbu0
  go_wp2_with fail
  generalize hV1 : u0.alloc (.cells #[.string ⟨#[115, 101, 116]⟩, .string key, .string value] 9) = V1
  have AV1 : Below u0.heap.size u0 V1 := hV1 ▸ (Below.refl _ u0).alloc (Nat.le_refl _) _
  have hzV1 : V1.heap.size = u0.heap.size + 1 := by rw [← hV1]; simp
  have A_V1 : V1.heap[u0.heap.size]? = some (.cells #[.string ⟨#[115, 101, 116]⟩, .string key, .string value] 9 (0, 0)) := hV1 ▸ allocY_new u0 _
  have lA_V1 := (Array.getElem?_eq_some_iff.1 A_V1).1
  have SS_V1 := SS_u0.below AV1
  have B_V1 := B_u0.trans (AV1.mono B_u0.size)
  clear SS_u0 B_u0 AV1 hV1
  clear hzV1
  refine (HD.out (u0.heap.size) V1 B_V1 SS_V1 A_V1).mono ?_
  rintro e u2 ⟨⟨a1, n1, c1, rfl⟩, hbu2⟩
  have SS_u2 := SS_V1.below hbu2
  have B_u2 := B_V1.trans (hbu2.mono B_V1.size)
  clear SS_V1 B_V1 A_V1 lA_V1 hbu2
  go_wp2_with fail
  refine bodyPost_ret (v := .bool true) (by simp [results, Tryz.results3, go_sem]) rfl ⟨rfl, B_u2.alloc B_u2.size _⟩
set_option maxRecDepth 100000 in
set_option maxHeartbeats 4000000 in
theorem twice_good (a : Option Addr) (c : Nat) (s : List Ent) (now : Int) (key value : ByteArray) (w : World) (he : Env w) (hs : SpaceAt w a s) (hc : chkSp s = 0) (ht : timeT now = true) (h0 : wordsE [setW, key, value] = 0) (hp : putE s now key ⟨1, value, [], [], []⟩ 0 = 0) :
    Calls Tryz.prog 3 #[.slice a s.length c, .int .i64 now, .string key, .string value] w fun e w' => e = .returned (.bool true) ∧ Below w.heap.size w w' := by
  have HBG : Hid (∀ W, Below w.heap.size w W → Calls Tryz.prog 4 #[] W fun e w' => e = .returned (.bool true) ∧ Below W.heap.size W w') := fun W hW => engineBegun_any W (he.below hW)
  have OK := putOk hp
  have hks : key.size ≤ 60 := (wordsE_ok h0).2.2 key (by simp)
  have hvs : value.size ≤ 60 := (wordsE_ok h0).2.2 value (by simp)
  obtain ⟨hag1, hag2⟩ := OK.again
  have hPr := OK.right
  have hgot := OK.got
  have htil := OK.till (text_notNone value)
  have hPk := OK.key key OK.kl
  obtain ⟨hw1, hw2⟩ := whole_text hvs
  have OC := putOk (drop_ok hPk)
  obtain ⟨hcg1, hcg2⟩ := OC.again
  have hCr := OC.right
  have hCgot := OC.got
  generalize hP : putS s now key ⟨1, value, [], [], []⟩ 0 = P at *
  generalize hC : putS P now key Itm.none 0 = C at *
  have hPn := hPr.n
  have hCn := hCr.n
  have hPc := chkSp_of hPr
  have hCc := chkSp_of hCr
  have hwg : wordsE [getW, key] = 0 := wordsE_of (by simp) (by simp) (small2 (by decide +kernel) hks)
  have hwd : wordsE [delW, key] = 0 := wordsE_of (by simp) (by simp) (small2 (by decide +kernel) hks)
  have hwp : wordsE [persistW, key] = 0 := wordsE_of (by simp) (by simp) (small2 (by decide +kernel) hks)
  have HS1 : Hid (∀ g W, Below w.heap.size w W → SpaceAt W a s → W.heap[g]? = some (.cells #[.string ⟨#[115, 101, 116]⟩, .string key, .string value] 9 (0, 0)) → Calls Tryz.prog 5 #[.slice a s.length c, .int .i64 now, .slice (some ⟨g, 0, none⟩) 3 3] W fun e w' => (∃ a' c', e = .returned (.tuple #[.slice a' P.length c', .agg #[.int .i64 1, .string ⟨#[79, 75]⟩, .int .i64 0, .slice none 0 0], .int .i64 0]) ∧ SpaceAt w' a' P) ∧ Below W.heap.size W w') := fun g W hW hs hg => by
    have hh := do_set a c s now g 0 3 key value W (he.below hW) hs hc ht (words3 hg) (by omega) h0
    rw [hp, hP] at hh
    refine hh.mono ?_
    intro e w' h
    obtain ⟨⟨a', c', rfl, hsp⟩, hb⟩ := h.good
    exact ⟨⟨a', c', rfl, hsp⟩, hb⟩
  have HS2 : Hid (∀ ap cp g W, Below w.heap.size w W → SpaceAt W ap P → W.heap[g]? = some (.cells #[.string ⟨#[115, 101, 116]⟩, .string key, .string value] 9 (0, 0)) → Calls Tryz.prog 5 #[.slice ap P.length cp, .int .i64 now, .slice (some ⟨g, 0, none⟩) 3 3] W fun e w' => (∃ a' c', e = .returned (.tuple #[.slice a' P.length c', .agg #[.int .i64 1, .string ⟨#[79, 75]⟩, .int .i64 0, .slice none 0 0], .int .i64 0]) ∧ SpaceAt w' a' P) ∧ Below W.heap.size W w') := fun ap cp g W hW hs hg => by
    have hh := do_set ap cp P now g 0 3 key value W (he.below hW) hs hPc ht (words3 hg) (by omega) h0
    rw [hag1, hag2] at hh
    refine hh.mono ?_
    intro e w' h
    obtain ⟨⟨a', c', rfl, hsp⟩, hb⟩ := h.good
    exact ⟨⟨a', c', rfl, hsp⟩, hb⟩
  have HG1 : Hid (∀ ap cp g W, Below w.heap.size w W → SpaceAt W ap P → W.heap[g]? = some (.cells #[.string ⟨#[103, 101, 116]⟩, .string key] 9 (0, 0)) → Calls Tryz.prog 5 #[.slice ap P.length cp, .int .i64 now, .slice (some ⟨g, 0, none⟩) 2 2] W fun e w' => (∃ a' n' c', e = .returned (.tuple #[.slice a' n' c', .agg #[.int .i64 4, .string value, .int .i64 0, .slice none 0 0], .int .i64 0])) ∧ Below W.heap.size W w') := fun ap cp g W hW hs hg => by
    have hh := do_get ap cp P now g 0 2 key W (he.below hW) hs hPc ht (words2 hg) (by omega) hwg
    rw [hgot, hw1, hw2] at hh
    refine hh.mono ?_
    intro e w' h
    obtain ⟨⟨a', c', rfl, hsp⟩, hb⟩ := h.good
    exact ⟨⟨a', _, c', rfl⟩, hb⟩
  have HD1 : Hid (∀ ap cp g W, Below w.heap.size w W → SpaceAt W ap P → W.heap[g]? = some (.cells #[.string ⟨#[100, 101, 108]⟩, .string key] 9 (0, 0)) → Calls Tryz.prog 5 #[.slice ap P.length cp, .int .i64 now, .slice (some ⟨g, 0, none⟩) 2 2] W fun e w' => (∃ a' c', e = .returned (.tuple #[.slice a' C.length c', .agg #[.int .i64 3, .string ⟨#[]⟩, .int .i64 1, .slice none 0 0], .int .i64 0]) ∧ SpaceAt w' a' C) ∧ Below W.heap.size W w') := fun ap cp g W hW hs hg => by
    have hh := do_del ap cp P now g 0 2 key W (he.below hW) hs hPc ht (words2 hg) (by omega) hwd
    rw [hgot, if_neg (by rw [text_notNone]; decide), hC] at hh
    refine hh.mono ?_
    intro e w' h
    obtain ⟨⟨a', c', rfl, hsp⟩, hb⟩ := h.good
    exact ⟨⟨a', c', rfl, hsp⟩, hb⟩
  have HD2 : Hid (∀ ap cp g W, Below w.heap.size w W → SpaceAt W ap C → W.heap[g]? = some (.cells #[.string ⟨#[100, 101, 108]⟩, .string key] 9 (0, 0)) → Calls Tryz.prog 5 #[.slice ap C.length cp, .int .i64 now, .slice (some ⟨g, 0, none⟩) 2 2] W fun e w' => (∃ a' c', e = .returned (.tuple #[.slice a' C.length c', .agg #[.int .i64 3, .string ⟨#[]⟩, .int .i64 0, .slice none 0 0], .int .i64 0]) ∧ SpaceAt w' a' C) ∧ Below W.heap.size W w') := fun ap cp g W hW hs hg => by
    have hh := do_del ap cp C now g 0 2 key W (he.below hW) hs hCc ht (words2 hg) (by omega) hwd
    rw [hCgot, if_pos (by decide +kernel), hcg2] at hh
    refine hh.mono ?_
    intro e w' h
    obtain ⟨⟨a', c', rfl, hsp⟩, hb⟩ := h.good
    exact ⟨⟨a', c', rfl, hsp⟩, hb⟩
  have HG2 : Hid (∀ ap cp g W, Below w.heap.size w W → SpaceAt W ap C → W.heap[g]? = some (.cells #[.string ⟨#[103, 101, 116]⟩, .string key] 9 (0, 0)) → Calls Tryz.prog 5 #[.slice ap C.length cp, .int .i64 now, .slice (some ⟨g, 0, none⟩) 2 2] W fun e w' => (∃ a' n' c', e = .returned (.tuple #[.slice a' n' c', .agg #[.int .i64 5, .string ⟨#[]⟩, .int .i64 0, .slice none 0 0], .int .i64 0])) ∧ Below W.heap.size W w') := fun ap cp g W hW hs hg => by
    have hh := do_get ap cp C now g 0 2 key W (he.below hW) hs hCc ht (words2 hg) (by omega) hwg
    rw [hCgot, whole_nothing] at hh
    refine hh.mono ?_
    intro e w' h
    obtain ⟨⟨a', c', rfl, hsp⟩, hb⟩ := h.bad (by decide)
    exact ⟨⟨a', _, c', rfl⟩, hb⟩
  have HP1 : Hid (∀ ap cp g W, Below w.heap.size w W → SpaceAt W ap P → W.heap[g]? = some (.cells #[.string ⟨#[112, 101, 114, 115, 105, 115, 116]⟩, .string key] 9 (0, 0)) → Calls Tryz.prog 5 #[.slice ap P.length cp, .int .i64 now, .slice (some ⟨g, 0, none⟩) 2 2] W fun e w' => (∃ a' c', e = .returned (.tuple #[.slice a' P.length c', .agg #[.int .i64 3, .string ⟨#[]⟩, .int .i64 0, .slice none 0 0], .int .i64 0]) ∧ SpaceAt w' a' P) ∧ Below W.heap.size W w') := fun ap cp g W hW hs hg => by
    have hh := do_persist ap cp P now g 0 2 key W (he.below hW) hs hPc ht (words2 hg) (by omega) hwp htil
    refine hh.mono ?_
    intro e w' h
    obtain ⟨⟨a', c', rfl, hsp⟩, hb⟩ := h.good
    exact ⟨⟨a', c', rfl, hsp⟩, hb⟩
  have HSR : Hid (∀ k t n W, Calls Tryz.prog 6 #[.agg #[.int .i64 k, .string t, .int .i64 n, .slice none 0 0], .agg #[.int .i64 k, .string t, .int .i64 n, .slice none 0 0]] W fun e w' => e = .returned (.bool true) ∧ Below W.heap.size W w') := fun k t n W => same_zero k t n none none 0 0 W
  have HSA : Hid (∀ x y d f W, SpaceAt W x P → SpaceAt W y P → Calls Tryz.prog 7 #[.slice x P.length d, .slice y P.length f] W fun e w' => e = .returned (.bool true) ∧ Below W.heap.size W w') := fun x y d f W h1 h2 => sameSpace_any x y d f P W h1 h2 (by omega)
  have HSC : Hid (∀ x y d f W, SpaceAt W x C → SpaceAt W y C → Calls Tryz.prog 7 #[.slice x C.length d, .slice y C.length f] W fun e w' => e = .returned (.bool true) ∧ Below W.heap.size W w') := fun x y d f W h1 h2 => sameSpace_any x y d f C W h1 h2 (by omega)
  clear OK OC hks hvs hag1 hag2 hPr hgot htil hPk hw1 hw2 hcg1 hcg2 hCr hCgot hPn hCn hPc hCc hwg hwd hwp h0 hp hc he ht hP hC
  have SS_w := hs
  clear hs
  go_enter Tryz.func3, Tryz.ntmps3
  go_wp2_with fail
  refine (HBG.out w (Below.refl _ w)).mono ?_
  rintro e u0 ⟨rfl, hbu0⟩
  have SS_u0 := SS_w.below hbu0
  have B_u0 : Below w.heap.size w u0 := hbu0
  clear SS_w hbu0
  go_wp2_with fail
  generalize hV1 : u0.alloc (.cells #[.string ⟨#[115, 101, 116]⟩, .string key, .string value] 9) = V1
  have AV1 : Below u0.heap.size u0 V1 := hV1 ▸ (Below.refl _ u0).alloc (Nat.le_refl _) _
  have hzV1 : V1.heap.size = u0.heap.size + 1 := by rw [← hV1]; simp
  have A_V1 : V1.heap[u0.heap.size]? = some (.cells #[.string ⟨#[115, 101, 116]⟩, .string key, .string value] 9 (0, 0)) := hV1 ▸ allocY_new u0 _
  have lA_V1 := (Array.getElem?_eq_some_iff.1 A_V1).1
  have SS_V1 := SS_u0.below AV1
  have B_V1 := B_u0.trans (AV1.mono B_u0.size)
  clear SS_u0 B_u0 AV1 hV1
  clear hzV1
  refine (HS1.out (u0.heap.size) V1 B_V1 SS_V1 A_V1).mono ?_
  rintro e u2 ⟨⟨a1, c1, rfl, SA_u2⟩, hbu2⟩
  have SS_u2 := SS_V1.below hbu2
  have B_u2 := B_V1.trans (hbu2.mono B_V1.size)
  clear SS_V1 B_V1 A_V1 lA_V1 hbu2
  go_wp2_with fail
  generalize hV3 : u2.alloc (.cells #[.int .i64 1, .string ⟨#[79, 75]⟩, .int .i64 0, .slice none 0 0] 27) = V3
  have AV3 : Below u2.heap.size u2 V3 := hV3 ▸ (Below.refl _ u2).alloc (Nat.le_refl _) _
  have hzV3 : V3.heap.size = u2.heap.size + 1 := by rw [← hV3]; simp
  have R_V3 : V3.heap[u2.heap.size]? = some (.cells #[.int .i64 1, .string ⟨#[79, 75]⟩, .int .i64 0, .slice none 0 0] 27 (0, 0)) := hV3 ▸ allocY_new u2 _
  have lR_V3 := (Array.getElem?_eq_some_iff.1 R_V3).1
  have SS_V3 := SS_u2.below AV3
  have SA_V3 := SA_u2.below AV3
  have B_V3 := B_u2.trans (AV3.mono B_u2.size)
  clear SS_u2 SA_u2 B_u2 AV3 hV3
  generalize hV4 : V3.alloc (.cells #[.string ⟨#[115, 101, 116]⟩, .string key, .string value] 9) = V4
  have AV4 : Below V3.heap.size V3 V4 := hV4 ▸ (Below.refl _ V3).alloc (Nat.le_refl _) _
  have xV4 : V4.heap[V3.heap.size]? = some (.cells #[.string ⟨#[115, 101, 116]⟩, .string key, .string value] 9 (0, 0)) := hV4 ▸ allocY_new V3 _
  rw [hzV3] at xV4
  have hzV4 : V4.heap.size = u2.heap.size + 1 + 1 := by rw [← hV4, World.size_alloc, hzV3]
  have A_V4 : V4.heap[u2.heap.size + 1]? = some (.cells #[.string ⟨#[115, 101, 116]⟩, .string key, .string value] 9 (0, 0)) := xV4
  have lA_V4 := (Array.getElem?_eq_some_iff.1 A_V4).1
  have R_V4 := (AV4.block _ lR_V3).trans R_V3
  have lR_V4 := (Array.getElem?_eq_some_iff.1 R_V4).1
  have SS_V4 := SS_V3.below AV4
  have SA_V4 := SA_V3.below AV4
  have B_V4 := B_V3.trans (AV4.mono B_V3.size)
  clear R_V3 lR_V3 SS_V3 SA_V3 B_V3 AV4 hV4 xV4 hzV3
  clear hzV4
  refine (HS2.out a1 c1 (u2.heap.size + 1) V4 B_V4 SA_V4 A_V4).mono ?_
  rintro e u5 ⟨⟨a2, c2, rfl, SB_u5⟩, hbu5⟩
  have R_u5 := (hbu5.block _ lR_V4).trans R_V4
  have lR_u5 := (Array.getElem?_eq_some_iff.1 R_u5).1
  have SS_u5 := SS_V4.below hbu5
  have SA_u5 := SA_V4.below hbu5
  have B_u5 := B_V4.trans (hbu5.mono B_V4.size)
  clear R_V4 lR_V4 SS_V4 SA_V4 B_V4 A_V4 lA_V4 hbu5
  go_wp2_with fail
  generalize hV6 : u5.alloc (.cells #[.int .i64 1, .string ⟨#[79, 75]⟩, .int .i64 0, .slice none 0 0] 27) = V6
  have AV6 : Below u5.heap.size u5 V6 := hV6 ▸ (Below.refl _ u5).alloc (Nat.le_refl _) _
  have hzV6 : V6.heap.size = u5.heap.size + 1 := by rw [← hV6]; simp
  have Q_V6 : V6.heap[u5.heap.size]? = some (.cells #[.int .i64 1, .string ⟨#[79, 75]⟩, .int .i64 0, .slice none 0 0] 27 (0, 0)) := hV6 ▸ allocY_new u5 _
  have lQ_V6 := (Array.getElem?_eq_some_iff.1 Q_V6).1
  have R_V6 := (AV6.block _ lR_u5).trans R_u5
  have lR_V6 := (Array.getElem?_eq_some_iff.1 R_V6).1
  have SS_V6 := SS_u5.below AV6
  have SA_V6 := SA_u5.below AV6
  have SB_V6 := SB_u5.below AV6
  have B_V6 := B_u5.trans (AV6.mono B_u5.size)
  clear R_u5 lR_u5 SS_u5 SA_u5 SB_u5 B_u5 AV6 hV6
  generalize hV7 : V6.alloc (.cells #[.string ⟨#[103, 101, 116]⟩, .string key] 9) = V7
  have AV7 : Below V6.heap.size V6 V7 := hV7 ▸ (Below.refl _ V6).alloc (Nat.le_refl _) _
  have xV7 : V7.heap[V6.heap.size]? = some (.cells #[.string ⟨#[103, 101, 116]⟩, .string key] 9 (0, 0)) := hV7 ▸ allocY_new V6 _
  rw [hzV6] at xV7
  have hzV7 : V7.heap.size = u5.heap.size + 1 + 1 := by rw [← hV7, World.size_alloc, hzV6]
  have A_V7 : V7.heap[u5.heap.size + 1]? = some (.cells #[.string ⟨#[103, 101, 116]⟩, .string key] 9 (0, 0)) := xV7
  have lA_V7 := (Array.getElem?_eq_some_iff.1 A_V7).1
  have R_V7 := (AV7.block _ lR_V6).trans R_V6
  have lR_V7 := (Array.getElem?_eq_some_iff.1 R_V7).1
  have Q_V7 := (AV7.block _ lQ_V6).trans Q_V6
  have lQ_V7 := (Array.getElem?_eq_some_iff.1 Q_V7).1
  have SS_V7 := SS_V6.below AV7
  have SA_V7 := SA_V6.below AV7
  have SB_V7 := SB_V6.below AV7
  have B_V7 := B_V6.trans (AV7.mono B_V6.size)
  clear R_V6 lR_V6 Q_V6 lQ_V6 SS_V6 SA_V6 SB_V6 B_V6 AV7 hV7 xV7 hzV6
  clear hzV7
  refine (HG1.out a1 c1 (u5.heap.size + 1) V7 B_V7 SA_V7 A_V7).mono ?_
  rintro e u8 ⟨⟨a3, n3, c3, rfl⟩, hbu8⟩
  have R_u8 := (hbu8.block _ lR_V7).trans R_V7
  have lR_u8 := (Array.getElem?_eq_some_iff.1 R_u8).1
  have Q_u8 := (hbu8.block _ lQ_V7).trans Q_V7
  have lQ_u8 := (Array.getElem?_eq_some_iff.1 Q_u8).1
  have SS_u8 := SS_V7.below hbu8
  have SA_u8 := SA_V7.below hbu8
  have SB_u8 := SB_V7.below hbu8
  have B_u8 := B_V7.trans (hbu8.mono B_V7.size)
  clear R_V7 lR_V7 Q_V7 lQ_V7 SS_V7 SA_V7 SB_V7 B_V7 A_V7 lA_V7 hbu8
  go_wp2_with fail
  generalize hV9 : u8.alloc (.cells #[.int .i64 4, .string value, .int .i64 0, .slice none 0 0] 27) = V9
  have AV9 : Below u8.heap.size u8 V9 := hV9 ▸ (Below.refl _ u8).alloc (Nat.le_refl _) _
  have hzV9 : V9.heap.size = u8.heap.size + 1 := by rw [← hV9]; simp
  have P_V9 : V9.heap[u8.heap.size]? = some (.cells #[.int .i64 4, .string value, .int .i64 0, .slice none 0 0] 27 (0, 0)) := hV9 ▸ allocY_new u8 _
  have lP_V9 := (Array.getElem?_eq_some_iff.1 P_V9).1
  have R_V9 := (AV9.block _ lR_u8).trans R_u8
  have lR_V9 := (Array.getElem?_eq_some_iff.1 R_V9).1
  have Q_V9 := (AV9.block _ lQ_u8).trans Q_u8
  have lQ_V9 := (Array.getElem?_eq_some_iff.1 Q_V9).1
  have SS_V9 := SS_u8.below AV9
  have SA_V9 := SA_u8.below AV9
  have SB_V9 := SB_u8.below AV9
  have B_V9 := B_u8.trans (AV9.mono B_u8.size)
  clear R_u8 lR_u8 Q_u8 lQ_u8 SS_u8 SA_u8 SB_u8 B_u8 AV9 hV9
  generalize hV10 : V9.alloc (.cells #[.string ⟨#[100, 101, 108]⟩, .string key] 9) = V10
  have AV10 : Below V9.heap.size V9 V10 := hV10 ▸ (Below.refl _ V9).alloc (Nat.le_refl _) _
  have xV10 : V10.heap[V9.heap.size]? = some (.cells #[.string ⟨#[100, 101, 108]⟩, .string key] 9 (0, 0)) := hV10 ▸ allocY_new V9 _
  rw [hzV9] at xV10
  have hzV10 : V10.heap.size = u8.heap.size + 1 + 1 := by rw [← hV10, World.size_alloc, hzV9]
  have A_V10 : V10.heap[u8.heap.size + 1]? = some (.cells #[.string ⟨#[100, 101, 108]⟩, .string key] 9 (0, 0)) := xV10
  have lA_V10 := (Array.getElem?_eq_some_iff.1 A_V10).1
  have R_V10 := (AV10.block _ lR_V9).trans R_V9
  have lR_V10 := (Array.getElem?_eq_some_iff.1 R_V10).1
  have Q_V10 := (AV10.block _ lQ_V9).trans Q_V9
  have lQ_V10 := (Array.getElem?_eq_some_iff.1 Q_V10).1
  have P_V10 := (AV10.block _ lP_V9).trans P_V9
  have lP_V10 := (Array.getElem?_eq_some_iff.1 P_V10).1
  have SS_V10 := SS_V9.below AV10
  have SA_V10 := SA_V9.below AV10
  have SB_V10 := SB_V9.below AV10
  have B_V10 := B_V9.trans (AV10.mono B_V9.size)
  clear R_V9 lR_V9 Q_V9 lQ_V9 P_V9 lP_V9 SS_V9 SA_V9 SB_V9 B_V9 AV10 hV10 xV10 hzV9
  clear hzV10
  refine (HD1.out a1 c1 (u8.heap.size + 1) V10 B_V10 SA_V10 A_V10).mono ?_
  rintro e u11 ⟨⟨a4, c4, rfl, SC_u11⟩, hbu11⟩
  have R_u11 := (hbu11.block _ lR_V10).trans R_V10
  have lR_u11 := (Array.getElem?_eq_some_iff.1 R_u11).1
  have Q_u11 := (hbu11.block _ lQ_V10).trans Q_V10
  have lQ_u11 := (Array.getElem?_eq_some_iff.1 Q_u11).1
  have P_u11 := (hbu11.block _ lP_V10).trans P_V10
  have lP_u11 := (Array.getElem?_eq_some_iff.1 P_u11).1
  have SS_u11 := SS_V10.below hbu11
  have SA_u11 := SA_V10.below hbu11
  have SB_u11 := SB_V10.below hbu11
  have B_u11 := B_V10.trans (hbu11.mono B_V10.size)
  clear R_V10 lR_V10 Q_V10 lQ_V10 P_V10 lP_V10 SS_V10 SA_V10 SB_V10 B_V10 A_V10 lA_V10 hbu11
  go_wp2_with fail
  generalize hV12 : u11.alloc (.cells #[.int .i64 3, .string ⟨#[]⟩, .int .i64 1, .slice none 0 0] 27) = V12
  have AV12 : Below u11.heap.size u11 V12 := hV12 ▸ (Below.refl _ u11).alloc (Nat.le_refl _) _
  have hzV12 : V12.heap.size = u11.heap.size + 1 := by rw [← hV12]; simp
  have O_V12 : V12.heap[u11.heap.size]? = some (.cells #[.int .i64 3, .string ⟨#[]⟩, .int .i64 1, .slice none 0 0] 27 (0, 0)) := hV12 ▸ allocY_new u11 _
  have lO_V12 := (Array.getElem?_eq_some_iff.1 O_V12).1
  have R_V12 := (AV12.block _ lR_u11).trans R_u11
  have lR_V12 := (Array.getElem?_eq_some_iff.1 R_V12).1
  have Q_V12 := (AV12.block _ lQ_u11).trans Q_u11
  have lQ_V12 := (Array.getElem?_eq_some_iff.1 Q_V12).1
  have P_V12 := (AV12.block _ lP_u11).trans P_u11
  have lP_V12 := (Array.getElem?_eq_some_iff.1 P_V12).1
  have SS_V12 := SS_u11.below AV12
  have SA_V12 := SA_u11.below AV12
  have SB_V12 := SB_u11.below AV12
  have SC_V12 := SC_u11.below AV12
  have B_V12 := B_u11.trans (AV12.mono B_u11.size)
  clear R_u11 lR_u11 Q_u11 lQ_u11 P_u11 lP_u11 SS_u11 SA_u11 SB_u11 SC_u11 B_u11 AV12 hV12
  generalize hV13 : V12.alloc (.cells #[.string ⟨#[100, 101, 108]⟩, .string key] 9) = V13
  have AV13 : Below V12.heap.size V12 V13 := hV13 ▸ (Below.refl _ V12).alloc (Nat.le_refl _) _
  have xV13 : V13.heap[V12.heap.size]? = some (.cells #[.string ⟨#[100, 101, 108]⟩, .string key] 9 (0, 0)) := hV13 ▸ allocY_new V12 _
  rw [hzV12] at xV13
  have hzV13 : V13.heap.size = u11.heap.size + 1 + 1 := by rw [← hV13, World.size_alloc, hzV12]
  have A_V13 : V13.heap[u11.heap.size + 1]? = some (.cells #[.string ⟨#[100, 101, 108]⟩, .string key] 9 (0, 0)) := xV13
  have lA_V13 := (Array.getElem?_eq_some_iff.1 A_V13).1
  have R_V13 := (AV13.block _ lR_V12).trans R_V12
  have lR_V13 := (Array.getElem?_eq_some_iff.1 R_V13).1
  have Q_V13 := (AV13.block _ lQ_V12).trans Q_V12
  have lQ_V13 := (Array.getElem?_eq_some_iff.1 Q_V13).1
  have P_V13 := (AV13.block _ lP_V12).trans P_V12
  have lP_V13 := (Array.getElem?_eq_some_iff.1 P_V13).1
  have O_V13 := (AV13.block _ lO_V12).trans O_V12
  have lO_V13 := (Array.getElem?_eq_some_iff.1 O_V13).1
  have SS_V13 := SS_V12.below AV13
  have SA_V13 := SA_V12.below AV13
  have SB_V13 := SB_V12.below AV13
  have SC_V13 := SC_V12.below AV13
  have B_V13 := B_V12.trans (AV13.mono B_V12.size)
  clear R_V12 lR_V12 Q_V12 lQ_V12 P_V12 lP_V12 O_V12 lO_V12 SS_V12 SA_V12 SB_V12 SC_V12 B_V12 AV13 hV13 xV13 hzV12
  clear hzV13
  refine (HD2.out a4 c4 (u11.heap.size + 1) V13 B_V13 SC_V13 A_V13).mono ?_
  rintro e u14 ⟨⟨a5, c5, rfl, SD_u14⟩, hbu14⟩
  have R_u14 := (hbu14.block _ lR_V13).trans R_V13
  have lR_u14 := (Array.getElem?_eq_some_iff.1 R_u14).1
  have Q_u14 := (hbu14.block _ lQ_V13).trans Q_V13
  have lQ_u14 := (Array.getElem?_eq_some_iff.1 Q_u14).1
  have P_u14 := (hbu14.block _ lP_V13).trans P_V13
  have lP_u14 := (Array.getElem?_eq_some_iff.1 P_u14).1
  have O_u14 := (hbu14.block _ lO_V13).trans O_V13
  have lO_u14 := (Array.getElem?_eq_some_iff.1 O_u14).1
  have SS_u14 := SS_V13.below hbu14
  have SA_u14 := SA_V13.below hbu14
  have SB_u14 := SB_V13.below hbu14
  have SC_u14 := SC_V13.below hbu14
  have B_u14 := B_V13.trans (hbu14.mono B_V13.size)
  clear R_V13 lR_V13 Q_V13 lQ_V13 P_V13 lP_V13 O_V13 lO_V13 SS_V13 SA_V13 SB_V13 SC_V13 B_V13 A_V13 lA_V13 hbu14
  go_wp2_with fail
  generalize hV15 : u14.alloc (.cells #[.int .i64 3, .string ⟨#[]⟩, .int .i64 0, .slice none 0 0] 27) = V15
  have AV15 : Below u14.heap.size u14 V15 := hV15 ▸ (Below.refl _ u14).alloc (Nat.le_refl _) _
  have hzV15 : V15.heap.size = u14.heap.size + 1 := by rw [← hV15]; simp
  have N_V15 : V15.heap[u14.heap.size]? = some (.cells #[.int .i64 3, .string ⟨#[]⟩, .int .i64 0, .slice none 0 0] 27 (0, 0)) := hV15 ▸ allocY_new u14 _
  have lN_V15 := (Array.getElem?_eq_some_iff.1 N_V15).1
  have R_V15 := (AV15.block _ lR_u14).trans R_u14
  have lR_V15 := (Array.getElem?_eq_some_iff.1 R_V15).1
  have Q_V15 := (AV15.block _ lQ_u14).trans Q_u14
  have lQ_V15 := (Array.getElem?_eq_some_iff.1 Q_V15).1
  have P_V15 := (AV15.block _ lP_u14).trans P_u14
  have lP_V15 := (Array.getElem?_eq_some_iff.1 P_V15).1
  have O_V15 := (AV15.block _ lO_u14).trans O_u14
  have lO_V15 := (Array.getElem?_eq_some_iff.1 O_V15).1
  have SS_V15 := SS_u14.below AV15
  have SA_V15 := SA_u14.below AV15
  have SB_V15 := SB_u14.below AV15
  have SC_V15 := SC_u14.below AV15
  have SD_V15 := SD_u14.below AV15
  have B_V15 := B_u14.trans (AV15.mono B_u14.size)
  clear R_u14 lR_u14 Q_u14 lQ_u14 P_u14 lP_u14 O_u14 lO_u14 SS_u14 SA_u14 SB_u14 SC_u14 SD_u14 B_u14 AV15 hV15
  generalize hV16 : V15.alloc (.cells #[.string ⟨#[103, 101, 116]⟩, .string key] 9) = V16
  have AV16 : Below V15.heap.size V15 V16 := hV16 ▸ (Below.refl _ V15).alloc (Nat.le_refl _) _
  have xV16 : V16.heap[V15.heap.size]? = some (.cells #[.string ⟨#[103, 101, 116]⟩, .string key] 9 (0, 0)) := hV16 ▸ allocY_new V15 _
  rw [hzV15] at xV16
  have hzV16 : V16.heap.size = u14.heap.size + 1 + 1 := by rw [← hV16, World.size_alloc, hzV15]
  have A_V16 : V16.heap[u14.heap.size + 1]? = some (.cells #[.string ⟨#[103, 101, 116]⟩, .string key] 9 (0, 0)) := xV16
  have lA_V16 := (Array.getElem?_eq_some_iff.1 A_V16).1
  have R_V16 := (AV16.block _ lR_V15).trans R_V15
  have lR_V16 := (Array.getElem?_eq_some_iff.1 R_V16).1
  have Q_V16 := (AV16.block _ lQ_V15).trans Q_V15
  have lQ_V16 := (Array.getElem?_eq_some_iff.1 Q_V16).1
  have P_V16 := (AV16.block _ lP_V15).trans P_V15
  have lP_V16 := (Array.getElem?_eq_some_iff.1 P_V16).1
  have O_V16 := (AV16.block _ lO_V15).trans O_V15
  have lO_V16 := (Array.getElem?_eq_some_iff.1 O_V16).1
  have N_V16 := (AV16.block _ lN_V15).trans N_V15
  have lN_V16 := (Array.getElem?_eq_some_iff.1 N_V16).1
  have SS_V16 := SS_V15.below AV16
  have SA_V16 := SA_V15.below AV16
  have SB_V16 := SB_V15.below AV16
  have SC_V16 := SC_V15.below AV16
  have SD_V16 := SD_V15.below AV16
  have B_V16 := B_V15.trans (AV16.mono B_V15.size)
  clear R_V15 lR_V15 Q_V15 lQ_V15 P_V15 lP_V15 O_V15 lO_V15 N_V15 lN_V15 SS_V15 SA_V15 SB_V15 SC_V15 SD_V15 B_V15 AV16 hV16 xV16 hzV15
  clear hzV16
  refine (HG2.out a4 c4 (u14.heap.size + 1) V16 B_V16 SC_V16 A_V16).mono ?_
  rintro e u17 ⟨⟨a6, n6, c6, rfl⟩, hbu17⟩
  have R_u17 := (hbu17.block _ lR_V16).trans R_V16
  have lR_u17 := (Array.getElem?_eq_some_iff.1 R_u17).1
  have Q_u17 := (hbu17.block _ lQ_V16).trans Q_V16
  have lQ_u17 := (Array.getElem?_eq_some_iff.1 Q_u17).1
  have P_u17 := (hbu17.block _ lP_V16).trans P_V16
  have lP_u17 := (Array.getElem?_eq_some_iff.1 P_u17).1
  have O_u17 := (hbu17.block _ lO_V16).trans O_V16
  have lO_u17 := (Array.getElem?_eq_some_iff.1 O_u17).1
  have N_u17 := (hbu17.block _ lN_V16).trans N_V16
  have lN_u17 := (Array.getElem?_eq_some_iff.1 N_u17).1
  have SS_u17 := SS_V16.below hbu17
  have SA_u17 := SA_V16.below hbu17
  have SB_u17 := SB_V16.below hbu17
  have SC_u17 := SC_V16.below hbu17
  have SD_u17 := SD_V16.below hbu17
  have B_u17 := B_V16.trans (hbu17.mono B_V16.size)
  clear R_V16 lR_V16 Q_V16 lQ_V16 P_V16 lP_V16 O_V16 lO_V16 N_V16 lN_V16 SS_V16 SA_V16 SB_V16 SC_V16 SD_V16 B_V16 A_V16 lA_V16 hbu17
  go_wp2_with fail
  generalize hV18 : u17.alloc (.cells #[.int .i64 5, .string ⟨#[]⟩, .int .i64 0, .slice none 0 0] 27) = V18
  have AV18 : Below u17.heap.size u17 V18 := hV18 ▸ (Below.refl _ u17).alloc (Nat.le_refl _) _
  have hzV18 : V18.heap.size = u17.heap.size + 1 := by rw [← hV18]; simp
  have M_V18 : V18.heap[u17.heap.size]? = some (.cells #[.int .i64 5, .string ⟨#[]⟩, .int .i64 0, .slice none 0 0] 27 (0, 0)) := hV18 ▸ allocY_new u17 _
  have lM_V18 := (Array.getElem?_eq_some_iff.1 M_V18).1
  have R_V18 := (AV18.block _ lR_u17).trans R_u17
  have lR_V18 := (Array.getElem?_eq_some_iff.1 R_V18).1
  have Q_V18 := (AV18.block _ lQ_u17).trans Q_u17
  have lQ_V18 := (Array.getElem?_eq_some_iff.1 Q_V18).1
  have P_V18 := (AV18.block _ lP_u17).trans P_u17
  have lP_V18 := (Array.getElem?_eq_some_iff.1 P_V18).1
  have O_V18 := (AV18.block _ lO_u17).trans O_u17
  have lO_V18 := (Array.getElem?_eq_some_iff.1 O_V18).1
  have N_V18 := (AV18.block _ lN_u17).trans N_u17
  have lN_V18 := (Array.getElem?_eq_some_iff.1 N_V18).1
  have SS_V18 := SS_u17.below AV18
  have SA_V18 := SA_u17.below AV18
  have SB_V18 := SB_u17.below AV18
  have SC_V18 := SC_u17.below AV18
  have SD_V18 := SD_u17.below AV18
  have B_V18 := B_u17.trans (AV18.mono B_u17.size)
  clear R_u17 lR_u17 Q_u17 lQ_u17 P_u17 lP_u17 O_u17 lO_u17 N_u17 lN_u17 SS_u17 SA_u17 SB_u17 SC_u17 SD_u17 B_u17 AV18 hV18
  generalize hV19 : V18.alloc (.cells #[.string ⟨#[112, 101, 114, 115, 105, 115, 116]⟩, .string key] 9) = V19
  have AV19 : Below V18.heap.size V18 V19 := hV19 ▸ (Below.refl _ V18).alloc (Nat.le_refl _) _
  have xV19 : V19.heap[V18.heap.size]? = some (.cells #[.string ⟨#[112, 101, 114, 115, 105, 115, 116]⟩, .string key] 9 (0, 0)) := hV19 ▸ allocY_new V18 _
  rw [hzV18] at xV19
  have hzV19 : V19.heap.size = u17.heap.size + 1 + 1 := by rw [← hV19, World.size_alloc, hzV18]
  have A_V19 : V19.heap[u17.heap.size + 1]? = some (.cells #[.string ⟨#[112, 101, 114, 115, 105, 115, 116]⟩, .string key] 9 (0, 0)) := xV19
  have lA_V19 := (Array.getElem?_eq_some_iff.1 A_V19).1
  have R_V19 := (AV19.block _ lR_V18).trans R_V18
  have lR_V19 := (Array.getElem?_eq_some_iff.1 R_V19).1
  have Q_V19 := (AV19.block _ lQ_V18).trans Q_V18
  have lQ_V19 := (Array.getElem?_eq_some_iff.1 Q_V19).1
  have P_V19 := (AV19.block _ lP_V18).trans P_V18
  have lP_V19 := (Array.getElem?_eq_some_iff.1 P_V19).1
  have O_V19 := (AV19.block _ lO_V18).trans O_V18
  have lO_V19 := (Array.getElem?_eq_some_iff.1 O_V19).1
  have N_V19 := (AV19.block _ lN_V18).trans N_V18
  have lN_V19 := (Array.getElem?_eq_some_iff.1 N_V19).1
  have M_V19 := (AV19.block _ lM_V18).trans M_V18
  have lM_V19 := (Array.getElem?_eq_some_iff.1 M_V19).1
  have SS_V19 := SS_V18.below AV19
  have SA_V19 := SA_V18.below AV19
  have SB_V19 := SB_V18.below AV19
  have SC_V19 := SC_V18.below AV19
  have SD_V19 := SD_V18.below AV19
  have B_V19 := B_V18.trans (AV19.mono B_V18.size)
  clear R_V18 lR_V18 Q_V18 lQ_V18 P_V18 lP_V18 O_V18 lO_V18 N_V18 lN_V18 M_V18 lM_V18 SS_V18 SA_V18 SB_V18 SC_V18 SD_V18 B_V18 AV19 hV19 xV19 hzV18
  clear hzV19
  refine (HP1.out a1 c1 (u17.heap.size + 1) V19 B_V19 SA_V19 A_V19).mono ?_
  rintro e u20 ⟨⟨a7, c7, rfl, SE_u20⟩, hbu20⟩
  have R_u20 := (hbu20.block _ lR_V19).trans R_V19
  have lR_u20 := (Array.getElem?_eq_some_iff.1 R_u20).1
  have Q_u20 := (hbu20.block _ lQ_V19).trans Q_V19
  have lQ_u20 := (Array.getElem?_eq_some_iff.1 Q_u20).1
  have P_u20 := (hbu20.block _ lP_V19).trans P_V19
  have lP_u20 := (Array.getElem?_eq_some_iff.1 P_u20).1
  have O_u20 := (hbu20.block _ lO_V19).trans O_V19
  have lO_u20 := (Array.getElem?_eq_some_iff.1 O_u20).1
  have N_u20 := (hbu20.block _ lN_V19).trans N_V19
  have lN_u20 := (Array.getElem?_eq_some_iff.1 N_u20).1
  have M_u20 := (hbu20.block _ lM_V19).trans M_V19
  have lM_u20 := (Array.getElem?_eq_some_iff.1 M_u20).1
  have SS_u20 := SS_V19.below hbu20
  have SA_u20 := SA_V19.below hbu20
  have SB_u20 := SB_V19.below hbu20
  have SC_u20 := SC_V19.below hbu20
  have SD_u20 := SD_V19.below hbu20
  have B_u20 := B_V19.trans (hbu20.mono B_V19.size)
  clear R_V19 lR_V19 Q_V19 lQ_V19 P_V19 lP_V19 O_V19 lO_V19 N_V19 lN_V19 M_V19 lM_V19 SS_V19 SA_V19 SB_V19 SC_V19 SD_V19 B_V19 A_V19 lA_V19 hbu20
  have r0 : u20.cell? ⟨u2.heap.size, 0, none⟩ = some (.int .i64 1) := by simp [World.cell?, R_u20]
  have r1 : u20.cell? ⟨u2.heap.size, 1, none⟩ = some (.string ⟨#[79, 75]⟩) := by simp [World.cell?, R_u20]
  have r2 : u20.cell? ⟨u2.heap.size, 2, none⟩ = some (.int .i64 0) := by simp [World.cell?, R_u20]
  have r3 : u20.cell? ⟨u2.heap.size, 3, none⟩ = some (.slice none 0 0) := by simp [World.cell?, R_u20]
  have q0 : u20.cell? ⟨u5.heap.size, 0, none⟩ = some (.int .i64 1) := by simp [World.cell?, Q_u20]
  have q1 : u20.cell? ⟨u5.heap.size, 1, none⟩ = some (.string ⟨#[79, 75]⟩) := by simp [World.cell?, Q_u20]
  have q2 : u20.cell? ⟨u5.heap.size, 2, none⟩ = some (.int .i64 0) := by simp [World.cell?, Q_u20]
  have q3 : u20.cell? ⟨u5.heap.size, 3, none⟩ = some (.slice none 0 0) := by simp [World.cell?, Q_u20]
  go_wp2_with fail
  generalize hV21 : u20.alloc (.cells #[.int .i64 3, .string ⟨#[]⟩, .int .i64 0, .slice none 0 0] 27) = V21
  have AV21 : Below u20.heap.size u20 V21 := hV21 ▸ (Below.refl _ u20).alloc (Nat.le_refl _) _
  have hzV21 : V21.heap.size = u20.heap.size + 1 := by rw [← hV21]; simp
  have U_V21 : V21.heap[u20.heap.size]? = some (.cells #[.int .i64 3, .string ⟨#[]⟩, .int .i64 0, .slice none 0 0] 27 (0, 0)) := hV21 ▸ allocY_new u20 _
  have lU_V21 := (Array.getElem?_eq_some_iff.1 U_V21).1
  have R_V21 := (AV21.block _ lR_u20).trans R_u20
  have lR_V21 := (Array.getElem?_eq_some_iff.1 R_V21).1
  have Q_V21 := (AV21.block _ lQ_u20).trans Q_u20
  have lQ_V21 := (Array.getElem?_eq_some_iff.1 Q_V21).1
  have P_V21 := (AV21.block _ lP_u20).trans P_u20
  have lP_V21 := (Array.getElem?_eq_some_iff.1 P_V21).1
  have O_V21 := (AV21.block _ lO_u20).trans O_u20
  have lO_V21 := (Array.getElem?_eq_some_iff.1 O_V21).1
  have N_V21 := (AV21.block _ lN_u20).trans N_u20
  have lN_V21 := (Array.getElem?_eq_some_iff.1 N_V21).1
  have M_V21 := (AV21.block _ lM_u20).trans M_u20
  have lM_V21 := (Array.getElem?_eq_some_iff.1 M_V21).1
  have SS_V21 := SS_u20.below AV21
  have SA_V21 := SA_u20.below AV21
  have SB_V21 := SB_u20.below AV21
  have SC_V21 := SC_u20.below AV21
  have SD_V21 := SD_u20.below AV21
  have SE_V21 := SE_u20.below AV21
  have B_V21 := B_u20.trans (AV21.mono B_u20.size)
  clear R_u20 lR_u20 Q_u20 lQ_u20 P_u20 lP_u20 O_u20 lO_u20 N_u20 lN_u20 M_u20 lM_u20 SS_u20 SA_u20 SB_u20 SC_u20 SD_u20 SE_u20 B_u20 AV21 hV21
  clear hzV21
  refine (HSR.out 1 ⟨#[79, 75]⟩ 0 V21).mono ?_
  rintro e u22 ⟨rfl, hbu22⟩
  have R_u22 := (hbu22.block _ lR_V21).trans R_V21
  have lR_u22 := (Array.getElem?_eq_some_iff.1 R_u22).1
  have Q_u22 := (hbu22.block _ lQ_V21).trans Q_V21
  have lQ_u22 := (Array.getElem?_eq_some_iff.1 Q_u22).1
  have P_u22 := (hbu22.block _ lP_V21).trans P_V21
  have lP_u22 := (Array.getElem?_eq_some_iff.1 P_u22).1
  have O_u22 := (hbu22.block _ lO_V21).trans O_V21
  have lO_u22 := (Array.getElem?_eq_some_iff.1 O_u22).1
  have N_u22 := (hbu22.block _ lN_V21).trans N_V21
  have lN_u22 := (Array.getElem?_eq_some_iff.1 N_u22).1
  have M_u22 := (hbu22.block _ lM_V21).trans M_V21
  have lM_u22 := (Array.getElem?_eq_some_iff.1 M_u22).1
  have U_u22 := (hbu22.block _ lU_V21).trans U_V21
  have lU_u22 := (Array.getElem?_eq_some_iff.1 U_u22).1
  have SS_u22 := SS_V21.below hbu22
  have SA_u22 := SA_V21.below hbu22
  have SB_u22 := SB_V21.below hbu22
  have SC_u22 := SC_V21.below hbu22
  have SD_u22 := SD_V21.below hbu22
  have SE_u22 := SE_V21.below hbu22
  have B_u22 := B_V21.trans (hbu22.mono B_V21.size)
  clear R_V21 lR_V21 Q_V21 lQ_V21 P_V21 lP_V21 O_V21 lO_V21 N_V21 lN_V21 M_V21 lM_V21 U_V21 lU_V21 SS_V21 SA_V21 SB_V21 SC_V21 SD_V21 SE_V21 B_V21 hbu22 r0 r1 r2 r3 q0 q1 q2 q3
  go_wp2_with fail
  refine (HSA.out a1 a2 c1 c2 u22 SA_u22 SB_u22).mono ?_
  rintro e u23 ⟨rfl, hbu23⟩
  have R_u23 := (hbu23.block _ lR_u22).trans R_u22
  have lR_u23 := (Array.getElem?_eq_some_iff.1 R_u23).1
  have P_u23 := (hbu23.block _ lP_u22).trans P_u22
  have lP_u23 := (Array.getElem?_eq_some_iff.1 P_u23).1
  have O_u23 := (hbu23.block _ lO_u22).trans O_u22
  have lO_u23 := (Array.getElem?_eq_some_iff.1 O_u23).1
  have N_u23 := (hbu23.block _ lN_u22).trans N_u22
  have lN_u23 := (Array.getElem?_eq_some_iff.1 N_u23).1
  have M_u23 := (hbu23.block _ lM_u22).trans M_u22
  have lM_u23 := (Array.getElem?_eq_some_iff.1 M_u23).1
  have U_u23 := (hbu23.block _ lU_u22).trans U_u22
  have lU_u23 := (Array.getElem?_eq_some_iff.1 U_u23).1
  have SS_u23 := SS_u22.below hbu23
  have SA_u23 := SA_u22.below hbu23
  have SC_u23 := SC_u22.below hbu23
  have SD_u23 := SD_u22.below hbu23
  have SE_u23 := SE_u22.below hbu23
  have B_u23 := B_u22.trans (hbu23.mono B_u22.size)
  clear R_u22 lR_u22 P_u22 lP_u22 O_u22 lO_u22 N_u22 lN_u22 M_u22 lM_u22 U_u22 lU_u22 SS_u22 SA_u22 SC_u22 SD_u22 SE_u22 B_u22 SB_u22 Q_u22 lQ_u22 hbu23
  have p0 : u23.cell? ⟨u8.heap.size, 0, none⟩ = some (.int .i64 4) := by simp [World.cell?, P_u23]
  have p1 : u23.cell? ⟨u8.heap.size, 1, none⟩ = some (.string value) := by simp [World.cell?, P_u23]
  have p2 : u23.cell? ⟨u8.heap.size, 2, none⟩ = some (.int .i64 0) := by simp [World.cell?, P_u23]
  have p3 : u23.cell? ⟨u8.heap.size, 3, none⟩ = some (.slice none 0 0) := by simp [World.cell?, P_u23]
  go_wp2_with fail
  refine (HSR.out 4 value 0 u23).mono ?_
  rintro e u24 ⟨rfl, hbu24⟩
  have R_u24 := (hbu24.block _ lR_u23).trans R_u23
  have lR_u24 := (Array.getElem?_eq_some_iff.1 R_u24).1
  have O_u24 := (hbu24.block _ lO_u23).trans O_u23
  have lO_u24 := (Array.getElem?_eq_some_iff.1 O_u24).1
  have N_u24 := (hbu24.block _ lN_u23).trans N_u23
  have lN_u24 := (Array.getElem?_eq_some_iff.1 N_u24).1
  have M_u24 := (hbu24.block _ lM_u23).trans M_u23
  have lM_u24 := (Array.getElem?_eq_some_iff.1 M_u24).1
  have U_u24 := (hbu24.block _ lU_u23).trans U_u23
  have lU_u24 := (Array.getElem?_eq_some_iff.1 U_u24).1
  have SS_u24 := SS_u23.below hbu24
  have SA_u24 := SA_u23.below hbu24
  have SC_u24 := SC_u23.below hbu24
  have SD_u24 := SD_u23.below hbu24
  have SE_u24 := SE_u23.below hbu24
  have B_u24 := B_u23.trans (hbu24.mono B_u23.size)
  clear R_u23 lR_u23 O_u23 lO_u23 N_u23 lN_u23 M_u23 lM_u23 U_u23 lU_u23 SS_u23 SA_u23 SC_u23 SD_u23 SE_u23 B_u23 P_u23 lP_u23 hbu24 p0 p1 p2 p3
  have o0 : u24.cell? ⟨u11.heap.size, 0, none⟩ = some (.int .i64 3) := by simp [World.cell?, O_u24]
  have o1 : u24.cell? ⟨u11.heap.size, 1, none⟩ = some (.string ⟨#[]⟩) := by simp [World.cell?, O_u24]
  have o2 : u24.cell? ⟨u11.heap.size, 2, none⟩ = some (.int .i64 1) := by simp [World.cell?, O_u24]
  have o3 : u24.cell? ⟨u11.heap.size, 3, none⟩ = some (.slice none 0 0) := by simp [World.cell?, O_u24]
  have n0 : u24.cell? ⟨u14.heap.size, 0, none⟩ = some (.int .i64 3) := by simp [World.cell?, N_u24]
  have n1 : u24.cell? ⟨u14.heap.size, 1, none⟩ = some (.string ⟨#[]⟩) := by simp [World.cell?, N_u24]
  have n2 : u24.cell? ⟨u14.heap.size, 2, none⟩ = some (.int .i64 0) := by simp [World.cell?, N_u24]
  have n3 : u24.cell? ⟨u14.heap.size, 3, none⟩ = some (.slice none 0 0) := by simp [World.cell?, N_u24]
  go_wp2_with fail
  refine (HSC.out a4 a5 c4 c5 u24 SC_u24 SD_u24).mono ?_
  rintro e u25 ⟨rfl, hbu25⟩
  have R_u25 := (hbu25.block _ lR_u24).trans R_u24
  have lR_u25 := (Array.getElem?_eq_some_iff.1 R_u25).1
  have M_u25 := (hbu25.block _ lM_u24).trans M_u24
  have lM_u25 := (Array.getElem?_eq_some_iff.1 M_u25).1
  have U_u25 := (hbu25.block _ lU_u24).trans U_u24
  have lU_u25 := (Array.getElem?_eq_some_iff.1 U_u25).1
  have SS_u25 := SS_u24.below hbu25
  have SA_u25 := SA_u24.below hbu25
  have SE_u25 := SE_u24.below hbu25
  have B_u25 := B_u24.trans (hbu25.mono B_u24.size)
  clear R_u24 lR_u24 M_u24 lM_u24 U_u24 lU_u24 SS_u24 SA_u24 SE_u24 B_u24 O_u24 lO_u24 N_u24 lN_u24 SC_u24 SD_u24 hbu25 o0 o1 o2 o3 n0 n1 n2 n3
  have m0 : u25.cell? ⟨u17.heap.size, 0, none⟩ = some (.int .i64 5) := by simp [World.cell?, M_u25]
  have m1 : u25.cell? ⟨u17.heap.size, 1, none⟩ = some (.string ⟨#[]⟩) := by simp [World.cell?, M_u25]
  have m2 : u25.cell? ⟨u17.heap.size, 2, none⟩ = some (.int .i64 0) := by simp [World.cell?, M_u25]
  have m3 : u25.cell? ⟨u17.heap.size, 3, none⟩ = some (.slice none 0 0) := by simp [World.cell?, M_u25]
  have u0 : u25.cell? ⟨u20.heap.size, 0, none⟩ = some (.int .i64 3) := by simp [World.cell?, U_u25]
  have u1 : u25.cell? ⟨u20.heap.size, 1, none⟩ = some (.string ⟨#[]⟩) := by simp [World.cell?, U_u25]
  have u2 : u25.cell? ⟨u20.heap.size, 2, none⟩ = some (.int .i64 0) := by simp [World.cell?, U_u25]
  have u3 : u25.cell? ⟨u20.heap.size, 3, none⟩ = some (.slice none 0 0) := by simp [World.cell?, U_u25]
  go_wp2_with fail
  refine (HSA.out a1 a7 c1 c7 u25 SA_u25 SE_u25).mono ?_
  rintro e u26 ⟨rfl, hbu26⟩
  have R_u26 := (hbu26.block _ lR_u25).trans R_u25
  have lR_u26 := (Array.getElem?_eq_some_iff.1 R_u26).1
  have M_u26 := (hbu26.block _ lM_u25).trans M_u25
  have lM_u26 := (Array.getElem?_eq_some_iff.1 M_u26).1
  have U_u26 := (hbu26.block _ lU_u25).trans U_u25
  have lU_u26 := (Array.getElem?_eq_some_iff.1 U_u26).1
  have SS_u26 := SS_u25.below hbu26
  have SA_u26 := SA_u25.below hbu26
  have SE_u26 := SE_u25.below hbu26
  have B_u26 := B_u25.trans (hbu26.mono B_u25.size)
  clear R_u25 lR_u25 M_u25 lM_u25 U_u25 lU_u25 SS_u25 SA_u25 SE_u25 B_u25 hbu26 m0 m1 m2 m3 u0 u1 u2 u3
  go_wp2_with fail
  refine bodyPost_ret (v := .bool true) (by simp [results, Tryz.results3, go_sem]) rfl ⟨rfl, B_u26⟩
theorem engineTwice_walk (a : Option Addr) (c : Nat) (s : List Ent) (now : Int) (key value : ByteArray) (w : World) (he : Env w) (hs : SpaceAt w a s) (hn : s.length ≤ 281474976710656) (hkz : key.size ≤ maxLen) (hvz : value.size ≤ maxLen) :
    Calls Tryz.prog 3 #[.slice a s.length c, .int .i64 now, .string key, .string value] w fun e w' => e = .returned (.bool true) ∧ Below w.heap.size w w' := by
  by_cases hc : chkSp s = 0
  · by_cases ht : timeT now = true
    · by_cases h0 : wordsE [setW, key, value] = 0
      · by_cases hp : putE s now key ⟨1, value, [], [], []⟩ 0 = 0
        · exact twice_good a c s now key value w he hs hc ht h0 hp
        · have hk : chkKey s now key = 0 := chkKey_of (spRight hc) ht (words_size h0 (by simp)).2
          have hv : value.size ≤ 60 := (wordsE_ok h0).2.2 value (by simp)
          have h2 := put_two (putErr_none hk (chk_rightI (text_chk hv)) (til_never now)) hp
          refine twice_refused a c s now key value 2 2 0 w he hs rfl rfl (fun g W hW hs hg => ?_)
          refine (do_set a c s now g 0 3 key value W (he.below hW) hs hc ht (words3 hg) (by omega) h0).mono ?_
          intro e w' h
          rw [h2] at h
          obtain ⟨⟨a', c', rfl, hsp⟩, hb⟩ := h.bad (by decide)
          exact ⟨⟨a', _, c', rfl⟩, hb⟩
      · refine twice_refused a c s now key value 2 (wordsE [setW, key, value]) 0 w he hs rfl rfl (fun g W hW hs hg => ?_)
        refine (do_refused_nil a c s now (some ⟨g, 0, none⟩) 3 [setW, key, value] W (wordsE [setW, key, value]) h0 hs hc ht (fun W2 hW2 => (find_bad (some ⟨g, 0, none⟩) 3 [setW, key, value] W2 (.inr ⟨g, 0, rfl, cells_more (words3 hg) hW2⟩) (small3 (Nat.le_trans (show (3 : Nat) ≤ 60 by omega) (by unfold maxLen; omega)) hkz hvz) h0).mono fun e w' h => ⟨⟨_, _, _, h.1⟩, h.2⟩)).mono ?_
        rintro e w' ⟨⟨a', c', rfl, hsp⟩, hb⟩
        exact ⟨⟨a', _, c', rfl⟩, hb⟩
    · refine twice_error a c s now key value 0 0 3 w he hs (by decide) (fun g W hW hs hg => ?_)
      refine (do_badtime a c s now (some ⟨g, 0, none⟩) 3 [setW, key, value] W hs hn hc (by simpa using ht)).mono ?_
      rintro e w' ⟨rfl, hb⟩
      exact ⟨⟨none, 0, 0, rfl⟩, hb⟩
  · refine twice_error a c s now key value 0 0 (chkSp s) w he hs hc (fun g W hW hs hg => ?_)
    refine (do_badspace a c s now (some ⟨g, 0, none⟩) 3 [setW, key, value] W hs hn hc).mono ?_
    rintro e w' ⟨rfl, hb⟩
    exact ⟨⟨none, 0, 0, rfl⟩, hb⟩
end Go.Proofs.YtmaancidkpfopaaGreatDoor
