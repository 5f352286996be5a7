/- Part 13 of what the proof leans on: EDed10, NumP, EDo5, EKno, YSome, ISame2, YItm, YSame, ESam, IOpen, YOpen. -/
import Derived.Test.YtmaancidkpfopaaGreatDoorPart4
import Derived.Test.YtmaancidkpfopaaGreatDoorPart6
import Derived.Test.YtmaancidkpfopaaGreatDoorPart9
import Derived.Test.YtmaancidkpfopaaGreatDoorPart10
import Derived.Test.YtmaancidkpfopaaGreatDoorPart12
import Derived.Handy
import Derived.Test.YtmaancidkpfopaaGreatDoorPart7
import Derived.Lib.ItoaMem
import Derived.Lib.AtoiAllCases
import Derived.Test.YtmaancidkpfopaaGreatDoorPart11
import Derived.Test.YtmaancidkpfopaaGreatDoorPart8
import Derived.Test.YtmaancidkpfopaaGreatDoorPart2
import Derived.Test.YtmaancidkpfopaaGreatDoorPart5
import Derived.Test.YtmaancidkpfopaaGreatDoorPart3
import Derived.BigQuiet
import Derived.Deep.RegionHeld3
import Derived.Test.YtmaancidkpfopaaGreatDoorPart1
import Derived.Test.YtmaancidkpfopaaGreatDoorProg
import Derived.Test.YtmaancidkpfopaaGreatDoorRows
import Derived.ProofKit
import Derived.OpenShut
import Derived.Deep.Slices
import Derived.SizedLaws
/- WALK: what incrby asks. -/
namespace Go.Proofs.YtmaancidkpfopaaGreatDoor
open Go.RowKit

set_option maxRecDepth 100000 in
set_option maxHeartbeats 16000000 in
theorem incrAsk_any (v : Value) (x : Itm) (y : ByteArray) (g0 o0 n cl : Nat) (k m E : Int) (t : ByteArray) (w : World) (h : ItemIs w v x) (hy : w.cell? ⟨g0, o0, none⟩ = some (.string y)) (hys : y.size ≤ 281474976710656) (he : Env w) (hn1 : -9223372036854775808 ≤ (pInt y.data.toList).getD 0) (hn2 : (pInt y.data.toList).getD 0 ≤ 9223372036854775807)
    (hv : addV x ((pInt y.data.toList).getD 0) = .tuple #[.agg #[.int .i64 k, .string t, .slice none 0 0, .slice none 0 0, .slice none 0 0], .int .i64 m, .int .i64 E]) :
    Calls Tryz.prog 81 #[v, .slice (some ⟨g0, o0, none⟩) (n + 1) cl] w fun e w' => e = .returned (.tuple #[.agg #[.int .i64 k, .string t, .slice none 0 0, .slice none 0 0, .slice none 0 0], .agg #[.int .i64 3, .string ⟨#[]⟩, .int .i64 m, .slice none 0 0], .int .i64 E]) ∧ Below w.heap.size w w' := by
  have HNU := hide (fun W (hW : Below w.heap.size w W) => number_any y W hys (he.below hW))
  have HAD := hide (fun W (hW : Below w.heap.size w W) => add_any v x _ W (h.below hW) (he.below hW) hn1 hn2)
  rw [hv] at HAD
  have HW := hide withNumber_any
  obtain ⟨a1, c1, a2, c2, a3, c3, rfl⟩ := shapeE h
  have hlt := World.block_lt_of_cell? _ _ hy
  have hgl : g0 < w.heap.size := hlt
  have HGL := hide hgl
  have hpos : (0 : Int) < ((n : Nat) : Int) + 1 := by omega
  obtain ⟨V1, hV1, AV1, B1⟩ : ∃ V', w.alloc (.cells #[.int .i64 x.k, .string x.t, .slice a1 x.l.length c1, .slice a2 x.p.length c2, .slice a3 x.s.length c3] 40) = V' ∧ Below w.heap.size w V' ∧ V'.heap[w.heap.size]? = some (.cells #[.int .i64 x.k, .string x.t, .slice a1 x.l.length c1, .slice a2 x.p.length c2, .slice a3 x.s.length c3] 40) := ⟨_, rfl, (Below.refl _ w).alloc (Nat.le_refl _) _, by show (w.heap.push _)[w.heap.size]? = _; simp⟩
  obtain ⟨V2, hV2, AV2, B2⟩ : ∃ V', V1.alloc (.cells #[.int .i64 0, .string ⟨#[]⟩, .slice none 0 0, .slice none 0 0, .slice none 0 0] 40) = V' ∧ Below V1.heap.size V1 V' ∧ V'.heap[V1.heap.size]? = some (.cells #[.int .i64 0, .string ⟨#[]⟩, .slice none 0 0, .slice none 0 0, .slice none 0 0] 40) := ⟨_, rfl, (Below.refl _ V1).alloc (Nat.le_refl _) _, by show (V1.heap.push _)[V1.heap.size]? = _; simp⟩
  obtain ⟨V3, hV3, AV3, B3⟩ : ∃ V', V2.alloc (.cells #[.int .i64 0, .string ⟨#[]⟩, .int .i64 0, .slice none 0 0] 27) = V' ∧ Below V2.heap.size V2 V' ∧ V'.heap[V2.heap.size]? = some (.cells #[.int .i64 0, .string ⟨#[]⟩, .int .i64 0, .slice none 0 0] 27) := ⟨_, rfl, (Below.refl _ V2).alloc (Nat.le_refl _) _, by show (V2.heap.push _)[V2.heap.size]? = _; simp⟩
  have h1 : w.heap.size < V1.heap.size := (Array.getElem?_eq_some_iff.1 B1).1
  have h2 : V1.heap.size < V2.heap.size := (Array.getElem?_eq_some_iff.1 B2).1
  have h3 : V2.heap.size < V3.heap.size := (Array.getElem?_eq_some_iff.1 B3).1
  have HLT : Hid (w.heap.size < V1.heap.size ∧ V1.heap.size < V2.heap.size ∧ V2.heap.size < V3.drew.heap.size) := ⟨h1, h2, h3⟩
  have HB : Hid (Below w.heap.size w V3.drew) := (AV1.trans ((AV2.trans (AV3.mono AV2.size)).mono AV1.size)).drew
  have H3 : Hid (V3.drew.heap[V2.heap.size]? = some (.cells #[.int .i64 0, .string ⟨#[]⟩, .int .i64 0, .slice none 0 0] 27 (0, 0))) := B3
  have H2 : Hid (V3.drew.heap[V1.heap.size]? = some (.cells #[.int .i64 0, .string ⟨#[]⟩, .slice none 0 0, .slice none 0 0, .slice none 0 0] 40 (0, 0))) := (AV3.block _ h2).trans B2
  have H1 : Hid (V3.drew.heap[w.heap.size]? = some (.cells #[.int .i64 x.k, .string x.t, .slice a1 x.l.length c1, .slice a2 x.p.length c2, .slice a3 x.s.length c3] 40 (0, 0))) := (AV3.block _ (Nat.lt_trans h1 h2)).trans ((AV2.block _ h1).trans B1)
  have hyD := (HB.out.cell hlt).trans hy
  clear B1 B2 B3 AV1 AV2 AV3 h hy h1 h2 h3 hlt hv he hgl hys
  generalize (pInt y.data.toList).getD 0 = N at *
  generalize x.k = k0 at *
  generalize x.t = t0 at *
  generalize x.l.length = l1 at *
  generalize x.p.length = l2 at *
  generalize x.s.length = l3 at *
  have hS : (fun w' : World => w'.cell? ⟨g0, o0, none⟩ = some (.string y) ∧ w'.cell? ⟨w.heap.size, 0, none⟩ = some (.int .i64 k0) ∧ w'.cell? ⟨w.heap.size, 1, none⟩ = some (.string t0) ∧ w'.cell? ⟨w.heap.size, 2, none⟩ = some (.slice a1 l1 c1) ∧ w'.cell? ⟨w.heap.size, 3, none⟩ = some (.slice a2 l2 c2) ∧ w'.cell? ⟨w.heap.size, 4, none⟩ = some (.slice a3 l3 c3)) V3.drew := by
    have q := H1.out
    exact ⟨hyD, by simp only [World.cell?, q]; rfl, by simp only [World.cell?, q]; rfl, by simp only [World.cell?, q]; rfl, by simp only [World.cell?, q]; rfl, by simp only [World.cell?, q]; rfl⟩
  have HS := hide hS
  have HXX : Hid (∀ W, Kept (fun k => V1.heap.size ≤ k) V3.drew W → (fun w' : World => w'.cell? ⟨g0, o0, none⟩ = some (.string y) ∧ w'.cell? ⟨w.heap.size, 0, none⟩ = some (.int .i64 k0) ∧ w'.cell? ⟨w.heap.size, 1, none⟩ = some (.string t0) ∧ w'.cell? ⟨w.heap.size, 2, none⟩ = some (.slice a1 l1 c1) ∧ w'.cell? ⟨w.heap.size, 3, none⟩ = some (.slice a2 l2 c2) ∧ w'.cell? ⟨w.heap.size, 4, none⟩ = some (.slice a3 l3 c3)) W) := fun W hW => by
    have z1 : w.heap.size < V3.drew.heap.size := Nat.lt_trans HLT.out.1 (Nat.lt_trans HLT.out.2.1 HLT.out.2.2)
    have z2 : ¬ V1.heap.size ≤ w.heap.size := by have := HLT.out; omega
    have z3 : ¬ V1.heap.size ≤ g0 := by have := HLT.out; have := HGL.out; omega
    exact ⟨(hW.cell (p := ⟨g0, o0, none⟩) (Nat.lt_trans HGL.out z1) z3).trans hS.1, (hW.cell (p := ⟨w.heap.size, 0, none⟩) z1 z2).trans hS.2.1, (hW.cell (p := ⟨w.heap.size, 1, none⟩) z1 z2).trans hS.2.2.1, (hW.cell (p := ⟨w.heap.size, 2, none⟩) z1 z2).trans hS.2.2.2.1, (hW.cell (p := ⟨w.heap.size, 3, none⟩) z1 z2).trans hS.2.2.2.2.1, (hW.cell (p := ⟨w.heap.size, 4, none⟩) z1 z2).trans hS.2.2.2.2.2⟩
  clear hS hyD
  go_enter Tryz.func81, Tryz.ntmps81
  go_wp2_with fail
  clear hV1 hV2 hV3
  refine wp_region_held_drew (S := (fun w' : World => w'.cell? ⟨g0, o0, none⟩ = some (.string y) ∧ w'.cell? ⟨w.heap.size, 0, none⟩ = some (.int .i64 k0) ∧ w'.cell? ⟨w.heap.size, 1, none⟩ = some (.string t0) ∧ w'.cell? ⟨w.heap.size, 2, none⟩ = some (.slice a1 l1 c1) ∧ w'.cell? ⟨w.heap.size, 3, none⟩ = some (.slice a2 l2 c2) ∧ w'.cell? ⟨w.heap.size, 4, none⟩ = some (.slice a3 l3 c3))) (by kernel_rfl) HS.out (fun hHeld => ?_)
  generalize V3.drew = W0 at *
  refine wpAnyH_take (i := 0) (v := .agg #[.int .i64 k0, .string t0, .slice a1 l1 c1, .slice a2 l2 c2, .slice a3 l3 c3]) rfl (by kernel_rfl) (by kernel_rfl) (by kernel_rfl) (fun _ _ _ h => h) (Or.inl ⟨by kernel_rfl, by intro w hSw; (try dsimp only at hSw); go_simp⟩) hHeld ?_
  refine wpAnyH_take (i := 1) (v := .slice (some ⟨g0, o0, none⟩) (n + 1) cl) rfl (by kernel_rfl) (by kernel_rfl) (by kernel_rfl) (fun _ _ _ h => h) (Or.inl ⟨by kernel_rfl, by intro w hSw; (try dsimp only at hSw); go_simp⟩) hHeld ?_
  refine wpAnyH_take (i := 2) (v := .pointer (some ⟨g0, o0, none⟩)) rfl (by kernel_rfl) (by kernel_rfl) (by kernel_rfl) (fun _ _ _ h => h) (Or.inl ⟨by kernel_rfl, by intro w hSw; (try dsimp only at hSw); go_simp⟩) hHeld ?_
  refine wpAnyH_take (i := 3) (v := .string y) rfl (by kernel_rfl) (by kernel_rfl) (by kernel_rfl) (fun _ _ _ h => h) (Or.inl ⟨by kernel_rfl, by intro w hSw; (try dsimp only at hSw); go_simp⟩) hHeld ?_
  refine wpAnyH_ready (rs := [4]) (by kernel_rfl) (by simp) ?_
  refine AllReadyH.cons rfl (fun K hK => ?_) (AllReadyH.nil)
  · go_simp
    refine (HNU.out _ HB.out).mono ?_
    rintro e w1 ⟨rfl, hb1⟩
    have HW1 := hide hb1
    have hkw1 := Kept.of_below hb1 (fun k => V1.heap.size ≤ k)
    refine hK.out _ _ (HXX.out w1 hkw1) (fun hHeld => ?_)
    clear hK K
    clear hb1 hkw1
    refine wpAnyH_ready (rs := [5]) (by kernel_rfl) (by simp) ?_
    refine AllReadyH.cons rfl (fun K hK => ?_) (AllReadyH.nil)
    · go_simp
      refine (HAD.out _ (HB.out.trans (HW1.out.mono HB.out.size))).mono ?_
      rintro e w2 ⟨rfl, hb2⟩
      have HW2 := hide (HW1.out.trans (hb2.mono HW1.out.size))
      have hkw2 := Kept.of_below HW2.out (fun k => V1.heap.size ≤ k)
      refine hK.out _ _ (HXX.out w2 hkw2) (fun hHeld => ?_)
      clear hK K
      clear hb2 hkw2
      refine wpAnyH_take (i := 6) (v := .agg #[.int .i64 k, .string t, .slice none 0 0, .slice none 0 0, .slice none 0 0]) rfl (by kernel_rfl) (by kernel_rfl) (by kernel_rfl) (fun _ _ _ h => h) (Or.inl ⟨by kernel_rfl, by intro w hSw; (try dsimp only at hSw); go_simp⟩) hHeld ?_
      refine wpAnyH_take (i := 7) (v := .int .i64 m) rfl (by kernel_rfl) (by kernel_rfl) (by kernel_rfl) (fun _ _ _ h => h) (Or.inl ⟨by kernel_rfl, by intro w hSw; (try dsimp only at hSw); go_simp⟩) hHeld ?_
      refine wpAnyH_take (i := 8) (v := .int .i64 E) rfl (by kernel_rfl) (by kernel_rfl) (by kernel_rfl) (fun _ _ _ h => h) (Or.inl ⟨by kernel_rfl, by intro w hSw; (try dsimp only at hSw); go_simp⟩) hHeld ?_
      refine wpAnyH_ready (rs := [9]) (by kernel_rfl) (by simp) ?_
      refine AllReadyH.cons rfl (fun K hK => ?_) (AllReadyH.nil)
      · go_simp
        refine (HW.out _ _ _ _ _ _ _ _ _ _ _ _ _ _).mono ?_
        rintro e w3 ⟨rfl, hb3⟩
        have HW3 := hide (HW2.out.trans (hb3.mono HW2.out.size))
        have hkw3 := Kept.of_below HW3.out (fun k => V1.heap.size ≤ k)
        refine hK.out _ _ (HXX.out w3 hkw3) (fun hHeld => ?_)
        clear hK K
        clear hb3 hkw3
        have hz := HLT.out
        have r2 := (HW3.out.block _ (by omega)).trans H2.out
        have r3 := (HW3.out.block _ (by omega)).trans H3.out
        have HR3 := hide r3
        have HBB : Hid (Below w.heap.size w w3) := HB.out.trans (HW3.out.mono HB.out.size)
        have HP := hide (put5Q r2 (.int .i64 k) (.string t) (.slice none 0 0) (.slice none 0 0) (.slice none 0 0))
        clear hz r3
        refine wpAnyH_take (i := 10) (v := .agg #[.int .i64 k, .string t, .slice none 0 0, .slice none 0 0, .slice none 0 0]) rfl (by kernel_rfl) (by kernel_rfl) (by kernel_rfl) (fun _ _ _ h => h) (Or.inl ⟨by kernel_rfl, by intro w hSw; (try dsimp only at hSw); go_simp⟩) hHeld ?_
        refine wpAnyH_take (i := 11) (v := .agg #[.int .i64 3, .string ⟨#[]⟩, .int .i64 m, .slice none 0 0]) rfl (by kernel_rfl) (by kernel_rfl) (by kernel_rfl) (fun _ _ _ h => h) (Or.inl ⟨by kernel_rfl, by intro w hSw; (try dsimp only at hSw); go_simp⟩) hHeld ?_
        refine wpAnyH_take (i := 12) (v := .int .i64 E) rfl (by kernel_rfl) (by kernel_rfl) (by kernel_rfl) (fun _ _ _ h => h) (Or.inl ⟨by kernel_rfl, by intro w hSw; (try dsimp only at hSw); go_simp⟩) hHeld ?_
        have m0 : w3.cell? ⟨V1.heap.size, 0, none⟩ = some (.int .i64 0) := by simp [World.cell?, r2]
        have n0 : w3.frozen? ⟨V1.heap.size, 0, none⟩ = false := by simp [World.frozen?, r2]
        have m1 : w3.cell? ⟨V1.heap.size, 1, none⟩ = some (.string ⟨#[]⟩) := by simp [World.cell?, r2]
        have n1 : w3.frozen? ⟨V1.heap.size, 1, none⟩ = false := by simp [World.frozen?, r2]
        have m2 : w3.cell? ⟨V1.heap.size, 2, none⟩ = some (.slice none 0 0) := by simp [World.cell?, r2]
        have n2 : w3.frozen? ⟨V1.heap.size, 2, none⟩ = false := by simp [World.frozen?, r2]
        have m3 : w3.cell? ⟨V1.heap.size, 3, none⟩ = some (.slice none 0 0) := by simp [World.cell?, r2]
        have n3 : w3.frozen? ⟨V1.heap.size, 3, none⟩ = false := by simp [World.frozen?, r2]
        have m4 : w3.cell? ⟨V1.heap.size, 4, none⟩ = some (.slice none 0 0) := by simp [World.cell?, r2]
        have n4 : w3.frozen? ⟨V1.heap.size, 4, none⟩ = false := by simp [World.frozen?, r2]
        clear r2
        refine wpAnyH_ready (rs := [13]) (by kernel_rfl) (by simp) ?_
        refine AllReadyH.cons rfl (fun K hK => ?_) (AllReadyH.nil)
        · go_simp
          obtain ⟨hH, hKp⟩ := HP.out
          generalize (((((w3.setCell ⟨V1.heap.size, 0, none⟩ (.int .i64 k)).setCell ⟨V1.heap.size, 1, none⟩ (.string t)).setCell ⟨V1.heap.size, 2, none⟩ (.slice none 0 0)).setCell ⟨V1.heap.size, 3, none⟩ (.slice none 0 0)).setCell ⟨V1.heap.size, 4, none⟩ (.slice none 0 0)) = WA at *
          have hz := HLT.out
          have r3 := (hKp.block _ (Array.getElem?_eq_some_iff.1 HR3.out).1 (by simp only [one]; omega)).trans HR3.out
          have HB5 : Hid (Below w.heap.size w WA) := HBB.out.trans (hKp.below (B := w.heap.size) (by have := HBB.out.size; omega) (fun k hk => by simp only [one] at hk; omega))
          have HA5 := hide hH
          have hkWA : Kept (fun k => V1.heap.size ≤ k) W0 WA := (Kept.of_below HW3.out _).trans (hKp.mono (fun k _ hk => by simp only [one] at hk; omega))
          have HKA := hide hkWA
          refine hK.out _ _ (HXX.out WA hkWA) (fun hHeld => ?_)
          clear hK K
          clear m0 m1 m2 m3 m4 n0 n1 n2 n3 n4 hH hKp hkWA hz
          have HQ := hide (put4R r3 (.int .i64 3) (.string ⟨#[]⟩) (.int .i64 m) (.slice none 0 0))
          have m0 : WA.cell? ⟨V2.heap.size, 0, none⟩ = some (.int .i64 0) := by simp [World.cell?, r3]
          have n0 : WA.frozen? ⟨V2.heap.size, 0, none⟩ = false := by simp [World.frozen?, r3]
          have m1 : WA.cell? ⟨V2.heap.size, 1, none⟩ = some (.string ⟨#[]⟩) := by simp [World.cell?, r3]
          have n1 : WA.frozen? ⟨V2.heap.size, 1, none⟩ = false := by simp [World.frozen?, r3]
          have m2 : WA.cell? ⟨V2.heap.size, 2, none⟩ = some (.int .i64 0) := by simp [World.cell?, r3]
          have n2 : WA.frozen? ⟨V2.heap.size, 2, none⟩ = false := by simp [World.frozen?, r3]
          have m3 : WA.cell? ⟨V2.heap.size, 3, none⟩ = some (.slice none 0 0) := by simp [World.cell?, r3]
          have n3 : WA.frozen? ⟨V2.heap.size, 3, none⟩ = false := by simp [World.frozen?, r3]
          clear r3
          refine wpAnyH_ready (rs := [14]) (by kernel_rfl) (by simp) ?_
          refine AllReadyH.cons rfl (fun K hK => ?_) (AllReadyH.nil)
          · go_simp
            obtain ⟨hH, hKp⟩ := HQ.out
            generalize ((((WA.setCell ⟨V2.heap.size, 0, none⟩ (.int .i64 3)).setCell ⟨V2.heap.size, 1, none⟩ (.string ⟨#[]⟩)).setCell ⟨V2.heap.size, 2, none⟩ (.int .i64 m)).setCell ⟨V2.heap.size, 3, none⟩ (.slice none 0 0)) = WB at *
            have hz := HLT.out
            have r2 := (hKp.block _ (Array.getElem?_eq_some_iff.1 HA5.out).1 (by simp only [one]; omega)).trans HA5.out
            have HB6 : Hid (Below w.heap.size w WB) := HB5.out.trans (hKp.below (B := w.heap.size) (by have := HB5.out.size; omega) (fun k hk => by simp only [one] at hk; omega))
            have hkWB : Kept (fun k => V1.heap.size ≤ k) W0 WB := HKA.out.trans (hKp.mono (fun k _ hk => by simp only [one] at hk; omega))
            refine hK.out _ _ (HXX.out WB hkWB) (fun hHeld => ?_)
            clear hK K
            clear m0 m1 m2 m3 n0 n1 n2 n3 hz
            have HH := hide hH
            have H22 := hide r2
            clear hH r2 hKp hkWB
            refine wpAnyH_take (i := 15) (v := .int .i64 E) rfl (by kernel_rfl) (by kernel_rfl) (by kernel_rfl) (fun _ _ _ h => h) (Or.inl ⟨by kernel_rfl, by intro w hSw; (try dsimp only at hSw); go_simp⟩) hHeld ?_
            refine wpAnyH_done (by kernel_rfl) ?_ _
            go_wp2_with fail
            have hH := HH.out
            have r2 := H22.out
            refine bodyPost_ret (v := .tuple #[.agg #[.int .i64 k, .string t, .slice none 0 0, .slice none 0 0, .slice none 0 0], .agg #[.int .i64 3, .string ⟨#[]⟩, .int .i64 m, .slice none 0 0], .int .i64 E]) (by simp [results, Tryz.results81, go_sem, World.cell?, hH, r2]) rfl ⟨rfl, HB6.out⟩
end Go.Proofs.YtmaancidkpfopaaGreatDoor

/- PLAIN facts: numbers there and back. -/
namespace Go.Proofs.YtmaancidkpfopaaGreatDoor
open Go.RowKit

theorem digit_val (d : Nat) (h : d < 10) : (UInt8.ofNat (48 + d)).toNat = 48 + d := by simp; omega
theorem decDigits_len : ∀ (k u : Nat), u < 10 ^ (k + 1) → (Lib.decDigits u).length ≤ k + 1
  | 0, u, h => by rw [Lib.decDigits, dif_pos (by simpa using h)]; simp
  | k + 1, u, h => by
    rw [Lib.decDigits]
    split
    · simp
    · have := decDigits_len k (u / 10) (by rw [Nat.div_lt_iff_lt_mul (by omega)]; rw [Nat.pow_succ] at h; exact h)
      simp
      omega
theorem decDigits_mem (u : Nat) : ∀ c ∈ Lib.decDigits u, 48 ≤ c.toNat ∧ c.toNat ≤ 57 := by
  induction u using Nat.strongRecOn with
  | ind u ih =>
    intro c hc
    rw [Lib.decDigits] at hc
    split at hc
    · rename_i h
      simp at hc
      subst hc
      simp
      omega
    · rename_i h
      simp at hc
      rcases hc with hc | hc
      · exact ih (u / 10) (by omega) c hc
      · subst hc
        have : u % 10 < 10 := Nat.mod_lt _ (by omega)
        simp
        omega
theorem parse_append : ∀ (l m : List UInt8) (acc v : Nat), Lib.parseUint10 acc l = .ok v → Lib.parseUint10 acc (l ++ m) = Lib.parseUint10 v m
  | [], m, acc, v, h => by simp [Lib.parseUint10] at h; subst h; rfl
  | c :: l, m, acc, v, h => by
    rw [List.cons_append, Lib.parseUint10]
    rw [Lib.parseUint10] at h
    split at h
    · rename_i h1
      rw [if_pos h1]
      split at h
      · simp at h
      · rename_i h2
        rw [if_neg h2]
        split at h
        · simp at h
        · rename_i h3
          rw [if_neg h3]
          exact parse_append l m _ v h
    · simp at h
theorem parse_dec (u : Nat) (h : u ≤ 999999999) : Lib.parseUint10 0 (Lib.decDigits u) = .ok u := by
  induction u using Nat.strongRecOn with
  | ind u ih =>
    rw [Lib.decDigits]
    split
    · rename_i h1
      have hd := digit_val u h1
      simp only [Lib.parseUint10, hd]
      rw [if_pos (by omega), if_neg (by omega), if_neg (by omega)]
      congr 1
      omega
    · rename_i h1
      have hm : u % 10 < 10 := Nat.mod_lt _ (by omega)
      have hd := digit_val (u % 10) hm
      rw [parse_append _ _ 0 (u / 10) (ih (u / 10) (by omega) (by omega))]
      simp only [Lib.parseUint10, hd]
      rw [if_pos (by omega), if_neg (by omega), if_neg (by omega)]
      congr 1
      omega
theorem decDigits_ne (u : Nat) : Lib.decDigits u ≠ [] := by
  rw [Lib.decDigits]
  split <;> simp
theorem atoi_itoa (n : Int) (h0 : -999999999 ≤ n) (h1 : n ≤ 999999999) : Lib.atoiAll (Lib.itoa n) = .ok n := by
  unfold Lib.itoa
  split
  · rename_i hn
    have hp : Lib.parseMag (Lib.decDigits n.natAbs) = .ok n.natAbs := by
      rw [Lib.parseMag, if_neg (decDigits_ne _)]
      exact parse_dec _ (by omega)
    simp only [Lib.atoiAll]
    simp [hp]
    rw [if_neg (by omega)]
    congr 1
    omega
  · rename_i hn
    have hp : Lib.parseMag (Lib.decDigits n.toNat) = .ok n.toNat := by
      rw [Lib.parseMag, if_neg (decDigits_ne _)]
      exact parse_dec _ (by omega)
    cases hd : Lib.decDigits n.toNat with
    | nil => exact absurd hd (decDigits_ne _)
    | cons c r =>
      have hc := decDigits_mem n.toNat c (by rw [hd]; simp)
      rw [hd] at hp
      simp only [Lib.atoiAll]
      rw [if_neg (by omega), hp]
      simp only
      rw [if_neg (by omega), if_neg (by omega), if_neg (by omega)]
      congr 1
      omega
theorem itoa_no13 (n : Int) : ∀ c ∈ Lib.itoa n, c ≠ 13 := by
  intro c hc he
  subst he
  unfold Lib.itoa at hc
  split at hc
  · simp at hc
    have := decDigits_mem _ _ hc
    simp at this
  · have := decDigits_mem _ _ hc
    simp at this
theorem pInt_itoa (n : Int) (h0 : -999999999 ≤ n) (h1 : n ≤ 999999999) : pInt (Lib.itoa n) = some n := by
  rw [pInt, atoi_itoa n h0 h1]
  simp [h0, h1]
theorem pInt_inv {x : List UInt8} {v : Int} (h : pInt x = some v) : Lib.itoa v = x ∧ -999999999 ≤ v ∧ v ≤ 999999999 := by
  unfold pInt at h
  split at h
  · split at h
    · rename_i hh
      simp at h
      subst h
      exact hh
    · simp at h
  · simp at h
theorem itoa_len (n : Int) (h0 : -999999999 ≤ n) (h1 : n ≤ 999999999) : (Lib.itoa n).length ≤ 20 := by
  unfold Lib.itoa
  split
  · have := decDigits_len 8 n.natAbs (by omega)
    simp
    omega
  · have := decDigits_len 8 n.toNat (by omega)
    omega
end Go.Proofs.YtmaancidkpfopaaGreatDoor

/- What incrby answers. -/
namespace Go.Proofs.YtmaancidkpfopaaGreatDoor
open Go.RowKit

def addI (x : Itm) (n : Int) : Itm := if addE x n = 0 then ⟨1, ⟨(Lib.itoa ((tellsI x).getD 0 + n)).toArray⟩, [], [], []⟩ else Itm.none
def addM (x : Itm) (n : Int) : Int := if addE x n = 0 then (tellsI x).getD 0 + n else 0
theorem addV_form (x : Itm) (n : Int) : addV x n = .tuple #[.agg #[.int .i64 (addI x n).k, .string (addI x n).t, .slice none 0 0, .slice none 0 0, .slice none 0 0], .int .i64 (addM x n), .int .i64 (addE x n)] := by
  unfold addV addI addM
  by_cases h : addE x n = 0
  · rw [if_pos h, if_pos h, if_pos h, h]; rfl
  · rw [if_neg h, if_neg h, if_neg h]; rfl
theorem mayN_bounds {n : Int} (h : mayN n = true) : -999999999 ≤ n ∧ n ≤ 999999999 := by
  unfold mayN at h
  simp at h
  omega
theorem addE_sum {x : Itm} {n : Int} (h : addE x n = 0) : -999999999 ≤ (tellsI x).getD 0 + n ∧ (tellsI x).getD 0 + n ≤ 999999999 := by
  unfold addE at h
  split at h
  · rename_i h1; exact absurd h h1
  · split at h
    · cases h
    · rename_i v hv
      rw [hv]
      split at h
      · rename_i h2; exact mayN_bounds h2.2
      · cases h
theorem addI_is (x : Itm) (n : Int) (W : World) : ItemIs W (.agg #[.int .i64 (addI x n).k, .string (addI x n).t, .slice none 0 0, .slice none 0 0, .slice none 0 0]) (addI x n) := by
  unfold addI
  by_cases h : addE x n = 0
  · rw [if_pos h]
    obtain ⟨h1, h2⟩ := addE_sum h
    have h3 := itoa_len _ h1 h2
    exact textItE _ (by show (Lib.itoa ((tellsI x).getD 0 + n)).toArray.size ≤ maxLen; rw [List.size_toArray]; exact Nat.le_trans h3 (by unfold maxLen; omega)) W
  · rw [if_neg h]
    exact ⟨⟨none, 0, none, 0, none, 0, rfl, .inl rfl, .inl rfl, .inl rfl⟩, (show (0 : Nat) ≤ maxLen by simp), (fun _ h => by cases h), (fun _ h => by cases h), (fun _ h => by cases h), (show (0 : Nat) ≤ _ by omega), (show (0 : Nat) ≤ _ by omega), (show (0 : Nat) ≤ _ by omega)⟩
theorem num_bounds (y : ByteArray) : -999999999 ≤ (pInt y.data.toList).getD 0 ∧ (pInt y.data.toList).getD 0 ≤ 999999999 := by
  cases h : pInt y.data.toList with
  | none => simp
  | some v => exact ⟨(pInt_bounds h).1, (pInt_bounds h).2.1⟩
def incrW : ByteArray := ⟨#[105, 110, 99, 114, 98, 121]⟩
set_option maxRecDepth 100000 in
theorem do_incr (a : Option Addr) (c : Nat) (s : List Ent) (now : Int) (g0 o0 cl : Nat) (x key y : ByteArray) (w : World) (he : Env w) (hs : SpaceAt w a s) (hc : chkSp s = 0) (ht : timeT now = true)
    (hl : ∀ i (h : i < [x, key, y].length), w.cell? ⟨g0, o0 + i, none⟩ = some (.string [x, key, y][i])) (hcl : 3 ≤ cl) (h0 : wordsE [x, key, y] = 0) (hidx : idxC (smallT x) cmds 0 = 12) (hck : checkP cmds[12].once cmds[12].again [key, y] = 0) :
    Calls Tryz.prog 5 #[.slice a s.length c, .int .i64 now, .slice (some ⟨g0, o0, none⟩) 3 cl] w fun e w' => DoneP (putS s now key (addI (getR s now key) ((pInt y.data.toList).getD 0)) (untilR s now key)) s 3 (addM (getR s now key) ((pInt y.data.toList).getD 0)) (chgE s now key (addI (getR s now key) ((pInt y.data.toList).getD 0)) (addE (getR s now key) ((pInt y.data.toList).getD 0))) ⟨#[]⟩ w e w' :=
  do_changes a c s now g0 o0 cl x key [y] 12 (by decide) 81 3 (addM (getR s now key) ((pInt y.data.toList).getD 0)) (addE (getR s now key) ((pInt y.data.toList).getD 0)) ⟨#[]⟩ (addI (getR s now key) ((pInt y.data.toList).getD 0)) w he hs hc ht hl hcl h0 hidx hck (fun _ _ => rfl) (by kernel_rfl)
    (fun W v a2 hW hv ha => by
      obtain ⟨g, o, rfl, hla⟩ := texts_some ha
      have hb := num_bounds y
      refine (incrAsk_any v (getR s now key) y g o 0 (cl - 1 - 1) (addI (getR s now key) ((pInt y.data.toList).getD 0)).k (addM (getR s now key) ((pInt y.data.toList).getD 0)) (addE (getR s now key) ((pInt y.data.toList).getD 0)) (addI (getR s now key) ((pInt y.data.toList).getD 0)).t W hv (hla 0 (by simp)) (Nat.le_trans ((wordsE_ok h0).2.2 y (by simp)) (by omega)) (he.below hW) (by omega) (by omega) (addV_form _ _)).mono ?_
      intro e w' ⟨h1, h2⟩
      exact ⟨⟨_, h1, fun w2 _ => addI_is _ _ w2⟩, h2⟩)
end Go.Proofs.YtmaancidkpfopaaGreatDoor

/- WALK of engine.Known. -/
namespace Go.Proofs.YtmaancidkpfopaaGreatDoor
open Go.RowKit

/-- what is wrong with words as a command -/
def knownE : List ByteArray → Int
  | [] => wordsE []
  | x :: r => if wordsE (x :: r) ≠ 0 then wordsE (x :: r) else if idxC (smallT x) cmds 0 < 0 then 5 else checkP (cmds.getD (idxC (smallT x) cmds 0).toNat ⟨⟨#[]⟩, ⟨#[]⟩, ⟨#[]⟩, .one 0⟩).once (cmds.getD (idxC (smallT x) cmds 0).toNat ⟨⟨#[]⟩, ⟨#[]⟩, ⟨#[]⟩, .one 0⟩).again r
theorem idxC_lt {nm : ByteArray} : ∀ {l : List Cmd} {s : Int}, 0 ≤ s → idxC nm l s = -1 ∨ (s ≤ idxC nm l s ∧ idxC nm l s < s + l.length)
  | [], _, _ => .inl rfl
  | c :: r, s, h => by
    rw [idxC]
    by_cases hc : c.name = nm
    · rw [if_pos hc]
      exact .inr ⟨Int.le_refl _, by simp only [List.length_cons]; omega⟩
    · rw [if_neg hc]
      rcases idxC_lt (nm := nm) (l := r) (s := s + 1) (by omega) with h1 | ⟨h1, h2⟩
      · exact .inl h1
      · exact .inr ⟨by omega, by simp only [List.length_cons]; omega⟩
set_option maxRecDepth 100000 in
theorem known_func (al : Option Addr) (cl : Nat) (l : List ByteArray) (w : World) (E : Int)
    (HF : Calls Tryz.prog 12 #[.slice al l.length cl] w fun e w' => (∃ CN CO CA fu xs ys, e = .returned (.tuple #[.agg #[.string CN, .string CO, .string CA, .func fu xs ys], .int .i64 E])) ∧ Below w.heap.size w w') :
    Calls Tryz.prog 9 #[.slice al l.length cl] w fun e w' => e = .returned (.int .i64 E) ∧ Below w.heap.size w w' := by
  have HFI := hide HF
  go_enter Tryz.func9, Tryz.ntmps9
  go_wp2_with fail
  refine HFI.out.mono ?_
  rintro e w1 ⟨⟨CN, CO, CA, fu, xs, ys, rfl⟩, hb⟩
  have HB := hide hb
  clear hb
  go_wp2_with fail
  go_ret
  exact ⟨rfl, HB.out.alloc HB.out.size _⟩
set_option maxRecDepth 100000 in
theorem known_nil (al : Option Addr) (cl : Nat) (l : List ByteArray) (w : World) (E : Int)
    (HF : Calls Tryz.prog 12 #[.slice al l.length cl] w fun e w' => (∃ CN CO CA, e = .returned (.tuple #[.agg #[.string CN, .string CO, .string CA, .nilFunc], .int .i64 E])) ∧ Below w.heap.size w w') :
    Calls Tryz.prog 9 #[.slice al l.length cl] w fun e w' => e = .returned (.int .i64 E) ∧ Below w.heap.size w w' := by
  have HFI := hide HF
  go_enter Tryz.func9, Tryz.ntmps9
  go_wp2_with fail
  refine HFI.out.mono ?_
  rintro e w1 ⟨⟨CN, CO, CA, rfl⟩, hb⟩
  obtain ⟨V, hV⟩ : ∃ V, w1.alloc (.cells #[.string CN, .string CO, .string CA, .nilFunc] 48) = V := ⟨_, rfl⟩
  have X := hV ▸ allocY_new w1 (.cells #[.string CN, .string CO, .string CA, .nilFunc] 48)
  have HB : Hid (Below w.heap.size w V) := hb.trans ((hV ▸ (Below.refl _ w1).alloc (Nat.le_refl _) _ : Below w1.heap.size w1 V).mono hb.size)
  have c3 : V.cell? ⟨w1.heap.size, 3, none⟩ = some .nilFunc := by simp [World.cell?, X]
  have f3 : V.frozen? ⟨w1.heap.size, 3, none⟩ = false := by simp [World.frozen?, X]
  have HK : Hid (Kept (one w1.heap.size) V (V.setCell ⟨w1.heap.size, 3, none⟩ .nilFunc)) := (Kept.refl (one w1.heap.size) V).set1 3 _
  have HL := hide hb.size
  clear hb X
  go_wp2_with fail
  go_ret
  exact ⟨rfl, HB.out.trans (HK.out.below (B := w.heap.size) HB.out.size (fun k hk => by have := HL.out; simp only [one] at hk; omega))⟩
theorem known_any (al : Option Addr) (cl : Nat) (l : List ByteArray) (w : World) (he : Env w) (hl : TextsAt w al l) (hcl : l.length ≤ cl) (hlz : ∀ t ∈ l, t.size ≤ maxLen) :
    Calls Tryz.prog 9 #[.slice al l.length cl] w fun e w' => e = .returned (.int .i64 (knownE l)) ∧ Below w.heap.size w w' := by
  by_cases h0 : wordsE l = 0
  · cases l with
    | nil => exact absurd rfl (wordsE_ok h0).1
    | cons x r =>
      rw [knownE, if_neg (by simp [h0])]
      rcases hl with hl | ⟨g, o, rfl, hl⟩
      · cases hl
      · by_cases hi : idxC (smallT x) cmds 0 < 0
        · rw [if_pos hi]
          refine known_nil _ cl (x :: r) w 5 ((find_none g o cl x r w hl h0 ?_).mono fun e w' ⟨h1, h2⟩ => ⟨⟨_, _, _, h1⟩, h2⟩)
          rcases idxC_lt (nm := smallT x) (l := cmds) (s := 0) (by omega) with h | ⟨h, _⟩
          · exact h
          · omega
        · rw [if_neg hi]
          obtain ⟨i, hii⟩ : ∃ i : Nat, idxC (smallT x) cmds 0 = i := ⟨(idxC (smallT x) cmds 0).toNat, by omega⟩
          have hil : i < cmds.length := by
            rcases idxC_lt (nm := smallT x) (l := cmds) (s := 0) (by omega) with h | ⟨_, h⟩
            · omega
            · omega
          have hgd : cmds.getD i ⟨⟨#[]⟩, ⟨#[]⟩, ⟨#[]⟩, .one 0⟩ = cmds[i] := by simp [hil]
          rw [hii, Int.toNat_natCast, hgd]
          refine known_func _ cl (x :: r) w _ ((find_known g o cl x r i hil w he hl hcl h0 hii).mono fun e w' ⟨fv, h1, h2, h3⟩ => ?_)
          obtain ⟨fu, xs, ys, rfl⟩ := h2.func
          exact ⟨⟨_, _, _, _, _, _, h1⟩, h3⟩
  · have hk : knownE l = wordsE l := by
      cases l with
      | nil => rfl
      | cons x r => rw [knownE, if_pos h0]
    rw [hk]
    exact known_nil al cl l w _ ((find_bad al cl l w hl hlz h0).mono fun e w' ⟨h1, h2⟩ => ⟨⟨_, _, _, h1⟩, h2⟩)
end Go.Proofs.YtmaancidkpfopaaGreatDoor

/- WALKS of the law's own spaces: row, some; what they give. -/
namespace Go.Proofs.YtmaancidkpfopaaGreatDoor
open Go.RowKit

def yA : ByteArray := ⟨#[97]⟩
def yB : ByteArray := ⟨#[98]⟩
def rowY : Itm := ⟨2, ⟨#[]⟩, [⟨#[97]⟩, ⟨#[98]⟩, ⟨#[97]⟩], [], []⟩
def sp0 : List Ent := [⟨⟨#[108]⟩, rowY, 0⟩, ⟨⟨#[116]⟩, ⟨1, ⟨#[55]⟩, [], [], []⟩, 10⟩]
theorem sb_chk : chkSp sp0 = 0 := by decide +kernel
theorem sb_k9 : chkKey sp0 9 ⟨#[116]⟩ = 0 := by decide +kernel
theorem sb_k10 : chkKey sp0 10 ⟨#[116]⟩ = 0 := by decide +kernel
theorem sb_g9 : (getR sp0 9 ⟨#[116]⟩).t = ⟨#[55]⟩ := by decide +kernel
theorem sb_g10 : (getR sp0 10 ⟨#[116]⟩).isNone = true := by decide +kernel
theorem sb_p : putE sp0 5 ⟨#[107]⟩ rowY 0 = 0 := by decide +kernel
theorem sb_pl : (putS sp0 5 ⟨#[107]⟩ rowY 0).length = 3 := by decide +kernel
theorem sb_u : untilR sp0 9 ⟨#[116]⟩ = 10 := by decide +kernel
theorem sb_ue : untilE sp0 9 ⟨#[116]⟩ = 0 := by decide +kernel
theorem sb_s : chkAt sp0 10 = 0 := by decide +kernel
theorem rowY_right : rightI rowY = 0 := by decide +kernel
theorem two_le : (2 : Nat) ≤ maxLen := by unfold maxLen; omega
/-- the law's own row -/
theorem rowY_is {W : World} {g : Nat} (h : W.heap[g]? = some (.cells #[.string ⟨#[97]⟩, .string ⟨#[98]⟩, .string ⟨#[97]⟩] 9 (0, 0))) : ItemIs W (.agg #[.int .i64 2, .string ⟨#[]⟩, .slice (some ⟨g, 0, none⟩) 3 3, .slice none 0 0, .slice none 0 0]) rowY :=
  ⟨⟨some ⟨g, 0, none⟩, 3, none, 0, none, 0, rfl, .inr ⟨g, 0, rfl, fun i hi => by
      match i, hi with
      | 0, _ => simp [World.cell?, h, rowY]
      | 1, _ => simp [World.cell?, h, rowY]
      | 2, _ => simp [World.cell?, h, rowY]⟩, .inl rfl, .inl rfl⟩, (show (0 : Nat) ≤ maxLen by simp), (by
      intro t ht
      simp [rowY] at ht
      rcases ht with rfl | rfl | rfl <;> exact (show (1 : Nat) ≤ maxLen by unfold maxLen; omega)), by simp [rowY], by simp [rowY], by simp [rowY], by simp [rowY], by simp [rowY]⟩
set_option maxRecDepth 100000 in
set_option maxHeartbeats 2000000 in
theorem rowY_any (w : World) : Calls Tryz.prog 17 #[] w fun e w' => e = .returned (.agg #[.int .i64 2, .string ⟨#[]⟩, .slice (some ⟨w.heap.size + 1, 0, none⟩) 3 3, .slice none 0 0, .slice none 0 0]) ∧ w'.heap[w.heap.size + 1]? = some (.cells #[.string ⟨#[97]⟩, .string ⟨#[98]⟩, .string ⟨#[97]⟩] 9 (0, 0)) ∧ Below w.heap.size w w' := by
  go_enter Tryz.func17, Tryz.ntmps17
  go_wp2_with fail
  refine bodyPost_ret (v := .agg #[.int .i64 2, .string ⟨#[]⟩, .slice (some ⟨w.heap.size + 1, 0, none⟩) 3 3, .slice none 0 0, .slice none 0 0]) (by simp [results, Tryz.results17, go_sem]) rfl ⟨rfl, ?_, ?_⟩
  · have h1 := allocY_new (w.alloc (.cells #[.int .i64 2, .string ⟨#[]⟩, .slice (some ⟨w.heap.size + 1, 0, none⟩) 3 3, .slice none 0 0, .slice none 0 0] 40)) (.cells #[.string ⟨#[97]⟩, .string ⟨#[98]⟩, .string ⟨#[97]⟩] 9)
    rw [World.size_alloc] at h1
    exact h1
  · go_grown
set_option maxRecDepth 100000 in
set_option maxHeartbeats 2000000 in
theorem some_any (w : World) : Calls Tryz.prog 8 #[] w fun e w' => (∃ g, e = .returned (.slice (some ⟨g, 0, none⟩) 2 2) ∧ SpaceAt w' (some ⟨g, 0, none⟩) sp0) ∧ Below w.heap.size w w' := by
  have HR := hide (rowY_any w)
  go_enter Tryz.func8, Tryz.ntmps8
  go_wp2_with fail
  refine HR.out.mono ?_
  rintro e w1 ⟨rfl, hr1, hb1⟩
  have HH := hide hr1
  clear hr1 HR
  go_wp2_with fail
  have HE := allocY_new w1 (.cells #[.string ⟨#[108]⟩, .int .i64 2, .string ⟨#[]⟩, .slice (some ⟨w.heap.size + 1, 0, none⟩) 3 3, .slice none 0 0, .slice none 0 0, .int .i64 0, .string ⟨#[116]⟩, .int .i64 1, .string ⟨#[55]⟩, .slice none 0 0, .slice none 0 0, .slice none 0 0, .int .i64 10] 42)
  have HB : Below w1.heap.size w1 (w1.alloc (.cells #[.string ⟨#[108]⟩, .int .i64 2, .string ⟨#[]⟩, .slice (some ⟨w.heap.size + 1, 0, none⟩) 3 3, .slice none 0 0, .slice none 0 0, .int .i64 0, .string ⟨#[116]⟩, .int .i64 1, .string ⟨#[55]⟩, .slice none 0 0, .slice none 0 0, .slice none 0 0, .int .i64 10] 42)) := (Below.refl _ w1).alloc (Nat.le_refl _) _
  generalize w1.alloc (.cells #[.string ⟨#[108]⟩, .int .i64 2, .string ⟨#[]⟩, .slice (some ⟨w.heap.size + 1, 0, none⟩) 3 3, .slice none 0 0, .slice none 0 0, .int .i64 0, .string ⟨#[116]⟩, .int .i64 1, .string ⟨#[55]⟩, .slice none 0 0, .slice none 0 0, .slice none 0 0, .int .i64 10] 42) = W2 at *
  have HR2 := (HB.block _ (Array.getElem?_eq_some_iff.1 HH.out).1).trans HH.out
  have B2 := hb1.trans (HB.mono hb1.size)
  refine bodyPost_ret (v := .slice (some ⟨w1.heap.size, 0, none⟩) 2 2) (by simp [results, Tryz.results8, go_sem]) rfl ⟨⟨_, rfl, .inr ⟨w1.heap.size, 0, rfl, fun i hi => ?_⟩⟩, B2⟩
  match i, hi with
  | 0, _ => exact ⟨some ⟨w.heap.size + 1, 0, none⟩, 3, none, 0, none, 0, ⟨by simp [World.cell?, HE, sp0], by simp [World.cell?, HE, sp0, rowY], by simp [World.cell?, HE, sp0, rowY], by simp [World.cell?, HE, sp0, rowY], by simp [World.cell?, HE, sp0, rowY], by simp [World.cell?, HE, sp0, rowY], by simp [World.cell?, HE, sp0]⟩, rowY_is HR2⟩
  | 1, _ => exact ⟨none, 0, none, 0, none, 0, ⟨by simp [World.cell?, HE, sp0], by simp [World.cell?, HE, sp0], by simp [World.cell?, HE, sp0], by simp [World.cell?, HE, sp0], by simp [World.cell?, HE, sp0], by simp [World.cell?, HE, sp0], by simp [World.cell?, HE, sp0]⟩, ⟨⟨none, 0, none, 0, none, 0, rfl, .inl rfl, .inl rfl, .inl rfl⟩, (show (1 : Nat) ≤ maxLen by unfold maxLen; omega), by simp [sp0], by simp [sp0], by simp [sp0], by simp [sp0], by simp [sp0], by simp [sp0]⟩⟩
end Go.Proofs.YtmaancidkpfopaaGreatDoor

/- WALK of whether items are the same. -/
namespace Go.Proofs.YtmaancidkpfopaaGreatDoor
open Go.RowKit

def sameI (x y : Itm) : Bool := decide (x.k = y.k ∧ x.t = y.t ∧ x.l = y.l ∧ x.p = y.p ∧ x.s = y.s)

set_option maxRecDepth 100000 in
set_option maxHeartbeats 4000000 in
theorem sameItem_any (v u : Value) (x y : Itm) (w : World) (hx : ItemIs w v x) (hy : ItemIs w u y) :
    Calls Tryz.prog 16 #[v, u] w fun e w' => e = .returned (.bool (sameI x y)) ∧ Below w.heap.size w w' := by
  obtain ⟨⟨al1, cl1, ap1, cp1, as1, cs1, rfl, L1, P1, S1⟩, -, -, -, -, ll1, pl1, sl1⟩ := hx
  obtain ⟨⟨al2, cl2, ap2, cp2, as2, cs2, rfl, L2, P2, S2⟩, -, -, -, -, ll2, pl2, sl2⟩ := hy
  obtain ⟨k1, t1, l1, p1, s1⟩ := x
  obtain ⟨k2, t2, l2, p2, s2⟩ := y
  simp only [sameI] at *
  have HS : Hid (∀ W, Below w.heap.size w W → Calls Tryz.prog 27 #[.slice al1 l1.length cl1, .slice al2 l2.length cl2] W fun e w' => e = .returned (.bool (decide (l1 = l2))) ∧ Below W.heap.size W w') := fun W hW => sameT_any _ _ _ _ _ _ W (L1.below hW) (L2.below hW) ll2
  clear L1 L2
  replace P1 := hide P1
  replace P2 := hide P2
  replace S1 := hide S1
  replace S2 := hide S2
  by_cases hk : k1 = k2
  rotate_left
  · have hk' : (k1 == k2) = false := by rw [beq_eq_false_iff_ne]; exact hk
    rw [decide_eq_false (show ¬ (k1 = k2 ∧ t1 = t2 ∧ l1 = l2 ∧ p1 = p2 ∧ s1 = s2) from fun h => hk h.1)]
    go_enter Tryz.func16, Tryz.ntmps16
    go_wp2_with fail
    go_ret
    exact ⟨rfl, ((Below.refl _ w).alloc (Nat.le_refl _) _).alloc (by simp) _⟩
  subst hk
  by_cases ht : t1 = t2
  rotate_left
  · have ht' : (t1.toList == t2.toList) = false := by rw [beq_eq_false_iff_ne]; exact fun e => ht (bytes_inj e)
    rw [decide_eq_false (show ¬ (k1 = k1 ∧ t1 = t2 ∧ l1 = l2 ∧ p1 = p2 ∧ s1 = s2) from fun h => ht h.2.1)]
    go_enter Tryz.func16, Tryz.ntmps16
    go_wp2_with fail
    go_ret
    exact ⟨rfl, ((Below.refl _ w).alloc (Nat.le_refl _) _).alloc (by simp) _⟩
  subst ht
  by_cases hl : l1 = l2
  rotate_left
  · rw [decide_eq_false hl] at HS
    rw [decide_eq_false (show ¬ (k1 = k1 ∧ t1 = t1 ∧ l1 = l2 ∧ p1 = p2 ∧ s1 = s2) from fun h => hl h.2.2.1)]
    go_enter Tryz.func16, Tryz.ntmps16
    go_wp2_with fail
    refine (HS.out _ (((Below.refl _ w).alloc (Nat.le_refl _) _).alloc (by simp) _)).mono ?_
    rintro e w1 ⟨rfl, hb1⟩
    obtain ⟨hc1, hf1⟩ := bcell hb1
    have hz1 : w.heap.size + 1 < w1.heap.size := by have := hb1.size; simp at this; omega
    have B1 : Below w.heap.size w w1 := (((Below.refl _ w).alloc (Nat.le_refl _) _).alloc (by simp) _).trans (hb1.mono (by simp; omega))
    go_wp2_with fail
    go_ret
    exact ⟨rfl, B1⟩
  subst hl
  rw [decide_eq_true (rfl : l1 = l1)] at HS
  by_cases hlp : p1.length = p2.length
  rotate_left
  · have hlp' : (((p1.length : Nat) : Int) == ((p2.length : Nat) : Int)) = false := by rw [beq_eq_false_iff_ne]; omega
    rw [decide_eq_false (show ¬ (k1 = k1 ∧ t1 = t1 ∧ l1 = l1 ∧ p1 = p2 ∧ s1 = s2) from fun h => hlp (by rw [h.2.2.2.1]))]
    go_enter Tryz.func16, Tryz.ntmps16
    go_wp2_with fail
    refine (HS.out _ (((Below.refl _ w).alloc (Nat.le_refl _) _).alloc (by simp) _)).mono ?_
    rintro e w1 ⟨rfl, hb1⟩
    obtain ⟨hc1, hf1⟩ := bcell hb1
    have hz1 : w.heap.size + 1 < w1.heap.size := by have := hb1.size; simp at this; omega
    have B1 : Below w.heap.size w w1 := (((Below.refl _ w).alloc (Nat.le_refl _) _).alloc (by simp) _).trans (hb1.mono (by simp; omega))
    go_wp2_with fail
    go_ret
    exact ⟨rfl, B1⟩
  by_cases hls : s1.length = s2.length
  rotate_left
  · have hls' : (((s1.length : Nat) : Int) == ((s2.length : Nat) : Int)) = false := by rw [beq_eq_false_iff_ne]; omega
    rw [hlp]
    rw [decide_eq_false (show ¬ (k1 = k1 ∧ t1 = t1 ∧ l1 = l1 ∧ p1 = p2 ∧ s1 = s2) from fun h => hls (by rw [h.2.2.2.2]))]
    go_enter Tryz.func16, Tryz.ntmps16
    go_wp2_with fail
    refine (HS.out _ (((Below.refl _ w).alloc (Nat.le_refl _) _).alloc (by simp) _)).mono ?_
    rintro e w1 ⟨rfl, hb1⟩
    obtain ⟨hc1, hf1⟩ := bcell hb1
    have hz1 : w.heap.size + 1 < w1.heap.size := by have := hb1.size; simp at this; omega
    have B1 : Below w.heap.size w w1 := (((Below.refl _ w).alloc (Nat.le_refl _) _).alloc (by simp) _).trans (hb1.mono (by simp; omega))
    go_wp2_with fail
    go_ret
    exact ⟨rfl, B1⟩
  rw [hlp, hls]
  generalize hR : decide (k1 = k1 ∧ t1 = t1 ∧ l1 = l1 ∧ p1 = p2 ∧ s1 = s2) = R
  have HR := hide hR
  clear hR
  go_enter Tryz.func16, Tryz.ntmps16
  go_wp2_with fail
  refine (HS.out _ (((Below.refl _ w).alloc (Nat.le_refl _) _).alloc (by simp) _)).mono ?_
  rintro e w1 ⟨rfl, hb1⟩
  obtain ⟨hc1, hf1⟩ := bcell hb1
  have hz1 : w.heap.size + 1 < w1.heap.size := by have := hb1.size; simp at this; omega
  have B1 : Below w.heap.size w w1 := (((Below.refl _ w).alloc (Nat.le_refl _) _).alloc (by simp) _).trans (hb1.mono (by simp; omega))
  go_wp2_with fail
  go_loopw [5] (fun i wr => ∃ k : Nat, k ≤ p2.length ∧ i = .int .i64 k ∧ Below w1.heap.size w1 wr ∧ Hid (p1.take k = p2.take k)) (fun i _ => p2.length - (intOf i).toNat)
  case atStart => exact ⟨0, Nat.zero_le _, rfl, Below.refl _ _, by simp [Hid]⟩
  case round =>
    obtain ⟨k, hk, rfl, hbrP, HE⟩ := hrel
    have q1 : wr.cell? ⟨w.heap.size, 3, none⟩ = some (.slice ap1 p2.length cp1) := ((hbrP.cell (p := ⟨w.heap.size, 3, none⟩) (by simp only; omega)).trans (hc1 _ _ (by simp; omega))).trans (by simp [go_sem])
    have q2 : wr.cell? ⟨w.heap.size + 1, 3, none⟩ = some (.slice ap2 p2.length cp2) := ((hbrP.cell (p := ⟨w.heap.size + 1, 3, none⟩) (by simp only; omega)).trans (hc1 _ _ (by simp))).trans (by simp [go_sem])
    have hBrP : Below w.heap.size w wr := B1.trans (hbrP.mono B1.size)
    by_cases hlt : k < p2.length
    · have hltx : k < p1.length := by omega
      obtain ⟨g1, o1, rfl, e1⟩ : ∃ g o, ap1 = some ⟨g, o, none⟩ ∧ ∀ i (h : i < p1.length), w.cell? ⟨g, o + i * 2, none⟩ = some (.string p1[i].1) ∧ w.cell? ⟨g, o + i * 2 + 1, none⟩ = some (.string p1[i].2) := by
        rcases P1.out with h | h
        · rw [h] at hltx; simp at hltx
        · exact h
      obtain ⟨g2, o2, rfl, e2⟩ : ∃ g o, ap2 = some ⟨g, o, none⟩ ∧ ∀ i (h : i < p2.length), w.cell? ⟨g, o + i * 2, none⟩ = some (.string p2[i].1) ∧ w.cell? ⟨g, o + i * 2 + 1, none⟩ = some (.string p2[i].2) := by
        rcases P2.out with h | h
        · rw [h] at hlt; simp at hlt
        · exact h
      have HB : Hid (∀ g o v, w.cell? ⟨g, o, none⟩ = some v → wr.cell? ⟨g, o, none⟩ = some v) := fun g o _ hv => (hBrP.cell (p := ⟨g, o, none⟩) (World.block_lt_of_cell? _ _ hv)).trans hv
      have x1 : wr.cell? ⟨g1, o1 + k * 2, none⟩ = some (.string p1[k].1) := HB.out _ _ _ (e1 k hltx).1
      have x2 : wr.cell? ⟨g1, o1 + k * 2 + 1, none⟩ = some (.string p1[k].2) := HB.out _ _ _ (e1 k hltx).2
      have y1 : wr.cell? ⟨g2, o2 + k * 2, none⟩ = some (.string p2[k].1) := HB.out _ _ _ (e2 k hlt).1
      have y2 : wr.cell? ⟨g2, o2 + k * 2 + 1, none⟩ = some (.string p2[k].2) := HB.out _ _ _ (e2 k hlt).2
      have HT : Hid (p1[k] = p2[k] → p1.take (k + 1) = p2.take (k + 1)) := fun heq => by
        rw [List.take_succ_eq_append_getElem hltx, List.take_succ_eq_append_getElem hlt, HE.out, heq]
      have HF : Hid (p1[k] ≠ p2[k] → p1 ≠ p2) := fun hne e => hne (by subst e; rfl)
      clear e1 e2 HB HS 
      generalize p1[k] = X at *
      generalize p2[k] = Y at *
      obtain ⟨X1, X2⟩ := X
      obtain ⟨Y1, Y2⟩ := Y
      by_cases hX1 : X1 = Y1
      · subst hX1
        by_cases hX2 : X2 = Y2
        · subst hX2
          have HT' := hide (HT.out rfl)
          clear HT HF
          go_wp2_with fail
          go_quiet (fail)
          have hb2 : Below w1.heap.size w1 (wr.drewN nq) := below_drewN hbrP nq
          go_wp2_with fail
          go_roundw
          case rel => exact ⟨k + 1, by omega, by go_num, hb2, HT'⟩
          case measure => simp [intOf]; omega
        · have HF' := hide (HF.out (fun e => hX2 (by injection e)))
          have hne : (X2.toList == Y2.toList) = false := by rw [beq_eq_false_iff_ne]; exact fun e => hX2 (bytes_inj e)
          clear HT HF
          go_wp2_with fail
          go_quiet (fail)
          have hb2 : Below w.heap.size w (wr.drewN nq) := below_drewN hBrP nq
          go_wp2_with fail
          go_ret
          rw [show R = false by rw [← HR.out]; exact decide_eq_false (fun h => HF'.out h.2.2.2.1)]
          exact ⟨rfl, hb2⟩
      · have HF' := hide (HF.out (fun e => hX1 (by injection e)))
        have hne : (X1.toList == Y1.toList) = false := by rw [beq_eq_false_iff_ne]; exact fun e => hX1 (bytes_inj e)
        clear HT HF
        go_wp2_with fail
        go_quiet (fail)
        have hb2 : Below w.heap.size w (wr.drewN nq) := below_drewN hBrP nq
        go_wp2_with fail
        go_ret
        rw [show R = false by rw [← HR.out]; exact decide_eq_false (fun h => HF'.out h.2.2.2.1)]
        exact ⟨rfl, hb2⟩
    · have HQP : Hid (p1 = p2) := by
        have h1 := HE.out
        rw [List.take_of_length_le (by omega), List.take_of_length_le (by omega)] at h1
        exact h1
      go_wp2_with fail
      go_loopw [6] (fun i wr => ∃ k : Nat, k ≤ s2.length ∧ i = .int .i64 k ∧ Below w1.heap.size w1 wr ∧ Hid (s1.take k = s2.take k)) (fun i _ => s2.length - (intOf i).toNat)
      case atStart => exact ⟨0, Nat.zero_le _, rfl, hbrP, by simp [Hid]⟩
      case round =>
        obtain ⟨k, hk, rfl, hbrS, HE⟩ := hrel
        have q1 : wr.cell? ⟨w.heap.size, 4, none⟩ = some (.slice as1 s2.length cs1) := ((hbrS.cell (p := ⟨w.heap.size, 4, none⟩) (by simp only; omega)).trans (hc1 _ _ (by simp; omega))).trans (by simp [go_sem])
        have q2 : wr.cell? ⟨w.heap.size + 1, 4, none⟩ = some (.slice as2 s2.length cs2) := ((hbrS.cell (p := ⟨w.heap.size + 1, 4, none⟩) (by simp only; omega)).trans (hc1 _ _ (by simp))).trans (by simp [go_sem])
        have hBrS : Below w.heap.size w wr := B1.trans (hbrS.mono B1.size)
        by_cases hlt : k < s2.length
        · have hltx : k < s1.length := by omega
          obtain ⟨g1, o1, rfl, e1⟩ : ∃ g o, as1 = some ⟨g, o, none⟩ ∧ ∀ i (h : i < s1.length), w.cell? ⟨g, o + i * 2, none⟩ = some (.int .i64 s1[i].1) ∧ w.cell? ⟨g, o + i * 2 + 1, none⟩ = some (.string s1[i].2) := by
            rcases S1.out with h | h
            · rw [h] at hltx; simp at hltx
            · exact h
          obtain ⟨g2, o2, rfl, e2⟩ : ∃ g o, as2 = some ⟨g, o, none⟩ ∧ ∀ i (h : i < s2.length), w.cell? ⟨g, o + i * 2, none⟩ = some (.int .i64 s2[i].1) ∧ w.cell? ⟨g, o + i * 2 + 1, none⟩ = some (.string s2[i].2) := by
            rcases S2.out with h | h
            · rw [h] at hlt; simp at hlt
            · exact h
          have HB : Hid (∀ g o v, w.cell? ⟨g, o, none⟩ = some v → wr.cell? ⟨g, o, none⟩ = some v) := fun g o _ hv => (hBrS.cell (p := ⟨g, o, none⟩) (World.block_lt_of_cell? _ _ hv)).trans hv
          have x1 : wr.cell? ⟨g1, o1 + k * 2, none⟩ = some (.int .i64 s1[k].1) := HB.out _ _ _ (e1 k hltx).1
          have x2 : wr.cell? ⟨g1, o1 + k * 2 + 1, none⟩ = some (.string s1[k].2) := HB.out _ _ _ (e1 k hltx).2
          have y1 : wr.cell? ⟨g2, o2 + k * 2, none⟩ = some (.int .i64 s2[k].1) := HB.out _ _ _ (e2 k hlt).1
          have y2 : wr.cell? ⟨g2, o2 + k * 2 + 1, none⟩ = some (.string s2[k].2) := HB.out _ _ _ (e2 k hlt).2
          have HT : Hid (s1[k] = s2[k] → s1.take (k + 1) = s2.take (k + 1)) := fun heq => by
            rw [List.take_succ_eq_append_getElem hltx, List.take_succ_eq_append_getElem hlt, HE.out, heq]
          have HF : Hid (s1[k] ≠ s2[k] → s1 ≠ s2) := fun hne e => hne (by subst e; rfl)
          clear e1 e2 HB HS 
          generalize s1[k] = X at *
          generalize s2[k] = Y at *
          obtain ⟨X1, X2⟩ := X
          obtain ⟨Y1, Y2⟩ := Y
          by_cases hX1 : X1 = Y1
          · subst hX1
            by_cases hX2 : X2 = Y2
            · subst hX2
              have HT' := hide (HT.out rfl)
              clear HT HF
              go_wp2_with fail
              go_quiet (fail)
              have hb2 : Below w1.heap.size w1 (wr.drewN nq) := below_drewN hbrS nq
              go_wp2_with fail
              go_roundw
              case rel => exact ⟨k + 1, by omega, by go_num, hb2, HT'⟩
              case measure => simp [intOf]; omega
            · have HF' := hide (HF.out (fun e => hX2 (by injection e)))
              have hne : (X2.toList == Y2.toList) = false := by rw [beq_eq_false_iff_ne]; exact fun e => hX2 (bytes_inj e)
              clear HT HF
              go_wp2_with fail
              go_quiet (fail)
              have hb2 : Below w.heap.size w (wr.drewN nq) := below_drewN hBrS nq
              go_wp2_with fail
              go_ret
              rw [show R = false by rw [← HR.out]; exact decide_eq_false (fun h => HF'.out h.2.2.2.2)]
              exact ⟨rfl, hb2⟩
          · have HF' := hide (HF.out (fun e => hX1 (by injection e)))
            have hne : (X1 == Y1) = false := by rw [beq_eq_false_iff_ne]; exact fun e => hX1 e
            clear HT HF
            go_wp2_with fail
            go_quiet (fail)
            have hb2 : Below w.heap.size w (wr.drewN nq) := below_drewN hBrS nq
            go_wp2_with fail
            go_ret
            rw [show R = false by rw [← HR.out]; exact decide_eq_false (fun h => HF'.out h.2.2.2.2)]
            exact ⟨rfl, hb2⟩
        · have HQS : Hid (s1 = s2) := by
            have h1 := HE.out
            rw [List.take_of_length_le (by omega), List.take_of_length_le (by omega)] at h1
            exact h1
          go_wp2_with fail
          go_ret
          rw [show R = true by rw [← HR.out]; exact decide_eq_true ⟨by trivial, by trivial, by trivial, HQP.out, HQS.out⟩]
          exact ⟨rfl, hBrS⟩
end Go.Proofs.YtmaancidkpfopaaGreatDoor

/- Whether items are the same; an item that is got. -/
namespace Go.Proofs.YtmaancidkpfopaaGreatDoor
open Go.RowKit

theorem sameI_self (x : Itm) : sameI x x = true := by simp [sameI]
theorem sameI_ne {x y : Itm} (h : x ≠ y) : sameI x y = false := by
  cases hq : sameI x y with
  | false => rfl
  | true =>
    unfold sameI at hq
    rw [decide_eq_true_eq] at hq
    obtain ⟨k1, t1, l1, p1, s1⟩ := x
    obtain ⟨k2, t2, l2, p2, s2⟩ := y
    simp only at hq
    obtain ⟨rfl, rfl, rfl, rfl, rfl⟩ := hq
    exact absurd rfl h
theorem get_item (a : Option Addr) (c : Nat) (s : List Ent) (now : Int) (key : ByteArray) (W : World) (hs : SpaceAt W a s) (hn : s.length ≤ 281474976710656) (o : Itm) (E : Int) (ho : getR s now key = o) (hE : chkKey s now key = E) :
    Calls Tryz.prog 217 #[.slice a s.length c, .int .i64 now, .string key] W fun e w' => (∃ b1 e1 b2 e2 b3 e3, e = .returned (.tuple #[.agg #[.int .i64 o.k, .string o.t, .slice b1 o.l.length e1, .slice b2 o.p.length e2, .slice b3 o.s.length e3], .int .i64 E]) ∧ ItemIs w' (.agg #[.int .i64 o.k, .string o.t, .slice b1 o.l.length e1, .slice b2 o.p.length e2, .slice b3 o.s.length e3]) o) ∧ Below W.heap.size W w' := by
  refine (get_tells a c s now key W hs hn).mono ?_
  rintro e w' ⟨⟨v, rfl, hi⟩, hb⟩
  have hI := hi.is (getR_right s now key)
  obtain ⟨b1, d1, b2, d2, b3, d3, rfl, -⟩ := id hi
  rw [ho] at hI ⊢
  rw [hE]
  exact ⟨⟨b1, d1, b2, d2, b3, d3, rfl, hI⟩, hb⟩
end Go.Proofs.YtmaancidkpfopaaGreatDoor

/- WALK of whether spaces are the same, where they are. -/
namespace Go.Proofs.YtmaancidkpfopaaGreatDoor
open Go.RowKit

set_option maxRecDepth 100000 in
set_option maxHeartbeats 4000000 in
theorem sameSpace_any (a b : Option Addr) (c d : Nat) (s : List Ent) (w : World) (ha : SpaceAt w a s) (hb : SpaceAt w b s) (hn : s.length ≤ 1000000) :
    Calls Tryz.prog 7 #[.slice a s.length c, .slice b s.length d] w fun e w' => e = .returned (.bool true) ∧ Below w.heap.size w w' := by
  have HA := hide ha
  have HB := hide hb
  clear ha hb
  have hne : (((s.length : Nat) : Int) != ((s.length : Nat) : Int)) = false := by simp
  go_enter Tryz.func7, Tryz.ntmps7
  go_wp2_with fail
  go_loopw [5] (fun iv wr => ∃ k : Nat, k ≤ s.length ∧ iv = .int .i64 k ∧ Below w.heap.size w wr) (fun iv _ => s.length - (intOf iv).toNat)
  case atStart => exact ⟨0, Nat.zero_le _, rfl, Below.refl _ _⟩
  case round =>
    obtain ⟨k, hk, rfl, hbr⟩ := hrel
    have hsz := hbr.size
    by_cases hlt : k < s.length
    · have hlt' : ((k : Nat) : Int) < ((s.length : Nat) : Int) := by omega
      obtain ⟨g, o, rfl, hcs⟩ : ∃ g o, a = some ⟨g, o, none⟩ ∧ ∀ i (h : i < s.length), EntAt w g (o + i * 7) s[i] := by
        rcases HA.out with h | h
        · rw [h] at hlt; simp at hlt
        · exact h
      obtain ⟨g2, o2, rfl, hcs2⟩ : ∃ g o, b = some ⟨g, o, none⟩ ∧ ∀ i (h : i < s.length), EntAt w g (o + i * 7) s[i] := by
        rcases HB.out with h | h
        · rw [h] at hlt; simp at hlt
        · exact h
      obtain ⟨a1, c1, a2, c2, a3, c3, ⟨d0, d1, d2, d3, d4, d5, d6⟩, hi⟩ := (hcs k hlt).below hbr
      obtain ⟨b1, f1, b2, f2, b3, f3, ⟨e0, e1, e2, e3, e4, e5, e6⟩, hi2⟩ := (hcs2 k hlt).below hbr
      clear hcs hcs2
      generalize s[k] = X at *
      have lg : g < wr.heap.size := World.block_lt_of_cell? _ _ d0
      have lg2 : g2 < wr.heap.size := World.block_lt_of_cell? _ _ e0
      have HKE : Hid (∀ W, Below wr.heap.size wr W → W.cell? ⟨g, o + k * 7, none⟩ = some (.string X.key) ∧ W.cell? ⟨g, o + k * 7 + 1, none⟩ = some (.int .i64 X.item.k) ∧ W.cell? ⟨g, o + k * 7 + 2, none⟩ = some (.string X.item.t) ∧ W.cell? ⟨g, o + k * 7 + 3, none⟩ = some (.slice a1 X.item.l.length c1) ∧ W.cell? ⟨g, o + k * 7 + 4, none⟩ = some (.slice a2 X.item.p.length c2) ∧ W.cell? ⟨g, o + k * 7 + 5, none⟩ = some (.slice a3 X.item.s.length c3) ∧ W.cell? ⟨g, o + k * 7 + 6, none⟩ = some (.int .i64 X.til) ∧ W.cell? ⟨g2, o2 + k * 7, none⟩ = some (.string X.key) ∧ W.cell? ⟨g2, o2 + k * 7 + 1, none⟩ = some (.int .i64 X.item.k) ∧ W.cell? ⟨g2, o2 + k * 7 + 2, none⟩ = some (.string X.item.t) ∧ W.cell? ⟨g2, o2 + k * 7 + 3, none⟩ = some (.slice b1 X.item.l.length f1) ∧ W.cell? ⟨g2, o2 + k * 7 + 4, none⟩ = some (.slice b2 X.item.p.length f2) ∧ W.cell? ⟨g2, o2 + k * 7 + 5, none⟩ = some (.slice b3 X.item.s.length f3) ∧ W.cell? ⟨g2, o2 + k * 7 + 6, none⟩ = some (.int .i64 X.til)) := fun W hW => ⟨(hW.cell (p := ⟨g, o + k * 7, none⟩) lg).trans d0, (hW.cell (p := ⟨g, o + k * 7 + 1, none⟩) lg).trans d1, (hW.cell (p := ⟨g, o + k * 7 + 2, none⟩) lg).trans d2, (hW.cell (p := ⟨g, o + k * 7 + 3, none⟩) lg).trans d3, (hW.cell (p := ⟨g, o + k * 7 + 4, none⟩) lg).trans d4, (hW.cell (p := ⟨g, o + k * 7 + 5, none⟩) lg).trans d5, (hW.cell (p := ⟨g, o + k * 7 + 6, none⟩) lg).trans d6, (hW.cell (p := ⟨g2, o2 + k * 7, none⟩) lg2).trans e0, (hW.cell (p := ⟨g2, o2 + k * 7 + 1, none⟩) lg2).trans e1, (hW.cell (p := ⟨g2, o2 + k * 7 + 2, none⟩) lg2).trans e2, (hW.cell (p := ⟨g2, o2 + k * 7 + 3, none⟩) lg2).trans e3, (hW.cell (p := ⟨g2, o2 + k * 7 + 4, none⟩) lg2).trans e4, (hW.cell (p := ⟨g2, o2 + k * 7 + 5, none⟩) lg2).trans e5, (hW.cell (p := ⟨g2, o2 + k * 7 + 6, none⟩) lg2).trans e6⟩
      have hdr : Below wr.heap.size wr wr.drew := (Below.refl _ wr).drew
      have HC : Hid (Calls Tryz.prog 16 #[.agg #[.int .i64 X.item.k, .string X.item.t, .slice a1 X.item.l.length c1, .slice a2 X.item.p.length c2, .slice a3 X.item.s.length c3], .agg #[.int .i64 X.item.k, .string X.item.t, .slice b1 X.item.l.length f1, .slice b2 X.item.p.length f2, .slice b3 X.item.s.length f3]] wr.drew fun e w' => e = .returned (.bool true) ∧ Below wr.heap.size wr w') := by
        have := sameItem_any _ _ X.item X.item wr.drew (hi.below hdr) (hi2.below hdr)
        rw [sameI_self] at this
        exact this.mono fun e w' h => ⟨h.1, h.2.os, h.2.tape, h.2.output, h.2.size, h.2.block⟩
      clear hi hi2 hdr lg lg2
      go_wp2_with fail
      go_region_held3 (fun w' => w'.cell? ⟨g, o + k * 7, none⟩ = some (.string X.key) ∧ w'.cell? ⟨g, o + k * 7 + 1, none⟩ = some (.int .i64 X.item.k) ∧ w'.cell? ⟨g, o + k * 7 + 2, none⟩ = some (.string X.item.t) ∧ w'.cell? ⟨g, o + k * 7 + 3, none⟩ = some (.slice a1 X.item.l.length c1) ∧ w'.cell? ⟨g, o + k * 7 + 4, none⟩ = some (.slice a2 X.item.p.length c2) ∧ w'.cell? ⟨g, o + k * 7 + 5, none⟩ = some (.slice a3 X.item.s.length c3) ∧ w'.cell? ⟨g, o + k * 7 + 6, none⟩ = some (.int .i64 X.til) ∧
          w'.cell? ⟨g2, o2 + k * 7, none⟩ = some (.string X.key) ∧ w'.cell? ⟨g2, o2 + k * 7 + 1, none⟩ = some (.int .i64 X.item.k) ∧ w'.cell? ⟨g2, o2 + k * 7 + 2, none⟩ = some (.string X.item.t) ∧ w'.cell? ⟨g2, o2 + k * 7 + 3, none⟩ = some (.slice b1 X.item.l.length f1) ∧ w'.cell? ⟨g2, o2 + k * 7 + 4, none⟩ = some (.slice b2 X.item.p.length f2) ∧ w'.cell? ⟨g2, o2 + k * 7 + 5, none⟩ = some (.slice b3 X.item.s.length f3) ∧ w'.cell? ⟨g2, o2 + k * 7 + 6, none⟩ = some (.int .i64 X.til)) (go_keep)
        ((go_at_call 16; refine HC.out.mono ?_; rintro e w2 ⟨rfl, hb2⟩; obtain ⟨q0, q1, q2, q3, q4, q5, q6, r0, r1, r2, r3, r4, r5, r6⟩ := HKE.out w2 hb2))
      all_goals
        have C2 : Below w.heap.size w w2 := hbr.trans (hb2.mono hsz)
        go_wp2_with fail
        go_roundw
        case rel => exact ⟨k + 1, by omega, by go_num, C2⟩
        case measure => simp [intOf]; omega
    · have hge : ¬ ((k : Nat) : Int) < ((s.length : Nat) : Int) := by omega
      go_wp2_with fail
      go_ret
      exact ⟨rfl, hbr⟩
end Go.Proofs.YtmaancidkpfopaaGreatDoor

/- WALK of SameReply, where both are the same and hold no list. -/
namespace Go.Proofs.YtmaancidkpfopaaGreatDoor
open Go.RowKit

set_option maxRecDepth 100000 in
set_option maxHeartbeats 1000000 in
theorem same_zero (k : Int) (t : ByteArray) (n : Int) (a1 a2 : Option Addr) (c1 c2 : Nat) (w : World) :
    Calls Tryz.prog 6 #[.agg #[.int .i64 k, .string t, .int .i64 n, .slice a1 0 c1], .agg #[.int .i64 k, .string t, .int .i64 n, .slice a2 0 c2]] w fun e w' => e = .returned (.bool true) ∧ Below w.heap.size w w' := by
  have hk : (k != k) = false := by simp
  have hn : (n != n) = false := by simp
  have ht : (t.toList != t.toList) = false := by simp
  go_enter Tryz.func6, Tryz.ntmps6
  go_wp2
  go_loop [5] (fun i => i = .int .i64 0) (fun _ => 0)
  case atStart => rfl
  case round =>
    subst hrel
    go_wp2
    go_ret
    exact ⟨rfl, ((Below.refl _ w).alloc (Nat.le_refl _) _).alloc (by simp) _⟩
end Go.Proofs.YtmaancidkpfopaaGreatDoor

/- What the readings of items give. -/
namespace Go.Proofs.YtmaancidkpfopaaGreatDoor
open Go.RowKit Go.ChangeShapes Go.WideShapes Go.ChangeAt Go.Deep

theorem pick_list {α : Type} {len : Nat} {p : Nat → α → Prop} (h : ∀ i, i < len → ∃ x, p i x) : ∃ L : List α, L.length = len ∧ ∀ i (hi : i < L.length), p i L[i] := by
  induction len with
  | zero => exact ⟨[], rfl, fun i hi => by simp at hi⟩
  | succ n ih =>
    obtain ⟨L, hl, hp⟩ := ih (fun i hi => h i (by omega))
    obtain ⟨x, hx⟩ := h n (by omega)
    refine ⟨L ++ [x], by simp [hl], fun i hi => ?_⟩
    by_cases hlt : i < L.length
    · rw [List.getElem_append_left hlt]; exact hp i hlt
    · have : i = L.length := by simp at hi; omega
      subst this
      simp only [List.getElem_append_right (Nat.le_refl _), Nat.sub_self, List.getElem_cons_zero]
      rw [hl]
      exact hx
theorem spot_none {w : World} {a : Addr} {v : Value} (h : w.cell? a = some v) : a.spot = none := by
  cases hs : a.spot with
  | none => rfl
  | some x =>
    exfalso
    unfold World.cell? at h
    split at h
    · simp [hs] at h
    · simp at h
theorem plain_addr {a : Addr} (h : a.spot = none) : ∃ b off, a = ⟨b, off, none⟩ := by
  cases a with
  | mk b o s => simp only at h; subst h; exact ⟨b, o, rfl⟩
theorem plus_at (b off i : Nat) : (⟨b, off, none⟩ : Addr).add i = ⟨b, off + i, none⟩ := by
  unfold Addr.add
  split
  · rename_i h; subst h; rfl
  · rfl
theorem one_list {cs : List Value} (h : cs.length = 1) : ∃ c0, cs = [c0] := by
  match cs, h with
  | [c0], _ => exact ⟨c0, rfl⟩
theorem two_list {cs : List Value} (h : cs.length = 2) : ∃ c0 c1, cs = [c0, c1] := by
  match cs, h with
  | [c0, c1], _ => exact ⟨c0, c1, rfl⟩
theorem five_list {cs : List Value} (h : cs.length = 5) : ∃ c0 c1 c2 c3 c4, cs = [c0, c1, c2, c3, c4] := by
  match cs, h with
  | [c0, c1, c2, c3, c4], _ => exact ⟨c0, c1, c2, c3, c4, rfl⟩

theorem cellsItem : Tryz.prog.cellsOf 40 = 5 := by kernel_rfl
theorem cellsPair : Tryz.prog.cellsOf 70 = 2 := by kernel_rfl
theorem cellsScore : Tryz.prog.cellsOf 72 = 2 := by kernel_rfl
theorem cellsI : Tryz.prog.cellsOf 3 = 1 := by kernel_rfl
theorem cellsS : Tryz.prog.cellsOf 9 = 1 := by kernel_rfl
theorem cellsL1 : Tryz.prog.cellsOf 31 = 1 := by kernel_rfl
theorem cellsL2 : Tryz.prog.cellsOf 37 = 1 := by kernel_rfl
theorem cellsL3 : Tryz.prog.cellsOf 38 = 1 := by kernel_rfl
theorem bytesS : Tryz.prog.bytesOf 9 = 16 := by kernel_rfl
theorem bytesP : Tryz.prog.bytesOf 70 = 32 := by kernel_rfl
theorem bytesSc : Tryz.prog.bytesOf 72 = 24 := by kernel_rfl

section
variable {H : Type} {enc : TypeId × Value → H} {W : World} {held : Bool}
/-- how many there are, of the reading -/
def datLen : DataW H → Nat
  | .slice es _ => es.length
  | _ => 0
theorem texts_of_trod {n : Nat} {lv : Value} {x : DataW H × List MemPlace} (h : DataW.trod enc Tryz.prog W 0 (fun _ => true) held n 31 [lv] = some x) :
    ∃ a cap ts, lv = .slice a (List.length ts) cap ∧ TextsAt W a ts ∧ (∀ t ∈ ts, t.size ≤ maxLen) ∧ (ts.length = 0 ∨ ∃ es sp, x.1 = .slice es sp ∧ es.length = ts.length) := by
  rcases open_slice Tryz.underlying31 h with ⟨hcs, _⟩ | ⟨a, len, cap, m, n', D, Pl, hcs, _, hl, hm, hmm, hx, hcell⟩
  · simp at hcs
    exact ⟨none, 0, [], hcs, .inl rfl, by simp, .inl rfl⟩
  · simp at hcs
    have hmc : m = cap := by simpa using hmm
    subst hmc
    rw [cellsS] at hcell
    obtain ⟨rs, hrl, hrs⟩ := pick_list (len := len) (p := fun i (r : ByteArray) => W.cell? ((a.add (i * 1)).add 0) = some (.string r) ∧ r.size ≤ maxLen) (fun i hi => by
      obtain ⟨cs', hc, hd⟩ := hcell i (by omega)
      obtain ⟨hcl, _, hg⟩ := World.cells?_some hc
      obtain ⟨t, e1, _, hts⟩ := DataW.trod_string Tryz.underlying9 hd
      subst e1
      exact ⟨t, hg 0 (by omega), hts⟩)
    subst hrl
    refine ⟨some a, m, rs, hcs, ?_, ?_, .inr ⟨_, _, by rw [hx], by simp⟩⟩
    · by_cases h0 : rs = []
      · exact .inl h0
      · have hpos : 0 < rs.length := List.length_pos_iff.2 h0
        obtain ⟨b, off, rfl⟩ := plain_addr (by have e := spot_none (hrs 0 hpos).1; simpa [Addr.add] using e : a.spot = none)
        refine .inr ⟨b, off, rfl, fun i hi => ?_⟩
        have := (hrs i hi).1
        rw [plus_at, plus_at, Nat.mul_one] at this
        exact this
    · intro t ht
      obtain ⟨i, hi, rfl⟩ := List.getElem_of_mem ht
      exact (hrs i hi).2
theorem pair_parts {n : Nat} {cs : List Value} {x : DataW H × List MemPlace} (h : DataW.trod enc Tryz.prog W 0 (fun _ => true) held n 70 cs = some x) :
    ∃ t1 t2 : ByteArray, cs = [.string t1, .string t2] ∧ t1.size ≤ maxLen ∧ t2.size ≤ maxLen := by
  obtain ⟨xs, n', rfl, hx, hl, hxl, hall⟩ := DataW.trod_struct Tryz.underlying70 h
  rw [cellsPair] at hl
  obtain ⟨c0, c1, rfl⟩ := two_list hl
  have hl2 : xs.length = 2 := hxl
  have h0 : DataW.trod enc Tryz.prog W 0 (fun _ => true) held n' 9 (([c0, c1].drop 0).take (Tryz.prog.cellsOf 9)) = xs[0]? := hall 0 _ rfl
  have h1 : DataW.trod enc Tryz.prog W 0 (fun _ => true) held n' 9 (([c0, c1].drop 1).take (Tryz.prog.cellsOf 9)) = xs[1]? := hall 1 _ rfl
  clear hall
  rw [cellsS, List.getElem?_eq_getElem (by omega)] at h0 h1
  obtain ⟨t0, e0, _, s0⟩ := DataW.trod_string Tryz.underlying9 h0
  obtain ⟨t1, e1, _, s1⟩ := DataW.trod_string Tryz.underlying9 h1
  simp at e0 e1
  subst e0 e1
  exact ⟨t0, t1, rfl, s0, s1⟩
theorem score_parts {n : Nat} {cs : List Value} {x : DataW H × List MemPlace} (h : DataW.trod enc Tryz.prog W 0 (fun _ => true) held n 72 cs = some x) :
    ∃ (t1 : Int) (t2 : ByteArray), cs = [.int .i64 t1, .string t2] ∧ t2.size ≤ maxLen ∧ -9223372036854775808 ≤ t1 ∧ t1 ≤ 9223372036854775807 := by
  obtain ⟨xs, n', rfl, hx, hl, hxl, hall⟩ := DataW.trod_struct Tryz.underlying72 h
  rw [cellsScore] at hl
  obtain ⟨c0, c1, rfl⟩ := two_list hl
  have hl2 : xs.length = 2 := hxl
  have h0 : DataW.trod enc Tryz.prog W 0 (fun _ => true) held n' 3 (([c0, c1].drop 0).take (Tryz.prog.cellsOf 3)) = xs[0]? := hall 0 _ rfl
  have h1 : DataW.trod enc Tryz.prog W 0 (fun _ => true) held n' 9 (([c0, c1].drop 1).take (Tryz.prog.cellsOf 9)) = xs[1]? := hall 1 _ rfl
  clear hall
  rw [cellsI, List.getElem?_eq_getElem (by omega)] at h0
  rw [cellsS, List.getElem?_eq_getElem (by omega)] at h1
  obtain ⟨t0, e0, _, s0⟩ := DataW.trod_int Tryz.underlying3 h0
  obtain ⟨t1, e1, _, s1⟩ := DataW.trod_string Tryz.underlying9 h1
  simp at e0 e1
  subst e0 e1
  exact ⟨t0, t1, rfl, s1, bounds_i64 s0⟩
theorem pairs_of_trod {n : Nat} {lv : Value} {x : DataW H × List MemPlace} (h : DataW.trod enc Tryz.prog W 0 (fun _ => true) held n 37 [lv] = some x) :
    ∃ a cap ts, lv = .slice a (List.length ts) cap ∧ PairsAt W a ts ∧ (∀ t ∈ ts, t.1.size ≤ maxLen ∧ t.2.size ≤ maxLen) ∧ (ts.length = 0 ∨ ∃ es sp, x.1 = .slice es sp ∧ es.length = ts.length) := by
  rcases open_slice Tryz.underlying37 h with ⟨hcs, _⟩ | ⟨a, len, cap, m, n', D, Pl, hcs, _, hl, hm, hmm, hx, hcell⟩
  · simp at hcs
    exact ⟨none, 0, [], hcs, .inl rfl, by simp, .inl rfl⟩
  · simp at hcs
    have hmc : m = cap := by simpa using hmm
    subst hmc
    rw [cellsPair] at hcell
    obtain ⟨rs, hrl, hrs⟩ := pick_list (len := len) (p := fun i (t : ByteArray × ByteArray) => W.cell? ((a.add (i * 2)).add 0) = some (.string t.1) ∧ W.cell? ((a.add (i * 2)).add 1) = some (.string t.2) ∧ t.1.size ≤ maxLen ∧ t.2.size ≤ maxLen) (fun i hi => by
      obtain ⟨cs', hc, hd⟩ := hcell i (by omega)
      obtain ⟨hcl, _, hg⟩ := World.cells?_some hc
      obtain ⟨t1, t2, e1, hts⟩ := pair_parts hd
      subst e1
      exact ⟨(t1, t2), hg 0 (by omega), hg 1 (by omega), hts⟩)
    subst hrl
    refine ⟨some a, m, rs, hcs, ?_, ?_, .inr ⟨_, _, by rw [hx], by simp⟩⟩
    · by_cases h0 : rs = []
      · exact .inl h0
      · have hpos : 0 < rs.length := List.length_pos_iff.2 h0
        obtain ⟨b, off, rfl⟩ := plain_addr (by have e := spot_none (hrs 0 hpos).1; simpa [Addr.add] using e : a.spot = none)
        refine .inr ⟨b, off, rfl, fun i hi => ?_⟩
        have g1 := (hrs i hi).1
        have g2 := (hrs i hi).2.1
        rw [plus_at, plus_at] at g1 g2
        exact ⟨g1, g2⟩
    · intro t ht
      obtain ⟨i, hi, rfl⟩ := List.getElem_of_mem ht
      exact (hrs i hi).2.2
theorem scores_of_trod {n : Nat} {lv : Value} {x : DataW H × List MemPlace} (h : DataW.trod enc Tryz.prog W 0 (fun _ => true) held n 38 [lv] = some x) :
    ∃ a cap ts, lv = .slice a (List.length ts) cap ∧ ScoresAt W a ts ∧ (∀ t ∈ ts, t.2.size ≤ maxLen ∧ -9223372036854775808 ≤ t.1 ∧ t.1 ≤ 9223372036854775807) ∧ (ts.length = 0 ∨ ∃ es sp, x.1 = .slice es sp ∧ es.length = ts.length) := by
  rcases open_slice Tryz.underlying38 h with ⟨hcs, _⟩ | ⟨a, len, cap, m, n', D, Pl, hcs, _, hl, hm, hmm, hx, hcell⟩
  · simp at hcs
    exact ⟨none, 0, [], hcs, .inl rfl, by simp, .inl rfl⟩
  · simp at hcs
    have hmc : m = cap := by simpa using hmm
    subst hmc
    rw [cellsScore] at hcell
    obtain ⟨rs, hrl, hrs⟩ := pick_list (len := len) (p := fun i (t : Int × ByteArray) => W.cell? ((a.add (i * 2)).add 0) = some (.int .i64 t.1) ∧ W.cell? ((a.add (i * 2)).add 1) = some (.string t.2) ∧ t.2.size ≤ maxLen ∧ -9223372036854775808 ≤ t.1 ∧ t.1 ≤ 9223372036854775807) (fun i hi => by
      obtain ⟨cs', hc, hd⟩ := hcell i (by omega)
      obtain ⟨hcl, _, hg⟩ := World.cells?_some hc
      obtain ⟨t1, t2, e1, hts⟩ := score_parts hd
      subst e1
      exact ⟨(t1, t2), hg 0 (by omega), hg 1 (by omega), hts⟩)
    subst hrl
    refine ⟨some a, m, rs, hcs, ?_, ?_, .inr ⟨_, _, by rw [hx], by simp⟩⟩
    · by_cases h0 : rs = []
      · exact .inl h0
      · have hpos : 0 < rs.length := List.length_pos_iff.2 h0
        obtain ⟨b, off, rfl⟩ := plain_addr (by have e := spot_none (hrs 0 hpos).1; simpa [Addr.add] using e : a.spot = none)
        refine .inr ⟨b, off, rfl, fun i hi => ?_⟩
        have g1 := (hrs i hi).1
        have g2 := (hrs i hi).2.1
        rw [plus_at, plus_at] at g1 g2
        exact ⟨g1, g2⟩
    · intro t ht
      obtain ⟨i, hi, rfl⟩ := List.getElem_of_mem ht
      exact (hrs i hi).2.2

theorem weights_agg {P : Program} {t : TypeId} {fs : Array Field} {parts : List (DataW H)} (hu : P.underlying t = some (.struct fs)) (h : ((DataW.agg parts).weights P t).all (· ≤ reachBytes) = true) : (DataW.weightsEach P (fs.toList.map (·.type)) parts).all (· ≤ reachBytes) = true := by
  unfold DataW.weights at h
  rw [hu] at h
  exact h
theorem weights_at {P : Program} {ts : List TypeId} {ds : List (DataW H)} (h : (DataW.weightsEach P ts ds).all (· ≤ reachBytes) = true) {j : Nat} {t : TypeId} {d : DataW H} (ht : ts[j]? = some t) (hd : ds[j]? = some d) : (d.weights P t).all (· ≤ reachBytes) = true := by
  rw [List.all_eq_true] at h ⊢
  intro n hn
  exact h n (DataW.weights_mem_each ht hd n hn)

set_option maxRecDepth 100000 in
theorem item_cells {n : Nat} {cs : List Value} {x : DataW H × List MemPlace} (h : DataW.trod enc Tryz.prog W 0 (fun _ => true) held n 40 cs = some x) (hw : (x.1.weights Tryz.prog 40).all (· ≤ reachBytes) = true) :
    ∃ y : Itm, ItemIs W (.agg cs.toArray) y := by
  obtain ⟨xs, n', rfl, hx, hl, hxl, hall⟩ := DataW.trod_struct Tryz.underlying40 h
  rw [cellsItem] at hl
  obtain ⟨c0, c1, c2, c3, c4, rfl⟩ := five_list hl
  have hl5 : xs.length = 5 := hxl
  have h0 : DataW.trod enc Tryz.prog W 0 (fun _ => true) held n' 3 (([c0, c1, c2, c3, c4].drop 0).take (Tryz.prog.cellsOf 3)) = xs[0]? := hall 0 _ rfl
  have h1 : DataW.trod enc Tryz.prog W 0 (fun _ => true) held n' 9 (([c0, c1, c2, c3, c4].drop 1).take (Tryz.prog.cellsOf 9)) = xs[1]? := hall 1 _ rfl
  have h2 : DataW.trod enc Tryz.prog W 0 (fun _ => true) held n' 31 (([c0, c1, c2, c3, c4].drop 2).take (Tryz.prog.cellsOf 31)) = xs[2]? := hall 2 _ rfl
  have h3 : DataW.trod enc Tryz.prog W 0 (fun _ => true) held n' 37 (([c0, c1, c2, c3, c4].drop 3).take (Tryz.prog.cellsOf 37)) = xs[3]? := hall 3 _ rfl
  have h4 : DataW.trod enc Tryz.prog W 0 (fun _ => true) held n' 38 (([c0, c1, c2, c3, c4].drop 4).take (Tryz.prog.cellsOf 38)) = xs[4]? := hall 4 _ rfl
  clear hall
  rw [cellsI, List.getElem?_eq_getElem (by omega)] at h0
  rw [cellsS, List.getElem?_eq_getElem (by omega)] at h1
  rw [cellsL1, List.getElem?_eq_getElem (by omega)] at h2
  rw [cellsL2, List.getElem?_eq_getElem (by omega)] at h3
  rw [cellsL3, List.getElem?_eq_getElem (by omega)] at h4
  obtain ⟨k, e0, _, _⟩ := DataW.trod_int Tryz.underlying3 h0
  obtain ⟨t, e1, _, hts⟩ := DataW.trod_string Tryz.underlying9 h1
  simp at e0 e1
  subst e0 e1
  obtain ⟨a1, p1, l1, e2, i2, s2, w2⟩ := texts_of_trod h2
  obtain ⟨a2, p2, l2, e3, i3, s3, w3⟩ := pairs_of_trod h3
  obtain ⟨a3, p3, l3, e4, i4, s4, w4⟩ := scores_of_trod h4
  subst e2 e3 e4
  rw [hx] at hw
  have hws := weights_agg Tryz.underlying40 hw
  have hrb := reachBytes_lt
  have b1 : l1.length ≤ 281474976710656 := by
    rcases w2 with w2 | ⟨es, sp, we, wl⟩
    · omega
    · have := sized_slice hws (elems := es) (spare := sp) (j := 2) (t := 31) rfl (by simp [hl5, we]) Tryz.underlying31
      rw [bytesS] at this
      omega
  have b2 : l2.length ≤ 281474976710656 := by
    rcases w3 with w3 | ⟨es, sp, we, wl⟩
    · omega
    · have := sized_slice hws (elems := es) (spare := sp) (j := 3) (t := 37) rfl (by simp [hl5, we]) Tryz.underlying37
      rw [bytesP] at this
      omega
  have b3 : l3.length ≤ 281474976710656 := by
    rcases w4 with w4 | ⟨es, sp, we, wl⟩
    · omega
    · have := sized_slice hws (elems := es) (spare := sp) (j := 4) (t := 38) rfl (by simp [hl5, we]) Tryz.underlying38
      rw [bytesSc] at this
      omega
  exact ⟨⟨k, t, l1, l2, l3⟩, ⟨⟨a1, p1, a2, p2, a3, p3, rfl, i2, i3, i4⟩, hts, s2, s3, fun y hy => (s4 y hy).1, b1, b2, b3⟩⟩
set_option maxRecDepth 100000 in
theorem item_of_trod {base : Nat} {v : Value} {d : DataW H} {pl : List MemPlace} (hv : Value.okWide Tryz.prog W .any base 40 v) (h : DataW.Trod enc Tryz.prog W 0 (fun _ => true) held 40 v d pl) (hw : (d.weights Tryz.prog 40).all (· ≤ reachBytes) = true) :
    ∃ y : Itm, ItemIs W v y := by
  obtain ⟨cs, rfl, _⟩ := okWide_struct Tryz.underlying40 hv
  obtain ⟨fuel, hf⟩ := h
  obtain ⟨y, hy⟩ := item_cells hf hw
  have hy2 : ItemIs W (.agg (Value.agg cs).cells) y := by simpa using hy
  exact ⟨y, hy2⟩
set_option maxRecDepth 100000 in
theorem list_of_trod {base : Nat} {v : Value} {d : DataW H} {pl : List MemPlace} (hv : Value.okWide Tryz.prog W .any base 31 v) (h : DataW.Trod enc Tryz.prog W 0 (fun _ => true) held 31 v d pl) (hw : (d.weights Tryz.prog 31).all (· ≤ reachBytes) = true) :
    ∃ a c l, v = .slice a (List.length l) c ∧ TextsAt W a l ∧ (∀ t ∈ l, t.size ≤ maxLen) ∧ l.length ≤ 8796093022208 := by
  obtain ⟨a0, n0, c0, rfl⟩ := okWide_slice Tryz.underlying31 hv
  obtain ⟨fuel, hf⟩ := h
  obtain ⟨a, c, l, e, i, z, wl⟩ := texts_of_trod (lv := .slice a0 n0 c0) hf
  refine ⟨a, c, l, e, i, z, ?_⟩
  rcases wl with wl | ⟨es, sp, we, hl⟩
  · omega
  · have hws : (DataW.weightsEach Tryz.prog [31] [d]).all (· ≤ reachBytes) = true := by
      rw [DataW.weightsEach, DataW.weightsEach, List.append_nil]
      exact hw
      all_goals simp
    have hrb := reachBytes_lt
    have := sized_slice hws (elems := es) (spare := sp) (j := 0) (t := 31) rfl (by rw [← we]; rfl) Tryz.underlying31
    rw [bytesS] at this
    omega
end
end Go.Proofs.YtmaancidkpfopaaGreatDoor

/- What the reading of a space gives. -/
namespace Go.Proofs.YtmaancidkpfopaaGreatDoor
open Go.RowKit Go.ChangeShapes Go.WideShapes Go.ChangeAt Go.Deep

theorem cellsEnt : Tryz.prog.cellsOf 42 = 7 := by kernel_rfl
theorem bytesEnt : Tryz.prog.bytesOf 42 = 120 := by kernel_rfl
theorem seven_list {cs : List Value} (h : cs.length = 7) : ∃ c0 c1 c2 c3 c4 c5 c6, cs = [c0, c1, c2, c3, c4, c5, c6] := by
  match cs, h with
  | [c0, c1, c2, c3, c4, c5, c6], _ => exact ⟨c0, c1, c2, c3, c4, c5, c6, rfl⟩
section
variable {H : Type} {enc : TypeId × Value → H} {W : World} {held : Bool}
theorem weights_mem_all {P : Program} {e : TypeId} : ∀ {l : List (DataW H)} {d : DataW H}, d ∈ l → ∀ n ∈ d.weights P e, n ∈ DataW.weightsAll P e l
  | [], _, h, _, _ => by cases h
  | x :: r, d, h, n, hn => by
    unfold DataW.weightsAll
    rcases List.mem_cons.1 h with rfl | h
    · exact List.mem_append.2 (.inl hn)
    · exact List.mem_append.2 (.inr (weights_mem_all h n hn))
theorem weights_slice {P : Program} {t e : TypeId} {es sp : List (DataW H)} (hu : P.underlying t = some (.slice e)) (h : ((DataW.slice es sp).weights P t).all (· ≤ reachBytes) = true) :
    (es.length + sp.length) * P.bytesOf e ≤ reachBytes ∧ ∀ d ∈ es, (d.weights P e).all (· ≤ reachBytes) = true := by
  unfold DataW.weights at h
  rw [hu] at h
  simp only [List.all_cons, List.all_append, Bool.and_eq_true, decide_eq_true_eq] at h
  refine ⟨h.1, fun d hd => ?_⟩
  have h2 := h.2.1
  rw [List.all_eq_true] at h2 ⊢
  exact fun n hn => h2 n (weights_mem_all hd n hn)
set_option maxRecDepth 100000 in
theorem entry_cells {n : Nat} {cs : List Value} {x : DataW H × List MemPlace} (h : DataW.trod enc Tryz.prog W 0 (fun _ => true) held n 42 cs = some x) (hw : (x.1.weights Tryz.prog 42).all (· ≤ reachBytes) = true) :
    ∃ (y : Ent) (a1 : Option Addr) (p1 : Nat) (a2 : Option Addr) (p2 : Nat) (a3 : Option Addr) (p3 : Nat), cs = [.string y.key, .int .i64 y.item.k, .string y.item.t, .slice a1 y.item.l.length p1, .slice a2 y.item.p.length p2, .slice a3 y.item.s.length p3, .int .i64 y.til] ∧
      ItemIs W (.agg #[.int .i64 y.item.k, .string y.item.t, .slice a1 y.item.l.length p1, .slice a2 y.item.p.length p2, .slice a3 y.item.s.length p3]) y.item := by
  obtain ⟨xs, n', rfl, hx, hl, hxl, hall⟩ := DataW.trod_struct Tryz.underlying42 h
  rw [cellsEnt] at hl
  obtain ⟨c0, c1, c2, c3, c4, c5, c6, rfl⟩ := seven_list hl
  have hl3 : xs.length = 3 := hxl
  have h0 : DataW.trod enc Tryz.prog W 0 (fun _ => true) held n' 9 (([c0, c1, c2, c3, c4, c5, c6].drop 0).take (Tryz.prog.cellsOf 9)) = xs[0]? := hall 0 _ rfl
  have h1 : DataW.trod enc Tryz.prog W 0 (fun _ => true) held n' 40 (([c0, c1, c2, c3, c4, c5, c6].drop 1).take (Tryz.prog.cellsOf 40)) = xs[1]? := hall 1 _ rfl
  have h2 : DataW.trod enc Tryz.prog W 0 (fun _ => true) held n' 3 (([c0, c1, c2, c3, c4, c5, c6].drop 6).take (Tryz.prog.cellsOf 3)) = xs[2]? := hall 2 _ rfl
  clear hall
  rw [cellsS, List.getElem?_eq_getElem (by omega)] at h0
  rw [cellsItem, List.getElem?_eq_getElem (by omega)] at h1
  rw [cellsI, List.getElem?_eq_getElem (by omega)] at h2
  obtain ⟨t, e0, _, hts⟩ := DataW.trod_string Tryz.underlying9 h0
  obtain ⟨k, e2, _, _⟩ := DataW.trod_int Tryz.underlying3 h2
  simp at e0 e2
  subst e0 e2
  rw [hx] at hw
  have hws := weights_agg Tryz.underlying42 hw
  have hwi := weights_at hws (j := 1) (t := 40) (d := xs[1].1) rfl (by simp [hl3])
  obtain ⟨y, hy⟩ := item_cells h1 hwi
  obtain ⟨a1, p1, a2, p2, a3, p3, e, -, -, -⟩ := hy.ex
  have e' : [c1, c2, c3, c4, c5] = [.int .i64 y.k, .string y.t, .slice a1 y.l.length p1, .slice a2 y.p.length p2, .slice a3 y.s.length p3] := by
    injection e with e
    have := congrArg Array.toList e
    simpa using this
  injection e' with e1 e'
  injection e' with e2 e'
  injection e' with e3 e'
  injection e' with e4 e'
  injection e' with e5 e'
  subst e1 e2 e3 e4 e5
  exact ⟨⟨t, y, k⟩, a1, p1, a2, p2, a3, p3, rfl, by simpa using hy⟩
set_option maxRecDepth 100000 in
theorem space_of_trod {base : Nat} {v : Value} {d : DataW H} {pl : List MemPlace} (hv : Value.okWide Tryz.prog W .any base 23 v) (h : DataW.Trod enc Tryz.prog W 0 (fun _ => true) held 23 v d pl) (hw : (d.weights Tryz.prog 23).all (· ≤ reachBytes) = true) :
    ∃ a c s, v = .slice a (List.length s) c ∧ SpaceAt W a s ∧ s.length ≤ 281474976710656 := by
  obtain ⟨a0, n0, c0, rfl⟩ := okWide_slice Tryz.underlying23 hv
  obtain ⟨fuel, hf⟩ := h
  rcases open_slice Tryz.underlying23 hf with ⟨hcs, _⟩ | ⟨a, len, cap, m, n', D, Pl, hcs, _, hl, hm, hmm, hx, hcell⟩
  · have hcs2 : [Value.slice a0 n0 c0] = [.slice none 0 0] := hcs
    have hcs' : (Value.slice a0 n0 c0) = .slice none 0 0 := by injection hcs2
    exact ⟨none, 0, [], hcs', .inl rfl, by simp⟩
  · have hcs2 : [Value.slice a0 n0 c0] = [.slice (some a) len cap] := hcs
    have hcs' : (Value.slice a0 n0 c0) = .slice (some a) len cap := by injection hcs2
    have hmc : m = cap := by simpa using hmm
    subst hmc
    rw [cellsEnt] at hcell
    have hd : d = .slice ((List.range len).map D) ((List.range (m - len)).map fun j => D (len + j)) := congrArg Prod.fst hx
    rw [hd] at hw
    obtain ⟨hw1, hw2⟩ := weights_slice Tryz.underlying23 hw
    rw [bytesEnt] at hw1
    have hrb := reachBytes_lt
    simp only [List.length_map, List.length_range] at hw1
    obtain ⟨rs, hrl, hrs⟩ := pick_list (len := len) (p := fun i (y : Ent) => ∃ (a1 : Option Addr) (c1 : Nat) (a2 : Option Addr) (c2 : Nat) (a3 : Option Addr) (c3 : Nat), (W.cell? ((a.add (i * 7)).add 0) = some (.string y.key) ∧ W.cell? ((a.add (i * 7)).add 1) = some (.int .i64 y.item.k) ∧ W.cell? ((a.add (i * 7)).add 2) = some (.string y.item.t) ∧ W.cell? ((a.add (i * 7)).add 3) = some (.slice a1 y.item.l.length c1) ∧ W.cell? ((a.add (i * 7)).add 4) = some (.slice a2 y.item.p.length c2) ∧ W.cell? ((a.add (i * 7)).add 5) = some (.slice a3 y.item.s.length c3) ∧ W.cell? ((a.add (i * 7)).add 6) = some (.int .i64 y.til)) ∧
        ItemIs W (.agg #[.int .i64 y.item.k, .string y.item.t, .slice a1 y.item.l.length c1, .slice a2 y.item.p.length c2, .slice a3 y.item.s.length c3]) y.item) (fun i hi => by
      obtain ⟨cs', hc, hdd⟩ := hcell i (by omega)
      obtain ⟨hcl, _, hg⟩ := World.cells?_some hc
      obtain ⟨y, a1, p1, a2, p2, a3, p3, e1, hI⟩ := entry_cells hdd (hw2 _ (List.mem_map.2 ⟨i, List.mem_range.2 hi, rfl⟩))
      subst e1
      exact ⟨y, a1, p1, a2, p2, a3, p3, ⟨hg 0 (by omega), hg 1 (by omega), hg 2 (by omega), hg 3 (by omega), hg 4 (by omega), hg 5 (by omega), hg 6 (by omega)⟩, hI⟩)
    subst hrl
    refine ⟨some a, m, rs, hcs', ?_, by omega⟩
    by_cases h0 : rs = []
    · exact .inl h0
    · have hpos : 0 < rs.length := List.length_pos_iff.2 h0
      obtain ⟨q1, q2, q3, q4, q5, q6, ⟨z0, -, -, -, -, -, -⟩, -⟩ := hrs 0 hpos
      obtain ⟨b, off, rfl⟩ := plain_addr (by have e := spot_none z0; simpa [Addr.add] using e : a.spot = none)
      refine .inr ⟨b, off, rfl, fun i hi => ?_⟩
      obtain ⟨q1, q2, q3, q4, q5, q6, ⟨g0, g1, g2, g3, g4, g5, g6⟩, hI⟩ := hrs i hi
      rw [plus_at, plus_at] at g0 g1 g2 g3 g4 g5 g6
      exact ⟨q1, q2, q3, q4, q5, q6, ⟨g0, g1, g2, g3, g4, g5, g6⟩, hI⟩
end
end Go.Proofs.YtmaancidkpfopaaGreatDoor

