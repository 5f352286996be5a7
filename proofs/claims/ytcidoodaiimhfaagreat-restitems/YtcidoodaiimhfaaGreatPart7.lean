/- Part 7 of what the proof leans on: Set5, Set6, Set8, SBeg, RSom, RNo, RAs, RLst5, QCon, IOpen. -/
import Derived.Test.YtcidoodaiimhfaaGreatPart6
import Derived.Test.YtcidoodaiimhfaaGreatPart3
import Derived.BigRegion
import Derived.Deep.RegionHeld3
import Derived.Handy
import Derived.Maps.Own
import Derived.Maps.OwnOps
import Derived.Maps.Views
import Derived.StringKeys
import Derived.Maps.OwnSet
import Derived.Maps.RangeWalk
import Derived.Sort.KeysCollected
import Derived.Deep.RegionLaw
import Derived.Test.YtcidoodaiimhfaaGreatPart1
import Derived.Test.YtcidoodaiimhfaaGreatPart2
import Derived.Test.YtcidoodaiimhfaaGreatPart4
import Derived.Test.YtcidoodaiimhfaaGreatPart5
import Derived.Test.YtcidoodaiimhfaaGreatRows
import Derived.ProofKit
import Derived.OpenShut
import Derived.Deep.Slices
import Derived.SizedLaws
/- WALK of Add of sets. -/
namespace Go.Proofs.YtcidoodaiimhfaaGreat
open Go.RowKit

/-- what Add answers -/
def addE (x : Itm) (l : List ByteArray) : Int := if asI x 3 ≠ 0 then asI x 3 else if 24 < (addT x.l l).length ∨ l.any longT = true then 2 else if l = [] then 1 else 0
def addI (x : Itm) (l : List ByteArray) : Itm := if addE x l = 0 then kindI 3 (addT x.l l) else Itm.none
def addN (x : Itm) (l : List ByteArray) : Int := if addE x l = 0 then (((addT x.l l).length : Nat) : Int) - ((x.l.length : Nat) : Int) else 0
theorem comp_sort (l m : List ByteArray) (h : Rises l) : compL (sortL (l ++ m)) = addT l m := by
  unfold compL sortL
  rw [bytes_texts]
  exact compact_all_is l m h
set_option maxRecDepth 100000 in
set_option maxHeartbeats 4000000 in
theorem setAdd_own (v : Value) (x : Itm) (al : Option Addr) (cl : Nat) (l : List ByteArray) (w : World) (h : ItemIs w v x) (hl : TextsAt w al l) (hlz : ∀ t ∈ l, t.size ≤ maxLen) (hll : l.length ≤ 1500000) :
    Calls Tryz.prog 38 #[v, .slice al l.length cl] w fun e w' => ∃ u, e = .returned (.tuple #[u, .int .i64 (addN x l), .int .i64 (addE x l)]) ∧ ItemOwn w.heap.size w' u (addI x l) ∧ Below w.heap.size w w' := by
  have HC : Hid (∀ W, Below w.heap.size w W → Calls Tryz.prog 85 #[v, .int .i64 3] W fun e w' => e = .returned (.int .i64 (asI x 3)) ∧ Below W.heap.size W w') := fun W hW => common_any v x 3 W (h.below hW)
  obtain ⟨⟨a1, c1, a2, c2, a3, c3, rfl, hx1, -, -⟩, tz, lz, -, -, -, -, -⟩ := h
  by_cases h0 : asI x 3 = 0
  · obtain ⟨hrise, hx24, hx60⟩ := asI_set h0
    rw [h0] at HC
    have HX := hide hx1
    have HL := hide hl
    have HZ : Hid (∀ t ∈ addT x.l l, t.size ≤ maxLen) := fun t ht => by
      rcases mem_addT.1 ht with h1 | h1
      · exact lz t h1
      · exact hlz t h1
    have HKL : Hid (∀ W, Below w.heap.size w W → Calls Tryz.prog 86 #[.slice al l.length cl, .func (.func 87) #[] #[]] W fun e w' => e = .returned (.bool (l.any longT)) ∧ Below W.heap.size W w') := fun W hW => containsPushLong_any al cl l W (HL.out.below hW) (by omega)
    have HCAT : Hid (∀ W g, Below w.heap.size w W → W.cell? ⟨g, 0, none⟩ = some (.slice a1 x.l.length c1) → W.cell? ⟨g, 1, none⟩ = some (.slice al l.length cl) → Calls Tryz.prog 94 #[.slice (some ⟨g, 0, none⟩) 2 2] W fun e w' => ∃ a' cap, e = .returned (.slice a' (x.l ++ l).length cap) ∧ Below W.heap.size W w' ∧ Calls Tryz.prog 95 #[.slice a' (x.l ++ l).length cap] w' fun e w'' => e = .returned (.tuple #[]) ∧ Below W.heap.size W w'' ∧ Calls Tryz.prog 96 #[.slice a' (x.l ++ l).length cap] w'' fun e w3 => e = .returned (.slice a' (addT x.l l).length cap) ∧ Below W.heap.size W w3 ∧ (∀ W', (∀ g o u, W.heap.size ≤ g → w3.cell? ⟨g, o, none⟩ = some u → w3.frozen? ⟨g, o, none⟩ = false → W'.cell? ⟨g, o, none⟩ = some u) → TextsAt W' a' (addT x.l l))) := fun W g hW q0 q1 => by
      refine (concatS_any g a1 al c1 cl x.l l W q0 q1 (HX.out.below hW) (HL.out.below hW) (by omega)).mono ?_
      rintro e w' ⟨a', cap, h1, h2, h3⟩
      refine ⟨a', cap, h1, h2, ?_⟩
      refine (sort_any a' cap (x.l ++ l) W w' h2 h3 (by rw [List.length_append]; omega)).mono ?_
      rintro e w'' ⟨h4, h5, h6⟩
      refine ⟨h4, h5, ?_⟩
      have hcc := compact_any a' cap (x.l ++ l).length (sortL (x.l ++ l)) W w'' h5 (fun hne => h6 (fun e => hne (by rw [e]; simp [sortL, bytesL, textsL]))) (by rw [sortL_len, List.length_append]; omega) (sortL_len _)
      rw [comp_sort _ _ hrise] at hcc
      exact hcc
    have hkl := addT_len x.l l
    have HBX' : True := trivial
    clear hx1 hl lz hlz HX HL hrise hx60 HBX'
    by_cases h24 : 24 < (addT x.l l).length
    · have hE : addE x l = 2 := by rw [addE, if_neg (by simp [h0]), if_pos (.inl h24)]
      rw [addN, addI, hE, if_neg (by decide), if_neg (by decide)]
      have h24' : (24 : Int) < (((addT x.l l).length : Nat) : Int) := by omega
      clear hE h0 HZ HKL
      generalize addT x.l l = K at *
      generalize (x.l ++ l).length = NL at *
      generalize x.l.length = n1 at *
      generalize x.t = t at *
      generalize x.k = k at *
      generalize x.p.length = n2 at *
      generalize x.s.length = n3 at *
      go_enter Tryz.func38, Tryz.ntmps38
      go_wp2_with fail
      refine (HC.out _ (((Below.refl _ w).alloc (Nat.le_refl _) _).alloc (by simp) _)).mono ?_
      rintro e w1 ⟨rfl, hb1⟩
      obtain ⟨hc, hf⟩ := bcell hb1
      have hz : w.heap.size + 1 < w1.heap.size := by have := hb1.size; simp at this; omega
      have y0 : w.heap.size < w1.heap.size := by omega
      have hB1 : Below w.heap.size w w1 := (((Below.refl _ w).alloc (Nat.le_refl _) _).alloc (by simp) _).trans (hb1.mono (by simp; omega))
      go_wp2_with fail
      have HBX : Hid (∀ W, Below w1.heap.size w1 W → (W.cell? ⟨w.heap.size + 1, 0, none⟩ = some (.int .i64 0) ∧ W.cell? ⟨w.heap.size + 1, 1, none⟩ = some (.string ⟨#[]⟩) ∧ W.cell? ⟨w.heap.size + 1, 2, none⟩ = some (.slice none 0 0) ∧ W.cell? ⟨w.heap.size + 1, 3, none⟩ = some (.slice none 0 0) ∧ W.cell? ⟨w.heap.size + 1, 4, none⟩ = some (.slice none 0 0)) ∧ (∀ j, W.frozen? ⟨w.heap.size + 1, j, none⟩ = false) ∧ W.cell? ⟨w.heap.size, 2, none⟩ = some (.slice a1 n1 c1)) := fun W hW =>
        ⟨⟨(hW.cell (p := ⟨w.heap.size + 1, 0, none⟩) hz).trans ((hc _ _ (by simp)).trans (by simp [go_sem])), (hW.cell (p := ⟨w.heap.size + 1, 1, none⟩) hz).trans ((hc _ _ (by simp)).trans (by simp [go_sem])), (hW.cell (p := ⟨w.heap.size + 1, 2, none⟩) hz).trans ((hc _ _ (by simp)).trans (by simp [go_sem])), (hW.cell (p := ⟨w.heap.size + 1, 3, none⟩) hz).trans ((hc _ _ (by simp)).trans (by simp [go_sem])), (hW.cell (p := ⟨w.heap.size + 1, 4, none⟩) hz).trans ((hc _ _ (by simp)).trans (by simp [go_sem]))⟩, fun j => (hW.frozen (p := ⟨w.heap.size + 1, j, none⟩) hz).trans ((hf _ _ (by simp)).trans (by simp [go_sem])), (hW.cell (p := ⟨w.heap.size, 2, none⟩) y0).trans ((hc _ _ (by simp; omega)).trans (by simp [go_sem]))⟩
      generalize hW2 : World.alloc w1 _ = W2
      have B12 : Below w1.heap.size w1 W2 := by rw [← hW2]; exact (Below.refl _ _).alloc (Nat.le_refl _) _
      have q0 : W2.cell? ⟨w1.heap.size, 0, none⟩ = some (.slice a1 n1 c1) := by rw [← hW2]; simp [go_sem]
      have q1 : W2.cell? ⟨w1.heap.size, 1, none⟩ = some (.slice al l.length cl) := by rw [← hW2]; simp [go_sem]
      have zz2 : w1.heap.size < W2.heap.size := by rw [← hW2]; simp
      clear hW2
      refine (HCAT.out W2 w1.heap.size (hB1.trans (B12.mono hB1.size)) q0 q1).mono ?_
      rintro e w3 ⟨a', cap, rfl, hb3, hs3⟩
      have HS3 := hide hs3
      clear hs3 HCAT q0 q1
      go_wp2_with fail
      refine HS3.out.mono ?_
      rintro e w4 ⟨rfl, hb4, hs4⟩
      have HS4 := hide hs4
      clear hs4 HS3 hb3
      go_wp2_with fail
      refine HS4.out.mono ?_
      rintro e w5 ⟨rfl, hb5, hT5⟩
      have HT5 := hide hT5
      have hb5' : Below w1.heap.size w1 w5 := B12.trans (hb5.mono B12.size)
      have zz5 := hb5.size
      clear hT5 HS4 hb4
      have hzB := hB1.size
      obtain ⟨⟨r0, r1, r2, r3, r4⟩, fz, x2⟩ := HBX.out w5 hb5'
      have fz0 := fz 0
      have fz1 := fz 1
      have fz2 := fz 2
      have fz3 := fz 3
      have fz4 := fz 4
      go_wp2_with fail
      refine bodyPost_ret (v := .tuple #[.agg #[.int .i64 0, .string ⟨#[]⟩, .slice none 0 0, .slice none 0 0, .slice none 0 0], .int .i64 0, .int .i64 2]) (by simp [results, Tryz.results38, go_sem, r0, r1, r2, r3, r4]) rfl ⟨_, rfl, fun w'' _ => zero_is w'', ?_⟩
      have hbb := hB1.trans (hb5'.mono hB1.size)
      go_grown
    · have h24' : ¬ (24 : Int) < (((addT x.l l).length : Nat) : Int) := by omega
      by_cases hlong : l.any longT = true
      · have hE : addE x l = 2 := by rw [addE, if_neg (by simp [h0]), if_pos (.inr hlong)]
        rw [addN, addI, hE, if_neg (by decide), if_neg (by decide)]
        rw [hlong] at HKL
        clear hE h0 HZ hlong
        generalize addT x.l l = K at *
        generalize (x.l ++ l).length = NL at *
        generalize x.l.length = n1 at *
        generalize x.t = t at *
        generalize x.k = k at *
        generalize x.p.length = n2 at *
        generalize x.s.length = n3 at *
        go_enter Tryz.func38, Tryz.ntmps38
        go_wp2_with fail
        refine (HC.out _ (((Below.refl _ w).alloc (Nat.le_refl _) _).alloc (by simp) _)).mono ?_
        rintro e w1 ⟨rfl, hb1⟩
        obtain ⟨hc, hf⟩ := bcell hb1
        have hz : w.heap.size + 1 < w1.heap.size := by have := hb1.size; simp at this; omega
        have y0 : w.heap.size < w1.heap.size := by omega
        have hB1 : Below w.heap.size w w1 := (((Below.refl _ w).alloc (Nat.le_refl _) _).alloc (by simp) _).trans (hb1.mono (by simp; omega))
        go_wp2_with fail
        have HBX : Hid (∀ W, Below w1.heap.size w1 W → (W.cell? ⟨w.heap.size + 1, 0, none⟩ = some (.int .i64 0) ∧ W.cell? ⟨w.heap.size + 1, 1, none⟩ = some (.string ⟨#[]⟩) ∧ W.cell? ⟨w.heap.size + 1, 2, none⟩ = some (.slice none 0 0) ∧ W.cell? ⟨w.heap.size + 1, 3, none⟩ = some (.slice none 0 0) ∧ W.cell? ⟨w.heap.size + 1, 4, none⟩ = some (.slice none 0 0)) ∧ (∀ j, W.frozen? ⟨w.heap.size + 1, j, none⟩ = false) ∧ W.cell? ⟨w.heap.size, 2, none⟩ = some (.slice a1 n1 c1)) := fun W hW =>
          ⟨⟨(hW.cell (p := ⟨w.heap.size + 1, 0, none⟩) hz).trans ((hc _ _ (by simp)).trans (by simp [go_sem])), (hW.cell (p := ⟨w.heap.size + 1, 1, none⟩) hz).trans ((hc _ _ (by simp)).trans (by simp [go_sem])), (hW.cell (p := ⟨w.heap.size + 1, 2, none⟩) hz).trans ((hc _ _ (by simp)).trans (by simp [go_sem])), (hW.cell (p := ⟨w.heap.size + 1, 3, none⟩) hz).trans ((hc _ _ (by simp)).trans (by simp [go_sem])), (hW.cell (p := ⟨w.heap.size + 1, 4, none⟩) hz).trans ((hc _ _ (by simp)).trans (by simp [go_sem]))⟩, fun j => (hW.frozen (p := ⟨w.heap.size + 1, j, none⟩) hz).trans ((hf _ _ (by simp)).trans (by simp [go_sem])), (hW.cell (p := ⟨w.heap.size, 2, none⟩) y0).trans ((hc _ _ (by simp; omega)).trans (by simp [go_sem]))⟩
        generalize hW2 : World.alloc w1 _ = W2
        have B12 : Below w1.heap.size w1 W2 := by rw [← hW2]; exact (Below.refl _ _).alloc (Nat.le_refl _) _
        have q0 : W2.cell? ⟨w1.heap.size, 0, none⟩ = some (.slice a1 n1 c1) := by rw [← hW2]; simp [go_sem]
        have q1 : W2.cell? ⟨w1.heap.size, 1, none⟩ = some (.slice al l.length cl) := by rw [← hW2]; simp [go_sem]
        have zz2 : w1.heap.size < W2.heap.size := by rw [← hW2]; simp
        clear hW2
        refine (HCAT.out W2 w1.heap.size (hB1.trans (B12.mono hB1.size)) q0 q1).mono ?_
        rintro e w3 ⟨a', cap, rfl, hb3, hs3⟩
        have HS3 := hide hs3
        clear hs3 HCAT q0 q1
        go_wp2_with fail
        refine HS3.out.mono ?_
        rintro e w4 ⟨rfl, hb4, hs4⟩
        have HS4 := hide hs4
        clear hs4 HS3 hb3
        go_wp2_with fail
        refine HS4.out.mono ?_
        rintro e w5 ⟨rfl, hb5, hT5⟩
        have HT5 := hide hT5
        have hb5' : Below w1.heap.size w1 w5 := B12.trans (hb5.mono B12.size)
        have zz5 := hb5.size
        clear hT5 HS4 hb4
        go_wp2_with fail
        refine (HKL.out _ (hB1.trans (hb5'.mono hB1.size))).mono ?_
        rintro e w6 ⟨rfl, hb6⟩
        have hb6' : Below w1.heap.size w1 w6 := hb5'.trans (hb6.mono hb5'.size)
        have hzB := hB1.size
        obtain ⟨⟨r0, r1, r2, r3, r4⟩, fz, x2⟩ := HBX.out w6 hb6'
        have fz0 := fz 0
        have fz1 := fz 1
        have fz2 := fz 2
        have fz3 := fz 3
        have fz4 := fz 4
        go_wp2_with fail
        refine bodyPost_ret (v := .tuple #[.agg #[.int .i64 0, .string ⟨#[]⟩, .slice none 0 0, .slice none 0 0, .slice none 0 0], .int .i64 0, .int .i64 2]) (by simp [results, Tryz.results38, go_sem, r0, r1, r2, r3, r4]) rfl ⟨_, rfl, fun w'' _ => zero_is w'', ?_⟩
        have hbb := hB1.trans (hb6'.mono hB1.size)
        go_grown
      · have hlong' : l.any longT = false := by simpa using hlong
        rw [hlong'] at HKL
        by_cases hne : l = []
        · have hE : addE x l = 1 := by rw [addE, if_neg (by simp [h0]), if_neg (by simp [h24, hlong']), if_pos hne]
          rw [addN, addI, hE, if_neg (by decide), if_neg (by decide)]
          have hl0 : l.length = 0 := by rw [hne]; rfl
          clear hE h0 HZ hlong hlong' hne
          generalize addT x.l l = K at *
          generalize (x.l ++ l).length = NL at *
          generalize l.length = nl at *
          subst hl0
          generalize x.l.length = n1 at *
          generalize x.t = t at *
          generalize x.k = k at *
          generalize x.p.length = n2 at *
          generalize x.s.length = n3 at *
          go_enter Tryz.func38, Tryz.ntmps38
          go_wp2_with fail
          refine (HC.out _ (((Below.refl _ w).alloc (Nat.le_refl _) _).alloc (by simp) _)).mono ?_
          rintro e w1 ⟨rfl, hb1⟩
          obtain ⟨hc, hf⟩ := bcell hb1
          have hz : w.heap.size + 1 < w1.heap.size := by have := hb1.size; simp at this; omega
          have y0 : w.heap.size < w1.heap.size := by omega
          have hB1 : Below w.heap.size w w1 := (((Below.refl _ w).alloc (Nat.le_refl _) _).alloc (by simp) _).trans (hb1.mono (by simp; omega))
          go_wp2_with fail
          have HBX : Hid (∀ W, Below w1.heap.size w1 W → (W.cell? ⟨w.heap.size + 1, 0, none⟩ = some (.int .i64 0) ∧ W.cell? ⟨w.heap.size + 1, 1, none⟩ = some (.string ⟨#[]⟩) ∧ W.cell? ⟨w.heap.size + 1, 2, none⟩ = some (.slice none 0 0) ∧ W.cell? ⟨w.heap.size + 1, 3, none⟩ = some (.slice none 0 0) ∧ W.cell? ⟨w.heap.size + 1, 4, none⟩ = some (.slice none 0 0)) ∧ (∀ j, W.frozen? ⟨w.heap.size + 1, j, none⟩ = false) ∧ W.cell? ⟨w.heap.size, 2, none⟩ = some (.slice a1 n1 c1)) := fun W hW =>
            ⟨⟨(hW.cell (p := ⟨w.heap.size + 1, 0, none⟩) hz).trans ((hc _ _ (by simp)).trans (by simp [go_sem])), (hW.cell (p := ⟨w.heap.size + 1, 1, none⟩) hz).trans ((hc _ _ (by simp)).trans (by simp [go_sem])), (hW.cell (p := ⟨w.heap.size + 1, 2, none⟩) hz).trans ((hc _ _ (by simp)).trans (by simp [go_sem])), (hW.cell (p := ⟨w.heap.size + 1, 3, none⟩) hz).trans ((hc _ _ (by simp)).trans (by simp [go_sem])), (hW.cell (p := ⟨w.heap.size + 1, 4, none⟩) hz).trans ((hc _ _ (by simp)).trans (by simp [go_sem]))⟩, fun j => (hW.frozen (p := ⟨w.heap.size + 1, j, none⟩) hz).trans ((hf _ _ (by simp)).trans (by simp [go_sem])), (hW.cell (p := ⟨w.heap.size, 2, none⟩) y0).trans ((hc _ _ (by simp; omega)).trans (by simp [go_sem]))⟩
          generalize hW2 : World.alloc w1 _ = W2
          have B12 : Below w1.heap.size w1 W2 := by rw [← hW2]; exact (Below.refl _ _).alloc (Nat.le_refl _) _
          have q0 : W2.cell? ⟨w1.heap.size, 0, none⟩ = some (.slice a1 n1 c1) := by rw [← hW2]; simp [go_sem]
          have q1 : W2.cell? ⟨w1.heap.size, 1, none⟩ = some (.slice al 0 cl) := by rw [← hW2]; simp [go_sem]
          have zz2 : w1.heap.size < W2.heap.size := by rw [← hW2]; simp
          clear hW2
          refine (HCAT.out W2 w1.heap.size (hB1.trans (B12.mono hB1.size)) q0 q1).mono ?_
          rintro e w3 ⟨a', cap, rfl, hb3, hs3⟩
          have HS3 := hide hs3
          clear hs3 HCAT q0 q1
          go_wp2_with fail
          refine HS3.out.mono ?_
          rintro e w4 ⟨rfl, hb4, hs4⟩
          have HS4 := hide hs4
          clear hs4 HS3 hb3
          go_wp2_with fail
          refine HS4.out.mono ?_
          rintro e w5 ⟨rfl, hb5, hT5⟩
          have HT5 := hide hT5
          have hb5' : Below w1.heap.size w1 w5 := B12.trans (hb5.mono B12.size)
          have zz5 := hb5.size
          clear hT5 HS4 hb4
          go_wp2_with fail
          refine (HKL.out _ (hB1.trans (hb5'.mono hB1.size))).mono ?_
          rintro e w6 ⟨rfl, hb6⟩
          have hb6' : Below w1.heap.size w1 w6 := hb5'.trans (hb6.mono hb5'.size)
          have hzB := hB1.size
          obtain ⟨⟨r0, r1, r2, r3, r4⟩, fz, x2⟩ := HBX.out w6 hb6'
          have fz0 := fz 0
          have fz1 := fz 1
          have fz2 := fz 2
          have fz3 := fz 3
          have fz4 := fz 4
          go_wp2_with fail
          refine bodyPost_ret (v := .tuple #[.agg #[.int .i64 0, .string ⟨#[]⟩, .slice none 0 0, .slice none 0 0, .slice none 0 0], .int .i64 0, .int .i64 1]) (by simp [results, Tryz.results38, go_sem, r0, r1, r2, r3, r4]) rfl ⟨_, rfl, fun w'' _ => zero_is w'', ?_⟩
          have hbb := hB1.trans (hb6'.mono hB1.size)
          go_grown
        · have hE : addE x l = 0 := by rw [addE, if_neg (by simp [h0]), if_neg (by simp [h24, hlong']), if_neg hne]
          rw [addN, addI, hE, if_pos rfl, if_pos rfl]
          have hl0 : ¬ ((l.length : Nat) : Int) = 0 := fun e => hne (List.eq_nil_of_length_eq_zero (by omega))
          clear hE h0 hlong hlong' hne
          generalize addT x.l l = K at *
          generalize (x.l ++ l).length = NL at *
          generalize x.l.length = n1 at *
          generalize x.t = t at *
          generalize x.k = k at *
          generalize x.p.length = n2 at *
          generalize x.s.length = n3 at *
          go_enter Tryz.func38, Tryz.ntmps38
          go_wp2_with fail
          refine (HC.out _ (((Below.refl _ w).alloc (Nat.le_refl _) _).alloc (by simp) _)).mono ?_
          rintro e w1 ⟨rfl, hb1⟩
          obtain ⟨hc, hf⟩ := bcell hb1
          have hz : w.heap.size + 1 < w1.heap.size := by have := hb1.size; simp at this; omega
          have y0 : w.heap.size < w1.heap.size := by omega
          have hB1 : Below w.heap.size w w1 := (((Below.refl _ w).alloc (Nat.le_refl _) _).alloc (by simp) _).trans (hb1.mono (by simp; omega))
          go_wp2_with fail
          have HBX : Hid (∀ W, Below w1.heap.size w1 W → (W.cell? ⟨w.heap.size + 1, 0, none⟩ = some (.int .i64 0) ∧ W.cell? ⟨w.heap.size + 1, 1, none⟩ = some (.string ⟨#[]⟩) ∧ W.cell? ⟨w.heap.size + 1, 2, none⟩ = some (.slice none 0 0) ∧ W.cell? ⟨w.heap.size + 1, 3, none⟩ = some (.slice none 0 0) ∧ W.cell? ⟨w.heap.size + 1, 4, none⟩ = some (.slice none 0 0)) ∧ (∀ j, W.frozen? ⟨w.heap.size + 1, j, none⟩ = false) ∧ W.cell? ⟨w.heap.size, 2, none⟩ = some (.slice a1 n1 c1)) := fun W hW =>
            ⟨⟨(hW.cell (p := ⟨w.heap.size + 1, 0, none⟩) hz).trans ((hc _ _ (by simp)).trans (by simp [go_sem])), (hW.cell (p := ⟨w.heap.size + 1, 1, none⟩) hz).trans ((hc _ _ (by simp)).trans (by simp [go_sem])), (hW.cell (p := ⟨w.heap.size + 1, 2, none⟩) hz).trans ((hc _ _ (by simp)).trans (by simp [go_sem])), (hW.cell (p := ⟨w.heap.size + 1, 3, none⟩) hz).trans ((hc _ _ (by simp)).trans (by simp [go_sem])), (hW.cell (p := ⟨w.heap.size + 1, 4, none⟩) hz).trans ((hc _ _ (by simp)).trans (by simp [go_sem]))⟩, fun j => (hW.frozen (p := ⟨w.heap.size + 1, j, none⟩) hz).trans ((hf _ _ (by simp)).trans (by simp [go_sem])), (hW.cell (p := ⟨w.heap.size, 2, none⟩) y0).trans ((hc _ _ (by simp; omega)).trans (by simp [go_sem]))⟩
          generalize hW2 : World.alloc w1 _ = W2
          have B12 : Below w1.heap.size w1 W2 := by rw [← hW2]; exact (Below.refl _ _).alloc (Nat.le_refl _) _
          have q0 : W2.cell? ⟨w1.heap.size, 0, none⟩ = some (.slice a1 n1 c1) := by rw [← hW2]; simp [go_sem]
          have q1 : W2.cell? ⟨w1.heap.size, 1, none⟩ = some (.slice al l.length cl) := by rw [← hW2]; simp [go_sem]
          have zz2 : w1.heap.size < W2.heap.size := by rw [← hW2]; simp
          clear hW2
          refine (HCAT.out W2 w1.heap.size (hB1.trans (B12.mono hB1.size)) q0 q1).mono ?_
          rintro e w3 ⟨a', cap, rfl, hb3, hs3⟩
          have HS3 := hide hs3
          clear hs3 HCAT q0 q1
          go_wp2_with fail
          refine HS3.out.mono ?_
          rintro e w4 ⟨rfl, hb4, hs4⟩
          have HS4 := hide hs4
          clear hs4 HS3 hb3
          go_wp2_with fail
          refine HS4.out.mono ?_
          rintro e w5 ⟨rfl, hb5, hT5⟩
          have HT5 := hide hT5
          have hb5' : Below w1.heap.size w1 w5 := B12.trans (hb5.mono B12.size)
          have zz5 := hb5.size
          clear hT5 HS4 hb4
          go_wp2_with fail
          refine (HKL.out _ (hB1.trans (hb5'.mono hB1.size))).mono ?_
          rintro e w6 ⟨rfl, hb6⟩
          have hb6' : Below w1.heap.size w1 w6 := hb5'.trans (hb6.mono hb5'.size)
          have z6 := hb6.size
          obtain ⟨fk, fa, fn, fc, ho, hi⟩ := setOf_item (p := fun W' => ∀ g o u, W2.heap.size ≤ g → w6.cell? ⟨g, o, none⟩ = some u → w6.frozen? ⟨g, o, none⟩ = false → W'.cell? ⟨g, o, none⟩ = some u) (cp := cap) (fun W' hW' => HT5.out W' (fun g o u hg hu hf => hW' g o u hg ((hb6.cell (p := ⟨g, o, none⟩) (World.block_lt_of_cell? _ _ hu)).trans hu) ((hb6.frozen (p := ⟨g, o, none⟩) (World.block_lt_of_cell? _ _ hu)).trans hf))) HZ.out (by omega)
          have HO := hide ho
          have HI := hide hi
          clear ho hi HT5 HZ HC HKL
          go_wp2_with fail
          obtain ⟨-, -, x2⟩ := HBX.out w6 hb6'
          have hbd : Below w1.heap.size w1 w6.drew := hb6'.drew
          have nn1 : w6.heap.size ≠ w.heap.size + 1 := by omega
          have nn2 : w.heap.size + 1 ≠ w6.heap.size := by omega
          have nn3 : w.heap.size ≠ w.heap.size + 1 := by omega
          have nn4 : w.heap.size + 1 ≠ w.heap.size := by omega
          have nn5 : ¬ w.heap.size = w.heap.size + 1 := by omega
          have hwr := wrap_small (((K.length : Nat) : Int) - ((n1 : Nat) : Int)) (by omega) (by omega)
          have hzl := hb6'.size
          have hz1 := hB1.size
          clear hc hf hb1
          go_region_held3 (fun w' => w'.cell? ⟨w.heap.size, 2, none⟩ = some (.slice a1 n1 c1)) (go_keep)
            ((go_at_call 97; refine (HO.out _).mono ?_; rintro e w9 ⟨rfl, hb9⟩; have hb9' : Below w1.heap.size w1 w9 := hbd.trans (hb9.mono hzl); obtain ⟨⟨b0, b1, b2, b3, b4⟩, fz, x3⟩ := HBX.out w9 hb9'; have fz0 := fz 0; have fz1 := fz 1; have fz2 := fz 2; have fz3 := fz 3; have fz4 := fz 4))
          all_goals
            go_wp2_with fail
            refine bodyPost_ret (v := .tuple #[.agg #[.int .i64 fk, .string ⟨#[]⟩, .slice fa fn fc, .slice none 0 0, .slice none 0 0], .int .i64 (((K.length : Nat) : Int) - ((n1 : Nat) : Int)), .int .i64 0]) (by simp [results, Tryz.results38, go_sem, b0, b1, b2, b3, b4]) rfl ⟨_, rfl, ?_, ?_⟩
            · exact fun w'' hw => HI.out w'' (fun g' o' u' hg hu hf => hw g' o' u' (by omega) ((five_apart w9 (w.heap.size + 1) _ _ _ _ _ g' o' (by omega)).trans ((hb9.cell (p := ⟨g', o', none⟩) (World.block_lt_of_cell? w6 _ hu)).trans hu)) (by simp only [World.frozen?_setCell]; exact (hb9.frozen (p := ⟨g', o', none⟩) (World.block_lt_of_cell? w6 _ hu)).trans hf))
            · have hb9'' := hB1.trans (hb9'.mono hz1)
              go_grown
  · have hE : addE x l = asI x 3 := by rw [addE, if_pos h0]
    rw [addN, addI, hE, if_neg h0, if_neg h0]
    have h0' : (asI x 3 == 0) = false := by rw [beq_eq_false_iff_ne]; exact h0
    clear hx1 hl hE
    generalize asI x 3 = E at *
    generalize x.l.length = n1 at *
    generalize x.t = t at *
    generalize x.k = k at *
    generalize x.p.length = n2 at *
    generalize x.s.length = n3 at *
    go_enter Tryz.func38, Tryz.ntmps38
    go_wp2_with fail
    refine (HC.out _ (((Below.refl _ w).alloc (Nat.le_refl _) _).alloc (by simp) _)).mono ?_
    rintro e w1 ⟨rfl, hb1⟩
    obtain ⟨hc, hf⟩ := bcell hb1
    have hz : w.heap.size + 1 < w1.heap.size := by have := hb1.size; simp at this; omega
    have y0 : w.heap.size < w1.heap.size := by omega
    have hB1 : Below w.heap.size w w1 := (((Below.refl _ w).alloc (Nat.le_refl _) _).alloc (by simp) _).trans (hb1.mono (by simp; omega))
    go_wp2_with fail
    refine bodyPost_ret (v := .tuple #[.agg #[.int .i64 0, .string ⟨#[]⟩, .slice none 0 0, .slice none 0 0, .slice none 0 0], .int .i64 0, .int .i64 E]) (by simp [results, Tryz.results38, go_sem, hc]) rfl ⟨_, rfl, fun w'' _ => zero_is w'', ?_⟩
    go_grown
theorem setAdd_any (v : Value) (x : Itm) (al : Option Addr) (cl : Nat) (l : List ByteArray) (w : World) (h : ItemIs w v x) (hl : TextsAt w al l) (hlz : ∀ t ∈ l, t.size ≤ maxLen) (hll : l.length ≤ 1500000) :
    Calls Tryz.prog 38 #[v, .slice al l.length cl] w fun e w' => ∃ u, e = .returned (.tuple #[u, .int .i64 (addN x l), .int .i64 (addE x l)]) ∧ ItemFrom w.heap.size w' u (addI x l) ∧ Below w.heap.size w w' :=
  (setAdd_own v x al cl l w h hl hlz hll).mono fun _ _ ⟨u, he, hi, hb⟩ => ⟨u, he, hi.from, hb⟩
end Go.Proofs.YtcidoodaiimhfaaGreat

/- Many sets as plain data; how often each member is met; items that lie side by side. -/
namespace Go.Proofs.YtcidoodaiimhfaaGreat
open Go.RowKit Go.Maps Go.WideMaps

/-- how many of the lists have it -/
def cntL (ls : List (List ByteArray)) (s : ByteArray) : Nat := (ls.filter fun l => hasT l s).length
theorem bytesL_append (l m : List ByteArray) : bytesL (l ++ m) = bytesL l ++ bytesL m := by simp [bytesL]
theorem count_bytes (l : List ByteArray) (s : ByteArray) (h : l.Nodup) : (bytesL l).count s.data.toList = if hasT l s = true then 1 else 0 := by
  induction l with
  | nil => rfl
  | cons a r ih =>
    have hn := List.nodup_cons.1 h
    have e : bytesL (a :: r) = a.data.toList :: bytesL r := rfl
    rw [e, List.count_cons, ih hn.2]
    by_cases hs : a = s
    · subst hs
      have h1 : hasT r a = false := hasT_not hn.1
      have h2 : hasT (a :: r) a = true := hasT_iff.2 (by simp)
      simp [h1, h2]
    · have hs' : ¬ a.data.toList = s.data.toList := fun e => hs (bytes_eq e)
      have h3 : hasT (a :: r) s = hasT r s := by
        rw [Bool.eq_iff_iff, hasT_iff, hasT_iff, List.mem_cons]
        exact ⟨fun h => by rcases h with h | h; exact absurd h.symm hs; exact h, .inr⟩
      have h4 : (a.data.toList == s.data.toList) = false := by rw [beq_eq_false_iff_ne]; exact hs'
      rw [h3, h4]
      rfl
theorem count_flat (ls : List (List ByteArray)) (s : ByteArray) (h : ∀ l ∈ ls, Rises l) : (bytesL ls.flatten).count s.data.toList = cntL ls s := by
  induction ls with
  | nil => rfl
  | cons l r ih =>
    rw [List.flatten_cons, bytesL_append, List.count_append, ih (fun m hm => h m (by simp [hm])), count_bytes l s (h l (by simp)).nodup, cntL, cntL, List.filter_cons]
    split
    · simp only [List.length_cons]
      omega
    · omega
/-- the members that are asked for, rising -/
def thoseL (p : ByteArray → Nat → Bool) (ls : List (List ByteArray)) : List ByteArray := addT [] (ls.flatten.filter fun s => p s (cntL ls s))
theorem thoseL_rises (p : ByteArray → Nat → Bool) (ls : List (List ByteArray)) : Rises (thoseL p ls) := rises_addT List.Pairwise.nil
theorem mem_thoseL {p : ByteArray → Nat → Bool} {ls : List (List ByteArray)} {s : ByteArray} : s ∈ thoseL p ls ↔ (∃ l ∈ ls, s ∈ l) ∧ p s (cntL ls s) = true := by
  unfold thoseL
  rw [mem_addT, List.mem_filter, List.mem_flatten]
  simp
/-- the error of items, one by one -/
def setsE : List Itm → Int
  | [] => 0
  | x :: r => if asI x 3 ≠ 0 then asI x 3 else setsE r
def setsF (xs : List Itm) : Int := if xs = [] then 1 else setsE xs
theorem setsE_all {xs : List Itm} (h : ∀ x ∈ xs, asI x 3 = 0) : setsE xs = 0 := by
  induction xs with
  | nil => rfl
  | cons x r ih => rw [setsE, if_neg (by simp [h x (by simp)])]; exact ih (fun y hy => h y (by simp [hy]))
theorem setsE_at {xs : List Itm} {k : Nat} (hk : k < xs.length) (h : ∀ x ∈ xs.take k, asI x 3 = 0) (he : asI xs[k] 3 ≠ 0) : setsE xs = asI xs[k] 3 := by
  induction xs generalizing k with
  | nil => simp at hk
  | cons x r ih =>
    cases k with
    | zero => rw [setsE]; exact if_pos he
    | succ k =>
      rw [setsE, if_neg (by simp [h x (by simp)])]
      exact ih (by simpa using hk) (fun y hy => h y (by simp [hy])) he
/-- what the map holds: of each member how often it was met -/
structure Counts (D : DataW Unit) (ms : List ByteArray) : Prop where
  at_ : ∀ x : List UInt8, D.atKey (.string x) (.lit (.int .i64 0)) = .lit (.int .i64 (((bytesL ms).count x : Nat) : Int))
  has_ : ∀ x : List UInt8, Maps.has D (.string x) = true ↔ x ∈ bytesL ms
theorem Counts.start : Counts (.map []) [] := ⟨fun _ => rfl, fun x => by simp [Maps.has, bytesL]⟩
theorem Counts.step {D : DataW Unit} {ms : List ByteArray} (h : Counts D ms) (hm : IsMap D) (s : ByteArray) : Counts (D.put (.string s.data.toList) (.lit (.int .i64 (((bytesL ms).count s.data.toList : Nat) + 1 : Int)))) (ms ++ [s]) := by
  have e : bytesL (ms ++ [s]) = bytesL ms ++ [s.data.toList] := by simp [bytesL]
  refine ⟨fun x => ?_, fun x => ?_⟩
  · rw [e, List.count_append]
    by_cases hx : x = s.data.toList
    · subst hx
      rw [atKey_put_same hm (k := .string _) (by trivial)]
      simp
    · rw [atKey_put_other (by intro e; injection e with e; exact hx e), h.at_]
      have : [s.data.toList].count x = 0 := List.count_eq_zero.2 (by simpa using hx)
      rw [this]
      simp
  · rw [e, List.mem_append]
    by_cases hx : x = s.data.toList
    · subst hx
      rw [has_put_same hm (k := .string _) (by trivial)]
      simp
    · rw [has_put_other (by intro e; injection e with e; exact hx e), h.has_]
      simp [hx]
/-- items that lie side by side -/
def ItemsAt (w : World) (a : Option Addr) (xs : List Itm) : Prop :=
  xs = [] ∨ ∃ g o, a = some ⟨g, o, none⟩ ∧ ∀ i (h : i < xs.length), ∃ a1 c1 a2 c2 a3 c3, (w.cell? ⟨g, o + i * 5, none⟩ = some (.int .i64 xs[i].k) ∧ w.cell? ⟨g, o + i * 5 + 1, none⟩ = some (.string xs[i].t) ∧ w.cell? ⟨g, o + i * 5 + 2, none⟩ = some (.slice a1 xs[i].l.length c1) ∧ w.cell? ⟨g, o + i * 5 + 3, none⟩ = some (.slice a2 xs[i].p.length c2) ∧ w.cell? ⟨g, o + i * 5 + 4, none⟩ = some (.slice a3 xs[i].s.length c3)) ∧ ItemIs w (.agg #[.int .i64 xs[i].k, .string xs[i].t, .slice a1 xs[i].l.length c1, .slice a2 xs[i].p.length c2, .slice a3 xs[i].s.length c3]) xs[i]
theorem ItemsAt.below {w w' : World} {a : Option Addr} {xs : List Itm} (h : ItemsAt w a xs) (hb : Below w.heap.size w w') : ItemsAt w' a xs := by
  have hm : ∀ g o v, w.cell? ⟨g, o, none⟩ = some v → w'.cell? ⟨g, o, none⟩ = some v := fun g o v hv => (hb.cell (p := ⟨g, o, none⟩) (World.block_lt_of_cell? _ _ hv)).trans hv
  rcases h with h | ⟨g, o, ha, hc⟩
  · exact .inl h
  · refine .inr ⟨g, o, ha, fun i hi => ?_⟩
    obtain ⟨a1, c1, a2, c2, a3, c3, ⟨h0, h1, h2, h3, h4⟩, h5⟩ := hc i hi
    exact ⟨a1, c1, a2, c2, a3, c3, ⟨hm _ _ _ h0, hm _ _ _ h1, hm _ _ _ h2, hm _ _ _ h3, hm _ _ _ h4⟩, h5.below hb⟩
theorem lawS : Keyed Tryz.prog 9 := string_keyed Tryz.underlying9
theorem zeroI (w : World) : (zeroValue 3).run Tryz.prog w = .ok (.int .i64 0) w := by kernel_rfl
theorem keyS {s : ByteArray} (h : s.size ≤ maxLen) : keyOf Tryz.prog 9 (.string s) = some (.string s.data.toList) := keyOf_string_mk Tryz.underlying9 h
/-- of what was met, what is asked for -/
def askL (p : ByteArray → Nat → Bool) (ls : List (List ByteArray)) (ss : List (List UInt8)) : List ByteArray := (textsL ss).filter fun s => p s (cntL ls s)
theorem askL_len (p : ByteArray → Nat → Bool) (ls : List (List ByteArray)) (ss : List (List UInt8)) : (askL p ls ss).length ≤ ss.length := by
  have := List.length_filter_le (fun s => p s (cntL ls s)) (textsL ss)
  simpa [askL, textsL] using this
theorem askL_yes {p : ByteArray → Nat → Bool} {ls : List (List ByteArray)} {ss : List (List UInt8)} {s : ByteArray} {x : List UInt8} (hx : s = ⟨x.toArray⟩) (h : p s (cntL ls s) = true) : askL p ls (ss ++ [x]) = askL p ls ss ++ [s] := by
  subst hx
  simp [askL, textsL, h]
theorem askL_no {p : ByteArray → Nat → Bool} {ls : List (List ByteArray)} {ss : List (List UInt8)} {s : ByteArray} {x : List UInt8} (hx : s = ⟨x.toArray⟩) (h : p s (cntL ls s) = false) : askL p ls (ss ++ [x]) = askL p ls ss := by
  subst hx
  simp [askL, textsL, h]
theorem askL_end {p : ByteArray → Nat → Bool} {ls : List (List ByteArray)} {ss : List (List UInt8)} (hn : ss.Nodup) (hm : ∀ x, x ∈ ss ↔ x ∈ bytesL ls.flatten) : sortL (askL p ls ss) = thoseL p ls := by
  have hnd : (askL p ls ss).Nodup := by
    refine List.Pairwise.filter _ ?_
    unfold textsL
    rw [List.pairwise_map]
    exact hn.imp (fun h e => h (by injection e with e; exact List.toArray_inj e))
  obtain ⟨h1, h2⟩ := sorted_once hnd
  refine rises_unique h1 (thoseL_rises p ls) (fun x => ?_)
  rw [sortL, h2, askL, List.mem_filter, mem_textsL, hm, mem_bytesL, mem_thoseL]
  have e : (⟨x.data.toList.toArray⟩ : ByteArray) = x := by cases x; simp
  rw [e, List.mem_flatten]
/-- a range over the map is under way -/
structure RngAt (p : ByteArray → Nat → Bool) (ls : List (List ByteArray)) (w : World) (r N : Nat) (D : DataW Unit) (left : Lit → Bool) (cnt : Nat) (ss : List (List UInt8)) (v : Value) (wr : World) : Prop where
  rg : wr.ranges Tryz.prog 9 (plainElem Tryz.prog 3) w.heap.size r N D left cnt
  ct : ss.length + cnt ≤ Maps.size D
  rw : wr.ownsRow r 9 1 v (askL p ls ss).length (strs (askL p ls ss))
  cl : Collected D left ss
  bl : Below w.heap.size w wr
theorem grown_none {w w' : World} (h : Below w.heap.size w w') : w.grownBy w' none := ⟨h.os, h.tape, h.output, h.size, fun j hj _ => h.block j hj⟩
/-- so many items have been looked at -/
structure ThoseAt (xs : List Itm) (w : World) (k : Nat) (D : DataW Unit) (wr : World) : Prop where
  g : ∀ x ∈ xs.take k, asI x 3 = 0
  d : Counts D ((xs.take k).map Itm.l).flatten
  o : wr.ownsMap Tryz.prog 9 (plainElem Tryz.prog 3) w.heap.size ((xs.take k).map Itm.l).flatten.length D
  b : Below w.heap.size w wr
end Go.Proofs.YtcidoodaiimhfaaGreat

/- WALKS of Meet, Join, Less of sets. -/
namespace Go.Proofs.YtcidoodaiimhfaaGreat
open Go.RowKit Go.Maps Go.WideMaps Go.Sort

theorem flat_small : ∀ ys : List Itm, (∀ y ∈ ys, y.l.length ≤ 24) → (ys.map Itm.l).flatten.length ≤ 24 * ys.length
  | [], _ => by simp
  | y :: r, h => by
    have h1 := h y (by simp)
    have h2 := flat_small r (fun z hz => h z (by simp [hz]))
    simp only [List.map_cons, List.flatten_cons, List.length_append, List.length_cons]
    omega
set_option maxRecDepth 100000 in
set_option maxHeartbeats 4000000 in
theorem thoseM_some (b : Nat) (p : ByteArray → Nat → Bool) (a : Option Addr) (c : Nat) (xs : List Itm) (w : World) (hx : ItemsAt w a xs) (hne : xs ≠ []) (hxl : xs.length ≤ 1500000) (HSUM : Hid ((xs.map Itm.l).flatten.length ≤ 1500000 ∨ xs.length ≤ 50000)) (SE : Int) (TL : List ByteArray) (HS : Hid (SE = setsE xs ∧ TL = if setsE xs = 0 then thoseL p (xs.map Itm.l) else []))
    (HA : Hid (∀ W m (n : Nat), Below w.heap.size w W → Calls Tryz.prog 103 #[.string m, .int .i64 n, .pointer (some ⟨b, 0, none⟩)] W fun e w' => e = .returned (.bool (p m n)) ∧ Below W.heap.size W w')) :
    Calls Tryz.prog 102 #[.slice a xs.length c, .func (.func 103) #[] #[.pointer (some ⟨b, 0, none⟩)]] w fun e w' => ∃ a' cap, e = .returned (.tuple #[.slice a' TL.length cap, .int .i64 SE]) ∧ (∀ W, (∀ g o u, w.heap.size ≤ g → w'.cell? ⟨g, o, none⟩ = some u → w'.frozen? ⟨g, o, none⟩ = false → W.cell? ⟨g, o, none⟩ = some u) → TextsAt W a' TL) ∧ Below w.heap.size w w' := by
  have hmm := @run_makeMap Tryz.prog
  obtain ⟨g, o, rfl, hc⟩ := hx.resolve_left hne
  have HX := hide hc
  have hpos : 0 < xs.length := List.length_pos_iff.2 hne
  have hpos' : ¬ ((xs.length : Nat) : Int) = 0 := by omega
  clear hc hne hx
  go_enter Tryz.func102, Tryz.ntmps102
  go_wp2_with fail
  have hwW : Hid (Below w.heap.size w (w.alloc (.map #[] 0))) := (Below.refl _ w).alloc (Nat.le_refl _) _
  go_loopw [21] (fun i wr => ∃ (k : Nat) (D : DataW Unit), k ≤ xs.length ∧ i = .int .i64 k ∧ ThoseAt xs w k D wr) (fun i _ => xs.length - (intOf i).toNat)
  case atStart => exact ⟨0, .map [], by omega, rfl, ⟨fun x hx => by simp at hx, Counts.start, World.ownsMap_made _ _ _ _, hwW.out⟩⟩
  case round =>
    obtain ⟨k, D, hk, rfl, hTA⟩ := hrel
    have HG := hide hTA.g
    have HD := hide hTA.d
    have hown := hTA.o
    have hnx := hTA.b
    clear hTA
    have hzr := hnx.size
    by_cases hlt : k < xs.length
    · have hlt' : ((k : Nat) : Int) < ((xs.length : Nat) : Int) := by omega
      obtain ⟨a1, c1, a2, c2, a3, c3, ⟨e0, e1, e2, e3, e4⟩, hI⟩ := HX.out k hlt
      have HI := hide hI
      have HBC : Hid (∀ g o v, w.cell? ⟨g, o, none⟩ = some v → wr.cell? ⟨g, o, none⟩ = some v) := fun g o _ hv => (hnx.cell (p := ⟨g, o, none⟩) (World.block_lt_of_cell? _ _ hv)).trans hv
      have d0 := HBC.out _ _ _ e0
      have d1 := HBC.out _ _ _ e1
      have d2 := HBC.out _ _ _ e2
      have d3 := HBC.out _ _ _ e3
      have d4 := HBC.out _ _ _ e4
      have HC : Hid (∀ W, Below w.heap.size w W → Calls Tryz.prog 85 #[.agg #[.int .i64 xs[k].k, .string xs[k].t, .slice a1 xs[k].l.length c1, .slice a2 xs[k].p.length c2, .slice a3 xs[k].s.length c3], .int .i64 3] W fun e w' => e = .returned (.int .i64 (asI xs[k] 3)) ∧ Below W.heap.size W w') := fun W hW => common_any _ xs[k] 3 W (HI.out.below hW)
      have HTK : Hid (xs.take (k + 1) = xs.take k ++ [xs[k]]) := List.take_succ_eq_append_getElem hlt
      obtain ⟨X, hX⟩ : ∃ X, X = xs[k] := ⟨_, rfl⟩
      rw [← hX] at d0 d1 d2 d3 d4 HC HTK HI
      have HXX := hide hX
      clear hX e0 e1 e2 e3 e4 hI HBC
      have hXL : Hid (asI X 3 = 0 → Rises X.l ∧ X.l.length ≤ 24 ∧ (∀ t ∈ X.l, t.size ≤ 60)) := asI_set
      obtain ⟨hT1, hTn⟩ : TextsAt w a1 X.l ∧ X.l.length ≤ 281474976710656 := by
        obtain ⟨⟨b1, q1, b2, q2, b3, q3, e, t1, -, -⟩, -, -, -, -, hl1, -, -⟩ := HI.out
        injection e with e
        have e' := congrArg (fun z => z[2]?) e
        simp at e'
        obtain ⟨rfl, _⟩ := e'
        exact ⟨t1, hl1⟩
      have HT1 := hide hT1
      clear hT1 HI
      generalize hXl : X.l = L at *
      have HXl := hide hXl
      clear hXl
      obtain ⟨E, hE⟩ : ∃ E, E = asI X 3 := ⟨_, rfl⟩
      rw [← hE] at HC hXL
      have HE := hide hE
      clear hE
      go_wp2_with fail
      refine (HC.out _ (hnx.alloc hnx.size _)).mono ?_
      rintro e w1 ⟨rfl, hb1⟩
      have hB1 : Below w.heap.size w w1 := (hnx.alloc hnx.size _).trans (hb1.mono (by simp; omega))
      have hg1 : wr.grownBy w1 none := (World.grownBy_alloc wr _ none).trans ⟨hb1.os, hb1.tape, hb1.output, hb1.size, fun j hj _ => hb1.block j hj⟩
      have hown1 := hown.kept hg1 (by simp)
      have bx2 : w1.cell? ⟨wr.heap.size, 2, none⟩ = some (.slice a1 L.length c1) := (hb1.cell (p := ⟨wr.heap.size, 2, none⟩) (by simp)).trans (by simp [go_sem])
      clear hown hg1 hb1 d0 d1 d2 d3 d4 HC hwW hmm
      by_cases h0 : E = 0
      · obtain ⟨hri, h24, h60⟩ := hXL.out h0
        have HZ : Hid (∀ t ∈ L, t.size ≤ maxLen) := fun t ht => by have := h60 t ht; unfold maxLen; omega
        have HE0 : Hid (asI X 3 = 0) := HE.out.symm.trans h0
        subst h0
        clear hXL h60 HE
        have hpl : ((xs.take k).map Itm.l).flatten.length + L.length ≤ 1500000 := by
          rcases HSUM.out with hsum | hx5
          rotate_left
          · have h1 := flat_small (xs.take k) (fun y hy => (asI_set (HG.out y hy)).2.1)
            rw [List.length_take] at h1
            omega
          have h1 : ((xs.take (k + 1)).map Itm.l).flatten.length ≤ (xs.map Itm.l).flatten.length := by
            have e : xs.map Itm.l = (xs.take (k + 1)).map Itm.l ++ (xs.drop (k + 1)).map Itm.l := by rw [← List.map_append, List.take_append_drop]
            rw [e, List.flatten_append, List.length_append]
            omega
          rw [HTK.out, List.map_append, List.flatten_append, List.length_append] at h1
          have e9 : (([X].map Itm.l).flatten).length = L.length := by simp [HXl.out]
          rw [e9] at h1
          omega
        generalize hpre : ((xs.take k).map Itm.l).flatten = pre at *
        have HPRE := hide hpre
        clear hpre
        go_wp2_with fail
        go_loopw [33] (fun i wr => ∃ (m : Nat) (D : DataW Unit), m ≤ L.length ∧ i = .int .i64 m ∧ Hid (Counts D (pre ++ L.take m)) ∧ wr.ownsMap Tryz.prog 9 (plainElem Tryz.prog 3) w.heap.size (pre.length + m) D ∧ Below w.heap.size w wr) (fun i _ => L.length - (intOf i).toNat)
        case atStart => exact ⟨0, D, by omega, rfl, by rw [List.take_zero, List.append_nil]; exact HD.out, hown1, hB1⟩
        case round =>
          clear hown1 bx2 HD D
          obtain ⟨m, D, hm, rfl, HD, hown, hnx2⟩ := hrel
          by_cases hmt : m < L.length
          · have hmt' : ((m : Nat) : Int) < ((L.length : Nat) : Int) := by omega
            obtain ⟨g1, o1, rfl, hcs⟩ : ∃ g o, a1 = some ⟨g, o, none⟩ ∧ ∀ i (h : i < L.length), w.cell? ⟨g, o + i, none⟩ = some (.string L[i]) := by
              rcases HT1.out with h | h
              · subst h; simp at hmt
              · exact h
            have d0 : wr.cell? ⟨g1, o1 + m, none⟩ = some (.string L[m]) := (hnx2.cell (p := ⟨g1, o1 + m, none⟩) (World.block_lt_of_cell? _ _ (hcs m hmt))).trans (hcs m hmt)
            have HTM : Hid (pre ++ L.take (m + 1) = (pre ++ L.take m) ++ [L[m]]) := by rw [Hid, List.take_succ_eq_append_getElem hmt, List.append_assoc]
            have hsz : L[m].size ≤ maxLen := HZ.out _ (List.getElem_mem _)
            obtain ⟨s, hs⟩ : ∃ s, s = L[m] := ⟨_, rfl⟩
            rw [← hs] at d0 HTM hsz
            have hkey := keyS hsz
            clear hs hcs
            go_wp2_with (first
              | (at_lookup; refine wpList_lookup_own_int _ rfl _ _ 175 rfl 9 3 .i64 lawS Tryz.underlying175 Tryz.underlying3 (zeroI _) w.heap.size (pre.length + m) D rfl hown _ _ rfl hkey ?_; intro cc hat hwc)
              | (at_mapUpdate; refine wpList_mapUpdate_own _ rfl _ _ _ 175 rfl 9 3 lawS Tryz.underlying175 _ w.heap.size (pre.length + m) D rfl hown (by unfold maxLen; omega) _ _ _ rfl rfl hkey _ [] (plainElem_int Tryz.underlying3 (wrap64_wf _)) ?_))
            intro w5 hown5 hg5
            have B5 := hnx2.grown hg5 hnx2.size (fun j hj => by cases hj; exact Nat.le_refl _)
            have hcc : cc = (((bytesL (pre ++ L.take m)).count s.data.toList : Nat) : Int) := by
              have h1 := HD.out.at_ s.data.toList
              rw [h1] at hat
              injection hat with hat
              injection hat with _ hat
              exact hat.symm
            have hcl : (bytesL (pre ++ L.take m)).count s.data.toList ≤ 1500000 := by
              have h1 := List.count_le_length (a := s.data.toList) (l := bytesL (pre ++ L.take m))
              rw [bytesL_len, List.length_append, List.length_take] at h1
              omega
            have HC5 : Hid (Counts (D.put (.string s.data.toList) (.lit (.int .i64 (wrap64 (cc + 1))))) (pre ++ L.take (m + 1))) := by
              rw [HTM.out]
              have e : wrap64 (cc + 1) = (((bytesL (pre ++ L.take m)).count s.data.toList : Nat) : Int) + 1 := by rw [hcc]; unfold wrap64; omega
              rw [e]
              exact HD.out.step hown.isMap s
            clear hown hat hwc hcc hcl d0 hkey hg5
            go_wp2_with fail
            go_roundw
            case rel => exact ⟨m + 1, _, by omega, by go_num, HC5, hown5, B5⟩
            case measure => simp [intOf]; omega
          · have hge : ¬ ((m : Nat) : Int) < ((L.length : Nat) : Int) := by omega
            obtain rfl : m = L.length := by omega
            go_wp2_with fail
            have e2 : ((xs.take (k + 1)).map Itm.l).flatten = pre ++ L := by
              rw [HTK.out, List.map_append, List.flatten_append, HPRE.out]
              simp [HXl.out]
            refine ⟨⟨_, _, _, _, _, .int .i64 (((k : Nat) : Int) + 1), ⟨k + 1, by omega, by simp, D, ?_, ?_, ?_, hnx2⟩, rfl, rfl, rfl, rfl, rfl, rfl⟩, by simp [intOf]; omega⟩
            · rw [HTK.out]
              intro x hx
              rcases List.mem_append.1 hx with hx | hx
              · exact HG.out x hx
              · rw [List.mem_singleton.1 hx]; exact HE0.out
            · rw [e2]
              have := HD.out
              rw [List.take_length] at this
              exact this
            · rw [e2, List.length_append]
              exact hown
      · have h0' : (E == 0) = false := by rw [beq_eq_false_iff_ne]; exact h0
        go_wp2_with fail
        have hse : setsE xs = E := by
          have h1 := setsE_at hlt HG.out (by rw [← HXX.out, ← HE.out]; exact h0)
          rw [h1, ← HXX.out, ← HE.out]
        refine bodyPost_ret (v := .tuple #[.slice none 0 0, .int .i64 E]) (by simp [results, Tryz.results102, go_sem]) rfl ?_
        have e1 : SE = E := HS.out.1.trans hse
        have e2 : TL = [] := by rw [HS.out.2, hse, if_neg h0]
        rw [e1, e2]
        exact ⟨none, 0, rfl, fun W _ => .inl rfl, hB1⟩
    · have hge : ¬ ((k : Nat) : Int) < ((xs.length : Nat) : Int) := by omega
      obtain rfl : k = xs.length := by omega
      rw [List.take_length] at HG HD hown
      have hSE : SE = 0 := HS.out.1.trans (setsE_all HG.out)
      have HTL : Hid (TL = thoseL p (xs.map Itm.l)) := by rw [Hid, HS.out.2, if_pos (setsE_all HG.out)]
      have HR : Hid (∀ l ∈ xs.map Itm.l, Rises l) := fun l hl => by
        obtain ⟨y, hy, rfl⟩ := List.mem_map.1 hl
        exact (asI_set (HG.out y hy)).1
      have HZL : Hid (∀ l ∈ xs.map Itm.l, ∀ t ∈ l, t.size ≤ 60) := fun l hl => by
        obtain ⟨y, hy, rfl⟩ := List.mem_map.1 hl
        exact (asI_set (HG.out y hy)).2.2
      subst hSE
      have hsum : (xs.map Itm.l).flatten.length ≤ 1500000 := by
        rcases HSUM.out with hsum | hx5
        · exact hsum
        · have h1 := flat_small xs (fun y hy => (asI_set (HG.out y hy)).2.1)
          omega
      clear HS HG HX hwW hmm HSUM
      generalize hls : xs.map Itm.l = ls at *
      clear hls
      obtain ⟨i0, hi, hz0, hz1, hz2⟩ := info_parts infoStr
      have hsD : Maps.size D ≤ 1500000 := Nat.le_trans hown.size_le hsum
      have hmbl := hown.lt
      generalize ls.flatten.length = NN at *
      obtain ⟨wq, hwq⟩ : ∃ wq, wq = wr := ⟨wr, rfl⟩
      subst hwq
      go_wp2_with (at_range; refine wpList_range_own _ rfl _ 175 rfl 9 3 lawS Tryz.underlying175 _ w.heap.size NN D rfl hown ?_; intro w0 hrg0 hg0 hs0)
      have B0 : Below w.heap.size w w0 := hnx.grown hg0 hnx.size (fun j hj => by cases hj)
      clear hg0 hs0
      go_loopw [12] (fun v wr => ∃ left cnt ss, RngAt p ls w wq.heap.size NN D left cnt ss v wr) (fun _ wr => wr.rangeLeft w.heap.size wq.heap.size)
      case atStart => exact ⟨_, _, [], ⟨hrg0, by simp, World.ownsRow_nil _ _ _ _, Collected.start D, B0⟩⟩
      case round =>
        clear hrg0 B0
        obtain ⟨left, cnt, ss, hR⟩ := hrel
        have hrg := hR.rg
        have HRR := hide hR
        clear hR
        go_wp2_with (at_next; refine wpList_next_ranges _ rfl _ rfl 9 lawS (plainElem Tryz.prog 3) encStr (Value.int .i64) (fun key kl hk => by obtain ⟨x, hx, _⟩ := Maps.keyOf_str Tryz.underlying9 hk; exact ⟨x, hx⟩) (fun v y hv => by obtain ⟨c, rfl, _⟩ := plainElem_int_inv Tryz.underlying3 hv; exact ⟨c, rfl⟩) w.heap.size wq.heap.size NN _ _ _ rfl hrg ?_ ?_)
        · intro hc0 hl0
          obtain ⟨av, cv, hav⟩ := slice_own HRR.out.rw
          subst hav
          have hal := askL_len p ls ss
          have hct := HRR.out.ct
          have HSO := hide (sort_any av cv (askL p ls ss) w wr HRR.out.bl (fun hne => by
            obtain ⟨gg, cc, e, _, _⟩ := HRR.out.rw.form (List.length_pos_iff.2 hne)
            injection e with e1 e2 e3
            subst e1
            exact ⟨gg, rfl, own_low HRR.out.rw (Nat.le_of_lt hmbl)⟩) (by omega))
          have HEND : Hid (sortL (askL p ls ss) = TL) := by
            rw [Hid, HTL.out]
            refine askL_end HRR.out.cl.1 (fun x => ?_)
            rw [HRR.out.cl.2 x, hl0, ← HD.out.has_]
            simp
          have hTll : TL.length = (askL p ls ss).length := by rw [← HEND.out, sortL_len]
          clear hrg HRR
          generalize askL p ls ss = ML at *
          go_wp2_with fail
          refine HSO.out.mono ?_
          rintro e w4 ⟨rfl, hb4, hr4⟩
          have HR4 := hide hr4
          clear hr4 HSO
          go_wp2_with fail
          refine bodyPost_ret (v := .tuple #[.slice av ML.length cv, .int .i64 0]) (by simp [results, Tryz.results102, go_sem]) rfl ⟨av, cv, by rw [hTll], fun W hW => ?_, hb4⟩
          by_cases hML : ML = []
          · refine .inl (List.eq_nil_of_length_eq_zero ?_)
            rw [hTll, hML]
            rfl
          · obtain ⟨gg, rfl, ho⟩ := HR4.out hML
            rw [HEND.out, ← hTll] at ho
            exact texts_ownF ho hW
        · intro x c kl yd yp w2 cnt2 hkey hlk hv hat hrg2 hlt2 hg2 hs2 hen
          obtain ⟨x', ex, rfl, hxl⟩ := Maps.keyOf_str Tryz.underlying9 hkey
          obtain rfl : x = x' := encStr_inj ex
          have hcn : c = ((cntL ls ⟨x.toArray⟩ : Nat) : Int) := by
            obtain ⟨a, h1, h2, _⟩ := plainElem_int_inv Tryz.underlying3 hv
            injection h1 with _ h1
            have h3 := hat (.lit (.int .i64 0))
            rw [HD.out.at_ x] at h3
            have h4 := count_flat ls ⟨x.toArray⟩ HR.out
            rw [show (ByteArray.mk x.toArray).data.toList = x by simp] at h4
            rw [h4] at h3
            injection h2 with h2 _
            rw [h2] at h3
            injection h3 with h3
            injection h3 with _ h3
            rw [h1, ← h3]
          obtain ⟨s, hs⟩ : ∃ s : ByteArray, s = ⟨x.toArray⟩ := ⟨_, rfl⟩
          have HXS := hide hs
          have exs : (encStr x : Value) = .string s := by rw [hs]
          rw [← hs] at hcn
          obtain ⟨n, hn⟩ : ∃ n, n = cntL ls s := ⟨_, rfl⟩
          rw [← hn] at hcn
          have HN := hide hn
          subst hcn
          have hrow2 := HRR.out.rw.kept hg2 (Or.inr (row_ne_iter HRR.out.rw hrg).symm)
          have hbl := HRR.out.bl
          have hzb := hbl.size
          have hrl := hrg.lt
          have hB2 : Below w.heap.size w w2 := hbl.grown hg2 hbl.size (fun j hj => by cases hj; exact Nat.le_of_lt hmbl)
          have hzz2 := hg2.size
          have hct := HRR.out.ct
          have hal := askL_len p ls ss
          have HCS := hide (HRR.out.cl.step hlk hat)
          have hleft := hrg.left_eq
          have HLE := hide hleft
          rw [exs] at hen
          clear hs hn hs2 hrg HRR hkey hv hat ex hg2 hlk hleft hbl
          rw [exs]
          clear exs hxl
          go_wp2_with fail
          refine (HA.out w2 s n hB2).mono ?_
          rintro e w3 ⟨rfl, hb3⟩
          have hrg3 := hrg2.kept (grown_none hb3) (by simp) (by simp)
          have hrow3 := (Kept.of_below hb3 (fun _ => False)).owns hrow2 (fun _ _ e => e)
          have hB3 : Below w.heap.size w w3 := hB2.trans (hb3.mono hB2.size)
          have hz3 := hb3.size
          clear hrg2 hrow2 hb3 hB2
          cases hp : p s n with
          | true =>
            have HP : Hid (p s (cntL ls s) = true) := by rw [Hid, ← HN.out]; exact hp
            clear hp
            go_wp2_with (at_builtin; refine wpList_append_own _ rfl _ _ 24 rfl wq.heap.size 9 i0 (.string ⟨#[]⟩) 1 16 Tryz.underlying24 hi hz0 hz1 hz2 rfl (by decide) _ _ _ rfl (hrow3.alloc _) ⟨w3.heap.size, 0, none⟩ 1 1 [.string s] rfl rfl ?c1 ?c2 ?c3 ?c4 ?c5 ?_)
            case c1 =>
              intro j u hj
              match j, hj with
              | 0, hj => simp at hj; subst hj; simp [Addr.add]
            case c2 => intro u hu; simp at hu; subst hu; rfl
            case c3 => unfold maxLen; omega
            case c4 => omega
            case c5 => simp; omega
            intro v' w4 hown4 hg4 _
            have hrg4 := (hrg3.alloc (.cells #[.string s] 9)).kept hg4 (row_ne_low hrow3 hmbl) (row_ne_iter hrow3 hrg3)
            have hB4 : Below w.heap.size w w4 := (hB3.alloc hB3.size _).grown hg4 (by simp; omega) (fun j hj => by have := (hrow3.lt j hj).1; omega)
            have HR4 : Hid (RngAt p ls w wq.heap.size NN D (fun z => left z && !z.sameKey (.string x)) cnt2 (ss ++ [x]) v' w4) := ⟨hrg4, by rw [List.length_append]; simp; omega, by rw [askL_yes HXS.out HP.out, List.length_append]; simpa [strs] using hown4, HCS.out, hB4⟩
            have hle4 := hrg4.left_eq
            clear hrow3 hrg3 hown4 hg4 hB3 hrg4 hB4
            go_wp2_with fail
            go_roundw
            case rel => exact ⟨_, cnt2, ss ++ [x], HR4.out⟩
            case measure => rw [hle4, HLE.out]; exact hlt2
          | false =>
            have HP : Hid (p s (cntL ls s) = false) := by rw [Hid, ← HN.out]; exact hp
            clear hp
            have hrow4 := hrow3
            rw [← askL_no (ss := ss) HXS.out HP.out] at hrow4
            have HR4 := hide (RngAt.mk (ss := ss ++ [x]) hrg3 (by rw [List.length_append]; simp; omega) hrow4 HCS.out hB3)
            clear hrow4
            have hle4 := hrg3.left_eq
            clear hrow3 hrg3 hB3
            go_wp2_with fail
            go_roundw
            case rel => exact ⟨_, cnt2, ss ++ [x], HR4.out⟩
            case measure => rw [hle4, HLE.out]; exact hlt2
set_option maxRecDepth 100000 in
set_option maxHeartbeats 4000000 in
theorem thoseJ_some (p : ByteArray → Nat → Bool) (a : Option Addr) (c : Nat) (xs : List Itm) (w : World) (hx : ItemsAt w a xs) (hne : xs ≠ []) (hxl : xs.length ≤ 1500000) (HSUM : Hid ((xs.map Itm.l).flatten.length ≤ 1500000 ∨ xs.length ≤ 50000)) (SE : Int) (TL : List ByteArray) (HS : Hid (SE = setsE xs ∧ TL = if setsE xs = 0 then thoseL p (xs.map Itm.l) else []))
    (HA : Hid (∀ W m (n : Nat), Below w.heap.size w W → Calls Tryz.prog 104 #[.string m, .int .i64 n] W fun e w' => e = .returned (.bool (p m n)) ∧ Below W.heap.size W w')) :
    Calls Tryz.prog 102 #[.slice a xs.length c, .func (.func 104) #[] #[]] w fun e w' => ∃ a' cap, e = .returned (.tuple #[.slice a' TL.length cap, .int .i64 SE]) ∧ (∀ W, (∀ g o u, w.heap.size ≤ g → w'.cell? ⟨g, o, none⟩ = some u → w'.frozen? ⟨g, o, none⟩ = false → W.cell? ⟨g, o, none⟩ = some u) → TextsAt W a' TL) ∧ Below w.heap.size w w' := by
  have hmm := @run_makeMap Tryz.prog
  obtain ⟨g, o, rfl, hc⟩ := hx.resolve_left hne
  have HX := hide hc
  have hpos : 0 < xs.length := List.length_pos_iff.2 hne
  have hpos' : ¬ ((xs.length : Nat) : Int) = 0 := by omega
  clear hc hne hx
  go_enter Tryz.func102, Tryz.ntmps102
  go_wp2_with fail
  have hwW : Hid (Below w.heap.size w (w.alloc (.map #[] 0))) := (Below.refl _ w).alloc (Nat.le_refl _) _
  go_loopw [21] (fun i wr => ∃ (k : Nat) (D : DataW Unit), k ≤ xs.length ∧ i = .int .i64 k ∧ ThoseAt xs w k D wr) (fun i _ => xs.length - (intOf i).toNat)
  case atStart => exact ⟨0, .map [], by omega, rfl, ⟨fun x hx => by simp at hx, Counts.start, World.ownsMap_made _ _ _ _, hwW.out⟩⟩
  case round =>
    obtain ⟨k, D, hk, rfl, hTA⟩ := hrel
    have HG := hide hTA.g
    have HD := hide hTA.d
    have hown := hTA.o
    have hnx := hTA.b
    clear hTA
    have hzr := hnx.size
    by_cases hlt : k < xs.length
    · have hlt' : ((k : Nat) : Int) < ((xs.length : Nat) : Int) := by omega
      obtain ⟨a1, c1, a2, c2, a3, c3, ⟨e0, e1, e2, e3, e4⟩, hI⟩ := HX.out k hlt
      have HI := hide hI
      have HBC : Hid (∀ g o v, w.cell? ⟨g, o, none⟩ = some v → wr.cell? ⟨g, o, none⟩ = some v) := fun g o _ hv => (hnx.cell (p := ⟨g, o, none⟩) (World.block_lt_of_cell? _ _ hv)).trans hv
      have d0 := HBC.out _ _ _ e0
      have d1 := HBC.out _ _ _ e1
      have d2 := HBC.out _ _ _ e2
      have d3 := HBC.out _ _ _ e3
      have d4 := HBC.out _ _ _ e4
      have HC : Hid (∀ W, Below w.heap.size w W → Calls Tryz.prog 85 #[.agg #[.int .i64 xs[k].k, .string xs[k].t, .slice a1 xs[k].l.length c1, .slice a2 xs[k].p.length c2, .slice a3 xs[k].s.length c3], .int .i64 3] W fun e w' => e = .returned (.int .i64 (asI xs[k] 3)) ∧ Below W.heap.size W w') := fun W hW => common_any _ xs[k] 3 W (HI.out.below hW)
      have HTK : Hid (xs.take (k + 1) = xs.take k ++ [xs[k]]) := List.take_succ_eq_append_getElem hlt
      obtain ⟨X, hX⟩ : ∃ X, X = xs[k] := ⟨_, rfl⟩
      rw [← hX] at d0 d1 d2 d3 d4 HC HTK HI
      have HXX := hide hX
      clear hX e0 e1 e2 e3 e4 hI HBC
      have hXL : Hid (asI X 3 = 0 → Rises X.l ∧ X.l.length ≤ 24 ∧ (∀ t ∈ X.l, t.size ≤ 60)) := asI_set
      obtain ⟨hT1, hTn⟩ : TextsAt w a1 X.l ∧ X.l.length ≤ 281474976710656 := by
        obtain ⟨⟨b1, q1, b2, q2, b3, q3, e, t1, -, -⟩, -, -, -, -, hl1, -, -⟩ := HI.out
        injection e with e
        have e' := congrArg (fun z => z[2]?) e
        simp at e'
        obtain ⟨rfl, _⟩ := e'
        exact ⟨t1, hl1⟩
      have HT1 := hide hT1
      clear hT1 HI
      generalize hXl : X.l = L at *
      have HXl := hide hXl
      clear hXl
      obtain ⟨E, hE⟩ : ∃ E, E = asI X 3 := ⟨_, rfl⟩
      rw [← hE] at HC hXL
      have HE := hide hE
      clear hE
      go_wp2_with fail
      refine (HC.out _ (hnx.alloc hnx.size _)).mono ?_
      rintro e w1 ⟨rfl, hb1⟩
      have hB1 : Below w.heap.size w w1 := (hnx.alloc hnx.size _).trans (hb1.mono (by simp; omega))
      have hg1 : wr.grownBy w1 none := (World.grownBy_alloc wr _ none).trans ⟨hb1.os, hb1.tape, hb1.output, hb1.size, fun j hj _ => hb1.block j hj⟩
      have hown1 := hown.kept hg1 (by simp)
      have bx2 : w1.cell? ⟨wr.heap.size, 2, none⟩ = some (.slice a1 L.length c1) := (hb1.cell (p := ⟨wr.heap.size, 2, none⟩) (by simp)).trans (by simp [go_sem])
      clear hown hg1 hb1 d0 d1 d2 d3 d4 HC hwW hmm
      by_cases h0 : E = 0
      · obtain ⟨hri, h24, h60⟩ := hXL.out h0
        have HZ : Hid (∀ t ∈ L, t.size ≤ maxLen) := fun t ht => by have := h60 t ht; unfold maxLen; omega
        have HE0 : Hid (asI X 3 = 0) := HE.out.symm.trans h0
        subst h0
        clear hXL h60 HE
        have hpl : ((xs.take k).map Itm.l).flatten.length + L.length ≤ 1500000 := by
          rcases HSUM.out with hsum | hx5
          rotate_left
          · have h1 := flat_small (xs.take k) (fun y hy => (asI_set (HG.out y hy)).2.1)
            rw [List.length_take] at h1
            omega
          have h1 : ((xs.take (k + 1)).map Itm.l).flatten.length ≤ (xs.map Itm.l).flatten.length := by
            have e : xs.map Itm.l = (xs.take (k + 1)).map Itm.l ++ (xs.drop (k + 1)).map Itm.l := by rw [← List.map_append, List.take_append_drop]
            rw [e, List.flatten_append, List.length_append]
            omega
          rw [HTK.out, List.map_append, List.flatten_append, List.length_append] at h1
          have e9 : (([X].map Itm.l).flatten).length = L.length := by simp [HXl.out]
          rw [e9] at h1
          omega
        generalize hpre : ((xs.take k).map Itm.l).flatten = pre at *
        have HPRE := hide hpre
        clear hpre
        go_wp2_with fail
        go_loopw [33] (fun i wr => ∃ (m : Nat) (D : DataW Unit), m ≤ L.length ∧ i = .int .i64 m ∧ Hid (Counts D (pre ++ L.take m)) ∧ wr.ownsMap Tryz.prog 9 (plainElem Tryz.prog 3) w.heap.size (pre.length + m) D ∧ Below w.heap.size w wr) (fun i _ => L.length - (intOf i).toNat)
        case atStart => exact ⟨0, D, by omega, rfl, by rw [List.take_zero, List.append_nil]; exact HD.out, hown1, hB1⟩
        case round =>
          clear hown1 bx2 HD D
          obtain ⟨m, D, hm, rfl, HD, hown, hnx2⟩ := hrel
          by_cases hmt : m < L.length
          · have hmt' : ((m : Nat) : Int) < ((L.length : Nat) : Int) := by omega
            obtain ⟨g1, o1, rfl, hcs⟩ : ∃ g o, a1 = some ⟨g, o, none⟩ ∧ ∀ i (h : i < L.length), w.cell? ⟨g, o + i, none⟩ = some (.string L[i]) := by
              rcases HT1.out with h | h
              · subst h; simp at hmt
              · exact h
            have d0 : wr.cell? ⟨g1, o1 + m, none⟩ = some (.string L[m]) := (hnx2.cell (p := ⟨g1, o1 + m, none⟩) (World.block_lt_of_cell? _ _ (hcs m hmt))).trans (hcs m hmt)
            have HTM : Hid (pre ++ L.take (m + 1) = (pre ++ L.take m) ++ [L[m]]) := by rw [Hid, List.take_succ_eq_append_getElem hmt, List.append_assoc]
            have hsz : L[m].size ≤ maxLen := HZ.out _ (List.getElem_mem _)
            obtain ⟨s, hs⟩ : ∃ s, s = L[m] := ⟨_, rfl⟩
            rw [← hs] at d0 HTM hsz
            have hkey := keyS hsz
            clear hs hcs
            go_wp2_with (first
              | (at_lookup; refine wpList_lookup_own_int _ rfl _ _ 175 rfl 9 3 .i64 lawS Tryz.underlying175 Tryz.underlying3 (zeroI _) w.heap.size (pre.length + m) D rfl hown _ _ rfl hkey ?_; intro cc hat hwc)
              | (at_mapUpdate; refine wpList_mapUpdate_own _ rfl _ _ _ 175 rfl 9 3 lawS Tryz.underlying175 _ w.heap.size (pre.length + m) D rfl hown (by unfold maxLen; omega) _ _ _ rfl rfl hkey _ [] (plainElem_int Tryz.underlying3 (wrap64_wf _)) ?_))
            intro w5 hown5 hg5
            have B5 := hnx2.grown hg5 hnx2.size (fun j hj => by cases hj; exact Nat.le_refl _)
            have hcc : cc = (((bytesL (pre ++ L.take m)).count s.data.toList : Nat) : Int) := by
              have h1 := HD.out.at_ s.data.toList
              rw [h1] at hat
              injection hat with hat
              injection hat with _ hat
              exact hat.symm
            have hcl : (bytesL (pre ++ L.take m)).count s.data.toList ≤ 1500000 := by
              have h1 := List.count_le_length (a := s.data.toList) (l := bytesL (pre ++ L.take m))
              rw [bytesL_len, List.length_append, List.length_take] at h1
              omega
            have HC5 : Hid (Counts (D.put (.string s.data.toList) (.lit (.int .i64 (wrap64 (cc + 1))))) (pre ++ L.take (m + 1))) := by
              rw [HTM.out]
              have e : wrap64 (cc + 1) = (((bytesL (pre ++ L.take m)).count s.data.toList : Nat) : Int) + 1 := by rw [hcc]; unfold wrap64; omega
              rw [e]
              exact HD.out.step hown.isMap s
            clear hown hat hwc hcc hcl d0 hkey hg5
            go_wp2_with fail
            go_roundw
            case rel => exact ⟨m + 1, _, by omega, by go_num, HC5, hown5, B5⟩
            case measure => simp [intOf]; omega
          · have hge : ¬ ((m : Nat) : Int) < ((L.length : Nat) : Int) := by omega
            obtain rfl : m = L.length := by omega
            go_wp2_with fail
            have e2 : ((xs.take (k + 1)).map Itm.l).flatten = pre ++ L := by
              rw [HTK.out, List.map_append, List.flatten_append, HPRE.out]
              simp [HXl.out]
            refine ⟨⟨_, _, _, _, _, .int .i64 (((k : Nat) : Int) + 1), ⟨k + 1, by omega, by simp, D, ?_, ?_, ?_, hnx2⟩, rfl, rfl, rfl, rfl, rfl, rfl⟩, by simp [intOf]; omega⟩
            · rw [HTK.out]
              intro x hx
              rcases List.mem_append.1 hx with hx | hx
              · exact HG.out x hx
              · rw [List.mem_singleton.1 hx]; exact HE0.out
            · rw [e2]
              have := HD.out
              rw [List.take_length] at this
              exact this
            · rw [e2, List.length_append]
              exact hown
      · have h0' : (E == 0) = false := by rw [beq_eq_false_iff_ne]; exact h0
        go_wp2_with fail
        have hse : setsE xs = E := by
          have h1 := setsE_at hlt HG.out (by rw [← HXX.out, ← HE.out]; exact h0)
          rw [h1, ← HXX.out, ← HE.out]
        refine bodyPost_ret (v := .tuple #[.slice none 0 0, .int .i64 E]) (by simp [results, Tryz.results102, go_sem]) rfl ?_
        have e1 : SE = E := HS.out.1.trans hse
        have e2 : TL = [] := by rw [HS.out.2, hse, if_neg h0]
        rw [e1, e2]
        exact ⟨none, 0, rfl, fun W _ => .inl rfl, hB1⟩
    · have hge : ¬ ((k : Nat) : Int) < ((xs.length : Nat) : Int) := by omega
      obtain rfl : k = xs.length := by omega
      rw [List.take_length] at HG HD hown
      have hSE : SE = 0 := HS.out.1.trans (setsE_all HG.out)
      have HTL : Hid (TL = thoseL p (xs.map Itm.l)) := by rw [Hid, HS.out.2, if_pos (setsE_all HG.out)]
      have HR : Hid (∀ l ∈ xs.map Itm.l, Rises l) := fun l hl => by
        obtain ⟨y, hy, rfl⟩ := List.mem_map.1 hl
        exact (asI_set (HG.out y hy)).1
      have HZL : Hid (∀ l ∈ xs.map Itm.l, ∀ t ∈ l, t.size ≤ 60) := fun l hl => by
        obtain ⟨y, hy, rfl⟩ := List.mem_map.1 hl
        exact (asI_set (HG.out y hy)).2.2
      subst hSE
      have hsum : (xs.map Itm.l).flatten.length ≤ 1500000 := by
        rcases HSUM.out with hsum | hx5
        · exact hsum
        · have h1 := flat_small xs (fun y hy => (asI_set (HG.out y hy)).2.1)
          omega
      clear HS HG HX hwW hmm HSUM
      generalize hls : xs.map Itm.l = ls at *
      clear hls
      obtain ⟨i0, hi, hz0, hz1, hz2⟩ := info_parts infoStr
      have hsD : Maps.size D ≤ 1500000 := Nat.le_trans hown.size_le hsum
      have hmbl := hown.lt
      generalize ls.flatten.length = NN at *
      obtain ⟨wq, hwq⟩ : ∃ wq, wq = wr := ⟨wr, rfl⟩
      subst hwq
      go_wp2_with (at_range; refine wpList_range_own _ rfl _ 175 rfl 9 3 lawS Tryz.underlying175 _ w.heap.size NN D rfl hown ?_; intro w0 hrg0 hg0 hs0)
      have B0 : Below w.heap.size w w0 := hnx.grown hg0 hnx.size (fun j hj => by cases hj)
      clear hg0 hs0
      go_loopw [12] (fun v wr => ∃ left cnt ss, RngAt p ls w wq.heap.size NN D left cnt ss v wr) (fun _ wr => wr.rangeLeft w.heap.size wq.heap.size)
      case atStart => exact ⟨_, _, [], ⟨hrg0, by simp, World.ownsRow_nil _ _ _ _, Collected.start D, B0⟩⟩
      case round =>
        clear hrg0 B0
        obtain ⟨left, cnt, ss, hR⟩ := hrel
        have hrg := hR.rg
        have HRR := hide hR
        clear hR
        go_wp2_with (at_next; refine wpList_next_ranges _ rfl _ rfl 9 lawS (plainElem Tryz.prog 3) encStr (Value.int .i64) (fun key kl hk => by obtain ⟨x, hx, _⟩ := Maps.keyOf_str Tryz.underlying9 hk; exact ⟨x, hx⟩) (fun v y hv => by obtain ⟨c, rfl, _⟩ := plainElem_int_inv Tryz.underlying3 hv; exact ⟨c, rfl⟩) w.heap.size wq.heap.size NN _ _ _ rfl hrg ?_ ?_)
        · intro hc0 hl0
          obtain ⟨av, cv, hav⟩ := slice_own HRR.out.rw
          subst hav
          have hal := askL_len p ls ss
          have hct := HRR.out.ct
          have HSO := hide (sort_any av cv (askL p ls ss) w wr HRR.out.bl (fun hne => by
            obtain ⟨gg, cc, e, _, _⟩ := HRR.out.rw.form (List.length_pos_iff.2 hne)
            injection e with e1 e2 e3
            subst e1
            exact ⟨gg, rfl, own_low HRR.out.rw (Nat.le_of_lt hmbl)⟩) (by omega))
          have HEND : Hid (sortL (askL p ls ss) = TL) := by
            rw [Hid, HTL.out]
            refine askL_end HRR.out.cl.1 (fun x => ?_)
            rw [HRR.out.cl.2 x, hl0, ← HD.out.has_]
            simp
          have hTll : TL.length = (askL p ls ss).length := by rw [← HEND.out, sortL_len]
          clear hrg HRR
          generalize askL p ls ss = ML at *
          go_wp2_with fail
          refine HSO.out.mono ?_
          rintro e w4 ⟨rfl, hb4, hr4⟩
          have HR4 := hide hr4
          clear hr4 HSO
          go_wp2_with fail
          refine bodyPost_ret (v := .tuple #[.slice av ML.length cv, .int .i64 0]) (by simp [results, Tryz.results102, go_sem]) rfl ⟨av, cv, by rw [hTll], fun W hW => ?_, hb4⟩
          by_cases hML : ML = []
          · refine .inl (List.eq_nil_of_length_eq_zero ?_)
            rw [hTll, hML]
            rfl
          · obtain ⟨gg, rfl, ho⟩ := HR4.out hML
            rw [HEND.out, ← hTll] at ho
            exact texts_ownF ho hW
        · intro x c kl yd yp w2 cnt2 hkey hlk hv hat hrg2 hlt2 hg2 hs2 hen
          obtain ⟨x', ex, rfl, hxl⟩ := Maps.keyOf_str Tryz.underlying9 hkey
          obtain rfl : x = x' := encStr_inj ex
          have hcn : c = ((cntL ls ⟨x.toArray⟩ : Nat) : Int) := by
            obtain ⟨a, h1, h2, _⟩ := plainElem_int_inv Tryz.underlying3 hv
            injection h1 with _ h1
            have h3 := hat (.lit (.int .i64 0))
            rw [HD.out.at_ x] at h3
            have h4 := count_flat ls ⟨x.toArray⟩ HR.out
            rw [show (ByteArray.mk x.toArray).data.toList = x by simp] at h4
            rw [h4] at h3
            injection h2 with h2 _
            rw [h2] at h3
            injection h3 with h3
            injection h3 with _ h3
            rw [h1, ← h3]
          obtain ⟨s, hs⟩ : ∃ s : ByteArray, s = ⟨x.toArray⟩ := ⟨_, rfl⟩
          have HXS := hide hs
          have exs : (encStr x : Value) = .string s := by rw [hs]
          rw [← hs] at hcn
          obtain ⟨n, hn⟩ : ∃ n, n = cntL ls s := ⟨_, rfl⟩
          rw [← hn] at hcn
          have HN := hide hn
          subst hcn
          have hrow2 := HRR.out.rw.kept hg2 (Or.inr (row_ne_iter HRR.out.rw hrg).symm)
          have hbl := HRR.out.bl
          have hzb := hbl.size
          have hrl := hrg.lt
          have hB2 : Below w.heap.size w w2 := hbl.grown hg2 hbl.size (fun j hj => by cases hj; exact Nat.le_of_lt hmbl)
          have hzz2 := hg2.size
          have hct := HRR.out.ct
          have hal := askL_len p ls ss
          have HCS := hide (HRR.out.cl.step hlk hat)
          have hleft := hrg.left_eq
          have HLE := hide hleft
          rw [exs] at hen
          clear hs hn hs2 hrg HRR hkey hv hat ex hg2 hlk hleft hbl
          rw [exs]
          clear exs hxl
          go_wp2_with fail
          refine (HA.out w2 s n hB2).mono ?_
          rintro e w3 ⟨rfl, hb3⟩
          have hrg3 := hrg2.kept (grown_none hb3) (by simp) (by simp)
          have hrow3 := (Kept.of_below hb3 (fun _ => False)).owns hrow2 (fun _ _ e => e)
          have hB3 : Below w.heap.size w w3 := hB2.trans (hb3.mono hB2.size)
          have hz3 := hb3.size
          clear hrg2 hrow2 hb3 hB2
          cases hp : p s n with
          | true =>
            have HP : Hid (p s (cntL ls s) = true) := by rw [Hid, ← HN.out]; exact hp
            clear hp
            go_wp2_with (at_builtin; refine wpList_append_own _ rfl _ _ 24 rfl wq.heap.size 9 i0 (.string ⟨#[]⟩) 1 16 Tryz.underlying24 hi hz0 hz1 hz2 rfl (by decide) _ _ _ rfl (hrow3.alloc _) ⟨w3.heap.size, 0, none⟩ 1 1 [.string s] rfl rfl ?c1 ?c2 ?c3 ?c4 ?c5 ?_)
            case c1 =>
              intro j u hj
              match j, hj with
              | 0, hj => simp at hj; subst hj; simp [Addr.add]
            case c2 => intro u hu; simp at hu; subst hu; rfl
            case c3 => unfold maxLen; omega
            case c4 => omega
            case c5 => simp; omega
            intro v' w4 hown4 hg4 _
            have hrg4 := (hrg3.alloc (.cells #[.string s] 9)).kept hg4 (row_ne_low hrow3 hmbl) (row_ne_iter hrow3 hrg3)
            have hB4 : Below w.heap.size w w4 := (hB3.alloc hB3.size _).grown hg4 (by simp; omega) (fun j hj => by have := (hrow3.lt j hj).1; omega)
            have HR4 : Hid (RngAt p ls w wq.heap.size NN D (fun z => left z && !z.sameKey (.string x)) cnt2 (ss ++ [x]) v' w4) := ⟨hrg4, by rw [List.length_append]; simp; omega, by rw [askL_yes HXS.out HP.out, List.length_append]; simpa [strs] using hown4, HCS.out, hB4⟩
            have hle4 := hrg4.left_eq
            clear hrow3 hrg3 hown4 hg4 hB3 hrg4 hB4
            go_wp2_with fail
            go_roundw
            case rel => exact ⟨_, cnt2, ss ++ [x], HR4.out⟩
            case measure => rw [hle4, HLE.out]; exact hlt2
          | false =>
            have HP : Hid (p s (cntL ls s) = false) := by rw [Hid, ← HN.out]; exact hp
            clear hp
            have hrow4 := hrow3
            rw [← askL_no (ss := ss) HXS.out HP.out] at hrow4
            have HR4 := hide (RngAt.mk (ss := ss ++ [x]) hrg3 (by rw [List.length_append]; simp; omega) hrow4 HCS.out hB3)
            clear hrow4
            have hle4 := hrg3.left_eq
            clear hrow3 hrg3 hB3
            go_wp2_with fail
            go_roundw
            case rel => exact ⟨_, cnt2, ss ++ [x], HR4.out⟩
            case measure => rw [hle4, HLE.out]; exact hlt2
set_option maxRecDepth 100000 in
set_option maxHeartbeats 4000000 in
theorem thoseL_some (b : Nat) (p : ByteArray → Nat → Bool) (a : Option Addr) (c : Nat) (xs : List Itm) (w : World) (hx : ItemsAt w a xs) (hne : xs ≠ []) (hxl : xs.length ≤ 1500000) (HSUM : Hid ((xs.map Itm.l).flatten.length ≤ 1500000 ∨ xs.length ≤ 50000)) (SE : Int) (TL : List ByteArray) (HS : Hid (SE = setsE xs ∧ TL = if setsE xs = 0 then thoseL p (xs.map Itm.l) else []))
    (HA : Hid (∀ W m (n : Nat), Below w.heap.size w W → Calls Tryz.prog 147 #[.string m, .int .i64 n, .pointer (some ⟨b, 0, none⟩)] W fun e w' => e = .returned (.bool (p m n)) ∧ Below W.heap.size W w')) :
    Calls Tryz.prog 102 #[.slice a xs.length c, .func (.func 147) #[] #[.pointer (some ⟨b, 0, none⟩)]] w fun e w' => ∃ a' cap, e = .returned (.tuple #[.slice a' TL.length cap, .int .i64 SE]) ∧ (∀ W, (∀ g o u, w.heap.size ≤ g → w'.cell? ⟨g, o, none⟩ = some u → w'.frozen? ⟨g, o, none⟩ = false → W.cell? ⟨g, o, none⟩ = some u) → TextsAt W a' TL) ∧ Below w.heap.size w w' := by
  have hmm := @run_makeMap Tryz.prog
  obtain ⟨g, o, rfl, hc⟩ := hx.resolve_left hne
  have HX := hide hc
  have hpos : 0 < xs.length := List.length_pos_iff.2 hne
  have hpos' : ¬ ((xs.length : Nat) : Int) = 0 := by omega
  clear hc hne hx
  go_enter Tryz.func102, Tryz.ntmps102
  go_wp2_with fail
  have hwW : Hid (Below w.heap.size w (w.alloc (.map #[] 0))) := (Below.refl _ w).alloc (Nat.le_refl _) _
  go_loopw [21] (fun i wr => ∃ (k : Nat) (D : DataW Unit), k ≤ xs.length ∧ i = .int .i64 k ∧ ThoseAt xs w k D wr) (fun i _ => xs.length - (intOf i).toNat)
  case atStart => exact ⟨0, .map [], by omega, rfl, ⟨fun x hx => by simp at hx, Counts.start, World.ownsMap_made _ _ _ _, hwW.out⟩⟩
  case round =>
    obtain ⟨k, D, hk, rfl, hTA⟩ := hrel
    have HG := hide hTA.g
    have HD := hide hTA.d
    have hown := hTA.o
    have hnx := hTA.b
    clear hTA
    have hzr := hnx.size
    by_cases hlt : k < xs.length
    · have hlt' : ((k : Nat) : Int) < ((xs.length : Nat) : Int) := by omega
      obtain ⟨a1, c1, a2, c2, a3, c3, ⟨e0, e1, e2, e3, e4⟩, hI⟩ := HX.out k hlt
      have HI := hide hI
      have HBC : Hid (∀ g o v, w.cell? ⟨g, o, none⟩ = some v → wr.cell? ⟨g, o, none⟩ = some v) := fun g o _ hv => (hnx.cell (p := ⟨g, o, none⟩) (World.block_lt_of_cell? _ _ hv)).trans hv
      have d0 := HBC.out _ _ _ e0
      have d1 := HBC.out _ _ _ e1
      have d2 := HBC.out _ _ _ e2
      have d3 := HBC.out _ _ _ e3
      have d4 := HBC.out _ _ _ e4
      have HC : Hid (∀ W, Below w.heap.size w W → Calls Tryz.prog 85 #[.agg #[.int .i64 xs[k].k, .string xs[k].t, .slice a1 xs[k].l.length c1, .slice a2 xs[k].p.length c2, .slice a3 xs[k].s.length c3], .int .i64 3] W fun e w' => e = .returned (.int .i64 (asI xs[k] 3)) ∧ Below W.heap.size W w') := fun W hW => common_any _ xs[k] 3 W (HI.out.below hW)
      have HTK : Hid (xs.take (k + 1) = xs.take k ++ [xs[k]]) := List.take_succ_eq_append_getElem hlt
      obtain ⟨X, hX⟩ : ∃ X, X = xs[k] := ⟨_, rfl⟩
      rw [← hX] at d0 d1 d2 d3 d4 HC HTK HI
      have HXX := hide hX
      clear hX e0 e1 e2 e3 e4 hI HBC
      have hXL : Hid (asI X 3 = 0 → Rises X.l ∧ X.l.length ≤ 24 ∧ (∀ t ∈ X.l, t.size ≤ 60)) := asI_set
      obtain ⟨hT1, hTn⟩ : TextsAt w a1 X.l ∧ X.l.length ≤ 281474976710656 := by
        obtain ⟨⟨b1, q1, b2, q2, b3, q3, e, t1, -, -⟩, -, -, -, -, hl1, -, -⟩ := HI.out
        injection e with e
        have e' := congrArg (fun z => z[2]?) e
        simp at e'
        obtain ⟨rfl, _⟩ := e'
        exact ⟨t1, hl1⟩
      have HT1 := hide hT1
      clear hT1 HI
      generalize hXl : X.l = L at *
      have HXl := hide hXl
      clear hXl
      obtain ⟨E, hE⟩ : ∃ E, E = asI X 3 := ⟨_, rfl⟩
      rw [← hE] at HC hXL
      have HE := hide hE
      clear hE
      go_wp2_with fail
      refine (HC.out _ (hnx.alloc hnx.size _)).mono ?_
      rintro e w1 ⟨rfl, hb1⟩
      have hB1 : Below w.heap.size w w1 := (hnx.alloc hnx.size _).trans (hb1.mono (by simp; omega))
      have hg1 : wr.grownBy w1 none := (World.grownBy_alloc wr _ none).trans ⟨hb1.os, hb1.tape, hb1.output, hb1.size, fun j hj _ => hb1.block j hj⟩
      have hown1 := hown.kept hg1 (by simp)
      have bx2 : w1.cell? ⟨wr.heap.size, 2, none⟩ = some (.slice a1 L.length c1) := (hb1.cell (p := ⟨wr.heap.size, 2, none⟩) (by simp)).trans (by simp [go_sem])
      clear hown hg1 hb1 d0 d1 d2 d3 d4 HC hwW hmm
      by_cases h0 : E = 0
      · obtain ⟨hri, h24, h60⟩ := hXL.out h0
        have HZ : Hid (∀ t ∈ L, t.size ≤ maxLen) := fun t ht => by have := h60 t ht; unfold maxLen; omega
        have HE0 : Hid (asI X 3 = 0) := HE.out.symm.trans h0
        subst h0
        clear hXL h60 HE
        have hpl : ((xs.take k).map Itm.l).flatten.length + L.length ≤ 1500000 := by
          rcases HSUM.out with hsum | hx5
          rotate_left
          · have h1 := flat_small (xs.take k) (fun y hy => (asI_set (HG.out y hy)).2.1)
            rw [List.length_take] at h1
            omega
          have h1 : ((xs.take (k + 1)).map Itm.l).flatten.length ≤ (xs.map Itm.l).flatten.length := by
            have e : xs.map Itm.l = (xs.take (k + 1)).map Itm.l ++ (xs.drop (k + 1)).map Itm.l := by rw [← List.map_append, List.take_append_drop]
            rw [e, List.flatten_append, List.length_append]
            omega
          rw [HTK.out, List.map_append, List.flatten_append, List.length_append] at h1
          have e9 : (([X].map Itm.l).flatten).length = L.length := by simp [HXl.out]
          rw [e9] at h1
          omega
        generalize hpre : ((xs.take k).map Itm.l).flatten = pre at *
        have HPRE := hide hpre
        clear hpre
        go_wp2_with fail
        go_loopw [33] (fun i wr => ∃ (m : Nat) (D : DataW Unit), m ≤ L.length ∧ i = .int .i64 m ∧ Hid (Counts D (pre ++ L.take m)) ∧ wr.ownsMap Tryz.prog 9 (plainElem Tryz.prog 3) w.heap.size (pre.length + m) D ∧ Below w.heap.size w wr) (fun i _ => L.length - (intOf i).toNat)
        case atStart => exact ⟨0, D, by omega, rfl, by rw [List.take_zero, List.append_nil]; exact HD.out, hown1, hB1⟩
        case round =>
          clear hown1 bx2 HD D
          obtain ⟨m, D, hm, rfl, HD, hown, hnx2⟩ := hrel
          by_cases hmt : m < L.length
          · have hmt' : ((m : Nat) : Int) < ((L.length : Nat) : Int) := by omega
            obtain ⟨g1, o1, rfl, hcs⟩ : ∃ g o, a1 = some ⟨g, o, none⟩ ∧ ∀ i (h : i < L.length), w.cell? ⟨g, o + i, none⟩ = some (.string L[i]) := by
              rcases HT1.out with h | h
              · subst h; simp at hmt
              · exact h
            have d0 : wr.cell? ⟨g1, o1 + m, none⟩ = some (.string L[m]) := (hnx2.cell (p := ⟨g1, o1 + m, none⟩) (World.block_lt_of_cell? _ _ (hcs m hmt))).trans (hcs m hmt)
            have HTM : Hid (pre ++ L.take (m + 1) = (pre ++ L.take m) ++ [L[m]]) := by rw [Hid, List.take_succ_eq_append_getElem hmt, List.append_assoc]
            have hsz : L[m].size ≤ maxLen := HZ.out _ (List.getElem_mem _)
            obtain ⟨s, hs⟩ : ∃ s, s = L[m] := ⟨_, rfl⟩
            rw [← hs] at d0 HTM hsz
            have hkey := keyS hsz
            clear hs hcs
            go_wp2_with (first
              | (at_lookup; refine wpList_lookup_own_int _ rfl _ _ 175 rfl 9 3 .i64 lawS Tryz.underlying175 Tryz.underlying3 (zeroI _) w.heap.size (pre.length + m) D rfl hown _ _ rfl hkey ?_; intro cc hat hwc)
              | (at_mapUpdate; refine wpList_mapUpdate_own _ rfl _ _ _ 175 rfl 9 3 lawS Tryz.underlying175 _ w.heap.size (pre.length + m) D rfl hown (by unfold maxLen; omega) _ _ _ rfl rfl hkey _ [] (plainElem_int Tryz.underlying3 (wrap64_wf _)) ?_))
            intro w5 hown5 hg5
            have B5 := hnx2.grown hg5 hnx2.size (fun j hj => by cases hj; exact Nat.le_refl _)
            have hcc : cc = (((bytesL (pre ++ L.take m)).count s.data.toList : Nat) : Int) := by
              have h1 := HD.out.at_ s.data.toList
              rw [h1] at hat
              injection hat with hat
              injection hat with _ hat
              exact hat.symm
            have hcl : (bytesL (pre ++ L.take m)).count s.data.toList ≤ 1500000 := by
              have h1 := List.count_le_length (a := s.data.toList) (l := bytesL (pre ++ L.take m))
              rw [bytesL_len, List.length_append, List.length_take] at h1
              omega
            have HC5 : Hid (Counts (D.put (.string s.data.toList) (.lit (.int .i64 (wrap64 (cc + 1))))) (pre ++ L.take (m + 1))) := by
              rw [HTM.out]
              have e : wrap64 (cc + 1) = (((bytesL (pre ++ L.take m)).count s.data.toList : Nat) : Int) + 1 := by rw [hcc]; unfold wrap64; omega
              rw [e]
              exact HD.out.step hown.isMap s
            clear hown hat hwc hcc hcl d0 hkey hg5
            go_wp2_with fail
            go_roundw
            case rel => exact ⟨m + 1, _, by omega, by go_num, HC5, hown5, B5⟩
            case measure => simp [intOf]; omega
          · have hge : ¬ ((m : Nat) : Int) < ((L.length : Nat) : Int) := by omega
            obtain rfl : m = L.length := by omega
            go_wp2_with fail
            have e2 : ((xs.take (k + 1)).map Itm.l).flatten = pre ++ L := by
              rw [HTK.out, List.map_append, List.flatten_append, HPRE.out]
              simp [HXl.out]
            refine ⟨⟨_, _, _, _, _, .int .i64 (((k : Nat) : Int) + 1), ⟨k + 1, by omega, by simp, D, ?_, ?_, ?_, hnx2⟩, rfl, rfl, rfl, rfl, rfl, rfl⟩, by simp [intOf]; omega⟩
            · rw [HTK.out]
              intro x hx
              rcases List.mem_append.1 hx with hx | hx
              · exact HG.out x hx
              · rw [List.mem_singleton.1 hx]; exact HE0.out
            · rw [e2]
              have := HD.out
              rw [List.take_length] at this
              exact this
            · rw [e2, List.length_append]
              exact hown
      · have h0' : (E == 0) = false := by rw [beq_eq_false_iff_ne]; exact h0
        go_wp2_with fail
        have hse : setsE xs = E := by
          have h1 := setsE_at hlt HG.out (by rw [← HXX.out, ← HE.out]; exact h0)
          rw [h1, ← HXX.out, ← HE.out]
        refine bodyPost_ret (v := .tuple #[.slice none 0 0, .int .i64 E]) (by simp [results, Tryz.results102, go_sem]) rfl ?_
        have e1 : SE = E := HS.out.1.trans hse
        have e2 : TL = [] := by rw [HS.out.2, hse, if_neg h0]
        rw [e1, e2]
        exact ⟨none, 0, rfl, fun W _ => .inl rfl, hB1⟩
    · have hge : ¬ ((k : Nat) : Int) < ((xs.length : Nat) : Int) := by omega
      obtain rfl : k = xs.length := by omega
      rw [List.take_length] at HG HD hown
      have hSE : SE = 0 := HS.out.1.trans (setsE_all HG.out)
      have HTL : Hid (TL = thoseL p (xs.map Itm.l)) := by rw [Hid, HS.out.2, if_pos (setsE_all HG.out)]
      have HR : Hid (∀ l ∈ xs.map Itm.l, Rises l) := fun l hl => by
        obtain ⟨y, hy, rfl⟩ := List.mem_map.1 hl
        exact (asI_set (HG.out y hy)).1
      have HZL : Hid (∀ l ∈ xs.map Itm.l, ∀ t ∈ l, t.size ≤ 60) := fun l hl => by
        obtain ⟨y, hy, rfl⟩ := List.mem_map.1 hl
        exact (asI_set (HG.out y hy)).2.2
      subst hSE
      have hsum : (xs.map Itm.l).flatten.length ≤ 1500000 := by
        rcases HSUM.out with hsum | hx5
        · exact hsum
        · have h1 := flat_small xs (fun y hy => (asI_set (HG.out y hy)).2.1)
          omega
      clear HS HG HX hwW hmm HSUM
      generalize hls : xs.map Itm.l = ls at *
      clear hls
      obtain ⟨i0, hi, hz0, hz1, hz2⟩ := info_parts infoStr
      have hsD : Maps.size D ≤ 1500000 := Nat.le_trans hown.size_le hsum
      have hmbl := hown.lt
      generalize ls.flatten.length = NN at *
      obtain ⟨wq, hwq⟩ : ∃ wq, wq = wr := ⟨wr, rfl⟩
      subst hwq
      go_wp2_with (at_range; refine wpList_range_own _ rfl _ 175 rfl 9 3 lawS Tryz.underlying175 _ w.heap.size NN D rfl hown ?_; intro w0 hrg0 hg0 hs0)
      have B0 : Below w.heap.size w w0 := hnx.grown hg0 hnx.size (fun j hj => by cases hj)
      clear hg0 hs0
      go_loopw [12] (fun v wr => ∃ left cnt ss, RngAt p ls w wq.heap.size NN D left cnt ss v wr) (fun _ wr => wr.rangeLeft w.heap.size wq.heap.size)
      case atStart => exact ⟨_, _, [], ⟨hrg0, by simp, World.ownsRow_nil _ _ _ _, Collected.start D, B0⟩⟩
      case round =>
        clear hrg0 B0
        obtain ⟨left, cnt, ss, hR⟩ := hrel
        have hrg := hR.rg
        have HRR := hide hR
        clear hR
        go_wp2_with (at_next; refine wpList_next_ranges _ rfl _ rfl 9 lawS (plainElem Tryz.prog 3) encStr (Value.int .i64) (fun key kl hk => by obtain ⟨x, hx, _⟩ := Maps.keyOf_str Tryz.underlying9 hk; exact ⟨x, hx⟩) (fun v y hv => by obtain ⟨c, rfl, _⟩ := plainElem_int_inv Tryz.underlying3 hv; exact ⟨c, rfl⟩) w.heap.size wq.heap.size NN _ _ _ rfl hrg ?_ ?_)
        · intro hc0 hl0
          obtain ⟨av, cv, hav⟩ := slice_own HRR.out.rw
          subst hav
          have hal := askL_len p ls ss
          have hct := HRR.out.ct
          have HSO := hide (sort_any av cv (askL p ls ss) w wr HRR.out.bl (fun hne => by
            obtain ⟨gg, cc, e, _, _⟩ := HRR.out.rw.form (List.length_pos_iff.2 hne)
            injection e with e1 e2 e3
            subst e1
            exact ⟨gg, rfl, own_low HRR.out.rw (Nat.le_of_lt hmbl)⟩) (by omega))
          have HEND : Hid (sortL (askL p ls ss) = TL) := by
            rw [Hid, HTL.out]
            refine askL_end HRR.out.cl.1 (fun x => ?_)
            rw [HRR.out.cl.2 x, hl0, ← HD.out.has_]
            simp
          have hTll : TL.length = (askL p ls ss).length := by rw [← HEND.out, sortL_len]
          clear hrg HRR
          generalize askL p ls ss = ML at *
          go_wp2_with fail
          refine HSO.out.mono ?_
          rintro e w4 ⟨rfl, hb4, hr4⟩
          have HR4 := hide hr4
          clear hr4 HSO
          go_wp2_with fail
          refine bodyPost_ret (v := .tuple #[.slice av ML.length cv, .int .i64 0]) (by simp [results, Tryz.results102, go_sem]) rfl ⟨av, cv, by rw [hTll], fun W hW => ?_, hb4⟩
          by_cases hML : ML = []
          · refine .inl (List.eq_nil_of_length_eq_zero ?_)
            rw [hTll, hML]
            rfl
          · obtain ⟨gg, rfl, ho⟩ := HR4.out hML
            rw [HEND.out, ← hTll] at ho
            exact texts_ownF ho hW
        · intro x c kl yd yp w2 cnt2 hkey hlk hv hat hrg2 hlt2 hg2 hs2 hen
          obtain ⟨x', ex, rfl, hxl⟩ := Maps.keyOf_str Tryz.underlying9 hkey
          obtain rfl : x = x' := encStr_inj ex
          have hcn : c = ((cntL ls ⟨x.toArray⟩ : Nat) : Int) := by
            obtain ⟨a, h1, h2, _⟩ := plainElem_int_inv Tryz.underlying3 hv
            injection h1 with _ h1
            have h3 := hat (.lit (.int .i64 0))
            rw [HD.out.at_ x] at h3
            have h4 := count_flat ls ⟨x.toArray⟩ HR.out
            rw [show (ByteArray.mk x.toArray).data.toList = x by simp] at h4
            rw [h4] at h3
            injection h2 with h2 _
            rw [h2] at h3
            injection h3 with h3
            injection h3 with _ h3
            rw [h1, ← h3]
          obtain ⟨s, hs⟩ : ∃ s : ByteArray, s = ⟨x.toArray⟩ := ⟨_, rfl⟩
          have HXS := hide hs
          have exs : (encStr x : Value) = .string s := by rw [hs]
          rw [← hs] at hcn
          obtain ⟨n, hn⟩ : ∃ n, n = cntL ls s := ⟨_, rfl⟩
          rw [← hn] at hcn
          have HN := hide hn
          subst hcn
          have hrow2 := HRR.out.rw.kept hg2 (Or.inr (row_ne_iter HRR.out.rw hrg).symm)
          have hbl := HRR.out.bl
          have hzb := hbl.size
          have hrl := hrg.lt
          have hB2 : Below w.heap.size w w2 := hbl.grown hg2 hbl.size (fun j hj => by cases hj; exact Nat.le_of_lt hmbl)
          have hzz2 := hg2.size
          have hct := HRR.out.ct
          have hal := askL_len p ls ss
          have HCS := hide (HRR.out.cl.step hlk hat)
          have hleft := hrg.left_eq
          have HLE := hide hleft
          rw [exs] at hen
          clear hs hn hs2 hrg HRR hkey hv hat ex hg2 hlk hleft hbl
          rw [exs]
          clear exs hxl
          go_wp2_with fail
          refine (HA.out w2 s n hB2).mono ?_
          rintro e w3 ⟨rfl, hb3⟩
          have hrg3 := hrg2.kept (grown_none hb3) (by simp) (by simp)
          have hrow3 := (Kept.of_below hb3 (fun _ => False)).owns hrow2 (fun _ _ e => e)
          have hB3 : Below w.heap.size w w3 := hB2.trans (hb3.mono hB2.size)
          have hz3 := hb3.size
          clear hrg2 hrow2 hb3 hB2
          cases hp : p s n with
          | true =>
            have HP : Hid (p s (cntL ls s) = true) := by rw [Hid, ← HN.out]; exact hp
            clear hp
            go_wp2_with (at_builtin; refine wpList_append_own _ rfl _ _ 24 rfl wq.heap.size 9 i0 (.string ⟨#[]⟩) 1 16 Tryz.underlying24 hi hz0 hz1 hz2 rfl (by decide) _ _ _ rfl (hrow3.alloc _) ⟨w3.heap.size, 0, none⟩ 1 1 [.string s] rfl rfl ?c1 ?c2 ?c3 ?c4 ?c5 ?_)
            case c1 =>
              intro j u hj
              match j, hj with
              | 0, hj => simp at hj; subst hj; simp [Addr.add]
            case c2 => intro u hu; simp at hu; subst hu; rfl
            case c3 => unfold maxLen; omega
            case c4 => omega
            case c5 => simp; omega
            intro v' w4 hown4 hg4 _
            have hrg4 := (hrg3.alloc (.cells #[.string s] 9)).kept hg4 (row_ne_low hrow3 hmbl) (row_ne_iter hrow3 hrg3)
            have hB4 : Below w.heap.size w w4 := (hB3.alloc hB3.size _).grown hg4 (by simp; omega) (fun j hj => by have := (hrow3.lt j hj).1; omega)
            have HR4 : Hid (RngAt p ls w wq.heap.size NN D (fun z => left z && !z.sameKey (.string x)) cnt2 (ss ++ [x]) v' w4) := ⟨hrg4, by rw [List.length_append]; simp; omega, by rw [askL_yes HXS.out HP.out, List.length_append]; simpa [strs] using hown4, HCS.out, hB4⟩
            have hle4 := hrg4.left_eq
            clear hrow3 hrg3 hown4 hg4 hB3 hrg4 hB4
            go_wp2_with fail
            go_roundw
            case rel => exact ⟨_, cnt2, ss ++ [x], HR4.out⟩
            case measure => rw [hle4, HLE.out]; exact hlt2
          | false =>
            have HP : Hid (p s (cntL ls s) = false) := by rw [Hid, ← HN.out]; exact hp
            clear hp
            have hrow4 := hrow3
            rw [← askL_no (ss := ss) HXS.out HP.out] at hrow4
            have HR4 := hide (RngAt.mk (ss := ss ++ [x]) hrg3 (by rw [List.length_append]; simp; omega) hrow4 HCS.out hB3)
            clear hrow4
            have hle4 := hrg3.left_eq
            clear hrow3 hrg3 hB3
            go_wp2_with fail
            go_roundw
            case rel => exact ⟨_, cnt2, ss ++ [x], HR4.out⟩
            case measure => rw [hle4, HLE.out]; exact hlt2
end Go.Proofs.YtcidoodaiimhfaaGreat
namespace Go.Proofs.YtcidoodaiimhfaaGreat
open Go.RowKit

set_option maxRecDepth 100000 in
theorem those_none (a : Option Addr) (c : Nat) (fv : Value) (w : World) : Calls Tryz.prog 102 #[.slice a 0 c, fv] w fun e w' => ∃ a' cap, e = .returned (.tuple #[.slice a' ([] : List ByteArray).length cap, .int .i64 1]) ∧ (∀ W', (∀ g o u, w.heap.size ≤ g → w'.cell? ⟨g, o, none⟩ = some u → w'.frozen? ⟨g, o, none⟩ = false → W'.cell? ⟨g, o, none⟩ = some u) → TextsAt W' a' []) ∧ Below w.heap.size w w' := by
  go_enter Tryz.func102, Tryz.ntmps102
  go_wp2_with fail
  refine bodyPost_ret (v := .tuple #[.slice none 0 0, .int .i64 1]) (by simp [results, Tryz.results102, go_sem]) rfl ⟨none, 0, rfl, fun W _ => .inl rfl, Below.refl _ _⟩
/-- what meet asks for -/
def askM (xs : List Itm) : ByteArray → Nat → Bool := fun _ n => decide (n = xs.length)
set_option maxRecDepth 100000 in
set_option maxHeartbeats 1000000 in
theorem askM_any (b : Nat) (a : Option Addr) (c : Nat) (xs : List Itm) (m : ByteArray) (n : Nat) (W : World) (hx : ItemsAt W a xs) (hne : xs ≠ []) (hxl : xs.length ≤ 1500000) (hc : W.cell? ⟨b, 0, none⟩ = some (.slice a xs.length c)) : Calls Tryz.prog 103 #[.string m, .int .i64 n, .pointer (some ⟨b, 0, none⟩)] W fun e w' => e = .returned (.bool (askM xs m n)) ∧ Below W.heap.size W w' := by
  have _u1 := hx
  have _u2 := hne
  have _u3 := hxl
  clear _u1 _u2 _u3
  have hd : (((n : Nat) : Int) == ((xs.length : Nat) : Int)) = decide (n = xs.length) := by rw [Bool.eq_iff_iff]; simp; omega
  clear hx
  go_enter Tryz.func103, Tryz.ntmps103
  go_wp2_with fail
  go_ret
  exact ⟨by first | rfl | rw [askM, ← hd] | simp [askM], Below.refl _ _⟩

set_option maxRecDepth 100000 in
set_option maxHeartbeats 1000000 in
theorem meet_own2 (a : Option Addr) (c : Nat) (xs : List Itm) (w : World) (hx : ItemsAt w a xs) (hxl : xs.length ≤ 1500000) (HSUM : Hid ((xs.map Itm.l).flatten.length ≤ 1500000 ∨ xs.length ≤ 50000)) (SE : Int) (TL : List ByteArray) (HS : Hid (SE = setsF xs ∧ TL = if setsF xs = 0 then thoseL (askM xs) (xs.map Itm.l) else [])) :
    Calls Tryz.prog 40 #[.slice a xs.length c] w fun e w' => ∃ a' cap, e = .returned (.tuple #[.slice a' TL.length cap, .int .i64 SE]) ∧ (∀ W, (∀ g o u, w.heap.size ≤ g → w'.cell? ⟨g, o, none⟩ = some u → w'.frozen? ⟨g, o, none⟩ = false → W.cell? ⟨g, o, none⟩ = some u) → TextsAt W a' TL) ∧ Below w.heap.size w w' := by
  have HB : Hid (∀ W, ∀ b, W.cell? ⟨b, 0, none⟩ = some (.slice a xs.length c) → Below w.heap.size w W → Calls Tryz.prog 102 #[.slice a xs.length c, .func (.func 103) #[] #[.pointer (some ⟨b, 0, none⟩)]] W fun e w' => ∃ a' cap, e = .returned (.tuple #[.slice a' TL.length cap, .int .i64 SE]) ∧ (∀ W', (∀ g o u, W.heap.size ≤ g → w'.cell? ⟨g, o, none⟩ = some u → w'.frozen? ⟨g, o, none⟩ = false → W'.cell? ⟨g, o, none⟩ = some u) → TextsAt W' a' TL) ∧ Below W.heap.size W w') := fun W b hcb hW => by
    by_cases hne : xs = []
    · subst hne
      obtain ⟨e1, e2⟩ := HS.out
      have h1 : SE = 1 := e1
      have h2 : TL = [] := e2
      subst h1 h2
      exact those_none a c _ W
    · have e : setsF xs = setsE xs := if_neg hne
      refine thoseM_some b (askM xs) a c xs W (hx.below hW) hne hxl HSUM SE TL (by rw [← e]; exact HS.out) (fun W2 m n hW2 => ?_)
      exact askM_any b a c xs m n W2 (hx.below (hW.trans (hW2.mono hW.size))) hne hxl ((hW2.cell (p := ⟨b, 0, none⟩) (World.block_lt_of_cell? _ _ hcb)).trans hcb)
  clear hx HS
  go_enter Tryz.func40, Tryz.ntmps40
  go_wp2_with fail
  refine (HB.out _ w.heap.size (by simp [go_sem]) ((Below.refl _ w).alloc (Nat.le_refl _) _)).mono ?_
  rintro e w1 ⟨a', cap, rfl, hT, hb⟩
  have HT := hide hT
  clear hT HB
  go_wp2_with fail
  refine bodyPost_ret (v := .tuple #[.slice a' TL.length cap, .int .i64 SE]) (by simp [results, Tryz.results40, go_sem]) rfl ⟨a', cap, rfl, fun W hW => HT.out W (fun g o u hg hu hf => hW g o u (by simp at hg; omega) hu hf), ((Below.refl _ w).alloc (Nat.le_refl _) _).trans (hb.mono (by simp))⟩
/-- what joinS asks for -/
def askJ (xs : List Itm) : ByteArray → Nat → Bool := fun _ _ => have _u := xs; true
set_option maxRecDepth 100000 in
set_option maxHeartbeats 1000000 in
theorem askJ_any (a : Option Addr) (c : Nat) (xs : List Itm) (m : ByteArray) (n : Nat) (W : World) (hx : ItemsAt W a xs) (hne : xs ≠ []) (hxl : xs.length ≤ 1500000) : Calls Tryz.prog 104 #[.string m, .int .i64 n] W fun e w' => e = .returned (.bool (askJ xs m n)) ∧ Below W.heap.size W w' := by
  have _u1 := hx
  have _u2 := hne
  have _u3 := hxl
  have _u4 := c
  clear _u1 _u2 _u3 _u4 hx
  go_enter Tryz.func104, Tryz.ntmps104
  go_wp2_with fail
  go_ret
  exact ⟨rfl, Below.refl _ _⟩

set_option maxRecDepth 100000 in
set_option maxHeartbeats 1000000 in
theorem joinS_own2 (a : Option Addr) (c : Nat) (xs : List Itm) (w : World) (hx : ItemsAt w a xs) (hxl : xs.length ≤ 1500000) (HSUM : Hid ((xs.map Itm.l).flatten.length ≤ 1500000 ∨ xs.length ≤ 50000)) (SE : Int) (TL : List ByteArray) (HS : Hid (SE = setsF xs ∧ TL = if setsF xs = 0 then thoseL (askJ xs) (xs.map Itm.l) else [])) :
    Calls Tryz.prog 41 #[.slice a xs.length c] w fun e w' => ∃ a' cap, e = .returned (.tuple #[.slice a' TL.length cap, .int .i64 SE]) ∧ (∀ W, (∀ g o u, w.heap.size ≤ g → w'.cell? ⟨g, o, none⟩ = some u → w'.frozen? ⟨g, o, none⟩ = false → W.cell? ⟨g, o, none⟩ = some u) → TextsAt W a' TL) ∧ Below w.heap.size w w' := by
  have HB : Hid (∀ W, Below w.heap.size w W → Calls Tryz.prog 102 #[.slice a xs.length c, .func (.func 104) #[] #[]] W fun e w' => ∃ a' cap, e = .returned (.tuple #[.slice a' TL.length cap, .int .i64 SE]) ∧ (∀ W', (∀ g o u, W.heap.size ≤ g → w'.cell? ⟨g, o, none⟩ = some u → w'.frozen? ⟨g, o, none⟩ = false → W'.cell? ⟨g, o, none⟩ = some u) → TextsAt W' a' TL) ∧ Below W.heap.size W w') := fun W hW => by
    by_cases hne : xs = []
    · subst hne
      obtain ⟨e1, e2⟩ := HS.out
      have h1 : SE = 1 := e1
      have h2 : TL = [] := e2
      subst h1 h2
      exact those_none a c _ W
    · have e : setsF xs = setsE xs := if_neg hne
      refine thoseJ_some (askJ xs) a c xs W (hx.below hW) hne hxl HSUM SE TL (by rw [← e]; exact HS.out) (fun W2 m n hW2 => ?_)
      exact askJ_any a c xs m n W2 (hx.below (hW.trans (hW2.mono hW.size))) hne hxl
  clear hx HS
  go_enter Tryz.func41, Tryz.ntmps41
  go_wp2_with fail
  refine (HB.out _ (Below.refl _ w)).mono ?_
  rintro e w1 ⟨a', cap, rfl, hT, hb⟩
  have HT := hide hT
  clear hT HB
  go_wp2_with fail
  refine bodyPost_ret (v := .tuple #[.slice a' TL.length cap, .int .i64 SE]) (by simp [results, Tryz.results41, go_sem]) rfl ⟨a', cap, rfl, fun W hW => HT.out W (fun g o u hg hu hf => hW g o u (hg) hu hf), hb⟩
/-- what less asks for -/
def askL1 (xs : List Itm) : ByteArray → Nat → Bool := fun m n => decide (n = 1) && hasT (xs.headD Itm.none).l m
set_option maxRecDepth 100000 in
set_option maxHeartbeats 1000000 in
theorem askL1_any (b : Nat) (a : Option Addr) (c : Nat) (xs : List Itm) (m : ByteArray) (n : Nat) (W : World) (hx : ItemsAt W a xs) (hne : xs ≠ []) (hxl : xs.length ≤ 1500000) (hc : W.cell? ⟨b, 0, none⟩ = some (.slice a xs.length c)) : Calls Tryz.prog 147 #[.string m, .int .i64 n, .pointer (some ⟨b, 0, none⟩)] W fun e w' => e = .returned (.bool (askL1 xs m n)) ∧ Below W.heap.size W w' := by
  obtain ⟨g, o, rfl, hcs⟩ := hx.resolve_left hne
  have hpos : 0 < xs.length := List.length_pos_iff.2 hne
  obtain ⟨a1, c1, a2, c2, a3, c3, ⟨-, -, d2, -, -⟩, hI⟩ := hcs 0 hpos
  rw [Nat.zero_mul, Nat.add_zero] at d2
  obtain ⟨hT1, hTn⟩ : TextsAt W a1 xs[0].l ∧ xs[0].l.length ≤ 281474976710656 := by
    obtain ⟨⟨b1, q1, b2, q2, b3, q3, e, t1, -, -⟩, -, -, -, -, hl1, -, -⟩ := hI
    injection e with e
    have e' := congrArg (fun z => z[2]?) e
    simp at e'
    obtain ⟨rfl, _⟩ := e'
    exact ⟨t1, hl1⟩
  have HN := hide (contains_any a1 c1 xs[0].l m W hT1 hTn)
  have hP : askL1 xs m n = (decide (n = 1) && hasT xs[0].l m) := by
    cases xs with
    | nil => exact absurd rfl hne
    | cons y r => rfl
  rw [hP]
  have hpos' : (0 : Int) < ((xs.length : Nat) : Int) := by omega
  clear hcs hI hT1 hP hne
  generalize xs[0].l.length = nl at *
  generalize hasT xs[0].l m = R at *
  by_cases hn : n = 1
  · subst hn
    rw [decide_eq_true rfl, Bool.true_and]
    go_enter Tryz.func147, Tryz.ntmps147
    go_wp2_with fail
    refine HN.out.mono ?_
    rintro e w1 ⟨rfl, rfl⟩
    go_wp2_with fail
    go_ret
    exact ⟨rfl, Below.refl _ _⟩
  · rw [decide_eq_false hn, Bool.false_and]
    have hn' : ¬ ((n : Nat) : Int) = 1 := by omega
    go_enter Tryz.func147, Tryz.ntmps147
    go_wp2_with fail
    go_ret
    exact ⟨rfl, Below.refl _ _⟩

set_option maxRecDepth 100000 in
set_option maxHeartbeats 1000000 in
theorem lessS_own2 (a : Option Addr) (c : Nat) (xs : List Itm) (w : World) (hx : ItemsAt w a xs) (hxl : xs.length ≤ 1500000) (HSUM : Hid ((xs.map Itm.l).flatten.length ≤ 1500000 ∨ xs.length ≤ 50000)) (SE : Int) (TL : List ByteArray) (HS : Hid (SE = setsF xs ∧ TL = if setsF xs = 0 then thoseL (askL1 xs) (xs.map Itm.l) else [])) :
    Calls Tryz.prog 77 #[.slice a xs.length c] w fun e w' => ∃ a' cap, e = .returned (.tuple #[.slice a' TL.length cap, .int .i64 SE]) ∧ (∀ W, (∀ g o u, w.heap.size ≤ g → w'.cell? ⟨g, o, none⟩ = some u → w'.frozen? ⟨g, o, none⟩ = false → W.cell? ⟨g, o, none⟩ = some u) → TextsAt W a' TL) ∧ Below w.heap.size w w' := by
  have HB : Hid (∀ W, ∀ b, W.cell? ⟨b, 0, none⟩ = some (.slice a xs.length c) → Below w.heap.size w W → Calls Tryz.prog 102 #[.slice a xs.length c, .func (.func 147) #[] #[.pointer (some ⟨b, 0, none⟩)]] W fun e w' => ∃ a' cap, e = .returned (.tuple #[.slice a' TL.length cap, .int .i64 SE]) ∧ (∀ W', (∀ g o u, W.heap.size ≤ g → w'.cell? ⟨g, o, none⟩ = some u → w'.frozen? ⟨g, o, none⟩ = false → W'.cell? ⟨g, o, none⟩ = some u) → TextsAt W' a' TL) ∧ Below W.heap.size W w') := fun W b hcb hW => by
    by_cases hne : xs = []
    · subst hne
      obtain ⟨e1, e2⟩ := HS.out
      have h1 : SE = 1 := e1
      have h2 : TL = [] := e2
      subst h1 h2
      exact those_none a c _ W
    · have e : setsF xs = setsE xs := if_neg hne
      refine thoseL_some b (askL1 xs) a c xs W (hx.below hW) hne hxl HSUM SE TL (by rw [← e]; exact HS.out) (fun W2 m n hW2 => ?_)
      exact askL1_any b a c xs m n W2 (hx.below (hW.trans (hW2.mono hW.size))) hne hxl ((hW2.cell (p := ⟨b, 0, none⟩) (World.block_lt_of_cell? _ _ hcb)).trans hcb)
  clear hx HS
  go_enter Tryz.func77, Tryz.ntmps77
  go_wp2_with fail
  refine (HB.out _ w.heap.size (by simp [go_sem]) ((Below.refl _ w).alloc (Nat.le_refl _) _)).mono ?_
  rintro e w1 ⟨a', cap, rfl, hT, hb⟩
  have HT := hide hT
  clear hT HB
  go_wp2_with fail
  refine bodyPost_ret (v := .tuple #[.slice a' TL.length cap, .int .i64 SE]) (by simp [results, Tryz.results77, go_sem]) rfl ⟨a', cap, rfl, fun W hW => HT.out W (fun g o u hg hu hf => hW g o u (by simp at hg; omega) hu hf), ((Below.refl _ w).alloc (Nat.le_refl _) _).trans (hb.mono (by simp))⟩
theorem meet_own (a : Option Addr) (c : Nat) (xs : List Itm) (w : World) (hx : ItemsAt w a xs) (hxl : xs.length ≤ 1500000) (hsum : (xs.map Itm.l).flatten.length ≤ 1500000) (SE : Int) (TL : List ByteArray) (HS : Hid (SE = setsF xs ∧ TL = if setsF xs = 0 then thoseL (askM xs) (xs.map Itm.l) else [])) :
    Calls Tryz.prog 40 #[.slice a xs.length c] w fun e w' => ∃ a' cap, e = .returned (.tuple #[.slice a' TL.length cap, .int .i64 SE]) ∧ (∀ W, (∀ g o u, w.heap.size ≤ g → w'.cell? ⟨g, o, none⟩ = some u → w'.frozen? ⟨g, o, none⟩ = false → W.cell? ⟨g, o, none⟩ = some u) → TextsAt W a' TL) ∧ Below w.heap.size w w' :=
  meet_own2 a c xs w hx hxl (hide (.inl hsum)) SE TL HS
theorem meet_any (a : Option Addr) (c : Nat) (xs : List Itm) (w : World) (hx : ItemsAt w a xs) (hxl : xs.length ≤ 1500000) (hsum : (xs.map Itm.l).flatten.length ≤ 1500000) (SE : Int) (TL : List ByteArray) (HS : Hid (SE = setsF xs ∧ TL = if setsF xs = 0 then thoseL (askM xs) (xs.map Itm.l) else [])) :
    Calls Tryz.prog 40 #[.slice a xs.length c] w fun e w' => ∃ a' cap, e = .returned (.tuple #[.slice a' TL.length cap, .int .i64 SE]) ∧ (∀ W, (∀ g o u, w.heap.size ≤ g → w'.cell? ⟨g, o, none⟩ = some u → W.cell? ⟨g, o, none⟩ = some u) → TextsAt W a' TL) ∧ Below w.heap.size w w' :=
  (meet_own a c xs w hx hxl hsum SE TL HS).mono fun _ _ ⟨a, c, he, hi, hb⟩ => ⟨a, c, he, fun W hW => hi W (fun g o u hg hu _ => hW g o u hg hu), hb⟩
theorem joinS_own (a : Option Addr) (c : Nat) (xs : List Itm) (w : World) (hx : ItemsAt w a xs) (hxl : xs.length ≤ 1500000) (hsum : (xs.map Itm.l).flatten.length ≤ 1500000) (SE : Int) (TL : List ByteArray) (HS : Hid (SE = setsF xs ∧ TL = if setsF xs = 0 then thoseL (askJ xs) (xs.map Itm.l) else [])) :
    Calls Tryz.prog 41 #[.slice a xs.length c] w fun e w' => ∃ a' cap, e = .returned (.tuple #[.slice a' TL.length cap, .int .i64 SE]) ∧ (∀ W, (∀ g o u, w.heap.size ≤ g → w'.cell? ⟨g, o, none⟩ = some u → w'.frozen? ⟨g, o, none⟩ = false → W.cell? ⟨g, o, none⟩ = some u) → TextsAt W a' TL) ∧ Below w.heap.size w w' :=
  joinS_own2 a c xs w hx hxl (hide (.inl hsum)) SE TL HS
theorem joinS_any (a : Option Addr) (c : Nat) (xs : List Itm) (w : World) (hx : ItemsAt w a xs) (hxl : xs.length ≤ 1500000) (hsum : (xs.map Itm.l).flatten.length ≤ 1500000) (SE : Int) (TL : List ByteArray) (HS : Hid (SE = setsF xs ∧ TL = if setsF xs = 0 then thoseL (askJ xs) (xs.map Itm.l) else [])) :
    Calls Tryz.prog 41 #[.slice a xs.length c] w fun e w' => ∃ a' cap, e = .returned (.tuple #[.slice a' TL.length cap, .int .i64 SE]) ∧ (∀ W, (∀ g o u, w.heap.size ≤ g → w'.cell? ⟨g, o, none⟩ = some u → W.cell? ⟨g, o, none⟩ = some u) → TextsAt W a' TL) ∧ Below w.heap.size w w' :=
  (joinS_own a c xs w hx hxl hsum SE TL HS).mono fun _ _ ⟨a, c, he, hi, hb⟩ => ⟨a, c, he, fun W hW => hi W (fun g o u hg hu _ => hW g o u hg hu), hb⟩
theorem lessS_own (a : Option Addr) (c : Nat) (xs : List Itm) (w : World) (hx : ItemsAt w a xs) (hxl : xs.length ≤ 1500000) (hsum : (xs.map Itm.l).flatten.length ≤ 1500000) (SE : Int) (TL : List ByteArray) (HS : Hid (SE = setsF xs ∧ TL = if setsF xs = 0 then thoseL (askL1 xs) (xs.map Itm.l) else [])) :
    Calls Tryz.prog 77 #[.slice a xs.length c] w fun e w' => ∃ a' cap, e = .returned (.tuple #[.slice a' TL.length cap, .int .i64 SE]) ∧ (∀ W, (∀ g o u, w.heap.size ≤ g → w'.cell? ⟨g, o, none⟩ = some u → w'.frozen? ⟨g, o, none⟩ = false → W.cell? ⟨g, o, none⟩ = some u) → TextsAt W a' TL) ∧ Below w.heap.size w w' :=
  lessS_own2 a c xs w hx hxl (hide (.inl hsum)) SE TL HS
theorem lessS_any (a : Option Addr) (c : Nat) (xs : List Itm) (w : World) (hx : ItemsAt w a xs) (hxl : xs.length ≤ 1500000) (hsum : (xs.map Itm.l).flatten.length ≤ 1500000) (SE : Int) (TL : List ByteArray) (HS : Hid (SE = setsF xs ∧ TL = if setsF xs = 0 then thoseL (askL1 xs) (xs.map Itm.l) else [])) :
    Calls Tryz.prog 77 #[.slice a xs.length c] w fun e w' => ∃ a' cap, e = .returned (.tuple #[.slice a' TL.length cap, .int .i64 SE]) ∧ (∀ W, (∀ g o u, w.heap.size ≤ g → w'.cell? ⟨g, o, none⟩ = some u → W.cell? ⟨g, o, none⟩ = some u) → TextsAt W a' TL) ∧ Below w.heap.size w w' :=
  (lessS_own a c xs w hx hxl hsum SE TL HS).mono fun _ _ ⟨a, c, he, hi, hb⟩ => ⟨a, c, he, fun W hW => hi W (fun g o u hg hu _ => hW g o u hg hu), hb⟩
end Go.Proofs.YtcidoodaiimhfaaGreat

/- WALK of setBegun. -/
namespace Go.Proofs.YtcidoodaiimhfaaGreat
open Go.RowKit

def sA : ByteArray := ⟨#[97]⟩
def sB : ByteArray := ⟨#[98]⟩
def tZ : ByteArray := ⟨#[122]⟩
def bgX : Itm := ⟨3, ⟨#[]⟩, [sA, sB], [], []⟩
def bgY : Itm := ⟨3, ⟨#[]⟩, [sB], [], []⟩
theorem tAB : lessT sA sB := by unfold lessT sA sB; decide
theorem none_as : asI Itm.none 3 = 0 := by
  have : Itm.none.isNone = true := by simp [Itm.isNone, Itm.none]
  rw [asI, if_pos this]
theorem set_as {l : List ByteArray} (hr : Rises l) (hne : l ≠ []) (h24 : l.length ≤ 24) (hz : ∀ t ∈ l, t.size ≤ 60) : asI ⟨3, ⟨#[]⟩, l, [], []⟩ 3 = 0 := by
  have h1 : chkI ⟨3, ⟨#[]⟩, l, [], []⟩ = 0 := by
    unfold chkI
    have ho : otherI ⟨3, ⟨#[]⟩, l, [], []⟩ = false := by simp [otherI]
    have hs : sizeT l.length (l.any longT) = 0 := by
      have h2 : l.any longT = false := by
        rw [List.any_eq_false]
        intro t ht
        have := hz t ht
        simp [longT]
        omega
      have h3 : l.length ≠ 0 := fun e => hne (List.eq_nil_of_length_eq_zero e)
      unfold sizeT
      rw [if_neg h3, if_neg (by simp [h2]; omega)]
    rw [if_neg (by simp), ho, if_neg (by decide), if_neg (by simp), if_pos rfl]
    unfold setT
    rw [if_neg (by simp [hs]), if_pos (riseTo_of_rises hr)]
  unfold asI
  split
  · rfl
  · rw [if_neg (by simp [h1]), if_neg (by simp)]
theorem rises_AB : Rises [sA, sB] := by simp [Rises, tAB]
theorem rises_B : Rises [sB] := by simp [Rises]
theorem short_A : sA.size = 1 := rfl
theorem short_B : sB.size = 1 := rfl
theorem bgX_as : asI bgX 3 = 0 := set_as rises_AB (by simp) (by simp) (by simp [short_A, short_B])
theorem bgY_as : asI bgY 3 = 0 := set_as rises_B (by simp) (by simp) (by simp [short_B])
theorem bg_addT : addT [] [sB, sA, sB] = [sA, sB] := rises_unique (rises_addT List.Pairwise.nil) rises_AB (fun x => by
  rw [mem_addT]
  simp
  exact fun h => .inr h)
theorem bg_add : addE Itm.none [sB, sA, sB] = 0 ∧ addN Itm.none [sB, sA, sB] = 2 ∧ addI Itm.none [sB, sA, sB] = bgX := by
  have e : Itm.none.l = [] := rfl
  have h1 : addE Itm.none [sB, sA, sB] = 0 := by
    rw [addE, if_neg (by simp [none_as]), e, bg_addT, if_neg (by simp [longT, short_A, short_B]), if_neg (by simp)]
  refine ⟨h1, ?_, ?_⟩
  · rw [addN, if_pos h1, e, bg_addT]; rfl
  · rw [addI, if_pos h1, e, bg_addT]; rfl
theorem ne_AB : ¬ sA = sB := fun e => lessT_irrefl sB (e ▸ tAB)
theorem ne_BA : ¬ sB = sA := fun e => ne_AB e.symm
theorem ne_BZ : ¬ sB = tZ := fun e => by
  have : sB.data = tZ.data := congrArg ByteArray.data e
  exact absurd this (by decide)
theorem bg_rem : remofN bgX 3 [sA, tZ] = 1 ∧ remofI bgX 3 [sA, tZ] = bgY := by
  have e : lessK bgX.l [sA, tZ] = [sB] := by
    rw [less_stay]
    have h1 : hasT [sA, tZ] sA = true := hasT_iff.2 (by simp)
    have h2 : hasT [sA, tZ] sB = false := hasT_not (by simp [ne_BA, ne_BZ])
    simp [stayL, bgX, h1, h2]
  rw [remofN, remofI, if_pos bgX_as, if_pos bgX_as, e]
  exact ⟨rfl, rfl⟩
theorem bg_has : hasE bgX sB = true := by
  rw [hasE, if_pos bgX_as]
  exact hasT_iff.2 (by simp [bgX])
theorem bg_E : setsF [bgX, bgY] = 0 := by
  rw [setsF, if_neg (by simp)]
  exact setsE_all (by simp [bgX_as, bgY_as])
theorem bg_cnt : cntL [[sA, sB], [sB]] sA = 1 ∧ cntL [[sA, sB], [sB]] sB = 2 := by
  have h1 : hasT [sA, sB] sA = true := hasT_iff.2 (by simp)
  have h2 : hasT [sB] sA = false := hasT_not (by simp [ne_AB])
  have h3 : hasT [sA, sB] sB = true := hasT_iff.2 (by simp)
  have h4 : hasT [sB] sB = true := hasT_iff.2 (by simp)
  simp [cntL, h1, h2, h3, h4]
theorem bg_meet : thoseL (askM [bgX, bgY]) ([bgX, bgY].map Itm.l) = [sB] := rises_unique (thoseL_rises _ _) rises_B (fun x => by
  rw [mem_thoseL]
  show (∃ l ∈ [[sA, sB], [sB]], x ∈ l) ∧ decide (cntL [[sA, sB], [sB]] x = 2) = true ↔ _
  rw [decide_eq_true_eq]
  simp
  constructor
  · rintro ⟨h | h, h2⟩
    · subst h; rw [bg_cnt.1] at h2; cases h2
    · exact h
  · intro h; subst h; exact ⟨.inr rfl, bg_cnt.2⟩)
theorem bg_join : thoseL (askJ [bgX, bgY]) ([bgX, bgY].map Itm.l) = [sA, sB] := rises_unique (thoseL_rises _ _) rises_AB (fun x => by
  rw [mem_thoseL]
  show (∃ l ∈ [[sA, sB], [sB]], x ∈ l) ∧ true = true ↔ _
  simp)
theorem bg_less : thoseL (askL1 [bgX, bgY]) ([bgX, bgY].map Itm.l) = [sA] := rises_unique (thoseL_rises _ _) (by simp [Rises]) (fun x => by
  rw [mem_thoseL]
  show (∃ l ∈ [[sA, sB], [sB]], x ∈ l) ∧ (decide (cntL [[sA, sB], [sB]] x = 1) && hasT [sA, sB] x) = true ↔ _
  rw [Bool.and_eq_true, decide_eq_true_eq, hasT_iff]
  simp
  constructor
  · rintro ⟨_, h2, h | h⟩
    · exact h
    · subst h; rw [bg_cnt.2] at h2; cases h2
  · intro h; subst h; exact ⟨.inl rfl, bg_cnt.1, .inl rfl⟩)
/-- two items laid side by side -/
theorem items_two {w : World} {X Y : Itm} {kX kY : Int} {tX tY : ByteArray} {aX1 aX2 aX3 aY1 aY2 aY3 : Option Addr} {nX1 nX2 nX3 nY1 nY2 nY3 cX1 cX2 cX3 cY1 cY2 cY3 : Nat} (hx : ItemIs w (.agg #[.int .i64 kX, .string tX, .slice aX1 nX1 cX1, .slice aX2 nX2 cX2, .slice aX3 nX3 cX3]) X) (hy : ItemIs w (.agg #[.int .i64 kY, .string tY, .slice aY1 nY1 cY1, .slice aY2 nY2 cY2, .slice aY3 nY3 cY3]) Y) (T : Nat) (g : Nat) (hg : g = w.heap.size) :
    ItemsAt (w.alloc (.cells #[.int .i64 kX, .string tX, .slice aX1 nX1 cX1, .slice aX2 nX2 cX2, .slice aX3 nX3 cX3, .int .i64 kY, .string tY, .slice aY1 nY1 cY1, .slice aY2 nY2 cY2, .slice aY3 nY3 cY3] T)) (some ⟨g, 0, none⟩) [X, Y] := by
  subst hg
  have hb : Below w.heap.size w (w.alloc (.cells #[.int .i64 kX, .string tX, .slice aX1 nX1 cX1, .slice aX2 nX2 cX2, .slice aX3 nX3 cX3, .int .i64 kY, .string tY, .slice aY1 nY1 cY1, .slice aY2 nY2 cY2, .slice aY3 nY3 cY3] T)) := (Below.refl _ _).alloc (Nat.le_refl _) _
  have hx' := hx
  have hy' := hy
  obtain ⟨⟨b1, q1, b2, q2, b3, q3, e, -, -, -⟩, -, -, -, -, -, -, -⟩ := hx'
  obtain ⟨⟨d1, r1, d2, r2, d3, r3, f, -, -, -⟩, -, -, -, -, -, -, -⟩ := hy'
  injection e with e
  injection f with f
  simp at e f
  obtain ⟨rfl, rfl, ⟨rfl, rfl, rfl⟩, ⟨rfl, rfl, rfl⟩, rfl, rfl, rfl⟩ := e
  obtain ⟨rfl, rfl, ⟨rfl, rfl, rfl⟩, ⟨rfl, rfl, rfl⟩, rfl, rfl, rfl⟩ := f
  refine .inr ⟨w.heap.size, 0, rfl, fun i hi => ?_⟩
  match i, hi with
  | 0, _ => exact ⟨_, _, _, _, _, _, ⟨by simp [go_sem], by simp [go_sem], by simp [go_sem], by simp [go_sem], by simp [go_sem]⟩, hx.below hb⟩
  | 1, _ => exact ⟨_, _, _, _, _, _, ⟨by simp [go_sem], by simp [go_sem], by simp [go_sem], by simp [go_sem], by simp [go_sem]⟩, hy.below hb⟩
theorem ItemIs.shapeS {w : World} {v : Value} {x : Itm} (h : ItemIs w v x) : ∃ k t a1 n1 c1 a2 n2 c2 a3 n3 c3, v = .agg #[.int .i64 k, .string t, .slice a1 n1 c1, .slice a2 n2 c2, .slice a3 n3 c3] := by
  obtain ⟨⟨a1, c1, a2, c2, a3, c3, e, -, -, -⟩, -, -, -, -, -, -, -⟩ := h
  exact ⟨_, _, _, _, _, _, _, _, _, _, _, e⟩
theorem ones_texts (w : World) (t1 : ByteArray) (T : TypeId) (g : Nat) (hg : g = w.heap.size) : TextsAt (w.alloc (.cells #[.string t1] T)) (some ⟨g, 0, none⟩) [t1] := by
  subst hg
  refine .inr ⟨w.heap.size, 0, rfl, fun i hi => ?_⟩
  match i, hi with
  | 0, _ => simp [go_sem]
theorem two_textsS (w : World) (t1 t2 : ByteArray) (T : TypeId) (g : Nat) (hg : g = w.heap.size) : TextsAt (w.alloc (.cells #[.string t1, .string t2] T)) (some ⟨g, 0, none⟩) [t1, t2] := by
  subst hg
  refine .inr ⟨w.heap.size, 0, rfl, fun i hi => ?_⟩
  match i, hi with
  | 0, _ => simp [go_sem]
  | 1, _ => simp [go_sem]
theorem three_texts (w : World) (t1 t2 t3 : ByteArray) (T : TypeId) (g : Nat) (hg : g = w.heap.size) : TextsAt (w.alloc (.cells #[.string t1, .string t2, .string t3] T)) (some ⟨g, 0, none⟩) [t1, t2, t3] := by
  subst hg
  refine .inr ⟨w.heap.size, 0, rfl, fun i hi => ?_⟩
  match i, hi with
  | 0, _ => simp [go_sem]
  | 1, _ => simp [go_sem]
  | 2, _ => simp [go_sem]
theorem short_txt : ∀ t ∈ [sB, sA, sB], t.size ≤ maxLen := by simp [short_A, short_B, maxLen]
set_option maxRecDepth 100000 in
set_option maxHeartbeats 8000000 in
theorem setBegun_any (w : World) : Calls Tryz.prog 28 #[] w fun e w' => e = .returned (.bool true) ∧ Below w.heap.size w w' := by
  have HA : Hid (∀ W ad, TextsAt W (some ad) [⟨#[98]⟩, ⟨#[97]⟩, ⟨#[98]⟩] → Calls Tryz.prog 38 #[.agg #[.int .i64 0, .string ⟨#[]⟩, .slice none 0 0, .slice none 0 0, .slice none 0 0], .slice (some ad) 3 3] W fun e w' => ∃ u, (e = .returned (.tuple #[u, .int .i64 2, .int .i64 0]) ∧ ItemIs w' u bgX) ∧ Below W.heap.size W w') := fun W ad h => by
    have hh := setAdd_any _ Itm.none (some ad) 3 [sB, sA, sB] W (zero_is W) h short_txt (by simp)
    rw [bg_add.1, bg_add.2.1, bg_add.2.2] at hh
    exact hh.mono fun e w' ⟨u, h1, h2, h3⟩ => ⟨u, ⟨h1, h2.is⟩, h3⟩
  have HR : Hid (∀ v W ad, ItemIs W v bgX → TextsAt W (some ad) [⟨#[97]⟩, ⟨#[122]⟩] → Calls Tryz.prog 39 #[v, .slice (some ad) 2 2] W fun e w' => ∃ u, (e = .returned (.tuple #[u, .int .i64 1, .int .i64 0]) ∧ ItemIs w' u bgY) ∧ Below W.heap.size W w') := fun v W ad hv h => by
    have hh := setRemove_any v bgX (some ad) 2 [sA, tZ] W hv h (by simp)
    rw [bg_rem.1, bg_rem.2, bgX_as] at hh
    exact hh.mono fun e w' ⟨u, h1, h2, h3⟩ => ⟨u, ⟨h1, h2.is⟩, h3⟩
  have HH : Hid (∀ v W, ItemIs W v bgX → Calls Tryz.prog 76 #[v, .string ⟨#[98]⟩] W fun e w' => e = .returned (.tuple #[.bool true, .int .i64 0]) ∧ Below W.heap.size W w') := fun v W hv => by
    have hh := has_any v bgX sB W hv
    rw [bg_has, bgX_as] at hh
    exact hh
  have HM : Hid (∀ W ad, ItemsAt W (some ad) [bgX, bgY] → Calls Tryz.prog 40 #[.slice (some ad) 2 2] W fun e w' => (∃ a c, e = .returned (.tuple #[.slice a 1 c, .int .i64 0]) ∧ TextsAt w' a [⟨#[98]⟩]) ∧ Below W.heap.size W w') := fun W ad h => (meet_any (some ad) 2 [bgX, bgY] W h (by simp) (by simp [bgX, bgY]) 0 [sB] ⟨bg_E.symm, by rw [if_pos bg_E, bg_meet]⟩).mono fun e w' ⟨a, c, h1, h2, h3⟩ => ⟨⟨a, c, h1, h2 w' (fun _ _ _ _ h => h)⟩, h3⟩
  have HJ : Hid (∀ W ad, ItemsAt W (some ad) [bgX, bgY] → Calls Tryz.prog 41 #[.slice (some ad) 2 2] W fun e w' => (∃ a c, e = .returned (.tuple #[.slice a 2 c, .int .i64 0]) ∧ TextsAt w' a [⟨#[97]⟩, ⟨#[98]⟩]) ∧ Below W.heap.size W w') := fun W ad h => (joinS_any (some ad) 2 [bgX, bgY] W h (by simp) (by simp [bgX, bgY]) 0 [sA, sB] ⟨bg_E.symm, by rw [if_pos bg_E, bg_join]⟩).mono fun e w' ⟨a, c, h1, h2, h3⟩ => ⟨⟨a, c, h1, h2 w' (fun _ _ _ _ h => h)⟩, h3⟩
  have HL : Hid (∀ W ad, ItemsAt W (some ad) [bgX, bgY] → Calls Tryz.prog 77 #[.slice (some ad) 2 2] W fun e w' => (∃ a c, e = .returned (.tuple #[.slice a 1 c, .int .i64 0]) ∧ TextsAt w' a [⟨#[97]⟩]) ∧ Below W.heap.size W w') := fun W ad h => (lessS_any (some ad) 2 [bgX, bgY] W h (by simp) (by simp [bgX, bgY]) 0 [sA] ⟨bg_E.symm, by rw [if_pos bg_E, bg_less]⟩).mono fun e w' ⟨a, c, h1, h2, h3⟩ => ⟨⟨a, c, h1, h2 w' (fun _ _ _ _ h => h)⟩, h3⟩
  have HSM : Hid (∀ a c b W, TextsAt W a [⟨#[98]⟩] → TextsAt W (some b) [⟨#[98]⟩] → Calls Tryz.prog 24 #[.slice a 1 c, .slice (some b) 1 1] W fun e w' => e = .returned (.bool true) ∧ Below W.heap.size W w') := fun a c b W h1 h2 => by
    have hh := sameT_any a (some b) c 1 _ _ W h1 h2 (by simp)
    rw [decide_eq_true rfl] at hh
    exact hh
  have HSJ : Hid (∀ a c b W, TextsAt W a [⟨#[97]⟩, ⟨#[98]⟩] → TextsAt W (some b) [⟨#[97]⟩, ⟨#[98]⟩] → Calls Tryz.prog 24 #[.slice a 2 c, .slice (some b) 2 2] W fun e w' => e = .returned (.bool true) ∧ Below W.heap.size W w') := fun a c b W h1 h2 => by
    have hh := sameT_any a (some b) c 2 _ _ W h1 h2 (by simp)
    rw [decide_eq_true rfl] at hh
    exact hh
  have HSL : Hid (∀ a c b W, TextsAt W a [⟨#[97]⟩] → TextsAt W (some b) [⟨#[97]⟩] → Calls Tryz.prog 24 #[.slice a 1 c, .slice (some b) 1 1] W fun e w' => e = .returned (.bool true) ∧ Below W.heap.size W w') := fun a c b W h1 h2 => by
    have hh := sameT_any a (some b) c 1 _ _ W h1 h2 (by simp)
    rw [decide_eq_true rfl] at hh
    exact hh
  go_enter Tryz.func28, Tryz.ntmps28
  go_wp2_with fail
  have C_0 : Below w.heap.size w (w.alloc (.cells #[.string ⟨#[98]⟩, .string ⟨#[97]⟩, .string ⟨#[98]⟩] 9)) := (Below.refl _ w).alloc (Nat.le_refl _) _
  refine (HA.out _ _ (by exact three_texts _ _ _ _ _ _ (by simp))).mono ?_
  rintro e w1 ⟨uX, ⟨rfl, iX⟩, hb1⟩
  have C_1 : Below w.heap.size w w1 := C_0.trans (hb1.mono C_0.size)
  clear C_0
  clear hb1
  obtain ⟨kX, tX, aX1, nX1, cX1, aX2, nX2, cX2, aX3, nX3, cX3, rfl⟩ := iX.shapeS
  have IX_3 := hide (iX)
  clear iX
  go_wp2_with fail
  have IX_4 := hide (IX_3.out.below ((Below.refl _ w1).alloc (Nat.le_refl _) (.cells #[.int .i64 kX, .string tX, .slice aX1 nX1 cX1, .slice aX2 nX2 cX2, .slice aX3 nX3 cX3] 28)))
  clear IX_3
  have C_5 : Below w.heap.size w (w1.alloc (.cells #[.int .i64 kX, .string tX, .slice aX1 nX1 cX1, .slice aX2 nX2 cX2, .slice aX3 nX3 cX3] 28)) := C_1.alloc C_1.size (.cells #[.int .i64 kX, .string tX, .slice aX1 nX1 cX1, .slice aX2 nX2 cX2, .slice aX3 nX3 cX3] 28)
  clear C_1
  have X_6 := hide (BoxAt.new w1 (.int .i64 kX) (.string tX) (.slice aX1 nX1 cX1) (.slice aX2 nX2 cX2) (.slice aX3 nX3 cX3) 28)
  have IX_7 := hide (IX_4.out.below ((Below.refl _ (w1.alloc (.cells #[.int .i64 kX, .string tX, .slice aX1 nX1 cX1, .slice aX2 nX2 cX2, .slice aX3 nX3 cX3] 28))).alloc (Nat.le_refl _) (.cells #[.string ⟨#[97]⟩, .string ⟨#[122]⟩] 9)))
  clear IX_4
  have X_8 := hide (X_6.out.below ((Below.refl _ (w1.alloc (.cells #[.int .i64 kX, .string tX, .slice aX1 nX1 cX1, .slice aX2 nX2 cX2, .slice aX3 nX3 cX3] 28))).alloc (Nat.le_refl _) (.cells #[.string ⟨#[97]⟩, .string ⟨#[122]⟩] 9)))
  clear X_6
  have C_9 : Below w.heap.size w ((w1.alloc (.cells #[.int .i64 kX, .string tX, .slice aX1 nX1 cX1, .slice aX2 nX2 cX2, .slice aX3 nX3 cX3] 28)).alloc (.cells #[.string ⟨#[97]⟩, .string ⟨#[122]⟩] 9)) := C_5.alloc C_5.size (.cells #[.string ⟨#[97]⟩, .string ⟨#[122]⟩] 9)
  clear C_5
  refine (HR.out _ _ _ IX_7.out (by exact two_textsS _ _ _ _ _ (by simp))).mono ?_
  rintro e w2 ⟨uY, ⟨rfl, iY⟩, hb2⟩
  have C_10 : Below w.heap.size w w2 := C_9.trans (hb2.mono C_9.size)
  clear C_9
  have IX_11 := hide (IX_7.out.below hb2)
  have X_11 := hide (X_8.out.below hb2)
  clear IX_7 X_8
  clear hb2
  obtain ⟨kY, tY, aY1, nY1, cY1, aY2, nY2, cY2, aY3, nY3, cY3, rfl⟩ := iY.shapeS
  have IY_12 := hide (iY)
  clear iY
  obtain ⟨xc0, xc1, xc2, xc3, xc4, xlt⟩ := X_11.out
  go_wp2_with fail
  have IX_13 := hide (IX_11.out.below ((Below.refl _ w2).alloc (Nat.le_refl _) (.cells #[.int .i64 kY, .string tY, .slice aY1 nY1 cY1, .slice aY2 nY2 cY2, .slice aY3 nY3 cY3] 28)))
  clear IX_11
  have X_14 := hide (X_11.out.below ((Below.refl _ w2).alloc (Nat.le_refl _) (.cells #[.int .i64 kY, .string tY, .slice aY1 nY1 cY1, .slice aY2 nY2 cY2, .slice aY3 nY3 cY3] 28)))
  clear X_11
  have IY_15 := hide (IY_12.out.below ((Below.refl _ w2).alloc (Nat.le_refl _) (.cells #[.int .i64 kY, .string tY, .slice aY1 nY1 cY1, .slice aY2 nY2 cY2, .slice aY3 nY3 cY3] 28)))
  clear IY_12
  have C_16 : Below w.heap.size w (w2.alloc (.cells #[.int .i64 kY, .string tY, .slice aY1 nY1 cY1, .slice aY2 nY2 cY2, .slice aY3 nY3 cY3] 28)) := C_10.alloc C_10.size (.cells #[.int .i64 kY, .string tY, .slice aY1 nY1 cY1, .slice aY2 nY2 cY2, .slice aY3 nY3 cY3] 28)
  clear C_10
  have Y_17 := hide (BoxAt.new w2 (.int .i64 kY) (.string tY) (.slice aY1 nY1 cY1) (.slice aY2 nY2 cY2) (.slice aY3 nY3 cY3) 28)
  refine (HH.out _ _ IX_13.out).mono ?_
  rintro e w3 ⟨rfl, hb3⟩
  clear xc0 xc1 xc2 xc3 xc4 xlt
  have C_18 : Below w.heap.size w w3 := C_16.trans (hb3.mono C_16.size)
  clear C_16
  have IX_19 := hide (IX_13.out.below hb3)
  have X_19 := hide (X_14.out.below hb3)
  have IY_19 := hide (IY_15.out.below hb3)
  have Y_19 := hide (Y_17.out.below hb3)
  clear IX_13 X_14 IY_15 Y_17
  clear hb3
  obtain ⟨xc0, xc1, xc2, xc3, xc4, xlt⟩ := X_19.out
  obtain ⟨yc0, yc1, yc2, yc3, yc4, ylt⟩ := Y_19.out
  go_wp2_with fail
  have IT := hide (items_two IX_19.out IY_19.out 28 w3.heap.size rfl)
  have IX_20 := hide (IX_19.out.below ((Below.refl _ w3).alloc (Nat.le_refl _) (.cells #[.int .i64 kX, .string tX, .slice aX1 nX1 cX1, .slice aX2 nX2 cX2, .slice aX3 nX3 cX3, .int .i64 kY, .string tY, .slice aY1 nY1 cY1, .slice aY2 nY2 cY2, .slice aY3 nY3 cY3] 28)))
  clear IX_19
  have X_21 := hide (X_19.out.below ((Below.refl _ w3).alloc (Nat.le_refl _) (.cells #[.int .i64 kX, .string tX, .slice aX1 nX1 cX1, .slice aX2 nX2 cX2, .slice aX3 nX3 cX3, .int .i64 kY, .string tY, .slice aY1 nY1 cY1, .slice aY2 nY2 cY2, .slice aY3 nY3 cY3] 28)))
  clear X_19
  have IY_22 := hide (IY_19.out.below ((Below.refl _ w3).alloc (Nat.le_refl _) (.cells #[.int .i64 kX, .string tX, .slice aX1 nX1 cX1, .slice aX2 nX2 cX2, .slice aX3 nX3 cX3, .int .i64 kY, .string tY, .slice aY1 nY1 cY1, .slice aY2 nY2 cY2, .slice aY3 nY3 cY3] 28)))
  clear IY_19
  have Y_23 := hide (Y_19.out.below ((Below.refl _ w3).alloc (Nat.le_refl _) (.cells #[.int .i64 kX, .string tX, .slice aX1 nX1 cX1, .slice aX2 nX2 cX2, .slice aX3 nX3 cX3, .int .i64 kY, .string tY, .slice aY1 nY1 cY1, .slice aY2 nY2 cY2, .slice aY3 nY3 cY3] 28)))
  clear Y_19
  have C_24 : Below w.heap.size w (w3.alloc (.cells #[.int .i64 kX, .string tX, .slice aX1 nX1 cX1, .slice aX2 nX2 cX2, .slice aX3 nX3 cX3, .int .i64 kY, .string tY, .slice aY1 nY1 cY1, .slice aY2 nY2 cY2, .slice aY3 nY3 cY3] 28)) := C_18.alloc C_18.size (.cells #[.int .i64 kX, .string tX, .slice aX1 nX1 cX1, .slice aX2 nX2 cX2, .slice aX3 nX3 cX3, .int .i64 kY, .string tY, .slice aY1 nY1 cY1, .slice aY2 nY2 cY2, .slice aY3 nY3 cY3] 28)
  clear C_18
  refine (HM.out _ _ IT.out).mono ?_
  rintro e w4 ⟨⟨aM, cM, rfl, iM⟩, hb4⟩
  clear xc0 xc1 xc2 xc3 xc4 xlt yc0 yc1 yc2 yc3 yc4 ylt
  have C_25 : Below w.heap.size w w4 := C_24.trans (hb4.mono C_24.size)
  clear C_24
  have IX_26 := hide (IX_20.out.below hb4)
  have X_26 := hide (X_21.out.below hb4)
  have IY_26 := hide (IY_22.out.below hb4)
  have Y_26 := hide (Y_23.out.below hb4)
  clear IX_20 X_21 IY_22 Y_23
  clear hb4
  clear IT
  have TM_27 := hide (iM)
  clear iM
  obtain ⟨xc0, xc1, xc2, xc3, xc4, xlt⟩ := X_26.out
  obtain ⟨yc0, yc1, yc2, yc3, yc4, ylt⟩ := Y_26.out
  go_wp2_with fail
  have IT := hide (items_two IX_26.out IY_26.out 28 w4.heap.size rfl)
  have IX_28 := hide (IX_26.out.below ((Below.refl _ w4).alloc (Nat.le_refl _) (.cells #[.int .i64 kX, .string tX, .slice aX1 nX1 cX1, .slice aX2 nX2 cX2, .slice aX3 nX3 cX3, .int .i64 kY, .string tY, .slice aY1 nY1 cY1, .slice aY2 nY2 cY2, .slice aY3 nY3 cY3] 28)))
  clear IX_26
  have X_29 := hide (X_26.out.below ((Below.refl _ w4).alloc (Nat.le_refl _) (.cells #[.int .i64 kX, .string tX, .slice aX1 nX1 cX1, .slice aX2 nX2 cX2, .slice aX3 nX3 cX3, .int .i64 kY, .string tY, .slice aY1 nY1 cY1, .slice aY2 nY2 cY2, .slice aY3 nY3 cY3] 28)))
  clear X_26
  have IY_30 := hide (IY_26.out.below ((Below.refl _ w4).alloc (Nat.le_refl _) (.cells #[.int .i64 kX, .string tX, .slice aX1 nX1 cX1, .slice aX2 nX2 cX2, .slice aX3 nX3 cX3, .int .i64 kY, .string tY, .slice aY1 nY1 cY1, .slice aY2 nY2 cY2, .slice aY3 nY3 cY3] 28)))
  clear IY_26
  have Y_31 := hide (Y_26.out.below ((Below.refl _ w4).alloc (Nat.le_refl _) (.cells #[.int .i64 kX, .string tX, .slice aX1 nX1 cX1, .slice aX2 nX2 cX2, .slice aX3 nX3 cX3, .int .i64 kY, .string tY, .slice aY1 nY1 cY1, .slice aY2 nY2 cY2, .slice aY3 nY3 cY3] 28)))
  clear Y_26
  have TM_32 := hide (TM_27.out.below ((Below.refl _ w4).alloc (Nat.le_refl _) (.cells #[.int .i64 kX, .string tX, .slice aX1 nX1 cX1, .slice aX2 nX2 cX2, .slice aX3 nX3 cX3, .int .i64 kY, .string tY, .slice aY1 nY1 cY1, .slice aY2 nY2 cY2, .slice aY3 nY3 cY3] 28)))
  clear TM_27
  have C_33 : Below w.heap.size w (w4.alloc (.cells #[.int .i64 kX, .string tX, .slice aX1 nX1 cX1, .slice aX2 nX2 cX2, .slice aX3 nX3 cX3, .int .i64 kY, .string tY, .slice aY1 nY1 cY1, .slice aY2 nY2 cY2, .slice aY3 nY3 cY3] 28)) := C_25.alloc C_25.size (.cells #[.int .i64 kX, .string tX, .slice aX1 nX1 cX1, .slice aX2 nX2 cX2, .slice aX3 nX3 cX3, .int .i64 kY, .string tY, .slice aY1 nY1 cY1, .slice aY2 nY2 cY2, .slice aY3 nY3 cY3] 28)
  clear C_25
  refine (HJ.out _ _ IT.out).mono ?_
  rintro e w5 ⟨⟨aJ, cJ, rfl, iJ⟩, hb5⟩
  clear xc0 xc1 xc2 xc3 xc4 xlt yc0 yc1 yc2 yc3 yc4 ylt
  have C_34 : Below w.heap.size w w5 := C_33.trans (hb5.mono C_33.size)
  clear C_33
  have IX_35 := hide (IX_28.out.below hb5)
  have X_35 := hide (X_29.out.below hb5)
  have IY_35 := hide (IY_30.out.below hb5)
  have Y_35 := hide (Y_31.out.below hb5)
  have TM_35 := hide (TM_32.out.below hb5)
  clear IX_28 X_29 IY_30 Y_31 TM_32
  clear hb5
  clear IT
  have TJ_36 := hide (iJ)
  clear iJ
  obtain ⟨xc0, xc1, xc2, xc3, xc4, xlt⟩ := X_35.out
  obtain ⟨yc0, yc1, yc2, yc3, yc4, ylt⟩ := Y_35.out
  go_wp2_with fail
  have IT := hide (items_two IX_35.out IY_35.out 28 w5.heap.size rfl)
  have IX_37 := hide (IX_35.out.below ((Below.refl _ w5).alloc (Nat.le_refl _) (.cells #[.int .i64 kX, .string tX, .slice aX1 nX1 cX1, .slice aX2 nX2 cX2, .slice aX3 nX3 cX3, .int .i64 kY, .string tY, .slice aY1 nY1 cY1, .slice aY2 nY2 cY2, .slice aY3 nY3 cY3] 28)))
  clear IX_35
  have X_38 := hide (X_35.out.below ((Below.refl _ w5).alloc (Nat.le_refl _) (.cells #[.int .i64 kX, .string tX, .slice aX1 nX1 cX1, .slice aX2 nX2 cX2, .slice aX3 nX3 cX3, .int .i64 kY, .string tY, .slice aY1 nY1 cY1, .slice aY2 nY2 cY2, .slice aY3 nY3 cY3] 28)))
  clear X_35
  have IY_39 := hide (IY_35.out.below ((Below.refl _ w5).alloc (Nat.le_refl _) (.cells #[.int .i64 kX, .string tX, .slice aX1 nX1 cX1, .slice aX2 nX2 cX2, .slice aX3 nX3 cX3, .int .i64 kY, .string tY, .slice aY1 nY1 cY1, .slice aY2 nY2 cY2, .slice aY3 nY3 cY3] 28)))
  clear IY_35
  have Y_40 := hide (Y_35.out.below ((Below.refl _ w5).alloc (Nat.le_refl _) (.cells #[.int .i64 kX, .string tX, .slice aX1 nX1 cX1, .slice aX2 nX2 cX2, .slice aX3 nX3 cX3, .int .i64 kY, .string tY, .slice aY1 nY1 cY1, .slice aY2 nY2 cY2, .slice aY3 nY3 cY3] 28)))
  clear Y_35
  have TM_41 := hide (TM_35.out.below ((Below.refl _ w5).alloc (Nat.le_refl _) (.cells #[.int .i64 kX, .string tX, .slice aX1 nX1 cX1, .slice aX2 nX2 cX2, .slice aX3 nX3 cX3, .int .i64 kY, .string tY, .slice aY1 nY1 cY1, .slice aY2 nY2 cY2, .slice aY3 nY3 cY3] 28)))
  clear TM_35
  have TJ_42 := hide (TJ_36.out.below ((Below.refl _ w5).alloc (Nat.le_refl _) (.cells #[.int .i64 kX, .string tX, .slice aX1 nX1 cX1, .slice aX2 nX2 cX2, .slice aX3 nX3 cX3, .int .i64 kY, .string tY, .slice aY1 nY1 cY1, .slice aY2 nY2 cY2, .slice aY3 nY3 cY3] 28)))
  clear TJ_36
  have C_43 : Below w.heap.size w (w5.alloc (.cells #[.int .i64 kX, .string tX, .slice aX1 nX1 cX1, .slice aX2 nX2 cX2, .slice aX3 nX3 cX3, .int .i64 kY, .string tY, .slice aY1 nY1 cY1, .slice aY2 nY2 cY2, .slice aY3 nY3 cY3] 28)) := C_34.alloc C_34.size (.cells #[.int .i64 kX, .string tX, .slice aX1 nX1 cX1, .slice aX2 nX2 cX2, .slice aX3 nX3 cX3, .int .i64 kY, .string tY, .slice aY1 nY1 cY1, .slice aY2 nY2 cY2, .slice aY3 nY3 cY3] 28)
  clear C_34
  refine (HL.out _ _ IT.out).mono ?_
  rintro e w6 ⟨⟨aL, cL, rfl, iL⟩, hb6⟩
  clear xc0 xc1 xc2 xc3 xc4 xlt yc0 yc1 yc2 yc3 yc4 ylt
  have C_44 : Below w.heap.size w w6 := C_43.trans (hb6.mono C_43.size)
  clear C_43
  have IX_45 := hide (IX_37.out.below hb6)
  have X_45 := hide (X_38.out.below hb6)
  have IY_45 := hide (IY_39.out.below hb6)
  have Y_45 := hide (Y_40.out.below hb6)
  have TM_45 := hide (TM_41.out.below hb6)
  have TJ_45 := hide (TJ_42.out.below hb6)
  clear IX_37 X_38 IY_39 Y_40 TM_41 TJ_42
  clear hb6
  clear IT
  have TL_46 := hide (iL)
  clear iL
  go_wp2_with fail
  have IX_47 := hide (IX_45.out.below ((Below.refl _ w6).alloc (Nat.le_refl _) (.cells #[.string ⟨#[98]⟩] 9)))
  clear IX_45
  have X_48 := hide (X_45.out.below ((Below.refl _ w6).alloc (Nat.le_refl _) (.cells #[.string ⟨#[98]⟩] 9)))
  clear X_45
  have IY_49 := hide (IY_45.out.below ((Below.refl _ w6).alloc (Nat.le_refl _) (.cells #[.string ⟨#[98]⟩] 9)))
  clear IY_45
  have Y_50 := hide (Y_45.out.below ((Below.refl _ w6).alloc (Nat.le_refl _) (.cells #[.string ⟨#[98]⟩] 9)))
  clear Y_45
  have TM_51 := hide (TM_45.out.below ((Below.refl _ w6).alloc (Nat.le_refl _) (.cells #[.string ⟨#[98]⟩] 9)))
  clear TM_45
  have TJ_52 := hide (TJ_45.out.below ((Below.refl _ w6).alloc (Nat.le_refl _) (.cells #[.string ⟨#[98]⟩] 9)))
  clear TJ_45
  have TL_53 := hide (TL_46.out.below ((Below.refl _ w6).alloc (Nat.le_refl _) (.cells #[.string ⟨#[98]⟩] 9)))
  clear TL_46
  have C_54 : Below w.heap.size w (w6.alloc (.cells #[.string ⟨#[98]⟩] 9)) := C_44.alloc C_44.size (.cells #[.string ⟨#[98]⟩] 9)
  clear C_44
  refine (HSM.out _ _ _ _ TM_51.out (by exact ones_texts _ _  _ _ (by simp))).mono ?_
  rintro e w7 ⟨rfl, hb7⟩
  have C_55 : Below w.heap.size w w7 := C_54.trans (hb7.mono C_54.size)
  clear C_54
  have IX_56 := hide (IX_47.out.below hb7)
  have X_56 := hide (X_48.out.below hb7)
  have IY_56 := hide (IY_49.out.below hb7)
  have Y_56 := hide (Y_50.out.below hb7)
  have TM_56 := hide (TM_51.out.below hb7)
  have TJ_56 := hide (TJ_52.out.below hb7)
  have TL_56 := hide (TL_53.out.below hb7)
  clear IX_47 X_48 IY_49 Y_50 TM_51 TJ_52 TL_53
  clear hb7
  go_wp2_with fail
  have IX_57 := hide (IX_56.out.below ((Below.refl _ w7).alloc (Nat.le_refl _) (.cells #[.string ⟨#[97]⟩, .string ⟨#[98]⟩] 9)))
  clear IX_56
  have X_58 := hide (X_56.out.below ((Below.refl _ w7).alloc (Nat.le_refl _) (.cells #[.string ⟨#[97]⟩, .string ⟨#[98]⟩] 9)))
  clear X_56
  have IY_59 := hide (IY_56.out.below ((Below.refl _ w7).alloc (Nat.le_refl _) (.cells #[.string ⟨#[97]⟩, .string ⟨#[98]⟩] 9)))
  clear IY_56
  have Y_60 := hide (Y_56.out.below ((Below.refl _ w7).alloc (Nat.le_refl _) (.cells #[.string ⟨#[97]⟩, .string ⟨#[98]⟩] 9)))
  clear Y_56
  have TM_61 := hide (TM_56.out.below ((Below.refl _ w7).alloc (Nat.le_refl _) (.cells #[.string ⟨#[97]⟩, .string ⟨#[98]⟩] 9)))
  clear TM_56
  have TJ_62 := hide (TJ_56.out.below ((Below.refl _ w7).alloc (Nat.le_refl _) (.cells #[.string ⟨#[97]⟩, .string ⟨#[98]⟩] 9)))
  clear TJ_56
  have TL_63 := hide (TL_56.out.below ((Below.refl _ w7).alloc (Nat.le_refl _) (.cells #[.string ⟨#[97]⟩, .string ⟨#[98]⟩] 9)))
  clear TL_56
  have C_64 : Below w.heap.size w (w7.alloc (.cells #[.string ⟨#[97]⟩, .string ⟨#[98]⟩] 9)) := C_55.alloc C_55.size (.cells #[.string ⟨#[97]⟩, .string ⟨#[98]⟩] 9)
  clear C_55
  refine (HSJ.out _ _ _ _ TJ_62.out (by exact two_textsS _ _ _  _ _ (by simp))).mono ?_
  rintro e w8 ⟨rfl, hb8⟩
  have C_65 : Below w.heap.size w w8 := C_64.trans (hb8.mono C_64.size)
  clear C_64
  have IX_66 := hide (IX_57.out.below hb8)
  have X_66 := hide (X_58.out.below hb8)
  have IY_66 := hide (IY_59.out.below hb8)
  have Y_66 := hide (Y_60.out.below hb8)
  have TM_66 := hide (TM_61.out.below hb8)
  have TJ_66 := hide (TJ_62.out.below hb8)
  have TL_66 := hide (TL_63.out.below hb8)
  clear IX_57 X_58 IY_59 Y_60 TM_61 TJ_62 TL_63
  clear hb8
  go_wp2_with fail
  have IX_67 := hide (IX_66.out.below ((Below.refl _ w8).alloc (Nat.le_refl _) (.cells #[.string ⟨#[97]⟩] 9)))
  clear IX_66
  have X_68 := hide (X_66.out.below ((Below.refl _ w8).alloc (Nat.le_refl _) (.cells #[.string ⟨#[97]⟩] 9)))
  clear X_66
  have IY_69 := hide (IY_66.out.below ((Below.refl _ w8).alloc (Nat.le_refl _) (.cells #[.string ⟨#[97]⟩] 9)))
  clear IY_66
  have Y_70 := hide (Y_66.out.below ((Below.refl _ w8).alloc (Nat.le_refl _) (.cells #[.string ⟨#[97]⟩] 9)))
  clear Y_66
  have TM_71 := hide (TM_66.out.below ((Below.refl _ w8).alloc (Nat.le_refl _) (.cells #[.string ⟨#[97]⟩] 9)))
  clear TM_66
  have TJ_72 := hide (TJ_66.out.below ((Below.refl _ w8).alloc (Nat.le_refl _) (.cells #[.string ⟨#[97]⟩] 9)))
  clear TJ_66
  have TL_73 := hide (TL_66.out.below ((Below.refl _ w8).alloc (Nat.le_refl _) (.cells #[.string ⟨#[97]⟩] 9)))
  clear TL_66
  have C_74 : Below w.heap.size w (w8.alloc (.cells #[.string ⟨#[97]⟩] 9)) := C_65.alloc C_65.size (.cells #[.string ⟨#[97]⟩] 9)
  clear C_65
  refine (HSL.out _ _ _ _ TL_73.out (by exact ones_texts _ _  _ _ (by simp))).mono ?_
  rintro e w9 ⟨rfl, hb9⟩
  have C_75 : Below w.heap.size w w9 := C_74.trans (hb9.mono C_74.size)
  clear C_74
  have IX_76 := hide (IX_67.out.below hb9)
  have X_76 := hide (X_68.out.below hb9)
  have IY_76 := hide (IY_69.out.below hb9)
  have Y_76 := hide (Y_70.out.below hb9)
  have TM_76 := hide (TM_71.out.below hb9)
  have TJ_76 := hide (TJ_72.out.below hb9)
  have TL_76 := hide (TL_73.out.below hb9)
  clear IX_67 X_68 IY_69 Y_70 TM_71 TJ_72 TL_73
  clear hb9
  go_wp2_with fail
  go_ret
  exact ⟨rfl, C_75⟩
end Go.Proofs.YtcidoodaiimhfaaGreat

/- WALK of the reference: what comes must be. -/
namespace Go.Proofs.YtcidoodaiimhfaaGreat
open Go.RowKit

/-- what is wrong with some that come -/
def someE (l : List ByteArray) : Int := if l = [] then 1 else if l.any longT = true then 2 else 0
set_option maxRecDepth 100000 in
set_option maxHeartbeats 1000000 in
theorem checkSome_any (a : Option Addr) (cap : Nat) (ts : List ByteArray) (w : World) (hs : TextsAt w a ts) (hn : ts.length ≤ 281474976710656) :
    Calls Tryz.prog 83 #[.slice a ts.length cap] w fun e w' => e = .returned (.int .i64 (someE ts)) ∧ w' = w := by
  by_cases h0 : ts = []
  · subst h0
    go_enter Tryz.func83, Tryz.ntmps83
    go_wp2_with fail
    go_ret
    exact ⟨rfl, rfl⟩
  · have HS := hide hs
    have hpos : 0 < ts.length := List.length_pos_iff.2 h0
    have h0' : (((ts.length : Nat) : Int) == 0) = false := by rw [beq_eq_false_iff_ne]; omega
    have HE2 : Hid (ts.any longT = true → someE ts = 2) := fun h => by rw [someE, if_neg h0, if_pos h]
    have HE0 : Hid (ts.any longT = false → someE ts = 0) := fun h => by rw [someE, if_neg h0, if_neg (by rw [h]; decide)]
    clear hs h0
    go_enter Tryz.func83, Tryz.ntmps83
    go_wp2_with fail
    go_loop [3] (fun i => ∃ k : Nat, k ≤ ts.length ∧ i = .int .i64 k ∧ Hid ((ts.take k).any longT = false)) (fun i => ts.length - (intOf i).toNat)
    case atStart => exact ⟨0, Nat.zero_le _, rfl, by simp [Hid]⟩
    case round =>
      obtain ⟨k, hk, rfl, HA⟩ := hrel
      by_cases hlt : k < ts.length
      · have hlt' : ((k : Nat) : Int) < ((ts.length : Nat) : Int) := by omega
        obtain ⟨g, o, rfl, hcs⟩ : ∃ g o, a = some ⟨g, o, none⟩ ∧ ∀ i (h : i < ts.length), w.cell? ⟨g, o + i, none⟩ = some (.string ts[i]) := by
          rcases HS.out with h | h
          · subst h; simp at hlt
          · exact h
        have d0 : w.cell? ⟨g, o + k, none⟩ = some (.string ts[k]) := hcs k hlt
        have HT : Hid (longT ts[k] = false → (ts.take (k + 1)).any longT = false) := fun hx => by
          rw [List.take_succ_eq_append_getElem hlt, List.any_append, HA.out]
          simp [hx]
        have HF : Hid (longT ts[k] = true → ts.any longT = true) := fun hx => List.any_eq_true.mpr ⟨ts[k], List.getElem_mem hlt, hx⟩
        clear hcs HS
        generalize ts[k] = X at *
        by_cases hX : 60 < X.size
        · have HF' := hide (HE2.out (HF.out (by unfold longT; exact decide_eq_true hX)))
          have hX' : (60 : Int) < ((X.size : Nat) : Int) := by omega
          clear HT HF HE2 HE0
          go_wp2_with fail
          go_ret
          rw [HF'.out]
          exact ⟨rfl, rfl⟩
        · have HT' := hide (HT.out (by unfold longT; exact decide_eq_false hX))
          have hX' : ¬ (60 : Int) < ((X.size : Nat) : Int) := by omega
          clear HT HF
          go_wp2_with fail
          go_round
          case rel => exact ⟨k + 1, by omega, by go_num, HT'⟩
          case measure => simp [intOf]; omega
      · have hge : ¬ ((k : Nat) : Int) < ((ts.length : Nat) : Int) := by omega
        obtain rfl : k = ts.length := by omega
        have HY : Hid (someE ts = 0) := by have := HA.out; rw [List.take_length] at this; exact HE0.out this
        clear HE2 HE0
        go_wp2_with fail
        go_ret
        rw [HY.out]
        exact ⟨rfl, rfl⟩
end Go.Proofs.YtcidoodaiimhfaaGreat

/- WALK of the reference's IsNothing. -/
namespace Go.Proofs.YtcidoodaiimhfaaGreat
open Go.RowKit

theorem refNothing_any (k : Int) (t : ByteArray) (a1 a2 a3 : Option Addr) (n1 n2 n3 c1 c2 c3 : Nat) (w : World) (h1 : n1 ≤ 281474976710656) (h2 : n2 ≤ 281474976710656) (h3 : n3 ≤ 281474976710656) :
    Calls Tryz.prog 12 #[.agg #[.int .i64 k, .string t, .slice a1 n1 c1, .slice a2 n2 c2, .slice a3 n3 c3]] w fun e w' => e = .returned (.bool (decide (k = 0 ∧ t.toList = [] ∧ n1 = 0 ∧ n2 = 0 ∧ n3 = 0))) ∧ Below w.heap.size w w' := by
  go_enter Tryz.func12, Tryz.ntmps12
  go_wp2
  all_goals go_ret
  all_goals refine ⟨?_, (Below.refl _ _).alloc (Nat.le_refl _) _⟩
  all_goals first | (simp [*]; done) | (simp [*]; rw [Bool.eq_iff_iff]; simp; omega)

end Go.Proofs.YtcidoodaiimhfaaGreat

/- WALK of the reference's CheckAs. -/
namespace Go.Proofs.YtcidoodaiimhfaaGreat
open Go.RowKit

theorem isNone_len' (x : Itm) : decide (x.k = 0 ∧ x.t.toList = [] ∧ x.l.length = 0 ∧ x.p.length = 0 ∧ x.s.length = 0) = x.isNone := by
  unfold Itm.isNone
  simp
set_option maxRecDepth 100000 in
set_option maxHeartbeats 4000000 in
theorem refAs_any (v : Value) (x : Itm) (kind : Int) (w : World) (h : ItemIs w v x) :
    Calls Tryz.prog 82 #[v, .int .i64 kind] w fun e w' => e = .returned (.int .i64 (asI x kind)) ∧ Below w.heap.size w w' := by
  have HI := hide h
  obtain ⟨⟨a1, c1, a2, c2, a3, c3, rfl, -, -, -⟩, -, -, -, -, ll, pl, sl⟩ := h
  have HN : Hid (∀ W, Calls Tryz.prog 12 #[.agg #[.int .i64 x.k, .string x.t, .slice a1 x.l.length c1, .slice a2 x.p.length c2, .slice a3 x.s.length c3]] W fun e w' => e = .returned (.bool x.isNone) ∧ Below W.heap.size W w') := fun W => by rw [← isNone_len']; exact refNothing_any x.k x.t a1 a2 a3 x.l.length x.p.length x.s.length c1 c2 c3 W ll pl sl
  have HC : Hid (∀ W, Below w.heap.size w W → Calls Tryz.prog 13 #[.agg #[.int .i64 x.k, .string x.t, .slice a1 x.l.length c1, .slice a2 x.p.length c2, .slice a3 x.s.length c3]] W fun e w' => e = .returned (.int .i64 (chkI x)) ∧ Below W.heap.size W w') := fun W hW => refCheck_any _ x W (HI.out.below hW)
  clear HI ll pl sl
  cases hn : x.isNone with
  | true =>
    have hv : asI x kind = 0 := by rw [asI, if_pos hn]
    rw [hv]
    rw [hn] at HN
    clear hv hn
    go_enter Tryz.func82, Tryz.ntmps82
    go_wp2_with fail
    refine (HN.out _).mono ?_
    rintro e w1 ⟨rfl, hb1⟩
    go_wp2_with fail
    go_ret
    exact ⟨rfl, ((Below.refl _ w).alloc (Nat.le_refl _) _).trans (hb1.mono (by simp))⟩
  | false =>
    have hv : asI x kind = if chkI x ≠ 0 then chkI x else if x.k ≠ kind then 7 else 0 := by rw [asI, if_neg (by rw [hn]; decide)]
    rw [hv]
    rw [hn] at HN
    clear hv hn
    generalize chkI x = C at *
    generalize x.l.length = n1 at *
    generalize x.p.length = n2 at *
    generalize x.s.length = n3 at *
    generalize x.k = k at *
    generalize x.t = t at *
    by_cases h0 : C = 0
    · subst h0
      rw [if_neg (by simp)]
      by_cases hk : k = kind
      · subst hk
        rw [if_neg (by simp)]
        go_enter Tryz.func82, Tryz.ntmps82
        go_wp2_with fail
        refine (HN.out _).mono ?_
        rintro e w1 ⟨rfl, hb1⟩
        obtain ⟨hc, hf⟩ := bcell hb1
        have hz : w.heap.size < w1.heap.size := by have := hb1.size; simp at this; omega
        have hB1 : Below w.heap.size w w1 := ((Below.refl _ w).alloc (Nat.le_refl _) _).trans (hb1.mono (by simp))
        go_wp2_with fail
        refine (HC.out w1 hB1).mono ?_
        rintro e w2 ⟨rfl, hb2⟩
        obtain ⟨hc2, hf2⟩ := bcell hb2
        have hz2 : w.heap.size < w2.heap.size := by have := hb2.size; omega
        have hB2 : Below w.heap.size w w2 := hB1.trans (hb2.mono hB1.size)
        go_wp2_with fail
        go_ret
        exact ⟨rfl, hB2⟩
      · rw [if_pos hk]
        have hk' : (k == kind) = false := by rw [beq_eq_false_iff_ne]; exact hk
        go_enter Tryz.func82, Tryz.ntmps82
        go_wp2_with fail
        refine (HN.out _).mono ?_
        rintro e w1 ⟨rfl, hb1⟩
        obtain ⟨hc, hf⟩ := bcell hb1
        have hz : w.heap.size < w1.heap.size := by have := hb1.size; simp at this; omega
        have hB1 : Below w.heap.size w w1 := ((Below.refl _ w).alloc (Nat.le_refl _) _).trans (hb1.mono (by simp))
        go_wp2_with fail
        refine (HC.out w1 hB1).mono ?_
        rintro e w2 ⟨rfl, hb2⟩
        obtain ⟨hc2, hf2⟩ := bcell hb2
        have hz2 : w.heap.size < w2.heap.size := by have := hb2.size; omega
        have hB2 : Below w.heap.size w w2 := hB1.trans (hb2.mono hB1.size)
        go_wp2_with fail
        go_ret
        exact ⟨rfl, hB2⟩
    · rw [if_pos h0]
      have h0' : (C == 0) = false := by rw [beq_eq_false_iff_ne]; exact h0
      go_enter Tryz.func82, Tryz.ntmps82
      go_wp2_with fail
      refine (HN.out _).mono ?_
      rintro e w1 ⟨rfl, hb1⟩
      obtain ⟨hc, hf⟩ := bcell hb1
      have hz : w.heap.size < w1.heap.size := by have := hb1.size; simp at this; omega
      have hB1 : Below w.heap.size w w1 := ((Below.refl _ w).alloc (Nat.le_refl _) _).trans (hb1.mono (by simp))
      go_wp2_with fail
      refine (HC.out w1 hB1).mono ?_
      rintro e w2 ⟨rfl, hb2⟩
      have hB2 : Below w.heap.size w w2 := hB1.trans (hb2.mono hB1.size)
      go_wp2_with fail
      go_ret
      exact ⟨rfl, hB2⟩

end Go.Proofs.YtcidoodaiimhfaaGreat

/- WALK of the reference's lists: PushOf. -/
namespace Go.Proofs.YtcidoodaiimhfaaGreat
open Go.RowKit

theorem pushE_ref (x : Itm) (l : List ByteArray) (h0 : asI x 2 = 0) : pushE x l = if someE l ≠ 0 then someE l else if 24 < x.l.length + l.length then 2 else 0 := by
  obtain ⟨-, h24, -⟩ := asI_list h0
  unfold pushE someE
  rw [if_neg (by simp [h0])]
  by_cases hl : l = []
  · subst hl; simp; omega
  · by_cases hb : l.any longT = true
    · simp [hl, hb]
    · simp [hl, hb]
theorem pushL_none (L : List ByteArray) (left : Bool) : pushL L left [] = L := by
  unfold pushL
  split <;> simp
theorem pushL_len (L l : List ByteArray) (left : Bool) : (pushL L left l).length = L.length + l.length := by
  unfold pushL
  split <;> simp <;> omega
theorem pushL_step (L l : List ByteArray) (left : Bool) {k : Nat} (h : k < l.length) : pushL L left (l.take (k + 1)) = if left then l[k] :: pushL L left (l.take k) else pushL L left (l.take k) ++ [l[k]] := by
  have et : l.take (k + 1) = l.take k ++ [l[k]] := by rw [List.take_append_getElem]
  rw [et]
  unfold pushL
  cases left with
  | true => rw [if_pos rfl, if_pos rfl, if_pos rfl, List.reverse_append]; rfl
  | false => rw [if_neg (by decide), if_neg (by decide), if_neg (by decide), List.append_assoc]
theorem pushL_mem {L l : List ByteArray} {left : Bool} {t : ByteArray} (h : t ∈ pushL L left l) : t ∈ L ∨ t ∈ l := by
  unfold pushL at h
  split at h
  · rcases List.mem_append.1 h with h | h
    · exact .inr (List.mem_reverse.1 h)
    · exact .inl h
  · rcases List.mem_append.1 h with h | h
    · exact .inl h
    · exact .inr h
set_option maxRecDepth 100000 in
set_option maxHeartbeats 8000000 in
theorem pushOf_any (v : Value) (x : Itm) (left : Bool) (al : Option Addr) (cl : Nat) (l : List ByteArray) (w : World) (h : ItemIs w v x) (hl : TextsAt w al l) (hlz : ∀ t ∈ l, t.size ≤ maxLen) (hll : l.length ≤ 281474976710656) :
    Calls Tryz.prog 32 #[v, .bool left, .slice al l.length cl] w fun e w' => ∃ u, e = .returned (.tuple #[u, .int .i64 (pushN x l), .int .i64 (pushE x l)]) ∧ ItemFrom w.heap.size w' u (pushI x left l) ∧ Below w.heap.size w w' := by
  have HC : Hid (∀ W, Below w.heap.size w W → Calls Tryz.prog 82 #[v, .int .i64 2] W fun e w' => e = .returned (.int .i64 (asI x 2)) ∧ Below W.heap.size W w') := fun W hW => refAs_any v x 2 W (h.below hW)
  have HSM : Hid (∀ W, Below w.heap.size w W → Calls Tryz.prog 83 #[.slice al l.length cl] W fun e w' => e = .returned (.int .i64 (someE l)) ∧ w' = W) := fun W hW => checkSome_any al cl l W (hl.below hW) hll
  obtain ⟨⟨a1, c1, a2, c2, a3, c3, rfl, hx1, -, -⟩, tz, lz, -, -, -, -, -⟩ := h
  have HX := hide hx1
  have HL := hide hl
  clear hx1 hl
  by_cases h0 : asI x 2 = 0
  · obtain ⟨hxe, hx24, hxl⟩ := asI_list h0
    have hE := pushE_ref x l h0
    rw [h0] at HC
    by_cases hs0 : someE l = 0
    · rw [if_neg (by simp [hs0])] at hE
      by_cases hbig : 24 < x.l.length + l.length
      · rw [if_pos hbig] at hE
        rw [pushN, pushI, hE, if_neg (by decide), if_neg (by decide)]
        have hbig' : (24 : Int) < ((x.l.length : Nat) : Int) + ((l.length : Nat) : Int) := by omega
        rw [hs0] at HSM
        clear hE h0 hxl hxe hs0 lz hlz HX HL
        generalize x.l = L at *
        generalize x.t = t at *
        generalize x.k = k at *
        generalize x.p.length = n2 at *
        generalize x.s.length = n3 at *
        go_enter Tryz.func32, Tryz.ntmps32
        go_wp2_with fail
        refine (HC.out _ (((Below.refl _ w).alloc (Nat.le_refl _) _).alloc (by simp) _)).mono ?_
        rintro e w1 ⟨rfl, hb1⟩
        obtain ⟨hc, hf⟩ := bcell hb1
        have hz : w.heap.size + 1 < w1.heap.size := by have := hb1.size; simp at this; omega
        have hy : w.heap.size < w1.heap.size := by omega
        have hB1 : Below w.heap.size w w1 := (((Below.refl _ w).alloc (Nat.le_refl _) _).alloc (by simp) _).trans (hb1.mono (by simp; omega))
        go_wp2_with fail
        refine (HSM.out w1 hB1).mono ?_
        rintro e w1 ⟨rfl, rfl⟩
        go_wp2_with fail
        refine bodyPost_ret (v := .tuple #[.agg #[.int .i64 0, .string ⟨#[]⟩, .slice none 0 0, .slice none 0 0, .slice none 0 0], .int .i64 0, .int .i64 2]) (by simp [results, Tryz.results32, go_sem, hc]) rfl ⟨_, rfl, fun w'' _ => zero_is w'', ?_⟩
        go_grown
      · rw [if_neg hbig] at hE
        rw [pushN, pushI, hE, if_pos rfl, if_pos rfl]
        have hbig' : ¬ (24 : Int) < ((x.l.length : Nat) : Int) + ((l.length : Nat) : Int) := by omega
        rw [hs0] at HSM
        have HPZ : Hid (∀ t ∈ pushL x.l left l, t.size ≤ maxLen) := fun t ht => (pushL_mem ht).elim (lz t) (hlz t)
        obtain ⟨i0, hi, hz0, hz1, hz2⟩ := info_parts infoStr
        clear hE h0 hxl hxe hs0 lz hlz
        generalize x.l = L at *
        cases left with
        | true =>
          generalize x.t = t at *
          generalize x.k = k at *
          generalize x.p.length = n2 at *
          generalize x.s.length = n3 at *
          go_enter Tryz.func32, Tryz.ntmps32
          go_wp2_with fail
          refine (HC.out _ (((Below.refl _ w).alloc (Nat.le_refl _) _).alloc (by simp) _)).mono ?_
          rintro e w1 ⟨rfl, hb1⟩
          obtain ⟨hc, hf⟩ := bcell hb1
          have hz : w.heap.size + 1 < w1.heap.size := by have := hb1.size; simp at this; omega
          have hy : w.heap.size < w1.heap.size := by omega
          have hB1 : Below w.heap.size w w1 := (((Below.refl _ w).alloc (Nat.le_refl _) _).alloc (by simp) _).trans (hb1.mono (by simp; omega))
          go_wp2_with fail
          refine (HSM.out w1 hB1).mono ?_
          rintro e w1 ⟨rfl, rfl⟩
          have HBX : Hid (∀ W, Below w1.heap.size w1 W → (W.cell? ⟨w.heap.size + 1, 0, none⟩ = some (.int .i64 0) ∧ W.cell? ⟨w.heap.size + 1, 1, none⟩ = some (.string ⟨#[]⟩) ∧ W.cell? ⟨w.heap.size + 1, 2, none⟩ = some (.slice none 0 0) ∧ W.cell? ⟨w.heap.size + 1, 3, none⟩ = some (.slice none 0 0) ∧ W.cell? ⟨w.heap.size + 1, 4, none⟩ = some (.slice none 0 0)) ∧ (∀ j, W.frozen? ⟨w.heap.size + 1, j, none⟩ = false) ∧ W.cell? ⟨w.heap.size, 2, none⟩ = some (.slice a1 L.length c1)) := fun W hW =>
            ⟨⟨(hW.cell (p := ⟨w.heap.size + 1, 0, none⟩) hz).trans ((hc _ _ (by simp)).trans (by simp [go_sem])), (hW.cell (p := ⟨w.heap.size + 1, 1, none⟩) hz).trans ((hc _ _ (by simp)).trans (by simp [go_sem])), (hW.cell (p := ⟨w.heap.size + 1, 2, none⟩) hz).trans ((hc _ _ (by simp)).trans (by simp [go_sem])), (hW.cell (p := ⟨w.heap.size + 1, 3, none⟩) hz).trans ((hc _ _ (by simp)).trans (by simp [go_sem])), (hW.cell (p := ⟨w.heap.size + 1, 4, none⟩) hz).trans ((hc _ _ (by simp)).trans (by simp [go_sem]))⟩, fun j => (hW.frozen (p := ⟨w.heap.size + 1, j, none⟩) hz).trans ((hf _ _ (by simp)).trans (by simp [go_sem])), (hW.cell (p := ⟨w.heap.size, 2, none⟩) hy).trans ((hc _ _ (by simp; omega)).trans (by simp [go_sem]))⟩
          obtain ⟨-, -, x2⟩ := HBX.out w1 (Below.refl _ _)
          clear hc hf hb1 HC HSM
          go_wp2_with (at_builtin; refine wpList_append_texts rfl _ _ rfl w1.heap.size (.slice (some ⟨w1.heap.size, 0, none⟩) 0 0) 0 [] rfl (World.ownsRow_lit w1 #[] 0 (Nat.le_refl _) (by unfold maxLen; omega) rfl) a1 c1 L rfl (HX.out.below (hB1.alloc hB1.size _)) (by omega) (by simp) ?_)
          intro v2 w2 hown2 hg2
          have hb2 : Below w1.heap.size w1 w2 := ((Below.refl _ w1).alloc (Nat.le_refl _) _).grown hg2 (by simp) (fun j hj => by simp [Value.ownBlock] at hj; omega)
          clear HX x2
          go_wp2_with fail
          go_loopw [10, 11] (fun v i wr => ∃ k : Nat, k ≤ l.length ∧ i = .int .i64 k ∧ wr.ownsRow w1.heap.size 9 1 v (pushL L true (l.take k)).length (strs (pushL L true (l.take k))) ∧ Below w1.heap.size w1 wr) (fun _ i _ => l.length - (intOf i).toNat)
          case atStart => exact ⟨0, Nat.zero_le _, rfl, by rw [List.take_zero, pushL_none]; exact hown2, hb2⟩
          case round =>
            obtain ⟨k', hk', rfl, hown, hbr⟩ := hrel
            have hzr := hbr.size
            have hKl : (pushL L true (l.take k')).length ≤ 24 := by rw [pushL_len, List.length_take]; omega
            have BR : Below w.heap.size w wr := hB1.trans (hbr.mono hB1.size)
            obtain ⟨ao, cp, rfl⟩ := slice_own hown
            by_cases hlt : k' < l.length
            · have hlt' : ((k' : Nat) : Int) < ((l.length : Nat) : Int) := by omega
              obtain ⟨g, o, rfl, hcs⟩ : ∃ g o, al = some ⟨g, o, none⟩ ∧ ∀ i (h : i < l.length), w.cell? ⟨g, o + i, none⟩ = some (.string l[i]) := by
                rcases HL.out with h | h
                · subst h; simp at hlt
                · exact h
              have d0 : wr.cell? ⟨g, o + k', none⟩ = some (.string l[k']) := (BR.cell (p := ⟨g, o + k', none⟩) (World.block_lt_of_cell? _ _ (hcs k' hlt))).trans (hcs k' hlt)
              have HY := hide (pushL_step L l true hlt)
              clear hcs HL HBX HPZ
              generalize l[k'] = X at *
              generalize (pushL L true (l.take k')) = K at *
              go_wp2_with (at_builtin; refine wpList_append_texts rfl _ _ rfl w1.heap.size (.slice (some ⟨wr.heap.size, 0, none⟩) 1 1) 1 [.string X] rfl (World.ownsRow_lit wr #[.string X] 1 hzr (by unfold maxLen; omega) rfl) ao cp _ rfl (texts_own (hown.alloc _)) (by omega) (by simp; omega) ?_)
              intro v' w4 hown4 hgrow
              have hb4 : Below w1.heap.size w1 w4 := (hbr.alloc hzr _).grown hgrow (by simp; omega) (fun j hj => by simp [Value.ownBlock] at hj; omega)
              have hown5 : w4.ownsRow w1.heap.size 9 1 v' (pushL L true (l.take (k' + 1))).length (strs (pushL L true (l.take (k' + 1)))) := by
                rw [HY.out]
                simpa [strs, Nat.add_comm] using hown4
              go_wp2_with fail
              go_roundw
              case rel => exact ⟨k' + 1, by omega, by go_num, hown5, hb4⟩
              case measure => simp [intOf]; omega
            · have hge : ¬ ((k' : Nat) : Int) < ((l.length : Nat) : Int) := by omega
              obtain rfl : k' = l.length := by omega
              rw [List.take_length] at hown hKl
              have HKI : Hid ((((pushL L true l).length : Nat) : Int) = ((L.length : Nat) : Int) + ((l.length : Nat) : Int)) := by rw [Hid, pushL_len, Int.natCast_add]
              obtain ⟨fk, fa, fn, fc, hF, hI⟩ := filled_item (p := fun w' => ∀ g o u, w1.heap.size ≤ g → wr.cell? ⟨g, o, none⟩ = some u → w'.cell? ⟨g, o, none⟩ = some u) (cp := cp) 2 (fun w' hw => texts_from hown hw) HPZ.out (by omega)
              simp only [kindI_two] at hI
              have HF := hide hF
              have HI := hide hI
              rw [List.take_length]
              clear hF hI hown HPZ HL
              go_wp2_with fail
              refine (HF.out _).mono ?_
              rintro e w3 ⟨rfl, hb3⟩
              have hb3' : Below w1.heap.size w1 w3 := hbr.trans (hb3.mono hzr)
              obtain ⟨⟨b0, b1, b2, b3, b4⟩, fz, x3⟩ := HBX.out w3 hb3'
              have fz0 := fz 0
              have fz1 := fz 1
              have fz2 := fz 2
              have fz3 := fz 3
              have fz4 := fz 4
              clear HBX fz
              go_wp2_with fail
              refine bodyPost_ret (v := .tuple #[.agg #[.int .i64 fk, .string ⟨#[]⟩, .slice fa fn fc, .slice none 0 0, .slice none 0 0], .int .i64 (((pushL L true l).length : Nat) : Int), .int .i64 0]) (by simp [results, Tryz.results32, go_sem, b0, b1, b2, b3, b4]) rfl ⟨_, by rw [HKI.out], ?_, ?_⟩
              · exact fun w'' hw => HI.out w'' (fun g' o' u' hg hu => hw g' o' u' (by omega) ((five_apart w3 (w.heap.size + 1) _ _ _ _ _ g' o' (by omega)).trans ((hb3.cell (p := ⟨g', o', none⟩) (World.block_lt_of_cell? wr _ hu)).trans hu)))
              · have hb3'' := hB1.trans (hb3'.mono hB1.size)
                go_grown
        | false =>
          generalize x.t = t at *
          generalize x.k = k at *
          generalize x.p.length = n2 at *
          generalize x.s.length = n3 at *
          go_enter Tryz.func32, Tryz.ntmps32
          go_wp2_with fail
          refine (HC.out _ (((Below.refl _ w).alloc (Nat.le_refl _) _).alloc (by simp) _)).mono ?_
          rintro e w1 ⟨rfl, hb1⟩
          obtain ⟨hc, hf⟩ := bcell hb1
          have hz : w.heap.size + 1 < w1.heap.size := by have := hb1.size; simp at this; omega
          have hy : w.heap.size < w1.heap.size := by omega
          have hB1 : Below w.heap.size w w1 := (((Below.refl _ w).alloc (Nat.le_refl _) _).alloc (by simp) _).trans (hb1.mono (by simp; omega))
          go_wp2_with fail
          refine (HSM.out w1 hB1).mono ?_
          rintro e w1 ⟨rfl, rfl⟩
          have HBX : Hid (∀ W, Below w1.heap.size w1 W → (W.cell? ⟨w.heap.size + 1, 0, none⟩ = some (.int .i64 0) ∧ W.cell? ⟨w.heap.size + 1, 1, none⟩ = some (.string ⟨#[]⟩) ∧ W.cell? ⟨w.heap.size + 1, 2, none⟩ = some (.slice none 0 0) ∧ W.cell? ⟨w.heap.size + 1, 3, none⟩ = some (.slice none 0 0) ∧ W.cell? ⟨w.heap.size + 1, 4, none⟩ = some (.slice none 0 0)) ∧ (∀ j, W.frozen? ⟨w.heap.size + 1, j, none⟩ = false) ∧ W.cell? ⟨w.heap.size, 2, none⟩ = some (.slice a1 L.length c1)) := fun W hW =>
            ⟨⟨(hW.cell (p := ⟨w.heap.size + 1, 0, none⟩) hz).trans ((hc _ _ (by simp)).trans (by simp [go_sem])), (hW.cell (p := ⟨w.heap.size + 1, 1, none⟩) hz).trans ((hc _ _ (by simp)).trans (by simp [go_sem])), (hW.cell (p := ⟨w.heap.size + 1, 2, none⟩) hz).trans ((hc _ _ (by simp)).trans (by simp [go_sem])), (hW.cell (p := ⟨w.heap.size + 1, 3, none⟩) hz).trans ((hc _ _ (by simp)).trans (by simp [go_sem])), (hW.cell (p := ⟨w.heap.size + 1, 4, none⟩) hz).trans ((hc _ _ (by simp)).trans (by simp [go_sem]))⟩, fun j => (hW.frozen (p := ⟨w.heap.size + 1, j, none⟩) hz).trans ((hf _ _ (by simp)).trans (by simp [go_sem])), (hW.cell (p := ⟨w.heap.size, 2, none⟩) hy).trans ((hc _ _ (by simp; omega)).trans (by simp [go_sem]))⟩
          obtain ⟨-, -, x2⟩ := HBX.out w1 (Below.refl _ _)
          clear hc hf hb1 HC HSM
          go_wp2_with (at_builtin; refine wpList_append_texts rfl _ _ rfl w1.heap.size (.slice (some ⟨w1.heap.size, 0, none⟩) 0 0) 0 [] rfl (World.ownsRow_lit w1 #[] 0 (Nat.le_refl _) (by unfold maxLen; omega) rfl) a1 c1 L rfl (HX.out.below (hB1.alloc hB1.size _)) (by omega) (by simp) ?_)
          intro v2 w2 hown2 hg2
          have hb2 : Below w1.heap.size w1 w2 := ((Below.refl _ w1).alloc (Nat.le_refl _) _).grown hg2 (by simp) (fun j hj => by simp [Value.ownBlock] at hj; omega)
          clear HX x2
          go_wp2_with fail
          go_loopw [10, 11] (fun v i wr => ∃ k : Nat, k ≤ l.length ∧ i = .int .i64 k ∧ wr.ownsRow w1.heap.size 9 1 v (pushL L false (l.take k)).length (strs (pushL L false (l.take k))) ∧ Below w1.heap.size w1 wr) (fun _ i _ => l.length - (intOf i).toNat)
          case atStart => exact ⟨0, Nat.zero_le _, rfl, by rw [List.take_zero, pushL_none]; exact hown2, hb2⟩
          case round =>
            obtain ⟨k', hk', rfl, hown, hbr⟩ := hrel
            have hzr := hbr.size
            have hKl : (pushL L false (l.take k')).length ≤ 24 := by rw [pushL_len, List.length_take]; omega
            have BR : Below w.heap.size w wr := hB1.trans (hbr.mono hB1.size)
            obtain ⟨ao, cp, rfl⟩ := slice_own hown
            by_cases hlt : k' < l.length
            · have hlt' : ((k' : Nat) : Int) < ((l.length : Nat) : Int) := by omega
              obtain ⟨g, o, rfl, hcs⟩ : ∃ g o, al = some ⟨g, o, none⟩ ∧ ∀ i (h : i < l.length), w.cell? ⟨g, o + i, none⟩ = some (.string l[i]) := by
                rcases HL.out with h | h
                · subst h; simp at hlt
                · exact h
              have d0 : wr.cell? ⟨g, o + k', none⟩ = some (.string l[k']) := (BR.cell (p := ⟨g, o + k', none⟩) (World.block_lt_of_cell? _ _ (hcs k' hlt))).trans (hcs k' hlt)
              have HY := hide (pushL_step L l false hlt)
              clear hcs HL HBX HPZ
              generalize l[k'] = X at *
              generalize (pushL L false (l.take k')) = K at *
              go_wp2_with (at_builtin; refine wpList_append_own _ rfl _ _ 24 rfl w1.heap.size 9 i0 (.string ⟨#[]⟩) 1 16 Tryz.underlying24 hi hz0 hz1 hz2 rfl (by decide) _ _ _ rfl (hown.alloc _) ⟨wr.heap.size, 0, none⟩ 1 1 [.string X] rfl rfl ?c1 ?c2 ?c3 ?c4 ?c5 ?_)
              case c1 =>
                intro j u hj
                match j, hj with
                | 0, hj => simp at hj; subst hj; simp [Addr.add]
              case c2 => intro u hu; simp at hu; subst hu; rfl
              case c3 => unfold maxLen; omega
              case c4 => omega
              case c5 => simp; omega
              intro v' w4 hown4 hgrow _
              have hb4 : Below w1.heap.size w1 w4 := (hbr.alloc hzr _).grown hgrow (by simp; omega) (fun j hj => (hown.lt j hj).1)
              have hown5 : w4.ownsRow w1.heap.size 9 1 v' (pushL L false (l.take (k' + 1))).length (strs (pushL L false (l.take (k' + 1)))) := by
                rw [HY.out]
                simpa [strs] using hown4
              go_wp2_with fail
              go_roundw
              case rel => exact ⟨k' + 1, by omega, by go_num, hown5, hb4⟩
              case measure => simp [intOf]; omega
            · have hge : ¬ ((k' : Nat) : Int) < ((l.length : Nat) : Int) := by omega
              obtain rfl : k' = l.length := by omega
              rw [List.take_length] at hown hKl
              have HKI : Hid ((((pushL L false l).length : Nat) : Int) = ((L.length : Nat) : Int) + ((l.length : Nat) : Int)) := by rw [Hid, pushL_len, Int.natCast_add]
              obtain ⟨fk, fa, fn, fc, hF, hI⟩ := filled_item (p := fun w' => ∀ g o u, w1.heap.size ≤ g → wr.cell? ⟨g, o, none⟩ = some u → w'.cell? ⟨g, o, none⟩ = some u) (cp := cp) 2 (fun w' hw => texts_from hown hw) HPZ.out (by omega)
              simp only [kindI_two] at hI
              have HF := hide hF
              have HI := hide hI
              rw [List.take_length]
              clear hF hI hown HPZ HL
              go_wp2_with fail
              refine (HF.out _).mono ?_
              rintro e w3 ⟨rfl, hb3⟩
              have hb3' : Below w1.heap.size w1 w3 := hbr.trans (hb3.mono hzr)
              obtain ⟨⟨b0, b1, b2, b3, b4⟩, fz, x3⟩ := HBX.out w3 hb3'
              have fz0 := fz 0
              have fz1 := fz 1
              have fz2 := fz 2
              have fz3 := fz 3
              have fz4 := fz 4
              clear HBX fz
              go_wp2_with fail
              refine bodyPost_ret (v := .tuple #[.agg #[.int .i64 fk, .string ⟨#[]⟩, .slice fa fn fc, .slice none 0 0, .slice none 0 0], .int .i64 (((pushL L false l).length : Nat) : Int), .int .i64 0]) (by simp [results, Tryz.results32, go_sem, b0, b1, b2, b3, b4]) rfl ⟨_, by rw [HKI.out], ?_, ?_⟩
              · exact fun w'' hw => HI.out w'' (fun g' o' u' hg hu => hw g' o' u' (by omega) ((five_apart w3 (w.heap.size + 1) _ _ _ _ _ g' o' (by omega)).trans ((hb3.cell (p := ⟨g', o', none⟩) (World.block_lt_of_cell? wr _ hu)).trans hu)))
              · have hb3'' := hB1.trans (hb3'.mono hB1.size)
                go_grown
    · rw [if_pos hs0] at hE
      have hs0' : (someE l == 0) = false := by rw [beq_eq_false_iff_ne]; exact hs0
      rw [pushN, pushI, hE, if_neg hs0, if_neg hs0]
      clear hE h0 hxl hxe lz hlz HX HL
      generalize someE l = E at *
      generalize x.l = L at *
      generalize x.t = t at *
      generalize x.k = k at *
      generalize x.p.length = n2 at *
      generalize x.s.length = n3 at *
      go_enter Tryz.func32, Tryz.ntmps32
      go_wp2_with fail
      refine (HC.out _ (((Below.refl _ w).alloc (Nat.le_refl _) _).alloc (by simp) _)).mono ?_
      rintro e w1 ⟨rfl, hb1⟩
      obtain ⟨hc, hf⟩ := bcell hb1
      have hz : w.heap.size + 1 < w1.heap.size := by have := hb1.size; simp at this; omega
      have hy : w.heap.size < w1.heap.size := by omega
      have hB1 : Below w.heap.size w w1 := (((Below.refl _ w).alloc (Nat.le_refl _) _).alloc (by simp) _).trans (hb1.mono (by simp; omega))
      go_wp2_with fail
      refine (HSM.out w1 hB1).mono ?_
      rintro e w1 ⟨rfl, rfl⟩
      go_wp2_with fail
      refine bodyPost_ret (v := .tuple #[.agg #[.int .i64 0, .string ⟨#[]⟩, .slice none 0 0, .slice none 0 0, .slice none 0 0], .int .i64 0, .int .i64 E]) (by simp [results, Tryz.results32, go_sem, hc]) rfl ⟨_, rfl, fun w'' _ => zero_is w'', ?_⟩
      go_grown
  · have hE : pushE x l = asI x 2 := by rw [pushE, if_pos h0]
    have h0' : (asI x 2 == 0) = false := by rw [beq_eq_false_iff_ne]; exact h0
    rw [pushN, pushI, hE, if_neg h0, if_neg h0]
    clear hE HX HL HSM lz hlz
    generalize asI x 2 = E at *
    generalize x.l = L at *
    generalize x.t = t at *
    generalize x.k = k at *
    generalize x.p.length = n2 at *
    generalize x.s.length = n3 at *
    go_enter Tryz.func32, Tryz.ntmps32
    go_wp2_with fail
    refine (HC.out _ (((Below.refl _ w).alloc (Nat.le_refl _) _).alloc (by simp) _)).mono ?_
    rintro e w1 ⟨rfl, hb1⟩
    obtain ⟨hc, hf⟩ := bcell hb1
    have hz : w.heap.size + 1 < w1.heap.size := by have := hb1.size; simp at this; omega
    have hy : w.heap.size < w1.heap.size := by omega
    have hB1 : Below w.heap.size w w1 := (((Below.refl _ w).alloc (Nat.le_refl _) _).alloc (by simp) _).trans (hb1.mono (by simp; omega))
    go_wp2_with fail
    refine bodyPost_ret (v := .tuple #[.agg #[.int .i64 0, .string ⟨#[]⟩, .slice none 0 0, .slice none 0 0, .slice none 0 0], .int .i64 0, .int .i64 E]) (by simp [results, Tryz.results32, go_sem, hc]) rfl ⟨_, rfl, fun w'' _ => zero_is w'', ?_⟩
    go_grown
end Go.Proofs.YtcidoodaiimhfaaGreat

/- What RestItems calls, in the forms that its walk asks for. -/
namespace Go.Proofs.YtcidoodaiimhfaaGreat
open Go.RowKit

theorem trimI_lenQ (x : Itm) (f t : Int) : (trimI x f t).l.length ≤ 281474976710656 := by
  by_cases h0 : asI x 2 = 0
  · obtain ⟨-, h24, -⟩ := asI_list h0
    rw [trimI, if_pos h0, lstI_l']
    have := keptTo_len (trimGo (place1 x.l.length f t) (place2 x.l.length f t)) x.l x.l.length
    unfold trimK
    omega
  · rw [trimI, if_neg h0]
    simp [Itm.none]
theorem those_lenQ (p : ByteArray → Nat → Bool) (xs : List Itm) (h : (xs.map Itm.l).flatten.length ≤ 281474976710656) : (if setsF xs = 0 then thoseL p (xs.map Itm.l) else []).length ≤ 281474976710656 := by
  split
  · have h1 := addT_len [] ((xs.map Itm.l).flatten.filter fun s => p s (cntL (xs.map Itm.l) s))
    have h2 := List.length_filter_le (fun s => p s (cntL (xs.map Itm.l) s)) (xs.map Itm.l).flatten
    unfold thoseL
    simp only [List.length_nil] at h1
    omega
  · simp
theorem encI_lenQ {x : Itm} (h : chkI x = 0) : (encI x).length ≤ 20000 := by
  have R := right_of h
  have ht := R.tz
  have h1 := flat_len encT 200 x.l (fun t ht => encT_len (R.lz t ht))
  have h2 := flat_len encP 200 x.p (fun t ht => by
    have h1 := (R.pz t ht).1
    have h2 := (R.pz t ht).2
    unfold encP encT
    rw [List.length_append, List.length_cons, List.length_cons, size_list, size_list]
    omega)
  have h3 := flat_len encS 200 x.s (fun t ht => by
    have h1 := R.sz t ht
    unfold encS num4 encT
    simp only [List.length_append, List.length_cons, List.length_nil, size_list]
    omega)
  have h4 := R.ln
  have h5 := R.pn
  have h6 := R.sn
  unfold encI bodyI
  split
  · rw [List.length_cons, size_list]
    omega
  · simp only [List.length_append, List.length_cons]
    omega
theorem encV_sizeQ (x : Itm) : ByteArray.size ⟨(encV x).toArray⟩ ≤ 281474976710656 := by
  show (encV x).toArray.size ≤ _
  unfold encV
  split
  · rename_i h
    have := encI_lenQ h
    simp
    omega
  · simp
theorem itemsQ1 {W : World} {x : Itm} {g T : Nat} {i1 i2 i3 : Option Addr} {j1 j2 j3 : Nat} (h : ItemIs W (.agg #[.int .i64 x.k, .string x.t, .slice i1 x.l.length j1, .slice i2 x.p.length j2, .slice i3 x.s.length j3]) x)
    (hg : W.heap[g]? = some (.cells #[.int .i64 x.k, .string x.t, .slice i1 x.l.length j1, .slice i2 x.p.length j2, .slice i3 x.s.length j3] T (0, 0))) : ItemsAt W (some ⟨g, 0, none⟩) [x] := by
  refine .inr ⟨g, 0, rfl, fun i hi => ?_⟩
  match i, hi with
  | 0, _ => exact ⟨_, _, _, _, _, _, ⟨by simp [World.cell?, hg], by simp [World.cell?, hg], by simp [World.cell?, hg], by simp [World.cell?, hg], by simp [World.cell?, hg]⟩, h⟩
theorem itemsQ2 {W : World} {x : Itm} {g T : Nat} {i1 i2 i3 : Option Addr} {j1 j2 j3 : Nat} (h : ItemIs W (.agg #[.int .i64 x.k, .string x.t, .slice i1 x.l.length j1, .slice i2 x.p.length j2, .slice i3 x.s.length j3]) x)
    (hg : W.heap[g]? = some (.cells #[.int .i64 x.k, .string x.t, .slice i1 x.l.length j1, .slice i2 x.p.length j2, .slice i3 x.s.length j3, .int .i64 x.k, .string x.t, .slice i1 x.l.length j1, .slice i2 x.p.length j2, .slice i3 x.s.length j3] T (0, 0))) : ItemsAt W (some ⟨g, 0, none⟩) [x, x] := by
  refine .inr ⟨g, 0, rfl, fun i hi => ?_⟩
  match i, hi with
  | 0, _ => exact ⟨_, _, _, _, _, _, ⟨by simp [World.cell?, hg], by simp [World.cell?, hg], by simp [World.cell?, hg], by simp [World.cell?, hg], by simp [World.cell?, hg]⟩, h⟩
  | 1, _ => exact ⟨_, _, _, _, _, _, ⟨by simp [World.cell?, hg], by simp [World.cell?, hg], by simp [World.cell?, hg], by simp [World.cell?, hg], by simp [World.cell?, hg]⟩, h⟩
theorem own3 {P : Program} {f : Nat} {args : Array Value} {W : World} {y : Itm} {n m : Int} (h : Calls P f args W fun e w' => ∃ u, e = .returned (.tuple #[u, .int .i64 n, .int .i64 m]) ∧ ItemOwn W.heap.size w' u y ∧ Below W.heap.size W w') :
    Calls P f args W fun e w' => (∃ (s : SV) (n m : Int), e = .returned (.tuple #[.agg #[.int .i64 s.k, .string s.t, .slice s.a1 s.n1 s.c1, .slice s.a2 s.n2 s.c2, .slice s.a3 s.n3 s.c3], .int .i64 n, .int .i64 m]) ∧ Spo W.heap.size w' s) ∧ Below W.heap.size W w' :=
  h.mono fun e w' ⟨u, he, ho, hb⟩ => by
    obtain ⟨s, rfl, hs⟩ := ho.sv
    exact ⟨⟨s, _, _, he, hs⟩, hb⟩
theorem own2 {P : Program} {f : Nat} {args : Array Value} {W : World} {y : Itm} {m : Int} (h : Calls P f args W fun e w' => ∃ u, e = .returned (.tuple #[u, .int .i64 m]) ∧ ItemOwn W.heap.size w' u y ∧ Below W.heap.size W w') :
    Calls P f args W fun e w' => (∃ (s : SV) (m : Int), e = .returned (.tuple #[.agg #[.int .i64 s.k, .string s.t, .slice s.a1 s.n1 s.c1, .slice s.a2 s.n2 s.c2, .slice s.a3 s.n3 s.c3], .int .i64 m]) ∧ Spo W.heap.size w' s) ∧ Below W.heap.size W w' :=
  h.mono fun e w' ⟨u, he, ho, hb⟩ => by
    obtain ⟨s, rfl, hs⟩ := ho.sv
    exact ⟨⟨s, _, he, hs⟩, hb⟩
theorem ownT {P : Program} {f : Nat} {args : Array Value} {W : World} {l : List ByteArray} {m : Int} (hl : l.length ≤ 281474976710656) (h : Calls P f args W fun e w' => ∃ a c, e = .returned (.tuple #[.slice a l.length c, .int .i64 m]) ∧ TextsOwn W.heap.size w' a l ∧ Below W.heap.size W w') :
    Calls P f args W fun e w' => (∃ (a : Option Addr) (n c : Nat) (m : Int), e = .returned (.tuple #[.slice a n c, .int .i64 m]) ∧ SpoT W.heap.size w' a n) ∧ Below W.heap.size W w' :=
  h.mono fun _ _ ⟨a, c, he, ho, hb⟩ => ⟨⟨a, _, c, _, he, ho.wet, hl⟩, hb⟩
theorem pairs_item {W : World} {p : List (ByteArray × ByteArray)} {q : List (Int × ByteArray)} (hpz : ∀ t ∈ p, t.1.size ≤ maxLen ∧ t.2.size ≤ maxLen) (hqz : ∀ t ∈ q, t.2.size ≤ maxLen) (hp : p.length ≤ 281474976710656) (hq : q.length ≤ 281474976710656) (a b : Option Addr) (c d : Nat) (h1 : PairsAt W a p) (h2 : ScoresAt W b q) :
    ItemIs W (.agg #[.int .i64 0, .string ⟨#[]⟩, .slice none 0 0, .slice a p.length c, .slice b q.length d]) ⟨0, ⟨#[]⟩, [], p, q⟩ :=
  ⟨⟨none, 0, a, c, b, d, rfl, .inl rfl, h1, h2⟩, Nat.zero_le _, (fun _ h => by cases h), hpz, hqz, Nat.zero_le _, hp, hq⟩
theorem restItems_walk (v : Value) (x : Itm) (al : Option Addr) (cl : Nat) (l : List ByteArray) (ap : Option Addr) (cp : Nat) (p : List (ByteArray × ByteArray)) (aq : Option Addr) (cq : Nat) (q : List (Int × ByteArray)) (w : World) (h : ItemIs w v x) (hl : TextsAt w al l) (hp : PairsAt w ap p) (hq : ScoresAt w aq q)
    (hlz : ∀ t ∈ l, t.size ≤ maxLen) (hpz : ∀ t ∈ p, t.1.size ≤ maxLen ∧ t.2.size ≤ maxLen) (hqz : ∀ t ∈ q, t.2.size ≤ maxLen) (hll : l.length ≤ 1048576) (hpl : p.length ≤ 1048576) (hql : q.length ≤ 1048576) (hx1 : x.l.length ≤ 1048576) (hx2 : x.p.length ≤ 1048576) (hx3 : x.s.length ≤ 1048576) :
    Calls Tryz.prog 5 #[v, .slice al l.length cl, .slice ap p.length cp, .slice aq q.length cq] w fun e w' => e = .returned (.bool true) ∧ Below w.heap.size w w' := by
  obtain ⟨a1, c1, a2, c2, a3, c3, rfl, -, -, -⟩ := h.ex
  refine restItems_go x l p q (pushE x l) (pushI x true l) ⟨0, ⟨#[]⟩, [], p, q⟩ w a1 a2 a3 al ap aq c1 c2 c3 cl cp cq h hl hp hq (by omega) (by omega) (by omega) (fun W a b c d h1 h2 => pairs_item hpz hqz (by omega) (by omega) a b c d h1 h2)
    ?Cp ?Po ?Pu ?Pop ?Trim ?Rem ?Rng ?Sa ?Sr ?Me ?Jo ?Hp ?Hd ?Zp ?Zd ?Zr ?En ?De ?Sm ?St itemBegun_any listBegun_any setBegun_any hashBegun_any Z.scoreBegun_any ?Si ?Sx
  case Cp =>
    intro W a1 a2 a3 c1 c2 c3 h
    refine (copiedItem_any _ x W h (by omega) (by omega) (by omega)).mono fun e w' ⟨v', he, ho, hb⟩ => ?_
    obtain ⟨i1, j1, i2, j2, i3, j3, rfl, hi⟩ := ho.isOf h
    exact ⟨⟨i1, j1, i2, j2, i3, j3, he, hi⟩, hb⟩
  case Po =>
    intro W a1 a2 a3 c1 c2 c3 al cl h hl
    refine (pushOf_any _ x true al cl l W h hl hlz (by omega)).mono fun e w' ⟨u, he, ho, hb⟩ => ?_
    obtain ⟨s, rfl⟩ := ho.is.sv
    exact ⟨⟨s, _, he, ho.is⟩, hb⟩
  case Pu =>
    intro W i1 i2 i3 j1 j2 j3 al cl h hl
    refine (push_own _ x true al cl l W h hl (by omega)).mono fun e w' ⟨u, he, ho, hb⟩ => ?_
    obtain ⟨s, rfl, hs⟩ := ho.sv
    exact ⟨⟨s, _, he, hs, ho.is⟩, hb⟩
  case Pop =>
    intro W i1 i2 i3 j1 j2 j3 h
    refine (pop_own _ x false W h).mono fun e w' ⟨u, he, ho, hb⟩ => ?_
    obtain ⟨s, rfl, hs⟩ := ho.sv
    exact ⟨⟨s, _, _, he, hs⟩, hb⟩
  case Trim => exact fun W i1 i2 i3 j1 j2 j3 h => own2 (trim_own _ x 0 (-1) W h (by decide) (by decide) (by decide) (by decide))
  case Rem => exact fun W i1 i2 i3 j1 j2 j3 h => own3 (remove_own _ x _ W h)
  case Rng => exact fun W i1 i2 i3 j1 j2 j3 h => ownT (trimI_lenQ _ _ _) (listRange_own _ x 0 (-1) W h (by decide) (by decide) (by decide) (by decide))
  case Sa => exact fun W i1 i2 i3 j1 j2 j3 al cl h hl => own3 (setAdd_own _ x al cl l W h hl hlz (by omega))
  case Sr => exact fun W i1 i2 i3 j1 j2 j3 al cl h hl => own3 (setRemove_own _ x al cl l W h hl (by omega))
  case Me => exact fun W g i1 i2 i3 j1 j2 j3 h hg => ownT (those_lenQ _ _ (by simp; omega)) (meet_own2 (some ⟨g, 0, none⟩) 2 [x, x] W (itemsQ2 h hg) (by simp) (hide (.inr (by simp))) _ _ ⟨rfl, rfl⟩)
  case Jo => exact fun W g i1 i2 i3 j1 j2 j3 h hg => ownT (those_lenQ _ _ (by simp; omega)) (joinS_own2 (some ⟨g, 0, none⟩) 1 [x] W (itemsQ1 h hg) (by simp) (hide (.inr (by simp))) _ _ ⟨rfl, rfl⟩)
  case Hp => exact fun W i1 i2 i3 j1 j2 j3 al cl h hl => own3 (hashPut_own _ x al cl p W h hl hpz (by omega))
  case Hd => exact fun W i1 i2 i3 j1 j2 j3 al cl h hl => own3 (hashDrop_own _ x al cl l W h hl (by omega))
  case Zp => exact fun W i1 i2 i3 j1 j2 j3 al cl h hl => own3 (Z.scorePut_own _ x al cl q W h hl (by omega))
  case Zd => exact fun W i1 i2 i3 j1 j2 j3 al cl h hl => own3 (Z.scoreDrop_own _ x al cl l W h hl (by omega))
  case Zr => exact fun W i1 i2 i3 j1 j2 j3 h => ownT (Nat.le_trans (Z.askS_len _ _) (by decide)) (Z.scoreRange_own _ x 0 (-1) W h (by omega) (by decide) (by decide) (by decide) (by decide))
  case En => exact fun W i1 i2 i3 j1 j2 j3 h => (encode_any _ x W h).mono fun _ _ ⟨he, hb⟩ => ⟨⟨_, _, he, encV_sizeQ x⟩, hb⟩
  case De => exact fun W s hs => own2 ((decode_own s W hs).mono fun _ _ ⟨u, he, ho, hb⟩ => ⟨u, he, fun w2 hw => ho w2 hw, hb⟩)
  case Sm =>
    intro W v u y h1 h2
    have hh := sameItem_any v u y y W h1 h2
    rw [sameI_refl] at hh
    exact hh
  case St =>
    intro W a b c d h1 h2
    have hh := sameT_any a b c d l l W h1 h2 (by omega)
    rw [decide_eq_true rfl] at hh
    exact hh
  case Si => exact fun W B C s h1 h2 h3 m1 m2 m3 => spoilItem_any B C s.k s.t s.a1 s.n1 s.c1 s.a2 s.n2 s.c2 s.a3 s.n3 s.c3 W h1 h2 h3 m1 m2 m3
  case Sx => exact fun W B C a c n h hn => spoilTexts_any B C a c n W h hn
end Go.Proofs.YtcidoodaiimhfaaGreat

/- What the readings of items give. -/
namespace Go.Proofs.YtcidoodaiimhfaaGreat
open Go.RowKit Go.ChangeShapes Go.WideShapes Go.ChangeAt Go.Deep

theorem pick_list {α : Type} {len : Nat} {p : Nat → α → Prop} (h : ∀ i, i < len → ∃ x, p i x) : ∃ L : List α, L.length = len ∧ ∀ i (hi : i < L.length), p i L[i] := by
  induction len with
  | zero => exact ⟨[], rfl, fun i hi => by simp at hi⟩
  | succ n ih =>
    obtain ⟨L, hl, hp⟩ := ih (fun i hi => h i (by omega))
    obtain ⟨x, hx⟩ := h n (by omega)
    refine ⟨L ++ [x], by simp [hl], fun i hi => ?_⟩
    by_cases hlt : i < L.length
    · rw [List.getElem_append_left hlt]; exact hp i hlt
    · have : i = L.length := by simp at hi; omega
      subst this
      simp only [List.getElem_append_right (Nat.le_refl _), Nat.sub_self, List.getElem_cons_zero]
      rw [hl]
      exact hx
theorem spot_none {w : World} {a : Addr} {v : Value} (h : w.cell? a = some v) : a.spot = none := by
  cases hs : a.spot with
  | none => rfl
  | some x =>
    exfalso
    unfold World.cell? at h
    split at h
    · simp [hs] at h
    · simp at h
theorem plain_addr {a : Addr} (h : a.spot = none) : ∃ b off, a = ⟨b, off, none⟩ := by
  cases a with
  | mk b o s => simp only at h; subst h; exact ⟨b, o, rfl⟩
theorem plus_at (b off i : Nat) : (⟨b, off, none⟩ : Addr).add i = ⟨b, off + i, none⟩ := by
  unfold Addr.add
  split
  · rename_i h; subst h; rfl
  · rfl
theorem one_list {cs : List Value} (h : cs.length = 1) : ∃ c0, cs = [c0] := by
  match cs, h with
  | [c0], _ => exact ⟨c0, rfl⟩
theorem two_list {cs : List Value} (h : cs.length = 2) : ∃ c0 c1, cs = [c0, c1] := by
  match cs, h with
  | [c0, c1], _ => exact ⟨c0, c1, rfl⟩
theorem five_list {cs : List Value} (h : cs.length = 5) : ∃ c0 c1 c2 c3 c4, cs = [c0, c1, c2, c3, c4] := by
  match cs, h with
  | [c0, c1, c2, c3, c4], _ => exact ⟨c0, c1, c2, c3, c4, rfl⟩

theorem cellsItem : Tryz.prog.cellsOf 28 = 5 := by kernel_rfl
theorem cellsPair : Tryz.prog.cellsOf 87 = 2 := by kernel_rfl
theorem cellsScore : Tryz.prog.cellsOf 89 = 2 := by kernel_rfl
theorem cellsI : Tryz.prog.cellsOf 3 = 1 := by kernel_rfl
theorem cellsS : Tryz.prog.cellsOf 9 = 1 := by kernel_rfl
theorem cellsL1 : Tryz.prog.cellsOf 24 = 1 := by kernel_rfl
theorem cellsL2 : Tryz.prog.cellsOf 25 = 1 := by kernel_rfl
theorem cellsL3 : Tryz.prog.cellsOf 26 = 1 := by kernel_rfl
theorem bytesS : Tryz.prog.bytesOf 9 = 16 := by kernel_rfl
theorem bytesP : Tryz.prog.bytesOf 87 = 32 := by kernel_rfl
theorem bytesSc : Tryz.prog.bytesOf 89 = 24 := by kernel_rfl

section
variable {H : Type} {enc : TypeId × Value → H} {W : World} {held : Bool}
/-- how many there are, of the reading -/
def datLen : DataW H → Nat
  | .slice es _ => es.length
  | _ => 0
theorem texts_of_trod {n : Nat} {lv : Value} {x : DataW H × List MemPlace} (h : DataW.trod enc Tryz.prog W 0 (fun _ => true) held n 24 [lv] = some x) :
    ∃ a cap ts, lv = .slice a (List.length ts) cap ∧ TextsAt W a ts ∧ (∀ t ∈ ts, t.size ≤ maxLen) ∧ (ts.length = 0 ∨ ∃ es sp, x.1 = .slice es sp ∧ es.length = ts.length) := by
  rcases open_slice Tryz.underlying24 h with ⟨hcs, _⟩ | ⟨a, len, cap, m, n', D, Pl, hcs, _, hl, hm, hmm, hx, hcell⟩
  · simp at hcs
    exact ⟨none, 0, [], hcs, .inl rfl, by simp, .inl rfl⟩
  · simp at hcs
    have hmc : m = cap := by simpa using hmm
    subst hmc
    rw [cellsS] at hcell
    obtain ⟨rs, hrl, hrs⟩ := pick_list (len := len) (p := fun i (r : ByteArray) => W.cell? ((a.add (i * 1)).add 0) = some (.string r) ∧ r.size ≤ maxLen) (fun i hi => by
      obtain ⟨cs', hc, hd⟩ := hcell i (by omega)
      obtain ⟨hcl, _, hg⟩ := World.cells?_some hc
      obtain ⟨t, e1, _, hts⟩ := DataW.trod_string Tryz.underlying9 hd
      subst e1
      exact ⟨t, hg 0 (by omega), hts⟩)
    subst hrl
    refine ⟨some a, m, rs, hcs, ?_, ?_, .inr ⟨_, _, by rw [hx], by simp⟩⟩
    · by_cases h0 : rs = []
      · exact .inl h0
      · have hpos : 0 < rs.length := List.length_pos_iff.2 h0
        obtain ⟨b, off, rfl⟩ := plain_addr (by have e := spot_none (hrs 0 hpos).1; simpa [Addr.add] using e : a.spot = none)
        refine .inr ⟨b, off, rfl, fun i hi => ?_⟩
        have := (hrs i hi).1
        rw [plus_at, plus_at, Nat.mul_one] at this
        exact this
    · intro t ht
      obtain ⟨i, hi, rfl⟩ := List.getElem_of_mem ht
      exact (hrs i hi).2
theorem pair_parts {n : Nat} {cs : List Value} {x : DataW H × List MemPlace} (h : DataW.trod enc Tryz.prog W 0 (fun _ => true) held n 87 cs = some x) :
    ∃ t1 t2 : ByteArray, cs = [.string t1, .string t2] ∧ t1.size ≤ maxLen ∧ t2.size ≤ maxLen := by
  obtain ⟨xs, n', rfl, hx, hl, hxl, hall⟩ := DataW.trod_struct Tryz.underlying87 h
  rw [cellsPair] at hl
  obtain ⟨c0, c1, rfl⟩ := two_list hl
  have hl2 : xs.length = 2 := hxl
  have h0 : DataW.trod enc Tryz.prog W 0 (fun _ => true) held n' 9 (([c0, c1].drop 0).take (Tryz.prog.cellsOf 9)) = xs[0]? := hall 0 _ rfl
  have h1 : DataW.trod enc Tryz.prog W 0 (fun _ => true) held n' 9 (([c0, c1].drop 1).take (Tryz.prog.cellsOf 9)) = xs[1]? := hall 1 _ rfl
  clear hall
  rw [cellsS, List.getElem?_eq_getElem (by omega)] at h0 h1
  obtain ⟨t0, e0, _, s0⟩ := DataW.trod_string Tryz.underlying9 h0
  obtain ⟨t1, e1, _, s1⟩ := DataW.trod_string Tryz.underlying9 h1
  simp at e0 e1
  subst e0 e1
  exact ⟨t0, t1, rfl, s0, s1⟩
theorem score_parts {n : Nat} {cs : List Value} {x : DataW H × List MemPlace} (h : DataW.trod enc Tryz.prog W 0 (fun _ => true) held n 89 cs = some x) :
    ∃ (t1 : Int) (t2 : ByteArray), cs = [.int .i64 t1, .string t2] ∧ t2.size ≤ maxLen ∧ -9223372036854775808 ≤ t1 ∧ t1 ≤ 9223372036854775807 := by
  obtain ⟨xs, n', rfl, hx, hl, hxl, hall⟩ := DataW.trod_struct Tryz.underlying89 h
  rw [cellsScore] at hl
  obtain ⟨c0, c1, rfl⟩ := two_list hl
  have hl2 : xs.length = 2 := hxl
  have h0 : DataW.trod enc Tryz.prog W 0 (fun _ => true) held n' 3 (([c0, c1].drop 0).take (Tryz.prog.cellsOf 3)) = xs[0]? := hall 0 _ rfl
  have h1 : DataW.trod enc Tryz.prog W 0 (fun _ => true) held n' 9 (([c0, c1].drop 1).take (Tryz.prog.cellsOf 9)) = xs[1]? := hall 1 _ rfl
  clear hall
  rw [cellsI, List.getElem?_eq_getElem (by omega)] at h0
  rw [cellsS, List.getElem?_eq_getElem (by omega)] at h1
  obtain ⟨t0, e0, _, s0⟩ := DataW.trod_int Tryz.underlying3 h0
  obtain ⟨t1, e1, _, s1⟩ := DataW.trod_string Tryz.underlying9 h1
  simp at e0 e1
  subst e0 e1
  exact ⟨t0, t1, rfl, s1, bounds_i64 s0⟩
theorem pairs_of_trod {n : Nat} {lv : Value} {x : DataW H × List MemPlace} (h : DataW.trod enc Tryz.prog W 0 (fun _ => true) held n 25 [lv] = some x) :
    ∃ a cap ts, lv = .slice a (List.length ts) cap ∧ PairsAt W a ts ∧ (∀ t ∈ ts, t.1.size ≤ maxLen ∧ t.2.size ≤ maxLen) ∧ (ts.length = 0 ∨ ∃ es sp, x.1 = .slice es sp ∧ es.length = ts.length) := by
  rcases open_slice Tryz.underlying25 h with ⟨hcs, _⟩ | ⟨a, len, cap, m, n', D, Pl, hcs, _, hl, hm, hmm, hx, hcell⟩
  · simp at hcs
    exact ⟨none, 0, [], hcs, .inl rfl, by simp, .inl rfl⟩
  · simp at hcs
    have hmc : m = cap := by simpa using hmm
    subst hmc
    rw [cellsPair] at hcell
    obtain ⟨rs, hrl, hrs⟩ := pick_list (len := len) (p := fun i (t : ByteArray × ByteArray) => W.cell? ((a.add (i * 2)).add 0) = some (.string t.1) ∧ W.cell? ((a.add (i * 2)).add 1) = some (.string t.2) ∧ t.1.size ≤ maxLen ∧ t.2.size ≤ maxLen) (fun i hi => by
      obtain ⟨cs', hc, hd⟩ := hcell i (by omega)
      obtain ⟨hcl, _, hg⟩ := World.cells?_some hc
      obtain ⟨t1, t2, e1, hts⟩ := pair_parts hd
      subst e1
      exact ⟨(t1, t2), hg 0 (by omega), hg 1 (by omega), hts⟩)
    subst hrl
    refine ⟨some a, m, rs, hcs, ?_, ?_, .inr ⟨_, _, by rw [hx], by simp⟩⟩
    · by_cases h0 : rs = []
      · exact .inl h0
      · have hpos : 0 < rs.length := List.length_pos_iff.2 h0
        obtain ⟨b, off, rfl⟩ := plain_addr (by have e := spot_none (hrs 0 hpos).1; simpa [Addr.add] using e : a.spot = none)
        refine .inr ⟨b, off, rfl, fun i hi => ?_⟩
        have g1 := (hrs i hi).1
        have g2 := (hrs i hi).2.1
        rw [plus_at, plus_at] at g1 g2
        exact ⟨g1, g2⟩
    · intro t ht
      obtain ⟨i, hi, rfl⟩ := List.getElem_of_mem ht
      exact (hrs i hi).2.2
theorem scores_of_trod {n : Nat} {lv : Value} {x : DataW H × List MemPlace} (h : DataW.trod enc Tryz.prog W 0 (fun _ => true) held n 26 [lv] = some x) :
    ∃ a cap ts, lv = .slice a (List.length ts) cap ∧ ScoresAt W a ts ∧ (∀ t ∈ ts, t.2.size ≤ maxLen ∧ -9223372036854775808 ≤ t.1 ∧ t.1 ≤ 9223372036854775807) ∧ (ts.length = 0 ∨ ∃ es sp, x.1 = .slice es sp ∧ es.length = ts.length) := by
  rcases open_slice Tryz.underlying26 h with ⟨hcs, _⟩ | ⟨a, len, cap, m, n', D, Pl, hcs, _, hl, hm, hmm, hx, hcell⟩
  · simp at hcs
    exact ⟨none, 0, [], hcs, .inl rfl, by simp, .inl rfl⟩
  · simp at hcs
    have hmc : m = cap := by simpa using hmm
    subst hmc
    rw [cellsScore] at hcell
    obtain ⟨rs, hrl, hrs⟩ := pick_list (len := len) (p := fun i (t : Int × ByteArray) => W.cell? ((a.add (i * 2)).add 0) = some (.int .i64 t.1) ∧ W.cell? ((a.add (i * 2)).add 1) = some (.string t.2) ∧ t.2.size ≤ maxLen ∧ -9223372036854775808 ≤ t.1 ∧ t.1 ≤ 9223372036854775807) (fun i hi => by
      obtain ⟨cs', hc, hd⟩ := hcell i (by omega)
      obtain ⟨hcl, _, hg⟩ := World.cells?_some hc
      obtain ⟨t1, t2, e1, hts⟩ := score_parts hd
      subst e1
      exact ⟨(t1, t2), hg 0 (by omega), hg 1 (by omega), hts⟩)
    subst hrl
    refine ⟨some a, m, rs, hcs, ?_, ?_, .inr ⟨_, _, by rw [hx], by simp⟩⟩
    · by_cases h0 : rs = []
      · exact .inl h0
      · have hpos : 0 < rs.length := List.length_pos_iff.2 h0
        obtain ⟨b, off, rfl⟩ := plain_addr (by have e := spot_none (hrs 0 hpos).1; simpa [Addr.add] using e : a.spot = none)
        refine .inr ⟨b, off, rfl, fun i hi => ?_⟩
        have g1 := (hrs i hi).1
        have g2 := (hrs i hi).2.1
        rw [plus_at, plus_at] at g1 g2
        exact ⟨g1, g2⟩
    · intro t ht
      obtain ⟨i, hi, rfl⟩ := List.getElem_of_mem ht
      exact (hrs i hi).2.2

theorem weights_agg {P : Program} {t : TypeId} {fs : Array Field} {parts : List (DataW H)} (hu : P.underlying t = some (.struct fs)) (h : ((DataW.agg parts).weights P t).all (· ≤ reachBytes) = true) : (DataW.weightsEach P (fs.toList.map (·.type)) parts).all (· ≤ reachBytes) = true := by
  unfold DataW.weights at h
  rw [hu] at h
  exact h
theorem weights_at {P : Program} {ts : List TypeId} {ds : List (DataW H)} (h : (DataW.weightsEach P ts ds).all (· ≤ reachBytes) = true) {j : Nat} {t : TypeId} {d : DataW H} (ht : ts[j]? = some t) (hd : ds[j]? = some d) : (d.weights P t).all (· ≤ reachBytes) = true := by
  rw [List.all_eq_true] at h ⊢
  intro n hn
  exact h n (DataW.weights_mem_each ht hd n hn)

set_option maxRecDepth 100000 in
theorem item_cells {n : Nat} {cs : List Value} {x : DataW H × List MemPlace} (h : DataW.trod enc Tryz.prog W 0 (fun _ => true) held n 28 cs = some x) (hw : (x.1.weights Tryz.prog 28).all (· ≤ reachBytes) = true) :
    ∃ y : Itm, ItemIs W (.agg cs.toArray) y := by
  obtain ⟨xs, n', rfl, hx, hl, hxl, hall⟩ := DataW.trod_struct Tryz.underlying28 h
  rw [cellsItem] at hl
  obtain ⟨c0, c1, c2, c3, c4, rfl⟩ := five_list hl
  have hl5 : xs.length = 5 := hxl
  have h0 : DataW.trod enc Tryz.prog W 0 (fun _ => true) held n' 3 (([c0, c1, c2, c3, c4].drop 0).take (Tryz.prog.cellsOf 3)) = xs[0]? := hall 0 _ rfl
  have h1 : DataW.trod enc Tryz.prog W 0 (fun _ => true) held n' 9 (([c0, c1, c2, c3, c4].drop 1).take (Tryz.prog.cellsOf 9)) = xs[1]? := hall 1 _ rfl
  have h2 : DataW.trod enc Tryz.prog W 0 (fun _ => true) held n' 24 (([c0, c1, c2, c3, c4].drop 2).take (Tryz.prog.cellsOf 24)) = xs[2]? := hall 2 _ rfl
  have h3 : DataW.trod enc Tryz.prog W 0 (fun _ => true) held n' 25 (([c0, c1, c2, c3, c4].drop 3).take (Tryz.prog.cellsOf 25)) = xs[3]? := hall 3 _ rfl
  have h4 : DataW.trod enc Tryz.prog W 0 (fun _ => true) held n' 26 (([c0, c1, c2, c3, c4].drop 4).take (Tryz.prog.cellsOf 26)) = xs[4]? := hall 4 _ rfl
  clear hall
  rw [cellsI, List.getElem?_eq_getElem (by omega)] at h0
  rw [cellsS, List.getElem?_eq_getElem (by omega)] at h1
  rw [cellsL1, List.getElem?_eq_getElem (by omega)] at h2
  rw [cellsL2, List.getElem?_eq_getElem (by omega)] at h3
  rw [cellsL3, List.getElem?_eq_getElem (by omega)] at h4
  obtain ⟨k, e0, _, _⟩ := DataW.trod_int Tryz.underlying3 h0
  obtain ⟨t, e1, _, hts⟩ := DataW.trod_string Tryz.underlying9 h1
  simp at e0 e1
  subst e0 e1
  obtain ⟨a1, p1, l1, e2, i2, s2, w2⟩ := texts_of_trod h2
  obtain ⟨a2, p2, l2, e3, i3, s3, w3⟩ := pairs_of_trod h3
  obtain ⟨a3, p3, l3, e4, i4, s4, w4⟩ := scores_of_trod h4
  subst e2 e3 e4
  rw [hx] at hw
  have hws := weights_agg Tryz.underlying28 hw
  have hrb := reachBytes_lt
  have b1 : l1.length ≤ 281474976710656 := by
    rcases w2 with w2 | ⟨es, sp, we, wl⟩
    · omega
    · have := sized_slice hws (elems := es) (spare := sp) (j := 2) (t := 24) rfl (by simp [hl5, we]) Tryz.underlying24
      rw [bytesS] at this
      omega
  have b2 : l2.length ≤ 281474976710656 := by
    rcases w3 with w3 | ⟨es, sp, we, wl⟩
    · omega
    · have := sized_slice hws (elems := es) (spare := sp) (j := 3) (t := 25) rfl (by simp [hl5, we]) Tryz.underlying25
      rw [bytesP] at this
      omega
  have b3 : l3.length ≤ 281474976710656 := by
    rcases w4 with w4 | ⟨es, sp, we, wl⟩
    · omega
    · have := sized_slice hws (elems := es) (spare := sp) (j := 4) (t := 26) rfl (by simp [hl5, we]) Tryz.underlying26
      rw [bytesSc] at this
      omega
  exact ⟨⟨k, t, l1, l2, l3⟩, ⟨⟨a1, p1, a2, p2, a3, p3, rfl, i2, i3, i4⟩, hts, s2, s3, fun y hy => (s4 y hy).1, b1, b2, b3⟩⟩
set_option maxRecDepth 100000 in
theorem item_of_trod {base : Nat} {v : Value} {d : DataW H} {pl : List MemPlace} (hv : Value.okWide Tryz.prog W .any base 28 v) (h : DataW.Trod enc Tryz.prog W 0 (fun _ => true) held 28 v d pl) (hw : (d.weights Tryz.prog 28).all (· ≤ reachBytes) = true) :
    ∃ y : Itm, ItemIs W v y := by
  obtain ⟨cs, rfl, _⟩ := okWide_struct Tryz.underlying28 hv
  obtain ⟨fuel, hf⟩ := h
  obtain ⟨y, hy⟩ := item_cells hf hw
  have hy2 : ItemIs W (.agg (Value.agg cs).cells) y := by simpa using hy
  exact ⟨y, hy2⟩
set_option maxRecDepth 100000 in
theorem list_of_trod {base : Nat} {v : Value} {d : DataW H} {pl : List MemPlace} (hv : Value.okWide Tryz.prog W .any base 24 v) (h : DataW.Trod enc Tryz.prog W 0 (fun _ => true) held 24 v d pl) (hw : (d.weights Tryz.prog 24).all (· ≤ reachBytes) = true) :
    ∃ a c l, v = .slice a (List.length l) c ∧ TextsAt W a l ∧ (∀ t ∈ l, t.size ≤ maxLen) ∧ l.length ≤ 8796093022208 := by
  obtain ⟨a0, n0, c0, rfl⟩ := okWide_slice Tryz.underlying24 hv
  obtain ⟨fuel, hf⟩ := h
  obtain ⟨a, c, l, e, i, z, wl⟩ := texts_of_trod (lv := .slice a0 n0 c0) hf
  refine ⟨a, c, l, e, i, z, ?_⟩
  rcases wl with wl | ⟨es, sp, we, hl⟩
  · omega
  · have hws : (DataW.weightsEach Tryz.prog [24] [d]).all (· ≤ reachBytes) = true := by
      rw [DataW.weightsEach, DataW.weightsEach, List.append_nil]
      exact hw
      all_goals simp
    have hrb := reachBytes_lt
    have := sized_slice hws (elems := es) (spare := sp) (j := 0) (t := 24) rfl (by rw [← we]; rfl) Tryz.underlying24
    rw [bytesS] at this
    omega
end
end Go.Proofs.YtcidoodaiimhfaaGreat

