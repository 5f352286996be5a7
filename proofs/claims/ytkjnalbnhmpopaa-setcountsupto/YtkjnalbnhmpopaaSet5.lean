/- WALK of Add of sets. -/
import Derived.Test.YtkjnalbnhmpopaaSet4
import Derived.Test.YtkjnalbnhmpopaaLst4
import Derived.BigRegion
import Derived.Deep.RegionHeld3
import Derived.Handy
namespace Go.Proofs.Ytkjnalbnhmpopaa
open Go.RowKit

/-- what Add answers -/
def addE (x : Itm) (l : List ByteArray) : Int := if asI x 3 ≠ 0 then asI x 3 else if 24 < (addT x.l l).length ∨ l.any longT = true then 2 else if l = [] then 1 else 0
def addI (x : Itm) (l : List ByteArray) : Itm := if addE x l = 0 then kindI 3 (addT x.l l) else Itm.none
def addN (x : Itm) (l : List ByteArray) : Int := if addE x l = 0 then (((addT x.l l).length : Nat) : Int) - ((x.l.length : Nat) : Int) else 0
theorem comp_sort (l m : List ByteArray) (h : Rises l) : compL (sortL (l ++ m)) = addT l m := by
  unfold compL sortL
  rw [bytes_texts]
  exact compact_all_is l m h
set_option maxRecDepth 100000 in
set_option maxHeartbeats 4000000 in
theorem setAdd_any (v : Value) (x : Itm) (al : Option Addr) (cl : Nat) (l : List ByteArray) (w : World) (h : ItemIs w v x) (hl : TextsAt w al l) (hlz : ∀ t ∈ l, t.size ≤ maxLen) (hll : l.length ≤ 1500000) :
    Calls Try.prog 25 #[v, .slice al l.length cl] w fun e w' => ∃ u, e = .returned (.tuple #[u, .int .i64 (addN x l), .int .i64 (addE x l)]) ∧ ItemFrom w.heap.size w' u (addI x l) ∧ Below w.heap.size w w' := by
  have HC : Hid (∀ W, Below w.heap.size w W → Calls Try.prog 39 #[v, .int .i64 3] W fun e w' => e = .returned (.int .i64 (asI x 3)) ∧ Below W.heap.size W w') := fun W hW => common_any v x 3 W (h.below hW)
  obtain ⟨⟨a1, c1, a2, c2, a3, c3, rfl, hx1, -, -⟩, tz, lz, -, -, -, -, -⟩ := h
  by_cases h0 : asI x 3 = 0
  · obtain ⟨hrise, hx24, hx60⟩ := asI_set h0
    rw [h0] at HC
    have HX := hide hx1
    have HL := hide hl
    have HZ : Hid (∀ t ∈ addT x.l l, t.size ≤ maxLen) := fun t ht => by
      rcases mem_addT.1 ht with h1 | h1
      · exact lz t h1
      · exact hlz t h1
    have HKL : Hid (∀ W, Below w.heap.size w W → Calls Try.prog 40 #[.slice al l.length cl, .func (.func 41) #[] #[]] W fun e w' => e = .returned (.bool (l.any longT)) ∧ Below W.heap.size W w') := fun W hW => containsPushLong_any al cl l W (HL.out.below hW) (by omega)
    have HCAT : Hid (∀ W g, Below w.heap.size w W → W.cell? ⟨g, 0, none⟩ = some (.slice a1 x.l.length c1) → W.cell? ⟨g, 1, none⟩ = some (.slice al l.length cl) → Calls Try.prog 55 #[.slice (some ⟨g, 0, none⟩) 2 2] W fun e w' => ∃ a' cap, e = .returned (.slice a' (x.l ++ l).length cap) ∧ Below W.heap.size W w' ∧ Calls Try.prog 56 #[.slice a' (x.l ++ l).length cap] w' fun e w'' => e = .returned (.tuple #[]) ∧ Below W.heap.size W w'' ∧ Calls Try.prog 57 #[.slice a' (x.l ++ l).length cap] w'' fun e w3 => e = .returned (.slice a' (addT x.l l).length cap) ∧ Below W.heap.size W w3 ∧ (∀ W', (∀ g o u, W.heap.size ≤ g → w3.cell? ⟨g, o, none⟩ = some u → W'.cell? ⟨g, o, none⟩ = some u) → TextsAt W' a' (addT x.l l))) := fun W g hW q0 q1 => by
      refine (concatS_any g a1 al c1 cl x.l l W q0 q1 (HX.out.below hW) (HL.out.below hW) (by omega)).mono ?_
      rintro e w' ⟨a', cap, h1, h2, h3⟩
      refine ⟨a', cap, h1, h2, ?_⟩
      refine (sort_any a' cap (x.l ++ l) W w' h2 h3 (by rw [List.length_append]; omega)).mono ?_
      rintro e w'' ⟨h4, h5, h6⟩
      refine ⟨h4, h5, ?_⟩
      have hcc := compact_any a' cap (x.l ++ l).length (sortL (x.l ++ l)) W w'' h5 (fun hne => h6 (fun e => hne (by rw [e]; simp [sortL, bytesL, textsL]))) (by rw [sortL_len, List.length_append]; omega) (sortL_len _)
      rw [comp_sort _ _ hrise] at hcc
      exact hcc
    have hkl := addT_len x.l l
    have HBX' : True := trivial
    clear hx1 hl lz hlz HX HL hrise hx60 HBX'
    by_cases h24 : 24 < (addT x.l l).length
    · have hE : addE x l = 2 := by rw [addE, if_neg (by simp [h0]), if_pos (.inl h24)]
      rw [addN, addI, hE, if_neg (by decide), if_neg (by decide)]
      have h24' : (24 : Int) < (((addT x.l l).length : Nat) : Int) := by omega
      clear hE h0 HZ HKL
      generalize addT x.l l = K at *
      generalize (x.l ++ l).length = NL at *
      generalize x.l.length = n1 at *
      generalize x.t = t at *
      generalize x.k = k at *
      generalize x.p.length = n2 at *
      generalize x.s.length = n3 at *
      go_enter Try.func25, Try.ntmps25
      go_wp2_with fail
      refine (HC.out _ (((Below.refl _ w).alloc (Nat.le_refl _) _).alloc (by simp) _)).mono ?_
      rintro e w1 ⟨rfl, hb1⟩
      obtain ⟨hc, hf⟩ := bcell hb1
      have hz : w.heap.size + 1 < w1.heap.size := by have := hb1.size; simp at this; omega
      have y0 : w.heap.size < w1.heap.size := by omega
      have hB1 : Below w.heap.size w w1 := (((Below.refl _ w).alloc (Nat.le_refl _) _).alloc (by simp) _).trans (hb1.mono (by simp; omega))
      go_wp2_with fail
      have HBX : Hid (∀ W, Below w1.heap.size w1 W → (W.cell? ⟨w.heap.size + 1, 0, none⟩ = some (.int .i64 0) ∧ W.cell? ⟨w.heap.size + 1, 1, none⟩ = some (.string ⟨#[]⟩) ∧ W.cell? ⟨w.heap.size + 1, 2, none⟩ = some (.slice none 0 0) ∧ W.cell? ⟨w.heap.size + 1, 3, none⟩ = some (.slice none 0 0) ∧ W.cell? ⟨w.heap.size + 1, 4, none⟩ = some (.slice none 0 0)) ∧ (∀ j, W.frozen? ⟨w.heap.size + 1, j, none⟩ = false) ∧ W.cell? ⟨w.heap.size, 2, none⟩ = some (.slice a1 n1 c1)) := fun W hW =>
        ⟨⟨(hW.cell (p := ⟨w.heap.size + 1, 0, none⟩) hz).trans ((hc _ _ (by simp)).trans (by simp [go_sem])), (hW.cell (p := ⟨w.heap.size + 1, 1, none⟩) hz).trans ((hc _ _ (by simp)).trans (by simp [go_sem])), (hW.cell (p := ⟨w.heap.size + 1, 2, none⟩) hz).trans ((hc _ _ (by simp)).trans (by simp [go_sem])), (hW.cell (p := ⟨w.heap.size + 1, 3, none⟩) hz).trans ((hc _ _ (by simp)).trans (by simp [go_sem])), (hW.cell (p := ⟨w.heap.size + 1, 4, none⟩) hz).trans ((hc _ _ (by simp)).trans (by simp [go_sem]))⟩, fun j => (hW.frozen (p := ⟨w.heap.size + 1, j, none⟩) hz).trans ((hf _ _ (by simp)).trans (by simp [go_sem])), (hW.cell (p := ⟨w.heap.size, 2, none⟩) y0).trans ((hc _ _ (by simp; omega)).trans (by simp [go_sem]))⟩
      generalize hW2 : World.alloc w1 _ = W2
      have B12 : Below w1.heap.size w1 W2 := by rw [← hW2]; exact (Below.refl _ _).alloc (Nat.le_refl _) _
      have q0 : W2.cell? ⟨w1.heap.size, 0, none⟩ = some (.slice a1 n1 c1) := by rw [← hW2]; simp [go_sem]
      have q1 : W2.cell? ⟨w1.heap.size, 1, none⟩ = some (.slice al l.length cl) := by rw [← hW2]; simp [go_sem]
      have zz2 : w1.heap.size < W2.heap.size := by rw [← hW2]; simp
      clear hW2
      refine (HCAT.out W2 w1.heap.size (hB1.trans (B12.mono hB1.size)) q0 q1).mono ?_
      rintro e w3 ⟨a', cap, rfl, hb3, hs3⟩
      have HS3 := hide hs3
      clear hs3 HCAT q0 q1
      go_wp2_with fail
      refine HS3.out.mono ?_
      rintro e w4 ⟨rfl, hb4, hs4⟩
      have HS4 := hide hs4
      clear hs4 HS3 hb3
      go_wp2_with fail
      refine HS4.out.mono ?_
      rintro e w5 ⟨rfl, hb5, hT5⟩
      have HT5 := hide hT5
      have hb5' : Below w1.heap.size w1 w5 := B12.trans (hb5.mono B12.size)
      have zz5 := hb5.size
      clear hT5 HS4 hb4
      have hzB := hB1.size
      obtain ⟨⟨r0, r1, r2, r3, r4⟩, fz, x2⟩ := HBX.out w5 hb5'
      have fz0 := fz 0
      have fz1 := fz 1
      have fz2 := fz 2
      have fz3 := fz 3
      have fz4 := fz 4
      go_wp2_with fail
      refine bodyPost_ret (v := .tuple #[.agg #[.int .i64 0, .string ⟨#[]⟩, .slice none 0 0, .slice none 0 0, .slice none 0 0], .int .i64 0, .int .i64 2]) (by simp [results, Try.results25, go_sem, r0, r1, r2, r3, r4]) rfl ⟨_, rfl, fun w'' _ => zero_is w'', ?_⟩
      have hbb := hB1.trans (hb5'.mono hB1.size)
      go_grown
    · have h24' : ¬ (24 : Int) < (((addT x.l l).length : Nat) : Int) := by omega
      by_cases hlong : l.any longT = true
      · have hE : addE x l = 2 := by rw [addE, if_neg (by simp [h0]), if_pos (.inr hlong)]
        rw [addN, addI, hE, if_neg (by decide), if_neg (by decide)]
        rw [hlong] at HKL
        clear hE h0 HZ hlong
        generalize addT x.l l = K at *
        generalize (x.l ++ l).length = NL at *
        generalize x.l.length = n1 at *
        generalize x.t = t at *
        generalize x.k = k at *
        generalize x.p.length = n2 at *
        generalize x.s.length = n3 at *
        go_enter Try.func25, Try.ntmps25
        go_wp2_with fail
        refine (HC.out _ (((Below.refl _ w).alloc (Nat.le_refl _) _).alloc (by simp) _)).mono ?_
        rintro e w1 ⟨rfl, hb1⟩
        obtain ⟨hc, hf⟩ := bcell hb1
        have hz : w.heap.size + 1 < w1.heap.size := by have := hb1.size; simp at this; omega
        have y0 : w.heap.size < w1.heap.size := by omega
        have hB1 : Below w.heap.size w w1 := (((Below.refl _ w).alloc (Nat.le_refl _) _).alloc (by simp) _).trans (hb1.mono (by simp; omega))
        go_wp2_with fail
        have HBX : Hid (∀ W, Below w1.heap.size w1 W → (W.cell? ⟨w.heap.size + 1, 0, none⟩ = some (.int .i64 0) ∧ W.cell? ⟨w.heap.size + 1, 1, none⟩ = some (.string ⟨#[]⟩) ∧ W.cell? ⟨w.heap.size + 1, 2, none⟩ = some (.slice none 0 0) ∧ W.cell? ⟨w.heap.size + 1, 3, none⟩ = some (.slice none 0 0) ∧ W.cell? ⟨w.heap.size + 1, 4, none⟩ = some (.slice none 0 0)) ∧ (∀ j, W.frozen? ⟨w.heap.size + 1, j, none⟩ = false) ∧ W.cell? ⟨w.heap.size, 2, none⟩ = some (.slice a1 n1 c1)) := fun W hW =>
          ⟨⟨(hW.cell (p := ⟨w.heap.size + 1, 0, none⟩) hz).trans ((hc _ _ (by simp)).trans (by simp [go_sem])), (hW.cell (p := ⟨w.heap.size + 1, 1, none⟩) hz).trans ((hc _ _ (by simp)).trans (by simp [go_sem])), (hW.cell (p := ⟨w.heap.size + 1, 2, none⟩) hz).trans ((hc _ _ (by simp)).trans (by simp [go_sem])), (hW.cell (p := ⟨w.heap.size + 1, 3, none⟩) hz).trans ((hc _ _ (by simp)).trans (by simp [go_sem])), (hW.cell (p := ⟨w.heap.size + 1, 4, none⟩) hz).trans ((hc _ _ (by simp)).trans (by simp [go_sem]))⟩, fun j => (hW.frozen (p := ⟨w.heap.size + 1, j, none⟩) hz).trans ((hf _ _ (by simp)).trans (by simp [go_sem])), (hW.cell (p := ⟨w.heap.size, 2, none⟩) y0).trans ((hc _ _ (by simp; omega)).trans (by simp [go_sem]))⟩
        generalize hW2 : World.alloc w1 _ = W2
        have B12 : Below w1.heap.size w1 W2 := by rw [← hW2]; exact (Below.refl _ _).alloc (Nat.le_refl _) _
        have q0 : W2.cell? ⟨w1.heap.size, 0, none⟩ = some (.slice a1 n1 c1) := by rw [← hW2]; simp [go_sem]
        have q1 : W2.cell? ⟨w1.heap.size, 1, none⟩ = some (.slice al l.length cl) := by rw [← hW2]; simp [go_sem]
        have zz2 : w1.heap.size < W2.heap.size := by rw [← hW2]; simp
        clear hW2
        refine (HCAT.out W2 w1.heap.size (hB1.trans (B12.mono hB1.size)) q0 q1).mono ?_
        rintro e w3 ⟨a', cap, rfl, hb3, hs3⟩
        have HS3 := hide hs3
        clear hs3 HCAT q0 q1
        go_wp2_with fail
        refine HS3.out.mono ?_
        rintro e w4 ⟨rfl, hb4, hs4⟩
        have HS4 := hide hs4
        clear hs4 HS3 hb3
        go_wp2_with fail
        refine HS4.out.mono ?_
        rintro e w5 ⟨rfl, hb5, hT5⟩
        have HT5 := hide hT5
        have hb5' : Below w1.heap.size w1 w5 := B12.trans (hb5.mono B12.size)
        have zz5 := hb5.size
        clear hT5 HS4 hb4
        go_wp2_with fail
        refine (HKL.out _ (hB1.trans (hb5'.mono hB1.size))).mono ?_
        rintro e w6 ⟨rfl, hb6⟩
        have hb6' : Below w1.heap.size w1 w6 := hb5'.trans (hb6.mono hb5'.size)
        have hzB := hB1.size
        obtain ⟨⟨r0, r1, r2, r3, r4⟩, fz, x2⟩ := HBX.out w6 hb6'
        have fz0 := fz 0
        have fz1 := fz 1
        have fz2 := fz 2
        have fz3 := fz 3
        have fz4 := fz 4
        go_wp2_with fail
        refine bodyPost_ret (v := .tuple #[.agg #[.int .i64 0, .string ⟨#[]⟩, .slice none 0 0, .slice none 0 0, .slice none 0 0], .int .i64 0, .int .i64 2]) (by simp [results, Try.results25, go_sem, r0, r1, r2, r3, r4]) rfl ⟨_, rfl, fun w'' _ => zero_is w'', ?_⟩
        have hbb := hB1.trans (hb6'.mono hB1.size)
        go_grown
      · have hlong' : l.any longT = false := by simpa using hlong
        rw [hlong'] at HKL
        by_cases hne : l = []
        · have hE : addE x l = 1 := by rw [addE, if_neg (by simp [h0]), if_neg (by simp [h24, hlong']), if_pos hne]
          rw [addN, addI, hE, if_neg (by decide), if_neg (by decide)]
          have hl0 : l.length = 0 := by rw [hne]; rfl
          clear hE h0 HZ hlong hlong' hne
          generalize addT x.l l = K at *
          generalize (x.l ++ l).length = NL at *
          generalize l.length = nl at *
          subst hl0
          generalize x.l.length = n1 at *
          generalize x.t = t at *
          generalize x.k = k at *
          generalize x.p.length = n2 at *
          generalize x.s.length = n3 at *
          go_enter Try.func25, Try.ntmps25
          go_wp2_with fail
          refine (HC.out _ (((Below.refl _ w).alloc (Nat.le_refl _) _).alloc (by simp) _)).mono ?_
          rintro e w1 ⟨rfl, hb1⟩
          obtain ⟨hc, hf⟩ := bcell hb1
          have hz : w.heap.size + 1 < w1.heap.size := by have := hb1.size; simp at this; omega
          have y0 : w.heap.size < w1.heap.size := by omega
          have hB1 : Below w.heap.size w w1 := (((Below.refl _ w).alloc (Nat.le_refl _) _).alloc (by simp) _).trans (hb1.mono (by simp; omega))
          go_wp2_with fail
          have HBX : Hid (∀ W, Below w1.heap.size w1 W → (W.cell? ⟨w.heap.size + 1, 0, none⟩ = some (.int .i64 0) ∧ W.cell? ⟨w.heap.size + 1, 1, none⟩ = some (.string ⟨#[]⟩) ∧ W.cell? ⟨w.heap.size + 1, 2, none⟩ = some (.slice none 0 0) ∧ W.cell? ⟨w.heap.size + 1, 3, none⟩ = some (.slice none 0 0) ∧ W.cell? ⟨w.heap.size + 1, 4, none⟩ = some (.slice none 0 0)) ∧ (∀ j, W.frozen? ⟨w.heap.size + 1, j, none⟩ = false) ∧ W.cell? ⟨w.heap.size, 2, none⟩ = some (.slice a1 n1 c1)) := fun W hW =>
            ⟨⟨(hW.cell (p := ⟨w.heap.size + 1, 0, none⟩) hz).trans ((hc _ _ (by simp)).trans (by simp [go_sem])), (hW.cell (p := ⟨w.heap.size + 1, 1, none⟩) hz).trans ((hc _ _ (by simp)).trans (by simp [go_sem])), (hW.cell (p := ⟨w.heap.size + 1, 2, none⟩) hz).trans ((hc _ _ (by simp)).trans (by simp [go_sem])), (hW.cell (p := ⟨w.heap.size + 1, 3, none⟩) hz).trans ((hc _ _ (by simp)).trans (by simp [go_sem])), (hW.cell (p := ⟨w.heap.size + 1, 4, none⟩) hz).trans ((hc _ _ (by simp)).trans (by simp [go_sem]))⟩, fun j => (hW.frozen (p := ⟨w.heap.size + 1, j, none⟩) hz).trans ((hf _ _ (by simp)).trans (by simp [go_sem])), (hW.cell (p := ⟨w.heap.size, 2, none⟩) y0).trans ((hc _ _ (by simp; omega)).trans (by simp [go_sem]))⟩
          generalize hW2 : World.alloc w1 _ = W2
          have B12 : Below w1.heap.size w1 W2 := by rw [← hW2]; exact (Below.refl _ _).alloc (Nat.le_refl _) _
          have q0 : W2.cell? ⟨w1.heap.size, 0, none⟩ = some (.slice a1 n1 c1) := by rw [← hW2]; simp [go_sem]
          have q1 : W2.cell? ⟨w1.heap.size, 1, none⟩ = some (.slice al 0 cl) := by rw [← hW2]; simp [go_sem]
          have zz2 : w1.heap.size < W2.heap.size := by rw [← hW2]; simp
          clear hW2
          refine (HCAT.out W2 w1.heap.size (hB1.trans (B12.mono hB1.size)) q0 q1).mono ?_
          rintro e w3 ⟨a', cap, rfl, hb3, hs3⟩
          have HS3 := hide hs3
          clear hs3 HCAT q0 q1
          go_wp2_with fail
          refine HS3.out.mono ?_
          rintro e w4 ⟨rfl, hb4, hs4⟩
          have HS4 := hide hs4
          clear hs4 HS3 hb3
          go_wp2_with fail
          refine HS4.out.mono ?_
          rintro e w5 ⟨rfl, hb5, hT5⟩
          have HT5 := hide hT5
          have hb5' : Below w1.heap.size w1 w5 := B12.trans (hb5.mono B12.size)
          have zz5 := hb5.size
          clear hT5 HS4 hb4
          go_wp2_with fail
          refine (HKL.out _ (hB1.trans (hb5'.mono hB1.size))).mono ?_
          rintro e w6 ⟨rfl, hb6⟩
          have hb6' : Below w1.heap.size w1 w6 := hb5'.trans (hb6.mono hb5'.size)
          have hzB := hB1.size
          obtain ⟨⟨r0, r1, r2, r3, r4⟩, fz, x2⟩ := HBX.out w6 hb6'
          have fz0 := fz 0
          have fz1 := fz 1
          have fz2 := fz 2
          have fz3 := fz 3
          have fz4 := fz 4
          go_wp2_with fail
          refine bodyPost_ret (v := .tuple #[.agg #[.int .i64 0, .string ⟨#[]⟩, .slice none 0 0, .slice none 0 0, .slice none 0 0], .int .i64 0, .int .i64 1]) (by simp [results, Try.results25, go_sem, r0, r1, r2, r3, r4]) rfl ⟨_, rfl, fun w'' _ => zero_is w'', ?_⟩
          have hbb := hB1.trans (hb6'.mono hB1.size)
          go_grown
        · have hE : addE x l = 0 := by rw [addE, if_neg (by simp [h0]), if_neg (by simp [h24, hlong']), if_neg hne]
          rw [addN, addI, hE, if_pos rfl, if_pos rfl]
          have hl0 : ¬ ((l.length : Nat) : Int) = 0 := fun e => hne (List.eq_nil_of_length_eq_zero (by omega))
          clear hE h0 hlong hlong' hne
          generalize addT x.l l = K at *
          generalize (x.l ++ l).length = NL at *
          generalize x.l.length = n1 at *
          generalize x.t = t at *
          generalize x.k = k at *
          generalize x.p.length = n2 at *
          generalize x.s.length = n3 at *
          go_enter Try.func25, Try.ntmps25
          go_wp2_with fail
          refine (HC.out _ (((Below.refl _ w).alloc (Nat.le_refl _) _).alloc (by simp) _)).mono ?_
          rintro e w1 ⟨rfl, hb1⟩
          obtain ⟨hc, hf⟩ := bcell hb1
          have hz : w.heap.size + 1 < w1.heap.size := by have := hb1.size; simp at this; omega
          have y0 : w.heap.size < w1.heap.size := by omega
          have hB1 : Below w.heap.size w w1 := (((Below.refl _ w).alloc (Nat.le_refl _) _).alloc (by simp) _).trans (hb1.mono (by simp; omega))
          go_wp2_with fail
          have HBX : Hid (∀ W, Below w1.heap.size w1 W → (W.cell? ⟨w.heap.size + 1, 0, none⟩ = some (.int .i64 0) ∧ W.cell? ⟨w.heap.size + 1, 1, none⟩ = some (.string ⟨#[]⟩) ∧ W.cell? ⟨w.heap.size + 1, 2, none⟩ = some (.slice none 0 0) ∧ W.cell? ⟨w.heap.size + 1, 3, none⟩ = some (.slice none 0 0) ∧ W.cell? ⟨w.heap.size + 1, 4, none⟩ = some (.slice none 0 0)) ∧ (∀ j, W.frozen? ⟨w.heap.size + 1, j, none⟩ = false) ∧ W.cell? ⟨w.heap.size, 2, none⟩ = some (.slice a1 n1 c1)) := fun W hW =>
            ⟨⟨(hW.cell (p := ⟨w.heap.size + 1, 0, none⟩) hz).trans ((hc _ _ (by simp)).trans (by simp [go_sem])), (hW.cell (p := ⟨w.heap.size + 1, 1, none⟩) hz).trans ((hc _ _ (by simp)).trans (by simp [go_sem])), (hW.cell (p := ⟨w.heap.size + 1, 2, none⟩) hz).trans ((hc _ _ (by simp)).trans (by simp [go_sem])), (hW.cell (p := ⟨w.heap.size + 1, 3, none⟩) hz).trans ((hc _ _ (by simp)).trans (by simp [go_sem])), (hW.cell (p := ⟨w.heap.size + 1, 4, none⟩) hz).trans ((hc _ _ (by simp)).trans (by simp [go_sem]))⟩, fun j => (hW.frozen (p := ⟨w.heap.size + 1, j, none⟩) hz).trans ((hf _ _ (by simp)).trans (by simp [go_sem])), (hW.cell (p := ⟨w.heap.size, 2, none⟩) y0).trans ((hc _ _ (by simp; omega)).trans (by simp [go_sem]))⟩
          generalize hW2 : World.alloc w1 _ = W2
          have B12 : Below w1.heap.size w1 W2 := by rw [← hW2]; exact (Below.refl _ _).alloc (Nat.le_refl _) _
          have q0 : W2.cell? ⟨w1.heap.size, 0, none⟩ = some (.slice a1 n1 c1) := by rw [← hW2]; simp [go_sem]
          have q1 : W2.cell? ⟨w1.heap.size, 1, none⟩ = some (.slice al l.length cl) := by rw [← hW2]; simp [go_sem]
          have zz2 : w1.heap.size < W2.heap.size := by rw [← hW2]; simp
          clear hW2
          refine (HCAT.out W2 w1.heap.size (hB1.trans (B12.mono hB1.size)) q0 q1).mono ?_
          rintro e w3 ⟨a', cap, rfl, hb3, hs3⟩
          have HS3 := hide hs3
          clear hs3 HCAT q0 q1
          go_wp2_with fail
          refine HS3.out.mono ?_
          rintro e w4 ⟨rfl, hb4, hs4⟩
          have HS4 := hide hs4
          clear hs4 HS3 hb3
          go_wp2_with fail
          refine HS4.out.mono ?_
          rintro e w5 ⟨rfl, hb5, hT5⟩
          have HT5 := hide hT5
          have hb5' : Below w1.heap.size w1 w5 := B12.trans (hb5.mono B12.size)
          have zz5 := hb5.size
          clear hT5 HS4 hb4
          go_wp2_with fail
          refine (HKL.out _ (hB1.trans (hb5'.mono hB1.size))).mono ?_
          rintro e w6 ⟨rfl, hb6⟩
          have hb6' : Below w1.heap.size w1 w6 := hb5'.trans (hb6.mono hb5'.size)
          have z6 := hb6.size
          obtain ⟨fk, fa, fn, fc, ho, hi⟩ := setOf_item (p := fun W' => ∀ g o u, W2.heap.size ≤ g → w6.cell? ⟨g, o, none⟩ = some u → W'.cell? ⟨g, o, none⟩ = some u) (cp := cap) (fun W' hW' => HT5.out W' (fun g o u hg hu => hW' g o u hg ((hb6.cell (p := ⟨g, o, none⟩) (World.block_lt_of_cell? _ _ hu)).trans hu))) HZ.out (by omega)
          have HO := hide ho
          have HI := hide hi
          clear ho hi HT5 HZ HC HKL
          go_wp2_with fail
          obtain ⟨-, -, x2⟩ := HBX.out w6 hb6'
          have hbd : Below w1.heap.size w1 w6.drew := hb6'.drew
          have nn1 : w6.heap.size ≠ w.heap.size + 1 := by omega
          have nn2 : w.heap.size + 1 ≠ w6.heap.size := by omega
          have nn3 : w.heap.size ≠ w.heap.size + 1 := by omega
          have nn4 : w.heap.size + 1 ≠ w.heap.size := by omega
          have nn5 : ¬ w.heap.size = w.heap.size + 1 := by omega
          have hwr := wrap_small (((K.length : Nat) : Int) - ((n1 : Nat) : Int)) (by omega) (by omega)
          have hzl := hb6'.size
          have hz1 := hB1.size
          clear hc hf hb1
          go_region_held3 (fun w' => w'.cell? ⟨w.heap.size, 2, none⟩ = some (.slice a1 n1 c1)) (go_keep)
            ((go_at_call 58; refine (HO.out _).mono ?_; rintro e w9 ⟨rfl, hb9⟩; have hb9' : Below w1.heap.size w1 w9 := hbd.trans (hb9.mono hzl); obtain ⟨⟨b0, b1, b2, b3, b4⟩, fz, x3⟩ := HBX.out w9 hb9'; have fz0 := fz 0; have fz1 := fz 1; have fz2 := fz 2; have fz3 := fz 3; have fz4 := fz 4))
          all_goals
            go_wp2_with fail
            refine bodyPost_ret (v := .tuple #[.agg #[.int .i64 fk, .string ⟨#[]⟩, .slice fa fn fc, .slice none 0 0, .slice none 0 0], .int .i64 (((K.length : Nat) : Int) - ((n1 : Nat) : Int)), .int .i64 0]) (by simp [results, Try.results25, go_sem, b0, b1, b2, b3, b4]) rfl ⟨_, rfl, ?_, ?_⟩
            · exact fun w'' hw => HI.out w'' (fun g' o' u' hg hu => hw g' o' u' (by omega) ((five_apart w9 (w.heap.size + 1) _ _ _ _ _ g' o' (by omega)).trans ((hb9.cell (p := ⟨g', o', none⟩) (World.block_lt_of_cell? w6 _ hu)).trans hu)))
            · have hb9'' := hB1.trans (hb9'.mono hz1)
              go_grown
  · have hE : addE x l = asI x 3 := by rw [addE, if_pos h0]
    rw [addN, addI, hE, if_neg h0, if_neg h0]
    have h0' : (asI x 3 == 0) = false := by rw [beq_eq_false_iff_ne]; exact h0
    clear hx1 hl hE
    generalize asI x 3 = E at *
    generalize x.l.length = n1 at *
    generalize x.t = t at *
    generalize x.k = k at *
    generalize x.p.length = n2 at *
    generalize x.s.length = n3 at *
    go_enter Try.func25, Try.ntmps25
    go_wp2_with fail
    refine (HC.out _ (((Below.refl _ w).alloc (Nat.le_refl _) _).alloc (by simp) _)).mono ?_
    rintro e w1 ⟨rfl, hb1⟩
    obtain ⟨hc, hf⟩ := bcell hb1
    have hz : w.heap.size + 1 < w1.heap.size := by have := hb1.size; simp at this; omega
    have y0 : w.heap.size < w1.heap.size := by omega
    have hB1 : Below w.heap.size w w1 := (((Below.refl _ w).alloc (Nat.le_refl _) _).alloc (by simp) _).trans (hb1.mono (by simp; omega))
    go_wp2_with fail
    refine bodyPost_ret (v := .tuple #[.agg #[.int .i64 0, .string ⟨#[]⟩, .slice none 0 0, .slice none 0 0, .slice none 0 0], .int .i64 0, .int .i64 E]) (by simp [results, Try.results25, go_sem, hc]) rfl ⟨_, rfl, fun w'' _ => zero_is w'', ?_⟩
    go_grown
end Go.Proofs.Ytkjnalbnhmpopaa
