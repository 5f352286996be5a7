/- Part 8 of what the proof leans on: EFnd2, EFnd3, EDo1, EDo2. -/
import Derived.Test.YtmaancidkpfopaaGreatDoorPart1
import Derived.Test.YtmaancidkpfopaaGreatDoorPart2
import Derived.Test.YtmaancidkpfopaaGreatDoorPart3
import Derived.Test.YtmaancidkpfopaaGreatDoorPart4
import Derived.Test.YtmaancidkpfopaaGreatDoorPart7
import Derived.Deep.RegionHeld
import Derived.Handy
import Derived.Test.YtmaancidkpfopaaGreatDoorPart6
import Derived.Test.YtmaancidkpfopaaGreatDoorPart5
/- WALK: find, where the words are a command. -/
namespace Go.Proofs.YtmaancidkpfopaaGreatDoor
open Go.RowKit

theorem texts_rest {w : World} {g o : Nat} {x : ByteArray} {r : List ByteArray} (h : ∀ i (h : i < (x :: r).length), w.cell? ⟨g, o + i, none⟩ = some (.string (x :: r)[i])) : TextsAt w (some ⟨g, o + 1, none⟩) r :=
  .inr ⟨g, o + 1, rfl, fun i hi => by
    have := h (i + 1) (by simpa using hi)
    rw [show o + 1 + i = o + (i + 1) by omega]
    simpa using this⟩
set_option maxRecDepth 100000 in
set_option maxHeartbeats 16000000 in
theorem find_known (g0 o0 cl : Nat) (x : ByteArray) (r : List ByteArray) (i : Nat) (hi : i < cmds.length) (w : World) (he : Env w) (hl : ∀ i (h : i < (x :: r).length), w.cell? ⟨g0, o0 + i, none⟩ = some (.string (x :: r)[i])) (hcl : r.length + 1 ≤ cl) (h0 : wordsE (x :: r) = 0) (hidx : idxC (smallT x) cmds 0 = i) :
    Calls Tryz.prog 12 #[.slice (some ⟨g0, o0, none⟩) (r.length + 1) cl] w fun e w' => ∃ fv, e = .returned (.tuple #[.agg #[.string cmds[i].name, .string cmds[i].once, .string cmds[i].again, fv], .int .i64 (checkP cmds[i].once cmds[i].again r)]) ∧ DedAt (w.heap.size + 1) w' fv cmds[i].ded ∧ Below w.heap.size w w' := by
  obtain ⟨CI, hCI⟩ : ∃ c, cmds[i] = c := ⟨_, rfl⟩
  have hmem : CI ∈ cmds := hCI ▸ List.getElem_mem hi
  rw [hCI]
  obtain ⟨hne, h12, h60⟩ := wordsE_ok h0
  have hlz : ∀ t ∈ x :: r, t.size ≤ maxLen := fun t ht => by have := h60 t ht; unfold maxLen; omega
  have hT : TextsAt w (some ⟨g0, o0, none⟩) (x :: r) := .inr ⟨g0, o0, rfl, hl⟩
  have HW : Hid (∀ W, Below w.heap.size w W → Calls Tryz.prog 19 #[.slice (some ⟨g0, o0, none⟩) (r.length + 1) cl] W fun e w' => (∃ s, e = .returned (.tuple #[.string s, .int .i64 0])) ∧ Below W.heap.size W w') := fun W hW => by
    have hh := words_any (some ⟨g0, o0, none⟩) cl (x :: r) W (texts_strs (hT.below hW)) hlz
    have h1 : (((pWordsR ((x :: r).map lst)).2 : Nat) : Int) = 0 := h0
    rw [h1] at hh
    exact hh.mono fun _ _ ⟨he, hb⟩ => ⟨⟨_, he⟩, hb⟩
  have hx := hl 0 (by simp)
  simp only [List.getElem_cons_zero, Nat.add_zero] at hx
  have HSm : Hid (∀ W, Calls Tryz.prog 20 #[.string x] W fun e w' => e = .returned (.string (smallT x)) ∧ Below W.heap.size W w') := fun W => small_any x W (by have := h60 x (by simp); omega)
  have HCm := hide commands_any
  have HIx : Hid (∀ b a c W B, W.cell? ⟨b, 0, none⟩ = some (.string (smallT x)) → CmdsAt B W a cmds → Calls Tryz.prog 22 #[.slice a 38 c, .func (.func 23) #[] #[.pointer (some ⟨b, 0, none⟩)]] W fun e w' => e = .returned (.int .i64 i) ∧ Below W.heap.size W w') := fun b a c W B h1 h2 => by
    have hh := indexC_any (smallT x) b a c cmds W h1 h2 (by decide)
    rw [hidx] at hh
    exact hh
  obtain ⟨ar, har⟩ : ∃ ar, (if cl = 1 then some (⟨g0, o0, none⟩ : Addr) else some ⟨g0, o0 + 1, none⟩) = ar := ⟨_, rfl⟩
  have hTR : TextsAt w ar r := by
    rw [← har]
    by_cases h1 : cl = 1
    · exact .inl (List.eq_nil_of_length_eq_zero (by omega))
    · rw [if_neg h1]
      exact texts_rest hl
  have HCk : Hid (∀ W fu xs ys, Below w.heap.size w W → Calls Tryz.prog 24 #[.agg #[.string CI.name, .string CI.once, .string CI.again, .func fu xs ys], .slice ar r.length (cl - 1)] W fun e w' => e = .returned (.int .i64 (checkP CI.once CI.again r)) ∧ Below W.heap.size W w') := fun W fu xs ys hW => by
    have hcm : ∀ c ∈ cmds, c.once.size ≤ 100 ∧ c.again.size ≤ 100 := by decide
    have hc := hcm CI hmem
    exact checkC_any _ _ _ fu xs ys _ _ r W (he.below hW) (hTR.below hW) (fun t ht => by have := h60 t (by simp [ht]); omega) hc.1 hc.2 (by simp at h12; omega)
  have hmf : ∀ (fn : Fn) (first cap : Array Value) (w : World), (Instr.makeFunc fn first cap).run Tryz.prog w = .ok (.func fn first cap) w := fun _ _ _ _ => rfl
  have HI := hide hi
  have HCI := hide hCI
  clear hCI hmem
  clear hT hTR hl hlz h60 hidx hne h0
  go_enter Tryz.func12, Tryz.ntmps12
  go_wp2_with fail
  refine (HW.out _ ((Below.refl _ w).alloc (Nat.le_refl _) _)).mono ?_
  rintro e w1 ⟨⟨s, rfl⟩, hb1⟩
  have B1 : Below w.heap.size w w1 := ((Below.refl _ w).alloc (Nat.le_refl _) _).trans (hb1.mono (by simp))
  have hh1 : w1.heap[w.heap.size]? = some (.cells #[.string ⟨#[]⟩, .string ⟨#[]⟩, .string ⟨#[]⟩, .nilFunc] 48 (0, 0)) := by
    refine (hb1.block w.heap.size (by simp)).trans ?_
    show (w.heap.push _)[w.heap.size]? = _
    simp
  have hx1 := (B1.cell (World.block_lt_of_cell? _ _ hx)).trans hx
  have HH1 := hide hh1
  clear hb1 hh1
  have hpos : (0 : Int) < ((r.length : Nat) : Int) + 1 := by omega
  have hpos2 : ¬ ((r.length : Nat) : Int) + 1 ≤ 0 := by omega
  go_wp2_with fail
  refine (HSm.out _).mono ?_
  rintro e w2 ⟨rfl, hb2⟩
  clear hx1
  obtain ⟨V2, hV2, AV2, NM2⟩ : ∃ V, w2.alloc (.cells #[.string (smallT x)] 9) = V ∧ Below w2.heap.size w2 V ∧ V.heap[w2.heap.size]? = some (.cells #[.string (smallT x)] 9) := ⟨_, rfl, (Below.refl _ w2).alloc (Nat.le_refl _) _, by show (w2.heap.push _)[w2.heap.size]? = _; simp⟩
  go_wp2_with fail
  refine (HCm.out _).mono ?_
  rintro e w3 ⟨⟨gc, cc, rfl, hgc0, hcm⟩, hb3⟩
  have HCA := hide hcm
  clear hcm hV2
  have nm3 : w3.cell? ⟨w2.heap.size, 0, none⟩ = some (.string (smallT x)) := (hb3.cell (p := ⟨w2.heap.size, 0, none⟩) (Array.getElem?_eq_some_iff.1 NM2).1).trans (by simp [World.cell?, NM2])
  have HNM := hide nm3
  clear nm3 NM2
  go_wp2_with fail
  refine (HIx.out _ _ _ _ _ HNM.out HCA.out).mono ?_
  rintro e w4 ⟨rfl, hb4⟩
  have B4 : Below w1.heap.size w1 w4 := btE (btE (btE hb2 AV2) hb3) hb4
  have HB4 := hide (And.intro B1 B4)
  have hgw : w.heap.size < gc := Nat.lt_of_lt_of_le (Array.getElem?_eq_some_iff.1 HH1.out).1 (Nat.le_trans (Nat.le_trans hb2.size AV2.size) hgc0)
  have HGW := hide hgw
  have hcl4 : Hid (CmdsAt (w.heap.size + 1) w4 (some ⟨gc, 0, none⟩) cmds) := by
    obtain ⟨g, hg, hcs⟩ := HCA.out
    injection hg with hg
    injection hg with hg
    subst hg
    refine ⟨gc, rfl, fun j hj => ?_⟩
    obtain ⟨v, ⟨d0, d1, d2, d3⟩, hd⟩ := hcs j hj
    have hk : ∀ o u, w3.cell? ⟨gc, o, none⟩ = some u → w4.cell? ⟨gc, o, none⟩ = some u := fun o u hu => (hb4.cell (p := ⟨gc, o, none⟩) (World.block_lt_of_cell? _ _ hu)).trans hu
    exact ⟨v, ⟨hk _ _ d0, hk _ _ d1, hk _ _ d2, hk _ _ d3⟩, hd.below hb4 (Nat.le_trans (Nat.succ_le_of_lt (Array.getElem?_eq_some_iff.1 HH1.out).1) (Nat.le_trans hb2.size AV2.size))⟩
  clear HCA HNM hb2 AV2 hb3 hb4 B1 B4 hgc0 hgw
  have hi0 : ¬ ((i : Nat) : Int) < 0 := by omega
  go_wp2_with fail
  have hi38 : ((i : Nat) : Int) < 38 := by have : i < 38 := HI.out; omega
  obtain ⟨g9, hg9, hcs⟩ := hcl4.out
  injection hg9 with hg9
  injection hg9 with hg9
  subst hg9
  obtain ⟨v, ⟨d0, d1, d2, d3⟩, hd⟩ := hcs i HI.out
  obtain ⟨fu, xs, ys, rfl⟩ := hd.func
  rw [HCI.out] at d0 d1 d2 hd
  have HD := hide hd
  clear hcs hd
  obtain ⟨NM, hNM⟩ : ∃ z, CI.name = z := ⟨_, rfl⟩
  obtain ⟨ON, hON⟩ : ∃ z, CI.once = z := ⟨_, rfl⟩
  obtain ⟨AG, hAG⟩ : ∃ z, CI.again = z := ⟨_, rfl⟩
  rw [hNM] at d0
  rw [hON] at d1
  rw [hAG] at d2
  rw [hNM, hON, hAG] at HCk
  have HN := hide (And.intro hNM (And.intro hON hAG))
  clear hNM hON hAG
  obtain ⟨CR, hCR⟩ : ∃ z, checkP ON AG r = z := ⟨_, rfl⟩
  rw [hCR] at HCk
  have HCR := hide hCR
  clear hCR
  have hgc : gc < w4.heap.size := World.block_lt_of_cell? _ _ d0
  have hSS : ∀ W', (∀ o u, w4.cell? ⟨gc, o, none⟩ = some u → W'.cell? ⟨gc, o, none⟩ = some u) → (fun W' : World => W'.cell? ⟨gc, i * 4, none⟩ = some (.string NM) ∧ W'.cell? ⟨gc, i * 4 + 1, none⟩ = some (.string ON) ∧ W'.cell? ⟨gc, i * 4 + 2, none⟩ = some (.string AG) ∧ W'.cell? ⟨gc, i * 4 + 3, none⟩ = some (.func fu xs ys)) W' := fun W' h => ⟨h _ _ d0, h _ _ d1, h _ _ d2, h _ _ d3⟩
  have HSS := hide hSS
  clear hSS
  have C0 : Below w4.heap.size w4 w4.drew := (Below.refl _ w4).drew
  have HC0 := hide C0
  clear C0 d0 d1 d2 d3
  have hlen : ((r.length : Nat) : Int) + 1 - 1 = (r.length : Int) := by omega
  have hcl2 : ((r.length : Nat) : Int) + 1 ≤ ((cl : Nat) : Int) := by omega
  have h1r : (1 : Int) ≤ ((r.length : Nat) : Int) + 1 := by omega
  refine wp_region_held_drew (S := (fun W' : World => W'.cell? ⟨gc, i * 4, none⟩ = some (.string NM) ∧ W'.cell? ⟨gc, i * 4 + 1, none⟩ = some (.string ON) ∧ W'.cell? ⟨gc, i * 4 + 2, none⟩ = some (.string AG) ∧ W'.cell? ⟨gc, i * 4 + 3, none⟩ = some (.func fu xs ys))) (by kernel_rfl) (HSS.out _ (fun o u hu => (HC0.out.cell (p := ⟨gc, o, none⟩) hgc).trans hu)) (fun hHeld => ?_)
  refine wpAnyH_take (i := 0) (v := .slice (some ⟨gc, 0, none⟩) 38 cc) rfl (by kernel_rfl) (by kernel_rfl) (by kernel_rfl) (fun _ _ _ h => h) (Or.inl ⟨by kernel_rfl, by intro w hSw; (try dsimp only at hSw); go_simp⟩) (by assumption) ?_
  refine wpAnyH_take (i := 1) (v := .int .i64 i) rfl (by kernel_rfl) (by kernel_rfl) (by kernel_rfl) (fun _ _ _ h => h) (Or.inl ⟨by kernel_rfl, by intro w hSw; (try dsimp only at hSw); go_simp⟩) (by assumption) ?_
  refine wpAnyH_take (i := 2) (v := .pointer (some ⟨gc, i * 4, none⟩)) rfl (by kernel_rfl) (by kernel_rfl) (by kernel_rfl) (fun _ _ _ h => h) (Or.inl ⟨by kernel_rfl, by intro w hSw; (try dsimp only at hSw); go_simp⟩) (by assumption) ?_
  refine wpAnyH_take (i := 3) (v := .agg #[.string NM, .string ON, .string AG, .func fu xs ys]) rfl (by kernel_rfl) (by kernel_rfl) (by kernel_rfl) (fun _ _ _ h => h) (Or.inl ⟨by kernel_rfl, by intro w hSw; (try dsimp only at hSw); go_simp⟩) (by assumption) ?_
  refine wpAnyH_take (i := 4) (v := .slice (some ⟨gc, 0, none⟩) 38 cc) rfl (by kernel_rfl) (by kernel_rfl) (by kernel_rfl) (fun _ _ _ h => h) (Or.inl ⟨by kernel_rfl, by intro w hSw; (try dsimp only at hSw); go_simp⟩) (by assumption) ?_
  refine wpAnyH_take (i := 5) (v := .int .i64 i) rfl (by kernel_rfl) (by kernel_rfl) (by kernel_rfl) (fun _ _ _ h => h) (Or.inl ⟨by kernel_rfl, by intro w hSw; (try dsimp only at hSw); go_simp⟩) (by assumption) ?_
  refine wpAnyH_take (i := 6) (v := .pointer (some ⟨gc, i * 4, none⟩)) rfl (by kernel_rfl) (by kernel_rfl) (by kernel_rfl) (fun _ _ _ h => h) (Or.inl ⟨by kernel_rfl, by intro w hSw; (try dsimp only at hSw); go_simp⟩) (by assumption) ?_
  refine wpAnyH_take (i := 7) (v := .agg #[.string NM, .string ON, .string AG, .func fu xs ys]) rfl (by kernel_rfl) (by kernel_rfl) (by kernel_rfl) (fun _ _ _ h => h) (Or.inl ⟨by kernel_rfl, by intro w hSw; (try dsimp only at hSw); go_simp⟩) (by assumption) ?_
  refine wpAnyH_take (i := 8) (v := .slice (some ⟨g0, o0, none⟩) (r.length + 1) cl) rfl (by kernel_rfl) (by kernel_rfl) (by kernel_rfl) (fun _ _ _ h => h) (Or.inl ⟨by kernel_rfl, by intro w hSw; (try dsimp only at hSw); go_simp⟩) (by assumption) ?_
  refine wpAnyH_take (i := 9) (v := .slice ar r.length (cl - 1)) rfl (by kernel_rfl) (by kernel_rfl) (by kernel_rfl) (fun _ _ _ h => h) (Or.inl ⟨by kernel_rfl, by intro w hSw; (try dsimp only at hSw); go_simp⟩) (by assumption) ?_
  refine wpAnyH_ready (rs := [10]) (by kernel_rfl) (by simp) ?_
  refine AllReadyH.cons rfl (fun K hK => ?_) AllReadyH.nil
  go_simp
  refine (HCk.out _ fu xs ys (HB4.out.1.trans ((HB4.out.2.trans (HC0.out.mono HB4.out.2.size)).mono HB4.out.1.size))).mono ?_
  rintro e w5 ⟨rfl, hb5⟩
  have B5 : Below w4.heap.size w4 w5 := HC0.out.trans (hb5.mono HC0.out.size)
  refine hK.out _ _ (HSS.out _ (fun o u hu => (B5.cell (p := ⟨gc, o, none⟩) (World.block_lt_of_cell? _ _ hu)).trans hu)) (fun hHeld => ?_)
  clear hK K hHeld
  have hHeld := HSS.out w5 (fun o u hu => (B5.cell (p := ⟨gc, o, none⟩) (World.block_lt_of_cell? _ _ hu)).trans hu)
  have B15 : Below w1.heap.size w1 w5 := HB4.out.2.trans (B5.mono HB4.out.2.size)
  have hh5 := (B15.block _ (Array.getElem?_eq_some_iff.1 HH1.out).1).trans HH1.out
  have HP := hide (put4E hh5 (.string NM) (.string ON) (.string AG) (.func fu xs ys))
  have q0 : w5.cell? ⟨w.heap.size, 0, none⟩ = some (.string ⟨#[]⟩) := by simp [World.cell?, hh5]
  have q1 : w5.cell? ⟨w.heap.size, 1, none⟩ = some (.string ⟨#[]⟩) := by simp [World.cell?, hh5]
  have q2 : w5.cell? ⟨w.heap.size, 2, none⟩ = some (.string ⟨#[]⟩) := by simp [World.cell?, hh5]
  have q3 : w5.cell? ⟨w.heap.size, 3, none⟩ = some .nilFunc := by simp [World.cell?, hh5]
  have f0 : w5.frozen? ⟨w.heap.size, 0, none⟩ = false := by simp [World.frozen?, hh5]
  have f1 : w5.frozen? ⟨w.heap.size, 1, none⟩ = false := by simp [World.frozen?, hh5]
  have f2 : w5.frozen? ⟨w.heap.size, 2, none⟩ = false := by simp [World.frozen?, hh5]
  have f3 : w5.frozen? ⟨w.heap.size, 3, none⟩ = false := by simp [World.frozen?, hh5]
  have HHB := hide (And.intro B5 (And.intro B15 hHeld))
  have hz5 : w.heap.size < w5.heap.size := (Array.getElem?_eq_some_iff.1 hh5).1
  have hgw : ¬ gc = w.heap.size := by have := HGW.out; omega
  have hgw2 : ¬ w.heap.size = gc := by have := HGW.out; omega
  clear hh5 hb5 B5 B15
  refine wpAnyH_ready (rs := [11]) (by kernel_rfl) (by simp) ?_
  refine AllReadyH.cons rfl (fun K hK => ?_) AllReadyH.nil
  go_simp
  obtain ⟨hH, hKp⟩ := HP.out
  have hHH := hHeld
  generalize ((((w5.setCell ⟨w.heap.size, 0, none⟩ (.string NM)).setCell ⟨w.heap.size, 1, none⟩ (.string ON)).setCell ⟨w.heap.size, 2, none⟩ (.string AG)).setCell ⟨w.heap.size, 3, none⟩ (.func fu xs ys)) = W6 at *
  have hkc : ∀ o u, w5.cell? ⟨gc, o, none⟩ = some u → W6.cell? ⟨gc, o, none⟩ = some u := fun o u hu => hKp.cell' hu (by simp only [one]; exact hgw)
  refine hK.out _ _ ⟨hkc _ _ hHeld.1, hkc _ _ hHeld.2.1, hkc _ _ hHeld.2.2.1, hkc _ _ hHeld.2.2.2⟩ (fun hHeld => ?_)
  clear hK K
  refine wpAnyH_ready (rs := [12]) (by kernel_rfl) (by simp) ?_
  refine AllReadyH.cons rfl (fun K hK => ?_) AllReadyH.nil
  go_simp
  refine hK.out _ _ hHeld (fun hHeld => ?_)
  clear hK K
  refine wpAnyH_done (by kernel_rfl) ?_ _
  clear q0 q1 q2 q3 f0 f1 f2 f3
  have HH6 := hide (And.intro hH hKp)
  clear hH hKp
  go_wp2_with fail
  have hB : Below w.heap.size w W6 := (HB4.out.1.trans ((HHB.out.2.1).mono HB4.out.1.size)).trans (HH6.out.2.below (B := w.heap.size) (Nat.le_of_lt hz5) (fun k hk => by simp only [one] at hk; omega))
  have hD6 : DedAt (w.heap.size + 1) W6 (.func fu xs ys) CI.ded := by
    refine (HD.out.below HHB.out.1 (Nat.le_refl _)).moved (Nat.le_refl _) (fun b u hb hu => HH6.out.2.cell' hu (by simp only [one]; omega))
  have c0 : W6.cell? ⟨w.heap.size, 0, none⟩ = some (.string NM) := by simp [World.cell?, HH6.out.1]
  have c1 : W6.cell? ⟨w.heap.size, 1, none⟩ = some (.string ON) := by simp [World.cell?, HH6.out.1]
  have c2 : W6.cell? ⟨w.heap.size, 2, none⟩ = some (.string AG) := by simp [World.cell?, HH6.out.1]
  have c3 : W6.cell? ⟨w.heap.size, 3, none⟩ = some (.func fu xs ys) := by simp [World.cell?, HH6.out.1]
  rw [HN.out.1, HN.out.2.1, HN.out.2.2, HCR.out]
  refine bodyPost_ret (v := .tuple #[.agg #[.string NM, .string ON, .string AG, .func fu xs ys], .int .i64 CR]) (by simp [results, Tryz.results12, go_sem, c0, c1, c2, c3]) rfl ⟨_, rfl, hD6, hB⟩
end Go.Proofs.YtmaancidkpfopaaGreatDoor

/- WALK: find, where no command has the name. -/
namespace Go.Proofs.YtmaancidkpfopaaGreatDoor
open Go.RowKit

set_option maxRecDepth 100000 in
set_option maxHeartbeats 16000000 in
theorem find_none (g0 o0 cl : Nat) (x : ByteArray) (r : List ByteArray) (w : World) (hl : ∀ i (h : i < (x :: r).length), w.cell? ⟨g0, o0 + i, none⟩ = some (.string (x :: r)[i])) (h0 : wordsE (x :: r) = 0) (hidx : idxC (smallT x) cmds 0 = -1) :
    Calls Tryz.prog 12 #[.slice (some ⟨g0, o0, none⟩) (r.length + 1) cl] w fun e w' => e = .returned (.tuple #[.agg #[.string ⟨#[]⟩, .string ⟨#[]⟩, .string ⟨#[]⟩, .nilFunc], .int .i64 5]) ∧ Below w.heap.size w w' := by
  obtain ⟨hne, h12, h60⟩ := wordsE_ok h0
  have hlz : ∀ t ∈ x :: r, t.size ≤ maxLen := fun t ht => by have := h60 t ht; unfold maxLen; omega
  have hT : TextsAt w (some ⟨g0, o0, none⟩) (x :: r) := .inr ⟨g0, o0, rfl, hl⟩
  have HW : Hid (∀ W, Below w.heap.size w W → Calls Tryz.prog 19 #[.slice (some ⟨g0, o0, none⟩) (r.length + 1) cl] W fun e w' => (∃ s, e = .returned (.tuple #[.string s, .int .i64 0])) ∧ Below W.heap.size W w') := fun W hW => by
    have hh := words_any (some ⟨g0, o0, none⟩) cl (x :: r) W (texts_strs (hT.below hW)) hlz
    have h1 : (((pWordsR ((x :: r).map lst)).2 : Nat) : Int) = 0 := h0
    rw [h1] at hh
    exact hh.mono fun _ _ ⟨he, hb⟩ => ⟨⟨_, he⟩, hb⟩
  have hx := hl 0 (by simp)
  simp only [List.getElem_cons_zero, Nat.add_zero] at hx
  have HSm : Hid (∀ W, Calls Tryz.prog 20 #[.string x] W fun e w' => e = .returned (.string (smallT x)) ∧ Below W.heap.size W w') := fun W => small_any x W (by have := h60 x (by simp); omega)
  have HCm := hide commands_any
  have HIx : Hid (∀ b a c W B, W.cell? ⟨b, 0, none⟩ = some (.string (smallT x)) → CmdsAt B W a cmds → Calls Tryz.prog 22 #[.slice a 38 c, .func (.func 23) #[] #[.pointer (some ⟨b, 0, none⟩)]] W fun e w' => e = .returned (.int .i64 (-1)) ∧ Below W.heap.size W w') := fun b a c W B h1 h2 => by
    have hh := indexC_any (smallT x) b a c cmds W h1 h2 (by decide)
    rw [hidx] at hh
    exact hh
  have hmf : ∀ (fn : Fn) (first cap : Array Value) (w : World), (Instr.makeFunc fn first cap).run Tryz.prog w = .ok (.func fn first cap) w := fun _ _ _ _ => rfl
  clear hT hl hlz h60 hidx hne h0
  go_enter Tryz.func12, Tryz.ntmps12
  go_wp2_with fail
  refine (HW.out _ ((Below.refl _ w).alloc (Nat.le_refl _) _)).mono ?_
  rintro e w1 ⟨⟨s, rfl⟩, hb1⟩
  have B1 : Below w.heap.size w w1 := ((Below.refl _ w).alloc (Nat.le_refl _) _).trans (hb1.mono (by simp))
  have hh1 : w1.heap[w.heap.size]? = some (.cells #[.string ⟨#[]⟩, .string ⟨#[]⟩, .string ⟨#[]⟩, .nilFunc] 48 (0, 0)) := by
    refine (hb1.block w.heap.size (by simp)).trans ?_
    show (w.heap.push _)[w.heap.size]? = _
    simp
  have hx1 := (B1.cell (World.block_lt_of_cell? _ _ hx)).trans hx
  have HH1 := hide hh1
  clear hb1 hh1
  have hpos : (0 : Int) < ((r.length : Nat) : Int) + 1 := by omega
  have hpos2 : ¬ ((r.length : Nat) : Int) + 1 ≤ 0 := by omega
  go_wp2_with fail
  refine (HSm.out _).mono ?_
  rintro e w2 ⟨rfl, hb2⟩
  clear hx1
  obtain ⟨V2, hV2, AV2, NM2⟩ : ∃ V, w2.alloc (.cells #[.string (smallT x)] 9) = V ∧ Below w2.heap.size w2 V ∧ V.heap[w2.heap.size]? = some (.cells #[.string (smallT x)] 9) := ⟨_, rfl, (Below.refl _ w2).alloc (Nat.le_refl _) _, by show (w2.heap.push _)[w2.heap.size]? = _; simp⟩
  go_wp2_with fail
  refine (HCm.out _).mono ?_
  rintro e w3 ⟨⟨gc, cc, rfl, hgc0, hcm⟩, hb3⟩
  have HCA := hide hcm
  clear hcm hV2
  have nm3 : w3.cell? ⟨w2.heap.size, 0, none⟩ = some (.string (smallT x)) := (hb3.cell (p := ⟨w2.heap.size, 0, none⟩) (Array.getElem?_eq_some_iff.1 NM2).1).trans (by simp [World.cell?, NM2])
  have HNM := hide nm3
  clear nm3 NM2
  go_wp2_with fail
  refine (HIx.out _ _ _ _ _ HNM.out HCA.out).mono ?_
  rintro e w4 ⟨rfl, hb4⟩
  have B4 : Below w1.heap.size w1 w4 := btE (btE (btE hb2 AV2) hb3) hb4
  have HB4 := hide (And.intro B1 B4)
  clear HCA HNM hb2 AV2 hb3 hb4 B1 B4 hgc0
  have hh4 := (HB4.out.2.block _ (Array.getElem?_eq_some_iff.1 HH1.out).1).trans HH1.out
  have HP := hide (put4E hh4 (.string ⟨#[]⟩) (.string ⟨#[]⟩) (.string ⟨#[]⟩) .nilFunc)
  have hz4 : w.heap.size < w4.heap.size := (Array.getElem?_eq_some_iff.1 hh4).1
  have q0 : w4.cell? ⟨w.heap.size, 0, none⟩ = some (.string ⟨#[]⟩) := by simp [World.cell?, hh4]
  have f0 : w4.frozen? ⟨w.heap.size, 0, none⟩ = false := by simp [World.frozen?, hh4]
  have q1 : w4.cell? ⟨w.heap.size, 1, none⟩ = some (.string ⟨#[]⟩) := by simp [World.cell?, hh4]
  have f1 : w4.frozen? ⟨w.heap.size, 1, none⟩ = false := by simp [World.frozen?, hh4]
  have q2 : w4.cell? ⟨w.heap.size, 2, none⟩ = some (.string ⟨#[]⟩) := by simp [World.cell?, hh4]
  have f2 : w4.frozen? ⟨w.heap.size, 2, none⟩ = false := by simp [World.frozen?, hh4]
  have q3 : w4.cell? ⟨w.heap.size, 3, none⟩ = some (.nilFunc) := by simp [World.cell?, hh4]
  have f3 : w4.frozen? ⟨w.heap.size, 3, none⟩ = false := by simp [World.frozen?, hh4]
  clear hh4
  go_wp2_with fail
  obtain ⟨hH, hKp⟩ := HP.out
  generalize ((((w4.setCell ⟨w.heap.size, 0, none⟩ (.string ⟨#[]⟩)).setCell ⟨w.heap.size, 1, none⟩ (.string ⟨#[]⟩)).setCell ⟨w.heap.size, 2, none⟩ (.string ⟨#[]⟩)).setCell ⟨w.heap.size, 3, none⟩ .nilFunc) = W6 at *
  have hB : Below w.heap.size w W6 := (HB4.out.1.trans ((HB4.out.2).mono HB4.out.1.size)).trans (hKp.below (B := w.heap.size) (Nat.le_of_lt hz4) (fun k hk => by simp only [one] at hk; omega))
  refine bodyPost_ret (v := .tuple #[.agg #[.string ⟨#[]⟩, .string ⟨#[]⟩, .string ⟨#[]⟩, .nilFunc], .int .i64 5]) (by simp [results, Tryz.results12, go_sem, World.cell?, hH]) rfl ⟨rfl, hB⟩
end Go.Proofs.YtmaancidkpfopaaGreatDoor

/- WALK: engine.Do, where the words are a command that is done. -/
namespace Go.Proofs.YtmaancidkpfopaaGreatDoor
open Go.RowKit

set_option maxRecDepth 100000 in
set_option maxHeartbeats 16000000 in
theorem do_deed (a : Option Addr) (c : Nat) (s : List Ent) (now : Int) (g0 o0 cl : Nat) (x : ByteArray) (r : List ByteArray) (i : Nat) (hi : i < cmds.length) (f : Nat) (s2 : List Ent) (rk rn E : Int) (rt : ByteArray) (w : World) (he : Env w) (hs : SpaceAt w a s) (hc : chkSp s = 0) (ht : timeT now = true)
    (hl : ∀ i (h : i < (x :: r).length), w.cell? ⟨g0, o0 + i, none⟩ = some (.string (x :: r)[i])) (hcl : r.length + 1 ≤ cl) (h0 : wordsE (x :: r) = 0) (hidx : idxC (smallT x) cmds 0 = i) (hck : checkP cmds[i].once cmds[i].again r = 0)
    (hcf : ∀ (args : Array Value) (W : World), (callFunc f args).run Tryz.prog W = .ok (.enter f args) W)
    (hfv : ∀ W fv, DedAt (w.heap.size + 1) W fv cmds[i].ded → ∃ caps, fv = .func (.func f) #[] caps)
    (HF : ∀ W caps b ar S, Below w.heap.size w W → DedAt (w.heap.size + 1) W (.func (.func f) #[] caps) cmds[i].ded → w.heap.size < b → (∀ k, S k → k < W.heap.size ∧ k ≠ b) → KeepS S W b s now → TextsAt w ar r → Calls Tryz.prog f (#[.pointer (some ⟨b, 0, none⟩), .slice ar r.length (cl - 1)] ++ caps) W fun e w' => e = .returned (.tuple #[.agg #[.int .i64 rk, .string rt, .int .i64 rn, .slice none 0 0], .int .i64 E]) ∧ KeepS S w' b s2 now ∧ Kept (one b) W w') :
    Calls Tryz.prog 5 #[.slice a s.length c, .int .i64 now, .slice (some ⟨g0, o0, none⟩) (r.length + 1) cl] w fun e w' => (∃ a' c', e = .returned (.tuple #[.slice a' (if E = 0 then s2 else s).length c', if E = 0 then .agg #[.int .i64 rk, .string rt, .int .i64 rn, .slice none 0 0] else refuseV E, .int .i64 0]) ∧ SpaceAt w' a' (if E = 0 then s2 else s)) ∧ Below w.heap.size w w' := by
  have hn := small_sp hc
  have HCK : Hid (∀ W, Below w.heap.size w W → Calls Tryz.prog 10 #[.slice a s.length c] W fun e w' => e = .returned (.int .i64 0) ∧ Below W.heap.size W w') := fun W hW => by
    have hh := spCheck_any a c s W (hs.below hW) (by omega)
    rw [hc] at hh
    exact hh
  have HTM : Hid (∀ W, Calls Tryz.prog 11 #[.int .i64 now] W fun e w' => e = .returned (.bool true) ∧ w' = W) := fun W => by
    have hh := timeY_any now W
    rw [ht] at hh
    exact hh
  have hTX : TextsAt w (some ⟨g0, o0, none⟩) (x :: r) := .inr ⟨g0, o0, rfl, hl⟩
  have HFI : Hid (∀ W, Below w.heap.size w W → Calls Tryz.prog 12 #[.slice (some ⟨g0, o0, none⟩) (r.length + 1) cl] W fun e w' => (∃ caps, e = .returned (.tuple #[.agg #[.string cmds[i].name, .string cmds[i].once, .string cmds[i].again, .func (.func f) #[] caps], .int .i64 0]) ∧ DedAt (w.heap.size + 1) w' (.func (.func f) #[] caps) cmds[i].ded) ∧ Below W.heap.size W w') := fun W hW => by
    refine (find_known g0 o0 cl x r i hi W (he.below hW) (fun j hj => (hW.cell (World.block_lt_of_cell? _ _ (hl j hj))).trans (hl j hj)) hcl h0 hidx).mono fun e w' ⟨fv, h1, h2, h3⟩ => ?_
    have h4 : DedAt (w.heap.size + 1) w' fv cmds[i].ded := h2.moved (by have := hW.size; omega) (fun _ _ _ h => h)
    obtain ⟨caps, rfl⟩ := hfv _ _ h4
    rw [hck] at h1
    exact ⟨⟨caps, h1, h4⟩, h3⟩
  have HCO : Hid (∀ W, Below w.heap.size w W → Calls Tryz.prog 13 #[.slice a s.length c] W fun e w' => (∃ a' c', e = .returned (.slice a' s.length c') ∧ SpaceFrom W.heap.size w' a' s) ∧ Below W.heap.size W w') := fun W hW => copied_any a c s W (hs.below hW) (by omega) (fits_sp hc)
  have HRF := hide refusal_any
  obtain ⟨ar, har⟩ : ∃ ar, (if cl = 1 then some (⟨g0, o0, none⟩ : Addr) else some ⟨g0, o0 + 1, none⟩) = ar := ⟨_, rfl⟩
  have hTR : TextsAt w ar r := har ▸ rest_at hl hcl
  have HFF := hide (fun W caps b S (hW : Below w.heap.size w W) hd hb hS hk => HF W caps b ar S hW hd hb hS hk hTR)
  obtain ⟨CI, hCI⟩ : ∃ z, cmds[i] = z := ⟨_, rfl⟩
  rw [hCI] at HFI HFF
  clear hCI hTR hTX HF hfv hck hidx h0 hl
  have hlen : ((r.length : Nat) : Int) + 1 - 1 = (r.length : Int) := by omega
  have hcl2 : ((r.length : Nat) : Int) + 1 ≤ ((cl : Nat) : Int) := by omega
  have h1r : (1 : Int) ≤ ((r.length : Nat) : Int) + 1 := by omega
  obtain ⟨V, hV, AV, RB⟩ : ∃ V', w.alloc (.cells #[.int .i64 0, .string ⟨#[]⟩, .int .i64 0, .slice none 0 0] 27) = V' ∧ Below w.heap.size w V' ∧ V'.heap[w.heap.size]? = some (.cells #[.int .i64 0, .string ⟨#[]⟩, .int .i64 0, .slice none 0 0] 27) := ⟨_, rfl, (Below.refl _ w).alloc (Nat.le_refl _) _, by show (w.heap.push _)[w.heap.size]? = _; simp⟩
  have HRB := hide RB
  go_enter Tryz.func5, Tryz.ntmps5
  go_wp2_with fail
  refine (HCK.out _ AV).mono ?_
  rintro e w1 ⟨rfl, hb1⟩
  have B1 : Below w.heap.size w w1 := AV.trans (hb1.mono AV.size)
  go_wp2_with fail
  refine (HTM.out _).mono ?_
  rintro e w1' ⟨rfl, rfl⟩
  go_wp2_with fail
  refine (HFI.out _ B1).mono ?_
  rintro e w2 ⟨⟨caps, rfl, hd2⟩, hb2⟩
  have B2 : Below w.heap.size w w2 := B1.trans (hb2.mono B1.size)
  have HD2 := hide hd2
  obtain ⟨CN, hCN⟩ : ∃ z, CI.name = z := ⟨_, rfl⟩
  obtain ⟨CO, hCO⟩ : ∃ z, CI.once = z := ⟨_, rfl⟩
  obtain ⟨CA, hCA⟩ : ∃ z, CI.again = z := ⟨_, rfl⟩
  rw [hCN, hCO, hCA]
  clear hCN hCO hCA hd2
  obtain ⟨V2, hV2, AV2, CB⟩ : ∃ V', w2.alloc (.cells #[.string CN, .string CO, .string CA, .func (.func f) #[] caps] 48) = V' ∧ Below w2.heap.size w2 V' ∧ V'.heap[w2.heap.size]? = some (.cells #[.string CN, .string CO, .string CA, .func (.func f) #[] caps] 48) := ⟨_, rfl, (Below.refl _ w2).alloc (Nat.le_refl _) _, by show (w2.heap.push _)[w2.heap.size]? = _; simp⟩
  go_wp2_with fail
  have B3 : Below w.heap.size w V2 := B2.trans (AV2.mono B2.size)
  refine (HCO.out _ B3).mono ?_
  rintro e w3 ⟨⟨ak, ck, rfl, hsp3⟩, hb3⟩
  have B4 : Below w.heap.size w w3 := B3.trans (hb3.mono B3.size)
  obtain ⟨V3, hV3, AV3, KB⟩ : ∃ V', w3.alloc (.cells #[.slice ak s.length ck, .int .i64 now] 54) = V' ∧ Below w3.heap.size w3 V' ∧ V'.heap[w3.heap.size]? = some (.cells #[.slice ak s.length ck, .int .i64 now] 54) := ⟨_, rfl, (Below.refl _ w3).alloc (Nat.le_refl _) _, by show (w3.heap.push _)[w3.heap.size]? = _; simp⟩
  go_wp2_with fail
  have hz2 : w2.heap.size < V2.heap.size := (Array.getElem?_eq_some_iff.1 CB).1
  have hz3 : w3.heap.size < V3.heap.size := (Array.getElem?_eq_some_iff.1 KB).1
  have hw2 : w.heap.size < w2.heap.size := by have := (Array.getElem?_eq_some_iff.1 RB).1; have := hb1.size; have := hb2.size; omega
  have h23 : V2.heap.size ≤ w3.heap.size := hb3.size
  have B5 : Below w.heap.size w V3 := B4.trans (AV3.mono B4.size)
  have BC : Below V2.heap.size V2 V3 := hb3.trans (AV3.mono hb3.size)
  have fc : V3.cell? ⟨w2.heap.size, 3, none⟩ = some (.func (.func f) #[] caps) := (BC.cell (p := ⟨w2.heap.size, 3, none⟩) hz2).trans (by simp [World.cell?, CB])
  have BR : Below V.heap.size V V3 := (hb1.trans (hb2.mono hb1.size)).trans (((AV2.trans (hb3.mono AV2.size)).trans (AV3.mono (Nat.le_trans AV2.size hb3.size))).mono (Nat.le_trans hb1.size hb2.size))
  have rb : V3.heap[w.heap.size]? = some (.cells #[.int .i64 0, .string ⟨#[]⟩, .int .i64 0, .slice none 0 0] 27 (0, 0)) := (BR.block _ (Array.getElem?_eq_some_iff.1 RB).1).trans RB
  have hd3 : DedAt (w.heap.size + 1) V3 (.func (.func f) #[] caps) CI.ded := (HD2.out.below AV2 (Nat.le_refl _)).below BC (Nat.le_refl _)
  have hka : ∀ S : Nat → Prop, (∀ k, S k → k < V2.heap.size ∨ V3.heap.size ≤ k) → KeepS S V3 w3.heap.size s now := fun S hS => KeepS.new hsp3 (by omega) AV3 h23 KB hS
  have HZ := hide (And.intro hw2 (And.intro hz2 (And.intro h23 hz3)))
  have HX := hide (And.intro B5 (And.intro fc (And.intro rb (And.intro hd3 hka))))
  have HW3 : Hid (Below w3.heap.size w3 V3) := AV3
  clear hb1 hb2 hb3 AV AV2 AV3 RB CB KB B1 B2 B3 B4 B5 BC BR fc rb hd3 hka hsp3 hz2 hz3 hw2 h23
  clear hV hV2 hV3
  obtain ⟨V6, hV6, AV6, NB⟩ : ∃ V', (V3.alloc (.cells #[.int .i64 0, .string ⟨#[]⟩, .int .i64 0, .slice none 0 0] 27)).drew = V' ∧ Below V3.heap.size V3 V' ∧ V'.heap[V3.heap.size]? = some (.cells #[.int .i64 0, .string ⟨#[]⟩, .int .i64 0, .slice none 0 0] 27) := ⟨_, rfl, ((Below.refl _ V3).alloc (Nat.le_refl _) _).drew, by show (V3.heap.push _)[V3.heap.size]? = _; simp⟩
  have HV6 := hide hV6
  have HNB := hide (And.intro AV6 NB)
  clear hV6 AV6 NB
  have HFC := hide HX.out.2.1
  refine wp_region_held_drew (S := (fun w' : World => w'.cell? ⟨w2.heap.size, 3, none⟩ = some (.func (.func f) #[] caps))) (by kernel_rfl) HFC.out (fun hHeld => ?_)
  refine wpAnyH_take (i := 0) (v := .pointer (some ⟨w2.heap.size, 3, none⟩)) rfl (by kernel_rfl) (by kernel_rfl) (by kernel_rfl) (fun _ _ _ h => h) (Or.inl ⟨by kernel_rfl, by intro w hSw; (try dsimp only at hSw); go_simp⟩) (by assumption) ?_
  refine wpAnyH_take (i := 1) (v := .func (.func f) #[] caps) rfl (by kernel_rfl) (by kernel_rfl) (by kernel_rfl) (fun _ _ _ h => h) (Or.inl ⟨by kernel_rfl, by intro w hSw; (try dsimp only at hSw); go_simp⟩) (by assumption) ?_
  refine wpAnyH_take (i := 2) (v := .slice (some ⟨g0, o0, none⟩) (r.length + 1) cl) rfl (by kernel_rfl) (by kernel_rfl) (by kernel_rfl) (fun _ _ _ h => h) (Or.inl ⟨by kernel_rfl, by intro w hSw; (try dsimp only at hSw); go_simp⟩) (by assumption) ?_
  refine wpAnyH_take (i := 3) (v := .slice ar r.length (cl - 1)) rfl (by kernel_rfl) (by kernel_rfl) (by kernel_rfl) (fun _ _ _ h => h) (Or.inl ⟨by kernel_rfl, by intro w hSw; (try dsimp only at hSw); go_simp⟩) (by assumption) ?_
  refine wpAnyH_ready (rs := [4, 8]) (by kernel_rfl) (by simp) ?_
  refine AllReadyH.cons rfl (fun K hK => ?_) (AllReadyH.cons rfl (fun K hK => ?_) AllReadyH.nil)
  · go_simp
    refine (HFF.out V3.drew caps w3.heap.size (fun k => k = w.heap.size) (HX.out.1.drew) (HX.out.2.2.2.1.below ((Below.refl V3.heap.size V3).drew) (Nat.le_refl _)) (by have := HZ.out; omega) (fun k hk => by have h1 := HZ.out; have h3 : k = w.heap.size := hk; have h2 : V3.heap.size ≤ V3.drew.heap.size := ((Below.refl V3.heap.size V3).drew).size; omega) ((HX.out.2.2.2.2 (fun k => k = w.heap.size) (fun k hk => by have := HZ.out; have h3 : k = w.heap.size := hk; omega)).below ((Below.refl V3.heap.size V3).drew))).mono ?_
    rintro e w9 ⟨rfl, hk9, hb9⟩
    have h9z := hb9.size
    have c9 : w9.cell? ⟨w2.heap.size, 3, none⟩ = some (.func (.func f) #[] caps) := (World.cell?_of_block (a := ⟨w2.heap.size, 3, none⟩) (hb9.block w2.heap.size (by show _ < V3.heap.size; have := HZ.out; omega) (by simp only [one]; have := HZ.out; omega))).trans HX.out.2.1
    refine hK.out _ _ c9 (fun hHeld => ?_)
    clear hK K
    refine wpAnyH_take (i := 5) (v := .tuple #[.agg #[.int .i64 rk, .string rt, .int .i64 rn, .slice none 0 0], .int .i64 E]) rfl (by kernel_rfl) (by kernel_rfl) (by kernel_rfl) (fun _ _ _ h => h) (Or.inl ⟨by kernel_rfl, by intro w hSw; (try dsimp only at hSw); go_simp⟩) (by assumption) ?_
    refine wpAnyH_take (i := 6) (v := .agg #[.int .i64 rk, .string rt, .int .i64 rn, .slice none 0 0]) rfl (by kernel_rfl) (by kernel_rfl) (by kernel_rfl) (fun _ _ _ h => h) (Or.inl ⟨by kernel_rfl, by intro w hSw; (try dsimp only at hSw); go_simp⟩) (by assumption) ?_
    refine wpAnyH_take (i := 7) (v := .int .i64 E) rfl (by kernel_rfl) (by kernel_rfl) (by kernel_rfl) (fun _ _ _ h => h) (Or.inl ⟨by kernel_rfl, by intro w hSw; (try dsimp only at hSw); go_simp⟩) (by assumption) ?_
    obtain ⟨V10, hV10, AV10, NX⟩ : ∃ V', w9.alloc (.cells #[.int .i64 0, .string ⟨#[]⟩, .int .i64 0, .slice none 0 0] 27) = V' ∧ Below w9.heap.size w9 V' ∧ V'.heap[w9.heap.size]? = some (.cells #[.int .i64 0, .string ⟨#[]⟩, .int .i64 0, .slice none 0 0] 27) := ⟨_, rfl, (Below.refl _ w9).alloc (Nat.le_refl _) _, by show (w9.heap.push _)[w9.heap.size]? = _; simp⟩
    have h39 : V3.heap.size ≤ w9.heap.size := h9z
    have hw9 : Below w.heap.size w w9 := HX.out.1.drew.trans (hb9.below (B := w.heap.size) (by show _ ≤ V3.heap.size; have := HZ.out; omega) (fun k hk => by simp only [one] at hk; have := HZ.out; omega))
    have r9 : w9.heap[w.heap.size]? = some (.cells #[.int .i64 0, .string ⟨#[]⟩, .int .i64 0, .slice none 0 0] 27 (0, 0)) := (hb9.block _ (by show _ < V3.heap.size; have := HZ.out; omega) (by simp only [one]; have := HZ.out; omega)).trans HX.out.2.2.1
    have HV10 := hide hV10
    have HNX := hide NX
    have HBW : Hid (Below w.heap.size w V10) := hw9.trans (AV10.mono hw9.size)
    have HRX : Hid (V10.heap[w.heap.size]? = some (.cells #[.int .i64 0, .string ⟨#[]⟩, .int .i64 0, .slice none 0 0] 27 (0, 0))) := (AV10.block _ (Array.getElem?_eq_some_iff.1 r9).1).trans r9
    have HFW : Hid (V10.cell? ⟨w2.heap.size, 3, none⟩ = some (.func (.func f) #[] caps)) := (AV10.cell (p := ⟨w2.heap.size, 3, none⟩) (World.block_lt_of_cell? _ _ c9)).trans c9
    have HLT : Hid (w.heap.size < w9.heap.size ∧ w3.heap.size < w9.heap.size ∧ w9.heap.size < V10.heap.size ∧ w2.heap.size < w9.heap.size) := ⟨by have := HZ.out; omega, by have := HZ.out; omega, (Array.getElem?_eq_some_iff.1 NX).1, by have := HZ.out; omega⟩
    have HKS : Hid (∀ w', (∀ k, k < V10.heap.size → k ≠ w.heap.size → k ≠ w9.heap.size → w'.heap[k]? = V10.heap[k]?) → KeepAt w' w3.heap.size s2 now) := fun w' hag => hk9 w' (fun k h1 h2 => (hag k (Nat.lt_of_lt_of_le h1 AV10.size) h2 (by omega)).trans (AV10.block k h1))
    clear hV10 NX AV10 hk9 hb9 h9z c9 r9 hw9 h39 hHeld
    refine wpAnyH_ready (rs := [8]) (by kernel_rfl) (by simp) ?_
    refine AllReadyH.cons rfl (fun K hK => ?_) AllReadyH.nil
    go_simp
    rw [HV10.out]
    refine hK.out _ _ HFW.out (fun hHeld => ?_)
    clear hK K
    have hNB := HNX.out
    have hlt := HLT.out
    have m0 : V10.cell? ⟨w9.heap.size, 0, none⟩ = some (.int .i64 0) := by simp [World.cell?, hNB]
    have n0 : V10.frozen? ⟨w9.heap.size, 0, none⟩ = false := by simp [World.frozen?, hNB]
    have m1 : V10.cell? ⟨w9.heap.size, 1, none⟩ = some (.string ⟨#[]⟩) := by simp [World.cell?, hNB]
    have n1 : V10.frozen? ⟨w9.heap.size, 1, none⟩ = false := by simp [World.frozen?, hNB]
    have m2 : V10.cell? ⟨w9.heap.size, 2, none⟩ = some (.int .i64 0) := by simp [World.cell?, hNB]
    have n2 : V10.frozen? ⟨w9.heap.size, 2, none⟩ = false := by simp [World.frozen?, hNB]
    have m3 : V10.cell? ⟨w9.heap.size, 3, none⟩ = some (.slice none 0 0) := by simp [World.cell?, hNB]
    have n3 : V10.frozen? ⟨w9.heap.size, 3, none⟩ = false := by simp [World.frozen?, hNB]
    have HP := hide (put4R hNB (.int .i64 rk) (.string rt) (.int .i64 rn) (.slice none 0 0))
    clear hNB hlt
    refine wpAnyH_ready (rs := [9]) (by kernel_rfl) (by simp) ?_
    refine AllReadyH.cons rfl (fun K hK => ?_) AllReadyH.nil
    go_simp
    obtain ⟨hH, hKp⟩ := HP.out
    generalize ((((V10.setCell ⟨w9.heap.size, 0, none⟩ (.int .i64 rk)).setCell ⟨w9.heap.size, 1, none⟩ (.string rt)).setCell ⟨w9.heap.size, 2, none⟩ (.int .i64 rn)).setCell ⟨w9.heap.size, 3, none⟩ (.slice none 0 0)) = V4 at *
    have hlt := HLT.out
    have HB4 : Hid (Below w.heap.size w V4) := HBW.out.trans (hKp.below (B := w.heap.size) (by omega) (fun k hk => by simp only [one] at hk; omega))
    have h4c : V4.cell? ⟨w2.heap.size, 3, none⟩ = some (.func (.func f) #[] caps) := (World.cell?_of_block (a := ⟨w2.heap.size, 3, none⟩) (hKp.block w2.heap.size (by omega) (by simp only [one]; omega))).trans HFW.out
    refine hK.out _ _ h4c (fun hHeld => ?_)
    clear hK K m0 m1 m2 m3 n0 n1 n2 n3
    refine wpAnyH_take (i := 10) (v := .int .i64 E) rfl (by kernel_rfl) (by kernel_rfl) (by kernel_rfl) (fun _ _ _ h => h) (Or.inl ⟨by kernel_rfl, by intro w hSw; (try dsimp only at hSw); go_simp⟩) (by assumption) ?_
    refine wpAnyH_done (by kernel_rfl) ?_ _
    have HR4 : Hid (V4.heap[w.heap.size]? = some (.cells #[.int .i64 0, .string ⟨#[]⟩, .int .i64 0, .slice none 0 0] 27 (0, 0))) := (hKp.block _ (by omega) (by simp only [one]; omega)).trans HRX.out
    have HK4 : Hid (∀ w', (∀ k, k < V4.heap.size → k ≠ w.heap.size → w'.heap[k]? = V4.heap[k]?) → KeepAt w' w3.heap.size s2 now) := fun w' hag => HKS.out w' (fun k h1 h2 h3 => (hag k (Nat.lt_of_lt_of_le h1 hKp.size) h2).trans (hKp.block k h1 (by simp only [one]; omega)))
    have HN4 := hide hH
    have hZ4 := hKp.size
    have HZ4 : Hid (w3.heap.size < V4.heap.size ∧ w.heap.size < w3.heap.size) := ⟨by omega, by have := HZ.out; omega⟩
    clear hH hKp hHeld h4c HP hlt HKS HBW HFW HRX HNX HFF HV6 HNB HW3 HX HFC HFI HRB HCK HTM hZ4
    by_cases hE : E = 0
    · have e1 : (E == 0) = true := by rw [hE]; rfl
      have e2 : (E != 0) = false := by rw [hE]; rfl
      have hR := HR4.out
      have HQ := hide (put4R (w := V4.drew) hR (.int .i64 rk) (.string rt) (.int .i64 rn) (.slice none 0 0))
      obtain ⟨⟨a2, c2, hb5, hs5⟩, -⟩ := HK4.out ((((V4.drew.setCell ⟨w.heap.size, 0, none⟩ (.int .i64 rk)).setCell ⟨w.heap.size, 1, none⟩ (.string rt)).setCell ⟨w.heap.size, 2, none⟩ (.int .i64 rn)).setCell ⟨w.heap.size, 3, none⟩ (.slice none 0 0)) (fun k h1 h2 => HQ.out.2.block k h1 (by simpa only [one] using h2))
      have HS5 := hide hs5
      have hb4 : V4.drew.heap[w3.heap.size]? = some (.cells #[.slice a2 s2.length c2, .int .i64 now] 54 (0, 0)) := (HQ.out.2.block _ HZ4.out.1 (by simp only [one]; have := HZ4.out; omega)).symm.trans hb5
      have hN := HN4.out
      have hS : V4.drew.cell? ⟨w3.heap.size, 0, none⟩ = some (.slice a2 s2.length c2) ∧ V4.drew.cell? ⟨w9.heap.size, 0, none⟩ = some (.int .i64 rk) ∧ V4.drew.cell? ⟨w9.heap.size, 1, none⟩ = some (.string rt) ∧ V4.drew.cell? ⟨w9.heap.size, 2, none⟩ = some (.int .i64 rn) ∧ V4.drew.cell? ⟨w9.heap.size, 3, none⟩ = some (.slice none 0 0) := ⟨by simp [World.cell?, hb4], (by show V4.cell? _ = _; simp [World.cell?, hN]), (by show V4.cell? _ = _; simp [World.cell?, hN]), (by show V4.cell? _ = _; simp [World.cell?, hN]), (by show V4.cell? _ = _; simp [World.cell?, hN])⟩
      have HSS := hide hS
      have HZD : Hid (w3.heap.size < V4.drew.heap.size) := HZ4.out.1
      have HLN : Hid (w9.heap.size < V4.drew.heap.size) := (Array.getElem?_eq_some_iff.1 HN4.out).1
      have HBD : Hid (Below w.heap.size w V4.drew) := HB4.out.drew
      have hRd : V4.drew.heap[w.heap.size]? = some (.cells #[.int .i64 0, .string ⟨#[]⟩, .int .i64 0, .slice none 0 0] 27 (0, 0)) := hR
      have hnb1 : ¬ w9.heap.size = w.heap.size := by have := HLT.out; omega
      have hnb2 : ¬ w3.heap.size = w.heap.size := by have := HZ4.out; omega
      have m0 : V4.drew.cell? ⟨w.heap.size, 0, none⟩ = some (.int .i64 0) := by simp only [World.cell?, hRd]; rfl
      have n0 : V4.drew.frozen? ⟨w.heap.size, 0, none⟩ = false := by simp only [World.frozen?, hRd]; rfl
      have m1 : V4.drew.cell? ⟨w.heap.size, 1, none⟩ = some (.string ⟨#[]⟩) := by simp only [World.cell?, hRd]; rfl
      have n1 : V4.drew.frozen? ⟨w.heap.size, 1, none⟩ = false := by simp only [World.frozen?, hRd]; rfl
      have m2 : V4.drew.cell? ⟨w.heap.size, 2, none⟩ = some (.int .i64 0) := by simp only [World.cell?, hRd]; rfl
      have n2 : V4.drew.frozen? ⟨w.heap.size, 2, none⟩ = false := by simp only [World.frozen?, hRd]; rfl
      have m3 : V4.drew.cell? ⟨w.heap.size, 3, none⟩ = some (.slice none 0 0) := by simp only [World.cell?, hRd]; rfl
      have n3 : V4.drew.frozen? ⟨w.heap.size, 3, none⟩ = false := by simp only [World.frozen?, hRd]; rfl
      clear hR hRd hN hb4 hb5 hs5 hS HK4 HN4 HR4 HB4
      go_wp2_with fail
      refine wp_region_held_drew (S := (fun w' : World => w'.cell? ⟨w3.heap.size, 0, none⟩ = some (.slice a2 s2.length c2) ∧ w'.cell? ⟨w9.heap.size, 0, none⟩ = some (.int .i64 rk) ∧ w'.cell? ⟨w9.heap.size, 1, none⟩ = some (.string rt) ∧ w'.cell? ⟨w9.heap.size, 2, none⟩ = some (.int .i64 rn) ∧ w'.cell? ⟨w9.heap.size, 3, none⟩ = some (.slice none 0 0))) (by kernel_rfl) HSS.out (fun hHeld => ?_)
      generalize V4.drew = W4 at *
      refine wpAnyH_take (i := 0) (v := .pointer (some ⟨w3.heap.size, 0, none⟩)) rfl (by kernel_rfl) (by kernel_rfl) (by kernel_rfl) (fun _ _ _ h => h) (Or.inl ⟨by kernel_rfl, by intro w hSw; (try dsimp only at hSw); go_simp⟩) (by assumption) ?_
      refine wpAnyH_take (i := 1) (v := .slice a2 s2.length c2) rfl (by kernel_rfl) (by kernel_rfl) (by kernel_rfl) (fun _ _ _ h => h) (Or.inl ⟨by kernel_rfl, by intro w hSw; (try dsimp only at hSw); go_simp⟩) (by assumption) ?_
      refine wpAnyH_take (i := 2) (v := .agg #[.int .i64 rk, .string rt, .int .i64 rn, .slice none 0 0]) rfl (by kernel_rfl) (by kernel_rfl) (by kernel_rfl) (fun _ _ _ h => h) (Or.inl ⟨by kernel_rfl, by intro w hSw; (try dsimp only at hSw); go_simp⟩) (by assumption) ?_
      refine wpAnyH_take (i := 3) (v := .slice a2 s2.length c2) rfl (by kernel_rfl) (by kernel_rfl) (by kernel_rfl) (fun _ _ _ h => h) (Or.inl ⟨by kernel_rfl, by intro w hSw; (try dsimp only at hSw); go_simp⟩) (by assumption) ?_
      refine wpAnyH_ready (rs := [4]) (by kernel_rfl) (by simp) ?_
      refine AllReadyH.cons rfl (fun K hK => ?_) AllReadyH.nil
      go_simp
      obtain ⟨hH, hKp⟩ := HQ.out
      have hSn : (fun w' : World => w'.cell? ⟨w3.heap.size, 0, none⟩ = some (.slice a2 s2.length c2) ∧ w'.cell? ⟨w9.heap.size, 0, none⟩ = some (.int .i64 rk) ∧ w'.cell? ⟨w9.heap.size, 1, none⟩ = some (.string rt) ∧ w'.cell? ⟨w9.heap.size, 2, none⟩ = some (.int .i64 rn) ∧ w'.cell? ⟨w9.heap.size, 3, none⟩ = some (.slice none 0 0)) (((((W4.setCell ⟨w.heap.size, 0, none⟩ (.int .i64 rk)).setCell ⟨w.heap.size, 1, none⟩ (.string rt)).setCell ⟨w.heap.size, 2, none⟩ (.int .i64 rn)).setCell ⟨w.heap.size, 3, none⟩ (.slice none 0 0))) := by
        refine ⟨?_, ?_, ?_, ?_, ?_⟩
        · exact (hKp.cell (p := ⟨w3.heap.size, 0, none⟩) HZD.out (by simp only [one]; omega)).trans HSS.out.1
        · exact (hKp.cell (p := ⟨w9.heap.size, 0, none⟩) HLN.out (by simp only [one]; omega)).trans HSS.out.2.1
        · exact (hKp.cell (p := ⟨w9.heap.size, 1, none⟩) HLN.out (by simp only [one]; omega)).trans HSS.out.2.2.1
        · exact (hKp.cell (p := ⟨w9.heap.size, 2, none⟩) HLN.out (by simp only [one]; omega)).trans HSS.out.2.2.2.1
        · exact (hKp.cell (p := ⟨w9.heap.size, 3, none⟩) HLN.out (by simp only [one]; omega)).trans HSS.out.2.2.2.2
      have HBF : Hid (Below w.heap.size w (((((W4.setCell ⟨w.heap.size, 0, none⟩ (.int .i64 rk)).setCell ⟨w.heap.size, 1, none⟩ (.string rt)).setCell ⟨w.heap.size, 2, none⟩ (.int .i64 rn)).setCell ⟨w.heap.size, 3, none⟩ (.slice none 0 0)))) := HBD.out.trans (hKp.below (B := w.heap.size) (Nat.le_of_lt (Nat.lt_trans HZ4.out.2 HZD.out)) (fun k hk => by simp only [one] at hk; omega))
      have HHH := hide hH
      generalize ((((W4.setCell ⟨w.heap.size, 0, none⟩ (.int .i64 rk)).setCell ⟨w.heap.size, 1, none⟩ (.string rt)).setCell ⟨w.heap.size, 2, none⟩ (.int .i64 rn)).setCell ⟨w.heap.size, 3, none⟩ (.slice none 0 0)) = V5 at *
      refine hK.out _ _ hSn (fun hHeld => ?_)
      clear hK K m0 m1 m2 m3 n0 n1 n2 n3 hH hKp hSn
      refine wpAnyH_take (i := 5) (v := .int .i64 0) rfl (by kernel_rfl) (by kernel_rfl) (by kernel_rfl) (fun _ _ _ h => h) (Or.inl ⟨by kernel_rfl, by intro w hSw; (try dsimp only at hSw); go_simp⟩) (by assumption) ?_
      refine wpAnyH_done (by kernel_rfl) ?_ _
      go_wp2_with fail
      have hH := HHH.out
      refine bodyPost_ret (v := .tuple #[.slice a2 s2.length c2, .agg #[.int .i64 rk, .string rt, .int .i64 rn, .slice none 0 0], .int .i64 0]) (by simp [results, Tryz.results5, go_sem, World.cell?, hH]) rfl ⟨by first | exact ⟨a2, ⟨c2, rfl⟩, HS5.out⟩ | exact ⟨a2, c2, by rw [if_pos hE, if_pos hE], by rw [if_pos hE]; exact HS5.out⟩, HBF.out⟩
    · have e1 : (E == 0) = false := by rw [beq_eq_false_iff_ne]; exact hE
      have e2 : (E != 0) = true := by rw [bne_iff_ne]; exact hE
      go_wp2_with fail
      refine (HCO.out _ HB4.out).mono ?_
      rintro e w10 ⟨⟨a3, c3, rfl, hs10⟩, hb10⟩
      go_wp2_with fail
      refine (HRF.out _ _).mono ?_
      rintro e w11 ⟨rfl, hb11⟩
      have hz : w.heap.size < V4.heap.size := Nat.lt_trans HZ4.out.2 HZ4.out.1
      have hRw : w11.heap[w.heap.size]? = some (.cells #[.int .i64 0, .string ⟨#[]⟩, .int .i64 0, .slice none 0 0] 27 (0, 0)) := (hb11.block _ (Nat.lt_of_lt_of_le hz hb10.size)).trans ((hb10.block _ hz).trans HR4.out)
      have HBE : Hid (Below w.heap.size w w11) := HB4.out.trans ((hb10.trans (hb11.mono hb10.size)).mono (Nat.le_of_lt hz))
      have HSE := hide (fun (w' : World) (hk : Kept (one w.heap.size) w11 w') => hs10 w' (fun k h1 h2 => (hk.block k (Nat.lt_of_lt_of_le h2 hb11.size) (by simp only [one]; omega)).trans (hb11.block k h2)))
      have HQ := hide (fun y0 y1 y2 y3 => put4R hRw y0 y1 y2 y3)
      have hz11 : w.heap.size < w11.heap.size := (Array.getElem?_eq_some_iff.1 hRw).1
      have m0 : w11.cell? ⟨w.heap.size, 0, none⟩ = some (.int .i64 0) := by simp [World.cell?, hRw]
      have n0 : w11.frozen? ⟨w.heap.size, 0, none⟩ = false := by simp [World.frozen?, hRw]
      have m1 : w11.cell? ⟨w.heap.size, 1, none⟩ = some (.string ⟨#[]⟩) := by simp [World.cell?, hRw]
      have n1 : w11.frozen? ⟨w.heap.size, 1, none⟩ = false := by simp [World.frozen?, hRw]
      have m2 : w11.cell? ⟨w.heap.size, 2, none⟩ = some (.int .i64 0) := by simp [World.cell?, hRw]
      have n2 : w11.frozen? ⟨w.heap.size, 2, none⟩ = false := by simp [World.frozen?, hRw]
      have m3 : w11.cell? ⟨w.heap.size, 3, none⟩ = some (.slice none 0 0) := by simp [World.cell?, hRw]
      have n3 : w11.frozen? ⟨w.heap.size, 3, none⟩ = false := by simp [World.frozen?, hRw]
      obtain ⟨kk, nn, hRV⟩ : ∃ kk nn, refuseV E = .agg #[.int .i64 kk, .string ⟨#[]⟩, .int .i64 nn, .slice none 0 0] := by
        unfold refuseV
        split
        · exact ⟨_, _, rfl⟩
        · exact ⟨_, _, rfl⟩
      have HRV := hide hRV
      rw [hRV]
      clear hRw hs10 hb10 hb11 hRV
      go_wp2_with fail
      obtain ⟨hH, hKp⟩ := HQ.out (.int .i64 kk) (.string ⟨#[]⟩) (.int .i64 nn) (.slice none 0 0)
      have hsp := HSE.out _ hKp
      generalize ((((w11.setCell ⟨w.heap.size, 0, none⟩ (.int .i64 kk)).setCell ⟨w.heap.size, 1, none⟩ (.string ⟨#[]⟩)).setCell ⟨w.heap.size, 2, none⟩ (.int .i64 nn)).setCell ⟨w.heap.size, 3, none⟩ (.slice none 0 0)) = V5 at *
      refine bodyPost_ret (v := .tuple #[.slice a3 s.length c3, .agg #[.int .i64 kk, .string ⟨#[]⟩, .int .i64 nn, .slice none 0 0], .int .i64 0]) (by simp [results, Tryz.results5, go_sem, World.cell?, hH]) rfl ⟨by first | exact ⟨a3, ⟨c3, by rw [HRV.out]⟩, hsp⟩ | exact ⟨a3, c3, by rw [if_neg hE, if_neg hE, HRV.out], by rw [if_neg hE]; exact hsp⟩, HBE.out.trans (hKp.below (B := w.heap.size) (Nat.le_of_lt hz11) (fun k hk => by simp only [one] at hk; omega))⟩
  · go_simp
    rw [HV6.out]
    have c6 : V6.cell? ⟨w2.heap.size, 3, none⟩ = some (.func (.func f) #[] caps) := (HNB.out.1.cell (p := ⟨w2.heap.size, 3, none⟩) (World.block_lt_of_cell? _ _ HX.out.2.1)).trans HX.out.2.1
    refine hK.out _ _ c6 (fun hHeld => ?_)
    clear hK K
    have h6z : V3.heap.size < V6.heap.size := (Array.getElem?_eq_some_iff.1 HNB.out.2).1
    refine wpAnyH_ready (rs := [4]) (by kernel_rfl) (by simp) ?_
    refine AllReadyH.cons rfl (fun K hK => ?_) AllReadyH.nil
    go_simp
    refine (HFF.out V6 caps w3.heap.size (fun k => k = w.heap.size ∨ k = V3.heap.size) (HX.out.1.trans (HNB.out.1.mono HX.out.1.size)) (HX.out.2.2.2.1.below (HNB.out.1) (Nat.le_refl _)) (by have := HZ.out; omega) (fun k hk => by have h1 := HZ.out; have h3 : k = w.heap.size ∨ k = V3.heap.size := hk; have h2 : V3.heap.size ≤ V6.heap.size := (HNB.out.1).size; omega) ((HX.out.2.2.2.2 (fun k => k = w.heap.size ∨ k = V3.heap.size) (fun k hk => by have := HZ.out; have h3 : k = w.heap.size ∨ k = V3.heap.size := hk; omega)).below (HNB.out.1))).mono ?_
    rintro e w9 ⟨rfl, hk9, hb9⟩
    have h9z := hb9.size
    have c9 : w9.cell? ⟨w2.heap.size, 3, none⟩ = some (.func (.func f) #[] caps) := (World.cell?_of_block (a := ⟨w2.heap.size, 3, none⟩) (hb9.block w2.heap.size (by have := HZ.out; omega) (by simp only [one]; have := HZ.out; omega))).trans c6
    refine hK.out _ _ c9 (fun hHeld => ?_)
    clear hK K
    refine wpAnyH_take (i := 5) (v := .tuple #[.agg #[.int .i64 rk, .string rt, .int .i64 rn, .slice none 0 0], .int .i64 E]) rfl (by kernel_rfl) (by kernel_rfl) (by kernel_rfl) (fun _ _ _ h => h) (Or.inl ⟨by kernel_rfl, by intro w hSw; (try dsimp only at hSw); go_simp⟩) (by assumption) ?_
    refine wpAnyH_take (i := 6) (v := .agg #[.int .i64 rk, .string rt, .int .i64 rn, .slice none 0 0]) rfl (by kernel_rfl) (by kernel_rfl) (by kernel_rfl) (fun _ _ _ h => h) (Or.inl ⟨by kernel_rfl, by intro w hSw; (try dsimp only at hSw); go_simp⟩) (by assumption) ?_
    refine wpAnyH_take (i := 7) (v := .int .i64 E) rfl (by kernel_rfl) (by kernel_rfl) (by kernel_rfl) (fun _ _ _ h => h) (Or.inl ⟨by kernel_rfl, by intro w hSw; (try dsimp only at hSw); go_simp⟩) (by assumption) ?_
    have hw6 : Below w.heap.size w V6 := HX.out.1.trans (HNB.out.1.mono HX.out.1.size)
    have HBW : Hid (Below w.heap.size w w9) := hw6.trans (hb9.below (B := w.heap.size) (by have := HZ.out; omega) (fun k hk => by simp only [one] at hk; have := HZ.out; omega))
    have HRX : Hid (w9.heap[w.heap.size]? = some (.cells #[.int .i64 0, .string ⟨#[]⟩, .int .i64 0, .slice none 0 0] 27 (0, 0))) := (hb9.block _ (by have := HZ.out; omega) (by simp only [one]; have := HZ.out; omega)).trans ((HNB.out.1.block _ (Array.getElem?_eq_some_iff.1 HX.out.2.2.1).1).trans HX.out.2.2.1)
    have HNX : Hid (w9.heap[V3.heap.size]? = some (.cells #[.int .i64 0, .string ⟨#[]⟩, .int .i64 0, .slice none 0 0] 27)) := (hb9.block _ h6z (by simp only [one]; have := HZ.out; omega)).trans HNB.out.2
    have HFW := hide c9
    have HLT : Hid (w.heap.size < V3.heap.size ∧ w3.heap.size < V3.heap.size ∧ V3.heap.size < w9.heap.size ∧ w2.heap.size < V3.heap.size) := ⟨by have := HZ.out; omega, by have := HZ.out; omega, by omega, by have := HZ.out; omega⟩
    have HKS : Hid (∀ w', (∀ k, k < w9.heap.size → k ≠ w.heap.size → k ≠ V3.heap.size → w'.heap[k]? = w9.heap[k]?) → KeepAt w' w3.heap.size s2 now) := fun w' hag => hk9 w' (fun k h1 h2 => hag k h1 (fun h => h2 (.inl h)) (fun h => h2 (.inr h)))
    clear hk9 hb9 h9z c9 c6 h6z hw6
    have hNB := HNX.out
    have hlt := HLT.out
    have m0 : w9.cell? ⟨V3.heap.size, 0, none⟩ = some (.int .i64 0) := by simp [World.cell?, hNB]
    have n0 : w9.frozen? ⟨V3.heap.size, 0, none⟩ = false := by simp [World.frozen?, hNB]
    have m1 : w9.cell? ⟨V3.heap.size, 1, none⟩ = some (.string ⟨#[]⟩) := by simp [World.cell?, hNB]
    have n1 : w9.frozen? ⟨V3.heap.size, 1, none⟩ = false := by simp [World.frozen?, hNB]
    have m2 : w9.cell? ⟨V3.heap.size, 2, none⟩ = some (.int .i64 0) := by simp [World.cell?, hNB]
    have n2 : w9.frozen? ⟨V3.heap.size, 2, none⟩ = false := by simp [World.frozen?, hNB]
    have m3 : w9.cell? ⟨V3.heap.size, 3, none⟩ = some (.slice none 0 0) := by simp [World.cell?, hNB]
    have n3 : w9.frozen? ⟨V3.heap.size, 3, none⟩ = false := by simp [World.frozen?, hNB]
    have HP := hide (put4R hNB (.int .i64 rk) (.string rt) (.int .i64 rn) (.slice none 0 0))
    clear hNB hlt
    refine wpAnyH_ready (rs := [9]) (by kernel_rfl) (by simp) ?_
    refine AllReadyH.cons rfl (fun K hK => ?_) AllReadyH.nil
    go_simp
    obtain ⟨hH, hKp⟩ := HP.out
    generalize ((((w9.setCell ⟨V3.heap.size, 0, none⟩ (.int .i64 rk)).setCell ⟨V3.heap.size, 1, none⟩ (.string rt)).setCell ⟨V3.heap.size, 2, none⟩ (.int .i64 rn)).setCell ⟨V3.heap.size, 3, none⟩ (.slice none 0 0)) = V4 at *
    have hlt := HLT.out
    have HB4 : Hid (Below w.heap.size w V4) := HBW.out.trans (hKp.below (B := w.heap.size) (by omega) (fun k hk => by simp only [one] at hk; omega))
    have h4c : V4.cell? ⟨w2.heap.size, 3, none⟩ = some (.func (.func f) #[] caps) := (World.cell?_of_block (a := ⟨w2.heap.size, 3, none⟩) (hKp.block w2.heap.size (by omega) (by simp only [one]; omega))).trans HFW.out
    refine hK.out _ _ h4c (fun hHeld => ?_)
    clear hK K m0 m1 m2 m3 n0 n1 n2 n3
    refine wpAnyH_take (i := 10) (v := .int .i64 E) rfl (by kernel_rfl) (by kernel_rfl) (by kernel_rfl) (fun _ _ _ h => h) (Or.inl ⟨by kernel_rfl, by intro w hSw; (try dsimp only at hSw); go_simp⟩) (by assumption) ?_
    refine wpAnyH_done (by kernel_rfl) ?_ _
    have HR4 : Hid (V4.heap[w.heap.size]? = some (.cells #[.int .i64 0, .string ⟨#[]⟩, .int .i64 0, .slice none 0 0] 27 (0, 0))) := (hKp.block _ (by omega) (by simp only [one]; omega)).trans HRX.out
    have HK4 : Hid (∀ w', (∀ k, k < V4.heap.size → k ≠ w.heap.size → w'.heap[k]? = V4.heap[k]?) → KeepAt w' w3.heap.size s2 now) := fun w' hag => HKS.out w' (fun k h1 h2 h3 => (hag k (Nat.lt_of_lt_of_le h1 hKp.size) h2).trans (hKp.block k h1 (by simp only [one]; omega)))
    have HN4 := hide hH
    have hZ4 := hKp.size
    have HZ4 : Hid (w3.heap.size < V4.heap.size ∧ w.heap.size < w3.heap.size) := ⟨by omega, by have := HZ.out; omega⟩
    clear hH hKp hHeld h4c HP hlt HKS HBW HFW HRX HNX HFF HV6 HNB HW3 HX HFC HFI HRB HCK HTM hZ4
    by_cases hE : E = 0
    · have e1 : (E == 0) = true := by rw [hE]; rfl
      have e2 : (E != 0) = false := by rw [hE]; rfl
      have hR := HR4.out
      have HQ := hide (put4R (w := V4.drew) hR (.int .i64 rk) (.string rt) (.int .i64 rn) (.slice none 0 0))
      obtain ⟨⟨a2, c2, hb5, hs5⟩, -⟩ := HK4.out ((((V4.drew.setCell ⟨w.heap.size, 0, none⟩ (.int .i64 rk)).setCell ⟨w.heap.size, 1, none⟩ (.string rt)).setCell ⟨w.heap.size, 2, none⟩ (.int .i64 rn)).setCell ⟨w.heap.size, 3, none⟩ (.slice none 0 0)) (fun k h1 h2 => HQ.out.2.block k h1 (by simpa only [one] using h2))
      have HS5 := hide hs5
      have hb4 : V4.drew.heap[w3.heap.size]? = some (.cells #[.slice a2 s2.length c2, .int .i64 now] 54 (0, 0)) := (HQ.out.2.block _ HZ4.out.1 (by simp only [one]; have := HZ4.out; omega)).symm.trans hb5
      have hN := HN4.out
      have hS : V4.drew.cell? ⟨w3.heap.size, 0, none⟩ = some (.slice a2 s2.length c2) ∧ V4.drew.cell? ⟨V3.heap.size, 0, none⟩ = some (.int .i64 rk) ∧ V4.drew.cell? ⟨V3.heap.size, 1, none⟩ = some (.string rt) ∧ V4.drew.cell? ⟨V3.heap.size, 2, none⟩ = some (.int .i64 rn) ∧ V4.drew.cell? ⟨V3.heap.size, 3, none⟩ = some (.slice none 0 0) := ⟨by simp [World.cell?, hb4], (by show V4.cell? _ = _; simp [World.cell?, hN]), (by show V4.cell? _ = _; simp [World.cell?, hN]), (by show V4.cell? _ = _; simp [World.cell?, hN]), (by show V4.cell? _ = _; simp [World.cell?, hN])⟩
      have HSS := hide hS
      have HZD : Hid (w3.heap.size < V4.drew.heap.size) := HZ4.out.1
      have HLN : Hid (V3.heap.size < V4.drew.heap.size) := (Array.getElem?_eq_some_iff.1 HN4.out).1
      have HBD : Hid (Below w.heap.size w V4.drew) := HB4.out.drew
      have hRd : V4.drew.heap[w.heap.size]? = some (.cells #[.int .i64 0, .string ⟨#[]⟩, .int .i64 0, .slice none 0 0] 27 (0, 0)) := hR
      have hnb1 : ¬ V3.heap.size = w.heap.size := by have := HLT.out; omega
      have hnb2 : ¬ w3.heap.size = w.heap.size := by have := HZ4.out; omega
      have m0 : V4.drew.cell? ⟨w.heap.size, 0, none⟩ = some (.int .i64 0) := by simp only [World.cell?, hRd]; rfl
      have n0 : V4.drew.frozen? ⟨w.heap.size, 0, none⟩ = false := by simp only [World.frozen?, hRd]; rfl
      have m1 : V4.drew.cell? ⟨w.heap.size, 1, none⟩ = some (.string ⟨#[]⟩) := by simp only [World.cell?, hRd]; rfl
      have n1 : V4.drew.frozen? ⟨w.heap.size, 1, none⟩ = false := by simp only [World.frozen?, hRd]; rfl
      have m2 : V4.drew.cell? ⟨w.heap.size, 2, none⟩ = some (.int .i64 0) := by simp only [World.cell?, hRd]; rfl
      have n2 : V4.drew.frozen? ⟨w.heap.size, 2, none⟩ = false := by simp only [World.frozen?, hRd]; rfl
      have m3 : V4.drew.cell? ⟨w.heap.size, 3, none⟩ = some (.slice none 0 0) := by simp only [World.cell?, hRd]; rfl
      have n3 : V4.drew.frozen? ⟨w.heap.size, 3, none⟩ = false := by simp only [World.frozen?, hRd]; rfl
      clear hR hRd hN hb4 hb5 hs5 hS HK4 HN4 HR4 HB4
      go_wp2_with fail
      refine wp_region_held_drew (S := (fun w' : World => w'.cell? ⟨w3.heap.size, 0, none⟩ = some (.slice a2 s2.length c2) ∧ w'.cell? ⟨V3.heap.size, 0, none⟩ = some (.int .i64 rk) ∧ w'.cell? ⟨V3.heap.size, 1, none⟩ = some (.string rt) ∧ w'.cell? ⟨V3.heap.size, 2, none⟩ = some (.int .i64 rn) ∧ w'.cell? ⟨V3.heap.size, 3, none⟩ = some (.slice none 0 0))) (by kernel_rfl) HSS.out (fun hHeld => ?_)
      generalize V4.drew = W4 at *
      refine wpAnyH_take (i := 0) (v := .pointer (some ⟨w3.heap.size, 0, none⟩)) rfl (by kernel_rfl) (by kernel_rfl) (by kernel_rfl) (fun _ _ _ h => h) (Or.inl ⟨by kernel_rfl, by intro w hSw; (try dsimp only at hSw); go_simp⟩) (by assumption) ?_
      refine wpAnyH_take (i := 1) (v := .slice a2 s2.length c2) rfl (by kernel_rfl) (by kernel_rfl) (by kernel_rfl) (fun _ _ _ h => h) (Or.inl ⟨by kernel_rfl, by intro w hSw; (try dsimp only at hSw); go_simp⟩) (by assumption) ?_
      refine wpAnyH_take (i := 2) (v := .agg #[.int .i64 rk, .string rt, .int .i64 rn, .slice none 0 0]) rfl (by kernel_rfl) (by kernel_rfl) (by kernel_rfl) (fun _ _ _ h => h) (Or.inl ⟨by kernel_rfl, by intro w hSw; (try dsimp only at hSw); go_simp⟩) (by assumption) ?_
      refine wpAnyH_take (i := 3) (v := .slice a2 s2.length c2) rfl (by kernel_rfl) (by kernel_rfl) (by kernel_rfl) (fun _ _ _ h => h) (Or.inl ⟨by kernel_rfl, by intro w hSw; (try dsimp only at hSw); go_simp⟩) (by assumption) ?_
      refine wpAnyH_ready (rs := [4]) (by kernel_rfl) (by simp) ?_
      refine AllReadyH.cons rfl (fun K hK => ?_) AllReadyH.nil
      go_simp
      obtain ⟨hH, hKp⟩ := HQ.out
      have hSn : (fun w' : World => w'.cell? ⟨w3.heap.size, 0, none⟩ = some (.slice a2 s2.length c2) ∧ w'.cell? ⟨V3.heap.size, 0, none⟩ = some (.int .i64 rk) ∧ w'.cell? ⟨V3.heap.size, 1, none⟩ = some (.string rt) ∧ w'.cell? ⟨V3.heap.size, 2, none⟩ = some (.int .i64 rn) ∧ w'.cell? ⟨V3.heap.size, 3, none⟩ = some (.slice none 0 0)) (((((W4.setCell ⟨w.heap.size, 0, none⟩ (.int .i64 rk)).setCell ⟨w.heap.size, 1, none⟩ (.string rt)).setCell ⟨w.heap.size, 2, none⟩ (.int .i64 rn)).setCell ⟨w.heap.size, 3, none⟩ (.slice none 0 0))) := by
        refine ⟨?_, ?_, ?_, ?_, ?_⟩
        · exact (hKp.cell (p := ⟨w3.heap.size, 0, none⟩) HZD.out (by simp only [one]; omega)).trans HSS.out.1
        · exact (hKp.cell (p := ⟨V3.heap.size, 0, none⟩) HLN.out (by simp only [one]; omega)).trans HSS.out.2.1
        · exact (hKp.cell (p := ⟨V3.heap.size, 1, none⟩) HLN.out (by simp only [one]; omega)).trans HSS.out.2.2.1
        · exact (hKp.cell (p := ⟨V3.heap.size, 2, none⟩) HLN.out (by simp only [one]; omega)).trans HSS.out.2.2.2.1
        · exact (hKp.cell (p := ⟨V3.heap.size, 3, none⟩) HLN.out (by simp only [one]; omega)).trans HSS.out.2.2.2.2
      have HBF : Hid (Below w.heap.size w (((((W4.setCell ⟨w.heap.size, 0, none⟩ (.int .i64 rk)).setCell ⟨w.heap.size, 1, none⟩ (.string rt)).setCell ⟨w.heap.size, 2, none⟩ (.int .i64 rn)).setCell ⟨w.heap.size, 3, none⟩ (.slice none 0 0)))) := HBD.out.trans (hKp.below (B := w.heap.size) (Nat.le_of_lt (Nat.lt_trans HZ4.out.2 HZD.out)) (fun k hk => by simp only [one] at hk; omega))
      have HHH := hide hH
      generalize ((((W4.setCell ⟨w.heap.size, 0, none⟩ (.int .i64 rk)).setCell ⟨w.heap.size, 1, none⟩ (.string rt)).setCell ⟨w.heap.size, 2, none⟩ (.int .i64 rn)).setCell ⟨w.heap.size, 3, none⟩ (.slice none 0 0)) = V5 at *
      refine hK.out _ _ hSn (fun hHeld => ?_)
      clear hK K m0 m1 m2 m3 n0 n1 n2 n3 hH hKp hSn
      refine wpAnyH_take (i := 5) (v := .int .i64 0) rfl (by kernel_rfl) (by kernel_rfl) (by kernel_rfl) (fun _ _ _ h => h) (Or.inl ⟨by kernel_rfl, by intro w hSw; (try dsimp only at hSw); go_simp⟩) (by assumption) ?_
      refine wpAnyH_done (by kernel_rfl) ?_ _
      go_wp2_with fail
      have hH := HHH.out
      refine bodyPost_ret (v := .tuple #[.slice a2 s2.length c2, .agg #[.int .i64 rk, .string rt, .int .i64 rn, .slice none 0 0], .int .i64 0]) (by simp [results, Tryz.results5, go_sem, World.cell?, hH]) rfl ⟨by first | exact ⟨a2, ⟨c2, rfl⟩, HS5.out⟩ | exact ⟨a2, c2, by rw [if_pos hE, if_pos hE], by rw [if_pos hE]; exact HS5.out⟩, HBF.out⟩
    · have e1 : (E == 0) = false := by rw [beq_eq_false_iff_ne]; exact hE
      have e2 : (E != 0) = true := by rw [bne_iff_ne]; exact hE
      go_wp2_with fail
      refine (HCO.out _ HB4.out).mono ?_
      rintro e w10 ⟨⟨a3, c3, rfl, hs10⟩, hb10⟩
      go_wp2_with fail
      refine (HRF.out _ _).mono ?_
      rintro e w11 ⟨rfl, hb11⟩
      have hz : w.heap.size < V4.heap.size := Nat.lt_trans HZ4.out.2 HZ4.out.1
      have hRw : w11.heap[w.heap.size]? = some (.cells #[.int .i64 0, .string ⟨#[]⟩, .int .i64 0, .slice none 0 0] 27 (0, 0)) := (hb11.block _ (Nat.lt_of_lt_of_le hz hb10.size)).trans ((hb10.block _ hz).trans HR4.out)
      have HBE : Hid (Below w.heap.size w w11) := HB4.out.trans ((hb10.trans (hb11.mono hb10.size)).mono (Nat.le_of_lt hz))
      have HSE := hide (fun (w' : World) (hk : Kept (one w.heap.size) w11 w') => hs10 w' (fun k h1 h2 => (hk.block k (Nat.lt_of_lt_of_le h2 hb11.size) (by simp only [one]; omega)).trans (hb11.block k h2)))
      have HQ := hide (fun y0 y1 y2 y3 => put4R hRw y0 y1 y2 y3)
      have hz11 : w.heap.size < w11.heap.size := (Array.getElem?_eq_some_iff.1 hRw).1
      have m0 : w11.cell? ⟨w.heap.size, 0, none⟩ = some (.int .i64 0) := by simp [World.cell?, hRw]
      have n0 : w11.frozen? ⟨w.heap.size, 0, none⟩ = false := by simp [World.frozen?, hRw]
      have m1 : w11.cell? ⟨w.heap.size, 1, none⟩ = some (.string ⟨#[]⟩) := by simp [World.cell?, hRw]
      have n1 : w11.frozen? ⟨w.heap.size, 1, none⟩ = false := by simp [World.frozen?, hRw]
      have m2 : w11.cell? ⟨w.heap.size, 2, none⟩ = some (.int .i64 0) := by simp [World.cell?, hRw]
      have n2 : w11.frozen? ⟨w.heap.size, 2, none⟩ = false := by simp [World.frozen?, hRw]
      have m3 : w11.cell? ⟨w.heap.size, 3, none⟩ = some (.slice none 0 0) := by simp [World.cell?, hRw]
      have n3 : w11.frozen? ⟨w.heap.size, 3, none⟩ = false := by simp [World.frozen?, hRw]
      obtain ⟨kk, nn, hRV⟩ : ∃ kk nn, refuseV E = .agg #[.int .i64 kk, .string ⟨#[]⟩, .int .i64 nn, .slice none 0 0] := by
        unfold refuseV
        split
        · exact ⟨_, _, rfl⟩
        · exact ⟨_, _, rfl⟩
      have HRV := hide hRV
      rw [hRV]
      clear hRw hs10 hb10 hb11 hRV
      go_wp2_with fail
      obtain ⟨hH, hKp⟩ := HQ.out (.int .i64 kk) (.string ⟨#[]⟩) (.int .i64 nn) (.slice none 0 0)
      have hsp := HSE.out _ hKp
      generalize ((((w11.setCell ⟨w.heap.size, 0, none⟩ (.int .i64 kk)).setCell ⟨w.heap.size, 1, none⟩ (.string ⟨#[]⟩)).setCell ⟨w.heap.size, 2, none⟩ (.int .i64 nn)).setCell ⟨w.heap.size, 3, none⟩ (.slice none 0 0)) = V5 at *
      refine bodyPost_ret (v := .tuple #[.slice a3 s.length c3, .agg #[.int .i64 kk, .string ⟨#[]⟩, .int .i64 nn, .slice none 0 0], .int .i64 0]) (by simp [results, Tryz.results5, go_sem, World.cell?, hH]) rfl ⟨by first | exact ⟨a3, ⟨c3, by rw [HRV.out]⟩, hsp⟩ | exact ⟨a3, c3, by rw [if_neg hE, if_neg hE, HRV.out], by rw [if_neg hE]; exact hsp⟩, HBE.out.trans (hKp.below (B := w.heap.size) (Nat.le_of_lt hz11) (fun k hk => by simp only [one] at hk; omega))⟩
end Go.Proofs.YtmaancidkpfopaaGreatDoor

/- WALKS: engine.Do where nothing is done. -/
namespace Go.Proofs.YtmaancidkpfopaaGreatDoor
open Go.RowKit

set_option maxRecDepth 100000 in
set_option maxHeartbeats 8000000 in
theorem do_badspace (a : Option Addr) (c : Nat) (s : List Ent) (now : Int) (al : Option Addr) (cl : Nat) (l : List ByteArray) (w : World) (hs : SpaceAt w a s) (hn : s.length ≤ 281474976710656) (hc : chkSp s ≠ 0) :
    Calls Tryz.prog 5 #[.slice a s.length c, .int .i64 now, .slice al l.length cl] w fun e w' => e = .returned (.tuple #[.slice none 0 0, .agg #[.int .i64 0, .string ⟨#[]⟩, .int .i64 0, .slice none 0 0], .int .i64 (chkSp s)]) ∧ Below w.heap.size w w' := by
  have HCK := hide (fun W (hW : Below w.heap.size w W) => spCheck_any a c s W (hs.below hW) hn)
  have hE : (chkSp s == 0) = false := by rw [beq_eq_false_iff_ne]; exact hc
  have hE2 : (chkSp s != 0) = true := by rw [bne_iff_ne]; exact hc
  generalize chkSp s = E at *
  obtain ⟨V, hV, AV, RB⟩ : ∃ V, w.alloc (.cells #[.int .i64 0, .string ⟨#[]⟩, .int .i64 0, .slice none 0 0] 27) = V ∧ Below w.heap.size w V ∧ V.heap[w.heap.size]? = some (.cells #[.int .i64 0, .string ⟨#[]⟩, .int .i64 0, .slice none 0 0] 27) := ⟨_, rfl, (Below.refl _ w).alloc (Nat.le_refl _) _, by show (w.heap.push _)[w.heap.size]? = _; simp⟩
  have HRB := hide RB
  have HAV := hide AV
  clear RB AV hs
  go_enter Tryz.func5, Tryz.ntmps5
  go_wp2_with fail
  clear hV
  refine (HCK.out _ HAV.out).mono ?_
  rintro e w1 ⟨rfl, hb1⟩

  have RZ := (hb1.block _ (Array.getElem?_eq_some_iff.1 HRB.out).1).trans HRB.out
  have HPR := hide (put4R RZ (.int .i64 0) (.string ⟨#[]⟩) (.int .i64 0) (.slice none 0 0))
  have HBB := hide (HAV.out.trans (hb1.mono HAV.out.size))
  have m0 : w1.cell? ⟨w.heap.size, 0, none⟩ = some (.int .i64 0) := by simp [World.cell?, RZ]
  have n0 : w1.frozen? ⟨w.heap.size, 0, none⟩ = false := by simp [World.frozen?, RZ]
  have m1 : w1.cell? ⟨w.heap.size, 1, none⟩ = some (.string ⟨#[]⟩) := by simp [World.cell?, RZ]
  have n1 : w1.frozen? ⟨w.heap.size, 1, none⟩ = false := by simp [World.frozen?, RZ]
  have m2 : w1.cell? ⟨w.heap.size, 2, none⟩ = some (.int .i64 0) := by simp [World.cell?, RZ]
  have n2 : w1.frozen? ⟨w.heap.size, 2, none⟩ = false := by simp [World.frozen?, RZ]
  have m3 : w1.cell? ⟨w.heap.size, 3, none⟩ = some (.slice none 0 0) := by simp [World.cell?, RZ]
  have n3 : w1.frozen? ⟨w.heap.size, 3, none⟩ = false := by simp [World.frozen?, RZ]
  clear RZ hb1
  go_wp2_with fail
  obtain ⟨hH, hKp⟩ := HPR.out
  generalize ((((w1.setCell ⟨w.heap.size, 0, none⟩ (.int .i64 0)).setCell ⟨w.heap.size, 1, none⟩ (.string ⟨#[]⟩)).setCell ⟨w.heap.size, 2, none⟩ (.int .i64 0)).setCell ⟨w.heap.size, 3, none⟩ (.slice none 0 0)) = V4 at *
  refine bodyPost_ret (v := .tuple #[.slice none 0 0, .agg #[.int .i64 0, .string ⟨#[]⟩, .int .i64 0, .slice none 0 0], .int .i64 E]) (by simp [results, Tryz.results5, go_sem, World.cell?, hH]) rfl ⟨rfl, HBB.out.trans (hKp.below (B := w.heap.size) (by have := HBB.out.size; omega) (fun k hk => by simp only [one] at hk; omega))⟩
set_option maxRecDepth 100000 in
set_option maxHeartbeats 8000000 in
theorem do_badtime (a : Option Addr) (c : Nat) (s : List Ent) (now : Int) (al : Option Addr) (cl : Nat) (l : List ByteArray) (w : World) (hs : SpaceAt w a s) (hn : s.length ≤ 281474976710656) (hc : chkSp s = 0) (ht : timeT now = false) :
    Calls Tryz.prog 5 #[.slice a s.length c, .int .i64 now, .slice al l.length cl] w fun e w' => e = .returned (.tuple #[.slice none 0 0, .agg #[.int .i64 0, .string ⟨#[]⟩, .int .i64 0, .slice none 0 0], .int .i64 3]) ∧ Below w.heap.size w w' := by
  have HCK := hide (fun W (hW : Below w.heap.size w W) => spCheck_any a c s W (hs.below hW) hn)
  rw [hc] at HCK
  have HTM := hide (fun W => timeY_any now W)
  rw [ht] at HTM
  obtain ⟨V, hV, AV, RB⟩ : ∃ V, w.alloc (.cells #[.int .i64 0, .string ⟨#[]⟩, .int .i64 0, .slice none 0 0] 27) = V ∧ Below w.heap.size w V ∧ V.heap[w.heap.size]? = some (.cells #[.int .i64 0, .string ⟨#[]⟩, .int .i64 0, .slice none 0 0] 27) := ⟨_, rfl, (Below.refl _ w).alloc (Nat.le_refl _) _, by show (w.heap.push _)[w.heap.size]? = _; simp⟩
  have HRB := hide RB
  have HAV := hide AV
  clear RB AV hs
  go_enter Tryz.func5, Tryz.ntmps5
  go_wp2_with fail
  clear hV
  refine (HCK.out _ HAV.out).mono ?_
  rintro e w1 ⟨rfl, hb1⟩
  go_wp2_with fail
  refine (HTM.out _).mono ?_
  rintro e w1q ⟨rfl, rfl⟩
  have RZ := (hb1.block _ (Array.getElem?_eq_some_iff.1 HRB.out).1).trans HRB.out
  have HPR := hide (put4R RZ (.int .i64 0) (.string ⟨#[]⟩) (.int .i64 0) (.slice none 0 0))
  have HBB := hide (HAV.out.trans (hb1.mono HAV.out.size))
  have m0 : w1q.cell? ⟨w.heap.size, 0, none⟩ = some (.int .i64 0) := by simp [World.cell?, RZ]
  have n0 : w1q.frozen? ⟨w.heap.size, 0, none⟩ = false := by simp [World.frozen?, RZ]
  have m1 : w1q.cell? ⟨w.heap.size, 1, none⟩ = some (.string ⟨#[]⟩) := by simp [World.cell?, RZ]
  have n1 : w1q.frozen? ⟨w.heap.size, 1, none⟩ = false := by simp [World.frozen?, RZ]
  have m2 : w1q.cell? ⟨w.heap.size, 2, none⟩ = some (.int .i64 0) := by simp [World.cell?, RZ]
  have n2 : w1q.frozen? ⟨w.heap.size, 2, none⟩ = false := by simp [World.frozen?, RZ]
  have m3 : w1q.cell? ⟨w.heap.size, 3, none⟩ = some (.slice none 0 0) := by simp [World.cell?, RZ]
  have n3 : w1q.frozen? ⟨w.heap.size, 3, none⟩ = false := by simp [World.frozen?, RZ]
  clear RZ hb1
  go_wp2_with fail
  obtain ⟨hH, hKp⟩ := HPR.out
  generalize ((((w1q.setCell ⟨w.heap.size, 0, none⟩ (.int .i64 0)).setCell ⟨w.heap.size, 1, none⟩ (.string ⟨#[]⟩)).setCell ⟨w.heap.size, 2, none⟩ (.int .i64 0)).setCell ⟨w.heap.size, 3, none⟩ (.slice none 0 0)) = V4 at *
  refine bodyPost_ret (v := .tuple #[.slice none 0 0, .agg #[.int .i64 0, .string ⟨#[]⟩, .int .i64 0, .slice none 0 0], .int .i64 3]) (by simp [results, Tryz.results5, go_sem, World.cell?, hH]) rfl ⟨rfl, HBB.out.trans (hKp.below (B := w.heap.size) (by have := HBB.out.size; omega) (fun k hk => by simp only [one] at hk; omega))⟩
set_option maxRecDepth 100000 in
set_option maxHeartbeats 8000000 in
theorem do_refused_nil (a : Option Addr) (c : Nat) (s : List Ent) (now : Int) (al : Option Addr) (cl : Nat) (l : List ByteArray) (w : World) (E : Int) (hE : E ≠ 0) (hs : SpaceAt w a s) (hc : chkSp s = 0) (ht : timeT now = true)
    (HF : ∀ W, Below w.heap.size w W → Calls Tryz.prog 12 #[.slice al l.length cl] W fun e w' => (∃ CN CO CA, e = .returned (.tuple #[.agg #[.string CN, .string CO, .string CA, .nilFunc], .int .i64 E])) ∧ Below W.heap.size W w') :
    Calls Tryz.prog 5 #[.slice a s.length c, .int .i64 now, .slice al l.length cl] w fun e w' => ((∃ a' c', e = .returned (.tuple #[.slice a' s.length c', repV 2 ⟨#[]⟩ E, .int .i64 0]) ∧ SpaceAt w' a' s)) ∧ Below w.heap.size w w' := by
  have hn := small_sp hc
  have HCK := hide (fun W (hW : Below w.heap.size w W) => spCheck_any a c s W (hs.below hW) (by omega))
  rw [hc] at HCK
  have HTM := hide (fun W => timeY_any now W)
  rw [ht] at HTM
  have HFI := hide HF
  have HCO := hide (fun W (hW : Below w.heap.size w W) => copied_any a c s W (hs.below hW) (by omega) (fits_sp hc))
  have HER := hide errorReply_any
  unfold repV at HER ⊢
  have e1 : (E == 0) = false := by rw [beq_eq_false_iff_ne]; exact hE
  have e2 : (E != 0) = true := by rw [bne_iff_ne]; exact hE
  obtain ⟨V, hV, AV, RB⟩ : ∃ V, w.alloc (.cells #[.int .i64 0, .string ⟨#[]⟩, .int .i64 0, .slice none 0 0] 27) = V ∧ Below w.heap.size w V ∧ V.heap[w.heap.size]? = some (.cells #[.int .i64 0, .string ⟨#[]⟩, .int .i64 0, .slice none 0 0] 27) := ⟨_, rfl, (Below.refl _ w).alloc (Nat.le_refl _) _, by show (w.heap.push _)[w.heap.size]? = _; simp⟩
  have HRB := hide RB
  have HAV := hide AV
  have HLV : Hid (w.heap.size < V.heap.size) := (Array.getElem?_eq_some_iff.1 RB).1
  clear RB AV hs HF hc
  go_enter Tryz.func5, Tryz.ntmps5
  go_wp2_with fail
  clear hV
  refine (HCK.out _ HAV.out).mono ?_
  rintro e w1 ⟨rfl, hb1⟩
  have HB1 := hide (HAV.out.trans (hb1.mono HAV.out.size))
  have HV1 := hide hb1
  clear hb1
  go_wp2_with fail
  refine (HTM.out _).mono ?_
  rintro e w1q ⟨rfl, rfl⟩
  go_wp2_with fail
  refine (HFI.out _ HB1.out).mono ?_
  rintro e w2 ⟨⟨CN, CO, CA, rfl⟩, hb2⟩
  obtain ⟨V2, hV2, AV2, CB⟩ : ∃ V', w2.alloc (.cells #[.string CN, .string CO, .string CA, .nilFunc] 48) = V' ∧ Below w2.heap.size w2 V' ∧ V'.heap[w2.heap.size]? = some (.cells #[.string CN, .string CO, .string CA, .nilFunc] 48) := ⟨_, rfl, (Below.refl _ w2).alloc (Nat.le_refl _) _, by show (w2.heap.push _)[w2.heap.size]? = _; simp⟩
  have HV2 : Hid (Below V.heap.size V V2) := HV1.out.trans ((hb2.trans (AV2.mono hb2.size)).mono HV1.out.size)
  have HB2 : Hid (Below w.heap.size w V2) := HAV.out.trans (HV2.out.mono HAV.out.size)
  have c3 : V2.cell? ⟨w2.heap.size, 3, none⟩ = some .nilFunc := by simp [World.cell?, CB]
  have f3 : V2.frozen? ⟨w2.heap.size, 3, none⟩ = false := by simp [World.frozen?, CB]
  have hw2 : V.heap.size ≤ w2.heap.size := Nat.le_trans HV1.out.size hb2.size
  have HK3 : Hid (Kept (one w2.heap.size) V2 (V2.setCell ⟨w2.heap.size, 3, none⟩ .nilFunc)) := (Kept.refl (one w2.heap.size) V2).set1 3 _
  clear CB AV2 hb2
  go_wp2_with fail
  clear hV2
  clear c3 f3
  generalize V2.setCell ⟨w2.heap.size, 3, none⟩ .nilFunc = V3 at *
  replace HV2 : Hid (Below V.heap.size V V3) := HV2.out.trans (HK3.out.below (B := V.heap.size) HV2.out.size (fun k hk => by simp only [one] at hk; omega))
  replace HB2 : Hid (Below w.heap.size w V3) := HAV.out.trans (HV2.out.mono HAV.out.size)
  clear HK3
  refine (HCO.out _ HB2.out).mono ?_
  rintro e w10 ⟨⟨a3, c3, rfl, hs10⟩, hb10⟩
  go_wp2_with fail
  refine (HER.out _ _).mono ?_
  rintro e w11 ⟨rfl, hb11⟩
  have hbb : Below V3.heap.size V3 w11 := hb10.trans (hb11.mono hb10.size)
  have hbV : Below V.heap.size V w11 := HV2.out.trans (hbb.mono HV2.out.size)
  have hRw := (hbV.block _ HLV.out).trans HRB.out
  have HBE : Hid (Below w.heap.size w w11) := HAV.out.trans (hbV.mono HAV.out.size)
  have HSE := hide (fun (w' : World) (hk : Kept (one w.heap.size) w11 w') => hs10 w' (fun k h1 h2 => (hk.block k (Nat.lt_of_lt_of_le h2 hb11.size) (by simp only [one]; have := HLV.out; have := HV2.out.size; omega)).trans (hb11.block k h2)))
  have HQ := hide (put4R hRw (.int .i64 2) (.string ⟨#[]⟩) (.int .i64 E) (.slice none 0 0))
  have hz11 : w.heap.size < w11.heap.size := (Array.getElem?_eq_some_iff.1 hRw).1
  have m0 : w11.cell? ⟨w.heap.size, 0, none⟩ = some (.int .i64 0) := by simp [World.cell?, hRw]
  have n0 : w11.frozen? ⟨w.heap.size, 0, none⟩ = false := by simp [World.frozen?, hRw]
  have m1 : w11.cell? ⟨w.heap.size, 1, none⟩ = some (.string ⟨#[]⟩) := by simp [World.cell?, hRw]
  have n1 : w11.frozen? ⟨w.heap.size, 1, none⟩ = false := by simp [World.frozen?, hRw]
  have m2 : w11.cell? ⟨w.heap.size, 2, none⟩ = some (.int .i64 0) := by simp [World.cell?, hRw]
  have n2 : w11.frozen? ⟨w.heap.size, 2, none⟩ = false := by simp [World.frozen?, hRw]
  have m3 : w11.cell? ⟨w.heap.size, 3, none⟩ = some (.slice none 0 0) := by simp [World.cell?, hRw]
  have n3 : w11.frozen? ⟨w.heap.size, 3, none⟩ = false := by simp [World.frozen?, hRw]
  clear hRw hs10 hb10 hb11 hbb hbV
  go_wp2_with fail
  obtain ⟨hH, hKp⟩ := HQ.out
  have hsp := HSE.out _ hKp
  generalize ((((w11.setCell ⟨w.heap.size, 0, none⟩ (.int .i64 2)).setCell ⟨w.heap.size, 1, none⟩ (.string ⟨#[]⟩)).setCell ⟨w.heap.size, 2, none⟩ (.int .i64 E)).setCell ⟨w.heap.size, 3, none⟩ (.slice none 0 0)) = V5 at *
  refine bodyPost_ret (v := .tuple #[.slice a3 s.length c3, .agg #[.int .i64 2, .string ⟨#[]⟩, .int .i64 E, .slice none 0 0], .int .i64 0]) (by simp [results, Tryz.results5, go_sem, World.cell?, hH]) rfl ⟨by first | exact ⟨a3, c3, rfl, hsp⟩ | exact ⟨a3, ⟨c3, rfl⟩, hsp⟩, HBE.out.trans (hKp.below (B := w.heap.size) (Nat.le_of_lt hz11) (fun k hk => by simp only [one] at hk; omega))⟩
set_option maxRecDepth 100000 in
set_option maxHeartbeats 8000000 in
theorem do_refused_func (a : Option Addr) (c : Nat) (s : List Ent) (now : Int) (al : Option Addr) (cl : Nat) (l : List ByteArray) (w : World) (E : Int) (hE : E ≠ 0) (hs : SpaceAt w a s) (hc : chkSp s = 0) (ht : timeT now = true)
    (HF : ∀ W, Below w.heap.size w W → Calls Tryz.prog 12 #[.slice al l.length cl] W fun e w' => (∃ CN CO CA f caps, e = .returned (.tuple #[.agg #[.string CN, .string CO, .string CA, .func (.func f) #[] caps], .int .i64 E])) ∧ Below W.heap.size W w') :
    Calls Tryz.prog 5 #[.slice a s.length c, .int .i64 now, .slice al l.length cl] w fun e w' => ((∃ a' c', e = .returned (.tuple #[.slice a' s.length c', repV 2 ⟨#[]⟩ E, .int .i64 0]) ∧ SpaceAt w' a' s)) ∧ Below w.heap.size w w' := by
  have hn := small_sp hc
  have HCK := hide (fun W (hW : Below w.heap.size w W) => spCheck_any a c s W (hs.below hW) (by omega))
  rw [hc] at HCK
  have HTM := hide (fun W => timeY_any now W)
  rw [ht] at HTM
  have HFI := hide HF
  have HCO := hide (fun W (hW : Below w.heap.size w W) => copied_any a c s W (hs.below hW) (by omega) (fits_sp hc))
  have HER := hide errorReply_any
  unfold repV at HER ⊢
  have e1 : (E == 0) = false := by rw [beq_eq_false_iff_ne]; exact hE
  have e2 : (E != 0) = true := by rw [bne_iff_ne]; exact hE
  obtain ⟨V, hV, AV, RB⟩ : ∃ V, w.alloc (.cells #[.int .i64 0, .string ⟨#[]⟩, .int .i64 0, .slice none 0 0] 27) = V ∧ Below w.heap.size w V ∧ V.heap[w.heap.size]? = some (.cells #[.int .i64 0, .string ⟨#[]⟩, .int .i64 0, .slice none 0 0] 27) := ⟨_, rfl, (Below.refl _ w).alloc (Nat.le_refl _) _, by show (w.heap.push _)[w.heap.size]? = _; simp⟩
  have HRB := hide RB
  have HAV := hide AV
  have HLV : Hid (w.heap.size < V.heap.size) := (Array.getElem?_eq_some_iff.1 RB).1
  clear RB AV hs HF hc
  go_enter Tryz.func5, Tryz.ntmps5
  go_wp2_with fail
  clear hV
  refine (HCK.out _ HAV.out).mono ?_
  rintro e w1 ⟨rfl, hb1⟩
  have HB1 := hide (HAV.out.trans (hb1.mono HAV.out.size))
  have HV1 := hide hb1
  clear hb1
  go_wp2_with fail
  refine (HTM.out _).mono ?_
  rintro e w1q ⟨rfl, rfl⟩
  go_wp2_with fail
  refine (HFI.out _ HB1.out).mono ?_
  rintro e w2 ⟨⟨CN, CO, CA, f, caps, rfl⟩, hb2⟩
  obtain ⟨V2, hV2, AV2, CB⟩ : ∃ V', w2.alloc (.cells #[.string CN, .string CO, .string CA, .func (.func f) #[] caps] 48) = V' ∧ Below w2.heap.size w2 V' ∧ V'.heap[w2.heap.size]? = some (.cells #[.string CN, .string CO, .string CA, .func (.func f) #[] caps] 48) := ⟨_, rfl, (Below.refl _ w2).alloc (Nat.le_refl _) _, by show (w2.heap.push _)[w2.heap.size]? = _; simp⟩
  have HV2 : Hid (Below V.heap.size V V2) := HV1.out.trans ((hb2.trans (AV2.mono hb2.size)).mono HV1.out.size)
  have HB2 : Hid (Below w.heap.size w V2) := HAV.out.trans (HV2.out.mono HAV.out.size)
  clear CB AV2 hb2
  go_wp2_with fail
  clear hV2
  refine (HCO.out _ HB2.out).mono ?_
  rintro e w10 ⟨⟨a3, c3, rfl, hs10⟩, hb10⟩
  go_wp2_with fail
  refine (HER.out _ _).mono ?_
  rintro e w11 ⟨rfl, hb11⟩
  have hbb : Below V2.heap.size V2 w11 := hb10.trans (hb11.mono hb10.size)
  have hbV : Below V.heap.size V w11 := HV2.out.trans (hbb.mono HV2.out.size)
  have hRw := (hbV.block _ HLV.out).trans HRB.out
  have HBE : Hid (Below w.heap.size w w11) := HAV.out.trans (hbV.mono HAV.out.size)
  have HSE := hide (fun (w' : World) (hk : Kept (one w.heap.size) w11 w') => hs10 w' (fun k h1 h2 => (hk.block k (Nat.lt_of_lt_of_le h2 hb11.size) (by simp only [one]; have := HLV.out; have := HV2.out.size; omega)).trans (hb11.block k h2)))
  have HQ := hide (put4R hRw (.int .i64 2) (.string ⟨#[]⟩) (.int .i64 E) (.slice none 0 0))
  have hz11 : w.heap.size < w11.heap.size := (Array.getElem?_eq_some_iff.1 hRw).1
  have m0 : w11.cell? ⟨w.heap.size, 0, none⟩ = some (.int .i64 0) := by simp [World.cell?, hRw]
  have n0 : w11.frozen? ⟨w.heap.size, 0, none⟩ = false := by simp [World.frozen?, hRw]
  have m1 : w11.cell? ⟨w.heap.size, 1, none⟩ = some (.string ⟨#[]⟩) := by simp [World.cell?, hRw]
  have n1 : w11.frozen? ⟨w.heap.size, 1, none⟩ = false := by simp [World.frozen?, hRw]
  have m2 : w11.cell? ⟨w.heap.size, 2, none⟩ = some (.int .i64 0) := by simp [World.cell?, hRw]
  have n2 : w11.frozen? ⟨w.heap.size, 2, none⟩ = false := by simp [World.frozen?, hRw]
  have m3 : w11.cell? ⟨w.heap.size, 3, none⟩ = some (.slice none 0 0) := by simp [World.cell?, hRw]
  have n3 : w11.frozen? ⟨w.heap.size, 3, none⟩ = false := by simp [World.frozen?, hRw]
  clear hRw hs10 hb10 hb11 hbb hbV
  go_wp2_with fail
  obtain ⟨hH, hKp⟩ := HQ.out
  have hsp := HSE.out _ hKp
  generalize ((((w11.setCell ⟨w.heap.size, 0, none⟩ (.int .i64 2)).setCell ⟨w.heap.size, 1, none⟩ (.string ⟨#[]⟩)).setCell ⟨w.heap.size, 2, none⟩ (.int .i64 E)).setCell ⟨w.heap.size, 3, none⟩ (.slice none 0 0)) = V5 at *
  refine bodyPost_ret (v := .tuple #[.slice a3 s.length c3, .agg #[.int .i64 2, .string ⟨#[]⟩, .int .i64 E, .slice none 0 0], .int .i64 0]) (by simp [results, Tryz.results5, go_sem, World.cell?, hH]) rfl ⟨by first | exact ⟨a3, c3, rfl, hsp⟩ | exact ⟨a3, ⟨c3, rfl⟩, hsp⟩, HBE.out.trans (hKp.below (B := w.heap.size) (Nat.le_of_lt hz11) (fun k hk => by simp only [one] at hk; omega))⟩
end Go.Proofs.YtmaancidkpfopaaGreatDoor

