/- Part 4 of what the proof leans on: YGet, YBs, YIns, YWith, YPut. -/
import Derived.Test.YtmaancidkpfopaaGreatDoorPart2
import Derived.Test.YtmaancidkpfopaaGreatDoorPart3
import Derived.Handy
import Derived.Test.YtmaancidkpfopaaGreatDoorPart1
import Derived.Laws.Shifts
import Derived.Lib.AppendZerosOnto
import Derived.Lib.Overlaps
import Derived.Laws.Externs
import Derived.Laws.CopyRow
import Derived.Deep.RegionLaw
import Derived.Deep.RegionHeld3
/- WALKS of spaces: Get. -/
namespace Go.Proofs.YtmaancidkpfopaaGreatDoor
open Go.RowKit

theorem zeroE_is (w : World) : EntIs w zeroE Ent.none := ⟨none, 0, none, 0, none, 0, rfl, ⟨⟨none, 0, none, 0, none, 0, rfl, .inl rfl, .inl rfl, .inl rfl⟩, (show (0 : Nat) ≤ maxLen by simp), by simp [Ent.none, Itm.none], by simp [Ent.none, Itm.none], by simp [Ent.none, Itm.none], by simp [Ent.none, Itm.none], by simp [Ent.none, Itm.none], by simp [Ent.none, Itm.none]⟩⟩
/-- what Get answers -/
def GetPost (s : List Ent) (now : Int) (key : ByteArray) (w : World) (e : Ending) (w' : World) : Prop :=
  ((chkKey s now key ≠ 0 ∧ e = .returned (.tuple #[.agg #[.int .i64 0, .string ⟨#[]⟩, .slice none 0 0, .slice none 0 0, .slice none 0 0], .int .i64 (chkKey s now key)])) ∨
   (chkKey s now key = 0 ∧ ∃ v y, e = .returned (.tuple #[v, .int .i64 0]) ∧ OwnItem w.heap.size w' v y ∧ ((∃ x, x ∈ s ∧ thereE key now x = true ∧ y = x.item) ∨ (y = Itm.none ∧ ∀ x ∈ s, thereE key now x = false)))) ∧ Below w.heap.size w w'
set_option maxRecDepth 100000 in
set_option maxHeartbeats 8000000 in
theorem get_any (a : Option Addr) (c : Nat) (s : List Ent) (now : Int) (key : ByteArray) (w : World) (hs : SpaceAt w a s) (hn : s.length ≤ 281474976710656) (hf : chkKey s now key = 0 → ∀ x ∈ s, Fits x.item) :
    Calls Tryz.prog 217 #[.slice a s.length c, .int .i64 now, .string key] w (GetPost s now key w) := by
  obtain ⟨W1, hW1⟩ : ∃ W1, w.alloc (.cells #[.int .i64 0, .string ⟨#[]⟩, .slice none 0 0, .slice none 0 0, .slice none 0 0] 40) = W1 := ⟨_, rfl⟩
  have HB : Below w.heap.size w W1 := hW1 ▸ (Below.refl _ w).alloc (Nat.le_refl _) _
  have G0 : W1.heap[w.heap.size]? = some (.cells #[.int .i64 0, .string ⟨#[]⟩, .slice none 0 0, .slice none 0 0, .slice none 0 0] 40 (0, 0)) := hW1 ▸ allocY_new w _
  have yy0 : w.heap.size < W1.heap.size := (Array.getElem?_eq_some_iff.1 G0).1
  have HC := hide (checkKey_any a c s now key W1 (hs.below HB) (by omega))
  unfold GetPost
  by_cases h0 : chkKey s now key = 0
  · have hn2 := small_key h0
    have HF : Hid (∀ W, Below w.heap.size w W → Calls Tryz.prog 253 #[.slice a s.length c, .int .i64 now, .string key] W (FindPost s now key W)) := fun W hW => find_any a c s now key W (hs.below hW) hn2
    clear hs hn2
    have HFI := hide (hf h0)
    rw [h0] at HC
    have HZ := hide h0
    clear h0 hf
    go_enter Tryz.func217, Tryz.ntmps217
    go_wp2_with fail
    refine HC.out.mono ?_
    rintro e w1 ⟨rfl, hb1⟩
    have G1 := (hb1.block _ yy0).trans G0
    have yy1 : w.heap.size < w1.heap.size := (Array.getElem?_eq_some_iff.1 G1).1
    have B1 := HB.trans (hb1.mono HB.size)
    clear hb1 G0 hW1
    go_wp2_with fail
    refine (HF.out w1 B1).mono ?_
    rintro e w2 ⟨hor, hb2⟩
    have G2 := (hb2.block _ yy1).trans G1
    have B2 := B1.trans (hb2.mono B1.size)
    clear hb2 HF HC G1
    obtain ⟨v, x, bb, rfl, ⟨a1, c1, a2, c2, a3, c3, rfl, hi⟩, hft, hx⟩ : ∃ v x bb, e = .returned (.tuple #[v, .bool bb]) ∧ EntIs w2 v x ∧ Fits x.item ∧ ((∃ y, y ∈ s ∧ thereE key now y = true ∧ x.item = y.item) ∨ (x.item = Itm.none ∧ ∀ y ∈ s, thereE key now y = false)) := by
      rcases hor with ⟨v, y, hy1, hy2, he, hy3⟩ | ⟨he, hy⟩
      · exact ⟨v, y, true, he, hy3, HFI.out y hy1, .inl ⟨y, hy1, hy2, rfl⟩⟩
      · exact ⟨_, Ent.none, false, he, zeroE_is w2, ⟨Nat.zero_le _, Nat.zero_le _, Nat.zero_le _⟩, .inr ⟨rfl, hy⟩⟩
    clear hor
    have HX := hide hx
    have HP : Hid (∀ W, Below w2.heap.size w2 W → Calls Tryz.prog 26 #[.agg #[.int .i64 x.item.k, .string x.item.t, .slice a1 x.item.l.length c1, .slice a2 x.item.p.length c2, .slice a3 x.item.s.length c3]] W fun e w' => ∃ v', e = .returned v' ∧ OwnItem W.heap.size w' v' x.item ∧ Below W.heap.size W w') := fun W hW => copy_any _ x.item W (hi.below hW) hft.1 hft.2.1 hft.2.2
    have hA : Below w2.heap.size w2 (w2.alloc (.cells #[.string x.key, .int .i64 x.item.k, .string x.item.t, .slice a1 x.item.l.length c1, .slice a2 x.item.p.length c2, .slice a3 x.item.s.length c3, .int .i64 x.til] 42)) := (Below.refl _ w2).alloc (Nat.le_refl _) _
    have yy2 : w.heap.size < w2.heap.size := (Array.getElem?_eq_some_iff.1 G2).1
    clear hx hi hft
    go_wp2_with fail
    refine (HP.out _ hA).mono ?_
    rintro e w3 ⟨v3, rfl, ho3, hb3⟩
    have hA3 := hA.trans (hb3.mono hA.size)
    have B3 := B2.trans (hA3.mono B2.size)
    have G3 := (hA3.block _ yy2).trans G2
    have hle : w2.heap.size ≤ (w2.alloc (.cells #[.string x.key, .int .i64 x.item.k, .string x.item.t, .slice a1 x.item.l.length c1, .slice a2 x.item.p.length c2, .slice a3 x.item.s.length c3, .int .i64 x.til] 42)).heap.size := hA.size
    obtain ⟨b1, d1, b2, d2, b3, d3, rfl, h31, h32, h33⟩ := ho3
    have p0 : w3.cell? ⟨w.heap.size, 0, none⟩ = some (.int .i64 0) := by simp [World.cell?, G3]
    have pf0 : w3.frozen? ⟨w.heap.size, 0, none⟩ = false := by simp [World.frozen?, G3]
    have p1 : w3.cell? ⟨w.heap.size, 1, none⟩ = some (.string ⟨#[]⟩) := by simp [World.cell?, G3]
    have pf1 : w3.frozen? ⟨w.heap.size, 1, none⟩ = false := by simp [World.frozen?, G3]
    have p2 : w3.cell? ⟨w.heap.size, 2, none⟩ = some (.slice none 0 0) := by simp [World.cell?, G3]
    have pf2 : w3.frozen? ⟨w.heap.size, 2, none⟩ = false := by simp [World.frozen?, G3]
    have p3 : w3.cell? ⟨w.heap.size, 3, none⟩ = some (.slice none 0 0) := by simp [World.cell?, G3]
    have pf3 : w3.frozen? ⟨w.heap.size, 3, none⟩ = false := by simp [World.frozen?, G3]
    have p4 : w3.cell? ⟨w.heap.size, 4, none⟩ = some (.slice none 0 0) := by simp [World.cell?, G3]
    have pf4 : w3.frozen? ⟨w.heap.size, 4, none⟩ = false := by simp [World.frozen?, G3]
    have GN : (((((w3.setCell ⟨w.heap.size, 0, none⟩ (.int .i64 x.item.k)).setCell ⟨w.heap.size, 1, none⟩ (.string x.item.t)).setCell ⟨w.heap.size, 2, none⟩ (.slice b1 x.item.l.length d1)).setCell ⟨w.heap.size, 3, none⟩ (.slice b2 x.item.p.length d2)).setCell ⟨w.heap.size, 4, none⟩ (.slice b3 x.item.s.length d3)).heap[w.heap.size]? = some (.cells #[.int .i64 x.item.k, .string x.item.t, .slice b1 x.item.l.length d1, .slice b2 x.item.p.length d2, .slice b3 x.item.s.length d3] 40 (0, 0)) := by
      rw [(setCell_heapY (setCell_heapY (setCell_heapY (setCell_heapY (setCell_heapY G3 0 _) 1 _) 2 _) 3 _) 4 _)]; rfl
    have BN : Below w.heap.size w (((((w3.setCell ⟨w.heap.size, 0, none⟩ (.int .i64 x.item.k)).setCell ⟨w.heap.size, 1, none⟩ (.string x.item.t)).setCell ⟨w.heap.size, 2, none⟩ (.slice b1 x.item.l.length d1)).setCell ⟨w.heap.size, 3, none⟩ (.slice b2 x.item.p.length d2)).setCell ⟨w.heap.size, 4, none⟩ (.slice b3 x.item.s.length d3)) := (((((B3.setCell (p := ⟨w.heap.size, 0, none⟩) (Nat.le_refl _) _).setCell (p := ⟨w.heap.size, 1, none⟩) (Nat.le_refl _) _).setCell (p := ⟨w.heap.size, 2, none⟩) (Nat.le_refl _) _).setCell (p := ⟨w.heap.size, 3, none⟩) (Nat.le_refl _) _).setCell (p := ⟨w.heap.size, 4, none⟩) (Nat.le_refl _) _)
    have KN : Kept (one w.heap.size) w3 (((((w3.setCell ⟨w.heap.size, 0, none⟩ (.int .i64 x.item.k)).setCell ⟨w.heap.size, 1, none⟩ (.string x.item.t)).setCell ⟨w.heap.size, 2, none⟩ (.slice b1 x.item.l.length d1)).setCell ⟨w.heap.size, 3, none⟩ (.slice b2 x.item.p.length d2)).setCell ⟨w.heap.size, 4, none⟩ (.slice b3 x.item.s.length d3)) := ((((((Kept.refl (one w.heap.size) w3).set1 0 _).set1 1 _).set1 2 _).set1 3 _).set1 4 _)
    obtain ⟨W5, hWN⟩ : ∃ W', (((((w3.setCell ⟨w.heap.size, 0, none⟩ (.int .i64 x.item.k)).setCell ⟨w.heap.size, 1, none⟩ (.string x.item.t)).setCell ⟨w.heap.size, 2, none⟩ (.slice b1 x.item.l.length d1)).setCell ⟨w.heap.size, 3, none⟩ (.slice b2 x.item.p.length d2)).setCell ⟨w.heap.size, 4, none⟩ (.slice b3 x.item.s.length d3)) = W' := ⟨_, rfl⟩
    rw [hWN] at GN BN KN
    have r0 : W5.cell? ⟨w.heap.size, 0, none⟩ = some (.int .i64 x.item.k) := by simp [World.cell?, GN]
    have r1 : W5.cell? ⟨w.heap.size, 1, none⟩ = some (.string x.item.t) := by simp [World.cell?, GN]
    have r2 : W5.cell? ⟨w.heap.size, 2, none⟩ = some (.slice b1 x.item.l.length d1) := by simp [World.cell?, GN]
    have r3 : W5.cell? ⟨w.heap.size, 3, none⟩ = some (.slice b2 x.item.p.length d2) := by simp [World.cell?, GN]
    have r4 : W5.cell? ⟨w.heap.size, 4, none⟩ = some (.slice b3 x.item.s.length d3) := by simp [World.cell?, GN]
    have hoi : OwnItem w.heap.size W5 (.agg #[.int .i64 x.item.k, .string x.item.t, .slice b1 x.item.l.length d1, .slice b2 x.item.p.length d2, .slice b3 x.item.s.length d3]) x.item := ⟨b1, d1, b2, d2, b3, d3, rfl, row_lowY (KN.owns h31 (fun j hj e => by have := (h31.lt j hj).1; simp only [one] at e; omega)) (by omega), row_lowY (KN.owns h32 (fun j hj e => by have := (h32.lt j hj).1; simp only [one] at e; omega)) (by omega), row_lowY (KN.owns h33 (fun j hj e => by have := (h33.lt j hj).1; simp only [one] at e; omega)) (by omega)⟩
    clear h31 h32 h33 hb3 HP hA hA3
    go_wp2_with fail
    refine bodyPost_ret (v := .tuple #[.agg #[.int .i64 x.item.k, .string x.item.t, .slice b1 x.item.l.length d1, .slice b2 x.item.p.length d2, .slice b3 x.item.s.length d3], .int .i64 0]) (by simp [results, Tryz.results217, go_sem, r0, r1, r2, r3, r4]) rfl ⟨.inr ⟨HZ.out, _, x.item, rfl, hoi, HX.out⟩, BN⟩
  · have h0' : (chkKey s now key == 0) = false := by rw [beq_eq_false_iff_ne]; exact h0
    have HZ := hide h0
    clear h0 hf hs
    generalize chkKey s now key = E at *
    go_enter Tryz.func217, Tryz.ntmps217
    go_wp2_with fail
    refine HC.out.mono ?_
    rintro e w1 ⟨rfl, hb1⟩
    have G3 := (hb1.block _ yy0).trans G0
    have B3 := HB.trans (hb1.mono HB.size)
    clear hb1 HC G0 hW1
    have p0 : w1.cell? ⟨w.heap.size, 0, none⟩ = some (.int .i64 0) := by simp [World.cell?, G3]
    have pf0 : w1.frozen? ⟨w.heap.size, 0, none⟩ = false := by simp [World.frozen?, G3]
    have p1 : w1.cell? ⟨w.heap.size, 1, none⟩ = some (.string ⟨#[]⟩) := by simp [World.cell?, G3]
    have pf1 : w1.frozen? ⟨w.heap.size, 1, none⟩ = false := by simp [World.frozen?, G3]
    have p2 : w1.cell? ⟨w.heap.size, 2, none⟩ = some (.slice none 0 0) := by simp [World.cell?, G3]
    have pf2 : w1.frozen? ⟨w.heap.size, 2, none⟩ = false := by simp [World.frozen?, G3]
    have p3 : w1.cell? ⟨w.heap.size, 3, none⟩ = some (.slice none 0 0) := by simp [World.cell?, G3]
    have pf3 : w1.frozen? ⟨w.heap.size, 3, none⟩ = false := by simp [World.frozen?, G3]
    have p4 : w1.cell? ⟨w.heap.size, 4, none⟩ = some (.slice none 0 0) := by simp [World.cell?, G3]
    have pf4 : w1.frozen? ⟨w.heap.size, 4, none⟩ = false := by simp [World.frozen?, G3]
    have GN : (((((w1.setCell ⟨w.heap.size, 0, none⟩ (.int .i64 0)).setCell ⟨w.heap.size, 1, none⟩ (.string ⟨#[]⟩)).setCell ⟨w.heap.size, 2, none⟩ (.slice none 0 0)).setCell ⟨w.heap.size, 3, none⟩ (.slice none 0 0)).setCell ⟨w.heap.size, 4, none⟩ (.slice none 0 0)).heap[w.heap.size]? = some (.cells #[.int .i64 0, .string ⟨#[]⟩, .slice none 0 0, .slice none 0 0, .slice none 0 0] 40 (0, 0)) := by
      rw [(setCell_heapY (setCell_heapY (setCell_heapY (setCell_heapY (setCell_heapY G3 0 _) 1 _) 2 _) 3 _) 4 _)]; rfl
    have BN : Below w.heap.size w (((((w1.setCell ⟨w.heap.size, 0, none⟩ (.int .i64 0)).setCell ⟨w.heap.size, 1, none⟩ (.string ⟨#[]⟩)).setCell ⟨w.heap.size, 2, none⟩ (.slice none 0 0)).setCell ⟨w.heap.size, 3, none⟩ (.slice none 0 0)).setCell ⟨w.heap.size, 4, none⟩ (.slice none 0 0)) := (((((B3.setCell (p := ⟨w.heap.size, 0, none⟩) (Nat.le_refl _) _).setCell (p := ⟨w.heap.size, 1, none⟩) (Nat.le_refl _) _).setCell (p := ⟨w.heap.size, 2, none⟩) (Nat.le_refl _) _).setCell (p := ⟨w.heap.size, 3, none⟩) (Nat.le_refl _) _).setCell (p := ⟨w.heap.size, 4, none⟩) (Nat.le_refl _) _)
    have KN : Kept (one w.heap.size) w1 (((((w1.setCell ⟨w.heap.size, 0, none⟩ (.int .i64 0)).setCell ⟨w.heap.size, 1, none⟩ (.string ⟨#[]⟩)).setCell ⟨w.heap.size, 2, none⟩ (.slice none 0 0)).setCell ⟨w.heap.size, 3, none⟩ (.slice none 0 0)).setCell ⟨w.heap.size, 4, none⟩ (.slice none 0 0)) := ((((((Kept.refl (one w.heap.size) w1).set1 0 _).set1 1 _).set1 2 _).set1 3 _).set1 4 _)
    obtain ⟨W5, hWN⟩ : ∃ W', (((((w1.setCell ⟨w.heap.size, 0, none⟩ (.int .i64 0)).setCell ⟨w.heap.size, 1, none⟩ (.string ⟨#[]⟩)).setCell ⟨w.heap.size, 2, none⟩ (.slice none 0 0)).setCell ⟨w.heap.size, 3, none⟩ (.slice none 0 0)).setCell ⟨w.heap.size, 4, none⟩ (.slice none 0 0)) = W' := ⟨_, rfl⟩
    rw [hWN] at GN BN KN
    have r0 : W5.cell? ⟨w.heap.size, 0, none⟩ = some (.int .i64 0) := by simp [World.cell?, GN]
    have r1 : W5.cell? ⟨w.heap.size, 1, none⟩ = some (.string ⟨#[]⟩) := by simp [World.cell?, GN]
    have r2 : W5.cell? ⟨w.heap.size, 2, none⟩ = some (.slice none 0 0) := by simp [World.cell?, GN]
    have r3 : W5.cell? ⟨w.heap.size, 3, none⟩ = some (.slice none 0 0) := by simp [World.cell?, GN]
    have r4 : W5.cell? ⟨w.heap.size, 4, none⟩ = some (.slice none 0 0) := by simp [World.cell?, GN]
    go_wp2_with fail
    refine bodyPost_ret (v := .tuple #[.agg #[.int .i64 0, .string ⟨#[]⟩, .slice none 0 0, .slice none 0 0, .slice none 0 0], .int .i64 E]) (by simp [results, Tryz.results217, go_sem, r0, r1, r2, r3, r4]) rfl ⟨.inl ⟨HZ.out, rfl⟩, BN⟩
end Go.Proofs.YtmaancidkpfopaaGreatDoor

/- WALKS of spaces: where a key would stand: slices.BinarySearchFunc. -/
namespace Go.Proofs.YtmaancidkpfopaaGreatDoor
open Go.RowKit

set_option maxRecDepth 100000 in
theorem withCmp_any (v : Value) (x : Ent) (key : ByteArray) (W : World) (h : EntIs W v x) :
    Calls Tryz.prog 263 #[v, .string key] W fun e w' => e = .returned (.int .i64 (cmpT x.key key)) ∧ Below W.heap.size W w' := by
  obtain ⟨a1, c1, a2, c2, a3, c3, rfl, hi⟩ := h
  clear hi
  obtain ⟨W1, hW1⟩ : ∃ W1, W.alloc (.cells #[.string x.key, .int .i64 x.item.k, .string x.item.t, .slice a1 x.item.l.length c1, .slice a2 x.item.p.length c2, .slice a3 x.item.s.length c3, .int .i64 x.til] 42) = W1 := ⟨_, rfl⟩
  have HB : Below W.heap.size W W1 := hW1 ▸ (Below.refl _ W).alloc (Nat.le_refl _) _
  have AH : W1.heap[W.heap.size]? = some (.cells #[.string x.key, .int .i64 x.item.k, .string x.item.t, .slice a1 x.item.l.length c1, .slice a2 x.item.p.length c2, .slice a3 x.item.s.length c3, .int .i64 x.til] 42 (0, 0)) := hW1 ▸ allocY_new W _
  have i0 : W1.cell? ⟨W.heap.size, 0, none⟩ = some (.string x.key) := by simp [World.cell?, AH]
  have HG := hide (compare_below x.key key W1)
  clear AH
  go_enter Tryz.func263, Tryz.ntmps263
  go_wp2_with fail
  refine HG.out.mono ?_
  rintro e w1 ⟨rfl, hb1⟩
  go_wp2_with fail
  go_ret
  exact ⟨rfl, HB.trans (hb1.mono HB.size)⟩
theorem notLess_later {s : List Ent} {key : ByteArray} (hr : s.Pairwise fun a b => lessT a.key b.key) {m : Nat} (hm : m < s.length) (h : ¬ lessT s[m].key key) : ∀ x ∈ s.drop m, ¬ lessT x.key key := by
  intro x hx hl
  rw [List.drop_eq_getElem_cons hm] at hx
  rcases List.mem_cons.1 hx with rfl | hx
  · exact h hl
  · have h2 := List.pairwise_iff_getElem.1 hr
    obtain ⟨j, hj, rfl⟩ := List.getElem_of_mem hx
    rw [List.getElem_drop] at hl
    exact h (lessT_trans (h2 m (m + 1 + j) hm (by simp at hj; omega) (by omega)) hl)
theorem less_sooner {s : List Ent} {key : ByteArray} (hr : s.Pairwise fun a b => lessT a.key b.key) {m : Nat} (hm : m < s.length) (h : lessT s[m].key key) : ∀ x ∈ s.take (m + 1), lessT x.key key := by
  intro x hx
  obtain ⟨j, hj, rfl⟩ := List.getElem_of_mem hx
  rw [List.getElem_take]
  have hjm : j < m + 1 := by simp at hj; omega
  by_cases e : j = m
  · subst e; exact h
  · exact lessT_trans (List.pairwise_iff_getElem.1 hr j m (by omega) hm (by omega)) h
set_option maxRecDepth 100000 in
set_option maxHeartbeats 4000000 in
theorem bsY_any (a : Option Addr) (c : Nat) (s : List Ent) (key : ByteArray) (w : World) (hs : SpaceAt w a s) (hn : s.length ≤ 1000000) (hr : s.Pairwise fun a b => lessT a.key b.key) :
    Calls Tryz.prog 262 #[.slice a s.length c, .string key, .func (.func 263) #[] #[]] w fun e w' =>
      ∃ (k : Nat) (b : Bool), e = .returned (.tuple #[.int .i64 k, .bool b]) ∧ k ≤ s.length ∧ (∀ x ∈ s.take k, lessT x.key key) ∧ (∀ x ∈ s.drop k, ¬ lessT x.key key) ∧ Below w.heap.size w w' := by
  have HS := hide hs
  have HR := hide hr
  clear hs hr
  go_enter Tryz.func262, Tryz.ntmps262
  go_wp2_with fail
  go_loopw [9, 10] (fun iv jv wr => ∃ lo hi : Nat, iv = .int .i64 lo ∧ jv = .int .i64 hi ∧ lo ≤ hi ∧ hi ≤ s.length ∧ Hid (∀ x ∈ s.take lo, lessT x.key key) ∧ Hid (∀ x ∈ s.drop hi, ¬ lessT x.key key) ∧ Below w.heap.size w wr) (fun iv jv _ => (intOf jv - intOf iv).toNat)
  case atStart => exact ⟨0, s.length, rfl, rfl, Nat.zero_le _, Nat.le_refl _, by simp [Hid], by simp [Hid], Below.refl _ _⟩
  case round =>
    obtain ⟨lo, hi, rfl, rfl, hlh, hhn, HL, HH, hbr⟩ := hrel
    have hsz := hbr.size
    by_cases hlt : lo < hi
    · have hlt' : ((lo : Nat) : Int) < ((hi : Nat) : Int) := by omega
      obtain ⟨ga, o, rfl, hcs⟩ : ∃ ga o, a = some ⟨ga, o, none⟩ ∧ ∀ i (h : i < s.length), EntAt w ga (o + i * 7) s[i] := by
        rcases HS.out with h | h
        · rw [h] at hhn; simp at hhn; omega
        · exact h
      obtain ⟨m, hm⟩ : ∃ m, m = (lo + hi) / 2 := ⟨_, rfl⟩
      have hmlt : m < s.length := by omega
      obtain ⟨a1, c1, a2, c2, a3, c3, ⟨d0, d1, d2, d3, d4, d5, d6⟩, hi2⟩ := (hcs m hmlt).below hbr
      have HNX := hide (fun h : ¬ lessT s[m].key key => notLess_later HR.out hmlt h)
      have HLX := hide (fun h : lessT s[m].key key => less_sooner HR.out hmlt h)
      have hmi : ((lo : Int) + (hi : Int)) / 2 = ((m : Nat) : Int) := by omega
      have HM : Hid (lo ≤ m ∧ m < hi) := ⟨by omega, by omega⟩
      clear hcs hm
      generalize s[m] = X at *
      have HCL := hide (withCmp_any _ X key wr ⟨a1, c1, a2, c2, a3, c3, rfl, hi2⟩)
      have hlt1 := cmpT_lt X.key key
      clear hi2
      go_wp2_with fail
      refine HCL.out.mono ?_
      rintro e w2 ⟨rfl, hb2⟩
      have C2 := hbr.trans (hb2.mono hsz)
      clear hb2 HCL d0 d1 d2 d3 d4 d5 d6 hmi
      obtain ⟨hm1, hm2⟩ := HM.out
      by_cases hl : lessT X.key key
      · have hc0 : cmpT X.key key < 0 := hlt1.2 hl
        have HL2 := hide (HLX.out hl)
        clear hl hlt1 HNX HLX HL
        generalize cmpT X.key key = C at *
        go_wp2_with fail
        go_roundw
        case rel => exact ⟨m + 1, hi, by go_num, rfl, by omega, hhn, HL2.out, HH.out, C2⟩
        case measure => simp [intOf]; omega
      · have hc0 : ¬ cmpT X.key key < 0 := fun h => hl (hlt1.1 h)
        have HH2 := hide (HNX.out hl)
        clear hl hlt1 HNX HLX HH
        generalize cmpT X.key key = C at *
        go_wp2_with fail
        go_roundw
        case rel => exact ⟨lo, m, rfl, by go_num, by omega, by omega, HL.out, HH2.out, C2⟩
        case measure => simp [intOf]; omega
    · obtain rfl : hi = lo := by omega
      have hge : ¬ ((hi : Nat) : Int) < ((hi : Nat) : Int) := by omega
      by_cases hin : hi < s.length
      · have hin' : ((hi : Nat) : Int) < ((s.length : Nat) : Int) := by omega
        obtain ⟨ga, o, rfl, hcs⟩ : ∃ ga o, a = some ⟨ga, o, none⟩ ∧ ∀ i (h : i < s.length), EntAt w ga (o + i * 7) s[i] := by
          rcases HS.out with h | h
          · rw [h] at hin; simp at hin
          · exact h
        obtain ⟨a1, c1, a2, c2, a3, c3, ⟨d0, d1, d2, d3, d4, d5, d6⟩, hi2⟩ := (hcs hi hin).below hbr
        clear hcs
        generalize s[hi] = X at *
        have HCL := hide (withCmp_any _ X key wr ⟨a1, c1, a2, c2, a3, c3, rfl, hi2⟩)
        clear hi2
        go_wp2_with fail
        refine HCL.out.mono ?_
        rintro e w2 ⟨rfl, hb2⟩
        have C2 := hbr.trans (hb2.mono hsz)
        clear hb2 HCL d0 d1 d2 d3 d4 d5 d6
        generalize cmpT X.key key = C at *
        go_wp2_with fail
        refine bodyPost_ret (v := .tuple #[.int .i64 hi, .bool (C == 0)]) (by simp [results, Tryz.results262, go_sem]) rfl ⟨hi, _, rfl, hhn, HL.out, HH.out, C2⟩
      · have hin' : ¬ ((hi : Nat) : Int) < ((s.length : Nat) : Int) := by omega
        go_wp2_with fail
        refine bodyPost_ret (v := .tuple #[.int .i64 hi, .bool false]) (by simp [results, Tryz.results262, go_sem]) rfl ⟨hi, .inl rfl, hhn, HL.out, HH.out, hbr⟩
end Go.Proofs.YtmaancidkpfopaaGreatDoor

/- WALKS of spaces: an entry put into a row of one's own: slices.Insert. -/
namespace Go.Proofs.YtmaancidkpfopaaGreatDoor
open Go.RowKit

/-- copying elements of so many cells into a row -/
theorem run_copyK {P : Program} (w : World) (dT sT ty elem : TypeId) (k : Nat) (g o dLen dCap : Nat) (a : Addr) (sLen sCap : Nat) (cur : Array Value) (t : TypeId) (cs : List Value)
    (hu : P.underlying dT = some (.slice elem)) (hs : (P.info? elem).map (·.size) = some k) (hg : w.heap[g]? = some (.cells cur t (0, 0))) (m : Nat) (hm : Nat.min sLen dLen = m) (hn : cs.length = m * k)
    (hsrc : ∀ j v, cs[j]? = some v → w.cell? (a.add j) = some v) (hfit : o + cs.length ≤ cur.size) (h1 : ∀ v ∈ cs, v.oneCell' = true) :
    (Builtin.copy_ #[dT, sT] ty #[.slice (some ⟨g, o, none⟩) dLen dCap, .slice (some a) sLen sCap]).run P w = .ok (goInt m) (w.setRow g (cur.toList.take o ++ cs ++ cur.toList.drop (o + cs.length)).toArray) := by
  have hl := run_firstCells_some (P := P) w k m a sLen sCap cs hn hsrc
  have hst := run_storeCells_at P g o t cs 0 cur w hg (by simpa using hfit) h1
  cases hq : P.info? elem with
  | none => simp [hq] at hs
  | some i =>
    have hi : i.size = k := by simpa [hq] using hs
    simp [Builtin.copy_, run_underlying hu, Builtin.lenOf, sizeOf, typeInfo, hq, hi, hm, hl, hst]
/-- two types of slices, as one -/
theorem append_typesY {P : Program} (w : World) {t t' ty e e' : TypeId} (ht : P.underlying t = some (.slice e)) (ht' : P.underlying t' = some (.slice e')) (b : Option Addr) (n c : Nat) (u : Value) :
    (Builtin.append_ #[t, t'] ty #[.slice b n c, u]).run P w = (Builtin.append_ #[t, t] ty #[.slice b n c, u]).run P w := by
  simp [Builtin.append_, run_underlying ht, run_underlying ht']
theorem wpList_appendY {w : World} {ops : Array Oper} {rest : List Oper} {o : Oper} {a : Act} {Q : Exit → Act → World → Prop} (hg : o.guard = none) (s x : Operand) (t t' : TypeId)
    (hop : o.op = .call { callee := .builtin .append, args := #[s, x], argTypes := #[t, t'] }) (v u : Value) (hs : a.eval s = v) (hx : a.eval x = u) {v' : Value} {w' : World}
    (hr : (Builtin.append_ #[t, t'] o.type #[v, u]).run Tryz.prog w = .ok v' w') (hK : wpList Tryz.prog ops Q rest (a.put o.dst v') w') : wpList Tryz.prog ops Q (o :: rest) a w := by
  refine wpList_plain hg fun K' hK' => ?_
  unfold Oper.wp execOp
  simp only [hop, resolve, invoke, builtin, Sem.run_bind, Sem.run_pure, Result.andThen_ok, List.map_toArray, List.map_cons, List.map_nil, hs, hx, hr]
  exact hK' _ _ hK
theorem wpList_copyY {w : World} {ops : Array Oper} {rest : List Oper} {o : Oper} {a : Act} {Q : Exit → Act → World → Prop} (hg : o.guard = none) (s x : Operand) (t t' : TypeId)
    (hop : o.op = .call { callee := .builtin .copy, args := #[s, x], argTypes := #[t, t'] }) (v u : Value) (hs : a.eval s = v) (hx : a.eval x = u) {v' : Value} {w' : World}
    (hr : (Builtin.copy_ #[t, t'] o.type #[v, u]).run Tryz.prog w = .ok v' w') (hK : wpList Tryz.prog ops Q rest (a.put o.dst v') w') : wpList Tryz.prog ops Q (o :: rest) a w := by
  refine wpList_plain hg fun K' hK' => ?_
  unfold Oper.wp execOp
  simp only [hop, resolve, invoke, builtin, Sem.run_bind, Sem.run_pure, Result.andThen_ok, List.map_toArray, List.map_cons, List.map_nil, hs, hx, hr]
  exact hK' _ _ hK
theorem step_copyY {ops : Array Oper} {o : Oper} {a : Act} {w : World} {K : Act → World → Prop} {Q : Exit → Act → World → Prop} {E : Prop} (hg : o.guard = none) (d x : Operand) (t t' : TypeId)
    (hop : o.op = .call { callee := .builtin .copy, args := #[d, x], argTypes := #[t, t'] }) (v u : Value) (hd : a.eval d = v) (hx : a.eval x = u) {v' : Value} {w' : World}
    (hr : (Builtin.copy_ #[t, t'] o.type #[v, u]).run Tryz.prog w = .ok v' w') (hK : K (a.put o.dst v') w') : if Region.wanted o (yielded ops a.tmps) = true then Oper.wp Tryz.prog o a w K Q else E := by
  rw [if_pos (by simp [Region.wanted, hg])]
  unfold Oper.wp execOp
  simp only [hop, resolve, invoke, builtin, Sem.run_bind, Sem.run_pure, Result.andThen_ok, List.map_toArray, List.map_cons, List.map_nil, hd, hx, hr]
  exact hK

theorem cellsE_one (y : Ent × Sls) : ∀ u ∈ cellsE y, u.oneCell' = true := by
  intro u hu
  simp [cellsE] at hu
  rcases hu with rfl | rfl | rfl | rfl | rfl | rfl | rfl <;> rfl
theorem rowE_one (l : List (Ent × Sls)) : ∀ u ∈ rowE l, u.oneCell' = true := by
  intro u hu
  obtain ⟨x, hx, hu⟩ := List.mem_flatten.1 hu
  obtain ⟨y, _, rfl⟩ := List.mem_map.1 hx
  exact cellsE_one y u hu
theorem rowE_append (a b : List (Ent × Sls)) : rowE (a ++ b) = rowE a ++ rowE b := by simp [rowE]
theorem rowE_cons (y : Ent × Sls) (b : List (Ent × Sls)) : rowE (y :: b) = cellsE y ++ rowE b := by simp [rowE]
theorem rowE_take (l : List (Ent × Sls)) (k : Nat) (hk : k ≤ l.length) : (rowE l).take (k * 7) = rowE (l.take k) := by
  have h : rowE l = rowE (l.take k) ++ rowE (l.drop k) := by rw [← rowE_append, List.take_append_drop]
  rw [h, List.take_append_of_le_length (by rw [rowE_len]; simp; omega), List.take_of_length_le (by rw [rowE_len]; simp; omega)]
theorem rowE_drop (l : List (Ent × Sls)) (k : Nat) (hk : k ≤ l.length) : (rowE l).drop (k * 7) = rowE (l.drop k) := by
  have h : rowE l = rowE (l.take k) ++ rowE (l.drop k) := by rw [← rowE_append, List.take_append_drop]
  have hl : (rowE (l.take k)).length = k * 7 := by rw [rowE_len, List.length_take]; congr 1; omega
  rw [h, List.drop_append_of_le_length (by omega), List.drop_of_length_le (by omega), List.nil_append]
/-- an entry's place -/
def insE (l : List (Ent × Sls)) (k : Nat) (y : Ent × Sls) : List (Ent × Sls) := l.take k ++ y :: l.drop k
theorem insE_len (l : List (Ent × Sls)) (k : Nat) (y : Ent × Sls) (hk : k ≤ l.length) : (insE l k y).length = l.length + 1 := by simp [insE]; omega
theorem insE_row (l : List (Ent × Sls)) (k : Nat) (y : Ent × Sls) : rowE (insE l k y) = rowE (l.take k) ++ (cellsE y ++ rowE (l.drop k)) := by rw [insE, rowE_append, rowE_cons]
theorem insE_mem {l : List (Ent × Sls)} {k : Nat} {y z : Ent × Sls} (h : z ∈ insE l k y) : z = y ∨ z ∈ l := by
  rw [insE, List.mem_append, List.mem_cons] at h
  rcases h with h | h | h
  · exact .inr (List.mem_of_mem_take h)
  · exact .inl h
  · exact .inr (List.mem_of_mem_drop h)
theorem OwnItem.grown {B : Nat} {w w' : World} {v V : Value} {x : Itm} {n : Nat} {xs : List Value} (h : OwnItem B w v x) (hrow : w.ownsRow B 42 7 V n xs) (hg : w.grownBy w' V.ownBlock) : OwnItem B w' v x := by
  refine h.kept ((Kept.refl _ _).grown hg (S := fun j => some j = V.ownBlock) (fun j hj => .inl hj.symm)) (Nat.le_refl _) (fun j cs T _ h1 h2 h3 => ?_)
  rcases hrow.2 with ⟨hv, _⟩ | ⟨g', cap', cur', hv, _, hg', _⟩
  · rw [hv] at h3; simp [Value.ownBlock] at h3
  · rw [hv] at h3
    simp [Value.ownBlock] at h3
    subst h3
    rw [hg'] at h1
    simp at h1
    exact h2 h1.2.symm
theorem OwnItem.over {B g : Nat} {w w' : World} {v : Value} {x : Itm} {cur : Array Value} (h : OwnItem B w v x) (hg : w.heap[g]? = some (.cells cur 42 (0, 0))) (hk : Kept (one g) w w') : OwnItem B w' v x :=
  h.kept hk (Nat.le_refl _) (fun j cs T _ h1 h2 e => by
    simp only [one] at e
    subst e
    rw [hg] at h1
    simp at h1
    exact h2 h1.2.symm)
theorem Kept.setRow {g : Nat} {a w : World} (h : Kept (one g) a w) (cs : Array Value) : Kept (one g) a (w.setRow g cs) :=
  h.trans ⟨rfl, rfl, rfl, by simp [World.setRow], fun k _ hk => setRow_other w g k cs hk⟩
theorem below_setRowY {B g : Nat} {a w : World} (h : Below B a w) (hg : B ≤ g) (cs : Array Value) : Below B a (w.setRow g cs) :=
  h.trans ⟨rfl, rfl, rfl, by simp [World.setRow], fun k hk => setRow_other w g k cs (by omega)⟩
theorem cells_at {w : World} {g : Nat} {cs : List Value} {t : TypeId} (h : w.heap[g]? = some (.cells cs.toArray t (0, 0))) : ∀ j v, cs[j]? = some v → w.cell? ((⟨g, 0, none⟩ : Addr).add j) = some v := by
  intro j v hj
  have e : (⟨g, 0, none⟩ : Addr).add j = ⟨g, j, none⟩ := by unfold Addr.add; split <;> simp_all
  rw [e]
  simp [World.cell?, h, hj]

set_option maxRecDepth 100000 in
set_option maxHeartbeats 4000000 in
theorem insert_end (B : Nat) (a : Option Addr) (c : Nat) (l : List (Ent × Sls)) (y : Ent × Sls) (vb : Nat) (w : World) (h : OwnSp B w (.slice a l.length c) l) (hy : OwnItem B w (itemV y.1.item y.2) y.1.item)
    (hv : w.heap[vb]? = some (.cells (cellsE y).toArray 42 (0, 0))) (hB : B ≤ w.heap.size) (hn : l.length ≤ 1000000) :
    Calls Tryz.prog 264 #[.slice a l.length c, .int .i64 l.length, .slice (some ⟨vb, 0, none⟩) 1 1] w fun e w' => ∃ V, e = .returned V ∧ OwnSp B w' V (l ++ [y]) ∧ Below B w w' := by
  obtain ⟨iE, hi, hz0, hzE, hz2⟩ := info_parts infoEnt
  obtain ⟨V', W', hr, hrow, hgr, -⟩ := run_append_own (P := Tryz.prog) w B 23 23 42 iE (.agg #[.string ⟨#[]⟩, .int .i64 0, .string ⟨#[]⟩, .slice none 0 0, .slice none 0 0, .slice none 0 0, .int .i64 0]) 7 120 Tryz.underlying23 hi hz0 hzE hz2 rfl (by decide) (.slice a l.length c) l.length (rowE l) h.row ⟨vb, 0, none⟩ 1 1 (cellsE y) rfl (cells_at hv) (cellsE_one y) (by unfold maxLen; omega) (by omega) hB
  have hr2 : ∀ ty, (Builtin.append_ #[23, 22] ty #[.slice a l.length c, .slice (some ⟨vb, 0, none⟩) 1 1]).run Tryz.prog w = .ok V' W' := fun ty => by
    rw [append_typesY w Tryz.underlying23 Tryz.underlying22]
    exact hr
  have HF : Hid (OwnSp B W' V' (l ++ [y]) ∧ Below B w W') := by
    refine ⟨⟨by simpa [rowE_snoc] using hrow, fun z hz => ?_⟩, (Below.refl B w).grown hgr hB (fun j hj => (h.row.lt j hj).1)⟩
    rcases List.mem_append.1 hz with hz | hz
    · exact (h.its z hz).grown h.row hgr
    · rw [List.mem_singleton.1 hz]; exact hy.grown h.row hgr
  obtain ⟨n, hln⟩ : ∃ n, l.length = n := ⟨_, rfl⟩
  have hnc : n ≤ c ∧ (a = none → n = 0 ∧ c = 0) ∧ c ≤ maxLen := by
    rcases h.row.2 with ⟨hv, h0⟩ | ⟨g, cap, cur, hv, _, _, h1, h2, _⟩
    · injection hv with e1 e2 e3; subst e1; exact ⟨by omega, fun _ => ⟨by omega, e3⟩, by unfold maxLen; omega⟩
    · injection hv with e1 e2 e3; subst e1; subst e3; exact ⟨by omega, fun h => (by cases h), h2⟩
  rw [hln] at hr2 ⊢ hn
  obtain ⟨hnc1, hnc2, hnc3⟩ := hnc
  unfold maxLen at hnc3
  clear hr hrow hgr h hy hv hln hz0 hzE hz2 hi
  have hge : ¬ ((n : Nat) : Int) < 0 := by omega
  by_cases hcn : c = n
  · go_enter Tryz.func264, Tryz.ntmps264
    go_wp2_with (at_builtin; refine wpList_appendY rfl _ _ 23 22 rfl _ _ rfl rfl (hr2 _) ?_)
    go_ret
    exact ⟨_, rfl, HF.out.1, HF.out.2⟩
  · go_enter Tryz.func264, Tryz.ntmps264
    go_wp2_with (at_builtin; refine wpList_appendY rfl _ _ 23 22 rfl _ _ rfl rfl (hr2 _) ?_)
    go_ret
    exact ⟨_, rfl, HF.out.1, HF.out.2⟩
theorem sizeEnt (w : World) : (Go.sizeOf 42).run Tryz.prog w = .ok 7 w := by kernel_rfl
theorem infoEnt7 : (Tryz.prog.info? 42).map (·.size) = some 7 := by kernel_rfl
set_option maxRecDepth 100000 in
set_option maxHeartbeats 4000000 in
/-- .. where there is room -/
theorem insert_shift (B g k c : Nat) (l : List (Ent × Sls)) (y : Ent × Sls) (vb : Nat) (cur : Array Value) (w : World) (h : OwnSp B w (.slice (some ⟨g, 0, none⟩) l.length c) l) (hy : OwnItem B w (itemV y.1.item y.2) y.1.item)
    (hg : w.heap[g]? = some (.cells cur 42 (0, 0))) (hsz : cur.size = c * 7) (hcur : cur.toList.take (l.length * 7) = rowE l) (hBg : B ≤ g) (hcm : c ≤ maxLen)
    (hv : w.heap[vb]? = some (.cells (cellsE y).toArray 42 (0, 0))) (hvg : vb ≠ g) (hk : k < l.length) (hroom : l.length < c) (hn : l.length ≤ 1000000) :
    Calls Tryz.prog 264 #[.slice (some ⟨g, 0, none⟩) l.length c, .int .i64 k, .slice (some ⟨vb, 0, none⟩) 1 1] w fun e w' => ∃ V, e = .returned V ∧ OwnSp B w' V (insE l k y) ∧ Below B w w' := by
  obtain ⟨n, hln⟩ : ∃ n, l.length = n := ⟨_, rfl⟩
  have hdl : (rowE (l.drop k)).length = (n - k) * 7 := by rw [rowE_len, List.length_drop, hln]
  have hy7 : (cellsE y).length = 7 := rfl
  have hcl : cur.toList.length = c * 7 := by simpa using hsz
  -- the first copy
  have hsrc1 : ∀ j v, (rowE (l.drop k))[j]? = some v → w.drew.cell? ((⟨g, k * 7, none⟩ : Addr).add j) = some v := fun j v hj => by
    have e : (⟨g, k * 7, none⟩ : Addr).add j = ⟨g, k * 7 + j, none⟩ := by unfold Addr.add; split <;> simp_all
    rw [e, ← rowE_drop l k (by omega), ← hcur, List.getElem?_drop, List.getElem?_take] at *
    split at hj
    · show w.cell? _ = _
      simpa [World.cell?, hg] using hj
    · cases hj
  obtain ⟨R1, hR1⟩ : ∃ R1, R1 = cur.toList.take ((k + 1) * 7) ++ rowE (l.drop k) ++ cur.toList.drop ((k + 1) * 7 + (rowE (l.drop k)).length) := ⟨_, rfl⟩
  have hR1l : R1.length = c * 7 := by rw [hR1]; simp [hdl, hsz]; omega
  have hc1 : ∀ ty dc sc, (Builtin.copy_ #[23, 23] ty #[.slice (some ⟨g, (k + 1) * 7, none⟩) (n - k) dc, .slice (some ⟨g, k * 7, none⟩) (n + 1 - k) sc]).run Tryz.prog w.drew = .ok (goInt ((n - k : Nat) : Int)) (w.drew.setRow g R1.toArray) := fun ty dc sc => by
    rw [hR1]
    refine run_copyK w.drew _ _ ty 42 7 g ((k + 1) * 7) (n - k) dc ⟨g, k * 7, none⟩ (n + 1 - k) sc cur 42 (rowE (l.drop k)) Tryz.underlying23 infoEnt7 hg (n - k) (by show min _ _ = _; omega) hdl hsrc1 (by rw [hdl, hsz]; omega) (rowE_one _)
  obtain ⟨W1, hW1⟩ : ∃ W1, w.drew.setRow g R1.toArray = W1 := ⟨_, rfl⟩
  have hg1 : W1.heap[g]? = some (.cells R1.toArray 42 (0, 0)) := hW1 ▸ setRow_heap w.drew g cur _ _ _ hg
  have hK1 : Kept (one g) w W1 := hW1 ▸ ((Kept.refl (one g) w).drew).setRow _
  have hv1 : W1.heap[vb]? = some (.cells (cellsE y).toArray 42 (0, 0)) := (hK1.block vb (Array.getElem?_eq_some_iff.1 hv).1 (by simp only [one]; omega)).trans hv
  rw [hW1] at hc1
  -- the second one
  obtain ⟨R2, hR2⟩ : ∃ R2, R2 = R1.take (k * 7) ++ cellsE y ++ R1.drop (k * 7 + (cellsE y).length) := ⟨_, rfl⟩
  have hR2l : R2.length = c * 7 := by rw [hR2]; simp [hy7, hR1l]; omega
  have hc2 : ∀ ty dc, (Builtin.copy_ #[23, 22] ty #[.slice (some ⟨g, k * 7, none⟩) (n + 1 - k) dc, .slice (some ⟨vb, 0, none⟩) 1 1]).run Tryz.prog W1 = .ok (goInt 1) (W1.setRow g R2.toArray) := fun ty dc => by
    have := run_copyK (P := Tryz.prog) W1 23 22 ty 42 7 g (k * 7) (n + 1 - k) dc ⟨vb, 0, none⟩ 1 1 R1.toArray 42 (cellsE y) Tryz.underlying23 infoEnt7 hg1 1 (by show min _ _ = _; omega) rfl (cells_at hv1) (by simp [hy7, hR1l]; omega) (cellsE_one y)
    rw [hR2]
    exact this
  obtain ⟨W2, hW2⟩ : ∃ W2, W1.setRow g R2.toArray = W2 := ⟨_, rfl⟩
  have hg2 : W2.heap[g]? = some (.cells R2.toArray 42 (0, 0)) := hW2 ▸ setRow_heap W1 g _ _ _ _ hg1
  have hK2 : Kept (one g) w W2 := hW2 ▸ hK1.setRow _
  rw [hW2] at hc2
  have hrow : R2.take ((n + 1) * 7) = rowE (insE l k y) := by
    have e1 : R1.take (k * 7) = rowE (l.take k) := by
      rw [hR1, List.append_assoc, List.take_append_of_le_length (by simp [hsz]; omega), List.take_take, ← rowE_take l k (by omega), ← hcur, List.take_take]
      congr 1
      omega
    have e2 : R1.drop (k * 7 + 7) = rowE (l.drop k) ++ cur.toList.drop ((k + 1) * 7 + (rowE (l.drop k)).length) := by
      rw [hR1, List.append_assoc, List.drop_append_of_le_length (by simp [hsz]; omega), List.drop_of_length_le (by simp [hsz]; omega), List.nil_append]
    have hl1 : (rowE (l.take k)).length = k * 7 := by rw [rowE_len, List.length_take]; congr 1; omega
    rw [hR2, e1, hy7, e2, insE_row, List.append_assoc, ← List.append_assoc (cellsE y), ← List.append_assoc (rowE (l.take k)) (cellsE y ++ _), List.take_append_of_le_length (by simp [hl1, hy7, hdl]; omega), List.take_of_length_le (by simp [hl1, hy7, hdl]; omega)]
  have HF : Hid (OwnSp B W2 (.slice (some ⟨g, 0, none⟩) (n + 1) c) (insE l k y) ∧ Below B w W2) := by
    refine ⟨⟨⟨by rw [rowE_len], .inr ⟨g, c, R2.toArray, by rw [insE_len l k y (by omega), hln], hBg, hg2, by rw [insE_len l k y (by omega)]; omega, hcm, by simpa using hR2l, by rw [insE_len l k y (by omega), hln]; simpa using hrow⟩⟩, fun z hz => ?_⟩, ⟨hK2.os, hK2.tape, hK2.output, hK2.size, fun j hj => ?_⟩⟩
    · rcases insE_mem hz with rfl | hz
      · exact hy.over hg hK2
      · exact (h.its z hz).over hg hK2
    · rcases Nat.lt_or_ge j w.heap.size with h1 | h1
      · exact hK2.block j h1 (by simp only [one]; omega)
      · have hgl := (Array.getElem?_eq_some_iff.1 hg).1
        omega
  have hov : ∀ lb cb, (callFunc 301 #[.slice (some ⟨vb, 0, none⟩) 1 1, .slice (some ⟨g, (k + 1) * 7, none⟩) lb cb]).run Tryz.prog w = .ok (.value (.bool false)) w := fun lb cb => by
    rw [run_callFunc_extern (P := Tryz.prog) (fn := Tryz.f301) (by kernel_rfl) (by kernel_rfl) (by kernel_rfl) (by kernel_rfl) (e := Extern.SlicesOverlaps.overlaps #[22, 22] #[4]) (by kernel_rfl),
      Lib.run_overlaps_apart w 22 4 42 Tryz.underlying22 7 sizeEnt ⟨vb, 0, none⟩ ⟨g, (k + 1) * 7, none⟩ 1 1 lb cb hvg 42 42 7 (c * 7) (by simp [World.shape?, hv, cellsE]) (by simp [World.shape?, hg, hsz]) (by omega) (by simp [World.frozen?, hv]) (by simp [World.frozen?, hv])]
    rfl
  rw [hln] at hk hroom hn ⊢
  unfold maxLen at hcm
  have hz2 : ¬ ((k : Int) = (n : Int)) := by omega
  have hkn : k ≤ n := by omega
  have hb2 : ¬ (c = k + 1) := by omega
  have hb3 : (k : Int) ≤ (n : Int) + 1 := by omega
  have hb4 : ¬ (c = k) := by omega
  have hb5 : (0 : Int) ≤ (k : Int) + 1 := by omega
  have hb6 : ((k : Int) + 1).toNat = k + 1 := by omega
  have hw1 : IntKind.i64.wrap ((k : Int) + 1) = (k : Int) + 1 := by rw [IntKind.wrap_i64]; omega
  clear hW1 hW2 hR1 hR2 hrow hR1l hR2l hg1 hg2 hK1 hK2 hv1 hsrc1 hdl hcl hy7 h hy hg hsz hcur hv hln hBg
  go_enter Tryz.func264, Tryz.ntmps264
  go_wp2_with (simp only [hov])
  go_region_law (refine step_copyY rfl _ _ 23 23 rfl _ _ (by simp [Act.eval, Act.put]) (by simp [Act.eval, Act.put]) (hc1 _ _ _) ?_)
  go_wp2_with (at_builtin; refine wpList_copyY rfl _ _ 23 22 rfl _ _ rfl rfl (hc2 _ _) ?_)
  go_ret
  exact ⟨_, rfl, HF.out.1, HF.out.2⟩
set_option maxRecDepth 100000 in
set_option maxHeartbeats 4000000 in
/-- .. where there is none -/
theorem insert_grow (B g k : Nat) (l : List (Ent × Sls)) (y : Ent × Sls) (vb : Nat) (cur : Array Value) (w : World) (h : OwnSp B w (.slice (some ⟨g, 0, none⟩) l.length l.length) l) (hy : OwnItem B w (itemV y.1.item y.2) y.1.item)
    (hg : w.heap[g]? = some (.cells cur 42 (0, 0))) (hcur : cur.toList.take (l.length * 7) = rowE l)
    (hv : w.heap[vb]? = some (.cells (cellsE y).toArray 42 (0, 0))) (hB : B ≤ w.heap.size) (hk : k < l.length) (hn : l.length ≤ 1000000) :
    Calls Tryz.prog 264 #[.slice (some ⟨g, 0, none⟩) l.length l.length, .int .i64 k, .slice (some ⟨vb, 0, none⟩) 1 1] w fun e w' => ∃ V, e = .returned V ∧ OwnSp B w' V (insE l k y) ∧ Below B w w' := by
  obtain ⟨iE, hi, hz0, hzE, hz2⟩ := info_parts infoEnt
  obtain ⟨n, hln⟩ : ∃ n, l.length = n := ⟨_, rfl⟩
  have hdl : (rowE (l.drop k)).length = (n - k) * 7 := by rw [rowE_len, List.length_drop, hln]
  have htl : (rowE (l.take k)).length = k * 7 := by rw [rowE_len, List.length_take]; congr 1; omega
  have hy7 : (cellsE y).length = 7 := rfl
  have hgl : g < w.heap.size := (Array.getElem?_eq_some_iff.1 hg).1
  have hvl : vb < w.heap.size := (Array.getElem?_eq_some_iff.1 hv).1
  -- the new row
  have hold : (Builtin.firstCells iE.size k (.slice (some ⟨g, 0, none⟩) k n)).run Tryz.prog w.drew = .ok (rowE (l.take k)).toArray w.drew := by
    rw [hzE]
    refine run_firstCells_some (P := Tryz.prog) w.drew 7 k ⟨g, 0, none⟩ k n (rowE (l.take k)) htl (fun j v hj => ?_)
    have e : (⟨g, 0, none⟩ : Addr).add j = ⟨g, j, none⟩ := by unfold Addr.add; split <;> simp_all
    rw [← rowE_take l k (by omega), ← hcur, List.take_take, List.getElem?_take] at hj
    split at hj
    · rw [e]
      show w.cell? _ = _
      simpa [World.cell?, hg] using hj
    · cases hj
  obtain ⟨Z, hZ⟩ : ∃ Z : Value, Z = .agg #[.string ⟨#[]⟩, .int .i64 0, .string ⟨#[]⟩, .slice none 0 0, .slice none 0 0, .slice none 0 0, .int .i64 0] := ⟨_, rfl⟩
  have hZs : Z.cells.size = 7 := by rw [hZ]; rfl
  obtain ⟨G, hG⟩ : ∃ G, grownCap w (n + 1) n 42 = G := ⟨_, rfl⟩
  have hGn : n + 1 ≤ G := hG ▸ grownCap_ge w _ _ _
  have hGm : G ≤ maxLen := hG ▸ grownCap_le_maxLen w (n + 1) n 42 (by unfold maxLen; omega)
  obtain ⟨R0, hR0⟩ : ∃ R0 : Array Value, R0 = (rowE (l.take k)).toArray ++ Builtin.zeroCells Z.cells (n + 1 - k) ++ Builtin.zeroCells Z.cells (G - (n + 1)) := ⟨_, rfl⟩
  have hR0l : R0.size = G * 7 := by rw [hR0]; simp [size_zeroCells, hZs, htl]; omega
  have hR0t : R0.toList.take (k * 7) = rowE (l.take k) := by
    rw [hR0]
    simp only [Array.toList_append, List.append_assoc]
    rw [List.take_append_of_le_length (by simp [htl]), List.take_of_length_le (by simp [htl])]
  have hr0 : ∀ ty, (Builtin.append_ #[23, 3] ty #[.slice (some ⟨g, 0, none⟩) k n, .int .i64 ((n : Int) + 1 - (k : Int))]).run Tryz.prog w = .ok (.slice (some ⟨w.heap.size, 0, none⟩) (n + 1) G) (w.drew.alloc (.cells R0 42)) := fun ty => by
    have h1 := Lib.run_append_grow_zeros (P := Tryz.prog) w 23 3 ty 42 iE Z .i64 .i64 Tryz.underlying23 Tryz.underlying3 hi (hZ ▸ hz0) (some ⟨g, 0, none⟩) k n (rowE (l.take k)) hold (n + 1 - k) (by omega) (by omega) (by omega) (by omega) (by rw [hz2]; omega) (by rw [hz2]; exact growslice_fits (by omega) (by omega))
    rw [show k + (n + 1 - k) = n + 1 by omega, hG] at h1
    rw [show (n : Int) + 1 - (k : Int) = ((n + 1 - k : Nat) : Int) by omega, hR0]
    exact h1
  obtain ⟨H, hH⟩ : ∃ H, w.heap.size = H := ⟨_, rfl⟩
  obtain ⟨W0, hW0⟩ : ∃ W0, w.drew.alloc (.cells R0 42) = W0 := ⟨_, rfl⟩
  have hg0 : W0.heap[H]? = some (.cells R0 42 (0, 0)) := by rw [← hW0, ← hH]; exact allocY_new w.drew _
  have hK0 : Below w.heap.size w W0 := hW0 ▸ ((Below.refl _ w).drew).alloc (Nat.le_refl _) _
  have hv0 : W0.heap[vb]? = some (.cells (cellsE y).toArray 42 (0, 0)) := (hK0.block vb hvl).trans hv
  have hgo0 : W0.heap[g]? = some (.cells cur 42 (0, 0)) := (hK0.block g hgl).trans hg
  rw [hW0, hH] at hr0
  -- the first copy
  obtain ⟨R1, hR1⟩ : ∃ R1, R1 = R0.toList.take (k * 7) ++ cellsE y ++ R0.toList.drop (k * 7 + (cellsE y).length) := ⟨_, rfl⟩
  have hR1l : R1.length = G * 7 := by rw [hR1]; simp [hy7, hR0l]; omega
  have hc1 : ∀ ty dc, (Builtin.copy_ #[23, 22] ty #[.slice (some ⟨H, k * 7, none⟩) (n + 1 - k) dc, .slice (some ⟨vb, 0, none⟩) 1 1]).run Tryz.prog W0 = .ok (goInt 1) (W0.setRow H R1.toArray) := fun ty dc => by
    have := run_copyK (P := Tryz.prog) W0 23 22 ty 42 7 H (k * 7) (n + 1 - k) dc ⟨vb, 0, none⟩ 1 1 R0 42 (cellsE y) Tryz.underlying23 infoEnt7 hg0 1 (by show min _ _ = _; omega) rfl (cells_at hv0) (by simp [hy7, hR0l]; omega) (cellsE_one y)
    rw [hR1]
    exact this
  obtain ⟨W1, hW1⟩ : ∃ W1, W0.setRow H R1.toArray = W1 := ⟨_, rfl⟩
  have hg1 : W1.heap[H]? = some (.cells R1.toArray 42 (0, 0)) := hW1 ▸ setRow_heap W0 H _ _ _ _ hg0
  have hK1 : Below w.heap.size w W1 := hW1 ▸ below_setRowY hK0 (by omega) _
  have hgo1 : W1.drew.heap[g]? = some (.cells cur 42 (0, 0)) := (hK1.block g hgl).trans hg
  rw [hW1] at hc1
  -- the second one
  have hsrc2 : ∀ j v, (rowE (l.drop k))[j]? = some v → W1.drew.cell? ((⟨g, k * 7, none⟩ : Addr).add j) = some v := fun j v hj => by
    have e : (⟨g, k * 7, none⟩ : Addr).add j = ⟨g, k * 7 + j, none⟩ := by unfold Addr.add; split <;> simp_all
    rw [e, ← rowE_drop l k (by omega), ← hcur, List.getElem?_drop, List.getElem?_take] at *
    split at hj
    · simpa [World.cell?, hgo1] using hj
    · cases hj
  obtain ⟨R2, hR2⟩ : ∃ R2, R2 = R1.take ((k + 1) * 7) ++ rowE (l.drop k) ++ R1.drop ((k + 1) * 7 + (rowE (l.drop k)).length) := ⟨_, rfl⟩
  have hR2l : R2.length = G * 7 := by rw [hR2]; simp [hdl, hR1l]; omega
  have hc2 : ∀ ty dc sc, (Builtin.copy_ #[23, 23] ty #[.slice (some ⟨H, (k + 1) * 7, none⟩) (n - k) dc, .slice (some ⟨g, k * 7, none⟩) (n - k) sc]).run Tryz.prog W1.drew = .ok (goInt ((n - k : Nat) : Int)) (W1.drew.setRow H R2.toArray) := fun ty dc sc => by
    have := run_copyK (P := Tryz.prog) W1.drew 23 23 ty 42 7 H ((k + 1) * 7) (n - k) dc ⟨g, k * 7, none⟩ (n - k) sc R1.toArray 42 (rowE (l.drop k)) Tryz.underlying23 infoEnt7 hg1 (n - k) (by show min _ _ = _; omega) hdl hsrc2 (by simp [hdl, hR1l]; omega) (rowE_one _)
    rw [hR2]
    exact this
  obtain ⟨W2, hW2⟩ : ∃ W2, W1.drew.setRow H R2.toArray = W2 := ⟨_, rfl⟩
  have hg2 : W2.heap[H]? = some (.cells R2.toArray 42 (0, 0)) := hW2 ▸ setRow_heap W1.drew H _ _ _ _ hg1
  have hK2 : Below w.heap.size w W2 := hW2 ▸ below_setRowY hK1.drew (by omega) _
  rw [hW2] at hc2
  have hrow : R2.take ((n + 1) * 7) = rowE (insE l k y) := by
    have e1 : R1.take ((k + 1) * 7) = rowE (l.take k) ++ cellsE y := by
      rw [hR1, List.take_append_of_le_length (by simp [hR0l, hy7]; omega), List.take_of_length_le (by simp [hR0l, hy7]; omega), hR0t]
    rw [hR2, e1, insE_row, List.append_assoc (rowE (l.take k)), List.append_assoc (rowE (l.take k)), ← List.append_assoc (rowE (l.take k)), List.take_append_of_le_length (by simp [htl, hy7, hdl]; omega), List.take_of_length_le (by simp [htl, hy7, hdl]; omega)]
  have HF : Hid (OwnSp B W2 (.slice (some ⟨H, 0, none⟩) (n + 1) G) (insE l k y) ∧ Below B w W2) := by
    refine ⟨⟨⟨by rw [rowE_len], .inr ⟨H, G, R2.toArray, by rw [insE_len l k y (by omega), hln], by omega, hg2, by rw [insE_len l k y (by omega)]; omega, hGm, by simpa using hR2l, by rw [insE_len l k y (by omega), hln]; simpa using hrow⟩⟩, fun z hz => ?_⟩, hK2.mono hB⟩
    rcases insE_mem hz with rfl | hz
    · exact hy.below hK2
    · exact (h.its z hz).below hK2
  rw [hln] at hk hn ⊢
  unfold maxLen at hGm
  have hkn : k ≤ n := by omega
  have hz2' : ¬ ((k : Int) = (n : Int)) := by omega
  have hb1 : (n : Int) < (n : Int) + 1 := by omega
  have hb2 : ¬ (G = k + 1) := by omega
  have hb3 : (k : Int) ≤ (n : Int) + 1 := by omega
  have hb4 : ¬ (G = k) := by omega
  have hb5 : (0 : Int) ≤ (k : Int) + 1 := by omega
  have hb6 : ((k : Int) + 1).toNat = k + 1 := by omega
  have hb7 : ¬ (n = k) := by omega
  have hw1 : IntKind.i64.wrap ((k : Int) + 1) = (k : Int) + 1 := by rw [IntKind.wrap_i64]; omega
  clear hW0 hW1 hW2 hR0 hR1 hR2 hrow hR0l hR0t hR1l hR2l hg0 hg1 hg2 hK0 hK1 hK2 hv0 hgo0 hgo1 hsrc2 hdl htl hy7 h hy hg hcur hv hln hold hZ hZs hG hH hi hz0 hzE hz2 hgl hvl hB
  go_enter Tryz.func264, Tryz.ntmps264
  go_wp2_with (first
    | (at_builtin; refine wpList_appendY rfl _ _ 23 3 rfl _ _ rfl rfl (hr0 _) ?_)
    | (at_builtin; refine wpList_copyY rfl _ _ 23 22 rfl _ _ rfl rfl (hc1 _ _) ?_))
  go_region_law (refine step_copyY rfl _ _ 23 23 rfl _ _ (by simp [Act.eval, Act.put]) (by simp [Act.eval, Act.put]) (hc2 _ _ _) ?_)
  go_wp2_with fail
  go_ret
  exact ⟨_, rfl, HF.out.1, HF.out.2⟩
/-- an entry put in its place -/
theorem insert_any (B k : Nat) (a : Option Addr) (c : Nat) (l : List (Ent × Sls)) (y : Ent × Sls) (vb : Nat) (w : World) (h : OwnSp B w (.slice a l.length c) l) (hy : OwnItem B w (itemV y.1.item y.2) y.1.item)
    (hv : w.heap[vb]? = some (.cells (cellsE y).toArray 42 (0, 0))) (hvg : ∀ g o, a = some ⟨g, o, none⟩ → vb ≠ g) (hB : B ≤ w.heap.size) (hk : k ≤ l.length) (hn : l.length ≤ 1000000) :
    Calls Tryz.prog 264 #[.slice a l.length c, .int .i64 k, .slice (some ⟨vb, 0, none⟩) 1 1] w fun e w' => ∃ V, e = .returned V ∧ OwnSp B w' V (insE l k y) ∧ Below B w w' := by
  by_cases hkn : k = l.length
  · subst hkn
    have e : insE l l.length y = l ++ [y] := by simp [insE]
    rw [e]
    exact insert_end B a c l y vb w h hy hv hB hn
  · rcases h.row.2 with ⟨e, h0⟩ | ⟨g, cap, cur, e, h1, h2, h3, h4, h5, h6⟩
    · omega
    · injection e with e1 e2 e3
      subst e1; subst e3
      by_cases hr : l.length < c
      · exact insert_shift B g k c l y vb cur w h hy h2 h5 h6 h1 h4 hv (hvg g 0 rfl) (by omega) hr hn
      · obtain rfl : c = l.length := by omega
        exact insert_grow B g k l y vb cur w h hy h2 h6 hv hB (by omega) hn
end Go.Proofs.YtmaancidkpfopaaGreatDoor

/- WALKS of spaces: with. -/
namespace Go.Proofs.YtmaancidkpfopaaGreatDoor
open Go.RowKit

/-- a space that has room, if what is gone goes -/
def roomE (s : List Ent) (now : Int) : List Ent := if 16 ≤ s.length then s.filter (fun x => !goneE x now) else s
/-- where an entry stands -/
structure PutAt (s : List Ent) (e : Ent) (r : List Ent) : Prop where
  ex : ∃ k, k ≤ s.length ∧ r = s.take k ++ e :: s.drop k ∧ (∀ x ∈ s.take k, lessT x.key e.key) ∧ (∀ x ∈ s.drop k, ¬ lessT x.key e.key)
/-- what with answers -/
def WithPost (B : Nat) (s : List Ent) (now : Int) (x : Ent) (w : World) (e : Ending) (w' : World) : Prop :=
  ((16 ≤ (roomE s now).length ∧ e = .returned (.tuple #[.slice none 0 0, .int .i64 2])) ∨
   ((roomE s now).length < 16 ∧ ∃ V l, e = .returned (.tuple #[V, .int .i64 0]) ∧ PutAt (roomE s now) x (l.map Prod.fst) ∧ OwnSp B w' V l)) ∧ Below B w w'
theorem insE_map (l : List (Ent × Sls)) (k : Nat) (y : Ent × Sls) : (insE l k y).map Prod.fst = (l.map Prod.fst).take k ++ y.1 :: (l.map Prod.fst).drop k := by simp [insE, List.map_take, List.map_drop]
set_option maxRecDepth 100000 in
set_option maxHeartbeats 4000000 in
theorem with_any (B : Nat) (a : Option Addr) (c : Nat) (l : List (Ent × Sls)) (now : Int) (y : Ent × Sls) (w : World) (h : OwnSp B w (.slice a l.length c) l) (hr : ∀ z ∈ l, rightI z.1.item = 0)
    (hp : (l.map Prod.fst).Pairwise fun a b => lessT a.key b.key) (hy : OwnItem B w (itemV y.1.item y.2) y.1.item) (hB : B ≤ w.heap.size) (hn : l.length ≤ 1000) :
    Calls Tryz.prog 224 #[.slice a l.length c, .int .i64 now, .agg #[.string y.1.key, .int .i64 y.1.item.k, .string y.1.item.t, .slice y.2.1.1 y.1.item.l.length y.2.1.2, .slice y.2.2.1.1 y.1.item.p.length y.2.2.1.2, .slice y.2.2.2.1 y.1.item.s.length y.2.2.2.2, .int .i64 y.1.til]] w (WithPost B (l.map Prod.fst) now y.1 w) := by
  obtain ⟨W1, hW1⟩ : ∃ W1, w.alloc (.cells #[.string y.1.key, .int .i64 y.1.item.k, .string y.1.item.t, .slice y.2.1.1 y.1.item.l.length y.2.1.2, .slice y.2.2.1.1 y.1.item.p.length y.2.2.1.2, .slice y.2.2.2.1 y.1.item.s.length y.2.2.2.2, .int .i64 y.1.til] 42) = W1 := ⟨_, rfl⟩
  have HB : Below w.heap.size w W1 := hW1 ▸ (Below.refl _ w).alloc (Nat.le_refl _) _
  have AH : W1.heap[w.heap.size]? = some (.cells #[.string y.1.key, .int .i64 y.1.item.k, .string y.1.item.t, .slice y.2.1.1 y.1.item.l.length y.2.1.2, .slice y.2.2.1.1 y.1.item.p.length y.2.2.1.2, .slice y.2.2.2.1 y.1.item.s.length y.2.2.2.2, .int .i64 y.1.til] 42 (0, 0)) := hW1 ▸ allocY_new w _
  have B1 : Below B w W1 := HB.mono hB
  have h1 := h.below HB
  have hy1 := hy.below HB
  have i0 : W1.cell? ⟨w.heap.size, 0, none⟩ = some (.string y.1.key) := by simp [World.cell?, AH]
  clear h hy HB
  unfold WithPost roomE
  by_cases h16 : 16 ≤ l.length
  · have h16' : (16 : Int) ≤ ((l.length : Nat) : Int) := by omega
    rw [if_pos (by rw [List.length_map]; exact h16)]
    obtain ⟨at0, ct0, hV0, hs0⟩ := h1.at hr
    injection hV0 with ha0 hl0 hc0
    subst ha0; subst hc0
    have HSW : Hid (Calls Tryz.prog 261 #[.slice a l.length c, .int .i64 now] W1 fun e w' => ∃ V l1, e = .returned V ∧ l1.map Prod.fst = (l.map Prod.fst).filter (fun x => !goneE x now) ∧ OwnSp W1.heap.size w' V l1 ∧ Below W1.heap.size W1 w') := by
      have := swept_any a c (l.map Prod.fst) now W1 hs0 (by rw [List.length_map]; omega) (fun x hx => by
        obtain ⟨z, hz, rfl⟩ := List.mem_map.1 hx
        exact (sizedI (hr z hz)).fits)
      rw [List.length_map] at this
      exact this
    have z1 : w.heap.size < W1.heap.size := (Array.getElem?_eq_some_iff.1 AH).1
    obtain ⟨R, hR⟩ : ∃ R, (l.map Prod.fst).filter (fun x => !goneE x now) = R := ⟨_, rfl⟩
    rw [hR] at HSW ⊢
    have HR := hide hR
    clear hs0 h1 i0 hR
    go_enter Tryz.func224, Tryz.ntmps224
    go_wp2_with fail
    refine HSW.out.mono ?_
    rintro e w2 ⟨V1, l1, rfl, hm1, ho1, hb1⟩
    obtain ⟨a1, c1, rfl⟩ := slice_ownY ho1.row
    have AH2 := (hb1.block _ z1).trans AH
    have B2 := B1.trans (hb1.mono (Nat.le_trans hB (Nat.le_of_lt z1)))
    have hy2 := hy1.below hb1
    have ho2 := ho1.low (Nat.le_trans hB (Nat.le_of_lt z1))
    have hl1 : l1.length ≤ l.length := by
      have e1 := congrArg List.length hm1
      have e2 := List.length_filter_le (fun x => !goneE x now) (l.map Prod.fst)
      rw [HR.out] at e2
      simp only [List.length_map] at e1 e2
      omega
    have hr1 : ∀ z ∈ l1, rightI z.1.item = 0 := fun z hz => by
      have h3 : z.1 ∈ (l.map Prod.fst).filter (fun x => !goneE x now) := by rw [HR.out, ← hm1]; exact List.mem_map.2 ⟨z, hz, rfl⟩
      obtain ⟨z', hz', e⟩ := List.mem_map.1 (List.mem_filter.1 h3).1
      rw [← e]; exact hr z' hz'
    have hp1 : (l1.map Prod.fst).Pairwise fun a b => lessT a.key b.key := by rw [hm1, ← HR.out]; exact hp.filter _
    have HM := hide hm1
    have j0 : w2.cell? ⟨w.heap.size, 0, none⟩ = some (.string y.1.key) := by simp [World.cell?, AH2]
    clear ho1 hb1 HSW AH hm1 hy1 B1 hp hr
    by_cases h17 : 16 ≤ l1.length
    · have h17' : (16 : Int) ≤ ((l1.length : Nat) : Int) := by omega
      have HEND : Hid (16 ≤ (l1.map Prod.fst).length ∧ Below B w w2) := ⟨by rw [List.length_map]; exact h17, B2⟩
      clear B2 ho2 hy2
      go_wp2_with fail
      refine bodyPost_ret (v := .tuple #[.slice none 0 0, .int .i64 2]) (by simp [results, Tryz.results224, go_sem]) rfl ⟨.inl ⟨by have := HEND.out.1; rw [HM.out] at this; exact this, rfl⟩, HEND.out.2⟩
    · have h17' : ¬ (16 : Int) ≤ ((l1.length : Nat) : Int) := by omega
      obtain ⟨at1, ct1, hV1, hs1⟩ := ho2.at hr1
      injection hV1 with ha1 hl1 hc1
      subst ha1; subst hc1
      have HBS : Hid (Calls Tryz.prog 262 #[.slice a1 l1.length c1, .string y.1.key, .func (.func 263) #[] #[]] w2 fun e w' => ∃ (k : Nat) (b : Bool), e = .returned (.tuple #[.int .i64 k, .bool b]) ∧ k ≤ l1.length ∧ (∀ x ∈ (l1.map Prod.fst).take k, lessT x.key y.1.key) ∧ (∀ x ∈ (l1.map Prod.fst).drop k, ¬ lessT x.key y.1.key) ∧ Below w2.heap.size w2 w') := by
        have := bsY_any a1 c1 (l1.map Prod.fst) y.1.key w2 hs1 (by rw [List.length_map]; omega) hp1
        rw [List.length_map] at this
        exact this
      have z0w2 : w.heap.size < w2.heap.size := (Array.getElem?_eq_some_iff.1 AH2).1
      have zBw2 : B ≤ w2.heap.size := Nat.le_trans hB B2.size
      have hgaw2 : ∀ g o, a1 = some ⟨g, o, none⟩ → g < w2.heap.size := fun g o e => (ho2.row.lt g (by rw [e]; rfl)).2
      clear hs1
      go_wp2_with fail
      refine HBS.out.mono ?_
      rintro e wb ⟨k, bb, rfl, hkl, hk1, hk2, hbb⟩
      have HKS := hide (And.intro hkl (And.intro hk1 hk2))
      have AHb := (hbb.block _ z0w2).trans AH2
      have Bb := B2.trans (hbb.mono zBw2)
      have ownb := ho2.below hbb
      have itb := hy2.below hbb
      have zbb := hbb.size
      clear hk1 hk2 hbb HBS
      have n0 : wb.cell? ⟨w.heap.size, 0, none⟩ = some (.string y.1.key) := by simp [World.cell?, AHb]
      have n1 : wb.cell? ⟨w.heap.size, 1, none⟩ = some (.int .i64 y.1.item.k) := by simp [World.cell?, AHb]
      have n2 : wb.cell? ⟨w.heap.size, 2, none⟩ = some (.string y.1.item.t) := by simp [World.cell?, AHb]
      have n3 : wb.cell? ⟨w.heap.size, 3, none⟩ = some (.slice y.2.1.1 y.1.item.l.length y.2.1.2) := by simp [World.cell?, AHb]
      have n4 : wb.cell? ⟨w.heap.size, 4, none⟩ = some (.slice y.2.2.1.1 y.1.item.p.length y.2.2.1.2) := by simp [World.cell?, AHb]
      have n5 : wb.cell? ⟨w.heap.size, 5, none⟩ = some (.slice y.2.2.2.1 y.1.item.s.length y.2.2.2.2) := by simp [World.cell?, AHb]
      have n6 : wb.cell? ⟨w.heap.size, 6, none⟩ = some (.int .i64 y.1.til) := by simp [World.cell?, AHb]
      obtain ⟨Wc, hWc⟩ : ∃ Wc, wb.alloc (.cells #[.string y.1.key, .int .i64 y.1.item.k, .string y.1.item.t, .slice y.2.1.1 y.1.item.l.length y.2.1.2, .slice y.2.2.1.1 y.1.item.p.length y.2.2.1.2, .slice y.2.2.2.1 y.1.item.s.length y.2.2.2.2, .int .i64 y.1.til] 42) = Wc := ⟨_, rfl⟩
      have Bc : Below wb.heap.size wb Wc := hWc ▸ (Below.refl _ wb).alloc (Nat.le_refl _) _
      have AHc : Wc.heap[wb.heap.size]? = some (.cells (cellsE y).toArray 42 (0, 0)) := hWc ▸ allocY_new wb _
      have HIN := hide (insert_any B k a1 c1 l1 y wb.heap.size Wc (ownb.below Bc) (itb.below Bc) AHc (fun g o e => by have := hgaw2 g o e; omega) (Nat.le_trans (Nat.le_trans zBw2 zbb) Bc.size) hkl (by omega))
      have Bcc := Bb.trans (Bc.mono (Nat.le_trans zBw2 zbb))
      clear AHb AHc Bb Bc ownb itb z0w2 hgaw2 hkl
      go_wp2_with fail
      refine HIN.out.mono ?_
      rintro e wd ⟨V, rfl, hown, hbd⟩
      have HEND := hide (And.intro hown (Bcc.trans hbd))
      obtain ⟨ao, co, rfl⟩ := slice_ownY hown.row
      clear hown hbd HIN Bcc
      go_wp2_with fail
      refine bodyPost_ret (v := .tuple #[.slice ao (insE l1 k y).length co, .int .i64 0]) (by simp [results, Tryz.results224, go_sem]) rfl (⟨.inr ⟨by rw [← HM.out, List.length_map]; omega, _, insE l1 k y, rfl, by rw [← HM.out]; exact ⟨⟨k, by rw [List.length_map]; exact HKS.out.1, insE_map l1 k y, HKS.out.2.1, HKS.out.2.2⟩⟩, HEND.out.1⟩, HEND.out.2⟩)
  · have h16' : ¬ (16 : Int) ≤ ((l.length : Nat) : Int) := by omega
    rw [if_neg (by rw [List.length_map]; exact h16)]
    go_enter Tryz.func224, Tryz.ntmps224
    obtain ⟨at1, ct1, hV1, hs1⟩ := h1.at hr
    injection hV1 with ha1 hl1 hc1
    subst ha1; subst hc1
    have HBS : Hid (Calls Tryz.prog 262 #[.slice a l.length c, .string y.1.key, .func (.func 263) #[] #[]] W1 fun e w' => ∃ (k : Nat) (b : Bool), e = .returned (.tuple #[.int .i64 k, .bool b]) ∧ k ≤ l.length ∧ (∀ x ∈ (l.map Prod.fst).take k, lessT x.key y.1.key) ∧ (∀ x ∈ (l.map Prod.fst).drop k, ¬ lessT x.key y.1.key) ∧ Below W1.heap.size W1 w') := by
      have := bsY_any a c (l.map Prod.fst) y.1.key W1 hs1 (by rw [List.length_map]; omega) hp
      rw [List.length_map] at this
      exact this
    have z0W1 : w.heap.size < W1.heap.size := (Array.getElem?_eq_some_iff.1 AH).1
    have zBW1 : B ≤ W1.heap.size := Nat.le_trans hB B1.size
    have hgaW1 : ∀ g o, a = some ⟨g, o, none⟩ → g < W1.heap.size := fun g o e => (h1.row.lt g (by rw [e]; rfl)).2
    clear hs1
    go_wp2_with fail
    refine HBS.out.mono ?_
    rintro e wb ⟨k, bb, rfl, hkl, hk1, hk2, hbb⟩
    have HKS := hide (And.intro hkl (And.intro hk1 hk2))
    have AHb := (hbb.block _ z0W1).trans AH
    have Bb := B1.trans (hbb.mono zBW1)
    have ownb := h1.below hbb
    have itb := hy1.below hbb
    have zbb := hbb.size
    clear hk1 hk2 hbb HBS
    have n0 : wb.cell? ⟨w.heap.size, 0, none⟩ = some (.string y.1.key) := by simp [World.cell?, AHb]
    have n1 : wb.cell? ⟨w.heap.size, 1, none⟩ = some (.int .i64 y.1.item.k) := by simp [World.cell?, AHb]
    have n2 : wb.cell? ⟨w.heap.size, 2, none⟩ = some (.string y.1.item.t) := by simp [World.cell?, AHb]
    have n3 : wb.cell? ⟨w.heap.size, 3, none⟩ = some (.slice y.2.1.1 y.1.item.l.length y.2.1.2) := by simp [World.cell?, AHb]
    have n4 : wb.cell? ⟨w.heap.size, 4, none⟩ = some (.slice y.2.2.1.1 y.1.item.p.length y.2.2.1.2) := by simp [World.cell?, AHb]
    have n5 : wb.cell? ⟨w.heap.size, 5, none⟩ = some (.slice y.2.2.2.1 y.1.item.s.length y.2.2.2.2) := by simp [World.cell?, AHb]
    have n6 : wb.cell? ⟨w.heap.size, 6, none⟩ = some (.int .i64 y.1.til) := by simp [World.cell?, AHb]
    obtain ⟨Wc, hWc⟩ : ∃ Wc, wb.alloc (.cells #[.string y.1.key, .int .i64 y.1.item.k, .string y.1.item.t, .slice y.2.1.1 y.1.item.l.length y.2.1.2, .slice y.2.2.1.1 y.1.item.p.length y.2.2.1.2, .slice y.2.2.2.1 y.1.item.s.length y.2.2.2.2, .int .i64 y.1.til] 42) = Wc := ⟨_, rfl⟩
    have Bc : Below wb.heap.size wb Wc := hWc ▸ (Below.refl _ wb).alloc (Nat.le_refl _) _
    have AHc : Wc.heap[wb.heap.size]? = some (.cells (cellsE y).toArray 42 (0, 0)) := hWc ▸ allocY_new wb _
    have HIN := hide (insert_any B k a c l y wb.heap.size Wc (ownb.below Bc) (itb.below Bc) AHc (fun g o e => by have := hgaW1 g o e; omega) (Nat.le_trans (Nat.le_trans zBW1 zbb) Bc.size) hkl (by omega))
    have Bcc := Bb.trans (Bc.mono (Nat.le_trans zBW1 zbb))
    clear AHb AHc Bb Bc ownb itb z0W1 hgaW1 hkl
    go_wp2_with fail
    refine HIN.out.mono ?_
    rintro e wd ⟨V, rfl, hown, hbd⟩
    have HEND := hide (And.intro hown (Bcc.trans hbd))
    obtain ⟨ao, co, rfl⟩ := slice_ownY hown.row
    clear hown hbd HIN Bcc
    go_wp2_with fail
    refine bodyPost_ret (v := .tuple #[.slice ao (insE l k y).length co, .int .i64 0]) (by simp [results, Tryz.results224, go_sem]) rfl (⟨.inr ⟨by rw [List.length_map]; omega, _, insE l k y, rfl, ⟨⟨k, by rw [List.length_map]; exact HKS.out.1, insE_map l k y, HKS.out.2.1, HKS.out.2.2⟩⟩, HEND.out.1⟩, HEND.out.2⟩)
end Go.Proofs.YtmaancidkpfopaaGreatDoor

/- WALKS of spaces: Put. -/
namespace Go.Proofs.YtmaancidkpfopaaGreatDoor
open Go.RowKit

set_option maxRecDepth 100000 in
theorem goesKey_any (b : Nat) (key : ByteArray) (v : Value) (x : Ent) (W : World) (hc : W.cell? ⟨b, 0, none⟩ = some (.string key)) (h : EntIs W v x) :
    Calls Tryz.prog 223 #[v, .pointer (some ⟨b, 0, none⟩)] W fun e w' => e = .returned (.bool (decide (x.key = key))) ∧ Below W.heap.size W w' := by
  obtain ⟨a1, c1, a2, c2, a3, c3, rfl, hi⟩ := h
  clear hi
  obtain ⟨W1, hW1⟩ : ∃ W1, W.alloc (.cells #[.string x.key, .int .i64 x.item.k, .string x.item.t, .slice a1 x.item.l.length c1, .slice a2 x.item.p.length c2, .slice a3 x.item.s.length c3, .int .i64 x.til] 42) = W1 := ⟨_, rfl⟩
  have HB : Below W.heap.size W W1 := hW1 ▸ (Below.refl _ W).alloc (Nat.le_refl _) _
  have hc1 : W1.cell? ⟨b, 0, none⟩ = some (.string key) := (HB.cell (p := ⟨b, 0, none⟩) (World.block_lt_of_cell? _ _ hc)).trans hc
  have AH : W1.heap[W.heap.size]? = some (.cells #[.string x.key, .int .i64 x.item.k, .string x.item.t, .slice a1 x.item.l.length c1, .slice a2 x.item.p.length c2, .slice a3 x.item.s.length c3, .int .i64 x.til] 42 (0, 0)) := hW1 ▸ allocY_new W _
  have i0 : W1.cell? ⟨W.heap.size, 0, none⟩ = some (.string x.key) := by simp [World.cell?, AH]
  have hbq := beq_fdY x.key key
  clear hc AH
  generalize decide (x.key = key) = D at *
  go_enter Tryz.func223, Tryz.ntmps223
  go_wp2_with fail
  go_ret
  exact ⟨rfl, HB⟩
/-- those of other keys -/
def othersE (s : List Ent) (key : ByteArray) : List Ent := s.filter fun x => !decide (x.key = key)
def tilBad (now til : Int) : Bool := decide (til ≠ 0 ∧ (til ≤ now ∨ 1000000 < til))
/-- what is wrong with what is put -/
def putErr (s : List Ent) (now : Int) (key : ByteArray) (x : Itm) (til : Int) : Int :=
  if chkKey s now key ≠ 0 then chkKey s now key else if rightI x ≠ 0 then rightI x else if tilBad now til = true then 3 else 0
/-- what Put answers -/
def PutPost (s : List Ent) (now : Int) (key : ByteArray) (x : Itm) (til : Int) (w : World) (e : Ending) (w' : World) : Prop :=
  ((putErr s now key x til ≠ 0 ∧ e = .returned (.tuple #[.slice none 0 0, .int .i64 (putErr s now key x til)])) ∨
   (putErr s now key x til = 0 ∧ x.isNone = true ∧ ∃ V l, e = .returned (.tuple #[V, .int .i64 0]) ∧ l.map Prod.fst = othersE s key ∧ OwnSp w.heap.size w' V l) ∨
   (putErr s now key x til = 0 ∧ x.isNone = false ∧ 16 ≤ (roomE (othersE s key) now).length ∧ e = .returned (.tuple #[.slice none 0 0, .int .i64 2])) ∨
   (putErr s now key x til = 0 ∧ x.isNone = false ∧ (roomE (othersE s key) now).length < 16 ∧ ∃ V l, e = .returned (.tuple #[V, .int .i64 0]) ∧ PutAt (roomE (othersE s key) now) ⟨key, x, til⟩ (l.map Prod.fst) ∧ OwnSp w.heap.size w' V l)) ∧ Below w.heap.size w w'
theorem putPost_err {s : List Ent} {now : Int} {key : ByteArray} {x : Itm} {til E : Int} {w w' : World} (h : putErr s now key x til = E ∧ E ≠ 0) (hb : Below w.heap.size w w') :
    PutPost s now key x til w (.returned (.tuple #[.slice none 0 0, .int .i64 E])) w' := by
  obtain ⟨h1, h2⟩ := h
  unfold PutPost
  rw [h1]
  exact ⟨.inl ⟨h2, rfl⟩, hb⟩
theorem putPost_none {s : List Ent} {now : Int} {key : ByteArray} {x : Itm} {til : Int} {w w' : World} {V : Value} {l : List (Ent × Sls)} (h : putErr s now key x til = 0) (hn : x.isNone = true) (hm : l.map Prod.fst = othersE s key) (ho : OwnSp w.heap.size w' V l) (hb : Below w.heap.size w w') :
    PutPost s now key x til w (.returned (.tuple #[V, .int .i64 0])) w' := ⟨.inr (.inl ⟨h, hn, V, l, rfl, hm, ho⟩), hb⟩
theorem put_of_with {B : Nat} {s : List Ent} {now : Int} {key : ByteArray} {x : Itm} {til : Int} {w W w' : World} {e : Ending} (h : putErr s now key x til = 0) (hn : x.isNone = false)
    (hw : WithPost B (othersE s key) now ⟨key, x, til⟩ W e w') (hB : w.heap.size ≤ B) (hb : Below w.heap.size w W) :
    ∃ ao no co E, e = .returned (.tuple #[.slice ao no co, .int .i64 E]) ∧ PutPost s now key x til w (.returned (.tuple #[.slice ao no co, .int .i64 E])) w' := by
  obtain ⟨h1 | ⟨h1, V, l, rfl, h2, h3⟩, h4⟩ := hw
  · obtain ⟨h1, rfl⟩ := h1
    exact ⟨none, 0, 0, 2, rfl, .inr (.inr (.inl ⟨h, hn, h1, rfl⟩)), hb.trans (h4.mono hB)⟩
  · obtain ⟨ao, co, rfl⟩ := slice_ownY h3.row
    exact ⟨ao, l.length, co, 0, rfl, .inr (.inr (.inr ⟨h, hn, h1, _, l, rfl, h2, h3.low hB⟩)), hb.trans (h4.mono hB)⟩
set_option maxRecDepth 100000 in
set_option maxHeartbeats 4000000 in
theorem put_any (a : Option Addr) (c : Nat) (s : List Ent) (now : Int) (key : ByteArray) (v : Value) (x : Itm) (til : Int) (w : World) (hs : SpaceAt w a s) (hn : s.length ≤ 281474976710656) (hx : ItemIs w v x) :
    Calls Tryz.prog 161 #[.slice a s.length c, .int .i64 now, .string key, v, .int .i64 til] w (PutPost s now key x til w) := by
  obtain ⟨a1, c1, a2, c2, a3, c3, rfl, -, -, -⟩ := hx.ex
  obtain ⟨W1, hW1⟩ : ∃ W1, (w.alloc (.cells #[.string key] 9)).alloc (.cells #[.int .i64 x.k, .string x.t, .slice a1 x.l.length c1, .slice a2 x.p.length c2, .slice a3 x.s.length c3] 40) = W1 := ⟨_, rfl⟩
  have B1 : Below w.heap.size w W1 := hW1 ▸ ((Below.refl _ w).alloc (Nat.le_refl _) _).alloc (by simp) _
  have KW1 : W1.heap[w.heap.size]? = some (.cells #[.string key] 9 (0, 0)) := by
    rw [← hW1]
    have h1 := allocY_new w (.cells #[.string key] 9)
    exact (((Below.refl _ _).alloc (Nat.le_refl _) _ : Below _ _ _).block _ (Array.getElem?_eq_some_iff.1 h1).1).trans h1
  have XW1 : W1.heap[w.heap.size + 1]? = some (.cells #[.int .i64 x.k, .string x.t, .slice a1 x.l.length c1, .slice a2 x.p.length c2, .slice a3 x.s.length c3] 40 (0, 0)) := by
    rw [← hW1]
    have h1 := allocY_new (w.alloc (.cells #[.string key] 9)) (.cells #[.int .i64 x.k, .string x.t, .slice a1 x.l.length c1, .slice a2 x.p.length c2, .slice a3 x.s.length c3] 40)
    rwa [World.size_alloc] at h1
  have BW1 := B1
  have zkW1 : w.heap.size < W1.heap.size := (Array.getElem?_eq_some_iff.1 KW1).1
  have zxW1 : w.heap.size + 1 < W1.heap.size := (Array.getElem?_eq_some_iff.1 XW1).1
  have HC : Hid (∀ W, Below w.heap.size w W → Calls Tryz.prog 221 #[.slice a s.length c, .int .i64 now, .string key] W fun e w' => e = .returned (.int .i64 (chkKey s now key)) ∧ Below W.heap.size W w') := fun W hW => checkKey_any a c s now key W (hs.below hW) (by omega)
  have HR : Hid (∀ W, Below w.heap.size w W → Calls Tryz.prog 195 #[.agg #[.int .i64 x.k, .string x.t, .slice a1 x.l.length c1, .slice a2 x.p.length c2, .slice a3 x.s.length c3]] W fun e w' => e = .returned (.int .i64 (rightI x)) ∧ Below W.heap.size W w') := fun W hW => right_any _ x W (hx.below hW)
  have jk : W1.cell? ⟨w.heap.size, 0, none⟩ = some (.string key) := by simp [World.cell?, KW1]
  by_cases h0 : chkKey s now key = 0
  · rw [h0] at HC
    by_cases h1 : rightI x = 0
    · rw [h1] at HR
      by_cases h2 : tilBad now til = true
      · have hE : putErr s now key x til = 3 := by rw [putErr, if_neg (by simp [h0]), if_neg (by simp [h1]), if_pos h2]
        have HE := hide hE
        unfold tilBad at h2
        rw [decide_eq_true_eq] at h2
        obtain ⟨h3, h4⟩ := h2
        have h3' : (til != 0) = true := by simpa using h3
        clear hs hx hE h0 h1 h3
        by_cases h5 : til ≤ now
        · have h5' : decide (til ≤ now) = true := decide_eq_true h5
          clear h4 h5
          go_enter Tryz.func161, Tryz.ntmps161
          go_wp2_with fail
          refine (HC.out W1 B1).mono ?_
          rintro e w1 ⟨rfl, hb1⟩
          have Kw1 := (hb1.block _ zkW1).trans KW1
          have Xw1 := (hb1.block _ zxW1).trans XW1
          have Bw1 := BW1.trans (hb1.mono BW1.size)
          have zkw1 : w.heap.size < w1.heap.size := (Array.getElem?_eq_some_iff.1 Kw1).1
          have zxw1 : w.heap.size + 1 < w1.heap.size := (Array.getElem?_eq_some_iff.1 Xw1).1
          clear hb1 hW1
          have qk : w1.cell? ⟨w.heap.size, 0, none⟩ = some (.string key) := by simp [World.cell?, Kw1]
          have q0 : w1.cell? ⟨w.heap.size + 1, 0, none⟩ = some (.int .i64 x.k) := by simp [World.cell?, Xw1]
          have q1 : w1.cell? ⟨w.heap.size + 1, 1, none⟩ = some (.string x.t) := by simp [World.cell?, Xw1]
          have q2 : w1.cell? ⟨w.heap.size + 1, 2, none⟩ = some (.slice a1 x.l.length c1) := by simp [World.cell?, Xw1]
          have q3 : w1.cell? ⟨w.heap.size + 1, 3, none⟩ = some (.slice a2 x.p.length c2) := by simp [World.cell?, Xw1]
          have q4 : w1.cell? ⟨w.heap.size + 1, 4, none⟩ = some (.slice a3 x.s.length c3) := by simp [World.cell?, Xw1]
          go_wp2_with fail
          refine (HR.out w1 Bw1).mono ?_
          rintro e w2 ⟨rfl, hb2⟩
          have Kw2 := (hb2.block _ zkw1).trans Kw1
          have Xw2 := (hb2.block _ zxw1).trans Xw1
          have Bw2 := Bw1.trans (hb2.mono Bw1.size)
          have zkw2 : w.heap.size < w2.heap.size := (Array.getElem?_eq_some_iff.1 Kw2).1
          have zxw2 : w.heap.size + 1 < w2.heap.size := (Array.getElem?_eq_some_iff.1 Xw2).1
          clear hb2 qk q0 q1 q2 q3 q4
          go_wp2_with fail
          refine bodyPost_ret (v := .tuple #[.slice none 0 0, .int .i64 3]) (by simp [results, Tryz.results161, go_sem]) rfl (putPost_err ⟨HE.out, by decide⟩ Bw2)
        · have h6 : decide (1000000 < til) = true := decide_eq_true (by rcases h4 with h | h <;> omega)
          have h5' : decide (til ≤ now) = false := decide_eq_false h5
          clear h4 h5
          go_enter Tryz.func161, Tryz.ntmps161
          go_wp2_with fail
          refine (HC.out W1 B1).mono ?_
          rintro e w1 ⟨rfl, hb1⟩
          have Kw1 := (hb1.block _ zkW1).trans KW1
          have Xw1 := (hb1.block _ zxW1).trans XW1
          have Bw1 := BW1.trans (hb1.mono BW1.size)
          have zkw1 : w.heap.size < w1.heap.size := (Array.getElem?_eq_some_iff.1 Kw1).1
          have zxw1 : w.heap.size + 1 < w1.heap.size := (Array.getElem?_eq_some_iff.1 Xw1).1
          clear hb1 hW1
          have qk : w1.cell? ⟨w.heap.size, 0, none⟩ = some (.string key) := by simp [World.cell?, Kw1]
          have q0 : w1.cell? ⟨w.heap.size + 1, 0, none⟩ = some (.int .i64 x.k) := by simp [World.cell?, Xw1]
          have q1 : w1.cell? ⟨w.heap.size + 1, 1, none⟩ = some (.string x.t) := by simp [World.cell?, Xw1]
          have q2 : w1.cell? ⟨w.heap.size + 1, 2, none⟩ = some (.slice a1 x.l.length c1) := by simp [World.cell?, Xw1]
          have q3 : w1.cell? ⟨w.heap.size + 1, 3, none⟩ = some (.slice a2 x.p.length c2) := by simp [World.cell?, Xw1]
          have q4 : w1.cell? ⟨w.heap.size + 1, 4, none⟩ = some (.slice a3 x.s.length c3) := by simp [World.cell?, Xw1]
          go_wp2_with fail
          refine (HR.out w1 Bw1).mono ?_
          rintro e w2 ⟨rfl, hb2⟩
          have Kw2 := (hb2.block _ zkw1).trans Kw1
          have Xw2 := (hb2.block _ zxw1).trans Xw1
          have Bw2 := Bw1.trans (hb2.mono Bw1.size)
          have zkw2 : w.heap.size < w2.heap.size := (Array.getElem?_eq_some_iff.1 Kw2).1
          have zxw2 : w.heap.size + 1 < w2.heap.size := (Array.getElem?_eq_some_iff.1 Xw2).1
          clear hb2 qk q0 q1 q2 q3 q4
          go_wp2_with fail
          refine bodyPost_ret (v := .tuple #[.slice none 0 0, .int .i64 3]) (by simp [results, Tryz.results161, go_sem]) rfl (putPost_err ⟨HE.out, by decide⟩ Bw2)
      · have hE : putErr s now key x til = 0 := by rw [putErr, if_neg (by simp [h0]), if_neg (by simp [h1]), if_neg h2]
        have hn2 := small_key h0
        have hf := fits_sp (s := s) (by
          unfold chkKey chkAt at h0
          by_cases hq : chkSp s = 0
          · exact hq
          · rw [if_pos (show (if chkSp s ≠ 0 then chkSp s else _) ≠ 0 by rw [if_pos hq]; exact hq), if_pos hq] at h0
            exact h0)
        have HSP := hide (spRight (s := s) (by
          unfold chkKey chkAt at h0
          by_cases hq : chkSp s = 0
          · exact hq
          · rw [if_pos (show (if chkSp s ≠ 0 then chkSp s else _) ≠ 0 by rw [if_pos hq]; exact hq), if_pos hq] at h0
            exact h0))
        have hxf := (sizedI h1).fits
        have HWO : Hid (∀ W, Below w.heap.size w W → W.cell? ⟨w.heap.size, 0, none⟩ = some (.string key) → Calls Tryz.prog 222 #[.slice a s.length c, .func (.func 223) #[] #[.pointer (some ⟨w.heap.size, 0, none⟩)]] W fun e w' => ∃ V l, e = .returned V ∧ l.map Prod.fst = othersE s key ∧ OwnSp W.heap.size w' V l ∧ Below W.heap.size W w') := fun W hW hc =>
          without_put w.heap.size (fun x => decide (x.key = key)) a c s W (hs.below hW) hn2 hf (fun y _ v W2 hW2 hv => goesKey_any w.heap.size key v y W2 ((hW2.cell (p := ⟨w.heap.size, 0, none⟩) (World.block_lt_of_cell? _ _ hc)).trans hc) hv)
        have HN : Hid (∀ W, Calls Tryz.prog 160 #[.agg #[.int .i64 x.k, .string x.t, .slice a1 x.l.length c1, .slice a2 x.p.length c2, .slice a3 x.s.length c3]] W fun e w' => e = .returned (.bool x.isNone) ∧ Below W.heap.size W w') := fun W => by rw [← isNone_len]; exact isNothing_any x.k x.t a1 a2 a3 x.l.length x.p.length x.s.length c1 c2 c3 W
        have HP : Hid (∀ W, Below w.heap.size w W → Calls Tryz.prog 26 #[.agg #[.int .i64 x.k, .string x.t, .slice a1 x.l.length c1, .slice a2 x.p.length c2, .slice a3 x.s.length c3]] W fun e w' => ∃ v', e = .returned v' ∧ OwnItem W.heap.size w' v' x ∧ Below W.heap.size W w') := fun W hW => copy_any _ x W (hx.below hW) hxf.1 hxf.2.1 hxf.2.2
        have HX1 := hide h1
        have HE := hide hE
        have ht : til = 0 ∨ ((til != 0) = true ∧ decide (til ≤ now) = false ∧ decide (1000000 < til) = false) := by
          unfold tilBad at h2
          rw [decide_eq_true_eq] at h2
          by_cases h5 : til = 0
          · exact .inl h5
          · exact .inr ⟨by simpa using h5, decide_eq_false (by omega), decide_eq_false (by omega)⟩
        clear hs hx hE h0 h1 h2 hf hxf hn2
        obtain ⟨O, hO⟩ : ∃ O, othersE s key = O := ⟨_, rfl⟩
        rw [hO] at HWO
        have HO := hide hO
        clear hO
        obtain ⟨NN, hNN⟩ : ∃ NN, x.isNone = NN := ⟨_, rfl⟩
        rw [hNN] at HN
        have HNN := hide hNN
        clear hNN
        rcases ht with rfl | ⟨ht1, ht2, ht3⟩
        · go_enter Tryz.func161, Tryz.ntmps161
          go_wp2_with fail
          refine (HC.out W1 B1).mono ?_
          rintro e w1 ⟨rfl, hb1⟩
          have Kw1 := (hb1.block _ zkW1).trans KW1
          have Xw1 := (hb1.block _ zxW1).trans XW1
          have Bw1 := BW1.trans (hb1.mono BW1.size)
          have zkw1 : w.heap.size < w1.heap.size := (Array.getElem?_eq_some_iff.1 Kw1).1
          have zxw1 : w.heap.size + 1 < w1.heap.size := (Array.getElem?_eq_some_iff.1 Xw1).1
          clear hb1 hW1
          have qk : w1.cell? ⟨w.heap.size, 0, none⟩ = some (.string key) := by simp [World.cell?, Kw1]
          have q0 : w1.cell? ⟨w.heap.size + 1, 0, none⟩ = some (.int .i64 x.k) := by simp [World.cell?, Xw1]
          have q1 : w1.cell? ⟨w.heap.size + 1, 1, none⟩ = some (.string x.t) := by simp [World.cell?, Xw1]
          have q2 : w1.cell? ⟨w.heap.size + 1, 2, none⟩ = some (.slice a1 x.l.length c1) := by simp [World.cell?, Xw1]
          have q3 : w1.cell? ⟨w.heap.size + 1, 3, none⟩ = some (.slice a2 x.p.length c2) := by simp [World.cell?, Xw1]
          have q4 : w1.cell? ⟨w.heap.size + 1, 4, none⟩ = some (.slice a3 x.s.length c3) := by simp [World.cell?, Xw1]
          go_wp2_with fail
          refine (HR.out w1 Bw1).mono ?_
          rintro e w2 ⟨rfl, hb2⟩
          have Kw2 := (hb2.block _ zkw1).trans Kw1
          have Xw2 := (hb2.block _ zxw1).trans Xw1
          have Bw2 := Bw1.trans (hb2.mono Bw1.size)
          have zkw2 : w.heap.size < w2.heap.size := (Array.getElem?_eq_some_iff.1 Kw2).1
          have zxw2 : w.heap.size + 1 < w2.heap.size := (Array.getElem?_eq_some_iff.1 Xw2).1
          clear hb2 qk q0 q1 q2 q3 q4
          have rk : w2.cell? ⟨w.heap.size, 0, none⟩ = some (.string key) := by simp [World.cell?, Kw2]
          have r0 : w2.cell? ⟨w.heap.size + 1, 0, none⟩ = some (.int .i64 x.k) := by simp [World.cell?, Xw2]
          have r1 : w2.cell? ⟨w.heap.size + 1, 1, none⟩ = some (.string x.t) := by simp [World.cell?, Xw2]
          have r2 : w2.cell? ⟨w.heap.size + 1, 2, none⟩ = some (.slice a1 x.l.length c1) := by simp [World.cell?, Xw2]
          have r3 : w2.cell? ⟨w.heap.size + 1, 3, none⟩ = some (.slice a2 x.p.length c2) := by simp [World.cell?, Xw2]
          have r4 : w2.cell? ⟨w.heap.size + 1, 4, none⟩ = some (.slice a3 x.s.length c3) := by simp [World.cell?, Xw2]
          go_wp2_with fail
          refine (HWO.out w2 Bw2 rk).mono ?_
          rintro e w3 ⟨V3, l3, rfl, hm3, ho3, hb3⟩
          obtain ⟨a9, c9, rfl⟩ := slice_ownY ho3.row
          have Kw3 := (hb3.block _ zkw2).trans Kw2
          have Xw3 := (hb3.block _ zxw2).trans Xw2
          have Bw3 := Bw2.trans (hb3.mono Bw2.size)
          have zkw3 : w.heap.size < w3.heap.size := (Array.getElem?_eq_some_iff.1 Kw3).1
          have zxw3 : w.heap.size + 1 < w3.heap.size := (Array.getElem?_eq_some_iff.1 Xw3).1
          have zB3 := hb3.size
          have HM := hide hm3
          clear hb3 rk r0 r1 r2 r3 r4 hm3
          have s0 : w3.cell? ⟨w.heap.size + 1, 0, none⟩ = some (.int .i64 x.k) := by simp [World.cell?, Xw3]
          have s1 : w3.cell? ⟨w.heap.size + 1, 1, none⟩ = some (.string x.t) := by simp [World.cell?, Xw3]
          have s2 : w3.cell? ⟨w.heap.size + 1, 2, none⟩ = some (.slice a1 x.l.length c1) := by simp [World.cell?, Xw3]
          have s3 : w3.cell? ⟨w.heap.size + 1, 3, none⟩ = some (.slice a2 x.p.length c2) := by simp [World.cell?, Xw3]
          have s4 : w3.cell? ⟨w.heap.size + 1, 4, none⟩ = some (.slice a3 x.s.length c3) := by simp [World.cell?, Xw3]
          go_wp2_with fail
          refine (HN.out w3).mono ?_
          rintro e w4 ⟨rfl, hb4⟩
          have ho4 := ho3.below hb4
          have Kw4 := (hb4.block _ zkw3).trans Kw3
          have Xw4 := (hb4.block _ zxw3).trans Xw3
          have Bw4 := Bw3.trans (hb4.mono Bw3.size)
          have zkw4 : w.heap.size < w4.heap.size := (Array.getElem?_eq_some_iff.1 Kw4).1
          have zxw4 : w.heap.size + 1 < w4.heap.size := (Array.getElem?_eq_some_iff.1 Xw4).1
          have zB4 := Nat.le_trans zB3 hb4.size
          clear hb4 s0 s1 s2 s3 s4 ho3 HC HR HWO HN
          cases NN with
          | true =>
            have HEND : Hid (OwnSp w.heap.size w4 (.slice a9 l3.length c9) l3) := ho4.low Bw2.size
            clear ho4
            go_wp2_with fail
            refine bodyPost_ret (v := .tuple #[.slice a9 l3.length c9, .int .i64 0]) (by simp [results, Tryz.results161, go_sem]) rfl (putPost_none HE.out HNN.out (HM.out.trans HO.out.symm) HEND.out Bw4)
          | false =>
            have HWI : Hid (∀ (b1 : Option Addr) (d1 : Nat) (b2 : Option Addr) (d2 : Nat) (b3 : Option Addr) (d3 : Nat) (W : World), Below w4.heap.size w4 W → OwnItem w4.heap.size W (.agg #[.int .i64 x.k, .string x.t, .slice b1 x.l.length d1, .slice b2 x.p.length d2, .slice b3 x.s.length d3]) x → Calls Tryz.prog 224 #[.slice a9 l3.length c9, .int .i64 now, .agg #[.string key, .int .i64 x.k, .string x.t, .slice b1 x.l.length d1, .slice b2 x.p.length d2, .slice b3 x.s.length d3, .int .i64 0]] W fun e w' => (∃ ao no co E, e = .returned (.tuple #[.slice ao no co, .int .i64 E]) ∧ Hid (PutPost s now key x 0 w (.returned (.tuple #[.slice ao no co, .int .i64 E])) w')) ∧ Below w2.heap.size W w') := fun b1 d1 b2 d2 b3 d3 W hW ho => by
              have hsp := HSP.out
              have hO := HO.out
              have hm := HM.out
              have hsub : ∀ y ∈ O, y ∈ s := fun y hy => by rw [← hO] at hy; exact (List.mem_filter.1 hy).1
              have hlen : l3.length ≤ 16 := by
                have e1 := congrArg List.length hm
                have e2 := List.length_filter_le (fun y : Ent => !decide (y.key = key)) s
                have e3 := hsp.n
                rw [List.length_map, ← hO] at e1
                unfold othersE at e1
                omega
              have := with_any w2.heap.size a9 c9 l3 now (⟨key, x, 0⟩, ((b1, d1), (b2, d2), (b3, d3))) W (ho4.below hW) (fun z hz => chk_rightI (chkE_right (hsp.e z.1 (hsub _ (hm ▸ List.mem_map.2 ⟨z, hz, rfl⟩)))).2.1) (by rw [hm, ← hO]; exact hsp.r.filter _) (ho.low zB4) (Nat.le_trans zB4 hW.size) (by omega)
              rw [hm, ← hO] at this
              refine this.mono (fun e w' h => ⟨?_, h.2⟩)
              exact put_of_with HE.out HNN.out h Bw2.size (Bw4.trans (hW.mono Bw4.size))
            have HBX : Hid (∀ W, Below w2.heap.size w4 W → W.cell? ⟨w.heap.size, 0, none⟩ = some (.string key) ∧ W.cell? ⟨w.heap.size + 1, 0, none⟩ = some (.int .i64 x.k) ∧ W.cell? ⟨w.heap.size + 1, 1, none⟩ = some (.string x.t) ∧ W.cell? ⟨w.heap.size + 1, 2, none⟩ = some (.slice a1 x.l.length c1) ∧ W.cell? ⟨w.heap.size + 1, 3, none⟩ = some (.slice a2 x.p.length c2) ∧ W.cell? ⟨w.heap.size + 1, 4, none⟩ = some (.slice a3 x.s.length c3)) := fun W hW => by
              have g1 := (hW.block _ zkw2).trans Kw4
              have g2 := (hW.block _ zxw2).trans Xw4
              exact ⟨by simp [World.cell?, g1], by simp [World.cell?, g2], by simp [World.cell?, g2], by simp [World.cell?, g2], by simp [World.cell?, g2], by simp [World.cell?, g2]⟩
            have HPX := hide (HP.out w4.drew Bw4.drew)
            obtain ⟨sk, s0, s1, s2, s3, s4⟩ := HBX.out w4 (Below.refl _ _)
            clear HP Kw4 Xw4 zkw4 zxw4 zkw2 zxw2 Kw2 Xw2 Kw3 Xw3 Kw1 Xw1 KW1 XW1 zkW1 zxW1 zkw1 zxw1 zkw3 zxw3
            go_wp2_with fail
            go_region_held3 (fun w' => w'.cell? ⟨w.heap.size, 0, none⟩ = some (.string key) ∧ w'.cell? ⟨w.heap.size + 1, 0, none⟩ = some (.int .i64 x.k) ∧ w'.cell? ⟨w.heap.size + 1, 1, none⟩ = some (.string x.t) ∧ w'.cell? ⟨w.heap.size + 1, 2, none⟩ = some (.slice a1 x.l.length c1) ∧ w'.cell? ⟨w.heap.size + 1, 3, none⟩ = some (.slice a2 x.p.length c2) ∧ w'.cell? ⟨w.heap.size + 1, 4, none⟩ = some (.slice a3 x.s.length c3)) (go_keep)
              ((first | (go_at_call 26; refine HPX.out.mono ?_; rintro e w5 ⟨v5, rfl, ho5, hb5⟩; obtain ⟨b1, d1, b2, d2, b3, d3, rfl, -⟩ := id ho5; have hb5' : Below w4.heap.size w4 w5 := ⟨hb5.os, hb5.tape, hb5.output, hb5.size, hb5.block⟩; obtain ⟨tk, t0, t1, t2, t3, t4⟩ := HBX.out w5 (hb5'.mono zB4)) | (go_at_call 224; refine (HWI.out b1 d1 b2 d2 b3 d3 w5 hb5' ho5).mono ?_; rintro e w6 ⟨⟨ao, no, co, E, rfl, hfin⟩, hb6⟩; obtain ⟨uk, u0, u1, u2, u3, u4⟩ := HBX.out w6 ((hb5'.mono zB4).trans hb6))))
            all_goals
              go_wp2_with fail
              refine bodyPost_ret (v := .tuple #[.slice ao no co, .int .i64 E]) (by simp [results, Tryz.results161, go_sem]) rfl hfin.out
        · go_enter Tryz.func161, Tryz.ntmps161
          go_wp2_with fail
          refine (HC.out W1 B1).mono ?_
          rintro e w1 ⟨rfl, hb1⟩
          have Kw1 := (hb1.block _ zkW1).trans KW1
          have Xw1 := (hb1.block _ zxW1).trans XW1
          have Bw1 := BW1.trans (hb1.mono BW1.size)
          have zkw1 : w.heap.size < w1.heap.size := (Array.getElem?_eq_some_iff.1 Kw1).1
          have zxw1 : w.heap.size + 1 < w1.heap.size := (Array.getElem?_eq_some_iff.1 Xw1).1
          clear hb1 hW1
          have qk : w1.cell? ⟨w.heap.size, 0, none⟩ = some (.string key) := by simp [World.cell?, Kw1]
          have q0 : w1.cell? ⟨w.heap.size + 1, 0, none⟩ = some (.int .i64 x.k) := by simp [World.cell?, Xw1]
          have q1 : w1.cell? ⟨w.heap.size + 1, 1, none⟩ = some (.string x.t) := by simp [World.cell?, Xw1]
          have q2 : w1.cell? ⟨w.heap.size + 1, 2, none⟩ = some (.slice a1 x.l.length c1) := by simp [World.cell?, Xw1]
          have q3 : w1.cell? ⟨w.heap.size + 1, 3, none⟩ = some (.slice a2 x.p.length c2) := by simp [World.cell?, Xw1]
          have q4 : w1.cell? ⟨w.heap.size + 1, 4, none⟩ = some (.slice a3 x.s.length c3) := by simp [World.cell?, Xw1]
          go_wp2_with fail
          refine (HR.out w1 Bw1).mono ?_
          rintro e w2 ⟨rfl, hb2⟩
          have Kw2 := (hb2.block _ zkw1).trans Kw1
          have Xw2 := (hb2.block _ zxw1).trans Xw1
          have Bw2 := Bw1.trans (hb2.mono Bw1.size)
          have zkw2 : w.heap.size < w2.heap.size := (Array.getElem?_eq_some_iff.1 Kw2).1
          have zxw2 : w.heap.size + 1 < w2.heap.size := (Array.getElem?_eq_some_iff.1 Xw2).1
          clear hb2 qk q0 q1 q2 q3 q4
          have rk : w2.cell? ⟨w.heap.size, 0, none⟩ = some (.string key) := by simp [World.cell?, Kw2]
          have r0 : w2.cell? ⟨w.heap.size + 1, 0, none⟩ = some (.int .i64 x.k) := by simp [World.cell?, Xw2]
          have r1 : w2.cell? ⟨w.heap.size + 1, 1, none⟩ = some (.string x.t) := by simp [World.cell?, Xw2]
          have r2 : w2.cell? ⟨w.heap.size + 1, 2, none⟩ = some (.slice a1 x.l.length c1) := by simp [World.cell?, Xw2]
          have r3 : w2.cell? ⟨w.heap.size + 1, 3, none⟩ = some (.slice a2 x.p.length c2) := by simp [World.cell?, Xw2]
          have r4 : w2.cell? ⟨w.heap.size + 1, 4, none⟩ = some (.slice a3 x.s.length c3) := by simp [World.cell?, Xw2]
          go_wp2_with fail
          refine (HWO.out w2 Bw2 rk).mono ?_
          rintro e w3 ⟨V3, l3, rfl, hm3, ho3, hb3⟩
          obtain ⟨a9, c9, rfl⟩ := slice_ownY ho3.row
          have Kw3 := (hb3.block _ zkw2).trans Kw2
          have Xw3 := (hb3.block _ zxw2).trans Xw2
          have Bw3 := Bw2.trans (hb3.mono Bw2.size)
          have zkw3 : w.heap.size < w3.heap.size := (Array.getElem?_eq_some_iff.1 Kw3).1
          have zxw3 : w.heap.size + 1 < w3.heap.size := (Array.getElem?_eq_some_iff.1 Xw3).1
          have zB3 := hb3.size
          have HM := hide hm3
          clear hb3 rk r0 r1 r2 r3 r4 hm3
          have s0 : w3.cell? ⟨w.heap.size + 1, 0, none⟩ = some (.int .i64 x.k) := by simp [World.cell?, Xw3]
          have s1 : w3.cell? ⟨w.heap.size + 1, 1, none⟩ = some (.string x.t) := by simp [World.cell?, Xw3]
          have s2 : w3.cell? ⟨w.heap.size + 1, 2, none⟩ = some (.slice a1 x.l.length c1) := by simp [World.cell?, Xw3]
          have s3 : w3.cell? ⟨w.heap.size + 1, 3, none⟩ = some (.slice a2 x.p.length c2) := by simp [World.cell?, Xw3]
          have s4 : w3.cell? ⟨w.heap.size + 1, 4, none⟩ = some (.slice a3 x.s.length c3) := by simp [World.cell?, Xw3]
          go_wp2_with fail
          refine (HN.out w3).mono ?_
          rintro e w4 ⟨rfl, hb4⟩
          have ho4 := ho3.below hb4
          have Kw4 := (hb4.block _ zkw3).trans Kw3
          have Xw4 := (hb4.block _ zxw3).trans Xw3
          have Bw4 := Bw3.trans (hb4.mono Bw3.size)
          have zkw4 : w.heap.size < w4.heap.size := (Array.getElem?_eq_some_iff.1 Kw4).1
          have zxw4 : w.heap.size + 1 < w4.heap.size := (Array.getElem?_eq_some_iff.1 Xw4).1
          have zB4 := Nat.le_trans zB3 hb4.size
          clear hb4 s0 s1 s2 s3 s4 ho3 HC HR HWO HN
          cases NN with
          | true =>
            have HEND : Hid (OwnSp w.heap.size w4 (.slice a9 l3.length c9) l3) := ho4.low Bw2.size
            clear ho4
            go_wp2_with fail
            refine bodyPost_ret (v := .tuple #[.slice a9 l3.length c9, .int .i64 0]) (by simp [results, Tryz.results161, go_sem]) rfl (putPost_none HE.out HNN.out (HM.out.trans HO.out.symm) HEND.out Bw4)
          | false =>
            have HWI : Hid (∀ (b1 : Option Addr) (d1 : Nat) (b2 : Option Addr) (d2 : Nat) (b3 : Option Addr) (d3 : Nat) (W : World), Below w4.heap.size w4 W → OwnItem w4.heap.size W (.agg #[.int .i64 x.k, .string x.t, .slice b1 x.l.length d1, .slice b2 x.p.length d2, .slice b3 x.s.length d3]) x → Calls Tryz.prog 224 #[.slice a9 l3.length c9, .int .i64 now, .agg #[.string key, .int .i64 x.k, .string x.t, .slice b1 x.l.length d1, .slice b2 x.p.length d2, .slice b3 x.s.length d3, .int .i64 til]] W fun e w' => (∃ ao no co E, e = .returned (.tuple #[.slice ao no co, .int .i64 E]) ∧ Hid (PutPost s now key x til w (.returned (.tuple #[.slice ao no co, .int .i64 E])) w')) ∧ Below w2.heap.size W w') := fun b1 d1 b2 d2 b3 d3 W hW ho => by
              have hsp := HSP.out
              have hO := HO.out
              have hm := HM.out
              have hsub : ∀ y ∈ O, y ∈ s := fun y hy => by rw [← hO] at hy; exact (List.mem_filter.1 hy).1
              have hlen : l3.length ≤ 16 := by
                have e1 := congrArg List.length hm
                have e2 := List.length_filter_le (fun y : Ent => !decide (y.key = key)) s
                have e3 := hsp.n
                rw [List.length_map, ← hO] at e1
                unfold othersE at e1
                omega
              have := with_any w2.heap.size a9 c9 l3 now (⟨key, x, til⟩, ((b1, d1), (b2, d2), (b3, d3))) W (ho4.below hW) (fun z hz => chk_rightI (chkE_right (hsp.e z.1 (hsub _ (hm ▸ List.mem_map.2 ⟨z, hz, rfl⟩)))).2.1) (by rw [hm, ← hO]; exact hsp.r.filter _) (ho.low zB4) (Nat.le_trans zB4 hW.size) (by omega)
              rw [hm, ← hO] at this
              refine this.mono (fun e w' h => ⟨?_, h.2⟩)
              exact put_of_with HE.out HNN.out h Bw2.size (Bw4.trans (hW.mono Bw4.size))
            have HBX : Hid (∀ W, Below w2.heap.size w4 W → W.cell? ⟨w.heap.size, 0, none⟩ = some (.string key) ∧ W.cell? ⟨w.heap.size + 1, 0, none⟩ = some (.int .i64 x.k) ∧ W.cell? ⟨w.heap.size + 1, 1, none⟩ = some (.string x.t) ∧ W.cell? ⟨w.heap.size + 1, 2, none⟩ = some (.slice a1 x.l.length c1) ∧ W.cell? ⟨w.heap.size + 1, 3, none⟩ = some (.slice a2 x.p.length c2) ∧ W.cell? ⟨w.heap.size + 1, 4, none⟩ = some (.slice a3 x.s.length c3)) := fun W hW => by
              have g1 := (hW.block _ zkw2).trans Kw4
              have g2 := (hW.block _ zxw2).trans Xw4
              exact ⟨by simp [World.cell?, g1], by simp [World.cell?, g2], by simp [World.cell?, g2], by simp [World.cell?, g2], by simp [World.cell?, g2], by simp [World.cell?, g2]⟩
            have HPX := hide (HP.out w4.drew Bw4.drew)
            obtain ⟨sk, s0, s1, s2, s3, s4⟩ := HBX.out w4 (Below.refl _ _)
            clear HP Kw4 Xw4 zkw4 zxw4 zkw2 zxw2 Kw2 Xw2 Kw3 Xw3 Kw1 Xw1 KW1 XW1 zkW1 zxW1 zkw1 zxw1 zkw3 zxw3
            go_wp2_with fail
            go_region_held3 (fun w' => w'.cell? ⟨w.heap.size, 0, none⟩ = some (.string key) ∧ w'.cell? ⟨w.heap.size + 1, 0, none⟩ = some (.int .i64 x.k) ∧ w'.cell? ⟨w.heap.size + 1, 1, none⟩ = some (.string x.t) ∧ w'.cell? ⟨w.heap.size + 1, 2, none⟩ = some (.slice a1 x.l.length c1) ∧ w'.cell? ⟨w.heap.size + 1, 3, none⟩ = some (.slice a2 x.p.length c2) ∧ w'.cell? ⟨w.heap.size + 1, 4, none⟩ = some (.slice a3 x.s.length c3)) (go_keep)
              ((first | (go_at_call 26; refine HPX.out.mono ?_; rintro e w5 ⟨v5, rfl, ho5, hb5⟩; obtain ⟨b1, d1, b2, d2, b3, d3, rfl, -⟩ := id ho5; have hb5' : Below w4.heap.size w4 w5 := ⟨hb5.os, hb5.tape, hb5.output, hb5.size, hb5.block⟩; obtain ⟨tk, t0, t1, t2, t3, t4⟩ := HBX.out w5 (hb5'.mono zB4)) | (go_at_call 224; refine (HWI.out b1 d1 b2 d2 b3 d3 w5 hb5' ho5).mono ?_; rintro e w6 ⟨⟨ao, no, co, E, rfl, hfin⟩, hb6⟩; obtain ⟨uk, u0, u1, u2, u3, u4⟩ := HBX.out w6 ((hb5'.mono zB4).trans hb6))))
            all_goals
              go_wp2_with fail
              refine bodyPost_ret (v := .tuple #[.slice ao no co, .int .i64 E]) (by simp [results, Tryz.results161, go_sem]) rfl hfin.out
    · have hE : putErr s now key x til = rightI x := by rw [putErr, if_neg (by simp [h0]), if_pos h1]
      have h1' : (rightI x == 0) = false := by rw [beq_eq_false_iff_ne]; exact h1
      have H1 := hide h1
      have HE := hide hE
      clear hs hx hE h0 h1
      generalize rightI x = E at *
      go_enter Tryz.func161, Tryz.ntmps161
      go_wp2_with fail
      refine (HC.out W1 B1).mono ?_
      rintro e w1 ⟨rfl, hb1⟩
      have Kw1 := (hb1.block _ zkW1).trans KW1
      have Xw1 := (hb1.block _ zxW1).trans XW1
      have Bw1 := BW1.trans (hb1.mono BW1.size)
      have zkw1 : w.heap.size < w1.heap.size := (Array.getElem?_eq_some_iff.1 Kw1).1
      have zxw1 : w.heap.size + 1 < w1.heap.size := (Array.getElem?_eq_some_iff.1 Xw1).1
      clear hb1 hW1
      have qk : w1.cell? ⟨w.heap.size, 0, none⟩ = some (.string key) := by simp [World.cell?, Kw1]
      have q0 : w1.cell? ⟨w.heap.size + 1, 0, none⟩ = some (.int .i64 x.k) := by simp [World.cell?, Xw1]
      have q1 : w1.cell? ⟨w.heap.size + 1, 1, none⟩ = some (.string x.t) := by simp [World.cell?, Xw1]
      have q2 : w1.cell? ⟨w.heap.size + 1, 2, none⟩ = some (.slice a1 x.l.length c1) := by simp [World.cell?, Xw1]
      have q3 : w1.cell? ⟨w.heap.size + 1, 3, none⟩ = some (.slice a2 x.p.length c2) := by simp [World.cell?, Xw1]
      have q4 : w1.cell? ⟨w.heap.size + 1, 4, none⟩ = some (.slice a3 x.s.length c3) := by simp [World.cell?, Xw1]
      go_wp2_with fail
      refine (HR.out w1 Bw1).mono ?_
      rintro e w2 ⟨rfl, hb2⟩
      have Kw2 := (hb2.block _ zkw1).trans Kw1
      have Xw2 := (hb2.block _ zxw1).trans Xw1
      have Bw2 := Bw1.trans (hb2.mono Bw1.size)
      have zkw2 : w.heap.size < w2.heap.size := (Array.getElem?_eq_some_iff.1 Kw2).1
      have zxw2 : w.heap.size + 1 < w2.heap.size := (Array.getElem?_eq_some_iff.1 Xw2).1
      clear hb2 qk q0 q1 q2 q3 q4
      go_wp2_with fail
      refine bodyPost_ret (v := .tuple #[.slice none 0 0, .int .i64 E]) (by simp [results, Tryz.results161, go_sem]) rfl (putPost_err ⟨HE.out, H1.out⟩ Bw2)
  · have hE : putErr s now key x til = chkKey s now key := by rw [putErr, if_pos h0]
    have h0' : (chkKey s now key == 0) = false := by rw [beq_eq_false_iff_ne]; exact h0
    have H0 := hide h0
    have HE := hide hE
    clear hs hx hE h0 HR
    generalize chkKey s now key = E at *
    go_enter Tryz.func161, Tryz.ntmps161
    go_wp2_with fail
    refine (HC.out W1 B1).mono ?_
    rintro e w1 ⟨rfl, hb1⟩
    have Kw1 := (hb1.block _ zkW1).trans KW1
    have Xw1 := (hb1.block _ zxW1).trans XW1
    have Bw1 := BW1.trans (hb1.mono BW1.size)
    have zkw1 : w.heap.size < w1.heap.size := (Array.getElem?_eq_some_iff.1 Kw1).1
    have zxw1 : w.heap.size + 1 < w1.heap.size := (Array.getElem?_eq_some_iff.1 Xw1).1
    clear hb1 hW1
    go_wp2_with fail
    refine bodyPost_ret (v := .tuple #[.slice none 0 0, .int .i64 E]) (by simp [results, Tryz.results161, go_sem]) rfl (putPost_err ⟨HE.out, H0.out⟩ Bw1)
end Go.Proofs.YtmaancidkpfopaaGreatDoor

