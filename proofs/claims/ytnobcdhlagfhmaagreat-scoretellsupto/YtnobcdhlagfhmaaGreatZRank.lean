/- WALKS of scores: Rank, Number. -/
import Derived.Test.YtnobcdhlagfhmaaGreatZGet
import Derived.Test.YtnobcdhlagfhmaaGreatRIs
import Derived.Handy
namespace Go.Proofs.YtnobcdhlagfhmaaGreat.Z
open Go.RowKit Go.Maps Go.Shelf

def rankE (x : Itm) (f : ByteArray) : Int := if asI x 5 ≠ 0 then asI x 5 else if idxF (memIs f) x.s < 0 then 5 else 0
def rankN (x : Itm) (f : ByteArray) : Int := if rankE x f = 0 then idxF (memIs f) x.s else 0
def numN (x : Itm) (f : ByteArray) : Int := if rankE x f = 0 then (match lastS x.s f with | some p => p.1 | none => 0) else 0
theorem rank_found {x : Itm} {f : ByteArray} (h : rankE x f = 0) : ∃ i, ∃ hi : i < x.s.length, idxF (memIs f) x.s = i ∧ x.s[i].2 = f ∧ rankN x f = i ∧ numN x f = x.s[i].1 := by
  have h0 : asI x 5 = 0 := by
    by_cases h0 : asI x 5 = 0
    · exact h0
    · rw [rankE, if_pos h0] at h; exact h
  have hneg : ¬ idxF (memIs f) x.s < 0 := fun hn => by rw [rankE, if_neg (by simp [h0]), if_pos hn] at h; cases h
  obtain ⟨i, hi⟩ : ∃ i : Nat, idxF (memIs f) x.s = i := ⟨(idxF (memIs f) x.s).toNat, by omega⟩
  obtain ⟨h1, h2, -⟩ := idxF_at hi
  have hm : x.s[i].2 = f := by simpa [memIs] using h2
  have hl : lastS x.s f = some x.s[i] := by
    have := (lastS_once (asI_score h0).o (p := x.s[i])).2 (List.getElem_mem _)
    rwa [hm] at this
  exact ⟨i, h1, hi, hm, by rw [rankN, if_pos h, hi], by rw [numN, if_pos h, hl]⟩
set_option maxRecDepth 100000 in
set_option maxHeartbeats 2000000 in
theorem rank_any (v : Value) (x : Itm) (f : ByteArray) (w : World) (h : ItemIs w v x) :
    Calls Tryz.prog 7 #[v, .string f] w fun e w' => e = .returned (.tuple #[.int .i64 (rankN x f), .int .i64 (rankE x f)]) ∧ Below w.heap.size w w' := by
  have HI := hide h
  obtain ⟨⟨a1, c1, a2, c2, a3, c3, rfl, -, -, hx3⟩, -, -, -, -, -, -, -⟩ := h
  have HX := hide hx3
  have HC : Hid (∀ W, Below w.heap.size w W → Calls Tryz.prog 19 #[.agg #[.int .i64 x.k, .string x.t, .slice a1 x.l.length c1, .slice a2 x.p.length c2, .slice a3 x.s.length c3], .int .i64 5] W fun e w' => e = .returned (.int .i64 (asI x 5)) ∧ Below W.heap.size W w') := fun W hW => common_any _ x 5 W (HI.out.below hW)
  clear hx3 HI
  by_cases h0 : asI x 5 = 0
  · have h24 := (asI_score h0).n
    have eg : ∀ args w, (callFunc 28 args).run Tryz.prog w = .ok (.enter 28 args) w := enters_of Tryz.func28 (by kernel_rfl) rfl
    have HN : Hid (∀ W b, Below w.heap.size w W → W.cell? ⟨b, 0, none⟩ = some (.string f) → Calls Tryz.prog 27 #[.slice a3 x.s.length c3, .func (.func 28) #[] #[.pointer (some ⟨b, 0, none⟩)]] W fun e w' => e = .returned (.int .i64 (idxF (memIs f) x.s)) ∧ Below W.heap.size W w') := fun W b hW hb => idxP_any 28 #[.pointer (some ⟨b, 0, none⟩)] eg (memIs f) a3 c3 x.s W (HX.out.below hW) (by omega) (fun V y hV => (rankFn_any b f y V ((hV.cell (p := ⟨b, 0, none⟩) (World.block_lt_of_cell? _ _ hb)).trans hb)).mono fun e w' ⟨h1, h2⟩ => ⟨h1, hV.trans (h2.mono hV.size)⟩)
    rw [h0] at HC
    obtain ⟨GN, GE, hGN, hGE, HG⟩ : ∃ GN GE, GN = rankN x f ∧ GE = rankE x f ∧ Hid ((idxF (memIs f) x.s < 0 → GN = 0 ∧ GE = 5) ∧ (¬ idxF (memIs f) x.s < 0 → GN = idxF (memIs f) x.s ∧ GE = 0)) := by
      refine ⟨_, _, rfl, rfl, fun hn => ?_, fun hn => ?_⟩
      · have e : rankE x f = 5 := by rw [rankE, if_neg (by simp [h0]), if_pos hn]
        exact ⟨by rw [rankN, e, if_neg (by decide)], e⟩
      · have e : rankE x f = 0 := by rw [rankE, if_neg (by simp [h0]), if_neg hn]
        exact ⟨by rw [rankN, if_pos e], e⟩
    rw [← hGN, ← hGE]
    clear hGN hGE h0 h24 eg
    generalize idxF (memIs f) x.s = I at *
    go_enter Tryz.func7, Tryz.ntmps7
    go_wp2_with fail
    have C0 : Below w.heap.size w ((w.alloc (.cells #[.int .i64 x.k, .string x.t, .slice a1 x.l.length c1, .slice a2 x.p.length c2, .slice a3 x.s.length c3] 26)).alloc (.cells #[.string f] 9)) := ((Below.refl _ w).alloc (Nat.le_refl _) _).alloc (by simp) _
    refine (HC.out _ C0).mono ?_
    rintro e w1 ⟨rfl, hb1⟩
    have C1 := C0.trans (hb1.mono C0.size)
    obtain ⟨hc, hf⟩ := bcell hb1
    have hz : w.heap.size + 1 < w1.heap.size := by have := hb1.size; simp at this; omega
    have hz0 : w.heap.size < w1.heap.size := by omega
    have q2 : w1.cell? ⟨w.heap.size, 4, none⟩ = some (.slice a3 x.s.length c3) := (hc _ _ (by simp; omega)).trans (by simp [go_sem])
    have qf : w1.cell? ⟨w.heap.size + 1, 0, none⟩ = some (.string f) := (hc _ _ (by simp)).trans (by simp [go_sem])
    clear hc hf hb1
    go_wp2_with fail
    refine (HN.out _ _ C1 qf).mono ?_
    rintro e w2 ⟨rfl, hb2⟩
    have C2 := C1.trans (hb2.mono C1.size)
    by_cases hneg : I < 0
    · have HE := hide (HG.out.1 hneg)
      clear HG
      go_wp2_with fail
      refine bodyPost_ret (v := .tuple #[.int .i64 0, .int .i64 5]) (by simp [results, Tryz.results7, go_sem]) rfl ⟨?_, C2⟩
      rw [HE.out.1, HE.out.2]
    · have HE := hide (HG.out.2 (by omega))
      clear HG
      go_wp2_with fail
      refine bodyPost_ret (v := .tuple #[.int .i64 I, .int .i64 0]) (by simp [results, Tryz.results7, go_sem]) rfl ⟨?_, C2⟩
      rw [HE.out.1, HE.out.2]
  · have e : rankE x f = asI x 5 := by rw [rankE, if_pos h0]
    rw [rankN, e, if_neg h0]
    clear e
    have h0' : (asI x 5 == 0) = false := by rw [beq_eq_false_iff_ne]; exact h0
    generalize asI x 5 = E at *
    go_enter Tryz.func7, Tryz.ntmps7
    go_wp2_with fail
    have C0 : Below w.heap.size w ((w.alloc (.cells #[.int .i64 x.k, .string x.t, .slice a1 x.l.length c1, .slice a2 x.p.length c2, .slice a3 x.s.length c3] 26)).alloc (.cells #[.string f] 9)) := ((Below.refl _ w).alloc (Nat.le_refl _) _).alloc (by simp) _
    refine (HC.out _ C0).mono ?_
    rintro e w1 ⟨rfl, hb1⟩
    have C1 := C0.trans (hb1.mono C0.size)
    go_wp2_with fail
    refine bodyPost_ret (v := .tuple #[.int .i64 0, .int .i64 E]) (by simp [results, Tryz.results7, go_sem]) rfl ⟨rfl, C1⟩
set_option maxRecDepth 100000 in
set_option maxHeartbeats 2000000 in
theorem number_any (v : Value) (x : Itm) (f : ByteArray) (w : World) (h : ItemIs w v x) :
    Calls Tryz.prog 6 #[v, .string f] w fun e w' => e = .returned (.tuple #[.int .i64 (numN x f), .int .i64 (rankE x f)]) ∧ Below w.heap.size w w' := by
  have HR : Hid (∀ W, Below w.heap.size w W → Calls Tryz.prog 7 #[v, .string f] W fun e w' => e = .returned (.tuple #[.int .i64 (rankN x f), .int .i64 (rankE x f)]) ∧ Below W.heap.size W w') := fun W hW => rank_any v x f W (h.below hW)
  obtain ⟨⟨a1, c1, a2, c2, a3, c3, rfl, -, -, hx3⟩, -, -, -, -, -, -, -⟩ := h
  have HX := hide hx3
  clear hx3
  by_cases hE : rankE x f = 0
  · obtain ⟨i, hi, -, -, h1, h2⟩ := rank_found hE
    rw [hE, h1] at HR
    obtain ⟨g, o, rfl, hcs⟩ : ∃ g o, a3 = some ⟨g, o, none⟩ ∧ ∀ i (h : i < x.s.length), w.cell? ⟨g, o + i * 2, none⟩ = some (.int .i64 x.s[i].1) ∧ w.cell? ⟨g, o + i * 2 + 1, none⟩ = some (.string x.s[i].2) := by
      rcases HX.out with h | h
      · rw [h] at hi; simp at hi
      · exact h
    have d0 := (hcs i hi).1
    have hg := World.block_lt_of_cell? _ _ d0
    have hi' : ((i : Nat) : Int) < ((x.s.length : Nat) : Int) := by omega
    rw [hE, h2]
    clear hcs HX h1 h2 hE
    generalize x.s[i].1 = Z at *
    go_enter Tryz.func6, Tryz.ntmps6
    go_wp2_with fail
    have C0 : Below w.heap.size w (w.alloc (.cells #[.int .i64 x.k, .string x.t, .slice a1 x.l.length c1, .slice a2 x.p.length c2, .slice (some ⟨g, o, none⟩) x.s.length c3] 26)) := (Below.refl _ w).alloc (Nat.le_refl _) _
    refine (HR.out _ C0).mono ?_
    rintro e w1 ⟨rfl, hb1⟩
    have C1 := C0.trans (hb1.mono C0.size)
    obtain ⟨hc, hf⟩ := bcell hb1
    have q2 : w1.cell? ⟨w.heap.size, 4, none⟩ = some (.slice (some ⟨g, o, none⟩) x.s.length c3) := (hc _ _ (by simp)).trans (by simp [go_sem])
    have e0 := (C1.cell (p := ⟨g, o + i * 2, none⟩) hg).trans d0
    clear hc hf hb1 d0
    go_wp2_with fail
    refine bodyPost_ret (v := .tuple #[.int .i64 Z, .int .i64 0]) (by simp [results, Tryz.results6, go_sem]) rfl ⟨rfl, C1⟩
  · have e1 : numN x f = 0 := by rw [numN, if_neg hE]
    rw [e1]
    have hE' : (rankE x f == 0) = false := by rw [beq_eq_false_iff_ne]; exact hE
    clear e1 HX
    generalize rankE x f = E at *
    generalize rankN x f = N at *
    go_enter Tryz.func6, Tryz.ntmps6
    go_wp2_with fail
    have C0 : Below w.heap.size w (w.alloc (.cells #[.int .i64 x.k, .string x.t, .slice a1 x.l.length c1, .slice a2 x.p.length c2, .slice a3 x.s.length c3] 26)) := (Below.refl _ w).alloc (Nat.le_refl _) _
    refine (HR.out _ C0).mono ?_
    rintro e w1 ⟨rfl, hb1⟩
    have C1 := C0.trans (hb1.mono C0.size)
    go_wp2_with fail
    refine bodyPost_ret (v := .tuple #[.int .i64 0, .int .i64 E]) (by simp [results, Tryz.results6, go_sem]) rfl ⟨rfl, C1⟩
end Go.Proofs.YtnobcdhlagfhmaaGreat.Z
