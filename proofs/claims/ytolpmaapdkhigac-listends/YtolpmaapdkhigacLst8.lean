/- WALK of Remove. -/
import Derived.Test.YtolpmaapdkhigacLst1b
import Derived.Test.YtolpmaapdkhigacLst4
import Derived.BigRegion
import Derived.Handy
namespace Go.Proofs.Ytolpmaapdkhigac
open Go.RowKit

theorem lstI_l (l : List ByteArray) : (lstI l).l = l := by
  unfold lstI
  split
  · rename_i h; rw [h]; rfl
  · rfl
def remK (l : List ByteArray) (s : ByteArray) : List ByteArray := keptTo (fun _ t => decide (t = s)) l l.length
def remI (x : Itm) (s : ByteArray) : Itm := if asI x 2 = 0 then lstI (remK x.l s) else Itm.none
def remN (x : Itm) (s : ByteArray) : Int := if asI x 2 = 0 then ((x.l.length : Nat) : Int) - (((remK x.l s).length : Nat) : Int) else 0
set_option maxRecDepth 100000 in
set_option maxHeartbeats 4000000 in
theorem remove_any (v : Value) (x : Itm) (s : ByteArray) (w : World) (h : ItemIs w v x) :
    Calls Try.prog 9 #[v, .string s] w fun e w' => ∃ u, e = .returned (.tuple #[u, .int .i64 (remN x s), .int .i64 (asI x 2)]) ∧ ItemFrom w.heap.size w' u (remI x s) ∧ Below w.heap.size w w' := by
  have HC : Hid (∀ W, Below w.heap.size w W → Calls Try.prog 21 #[v, .int .i64 2] W fun e w' => e = .returned (.int .i64 (asI x 2)) ∧ Below W.heap.size W w') := fun W hW => common_any v x 2 W (h.below hW)
  obtain ⟨⟨a1, c1, a2, c2, a3, c3, rfl, hx1, -, -⟩, tz, lz, -, -, -, -, -⟩ := h
  have HX := hide hx1
  clear hx1
  by_cases h0 : asI x 2 = 0
  · obtain ⟨-, hx24, hxl⟩ := asI_list h0
    rw [remI, if_pos h0, remN, if_pos h0, h0, remK]
    rw [h0] at HC
    have HZ := hide lz
    clear h0 hxl lz
    generalize x.l = L at *
    have HW : Hid (∀ (b : Nat) (W : World), Below w.heap.size w W → W.cell? ⟨b, 0, none⟩ = some (.string s) → Calls Try.prog 25 #[.slice a1 L.length c1, .func (.func 29) #[] #[.pointer (some ⟨b, 0, none⟩)]] W fun e w' => ∃ v, e = .returned v ∧ ItemFrom W.heap.size w' v (lstI (keptTo (fun _ t => decide (t = s)) L L.length)) ∧ Below W.heap.size W w') := fun b W hW hc => withoutR_any b s a1 c1 L W (HX.out.below hW) (by omega) HZ.out hc
    have hkl := keptTo_len (fun _ t => decide (t = s)) L L.length
    have HLL : Hid ((lstI (keptTo (fun _ t => decide (t = s)) L L.length)).l.length = (keptTo (fun _ t => decide (t = s)) L L.length).length) := by rw [Hid, lstI_l]
    rw [← HLL.out]
    rw [← HLL.out] at hkl
    clear HLL
    generalize lstI (keptTo (fun _ t => decide (t = s)) L L.length) = KI at *
    generalize x.t = t at *
    generalize x.k = k at *
    generalize x.p.length = n2 at *
    generalize x.s.length = n3 at *
    go_enter Try.func9, Try.ntmps9
    go_wp2_with fail
    refine (HC.out _ ((((Below.refl _ w).alloc (Nat.le_refl _) _).alloc (by simp) _).alloc (by simp; omega) _)).mono ?_
    rintro e w1 ⟨rfl, hb1⟩
    obtain ⟨hc, hf⟩ := bcell hb1
    have hz : w.heap.size + 2 < w1.heap.size := by have := hb1.size; simp at this; omega
    have hB1 : Below w.heap.size w w1 := ((((Below.refl _ w).alloc (Nat.le_refl _) _).alloc (by simp) _).alloc (by simp; omega) _).trans (hb1.mono (by simp; omega))
    have y0 : w.heap.size < w1.heap.size := by omega
    have y1 : w.heap.size + 1 < w1.heap.size := by omega
    go_wp2_with fail
    refine (HW.out (w.heap.size + 1) _ hB1 ((hc _ _ (by simp)).trans (by simp [go_sem]))).mono ?_
    rintro e w2 ⟨u, rfl, hI, hb2⟩
    have B2 : Below w.heap.size w w2 := hB1.trans (hb2.mono hB1.size)
    have z2 := hb2.size
    have HI := hide hI
    obtain ⟨⟨i1, j1, i2, j2, i3, j3, rfl, -, -, -⟩, -, -, -, -, -, -, -⟩ := hI.is
    clear hI
    go_wp2_with fail
    generalize hW3 : World.alloc w2 _ = W3
    have A3 : Below w2.heap.size w2 W3 := by rw [← hW3]; exact (Below.refl _ _).alloc (Nat.le_refl _) _
    have AB : Below w1.heap.size w1 W3 := hb2.trans (A3.mono z2)
    have z3 : W3.heap.size = w2.heap.size + 1 := by rw [← hW3]; simp
    have u0 : W3.cell? ⟨w2.heap.size, 0, none⟩ = some (.int .i64 KI.k) := by rw [← hW3]; simp [go_sem]
    have u1 : W3.cell? ⟨w2.heap.size, 1, none⟩ = some (.string KI.t) := by rw [← hW3]; simp [go_sem]
    have u2 : W3.cell? ⟨w2.heap.size, 2, none⟩ = some (.slice i1 KI.l.length j1) := by rw [← hW3]; simp [go_sem]
    have u3 : W3.cell? ⟨w2.heap.size, 3, none⟩ = some (.slice i2 KI.p.length j2) := by rw [← hW3]; simp [go_sem]
    have u4 : W3.cell? ⟨w2.heap.size, 4, none⟩ = some (.slice i3 KI.s.length j3) := by rw [← hW3]; simp [go_sem]
    have x2 := (AB.cell (p := ⟨w.heap.size, 2, none⟩) y0).trans ((hc _ _ (by simp; omega)).trans (show _ = some (.slice a1 L.length c1) by simp [go_sem]))
    have b0 := (AB.cell (p := ⟨w.heap.size + 2, 0, none⟩) hz).trans ((hc _ _ (by simp)).trans (show _ = some (.int .i64 0) by simp [go_sem]))
    have b1 := (AB.cell (p := ⟨w.heap.size + 2, 1, none⟩) hz).trans ((hc _ _ (by simp)).trans (show _ = some (.string ⟨#[]⟩) by simp [go_sem]))
    have b2 := (AB.cell (p := ⟨w.heap.size + 2, 2, none⟩) hz).trans ((hc _ _ (by simp)).trans (show _ = some (.slice none 0 0) by simp [go_sem]))
    have b3 := (AB.cell (p := ⟨w.heap.size + 2, 3, none⟩) hz).trans ((hc _ _ (by simp)).trans (show _ = some (.slice none 0 0) by simp [go_sem]))
    have b4 := (AB.cell (p := ⟨w.heap.size + 2, 4, none⟩) hz).trans ((hc _ _ (by simp)).trans (show _ = some (.slice none 0 0) by simp [go_sem]))
    have g0 := (AB.frozen (p := ⟨w.heap.size + 2, 0, none⟩) hz).trans ((hf _ _ (by simp)).trans (show _ = false by simp [go_sem]))
    have g1 := (AB.frozen (p := ⟨w.heap.size + 2, 1, none⟩) hz).trans ((hf _ _ (by simp)).trans (show _ = false by simp [go_sem]))
    have g2 := (AB.frozen (p := ⟨w.heap.size + 2, 2, none⟩) hz).trans ((hf _ _ (by simp)).trans (show _ = false by simp [go_sem]))
    have g3 := (AB.frozen (p := ⟨w.heap.size + 2, 3, none⟩) hz).trans ((hf _ _ (by simp)).trans (show _ = false by simp [go_sem]))
    have g4 := (AB.frozen (p := ⟨w.heap.size + 2, 4, none⟩) hz).trans ((hf _ _ (by simp)).trans (show _ = false by simp [go_sem]))
    have D3 : Below w.heap.size w W3 := hB1.trans (AB.mono hB1.size)
    have n1 : w2.heap.size ≠ w.heap.size + 2 := by omega
    have n2 : w.heap.size + 2 ≠ w2.heap.size := by omega
    clear hW3 hc hf hb1 hb2
    go_region
    all_goals
      go_wp2_with fail
      refine bodyPost_ret (v := .tuple #[.agg #[.int .i64 KI.k, .string KI.t, .slice i1 KI.l.length j1, .slice i2 KI.p.length j2, .slice i3 KI.s.length j3], .int .i64 (((L.length : Nat) : Int) - ((KI.l.length : Nat) : Int)), .int .i64 0]) (by simp [results, Try.results9, go_sem, b0, b1, b2, b3, b4]) rfl ⟨_, rfl, ?_, ?_⟩
      · exact fun w'' hw => HI.out w'' (fun g' o' u' hg hu => hw g' o' u' (by omega) ((five_apart W3 (w.heap.size + 1 + 1) _ _ _ _ _ g' o' (by omega)).trans ((A3.cell (p := ⟨g', o', none⟩) (World.block_lt_of_cell? _ _ hu)).trans hu)))
      · go_grown
  · rw [remI, if_neg h0, remN, if_neg h0]
    have h0' : (asI x 2 == 0) = false := by rw [beq_eq_false_iff_ne]; exact h0
    generalize asI x 2 = E at *
    generalize x.t = t at *
    generalize x.k = k at *
    generalize x.p.length = n2 at *
    generalize x.s.length = n3 at *
    go_enter Try.func9, Try.ntmps9
    go_wp2_with fail
    refine (HC.out _ ((((Below.refl _ w).alloc (Nat.le_refl _) _).alloc (by simp) _).alloc (by simp; omega) _)).mono ?_
    rintro e w1 ⟨rfl, hb1⟩
    obtain ⟨hc, hf⟩ := bcell hb1
    have hz : w.heap.size + 2 < w1.heap.size := by have := hb1.size; simp at this; omega
    have hB1 : Below w.heap.size w w1 := ((((Below.refl _ w).alloc (Nat.le_refl _) _).alloc (by simp) _).alloc (by simp; omega) _).trans (hb1.mono (by simp; omega))
    go_wp2_with fail
    refine bodyPost_ret (v := .tuple #[.agg #[.int .i64 0, .string ⟨#[]⟩, .slice none 0 0, .slice none 0 0, .slice none 0 0], .int .i64 0, .int .i64 E]) (by simp [results, Try.results9, go_sem, hc]) rfl ⟨_, rfl, fun w'' _ => zero_is w'', ?_⟩
    go_grown
end Go.Proofs.Ytolpmaapdkhigac
