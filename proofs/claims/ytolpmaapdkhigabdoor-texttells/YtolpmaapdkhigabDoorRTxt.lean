/- WALK of the reference's AppendOf. -/
import Derived.Test.YtolpmaapdkhigabDoorRAs
import Derived.Test.YtolpmaapdkhigabDoorTxt
import Derived.BigRegion
import Derived.Handy
namespace Go.Proofs.YtolpmaapdkhigabDoor
open Go.RowKit
set_option maxRecDepth 100000 in
set_option maxHeartbeats 2000000 in
theorem appendOf_any (v : Value) (x : Itm) (s : ByteArray) (w : World) (h : ItemIs w v x) (hs : s.size ≤ 281474976710656) :
    Calls Tryd.prog 10 #[v, .string s] w fun e w' => e = .returned (appV x s) ∧ Below w.heap.size w w' := by
  have HC : Hid (∀ W, Below w.heap.size w W → Calls Tryd.prog 12 #[v, .int .i64 1] W fun e w' => e = .returned (.int .i64 (asI x 1)) ∧ Below W.heap.size W w') := fun W hW => refAs_any v x 1 W (h.below hW)
  obtain ⟨⟨a1, c1, a2, c2, a3, c3, rfl, -, -, -⟩, tz, -, -, -, -, -, -⟩ := h
  by_cases h0 : asI x 1 = 0
  · have hx60 := (asI_text h0).1
    by_cases hm : 60 < x.t.size + s.size
    · have he : appE x s = 2 := by rw [appE, if_neg (by simp [h0]), if_pos hm]
      have hv : appV x s = .tuple #[zval, .int .i64 0, .int .i64 2] := by rw [appV, he, if_neg (by decide)]
      rw [hv]
      have hm' : (60 : Int) < ((x.t.size : Nat) : Int) + ((s.size : Nat) : Int) := by omega
      rw [h0] at HC
      clear he hv h0
      generalize x.t = t at *
      generalize x.k = k at *
      generalize x.l.length = n1 at *
      generalize x.p.length = n2 at *
      generalize x.s.length = n3 at *
      go_enter Tryd.func10, Tryd.ntmps10
      go_wp2_with fail
      refine (HC.out _ (((Below.refl _ w).alloc (Nat.le_refl _) _).alloc (by simp) _)).mono ?_
      rintro e w1 ⟨rfl, hb1⟩
      obtain ⟨hc, hf⟩ := bcell hb1
      have hz : w.heap.size + 1 < w1.heap.size := by have := hb1.size; simp at this; omega
      have hB1 : Below w.heap.size w w1 := (((Below.refl _ w).alloc (Nat.le_refl _) _).alloc (by simp) _).trans (hb1.mono (by simp; omega))
      go_wp2_with fail
      refine bodyPost_ret (v := .tuple #[zval, .int .i64 0, .int .i64 2]) (by simp [results, Tryd.results10, go_sem, hc, zval]) rfl ⟨rfl, ?_⟩
      go_grown
    · have he : appE x s = 0 := by rw [appE, if_neg (by simp [h0]), if_neg hm]
      have hv : appV x s = .tuple #[tval (x.t ++ s), .int .i64 (((x.t.size : Nat) : Int) + ((s.size : Nat) : Int)), .int .i64 0] := by rw [appV, if_pos he]; simp
      rw [hv]
      have hm' : ¬ (60 : Int) < ((x.t.size : Nat) : Int) + ((s.size : Nat) : Int) := by omega
      have hm2 : ¬ 9223372036854775807 < x.t.size + s.size := by omega
      rw [h0] at HC
      clear he hv h0
      generalize x.t = t at *
      generalize x.k = k at *
      generalize x.l.length = n1 at *
      generalize x.p.length = n2 at *
      generalize x.s.length = n3 at *
      go_enter Tryd.func10, Tryd.ntmps10
      go_wp2_with fail
      refine (HC.out _ (((Below.refl _ w).alloc (Nat.le_refl _) _).alloc (by simp) _)).mono ?_
      rintro e w1 ⟨rfl, hb1⟩
      obtain ⟨hc, hf⟩ := bcell hb1
      have hz : w.heap.size + 1 < w1.heap.size := by have := hb1.size; simp at this; omega
      have hB1 : Below w.heap.size w w1 := (((Below.refl _ w).alloc (Nat.le_refl _) _).alloc (by simp) _).trans (hb1.mono (by simp; omega))
      go_wp2_with fail
      have hcT : w1.cell? ⟨w.heap.size, 1, none⟩ = some (.string t) := (hc _ _ (by simp; omega)).trans (by simp [go_sem])
      have k0 : w1.cell? ⟨w.heap.size + 1, 0, none⟩ = some (.int .i64 0) := (hc _ _ (by simp)).trans (by simp [go_sem])
      have f0 : w1.frozen? ⟨w.heap.size + 1, 0, none⟩ = false := (hf _ _ (by simp)).trans (by simp [go_sem])
      have k1 : w1.cell? ⟨w.heap.size + 1, 1, none⟩ = some (.string ⟨#[]⟩) := (hc _ _ (by simp)).trans (by simp [go_sem])
      have f1 : w1.frozen? ⟨w.heap.size + 1, 1, none⟩ = false := (hf _ _ (by simp)).trans (by simp [go_sem])
      have k2 : w1.cell? ⟨w.heap.size + 1, 2, none⟩ = some (.slice none 0 0) := (hc _ _ (by simp)).trans (by simp [go_sem])
      have f2 : w1.frozen? ⟨w.heap.size + 1, 2, none⟩ = false := (hf _ _ (by simp)).trans (by simp [go_sem])
      have k3 : w1.cell? ⟨w.heap.size + 1, 3, none⟩ = some (.slice none 0 0) := (hc _ _ (by simp)).trans (by simp [go_sem])
      have f3 : w1.frozen? ⟨w.heap.size + 1, 3, none⟩ = false := (hf _ _ (by simp)).trans (by simp [go_sem])
      have k4 : w1.cell? ⟨w.heap.size + 1, 4, none⟩ = some (.slice none 0 0) := (hc _ _ (by simp)).trans (by simp [go_sem])
      have f4 : w1.frozen? ⟨w.heap.size + 1, 4, none⟩ = false := (hf _ _ (by simp)).trans (by simp [go_sem])
      clear hc hf
      go_region
      all_goals
        go_wp2_with fail
        refine bodyPost_ret (v := .tuple #[tval (t ++ s), .int .i64 (((t.size : Nat) : Int) + ((s.size : Nat) : Int)), .int .i64 0]) (by simp [results, Tryd.results10, go_sem, k0, k1, k2, k3, k4, tval]) rfl ⟨rfl, ?_⟩
        go_grown
  · have he : appE x s = asI x 1 := by rw [appE, if_pos h0]
    have hv : appV x s = .tuple #[zval, .int .i64 0, .int .i64 (asI x 1)] := by rw [appV, he, if_neg h0]
    have h0' : (asI x 1 == 0) = false := by rw [beq_eq_false_iff_ne]; exact h0
    rw [hv]
    clear he hv
    generalize asI x 1 = E at *
    generalize x.t = t at *
    generalize x.k = k at *
    generalize x.l.length = n1 at *
    generalize x.p.length = n2 at *
    generalize x.s.length = n3 at *
    go_enter Tryd.func10, Tryd.ntmps10
    go_wp2_with fail
    refine (HC.out _ (((Below.refl _ w).alloc (Nat.le_refl _) _).alloc (by simp) _)).mono ?_
    rintro e w1 ⟨rfl, hb1⟩
    obtain ⟨hc, hf⟩ := bcell hb1
    have hz : w.heap.size + 1 < w1.heap.size := by have := hb1.size; simp at this; omega
    have hB1 : Below w.heap.size w w1 := (((Below.refl _ w).alloc (Nat.le_refl _) _).alloc (by simp) _).trans (hb1.mono (by simp; omega))
    go_wp2_with fail
    refine bodyPost_ret (v := .tuple #[zval, .int .i64 0, .int .i64 E]) (by simp [results, Tryd.results10, go_sem, hc, zval]) rfl ⟨rfl, ?_⟩
    go_grown

end Go.Proofs.YtolpmaapdkhigabDoor
