/- WALK of hashes: Drop. -/
import Derived.Test.YtnobcdhlagfhmaaZDel
import Derived.BigRegion
import Derived.Deep.RegionHeld3
import Derived.Handy
namespace Go.Proofs.Ytnobcdhlagfhmaa.Z
open Go.RowKit

set_option maxRecDepth 100000 in
theorem delNoneP_any (a : Option Addr) (cap : Nat) (fv : Value) (w : World) :
    Calls Try.prog 59 #[.slice a 0 cap, fv] w fun e w' => e = .returned (.slice a 0 cap) ∧ w' = w := by
  have HI := hide (idxP_none a cap fv w)
  go_enter Try.func59, Try.ntmps59
  go_wp2_with fail
  refine HI.out.mono ?_
  rintro e w1 ⟨rfl, rfl⟩
  go_wp2_with fail
  go_ret
  exact ⟨rfl, rfl⟩
/-- what Drop answers -/
def dropI (x : Itm) (l : List ByteArray) : Itm := if asI x 5 = 0 then kindS (stayP x.s l) else Itm.none
def dropN (x : Itm) (l : List ByteArray) : Int := if asI x 5 = 0 then ((x.s.length : Nat) : Int) - (((stayP x.s l).length : Nat) : Int) else 0
set_option maxRecDepth 100000 in
set_option maxHeartbeats 4000000 in
theorem scoreDrop_any (v : Value) (x : Itm) (al : Option Addr) (cl : Nat) (l : List ByteArray) (w : World) (h : ItemIs w v x) (hl : TextsAt w al l) (hll : l.length ≤ 281474976710656) :
    Calls Try.prog 37 #[v, .slice al l.length cl] w fun e w' => ∃ u, e = .returned (.tuple #[u, .int .i64 (dropN x l), .int .i64 (asI x 5)]) ∧ ItemFrom w.heap.size w' u (dropI x l) ∧ Below w.heap.size w w' := by
  have HC : Hid (∀ W, Below w.heap.size w W → Calls Try.prog 20 #[v, .int .i64 5] W fun e w' => e = .returned (.int .i64 (asI x 5)) ∧ Below W.heap.size W w') := fun W hW => common_any v x 5 W (h.below hW)
  obtain ⟨⟨a1, c1, a2, c2, a3, c3, rfl, -, -, hx2⟩, tz, -, -, pz, -, -, -⟩ := h
  by_cases h0 : asI x 5 = 0
  · have hx24 := (asI_score h0).n
    rw [dropI, if_pos h0, dropN, if_pos h0, h0]
    rw [h0] at HC
    have HX := hide hx2
    have HL := hide hl
    have HZ : Hid (∀ t ∈ stayP x.s l, t.2.size ≤ maxLen) := fun t ht => pz t (List.mem_filter.1 ht).1
    have HCL : Hid (∀ W, Below w.heap.size w W → Calls Try.prog 60 #[.slice a3 x.s.length c3] W fun e w' => ∃ a' cap, e = .returned (.slice a' x.s.length cap) ∧ Below W.heap.size W w' ∧ ∀ b, W.cell? ⟨b, 0, none⟩ = some (.slice al l.length cl) → Calls Try.prog 59 #[.slice a' x.s.length cap, .func (.func 61) #[] #[.pointer (some ⟨b, 0, none⟩)]] w' fun e w'' => e = .returned (.slice a' (stayP x.s l).length cap) ∧ PairsFrom W.heap.size w'' a' (stayP x.s l) ∧ Below W.heap.size W w'') := fun W hW => (cloneP_any a3 c3 x.s W (HX.out.below hW) (by omega)).mono fun e w' ⟨u, h1, h2, h3⟩ => by
      rcases h2.2 with ⟨rfl, h0⟩ | ⟨g, cap, cur, rfl, hrest⟩
      · have e0 : x.s = [] := List.eq_nil_of_length_eq_zero h0
        refine ⟨none, 0, by rw [h1, h0], h3, fun b hc => ?_⟩
        rw [e0]
        exact (delNoneP_any none 0 _ w').mono fun e w'' ⟨k1, k2⟩ => ⟨k1, PairsFrom.none _ _ _, k2 ▸ h3⟩
      · exact ⟨some ⟨g, 0, none⟩, cap, h1, h3, fun b hc => delP_any b al cl l g cap x.s W w' h2 h3 hc (HL.out.below hW) hll (by omega)⟩
    have hkl := stayP_len x.s l
    clear h0 hx2 hl pz HX HL
    generalize stayP x.s l = K at *
    generalize x.l.length = n1 at *
    generalize x.t = t at *
    generalize x.k = k at *
    generalize x.s.length = n2 at *
    generalize x.p.length = n3 at *
    go_enter Try.func37, Try.ntmps37
    go_wp2_with fail
    refine (HC.out _ ((((Below.refl _ w).alloc (Nat.le_refl _) _).alloc (by simp) _).alloc (by simp; omega) _)).mono ?_
    rintro e w1 ⟨rfl, hb1⟩
    obtain ⟨hc, hf⟩ := bcell hb1
    have hz : w.heap.size + 2 < w1.heap.size := by have := hb1.size; simp at this; omega
    have hB1 : Below w.heap.size w w1 := ((((Below.refl _ w).alloc (Nat.le_refl _) _).alloc (by simp) _).alloc (by simp; omega) _).trans (hb1.mono (by simp; omega))
    have y0 : w.heap.size < w1.heap.size := by omega
    have y1 : w.heap.size + 1 < w1.heap.size := by omega
    go_wp2_with fail
    refine (HCL.out _ hB1).mono ?_
    rintro e w2 ⟨a', cap, rfl, hb2, HD⟩
    have HDD := hide (HD (w.heap.size + 1) ((hc _ _ (by simp)).trans (by simp [go_sem])))
    clear HD HCL HC
    have z2 := hb2.size
    go_wp2_with fail
    refine HDD.out.mono ?_
    rintro e w3 ⟨rfl, hT, hb3⟩
    have HT := hide hT
    clear hT HDD hb2
    have z3 := hb3.size
    have B3 : Below w.heap.size w w3 := hB1.trans (hb3.mono hB1.size)
    obtain ⟨fk, fa, fn, fc, ho, hi⟩ := scoreOf_item (p := fun W' => ∀ g o u, w1.heap.size ≤ g → w3.cell? ⟨g, o, none⟩ = some u → W'.cell? ⟨g, o, none⟩ = some u) (cp := cap) HT.out HZ.out (by omega)
    have HO := hide ho
    have HI := hide hi
    clear ho hi HT HZ
    have HBX : Hid (∀ W, Below w1.heap.size w1 W → (W.cell? ⟨w.heap.size + 2, 0, none⟩ = some (.int .i64 0) ∧ W.cell? ⟨w.heap.size + 2, 1, none⟩ = some (.string ⟨#[]⟩) ∧ W.cell? ⟨w.heap.size + 2, 2, none⟩ = some (.slice none 0 0) ∧ W.cell? ⟨w.heap.size + 2, 3, none⟩ = some (.slice none 0 0) ∧ W.cell? ⟨w.heap.size + 2, 4, none⟩ = some (.slice none 0 0)) ∧ (∀ j, W.frozen? ⟨w.heap.size + 2, j, none⟩ = false) ∧ W.cell? ⟨w.heap.size, 4, none⟩ = some (.slice a3 n2 c3)) := fun W hW =>
      ⟨⟨(hW.cell (p := ⟨w.heap.size + 2, 0, none⟩) hz).trans ((hc _ _ (by simp)).trans (by simp [go_sem])), (hW.cell (p := ⟨w.heap.size + 2, 1, none⟩) hz).trans ((hc _ _ (by simp)).trans (by simp [go_sem])), (hW.cell (p := ⟨w.heap.size + 2, 2, none⟩) hz).trans ((hc _ _ (by simp)).trans (by simp [go_sem])), (hW.cell (p := ⟨w.heap.size + 2, 3, none⟩) hz).trans ((hc _ _ (by simp)).trans (by simp [go_sem])), (hW.cell (p := ⟨w.heap.size + 2, 4, none⟩) hz).trans ((hc _ _ (by simp)).trans (by simp [go_sem]))⟩, fun j => (hW.frozen (p := ⟨w.heap.size + 2, j, none⟩) hz).trans ((hf _ _ (by simp)).trans (by simp [go_sem])), (hW.cell (p := ⟨w.heap.size, 4, none⟩) y0).trans ((hc _ _ (by simp; omega)).trans (by simp [go_sem]))⟩
    obtain ⟨-, -, x2⟩ := HBX.out w3 hb3
    have hbd : Below w1.heap.size w1 w3.drew := hb3.drew
    have nn1 : w3.heap.size ≠ w.heap.size + 2 := by omega
    have nn2 : w.heap.size + 2 ≠ w3.heap.size := by omega
    have nn3 : w.heap.size ≠ w.heap.size + 1 + 1 := by omega
    have nn4 : w.heap.size + 1 + 1 ≠ w.heap.size := by omega
    have nn5 : ¬ w.heap.size = w.heap.size + 1 + 1 := by omega
    have hwr := wrap_small (((n2 : Nat) : Int) - ((K.length : Nat) : Int)) (by omega) (by omega)
    have hzl := hb3.size
    have hz1 := hB1.size
    clear hc hf hb1
    go_wp2_with fail
    go_region_held3 (fun w' => w'.cell? ⟨w.heap.size, 4, none⟩ = some (.slice a3 n2 c3)) (go_keep)
      ((go_at_call 41; refine (HO.out _).mono ?_; rintro e w9 ⟨rfl, hb9⟩; have hb9' : Below w1.heap.size w1 w9 := hbd.trans (hb9.mono hzl); obtain ⟨⟨b0, b1, b2, b3, b4⟩, fz, x3⟩ := HBX.out w9 hb9'; have fz0 := fz 0; have fz1 := fz 1; have fz2 := fz 2; have fz3 := fz 3; have fz4 := fz 4))
    all_goals
      go_wp2_with fail
      refine bodyPost_ret (v := .tuple #[.agg #[.int .i64 fk, .string ⟨#[]⟩, .slice none 0 0, .slice none 0 0, .slice fa fn fc], .int .i64 (((n2 : Nat) : Int) - ((K.length : Nat) : Int)), .int .i64 0]) (by simp [results, Try.results37, go_sem, b0, b1, b2, b3, b4]) rfl ⟨_, rfl, ?_, ?_⟩
      · exact fun w'' hw => HI.out w'' (fun g' o' u' hg hu => hw g' o' u' (by omega) ((five_apart w9 (w.heap.size + 2) _ _ _ _ _ g' o' (by omega)).trans ((hb9.cell (p := ⟨g', o', none⟩) (World.block_lt_of_cell? w3 _ hu)).trans hu)))
      · have hb9'' := hB1.trans (hb9'.mono hz1)
        go_grown
  · rw [dropI, dropN, if_neg h0, if_neg h0]
    have h0' : (asI x 5 == 0) = false := by rw [beq_eq_false_iff_ne]; exact h0
    clear hx2 hl
    generalize asI x 5 = E at *
    generalize x.l = L at *
    generalize x.t = t at *
    generalize x.k = k at *
    generalize x.s.length = n2 at *
    generalize x.p.length = n3 at *
    go_enter Try.func37, Try.ntmps37
    go_wp2_with fail
    refine (HC.out _ ((((Below.refl _ w).alloc (Nat.le_refl _) _).alloc (by simp) _).alloc (by simp; omega) _)).mono ?_
    rintro e w1 ⟨rfl, hb1⟩
    obtain ⟨hc, hf⟩ := bcell hb1
    have hz : w.heap.size + 2 < w1.heap.size := by have := hb1.size; simp at this; omega
    have hB1 : Below w.heap.size w w1 := ((((Below.refl _ w).alloc (Nat.le_refl _) _).alloc (by simp) _).alloc (by simp; omega) _).trans (hb1.mono (by simp; omega))
    go_wp2_with fail
    refine bodyPost_ret (v := .tuple #[.agg #[.int .i64 0, .string ⟨#[]⟩, .slice none 0 0, .slice none 0 0, .slice none 0 0], .int .i64 0, .int .i64 E]) (by simp [results, Try.results37, go_sem, hc]) rfl ⟨_, rfl, fun w'' _ => zero_is w'', ?_⟩
    go_grown
end Go.Proofs.Ytnobcdhlagfhmaa.Z
