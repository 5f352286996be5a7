/- WALK of Remove of sets. -/
import Derived.Test.YtkjnalbnhmpopaaSet2
import Derived.Test.YtkjnalbnhmpopaaIEnc2
import Derived.BigRegion
import Derived.Deep.RegionHeld3
import Derived.Deep.RegionHeld3
import Derived.Handy
namespace Go.Proofs.Ytkjnalbnhmpopaa
open Go.RowKit

theorem less_stay (L l : List ByteArray) : lessK L l = stayL L l := by
  have h : ∀ k, k ≤ L.length → keptTo (fun _ t => hasT l t) L k = stayL (L.take k) l := fun k => by
    induction k with
    | zero => intro _; rfl
    | succ k ih =>
      intro hk
      have hlt : k < L.length := by omega
      rw [List.take_succ_eq_append_getElem hlt, stayL, List.filter_append, ← stayL, ← ih (by omega)]
      cases hx : hasT l L[k] with
      | true => rw [keptTo_go hlt hx]; simp [hx]
      | false => rw [keptTo_stay hlt hx]; simp [hx]
  have := h L.length (Nat.le_refl _)
  rw [List.take_length] at this
  exact this
theorem asI_set {x : Itm} (h : asI x 3 = 0) : Rises x.l ∧ x.l.length ≤ 24 ∧ (∀ t ∈ x.l, t.size ≤ 60) := by
  unfold asI at h
  split at h
  · rename_i hn
    unfold Itm.isNone at hn
    rw [decide_eq_true_eq] at hn
    rw [hn.2.2.1]
    exact ⟨List.Pairwise.nil, by simp, by simp⟩
  · split at h
    · rename_i h1; exact absurd h h1
    · rename_i h1
      have h1 : chkI x = 0 := by simpa using h1
      split at h
      · cases h
      · rename_i hk
        have hk : x.k = 3 := by simpa using hk
        have R := right_of h1
        refine ⟨?_, R.ln, R.lz⟩
        unfold chkI at h1
        rw [if_neg (by omega)] at h1
        split at h1
        · cases h1
        · rw [if_neg (by omega)] at h1
          try rw [if_pos hk] at h1
          unfold setT at h1
          split at h1
          · rename_i h2; exact absurd h1 h2
          · split at h1
            · rename_i h3; exact rises_of_riseTo h3
            · cases h1
theorem setOf_item {p : World → Prop} {ao : Option Addr} {cp : Nat} {K : List ByteArray} (hT : ∀ W, p W → TextsAt W ao K) (hz : ∀ t ∈ K, t.size ≤ maxLen) (hl : K.length ≤ 281474976710656) :
    ∃ (fk : Int) (fa : Option Addr) (fn fc : Nat), (∀ W, Calls Try.prog 58 #[.slice ao K.length cp] W fun e w' => e = .returned (.agg #[.int .i64 fk, .string ⟨#[]⟩, .slice fa fn fc, .slice none 0 0, .slice none 0 0]) ∧ Below W.heap.size W w') ∧ ∀ W, p W → ItemIs W (.agg #[.int .i64 fk, .string ⟨#[]⟩, .slice fa fn fc, .slice none 0 0, .slice none 0 0]) (kindI 3 K) := by
  by_cases h0 : K = []
  · subst h0
    refine ⟨0, none, 0, 0, fun W => ?_, fun w' _ => zero_is w'⟩
    have := setOf_any ao 0 cp W (by omega)
    rw [if_pos rfl] at this
    exact this
  · refine ⟨3, ao, K.length, cp, fun W => ?_, fun w' hw => ?_⟩
    · have := setOf_any ao K.length cp W hl
      rw [if_neg (fun e => h0 (List.eq_nil_of_length_eq_zero e))] at this
      exact this
    · rw [kindI, if_neg h0]
      exact ⟨⟨ao, cp, none, 0, none, 0, rfl, hT w' hw, .inl rfl, .inl rfl⟩, (show (0 : Nat) ≤ maxLen by simp), hz, by simp, by simp, hl, by simp, by simp⟩
set_option maxRecDepth 100000 in
set_option maxHeartbeats 4000000 in
theorem setRemove_any (v : Value) (x : Itm) (al : Option Addr) (cl : Nat) (l : List ByteArray) (w : World) (h : ItemIs w v x) (hl : TextsAt w al l) (hll : l.length ≤ 281474976710656) :
    Calls Try.prog 26 #[v, .slice al l.length cl] w fun e w' => ∃ u, e = .returned (.tuple #[u, .int .i64 (remofN x 3 l), .int .i64 (asI x 3)]) ∧ ItemFrom w.heap.size w' u (remofI x 3 l) ∧ Below w.heap.size w w' := by
  have HC : Hid (∀ W, Below w.heap.size w W → Calls Try.prog 39 #[v, .int .i64 3] W fun e w' => e = .returned (.int .i64 (asI x 3)) ∧ Below W.heap.size W w') := fun W hW => common_any v x 3 W (h.below hW)
  obtain ⟨⟨a1, c1, a2, c2, a3, c3, rfl, hx1, -, -⟩, tz, lz, -, -, -, -, -⟩ := h
  by_cases h0 : asI x 3 = 0
  · obtain ⟨-, hx24, -⟩ := asI_set h0
    rw [remofI, if_pos h0, remofN, if_pos h0, h0, less_stay]
    rw [h0] at HC
    have HX := hide hx1
    have HL := hide hl
    have HZ : Hid (∀ t ∈ stayL x.l l, t.size ≤ maxLen) := fun t ht => lz t (List.mem_filter.1 ht).1
    have HCL : Hid (∀ W, Below w.heap.size w W → Calls Try.prog 60 #[.slice a1 x.l.length c1] W fun e w' => ∃ a' cap, e = .returned (.slice a' x.l.length cap) ∧ Below W.heap.size W w' ∧ ∀ b, W.cell? ⟨b, 0, none⟩ = some (.slice al l.length cl) → Calls Try.prog 59 #[.slice a' x.l.length cap, .func (.func 61) #[] #[.pointer (some ⟨b, 0, none⟩)]] w' fun e w'' => e = .returned (.slice a' (stayL x.l l).length cap) ∧ (∀ W', (∀ g o u, W.heap.size ≤ g → w''.cell? ⟨g, o, none⟩ = some u → W'.cell? ⟨g, o, none⟩ = some u) → TextsAt W' a' (stayL x.l l)) ∧ Below W.heap.size W w'') := fun W hW => (clone_any a1 c1 x.l W (HX.out.below hW) (by omega)).mono fun e w' ⟨a', cap, h1, h2, h3⟩ => ⟨a', cap, h1, h2, fun b hc => delete_any b al cl l a' cap x.l W w' h2 h3 hc (HL.out.below hW) hll (by omega)⟩
    have hkl := stayL_len x.l l
    clear h0 hx1 hl lz HX HL
    generalize stayL x.l l = K at *
    generalize x.l.length = n1 at *
    generalize x.t = t at *
    generalize x.k = k at *
    generalize x.p.length = n2 at *
    generalize x.s.length = n3 at *
    go_enter Try.func26, Try.ntmps26
    go_wp2_with fail
    refine (HC.out _ ((((Below.refl _ w).alloc (Nat.le_refl _) _).alloc (by simp) _).alloc (by simp; omega) _)).mono ?_
    rintro e w1 ⟨rfl, hb1⟩
    obtain ⟨hc, hf⟩ := bcell hb1
    have hz : w.heap.size + 2 < w1.heap.size := by have := hb1.size; simp at this; omega
    have hB1 : Below w.heap.size w w1 := ((((Below.refl _ w).alloc (Nat.le_refl _) _).alloc (by simp) _).alloc (by simp; omega) _).trans (hb1.mono (by simp; omega))
    have y0 : w.heap.size < w1.heap.size := by omega
    have y1 : w.heap.size + 1 < w1.heap.size := by omega
    go_wp2_with fail
    refine (HCL.out _ hB1).mono ?_
    rintro e w2 ⟨a', cap, rfl, hb2, HD⟩
    have HDD := hide (HD (w.heap.size + 1) ((hc _ _ (by simp)).trans (by simp [go_sem])))
    clear HD HCL HC
    have z2 := hb2.size
    go_wp2_with fail
    refine HDD.out.mono ?_
    rintro e w3 ⟨rfl, hT, hb3⟩
    have HT := hide hT
    clear hT HDD hb2
    have z3 := hb3.size
    have B3 : Below w.heap.size w w3 := hB1.trans (hb3.mono hB1.size)
    obtain ⟨fk, fa, fn, fc, ho, hi⟩ := setOf_item (p := fun W' => ∀ g o u, w1.heap.size ≤ g → w3.cell? ⟨g, o, none⟩ = some u → W'.cell? ⟨g, o, none⟩ = some u) (cp := cap) HT.out HZ.out (by omega)
    have HO := hide ho
    have HI := hide hi
    clear ho hi HT HZ
    have HBX : Hid (∀ W, Below w1.heap.size w1 W → (W.cell? ⟨w.heap.size + 2, 0, none⟩ = some (.int .i64 0) ∧ W.cell? ⟨w.heap.size + 2, 1, none⟩ = some (.string ⟨#[]⟩) ∧ W.cell? ⟨w.heap.size + 2, 2, none⟩ = some (.slice none 0 0) ∧ W.cell? ⟨w.heap.size + 2, 3, none⟩ = some (.slice none 0 0) ∧ W.cell? ⟨w.heap.size + 2, 4, none⟩ = some (.slice none 0 0)) ∧ (∀ j, W.frozen? ⟨w.heap.size + 2, j, none⟩ = false) ∧ W.cell? ⟨w.heap.size, 2, none⟩ = some (.slice a1 n1 c1)) := fun W hW =>
      ⟨⟨(hW.cell (p := ⟨w.heap.size + 2, 0, none⟩) hz).trans ((hc _ _ (by simp)).trans (by simp [go_sem])), (hW.cell (p := ⟨w.heap.size + 2, 1, none⟩) hz).trans ((hc _ _ (by simp)).trans (by simp [go_sem])), (hW.cell (p := ⟨w.heap.size + 2, 2, none⟩) hz).trans ((hc _ _ (by simp)).trans (by simp [go_sem])), (hW.cell (p := ⟨w.heap.size + 2, 3, none⟩) hz).trans ((hc _ _ (by simp)).trans (by simp [go_sem])), (hW.cell (p := ⟨w.heap.size + 2, 4, none⟩) hz).trans ((hc _ _ (by simp)).trans (by simp [go_sem]))⟩, fun j => (hW.frozen (p := ⟨w.heap.size + 2, j, none⟩) hz).trans ((hf _ _ (by simp)).trans (by simp [go_sem])), (hW.cell (p := ⟨w.heap.size, 2, none⟩) y0).trans ((hc _ _ (by simp; omega)).trans (by simp [go_sem]))⟩
    obtain ⟨-, -, x2⟩ := HBX.out w3 hb3
    have hbd : Below w1.heap.size w1 w3.drew := hb3.drew
    have nn1 : w3.heap.size ≠ w.heap.size + 2 := by omega
    have nn2 : w.heap.size + 2 ≠ w3.heap.size := by omega
    have nn3 : w.heap.size ≠ w.heap.size + 1 + 1 := by omega
    have nn4 : w.heap.size + 1 + 1 ≠ w.heap.size := by omega
    have nn5 : ¬ w.heap.size = w.heap.size + 1 + 1 := by omega
    have hwr := wrap_small (((n1 : Nat) : Int) - ((K.length : Nat) : Int)) (by omega) (by omega)
    have hzl := hb3.size
    have hz1 := hB1.size
    clear hc hf hb1
    go_wp2_with fail
    go_region_held3 (fun w' => w'.cell? ⟨w.heap.size, 2, none⟩ = some (.slice a1 n1 c1)) (go_keep)
      ((go_at_call 58; refine (HO.out _).mono ?_; rintro e w9 ⟨rfl, hb9⟩; have hb9' : Below w1.heap.size w1 w9 := hbd.trans (hb9.mono hzl); obtain ⟨⟨b0, b1, b2, b3, b4⟩, fz, x3⟩ := HBX.out w9 hb9'; have fz0 := fz 0; have fz1 := fz 1; have fz2 := fz 2; have fz3 := fz 3; have fz4 := fz 4))
    all_goals
      go_wp2_with fail
      refine bodyPost_ret (v := .tuple #[.agg #[.int .i64 fk, .string ⟨#[]⟩, .slice fa fn fc, .slice none 0 0, .slice none 0 0], .int .i64 (((n1 : Nat) : Int) - ((K.length : Nat) : Int)), .int .i64 0]) (by simp [results, Try.results26, go_sem, b0, b1, b2, b3, b4]) rfl ⟨_, rfl, ?_, ?_⟩
      · exact fun w'' hw => HI.out w'' (fun g' o' u' hg hu => hw g' o' u' (by omega) ((five_apart w9 (w.heap.size + 2) _ _ _ _ _ g' o' (by omega)).trans ((hb9.cell (p := ⟨g', o', none⟩) (World.block_lt_of_cell? w3 _ hu)).trans hu)))
      · have hb9'' := hB1.trans (hb9'.mono hz1)
        go_grown
  · rw [remofI, remofN, if_neg h0, if_neg h0]
    have h0' : (asI x 3 == 0) = false := by rw [beq_eq_false_iff_ne]; exact h0
    clear hx1 hl
    generalize asI x 3 = E at *
    generalize x.l = L at *
    generalize x.t = t at *
    generalize x.k = k at *
    generalize x.p.length = n2 at *
    generalize x.s.length = n3 at *
    go_enter Try.func26, Try.ntmps26
    go_wp2_with fail
    refine (HC.out _ ((((Below.refl _ w).alloc (Nat.le_refl _) _).alloc (by simp) _).alloc (by simp; omega) _)).mono ?_
    rintro e w1 ⟨rfl, hb1⟩
    obtain ⟨hc, hf⟩ := bcell hb1
    have hz : w.heap.size + 2 < w1.heap.size := by have := hb1.size; simp at this; omega
    have hB1 : Below w.heap.size w w1 := ((((Below.refl _ w).alloc (Nat.le_refl _) _).alloc (by simp) _).alloc (by simp; omega) _).trans (hb1.mono (by simp; omega))
    go_wp2_with fail
    refine bodyPost_ret (v := .tuple #[.agg #[.int .i64 0, .string ⟨#[]⟩, .slice none 0 0, .slice none 0 0, .slice none 0 0], .int .i64 0, .int .i64 E]) (by simp [results, Try.results26, go_sem, hc]) rfl ⟨_, rfl, fun w'' _ => zero_is w'', ?_⟩
    go_grown
end Go.Proofs.Ytkjnalbnhmpopaa
