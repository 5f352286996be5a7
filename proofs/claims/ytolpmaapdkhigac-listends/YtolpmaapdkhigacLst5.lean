/- WALK of Push. -/
import Derived.Test.YtolpmaapdkhigacLst4
import Derived.Handy
namespace Go.Proofs.Ytolpmaapdkhigac
open Go.RowKit

set_option maxRecDepth 100000 in
set_option maxHeartbeats 4000000 in
theorem push_any (v : Value) (x : Itm) (left : Bool) (al : Option Addr) (cl : Nat) (l : List ByteArray) (w : World) (h : ItemIs w v x) (hl : TextsAt w al l) (hll : l.length ≤ 281474976710656) :
    Calls Try.prog 5 #[v, .bool left, .slice al l.length cl] w fun e w' => ∃ u, e = .returned (.tuple #[u, .int .i64 (pushN x l), .int .i64 (pushE x l)]) ∧ ItemFrom w.heap.size w' u (pushI x left l) ∧ Below w.heap.size w w' := by
  have HC : Hid (∀ W, Below w.heap.size w W → Calls Try.prog 21 #[v, .int .i64 2] W fun e w' => e = .returned (.int .i64 (asI x 2)) ∧ Below W.heap.size W w') := fun W hW => common_any v x 2 W (h.below hW)
  obtain ⟨⟨a1, c1, a2, c2, a3, c3, rfl, hx1, -, -⟩, tz, lz, -, -, -, -, -⟩ := h
  have HL := hide hl
  have HX := hide hx1
  clear hl hx1
  by_cases h0 : asI x 2 = 0
  · obtain ⟨-, hx24, hxl⟩ := asI_list h0
    rw [h0] at HC
    by_cases hbig : 24 < x.l.length + l.length
    · have hE : pushE x l = 2 := by rw [pushE, if_neg (by simp [h0]), if_pos (.inl hbig)]
      rw [pushN, pushI, hE, if_neg (by decide), if_neg (by decide)]
      have hbig' : (24 : Int) < ((x.l.length : Nat) : Int) + ((l.length : Nat) : Int) := by omega
      clear hE h0 hxl
      generalize x.t = t at *
      generalize x.k = k at *
      generalize x.p.length = n2 at *
      generalize x.s.length = n3 at *
      go_enter Try.func5, Try.ntmps5
      go_wp2_with fail
      refine (HC.out _ (((Below.refl _ w).alloc (Nat.le_refl _) _).alloc (by simp) _)).mono ?_
      rintro e w1 ⟨rfl, hb1⟩
      obtain ⟨hc, hf⟩ := bcell hb1
      have hz : w.heap.size + 1 < w1.heap.size := by have := hb1.size; simp at this; omega
      have hB1 : Below w.heap.size w w1 := (((Below.refl _ w).alloc (Nat.le_refl _) _).alloc (by simp) _).trans (hb1.mono (by simp; omega))
      go_wp2_with fail
      refine bodyPost_ret (v := .tuple #[.agg #[.int .i64 0, .string ⟨#[]⟩, .slice none 0 0, .slice none 0 0, .slice none 0 0], .int .i64 0, .int .i64 2]) (by simp [results, Try.results5, go_sem, hc]) rfl ⟨_, rfl, fun w'' _ => zero_is w'', ?_⟩
      go_grown
    · have hbig' : ¬ (24 : Int) < ((x.l.length : Nat) : Int) + ((l.length : Nat) : Int) := by omega
      have HK : Hid (∀ W, Below w.heap.size w W → Calls Try.prog 22 #[.slice al l.length cl, .func (.func 23) #[] #[]] W fun e w' => e = .returned (.bool (l.any longT)) ∧ Below W.heap.size W w') := fun W hW => containsPushLong_any al cl l W (HL.out.below hW) (by omega)
      cases hlong : l.any longT with
      | true =>
        have hE : pushE x l = 2 := by rw [pushE, if_neg (by simp [h0]), if_pos (.inr hlong)]
        rw [pushN, pushI, hE, if_neg (by decide), if_neg (by decide)]
        rw [hlong] at HK
        clear hE h0 hxl hlong
        generalize x.t = t at *
        generalize x.k = k at *
        generalize x.p.length = n2 at *
        generalize x.s.length = n3 at *
        go_enter Try.func5, Try.ntmps5
        go_wp2_with fail
        refine (HC.out _ (((Below.refl _ w).alloc (Nat.le_refl _) _).alloc (by simp) _)).mono ?_
        rintro e w1 ⟨rfl, hb1⟩
        obtain ⟨hc, hf⟩ := bcell hb1
        have hz : w.heap.size + 1 < w1.heap.size := by have := hb1.size; simp at this; omega
        have hB1 : Below w.heap.size w w1 := (((Below.refl _ w).alloc (Nat.le_refl _) _).alloc (by simp) _).trans (hb1.mono (by simp; omega))
        go_wp2_with fail
        refine (HK.out w1 hB1).mono ?_
        rintro e w2 ⟨rfl, hb2⟩
        obtain ⟨hc2, hf2⟩ := bcell hb2
        have hz2 : w.heap.size + 1 < w2.heap.size := by have := hb2.size; omega
        have hB2 : Below w.heap.size w w2 := hB1.trans (hb2.mono hB1.size)
        go_wp2_with fail
        refine bodyPost_ret (v := .tuple #[.agg #[.int .i64 0, .string ⟨#[]⟩, .slice none 0 0, .slice none 0 0, .slice none 0 0], .int .i64 0, .int .i64 2]) (by simp [results, Try.results5, go_sem, hc2, hc, hz]) rfl ⟨_, rfl, fun w'' _ => zero_is w'', ?_⟩
        go_grown
      | false =>
        rw [hlong] at HK
        by_cases hne : l = []
        · subst hne
          have hE : pushE x [] = 1 := by rw [pushE, if_neg (by simp [h0]), if_neg (by rintro (h | h); omega; cases h), if_pos rfl]
          rw [pushN, pushI, hE, if_neg (by decide), if_neg (by decide)]
          clear hE h0 hxl hlong
          generalize x.t = t at *
          generalize x.k = k at *
          generalize x.p.length = n2 at *
          generalize x.s.length = n3 at *
          go_enter Try.func5, Try.ntmps5
          go_wp2_with fail
          refine (HC.out _ (((Below.refl _ w).alloc (Nat.le_refl _) _).alloc (by simp) _)).mono ?_
          rintro e w1 ⟨rfl, hb1⟩
          obtain ⟨hc, hf⟩ := bcell hb1
          have hz : w.heap.size + 1 < w1.heap.size := by have := hb1.size; simp at this; omega
          have hB1 : Below w.heap.size w w1 := (((Below.refl _ w).alloc (Nat.le_refl _) _).alloc (by simp) _).trans (hb1.mono (by simp; omega))
          go_wp2_with fail
          refine (HK.out w1 hB1).mono ?_
          rintro e w2 ⟨rfl, hb2⟩
          obtain ⟨hc2, hf2⟩ := bcell hb2
          have hz2 : w.heap.size + 1 < w2.heap.size := by have := hb2.size; omega
          have hB2 : Below w.heap.size w w2 := hB1.trans (hb2.mono hB1.size)
          go_wp2_with fail
          refine bodyPost_ret (v := .tuple #[.agg #[.int .i64 0, .string ⟨#[]⟩, .slice none 0 0, .slice none 0 0, .slice none 0 0], .int .i64 0, .int .i64 1]) (by simp [results, Try.results5, go_sem, hc2, hc, hz]) rfl ⟨_, rfl, fun w'' _ => zero_is w'', ?_⟩
          go_grown
        · have hE : pushE x l = 0 := by rw [pushE, if_neg (by simp [h0]), if_neg (by rintro (h | h); omega; rw [hlong] at h; cases h), if_neg hne]
          have hlp : 0 < l.length := List.length_pos_iff.2 hne
          have hl0 : (((l.length : Nat) : Int) == 0) = false := by rw [beq_eq_false_iff_ne]; omega
          rw [pushN, pushI, hE, if_pos rfl, if_pos rfl]
          have HTG : Hid (∀ W, Below w.heap.size w W → Calls Try.prog 24 #[.slice a1 x.l.length c1, .bool left, .slice al l.length cl] W fun e w' => ∃ v, e = .returned v ∧ w'.ownsRow W.heap.size 9 1 v (pushL x.l left l).length (strs (pushL x.l left l)) ∧ Below W.heap.size W w') := fun W hW => together_any a1 al c1 cl x.l l left W (HX.out.below hW) (HL.out.below hW) hne (by omega)
          have HPZ : Hid (∀ t ∈ pushL x.l left l, t.size ≤ maxLen) := fun t ht => by
            have hm : t ∈ x.l ∨ t ∈ l := by
              unfold pushL at ht
              split at ht
              · rcases List.mem_append.1 ht with h | h
                · exact .inr (List.mem_reverse.1 h)
                · exact .inl h
              · rcases List.mem_append.1 ht with h | h
                · exact .inl h
                · exact .inr h
            rcases hm with h | h
            · exact lz t h
            · have := List.any_eq_false.1 hlong t h
              simp only [longT, decide_eq_true_eq] at this
              unfold maxLen
              omega
          have HPL : Hid ((pushL x.l left l).length = x.l.length + l.length) := by unfold pushL; split <;> simp [Hid]; omega
          have HPN : Hid (pushL x.l left l ≠ []) := fun e => by have := HPL.out; rw [e] at this; simp at this; omega
          clear hE h0 hxl hlong lz
          generalize pushL x.l left l = K at *
          generalize x.t = t at *
          generalize x.k = k at *
          generalize x.p.length = n2 at *
          generalize x.s.length = n3 at *
          go_enter Try.func5, Try.ntmps5
          go_wp2_with fail
          refine (HC.out _ (((Below.refl _ w).alloc (Nat.le_refl _) _).alloc (by simp) _)).mono ?_
          rintro e w1 ⟨rfl, hb1⟩
          obtain ⟨hc, hf⟩ := bcell hb1
          have hz : w.heap.size + 1 < w1.heap.size := by have := hb1.size; simp at this; omega
          have hB1 : Below w.heap.size w w1 := (((Below.refl _ w).alloc (Nat.le_refl _) _).alloc (by simp) _).trans (hb1.mono (by simp; omega))
          go_wp2_with fail
          refine (HK.out w1 hB1).mono ?_
          rintro e w2 ⟨rfl, hb2⟩
          obtain ⟨hc2, hf2⟩ := bcell hb2
          have hz2 : w.heap.size + 1 < w2.heap.size := by have := hb2.size; omega
          have hB2 : Below w.heap.size w w2 := hB1.trans (hb2.mono hB1.size)
          have y1 : w.heap.size < w1.heap.size := by omega
          have y2 : w.heap.size < w2.heap.size := by omega
          go_wp2_with fail
          refine (HTG.out w2 hB2).mono ?_
          rintro e w3 ⟨u, rfl, hown, hb3⟩
          obtain ⟨ao, cp, rfl⟩ := slice_own hown
          obtain ⟨hc3, hf3⟩ := bcell hb3
          have hz3 : w.heap.size + 1 < w3.heap.size := by have := hb3.size; omega
          have hB3 : Below w.heap.size w w3 := hB2.trans (hb3.mono hB2.size)
          have HT : Hid (∀ w', (∀ g o u, w2.heap.size ≤ g → w3.cell? ⟨g, o, none⟩ = some u → w'.cell? ⟨g, o, none⟩ = some u) → TextsAt w' ao K) := fun w' hw => texts_from hown hw
          clear hown
          generalize hKL : K.length = n at *
          go_wp2_with fail
          refine bodyPost_ret (v := .tuple #[.agg #[.int .i64 2, .string ⟨#[]⟩, .slice ao n cp, .slice none 0 0, .slice none 0 0], .int .i64 (((x.l.length : Nat) : Int) + ((l.length : Nat) : Int)), .int .i64 0]) (by simp [results, Try.results5, go_sem, hc3, hc2, hc, hz, hz2]) rfl ⟨_, rfl, ?_, ?_⟩
          · subst hKL
            exact fun w'' hw => lstI_is (HT.out w'' (fun g o u hg hu => hw g o u (by omega) ((five_apart _ _ _ _ _ _ _ g o (by omega)).trans hu))) HPN.out HPZ.out (by rw [HPL.out]; omega)
          · go_grown
  · have hE : pushE x l = asI x 2 := by rw [pushE, if_pos h0]
    have h0' : (asI x 2 == 0) = false := by rw [beq_eq_false_iff_ne]; exact h0
    rw [pushN, pushI, hE, if_neg h0, if_neg h0]
    clear hE
    generalize asI x 2 = E at *
    generalize x.t = t at *
    generalize x.k = k at *
    generalize x.p.length = n2 at *
    generalize x.s.length = n3 at *
    go_enter Try.func5, Try.ntmps5
    go_wp2_with fail
    refine (HC.out _ (((Below.refl _ w).alloc (Nat.le_refl _) _).alloc (by simp) _)).mono ?_
    rintro e w1 ⟨rfl, hb1⟩
    obtain ⟨hc, hf⟩ := bcell hb1
    have hz : w.heap.size + 1 < w1.heap.size := by have := hb1.size; simp at this; omega
    have hB1 : Below w.heap.size w w1 := (((Below.refl _ w).alloc (Nat.le_refl _) _).alloc (by simp) _).trans (hb1.mono (by simp; omega))
    go_wp2_with fail
    refine bodyPost_ret (v := .tuple #[.agg #[.int .i64 0, .string ⟨#[]⟩, .slice none 0 0, .slice none 0 0, .slice none 0 0], .int .i64 0, .int .i64 E]) (by simp [results, Try.results5, go_sem, hc]) rfl ⟨_, rfl, fun w'' _ => zero_is w'', ?_⟩
    go_grown
end Go.Proofs.Ytolpmaapdkhigac
