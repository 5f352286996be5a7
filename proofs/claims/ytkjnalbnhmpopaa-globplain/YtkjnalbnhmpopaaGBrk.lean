/- WALK of a bracket, whole. -/
import Derived.Test.YtkjnalbnhmpopaaGBracket
import Derived.Deep.Cut
import Derived.Deep.CutRange
import Derived.Handy
namespace Go.Proofs.Ytkjnalbnhmpopaa
open Go.RowKit

theorem inside_suffix (l : List UInt8) : inside l <:+ l := by
  unfold inside
  split
  · exact List.tail_suffix l
  · exact List.suffix_refl l
theorem brOf_nil (neg : Bool) (l : List UInt8) : brOf neg (.ok ([], l)) = .error 1 := rfl
theorem brOf_some (neg : Bool) {xs : List (UInt8 × UInt8)} (h : xs ≠ []) (l : List UInt8) : brOf neg (.ok (xs, l)) = .ok (.cls neg xs, l) := by
  cases xs with
  | nil => exact absurd rfl h
  | cons x xs => rfl
theorem aheadS_end (acc : List (UInt8 × UInt8)) (l : List UInt8) : aheadS acc (pCls (93 :: l)) = .ok (acc, l) := by
  rw [pCls_end]
  simp [aheadS]
theorem aheadS_err {acc : List (UInt8 × UInt8)} {c : UInt8} {l : List UInt8} {e : Nat} (hc : c ≠ 93) (h : pSpan c l = .error e) : aheadS acc (pCls (c :: l)) = .error e := by
  rw [pCls_err hc h]
  rfl
theorem rowSlice2 {w : World} {b e s : Nat} {v : Value} {n : Nat} {xs : List Value} (h : w.ownsRow b e s v n xs) : ∃ ao cp, v = .slice ao n cp := by
  rcases h.2 with ⟨rfl, rfl⟩ | ⟨g, cap, cur, rfl, _⟩
  · exact ⟨_, _, rfl⟩
  · exact ⟨_, _, rfl⟩
theorem ownsRow_low2 {w : World} {b1 b2 e s : Nat} {v : Value} {n : Nat} {xs : List Value} (h : w.ownsRow b1 e s v n xs) (hb : b2 ≤ b1) : w.ownsRow b2 e s v n xs := by
  refine ⟨h.1, ?_⟩
  rcases h.2 with hn | ⟨g, cap, cur, hv, hb1, rest⟩
  · exact .inl hn
  · exact .inr ⟨g, cap, cur, hv, by omega, rest⟩

set_option maxRecDepth 100000 in
set_option maxHeartbeats 2000000 in
theorem bracket_any (b : Nat) (s : ByteArray) (l0 : List UInt8) (w : World) (h : AtL b s l0 w) (hs : s.size ≤ 60) :
    Calls Try.prog 92 #[.pointer (some ⟨b, 0, none⟩)] w (BrPost b s l0 w) := by
  have hmf : ∀ (fn : Fn) (first cap : Array Value) (w : World), (Instr.makeFunc fn first cap).run Try.prog w = .ok (.func fn first cap) w := fun _ _ _ _ => rfl
  obtain ⟨i0, hi, hz0, hz1, hz2⟩ := info_parts infoSpan
  have hbw := h.lt
  have HPB := hide (pBracket_of l0)
  have HL := hide (left_any b s l0 w h)
  have HPX : Hid (∀ W, Calls Try.prog 108 #[.string ⟨l0.toArray⟩, .string ⟨#[94]⟩] W fun e w' => e = .returned (.bool (l0.head? == some 94)) ∧ w' = W) := fun W => prefix1_any l0 W
  have HNX : Hid ((l0.head? == some 94) = true → ∀ W, AtL b s l0 W → Calls Try.prog 90 #[.pointer (some ⟨b, 0, none⟩)] W fun e w' => e = .returned (.int .u8 94) ∧ AtL b s (inside l0) w' ∧ Kept (one b) W w') := fun hn W ha => by
    cases l0 with
    | nil => simp at hn
    | cons x r =>
      simp at hn
      subst hn
      exact next_ok b s 94 r W ha
  have HIN : Hid ((l0.head? == some 94) = false → inside l0 = l0) := fun hn => by
    unfold inside
    rw [if_neg (fun e => by rw [e] at hn; simp at hn)]
  have HA := hide h
  have HLE := hide (inside_suffix l0).length_le
  have hl0 := h.len
  clear h
  generalize (⟨l0.toArray⟩ : ByteArray) = L0 at *
  generalize (l0.head? == some 94) = neg at *
  generalize hli : inside l0 = li at *
  have hlis : li.length ≤ s.size := Nat.le_trans HLE.out hl0
  go_enter Try.func92, Try.ntmps92
  go_wp2_with fail
  refine HL.out.mono ?_
  rintro e W ⟨rfl, nd, hW⟩
  have haW : AtL b s l0 W := by rw [hW]; exact HA.out.drewN nd
  have hkW : Kept (one b) w W := by rw [hW]; exact (Kept.refl _ w).drewN nd
  have hzW : W.heap.size = w.heap.size := by rw [hW]; rfl
  have HAW := hide haW
  have HKW := hide hkW
  have HZW := hide hzW
  clear haW hkW hzW hW HL HA
  go_wp2_with fail
  refine (HPX.out _).mono ?_
  rintro e W2 ⟨rfl, rfl⟩
  clear HPX
  go_upto_if 9 with fail
  have HB : Hid ((W2.alloc (.cells #[.bool neg] 4)).heap[w.heap.size]? = some (.cells #[.bool neg] 4)) := by rw [Hid, ← HZW.out]; exact heap_alloc_new W2 _
  go_cut [] from 10 (fun wc => AtL b s li wc ∧ Kept (one b) w wc ∧ Hid (wc.heap[w.heap.size]? = some (.cells #[.bool neg] 4)) ∧ w.heap.size + 1 ≤ wc.heap.size)
  case first =>
    cases neg with
    | true =>
      have HN := hide (HNX.out rfl (W2.alloc (.cells #[.bool true] 4)) (HAW.out.alloc _))
      go_wp2_with fail
      refine HN.out.mono ?_
      rintro e w1 ⟨rfl, ha1, hk1⟩
      have hz1 := hk1.size
      have hz2 : (W2.alloc (.cells #[.bool true] 4)).heap.size = w.heap.size + 1 := by simp [HZW.out]
      have hB1 := hide ((hk1.block w.heap.size (by omega) (fun e => by simp only [one] at e; omega)).trans HB.out)
      have hkk : Kept (one b) w w1 := (HKW.out.alloc _).trans hk1
      go_wp2_with fail
      go_meet
      case rel => exact ⟨ha1, hkk, hB1, by omega⟩
    | false =>
      have hin := HIN.out rfl
      go_wp2_with fail
      go_meet
      case rel => exact ⟨by rw [hin]; exact HAW.out.alloc _, HKW.out.alloc _, HB, by simp [HZW.out]⟩
  case rest =>
    obtain ⟨hac, hkc, HBC, hzc⟩ := hcut
    clear HAW HKW HB HNX HIN
    have HAC : Hid (AtL b s li (wc.alloc (.cells #[.slice none 0 0] 134))) := hac.alloc _
    have HKC : Hid (Kept (one b) w (wc.alloc (.cells #[.slice none 0 0] 134))) := hkc.alloc _
    have HBC2 : Hid ((wc.alloc (.cells #[.slice none 0 0] 134)).heap[w.heap.size]? = some (.cells #[.bool neg] 4)) := (((Kept.refl (fun _ => False) wc).alloc _).block w.heap.size (by omega) (fun e => e)).trans HBC.out
    have HCC : Hid ((wc.alloc (.cells #[.slice none 0 0] 134)).heap[wc.heap.size]? = some (.cells #[.slice none 0 0] 134)) := heap_alloc_new wc _
    have HSC : Hid ((wc.alloc (.cells #[.slice none 0 0] 134)).heap.size = wc.heap.size + 1) := by simp [Hid]
    have hbc := hac.lt
    cases li with
    | nil =>
      have HN := hide (next_short b s _ HAC.out)
      have HP2 : Hid (pBracket l0 = .error 8) := by rw [Hid, HPB.out]; rfl
      go_wp2_with fail
      refine HN.out.mono ?_
      rintro e w2 ⟨rfl, hk3⟩
      exact ⟨rfl, BrPost.err HP2.out (HKC.out.trans hk3)⟩
    | cons c l =>
      have HN := hide (next_ok b s c l _ HAC.out)
      simp only [List.length_cons] at hlis
      go_wp2_with fail
      refine HN.out.mono ?_
      rintro e w2 ⟨rfl, ha2, hk3⟩
      have hzs := HSC.out
      have hsz3 := hk3.size
      have hB2 := (hk3.block w.heap.size (by omega) (fun e => by simp only [one] at e; omega)).trans HBC2.out
      have hC2 := (hk3.block wc.heap.size (by omega) (fun e => by simp only [one] at e; omega)).trans HCC.out
      have hkw2 : Kept (one b) w w2 := HKC.out.trans hk3
      have HB2 := hide hB2
      have HC2 := hide hC2
      clear HN HAC HKC HBC HBC2 HCC HSC hB2 hC2 hk3 hac hkc
      generalize wc.heap.size = B2 at *
      go_wp2_with fail
      go_loopw [5] (fun v wr => ∃ (acc : List (UInt8 × UInt8)) (c : UInt8) (l : List UInt8) (V : Value), v = .int .u8 c.toNat ∧ AtL b s l wr ∧ acc.length + l.length + 1 ≤ s.size ∧ Hid (wr.heap[w.heap.size]? = some (.cells #[.bool neg] 4)) ∧
          Hid (wr.heap[B2]? = some (.cells #[V] 134)) ∧
          wr.ownsRow (B2 + 1) 136 2 V acc.length (spanRow acc) ∧ Kept (one b) w wr ∧ B2 + 1 ≤ wr.heap.size ∧ Hid (pBracket l0 = brOf neg (aheadS acc (pCls (c :: l))))) (fun _ wr => leftOf b s wr)
      case atStart => exact ⟨[], c, l, _, rfl, ha2, by simp; omega, HB2, HC2, World.ownsRow_nil _ _ _ _, hkw2, by omega, by rw [Hid, aheadS_nil]; exact HPB.out⟩
      case round =>
        clear HB2 HC2 hkw2 ha2 HPB hsz3 hzs hlis
        obtain ⟨acc, c, l, V, rfl, ha, hacc, HB, HC, hown, hkw, hzr, HP⟩ := hrel
        obtain ⟨ao, cp, rfl⟩ := rowSlice2 hown
        obtain ⟨c3, f3⟩ := one_of HC.out
        have hlf := ha.left
        by_cases hc93 : c = 93
        · subst hc93
          cases acc with
          | nil =>
            have HP2 : Hid (pBracket l0 = .error 1) := by rw [Hid, HP.out, aheadS_end]; rfl
            clear HP
            go_wp2_with (go_at_call 107; refine (giveUp_any _ _).mono ?_; rintro e w' ⟨rfl, rfl⟩)
            exact ⟨rfl, BrPost.err HP2.out hkw⟩
          | cons x xs =>
            have HP2 : Hid (pBracket l0 = .ok (.cls neg (x :: xs), l)) := by rw [Hid, HP.out, aheadS_end]; rfl
            have hn0 : (((x :: xs).length : Int) == 0) = false := by rw [beq_eq_false_iff_ne]; simp; omega
            have hfn : FnAt w.heap.size wr (.func (.func 111) #[] #[.pointer (some ⟨w.heap.size, 0, none⟩), .pointer (some ⟨B2, 0, none⟩)]) (.cls neg (x :: xs)) := ⟨w.heap.size, B2, ao, cp, Nat.le_refl _, by omega, rfl, HB.out, HC.out, ownsRow_low2 hown (by omega), by omega⟩
            have fin : BrPost b s l0 w (.returned (.func (.func 111) #[] #[.pointer (some ⟨w.heap.size, 0, none⟩), .pointer (some ⟨B2, 0, none⟩)])) wr := ⟨hkw, fun p q hx => by
              rw [HP2.out] at hx
              simp at hx
              obtain ⟨rfl, rfl⟩ := hx
              exact ⟨_, rfl, hfn, ha⟩, fun n hx => by rw [HP2.out] at hx; simp at hx⟩
            have FIN := hide fin
            clear HP HP2 hfn fin hown
            generalize (x :: xs).length = len at *
            go_wp2_with fail
            go_ret
            have hf := FIN.out
            rw [← HZW.out] at hf
            exact hf
        · have hcn : ¬ ((c.toNat : Nat) : Int) = 93 := fun e => hc93 (UInt8.toNat_inj.mp (by simp; omega))
          cases hps : pSpan c l with
          | error x =>
            have HP2 : Hid (pBracket l0 = .error x) := by rw [Hid, HP.out, aheadS_err hc93 hps]; rfl
            clear HP
            go_wp2_with fail
            refine wp_region_any (by kernel_rfl) ?_
            change wpAny _ _ _ _ _ _ _ (World.drew _)
            refine wpAny_take (i := 1) (v := .pointer (some ⟨b, 0, none⟩)) rfl (by kernel_rfl) (by kernel_rfl) (by kernel_rfl) (fun _ _ _ h => h) (Or.inl ⟨by rfl, by intro w; go_simp⟩) ?_
            refine wpAny_take (i := 2) (v := .int .u8 c.toNat) rfl (by kernel_rfl) (by kernel_rfl) (by kernel_rfl) (fun _ _ _ h => h) (Or.inl ⟨by rfl, by intro w; go_simp⟩) ?_
            refine wpAny_ready (rs := [0, 3]) (by kernel_rfl) (by simp) ?_
            refine AllReady.cons rfl (fun K hK => ?_) ?_
            · go_simp
              refine hK _ _ ?_
              clear hK K
              refine wpAny_ready (rs := [3]) (by kernel_rfl) (by simp) ?_
              refine AllReady.cons rfl (fun K hK => ?_) AllReady.nil
              go_simp
              refine (span_err b s c l x _ (ha.drewN 1) hps).mono ?_
              rintro e w3 ⟨rfl, hk3⟩
              exact ⟨rfl, BrPost.err HP2.out (hkw.trans (((Kept.refl _ _).drewN 1).trans hk3))⟩
            · refine AllReady.cons rfl (fun K hK => ?_) AllReady.nil
              go_simp
              refine (span_err b s c l x _ (ha.drewN 1) hps).mono ?_
              rintro e w3 ⟨rfl, hk3⟩
              exact ⟨rfl, BrPost.err HP2.out (hkw.trans (((Kept.refl _ _).drewN 1).trans hk3))⟩
          | ok y =>
            obtain ⟨x, q⟩ := y
            have hql := (pSpan_len hps).1
            have HP2 : Hid (pBracket l0 = brOf neg (aheadS (acc ++ [x]) (pCls q))) := by rw [Hid, HP.out, aheadS_ok hc93 hps]
            clear HP
            have hbr := ha.lt
            go_wp2_with fail
            go_region_law (first
              | (refine step_append_lies _ (by rfl) _ _ 134 (by rfl) (B2 + 1) 136 i0 (.agg #[.int .u8 0, .int .u8 0]) 2 2 Try.underlying134 hi hz0 hz1 hz2 rfl (by omega) (.slice ao acc.length cp) acc.length (spanRow acc) (by rfl) (hown3.alloc _) ⟨w3.heap.size, 0, none⟩ 1 1 [.int .u8 x.1.toNat, .int .u8 x.2.toNat] (by rfl) (by rfl) (fun j u hj => by match j, hj with | 0, hj => (simp at hj; subst hj; simp [Addr.add]) | 1, hj => (simp at hj; subst hj; simp [Addr.add]) | _ + 2, hj => (simp at hj)) (fun u hu => by simp at hu; rcases hu with rfl | rfl <;> rfl) (by omega) (by unfold maxLen; omega) (by omega) (by simp; omega) (w3.heap.size + 1) (by simp) ?_; intro g cap w4 hown4 hgrow hat hlt4; have hk4 : Kept (fun j => j = b ∨ B2 + 1 ≤ j) wr w4 := (((hk3a.mono (fun j _ e => .inl e)).alloc _).grown hgrow (fun j hj => .inl (.inr (hown.lt j hj).1))); have hB4 := (hk4.block B2 (by omega) (fun e => by rcases e with e | e <;> omega)).trans HC.out; have hc4 := (one_of hB4).1; have hf4 := (one_of hB4).2)
              | (go_simp; refine (span_ok b s c l q x _ (ha.drewN 1) hps).mono ?_; rintro e w3 ⟨rfl, ha3, hk3⟩; have hk3a : Kept (one b) wr w3 := ((Kept.refl _ _).drewN 1).trans hk3; have hc3 : w3.cell? ⟨B2, 0, none⟩ = some (.slice ao acc.length cp) := hk3a.cell' c3 (fun e => by simp only [one] at e; omega); have hc3a : ∀ o, (w3.alloc o).cell? ⟨B2, 0, none⟩ = some (.slice ao acc.length cp) := fun o => ((Kept.refl (fun _ => False) w3).alloc o).cell' hc3 (fun e => e); have hown3 := hk3a.owns hown (fun j hv hs => by have := (hown.lt j hv).1; simp only [one] at hs; omega); have hsz3 : wr.heap.size ≤ w3.heap.size := hk3a.size))
            all_goals
              rw [← spanRow_snoc] at hown4
              have hol : (acc ++ [x]).length = acc.length + 1 := by simp
              have HBW := hide ((hk4.block w.heap.size (by omega) (fun e => by rcases e with e | e <;> omega)).trans HB.out)
              have HCW := hide (setCell_heap1 hB4 0 (.slice (some ⟨g, 0, none⟩) (acc.length + 1) cap))
              have ha4 : AtL b s q w4 := (ha3.alloc _).kept (S := fun j => some j = (Value.slice ao acc.length cp).ownBlock) ⟨hgrow.os, hgrow.tape, hgrow.output, hgrow.size, fun j hj hs => hgrow.block j hj hs⟩ (fun e => by have := hown.lt b e.symm; omega)
              have hkw4 : Kept (one b) w w4 := ((hkw.mono (T := fun j => one b j ∨ w.heap.size ≤ j) (fun _ _ e => .inl e)).trans (hk4.mono (fun j _ e => by rcases e with e | e; exact .inl e; exact .inr (by omega)))).mono (fun j hj e => by rcases e with e | e; exact e; omega)
              have hz4 := hk4.size
              clear c3 f3 hgrow hat hlt4 hown3 hown hk3 hk3a ha3 hc3 hc3a HB HC hkw hsz3 hk4 hB4
              have HA5 : Hid (AtL b s q (w4.setCell ⟨B2, 0, none⟩ (.slice (some ⟨g, 0, none⟩) (acc.length + 1) cap))) := ha4.setOther (by omega) _
              have HK5 : Hid (Kept (one b) w (w4.setCell ⟨B2, 0, none⟩ (.slice (some ⟨g, 0, none⟩) (acc.length + 1) cap))) := hkw4.setCell (p := ⟨B2, 0, none⟩) (.inr (by simp only; omega)) _
              have HB5 : Hid ((w4.setCell ⟨B2, 0, none⟩ (.slice (some ⟨g, 0, none⟩) (acc.length + 1) cap)).heap[w.heap.size]? = some (.cells #[.bool neg] 4)) := (((Kept.refl (one B2) w4).set1 0 _).block w.heap.size (by omega) (fun e => by simp only [one] at e; omega)).trans HBW.out
              have HO5 : Hid ((w4.setCell ⟨B2, 0, none⟩ (.slice (some ⟨g, 0, none⟩) (acc.length + 1) cap)).ownsRow (B2 + 1) 136 2 (.slice (some ⟨g, 0, none⟩) (acc.length + 1) cap) (acc.length + 1) (spanRow (acc ++ [x]))) := ((Kept.refl (one B2) w4).set1 0 _).owns hown4 (fun j hj e => by have := (hown4.lt j hj).1; simp only [one] at e; omega)
              have hz5 : (w4.setCell ⟨B2, 0, none⟩ (.slice (some ⟨g, 0, none⟩) (acc.length + 1) cap)).heap.size = w4.heap.size := by simp
              clear hown4 ha4 hkw4 HBW
              cases q with
              | nil =>
                have HN := hide (next_short b s _ HA5.out)
                have HP3 : Hid (pBracket l0 = .error 8) := by rw [Hid, HP2.out]; rfl
                go_wp2_with fail
                refine HN.out.mono ?_
                rintro e w6 ⟨rfl, hk6⟩
                exact ⟨rfl, BrPost.err HP3.out (HK5.out.trans hk6)⟩
              | cons c2 q =>
                have HN := hide (next_ok b s c2 q _ HA5.out)
                simp only [List.length_cons] at hql
                go_wp2_with fail
                refine HN.out.mono ?_
                rintro e w6 ⟨rfl, ha6, hk6⟩
                have hz6 := hk6.size
                have hlf6 := ha6.left
                have HB6 := hide ((hk6.block w.heap.size (by omega) (fun e => by simp only [one] at e; omega)).trans HB5.out)
                have HC6 := hide ((hk6.block B2 (by omega) (fun e => by simp only [one] at e; omega)).trans HCW.out)
                have hown6 := hk6.owns HO5.out (fun j hj e => by have := (HO5.out.lt j hj).1; simp only [one] at e; omega)
                have hkw6 : Kept (one b) w w6 := HK5.out.trans hk6
                clear HN HA5 HK5 HB5 HCW HO5
                go_wp2_with fail
                go_roundw
                case rel => exact ⟨acc ++ [x], c2, q, _, rfl, ha6, by rw [hol]; omega, HB6, HC6, by rw [hol]; exact hown6, hkw6, by omega, HP2⟩
                case measure => rw [hlf6, hlf]; omega
end Go.Proofs.Ytkjnalbnhmpopaa
