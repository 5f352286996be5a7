/- WALK of HashLast. -/
import Derived.Test.YtnobcdhlagfhmaaHBeg
import Derived.Handy
namespace Go.Proofs.Ytnobcdhlagfhmaa
open Go.RowKit

theorem lastP_append (m l : List Pr) (f : ByteArray) : lastP (m ++ l) f = match lastP l f with | some p => some p | none => lastP m f := by
  unfold lastP
  rw [List.reverse_append, List.find?_append]
  cases List.find? (fun p => decide (p.1 = f)) l.reverse <;> rfl
theorem lastP_tog {there : List Pr} (h : RisesP there) (l : List Pr) (f : ByteArray) : lastP (togP there l) f = lastP (there ++ l) f := by
  cases hm : lastP (there ++ l) f with
  | some q =>
    have hq := lastP_field hm
    have h1 : q ∈ togP there l := (mem_togP h l q).2 (by rw [hq]; exact hm)
    have h2 := (lastP_rises (rises_togP h l)).2 h1
    rwa [hq] at h2
  | none =>
    cases hk : lastP (togP there l) f with
    | none => rfl
    | some q =>
      have h1 := (mem_togP h l q).1 (lastP_mem hk)
      rw [lastP_field hk, hm] at h1
      cases h1
theorem idx_last {L : List Pr} {f : ByteArray} : idxF (fieldIs f) L < 0 ↔ lastP L f = none := by
  constructor
  · intro h
    unfold lastP
    rw [List.find?_eq_none]
    intro q hq
    have := idxF_none h q (by simpa using hq)
    simpa [fieldIs] using this
  · intro h
    refine Decidable.not_not.1 fun hn => ?_
    obtain ⟨i, hi⟩ : ∃ i : Nat, idxF (fieldIs f) L = i := ⟨(idxF (fieldIs f) L).toNat, by omega⟩
    obtain ⟨h1, h2, -⟩ := idxF_at hi
    obtain ⟨q, hq⟩ := lastP_some (List.getElem_mem h1)
    have e : L[i].1 = f := by simpa [fieldIs] using h2
    rw [e, h] at hq
    cases hq
/-- the value of a pair that was found -/
def valP : Option Pr → ByteArray
  | some p => p.2
  | none => ⟨#[]⟩
theorem get_last {x : Itm} (h : asI x 4 = 0) (f : ByteArray) : getS x f = valP (lastP x.p f) ∧ getE x f = if (lastP x.p f).isSome = true then 0 else 5 := by
  rw [getS, getE, if_neg (by simp [h]), if_neg (by simp [h])]
  cases hl : lastP x.p f with
  | some p => exact ⟨rfl, by rw [if_neg (fun hn => by rw [idx_last.1 hn] at hl; cases hl)]; rfl⟩
  | none => exact ⟨rfl, by rw [if_pos (idx_last.2 hl)]; rfl⟩
theorem riseToP_of {l : List Pr} (h : RisesP l) : riseTo cmpP l l.length = true := by
  rw [riseTo, List.all_eq_true]
  intro j hj
  rw [List.mem_range] at hj
  rw [RisesP, List.pairwise_iff_getElem] at h
  have h1 := h j (j + 1) (by omega) (by omega) (by omega)
  have e1 : l[j]! = l[j]'(by omega) := by simp [show j < l.length by omega]
  have e2 : l[j + 1]! = l[j + 1]'(by omega) := by simp [show j + 1 < l.length by omega]
  rw [e1, e2, decide_eq_true_eq]
  exact (cmpT_lt _ _).2 h1
theorem hash_as {l : List Pr} (hr : RisesP l) (hne : l ≠ []) (h24 : l.length ≤ 24) (hz : ∀ t ∈ l, longP t = false) : asI ⟨4, ⟨#[]⟩, [], l, []⟩ 4 = 0 := by
  have h1 : chkI ⟨4, ⟨#[]⟩, [], l, []⟩ = 0 := by
    unfold chkI
    have ho : otherI ⟨4, ⟨#[]⟩, [], l, []⟩ = false := by simp [otherI]
    have hs : sizeT l.length (l.any longP) = 0 := by
      have h2 : l.any longP = false := by
        rw [List.any_eq_false]
        intro t ht
        simp [hz t ht]
      have h3 : l.length ≠ 0 := fun e => hne (List.eq_nil_of_length_eq_zero e)
      unfold sizeT
      rw [if_neg h3, if_neg (by simp [h2]; omega)]
    rw [if_neg (by simp), ho, if_neg (by decide), if_neg (by simp), if_neg (by simp), if_pos rfl]
    unfold hashT
    rw [if_neg (by simp [hs]), if_pos (riseToP_of hr)]
  unfold asI
  split
  · rfl
  · rw [if_neg (by simp [h1]), if_neg (by simp)]
theorem put_right {x : Itm} {l : List Pr} (h : putE x l = 0) : asI x 4 = 0 ∧ asI (putI x l) 4 = 0 ∧ (putI x l).p = togP x.p l := by
  have h0 : asI x 4 = 0 := by
    by_cases h0 : asI x 4 = 0
    · exact h0
    · rw [putE, if_pos h0] at h; exact h
  obtain ⟨hr, h24, h60⟩ := asI_hash h0
  have h2 : ¬ (24 < (togP x.p l).length ∨ l.any longP = true) ∧ l ≠ [] := by
    rw [putE, if_neg (by simp [h0])] at h
    split at h
    · cases h
    · rename_i h2
      split at h
      · cases h
      · rename_i h3
        exact ⟨h2, h3⟩
  have hne : togP x.p l ≠ [] := fun e => by
    cases l with
    | nil => exact h2.2 rfl
    | cons p r =>
      obtain ⟨q, hq⟩ := lastP_some (ms := x.p ++ p :: r) (p := p) (by simp)
      have := (mem_togP hr (p :: r) q).2 (by rw [lastP_field hq]; exact hq)
      rw [e] at this
      cases this
  have hi : putI x l = ⟨4, ⟨#[]⟩, [], togP x.p l, []⟩ := by rw [putI, if_pos h, kindP, if_neg hne]
  refine ⟨h0, ?_, by rw [hi]⟩
  rw [hi]
  refine hash_as (rises_togP hr l) hne (by omega) fun t ht => ?_
  have hm := lastP_mem ((mem_togP hr l t).1 ht)
  rcases List.mem_append.1 hm with h1 | h1
  · have := h60 t h1
    simp [longP, longT]
    omega
  · have h3 : l.any longP = false := by
      cases hb : l.any longP
      · rfl
      · exact absurd (.inr hb) h2.1
    rw [List.any_eq_false] at h3
    simpa using h3 t h1
/-- what is found behind a put -/
theorem put_get {x : Itm} {l : List Pr} (h : putE x l = 0) (f : ByteArray) :
    ((lastP l f).isSome = true → getS (putI x l) f = valP (lastP l f) ∧ getE (putI x l) f = 0) ∧ ((lastP l f).isSome = false → getS (putI x l) f = getS x f ∧ getE (putI x l) f = getE x f) := by
  obtain ⟨h0, h1, h2⟩ := put_right h
  obtain ⟨g1, g2⟩ := get_last h1 f
  obtain ⟨g3, g4⟩ := get_last h0 f
  rw [h2, lastP_tog (asI_hash h0).1, lastP_append] at g1 g2
  constructor
  · intro hs
    cases hl : lastP l f with
    | none => rw [hl] at hs; cases hs
    | some p => rw [hl] at g1 g2; exact ⟨g1, g2⟩
  · intro hs
    cases hl : lastP l f with
    | some p => rw [hl] at hs; cases hs
    | none => rw [hl] at g1 g2; exact ⟨g1.trans g3.symm, g2.trans g4.symm⟩
set_option maxRecDepth 100000 in
set_option maxHeartbeats 8000000 in
theorem hashLast_walk (v : Value) (x : Itm) (al : Option Addr) (cl : Nat) (l : List Pr) (f : ByteArray) (w : World) (h : ItemIs w v x) (hl : PairsAt w al l) (hlz : ∀ t ∈ l, t.1.size ≤ maxLen ∧ t.2.size ≤ maxLen) (hll : l.length ≤ 1400000) :
    Calls Try.prog 4 #[v, .slice al l.length cl, .string f] w fun e w' => e = .returned (.bool true) ∧ Below w.heap.size w w' := by
  have HI := hide h
  have HL := hide hl
  have HLZ := hide hlz
  obtain ⟨⟨a1, c1, a2, c2, a3, c3, rfl, -, -, -⟩, -, -, -, -, -, -, -⟩ := h
  clear hl hlz
  have HG := hide hashBegun_any
  have HP : Hid (∀ W, Below w.heap.size w W → Calls Try.prog 6 #[.agg #[.int .i64 x.k, .string x.t, .slice a1 x.l.length c1, .slice a2 x.p.length c2, .slice a3 x.s.length c3], .slice al l.length cl] W fun e w' => ∃ u, (e = .returned (.tuple #[u, .int .i64 (putN x l), .int .i64 (putE x l)]) ∧ ItemIs w' u (putI x l)) ∧ Below W.heap.size W w') := fun W hW => (hashPut_any _ x al cl l W (HI.out.below hW) (HL.out.below hW) HLZ.out hll).mono fun e w' ⟨u, h1, h2, h3⟩ => ⟨u, ⟨h1, h2.is⟩, h3⟩
  have HX : Hid (∀ W, Below w.heap.size w W → Calls Try.prog 7 #[.agg #[.int .i64 x.k, .string x.t, .slice a1 x.l.length c1, .slice a2 x.p.length c2, .slice a3 x.s.length c3], .string f] W fun e w' => e = .returned (.tuple #[.string (getS x f), .int .i64 (getE x f)]) ∧ Below W.heap.size W w') := fun W hW => hashGet_any _ x f W (HI.out.below hW)
  have HA : Hid (∀ u W, ItemIs W u (putI x l) → Calls Try.prog 7 #[u, .string f] W fun e w' => e = .returned (.tuple #[.string (getS (putI x l) f), .int .i64 (getE (putI x l) f)]) ∧ Below W.heap.size W w') := fun u W h => hashGet_any u _ f W h
  by_cases h0 : putE x l = 0
  · have HPG := hide (put_get h0 f)
    rw [h0] at HP
    clear h0 HI HLZ
    generalize getS (putI x l) f = GS at *
    generalize getE (putI x l) f = GE at *
    generalize getS x f = XS at *
    generalize getE x f = XE at *
    generalize putI x l = PI at *
    generalize putN x l = PN at *
    generalize x.k = k at *
    generalize x.t = t at *
    generalize x.l.length = n1 at *
    generalize x.p.length = n2 at *
    generalize x.s.length = n3 at *
    go_enter Try.func4, Try.ntmps4
    go_wp2_with fail
    have C_0 : Below w.heap.size w (w.alloc (.cells #[.int .i64 k, .string t, .slice a1 n1 c1, .slice a2 n2 c2, .slice a3 n3 c3] 26)) := (Below.refl _ w).alloc (Nat.le_refl _) _
    have X_1 := hide (BoxAt.new w (.int .i64 k) (.string t) (.slice a1 n1 c1) (.slice a2 n2 c2) (.slice a3 n3 c3) 26)
    refine (HG.out _).mono ?_
    rintro e w1 ⟨rfl, hb1⟩
    have C_2 : Below w.heap.size w w1 := C_0.trans (hb1.mono C_0.size)
    clear C_0
    have X_3 := hide (X_1.out.below hb1)
    clear X_1
    clear hb1
    obtain ⟨xc0, xc1, xc2, xc3, xc4, xlt⟩ := X_3.out
    go_wp2_with fail
    refine (HP.out _ C_2).mono ?_
    rintro e w2 ⟨uA, ⟨rfl, iA⟩, hb2⟩
    clear xc0 xc1 xc2 xc3 xc4 xlt
    have C_4 : Below w.heap.size w w2 := C_2.trans (hb2.mono C_2.size)
    clear C_2
    have X_5 := hide (X_3.out.below hb2)
    clear X_3
    clear hb2
    obtain ⟨kA, tA, aA1, nA1, cA1, aA2, nA2, cA2, aA3, nA3, cA3, rfl⟩ := iA.shapeH
    have IA_6 := hide (iA)
    clear iA
    go_wp2_with fail
    have X_7 := hide (X_5.out.below ((Below.refl _ w2).alloc (Nat.le_refl _) (.cells #[.int .i64 kA, .string tA, .slice aA1 nA1 cA1, .slice aA2 nA2 cA2, .slice aA3 nA3 cA3] 26)))
    clear X_5
    have IA_8 := hide (IA_6.out.below ((Below.refl _ w2).alloc (Nat.le_refl _) (.cells #[.int .i64 kA, .string tA, .slice aA1 nA1 cA1, .slice aA2 nA2 cA2, .slice aA3 nA3 cA3] 26)))
    clear IA_6
    have C_9 : Below w.heap.size w (w2.alloc (.cells #[.int .i64 kA, .string tA, .slice aA1 nA1 cA1, .slice aA2 nA2 cA2, .slice aA3 nA3 cA3] 26)) := C_4.alloc C_4.size (.cells #[.int .i64 kA, .string tA, .slice aA1 nA1 cA1, .slice aA2 nA2 cA2, .slice aA3 nA3 cA3] 26)
    clear C_4
    have A_10 := hide (BoxAt.new w2 (.int .i64 kA) (.string tA) (.slice aA1 nA1 cA1) (.slice aA2 nA2 cA2) (.slice aA3 nA3 cA3) 26)
    generalize hWA : w2.alloc (.cells #[.int .i64 kA, .string tA, .slice aA1 nA1 cA1, .slice aA2 nA2 cA2, .slice aA3 nA3 cA3] 26) = WA at *
    clear hWA
    go_loopw [10, 11, 12] (fun wv fv iv wr => ∃ q : Nat, q ≤ l.length ∧ wv = .string (valP (lastP (l.take q) f)) ∧ fv = .bool (lastP (l.take q) f).isSome ∧ iv = .int .i64 q ∧ wr = WA) (fun _ _ iv _ => l.length - (intOf iv).toNat)
    case atStart => exact ⟨0, Nat.zero_le _, rfl, rfl, rfl, rfl⟩
    case round =>
      obtain ⟨q, hq, rfl, rfl, rfl, hwr⟩ := hrel
      subst hwr
      by_cases hlt : q < l.length
      · have hlt' : ((q : Nat) : Int) < ((l.length : Nat) : Int) := by omega
        obtain ⟨g0, o0, rfl, hcs⟩ : ∃ g o, al = some ⟨g, o, none⟩ ∧ ∀ i (h : i < l.length), w.cell? ⟨g, o + i * 2, none⟩ = some (.string l[i].1) ∧ w.cell? ⟨g, o + i * 2 + 1, none⟩ = some (.string l[i].2) := by
          rcases HL.out with h | h
          · exact absurd hlt (by rw [h]; simp)
          · exact h
        have d0 := (C_9.cell (p := ⟨g0, o0 + q * 2, none⟩) (World.block_lt_of_cell? _ _ (hcs q hlt).1)).trans (hcs q hlt).1
        have d1 := (C_9.cell (p := ⟨g0, o0 + q * 2 + 1, none⟩) (World.block_lt_of_cell? _ _ (hcs q hlt).2)).trans (hcs q hlt).2
        have HT : Hid (lastP (l.take (q + 1)) f = if l[q].1 = f then some l[q] else lastP (l.take q) f) := by rw [Hid, List.take_succ_eq_append_getElem hlt, lastP_snoc]
        generalize l[q] = X at *
        obtain ⟨X1, X2⟩ := X
        have hbq := beq_fd X1 f
        clear hcs HPG HX HA HG HP
        by_cases hXf : X1 = f
        · have HT2 : Hid (lastP (l.take (q + 1)) f = some (X1, X2)) := by rw [Hid, HT.out, if_pos hXf]
          rw [decide_eq_true hXf] at hbq
          clear HT hXf
          generalize lastP (l.take q) f = LP at *
          go_wp2_with fail
          go_roundw
          case rel => exact ⟨q + 1, by omega, by rw [HT2.out]; rfl, by rw [HT2.out]; rfl, by go_num, trivial⟩
          case measure => simp [intOf]; omega
        · have HT2 : Hid (lastP (l.take (q + 1)) f = lastP (l.take q) f) := by rw [Hid, HT.out, if_neg hXf]
          rw [decide_eq_false hXf] at hbq
          clear HT hXf
          go_wp2_with fail
          go_roundw
          case rel => exact ⟨q + 1, by omega, by rw [HT2.out], by rw [HT2.out], by go_num, trivial⟩
          case measure => simp [intOf]; omega
      · have hge : ¬ ((q : Nat) : Int) < ((l.length : Nat) : Int) := by omega
        obtain rfl : q = l.length := by omega
        rw [List.take_length]
        obtain ⟨ac0, ac1, ac2, ac3, ac4, alt⟩ := A_10.out
        go_wp2_with fail
        refine (HA.out _ _ IA_8.out).mono ?_
        rintro e w3 ⟨rfl, hb3⟩
        clear ac0 ac1 ac2 ac3 ac4 alt
        have C_11 : Below w.heap.size w w3 := C_9.trans (hb3.mono C_9.size)
        clear C_9
        have X_12 := hide (X_7.out.below hb3)
        have IA_12 := hide (IA_8.out.below hb3)
        have A_12 := hide (A_10.out.below hb3)
        clear X_7 IA_8 A_10
        clear hb3
        generalize hLP : lastP l f = LP at *
        have HLP := hide hLP
        clear hLP HL
        cases hFV : LP.isSome with
        | true =>
          obtain ⟨rfl, rfl⟩ := HPG.out.1 hFV
          clear HPG
          go_wp2_with fail
          go_ret
          exact ⟨rfl, C_11⟩
        | false =>
          obtain ⟨rfl, rfl⟩ := HPG.out.2 hFV
          clear HPG
          obtain ⟨xc0, xc1, xc2, xc3, xc4, xlt⟩ := X_12.out
          go_wp2_with fail
          refine (HX.out _ C_11).mono ?_
          rintro e w4 ⟨rfl, hb4⟩
          clear xc0 xc1 xc2 xc3 xc4 xlt
          have C_13 : Below w.heap.size w w4 := C_11.trans (hb4.mono C_11.size)
          clear C_11
          have X_14 := hide (X_12.out.below hb4)
          have IA_14 := hide (IA_12.out.below hb4)
          have A_14 := hide (A_12.out.below hb4)
          clear X_12 IA_12 A_12
          clear hb4
          go_wp2_with fail
          go_ret
          exact ⟨rfl, C_13⟩
  · have hn0 : putN x l = 0 := by rw [putN, if_neg h0]
    rw [hn0] at HP
    clear hn0 HX HA HI HL HLZ
    generalize putE x l = PE at *
    generalize putI x l = PI at *
    generalize x.k = k at *
    generalize x.t = t at *
    generalize x.l.length = n1 at *
    generalize x.p.length = n2 at *
    generalize x.s.length = n3 at *
    go_enter Try.func4, Try.ntmps4
    go_wp2_with fail
    have C_0 : Below w.heap.size w (w.alloc (.cells #[.int .i64 k, .string t, .slice a1 n1 c1, .slice a2 n2 c2, .slice a3 n3 c3] 26)) := (Below.refl _ w).alloc (Nat.le_refl _) _
    have X_1 := hide (BoxAt.new w (.int .i64 k) (.string t) (.slice a1 n1 c1) (.slice a2 n2 c2) (.slice a3 n3 c3) 26)
    refine (HG.out _).mono ?_
    rintro e w1 ⟨rfl, hb1⟩
    have C_2 : Below w.heap.size w w1 := C_0.trans (hb1.mono C_0.size)
    clear C_0
    have X_3 := hide (X_1.out.below hb1)
    clear X_1
    clear hb1
    obtain ⟨xc0, xc1, xc2, xc3, xc4, xlt⟩ := X_3.out
    go_wp2_with fail
    refine (HP.out _ C_2).mono ?_
    rintro e w2 ⟨uA, ⟨rfl, iA⟩, hb2⟩
    clear xc0 xc1 xc2 xc3 xc4 xlt
    have C_4 : Below w.heap.size w w2 := C_2.trans (hb2.mono C_2.size)
    clear C_2
    have X_5 := hide (X_3.out.below hb2)
    clear X_3
    clear hb2
    obtain ⟨kA, tA, aA1, nA1, cA1, aA2, nA2, cA2, aA3, nA3, cA3, rfl⟩ := iA.shapeH
    have IA_6 := hide (iA)
    clear iA
    go_wp2_with fail
    have X_7 := hide (X_5.out.below ((Below.refl _ w2).alloc (Nat.le_refl _) (.cells #[.int .i64 kA, .string tA, .slice aA1 nA1 cA1, .slice aA2 nA2 cA2, .slice aA3 nA3 cA3] 26)))
    clear X_5
    have IA_8 := hide (IA_6.out.below ((Below.refl _ w2).alloc (Nat.le_refl _) (.cells #[.int .i64 kA, .string tA, .slice aA1 nA1 cA1, .slice aA2 nA2 cA2, .slice aA3 nA3 cA3] 26)))
    clear IA_6
    have C_9 : Below w.heap.size w (w2.alloc (.cells #[.int .i64 kA, .string tA, .slice aA1 nA1 cA1, .slice aA2 nA2 cA2, .slice aA3 nA3 cA3] 26)) := C_4.alloc C_4.size (.cells #[.int .i64 kA, .string tA, .slice aA1 nA1 cA1, .slice aA2 nA2 cA2, .slice aA3 nA3 cA3] 26)
    clear C_4
    have A_10 := hide (BoxAt.new w2 (.int .i64 kA) (.string tA) (.slice aA1 nA1 cA1) (.slice aA2 nA2 cA2) (.slice aA3 nA3 cA3) 26)
    clear X_7 IA_8 A_10 HG HP
    go_wp2_with fail
    go_ret
    exact ⟨rfl, C_9⟩
end Go.Proofs.Ytnobcdhlagfhmaa
