/- WALKS of the reference's scores: RankOf, RangeScores, WithinScores. -/
import Derived.Test.YtnobcdhlagfhmaaGreatZPla
import Derived.Test.YtnobcdhlagfhmaaGreatRHas
import Derived.Test.YtnobcdhlagfhmaaGreatRRng
import Derived.Test.YtnobcdhlagfhmaaGreatRInt
import Derived.Test.YtnobcdhlagfhmaaGreatRAs
import Derived.Handy
namespace Go.Proofs.YtnobcdhlagfhmaaGreat.Z
open Go.RowKit

set_option maxRecDepth 100000 in
set_option maxHeartbeats 2000000 in
theorem rankOf_any (v : Value) (x : Itm) (f : ByteArray) (w : World) (h : ItemIs w v x) :
    Calls Tryz.prog 12 #[v, .string f] w fun e w' => e = .returned (.tuple #[.int .i64 (rankN x f), .int .i64 (rankE x f)]) ∧ Below w.heap.size w w' := by
  have HC : Hid (∀ W, Below w.heap.size w W → Calls Tryz.prog 33 #[v, .int .i64 5] W fun e w' => e = .returned (.int .i64 (asI x 5)) ∧ Below W.heap.size W w') := fun W hW => refAs_any v x 5 W (h.below hW)
  obtain ⟨⟨a1, c1, a2, c2, a3, c3, rfl, -, -, hx3⟩, -, -, -, -, -, -, -⟩ := h
  have HX := hide hx3
  clear hx3
  by_cases h0 : asI x 5 = 0
  · have AS := asI_score h0
    have h24 := AS.n
    rw [h0] at HC
    obtain ⟨GS, GE, hGS, hGE, HG⟩ : ∃ GS GE, GS = rankN x f ∧ GE = rankE x f ∧ Hid (((∀ i (hi : i < x.s.length), x.s[i].2 ≠ f) → GS = 0 ∧ GE = 5) ∧ ∀ (i : Nat) (hi : i < x.s.length), x.s[i].2 = f → GS = i ∧ GE = 0) := by
      refine ⟨_, _, rfl, rfl, fun hno => ?_, fun i hi he => ?_⟩
      · have hneg : idxF (memIs f) x.s < 0 := by
          refine Decidable.not_not.1 fun hn => ?_
          obtain ⟨i, hi⟩ : ∃ i : Nat, idxF (memIs f) x.s = i := ⟨(idxF (memIs f) x.s).toNat, by omega⟩
          obtain ⟨h1, h2, -⟩ := idxF_at hi
          exact hno i h1 (by simpa [memIs] using h2)
        have e : rankE x f = 5 := by rw [rankE, if_neg (by simp [h0]), if_pos hneg]
        exact ⟨by rw [rankN, e, if_neg (by decide)], e⟩
      · obtain ⟨r1, -, r3⟩ := rank_at h0 rfl AS.o (List.getElem_mem hi)
        have r4 := r3 i hi rfl
        rw [he] at r1 r4
        exact ⟨r4, r1⟩
    rw [← hGS, ← hGE]
    clear hGS hGE h0 AS
    go_enter Tryz.func12, Tryz.ntmps12
    go_wp2_with fail
    have C0 : Below w.heap.size w (w.alloc (.cells #[.int .i64 x.k, .string x.t, .slice a1 x.l.length c1, .slice a2 x.p.length c2, .slice a3 x.s.length c3] 26)) := (Below.refl _ w).alloc (Nat.le_refl _) _
    refine (HC.out _ C0).mono ?_
    rintro e w1 ⟨rfl, hb1⟩
    have C1 := C0.trans (hb1.mono C0.size)
    obtain ⟨hc, hf⟩ := bcell hb1
    have q2 : w1.cell? ⟨w.heap.size, 4, none⟩ = some (.slice a3 x.s.length c3) := (hc _ _ (by simp)).trans (by simp [go_sem])
    clear hc hf hb1 C0 HC
    go_wp2_with fail
    go_loop [7] (fun i => ∃ k : Nat, k ≤ x.s.length ∧ i = .int .i64 k ∧ Hid (∀ j (hj : j < x.s.length), j < k → x.s[j].2 ≠ f)) (fun i => x.s.length - (intOf i).toNat)
    case atStart => exact ⟨0, Nat.zero_le _, rfl, fun j hj h => absurd h (by omega)⟩
    case round =>
      obtain ⟨k, hk, rfl, HA⟩ := hrel
      by_cases hlt : k < x.s.length
      · have hlt' : ((k : Nat) : Int) < ((x.s.length : Nat) : Int) := by omega
        obtain ⟨g, o, rfl, hcs⟩ : ∃ g o, a3 = some ⟨g, o, none⟩ ∧ ∀ i (h : i < x.s.length), w.cell? ⟨g, o + i * 2, none⟩ = some (.int .i64 x.s[i].1) ∧ w.cell? ⟨g, o + i * 2 + 1, none⟩ = some (.string x.s[i].2) := by
          rcases HX.out with h | h
          · rw [h] at hlt; simp at hlt
          · exact h
        have d0 := (C1.cell (p := ⟨g, o + k * 2, none⟩) (World.block_lt_of_cell? _ _ (hcs k hlt).1)).trans (hcs k hlt).1
        have d1 := (C1.cell (p := ⟨g, o + k * 2 + 1, none⟩) (World.block_lt_of_cell? _ _ (hcs k hlt).2)).trans (hcs k hlt).2
        have hbq := beq_fd x.s[k].2 f
        have HT : Hid (x.s[k].2 ≠ f → ∀ j (hj : j < x.s.length), j < k + 1 → x.s[j].2 ≠ f) := fun hne j hj h1 => by
          by_cases e : j = k
          · subst e; exact hne
          · exact HA.out j hj (by omega)
        have HF := hide (HG.out.2 k hlt)
        clear hcs HX HG
        generalize x.s[k] = X at *
        obtain ⟨X1, X2⟩ := X
        dsimp only at d0 d1 hbq HT HF
        by_cases hXf : X2 = f
        · have HE := hide (HF.out hXf)
          rw [decide_eq_true hXf] at hbq
          clear HT HF hXf
          go_wp2_with fail
          refine bodyPost_ret (v := .tuple #[.int .i64 k, .int .i64 0]) (by simp [results, Tryz.results12, go_sem]) rfl ⟨?_, C1⟩
          rw [HE.out.1, HE.out.2]
        · have HT2 := hide (HT.out hXf)
          rw [decide_eq_false hXf] at hbq
          clear HT HF hXf
          go_wp2_with fail
          go_round
          case rel => exact ⟨k + 1, by omega, by go_num, HT2.out⟩
          case measure => simp [intOf]; omega
      · have hge : ¬ ((k : Nat) : Int) < ((x.s.length : Nat) : Int) := by omega
        obtain rfl : k = x.s.length := by omega
        have HE := hide (HG.out.1 (fun i hi => HA.out i hi hi))
        clear HG HA HX
        go_wp2_with fail
        refine bodyPost_ret (v := .tuple #[.int .i64 0, .int .i64 5]) (by simp [results, Tryz.results12, go_sem]) rfl ⟨?_, C1⟩
        rw [HE.out.1, HE.out.2]
  · have e : rankE x f = asI x 5 := by rw [rankE, if_pos h0]
    rw [rankN, e, if_neg h0]
    clear e
    have h0' : (asI x 5 == 0) = false := by rw [beq_eq_false_iff_ne]; exact h0
    generalize asI x 5 = E at *
    go_enter Tryz.func12, Tryz.ntmps12
    go_wp2_with fail
    have C0 : Below w.heap.size w (w.alloc (.cells #[.int .i64 x.k, .string x.t, .slice a1 x.l.length c1, .slice a2 x.p.length c2, .slice a3 x.s.length c3] 26)) := (Below.refl _ w).alloc (Nat.le_refl _) _
    refine (HC.out _ C0).mono ?_
    rintro e w1 ⟨rfl, hb1⟩
    have C1 := C0.trans (hb1.mono C0.size)
    go_wp2_with fail
    refine bodyPost_ret (v := .tuple #[.int .i64 0, .int .i64 E]) (by simp [results, Tryz.results12, go_sem]) rfl ⟨rfl, C1⟩
theorem askTo_congr {p p2 : Nat → Int → Bool} {l : List Sc} (k : Nat) (hk : k ≤ l.length) (h : ∀ i (hi : i < l.length), p i l[i].1 = p2 i l[i].1) : askTo p l k = askTo p2 l k := by
  induction k with
  | zero => simp [askTo]
  | succ k ih =>
    have e := h k (by omega)
    cases hp : p k l[k].1 with
    | true => rw [askTo_yes (by omega) hp, askTo_yes (by omega) (by rw [← e, hp]), ih (by omega)]
    | false => rw [askTo_no (by omega) hp, askTo_no (by omega) (by rw [← e, hp]), ih (by omega)]
set_option maxRecDepth 100000 in
set_option maxHeartbeats 4000000 in
theorem rangeScores_any (v : Value) (x : Itm) (a b : Int) (w : World) (h : ItemIs w v x) (ha1 : -1000 ≤ a) (ha2 : a ≤ 1000) (hb1 : -1000 ≤ b) (hb2 : b ≤ 1000) :
    Calls Tryz.prog 13 #[v, .int .i64 a, .int .i64 b] w fun e w' => ∃ ad c, e = .returned (.tuple #[.slice ad (askS ((fun i _ => inR i x.s.length a b : Nat → Int → Bool)) x).length c, .int .i64 (asI x 5)]) ∧ TextsAt w' ad (askS ((fun i _ => inR i x.s.length a b : Nat → Int → Bool)) x) ∧ Below w.heap.size w w' := by
  have HC : Hid (∀ W, Below w.heap.size w W → Calls Tryz.prog 33 #[v, .int .i64 5] W fun e w' => e = .returned (.int .i64 (asI x 5)) ∧ Below W.heap.size W w') := fun W hW => refAs_any v x 5 W (h.below hW)
  obtain ⟨⟨a1, c1, a2, c2, a3, c3, rfl, -, -, hx3⟩, -, -, -, -, -, -, -⟩ := h
  have HX := hide hx3
  clear hx3
  obtain ⟨i0, hi, hz0, hz1, hz2⟩ := info_parts infoStr
  by_cases h0 : asI x 5 = 0
  · have h24 := (asI_score h0).n
    have HK : Hid (askS ((fun i _ => inR i x.s.length a b : Nat → Int → Bool)) x = askTo ((fun i _ => inR i x.s.length a b : Nat → Int → Bool)) x.s x.s.length) := by rw [Hid, askS, if_pos h0]
    rw [HK.out, h0]
    rw [h0] at HC
    clear HK h0
    generalize x.s = L at *
    have HP : Hid (∀ (i : Nat) (m : Int) (W : World), i < L.length → Calls Tryz.prog 38 #[.int .i64 i, .int .i64 L.length, .int .i64 a, .int .i64 b] W fun e w' => e = .returned (.bool (((fun i _ => inR i L.length a b : Nat → Int → Bool)) i m)) ∧ w' = W) := fun i m W hi => inRange_any i L.length a b W hi (by omega) ha1 ha2 hb1 hb2
    generalize ((fun i _ => inR i L.length a b : Nat → Int → Bool)) = p at *
    generalize x.l.length = n1 at *
    generalize x.p.length = n2 at *
    generalize x.t = t at *
    generalize x.k = k at *
    go_enter Tryz.func13, Tryz.ntmps13
    go_wp2_with fail
    have C0 : Below w.heap.size w (w.alloc (.cells #[.int .i64 k, .string t, .slice a1 n1 c1, .slice a2 n2 c2, .slice a3 L.length c3] 26)) := (Below.refl _ w).alloc (Nat.le_refl _) _
    refine (HC.out _ C0).mono ?_
    rintro e w1 ⟨rfl, hb1⟩
    have C1 := C0.trans (hb1.mono C0.size)
    obtain ⟨hc, hf⟩ := bcell hb1
    have q2 : w1.cell? ⟨w.heap.size, 4, none⟩ = some (.slice a3 L.length c3) := (hc _ _ (by simp)).trans (by simp [go_sem])
    have hyy : w.heap.size < w1.heap.size := by have := hb1.size; simp at this; omega
    have hz1' := C1.size
    clear hc hf hb1 C0 HC
    go_wp2_with fail
    go_loopw [9, 10] (fun u iv wr => ∃ q : Nat, q ≤ L.length ∧ iv = .int .i64 q ∧ wr.ownsRow w1.heap.size 9 1 u (askTo p L q).length (strs (askTo p L q)) ∧ Below w1.heap.size w1 wr) (fun _ iv _ => L.length - (intOf iv).toNat)
    case atStart => exact ⟨0, Nat.zero_le _, rfl, World.ownsRow_nil _ _ _ _, Below.refl _ _⟩
    case round =>
      obtain ⟨q, hq, rfl, hown, hbr⟩ := hrel
      have hsz := hbr.size
      have hBr : Below w.heap.size w wr := C1.trans (hbr.mono hz1')
      have q3 := (hbr.cell (p := ⟨w.heap.size, 4, none⟩) hyy).trans q2
      by_cases hlt : q < L.length
      · have hlt' : ((q : Nat) : Int) < ((L.length : Nat) : Int) := by omega
        obtain ⟨g, o, rfl, hcs⟩ : ∃ g o, a3 = some ⟨g, o, none⟩ ∧ ∀ i (h : i < L.length), w.cell? ⟨g, o + i * 2, none⟩ = some (.int .i64 L[i].1) ∧ w.cell? ⟨g, o + i * 2 + 1, none⟩ = some (.string L[i].2) := by
          rcases HX.out with h | h
          · rw [h] at hlt; simp at hlt
          · exact h
        have d0 := (hBr.cell (p := ⟨g, o + q * 2, none⟩) (World.block_lt_of_cell? _ _ (hcs q hlt).1)).trans (hcs q hlt).1
        have d1 := (hBr.cell (p := ⟨g, o + q * 2 + 1, none⟩) (World.block_lt_of_cell? _ _ (hcs q hlt).2)).trans (hcs q hlt).2
        have hql := askTo_len p L q
        have HY : Hid (p q L[q].1 = true → askTo p L (q + 1) = askTo p L q ++ [L[q].2]) := askTo_yes hlt
        have HN : Hid (p q L[q].1 = false → askTo p L (q + 1) = askTo p L q) := askTo_no hlt
        clear hcs HX
        generalize L[q] = X at *
        obtain ⟨X1, X2⟩ := X
        dsimp only at d0 d1 HY HN
        have HF := hide (HP.out q X1 wr hlt)
        clear HP
        cases hx : p q X1 with
        | true =>
          have HY2 := hide (HY.out hx)
          rw [hx] at HF
          clear HY HN hx
          go_wp2_with fail
          refine HF.out.mono ?_
          rintro e w5 ⟨rfl, hw5⟩
          have hw6 := hw5.symm
          subst hw6
          go_wp2_with (at_builtin; refine wpList_append_own _ rfl _ _ 22 rfl w1.heap.size 9 i0 (.string ⟨#[]⟩) 1 16 Tryz.underlying22 hi hz0 hz1 hz2 rfl (by decide) _ _ _ rfl (hown.alloc _) ⟨wr.heap.size, 0, none⟩ 1 1 [.string X2] rfl rfl ?c1 ?c2 ?c3 ?c4 ?c5 ?_)
          case c1 =>
            intro j u hj
            match j, hj with
            | 0, hj => simp at hj; subst hj; simp [Addr.add]
          case c2 => first | rfl | (intro u hu; simp at hu; subst hu; rfl)
          case c3 => unfold maxLen; omega
          case c4 => omega
          case c5 => first | omega | (simp; omega)
          intro v4 w4 hw4 hgrow _
          have hb4 : Below w1.heap.size w1 w4 := (hbr.alloc hsz _).grown hgrow (by simp; omega) (fun j hj => (hown.lt j hj).1)
          have own4 : w4.ownsRow w1.heap.size 9 1 v4 (askTo p L (q + 1)).length (strs (askTo p L (q + 1))) := by
            rw [HY2.out, List.length_append]
            simpa [strs] using hw4
          clear hw4 hgrow
          go_wp2_with fail
          go_roundw
          case rel => exact ⟨q + 1, by omega, by go_num, own4, hb4⟩
          case measure => simp [intOf]; omega
        | false =>
          have HY2 := hide (HN.out hx)
          rw [hx] at HF
          clear HY HN hx
          go_wp2_with fail
          refine HF.out.mono ?_
          rintro e w5 ⟨rfl, hw5⟩
          have hw6 := hw5.symm
          subst hw6
          go_wp2_with fail
          go_roundw
          case rel => exact ⟨q + 1, by omega, by go_num, by rw [HY2.out]; exact hown, hbr⟩
          case measure => simp [intOf]; omega
      · have hge : ¬ ((q : Nat) : Int) < ((L.length : Nat) : Int) := by omega
        obtain rfl : q = L.length := by omega
        obtain ⟨ao, cp, rfl⟩ := slice_own hown
        have HT := hide (texts_own hown)
        clear hown HX HP
        go_wp2_with fail
        refine bodyPost_ret (v := .tuple #[.slice ao (askTo p L L.length).length cp, .int .i64 0]) (by simp [results, Tryz.results13, go_sem]) rfl ?_
        first | exact ⟨ao, ⟨cp, rfl⟩, HT.out, hBr⟩ | exact ⟨ao, cp, rfl, HT.out, hBr⟩
  · have HK : Hid (askS ((fun i _ => inR i x.s.length a b : Nat → Int → Bool)) x = []) := by rw [Hid, askS, if_neg h0]
    rw [HK.out]
    have h0' : (asI x 5 == 0) = false := by rw [beq_eq_false_iff_ne]; exact h0
    clear HK HX
    generalize asI x 5 = E at *
    generalize x.s.length = n3 at *
    generalize x.l.length = n1 at *
    generalize x.p.length = n2 at *
    generalize x.t = t at *
    generalize x.k = k at *
    go_enter Tryz.func13, Tryz.ntmps13
    go_wp2_with fail
    have C0 : Below w.heap.size w (w.alloc (.cells #[.int .i64 k, .string t, .slice a1 n1 c1, .slice a2 n2 c2, .slice a3 n3 c3] 26)) := (Below.refl _ w).alloc (Nat.le_refl _) _
    refine (HC.out _ C0).mono ?_
    rintro e w1 ⟨rfl, hb1⟩
    have C1 := C0.trans (hb1.mono C0.size)
    go_wp2_with fail
    refine bodyPost_ret (v := .tuple #[.slice none 0 0, .int .i64 E]) (by simp [results, Tryz.results13, go_sem]) rfl ⟨none, 0, rfl, TextsAt.nil _, C1⟩
set_option maxRecDepth 100000 in
set_option maxHeartbeats 4000000 in
theorem withinScores_any (v : Value) (x : Itm) (a b : Int) (w : World) (h : ItemIs w v x) :
    Calls Tryz.prog 15 #[v, .int .i64 a, .int .i64 b] w fun e w' => ∃ ad c, e = .returned (.tuple #[.slice ad (askS ((fun _ m => decide (a ≤ m ∧ m ≤ b) : Nat → Int → Bool)) x).length c, .int .i64 (asI x 5)]) ∧ TextsAt w' ad (askS ((fun _ m => decide (a ≤ m ∧ m ≤ b) : Nat → Int → Bool)) x) ∧ Below w.heap.size w w' := by
  have HC : Hid (∀ W, Below w.heap.size w W → Calls Tryz.prog 33 #[v, .int .i64 5] W fun e w' => e = .returned (.int .i64 (asI x 5)) ∧ Below W.heap.size W w') := fun W hW => refAs_any v x 5 W (h.below hW)
  obtain ⟨⟨a1, c1, a2, c2, a3, c3, rfl, -, -, hx3⟩, -, -, -, -, -, -, -⟩ := h
  have HX := hide hx3
  clear hx3
  obtain ⟨i0, hi, hz0, hz1, hz2⟩ := info_parts infoStr
  by_cases h0 : asI x 5 = 0
  · have h24 := (asI_score h0).n
    have HK : Hid (askS ((fun _ m => decide (a ≤ m ∧ m ≤ b) : Nat → Int → Bool)) x = askTo ((fun _ m => decide (a ≤ m ∧ m ≤ b) : Nat → Int → Bool)) x.s x.s.length) := by rw [Hid, askS, if_pos h0]
    rw [HK.out, h0]
    rw [h0] at HC
    clear HK h0
    generalize x.s = L at *
    have HP : Hid (∀ (i : Nat) (m : Int) (W : World), i < L.length → Calls Tryz.prog 39 #[.int .i64 m, .int .i64 a, .int .i64 b] W fun e w' => e = .returned (.bool (((fun _ m => decide (a ≤ m ∧ m ≤ b) : Nat → Int → Bool)) i m)) ∧ w' = W) := fun i m W hi => between_any m a b W
    generalize ((fun _ m => decide (a ≤ m ∧ m ≤ b) : Nat → Int → Bool)) = p at *
    generalize x.l.length = n1 at *
    generalize x.p.length = n2 at *
    generalize x.t = t at *
    generalize x.k = k at *
    go_enter Tryz.func15, Tryz.ntmps15
    go_wp2_with fail
    have C0 : Below w.heap.size w (w.alloc (.cells #[.int .i64 k, .string t, .slice a1 n1 c1, .slice a2 n2 c2, .slice a3 L.length c3] 26)) := (Below.refl _ w).alloc (Nat.le_refl _) _
    refine (HC.out _ C0).mono ?_
    rintro e w1 ⟨rfl, hb1⟩
    have C1 := C0.trans (hb1.mono C0.size)
    obtain ⟨hc, hf⟩ := bcell hb1
    have q2 : w1.cell? ⟨w.heap.size, 4, none⟩ = some (.slice a3 L.length c3) := (hc _ _ (by simp)).trans (by simp [go_sem])
    have hyy : w.heap.size < w1.heap.size := by have := hb1.size; simp at this; omega
    have hz1' := C1.size
    clear hc hf hb1 C0 HC
    go_wp2_with fail
    go_loopw [9, 10] (fun u iv wr => ∃ q : Nat, q ≤ L.length ∧ iv = .int .i64 q ∧ wr.ownsRow w1.heap.size 9 1 u (askTo p L q).length (strs (askTo p L q)) ∧ Below w1.heap.size w1 wr) (fun _ iv _ => L.length - (intOf iv).toNat)
    case atStart => exact ⟨0, Nat.zero_le _, rfl, World.ownsRow_nil _ _ _ _, Below.refl _ _⟩
    case round =>
      obtain ⟨q, hq, rfl, hown, hbr⟩ := hrel
      have hsz := hbr.size
      have hBr : Below w.heap.size w wr := C1.trans (hbr.mono hz1')
      have q3 := (hbr.cell (p := ⟨w.heap.size, 4, none⟩) hyy).trans q2
      by_cases hlt : q < L.length
      · have hlt' : ((q : Nat) : Int) < ((L.length : Nat) : Int) := by omega
        obtain ⟨g, o, rfl, hcs⟩ : ∃ g o, a3 = some ⟨g, o, none⟩ ∧ ∀ i (h : i < L.length), w.cell? ⟨g, o + i * 2, none⟩ = some (.int .i64 L[i].1) ∧ w.cell? ⟨g, o + i * 2 + 1, none⟩ = some (.string L[i].2) := by
          rcases HX.out with h | h
          · rw [h] at hlt; simp at hlt
          · exact h
        have d0 := (hBr.cell (p := ⟨g, o + q * 2, none⟩) (World.block_lt_of_cell? _ _ (hcs q hlt).1)).trans (hcs q hlt).1
        have d1 := (hBr.cell (p := ⟨g, o + q * 2 + 1, none⟩) (World.block_lt_of_cell? _ _ (hcs q hlt).2)).trans (hcs q hlt).2
        have hql := askTo_len p L q
        have HY : Hid (p q L[q].1 = true → askTo p L (q + 1) = askTo p L q ++ [L[q].2]) := askTo_yes hlt
        have HN : Hid (p q L[q].1 = false → askTo p L (q + 1) = askTo p L q) := askTo_no hlt
        clear hcs HX
        generalize L[q] = X at *
        obtain ⟨X1, X2⟩ := X
        dsimp only at d0 d1 HY HN
        have HF := hide (HP.out q X1 wr hlt)
        clear HP
        cases hx : p q X1 with
        | true =>
          have HY2 := hide (HY.out hx)
          rw [hx] at HF
          clear HY HN hx
          go_wp2_with fail
          refine HF.out.mono ?_
          rintro e w5 ⟨rfl, hw5⟩
          have hw6 := hw5.symm
          subst hw6
          go_wp2_with (at_builtin; refine wpList_append_own _ rfl _ _ 22 rfl w1.heap.size 9 i0 (.string ⟨#[]⟩) 1 16 Tryz.underlying22 hi hz0 hz1 hz2 rfl (by decide) _ _ _ rfl (hown.alloc _) ⟨wr.heap.size, 0, none⟩ 1 1 [.string X2] rfl rfl ?c1 ?c2 ?c3 ?c4 ?c5 ?_)
          case c1 =>
            intro j u hj
            match j, hj with
            | 0, hj => simp at hj; subst hj; simp [Addr.add]
          case c2 => first | rfl | (intro u hu; simp at hu; subst hu; rfl)
          case c3 => unfold maxLen; omega
          case c4 => omega
          case c5 => first | omega | (simp; omega)
          intro v4 w4 hw4 hgrow _
          have hb4 : Below w1.heap.size w1 w4 := (hbr.alloc hsz _).grown hgrow (by simp; omega) (fun j hj => (hown.lt j hj).1)
          have own4 : w4.ownsRow w1.heap.size 9 1 v4 (askTo p L (q + 1)).length (strs (askTo p L (q + 1))) := by
            rw [HY2.out, List.length_append]
            simpa [strs] using hw4
          clear hw4 hgrow
          go_wp2_with fail
          go_roundw
          case rel => exact ⟨q + 1, by omega, by go_num, own4, hb4⟩
          case measure => simp [intOf]; omega
        | false =>
          have HY2 := hide (HN.out hx)
          rw [hx] at HF
          clear HY HN hx
          go_wp2_with fail
          refine HF.out.mono ?_
          rintro e w5 ⟨rfl, hw5⟩
          have hw6 := hw5.symm
          subst hw6
          go_wp2_with fail
          go_roundw
          case rel => exact ⟨q + 1, by omega, by go_num, by rw [HY2.out]; exact hown, hbr⟩
          case measure => simp [intOf]; omega
      · have hge : ¬ ((q : Nat) : Int) < ((L.length : Nat) : Int) := by omega
        obtain rfl : q = L.length := by omega
        obtain ⟨ao, cp, rfl⟩ := slice_own hown
        have HT := hide (texts_own hown)
        clear hown HX HP
        go_wp2_with fail
        refine bodyPost_ret (v := .tuple #[.slice ao (askTo p L L.length).length cp, .int .i64 0]) (by simp [results, Tryz.results15, go_sem]) rfl ?_
        first | exact ⟨ao, ⟨cp, rfl⟩, HT.out, hBr⟩ | exact ⟨ao, cp, rfl, HT.out, hBr⟩
  · have HK : Hid (askS ((fun _ m => decide (a ≤ m ∧ m ≤ b) : Nat → Int → Bool)) x = []) := by rw [Hid, askS, if_neg h0]
    rw [HK.out]
    have h0' : (asI x 5 == 0) = false := by rw [beq_eq_false_iff_ne]; exact h0
    clear HK HX
    generalize asI x 5 = E at *
    generalize x.s.length = n3 at *
    generalize x.l.length = n1 at *
    generalize x.p.length = n2 at *
    generalize x.t = t at *
    generalize x.k = k at *
    go_enter Tryz.func15, Tryz.ntmps15
    go_wp2_with fail
    have C0 : Below w.heap.size w (w.alloc (.cells #[.int .i64 k, .string t, .slice a1 n1 c1, .slice a2 n2 c2, .slice a3 n3 c3] 26)) := (Below.refl _ w).alloc (Nat.le_refl _) _
    refine (HC.out _ C0).mono ?_
    rintro e w1 ⟨rfl, hb1⟩
    have C1 := C0.trans (hb1.mono C0.size)
    go_wp2_with fail
    refine bodyPost_ret (v := .tuple #[.slice none 0 0, .int .i64 E]) (by simp [results, Tryz.results15, go_sem]) rfl ⟨none, 0, rfl, TextsAt.nil _, C1⟩
theorem range_ask {x : Itm} (a b : Int) : askS (fun i _ => inR i x.s.length (clampN a) (clampN b)) x = askS (byPlace x.s.length a b) x := by
  unfold askS
  split
  · rename_i h0
    refine askTo_congr _ (Nat.le_refl _) fun i hi => ?_
    obtain ⟨e1, e2⟩ := place_clamp x.s.length a b (by have := (asI_score h0).n; omega)
    unfold inR byPlace
    rw [e1, e2, Bool.eq_iff_iff]
    simp
  · rfl
theorem within_ask {x : Itm} (a b : Int) : askS (fun _ m => decide (a ≤ m ∧ m ≤ b)) x = askS (byNumber a b) x := by
  unfold askS
  split
  · refine askTo_congr _ (Nat.le_refl _) fun i hi => ?_
    unfold byNumber
    rw [Bool.eq_iff_iff]
    simp
  · rfl
end Go.Proofs.YtnobcdhlagfhmaaGreat.Z
