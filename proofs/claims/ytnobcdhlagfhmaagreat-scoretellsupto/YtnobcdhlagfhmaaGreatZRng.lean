/- WALKS of scores: those that are asked for; Range, Within. -/
import Derived.Test.YtnobcdhlagfhmaaGreatZTx
import Derived.Test.YtnobcdhlagfhmaaGreatCom
import Derived.Handy
namespace Go.Proofs.YtnobcdhlagfhmaaGreat.Z
open Go.RowKit

/-- what is asked for, if it is an item of scores -/
def askS (p : Nat → Int → Bool) (x : Itm) : List ByteArray := if asI x 5 = 0 then askTo p x.s x.s.length else []
theorem askS_len (p : Nat → Int → Bool) (x : Itm) : (askS p x).length ≤ 24 := by
  unfold askS
  split
  · rename_i h0
    exact Nat.le_trans (askTo_len _ _ _) (asI_score h0).n
  · simp
def byPlace (n : Nat) (f t : Int) : Nat → Int → Bool := fun i _ => decide (place1 n f t ≤ i) && decide (i < place2 n f t)
def byNumber (least most : Int) : Nat → Int → Bool := fun _ m => decide (least ≤ m) && decide (m ≤ most)
set_option maxRecDepth 100000 in
theorem fnRange_any (b1 b2 : Nat) (F B : Int) (i : Nat) (m : Int) (W : World) (h1 : W.cell? ⟨b1, 0, none⟩ = some (.int .i64 F)) (h2 : W.cell? ⟨b2, 0, none⟩ = some (.int .i64 B)) :
    Calls Tryz.prog 31 #[.int .i64 i, .int .i64 m, .pointer (some ⟨b1, 0, none⟩), .pointer (some ⟨b2, 0, none⟩)] W fun e w' => e = .returned (.bool (decide (F ≤ ((i : Nat) : Int)) && decide (((i : Nat) : Int) < B))) ∧ Below W.heap.size W w' := by
  by_cases hc : F ≤ ((i : Nat) : Int)
  · rw [decide_eq_true hc, Bool.true_and]
    go_enter Tryz.func31, Tryz.ntmps31
    go_wp2_with fail
    go_ret
    exact ⟨rfl, Below.refl _ _⟩
  · rw [decide_eq_false hc, Bool.false_and]
    go_enter Tryz.func31, Tryz.ntmps31
    go_wp2_with fail
    go_ret
    exact ⟨rfl, Below.refl _ _⟩
set_option maxRecDepth 100000 in
set_option maxHeartbeats 4000000 in
theorem thoseRange_any (v : Value) (x : Itm) (b1 b2 : Nat) (p : Nat → Int → Bool) (w : World) (h : ItemIs w v x)
    (hp : ∀ (i : Nat) (m : Int) (W : World), Below w.heap.size w W → Calls Tryz.prog 31 #[.int .i64 i, .int .i64 m, .pointer (some ⟨b1, 0, none⟩), .pointer (some ⟨b2, 0, none⟩)] W fun e w' => e = .returned (.bool (p i m)) ∧ Below W.heap.size W w') :
    Calls Tryz.prog 30 #[v, .func (.func 31) #[] #[.pointer (some ⟨b1, 0, none⟩), .pointer (some ⟨b2, 0, none⟩)]] w fun e w' => ∃ a c, e = .returned (.tuple #[.slice a (askS p x).length c, .int .i64 (asI x 5)]) ∧ TextsAt w' a (askS p x) ∧ Below w.heap.size w w' := by
  have HC : Hid (∀ W, Below w.heap.size w W → Calls Tryz.prog 19 #[v, .int .i64 5] W fun e w' => e = .returned (.int .i64 (asI x 5)) ∧ Below W.heap.size W w') := fun W hW => common_any v x 5 W (h.below hW)
  obtain ⟨⟨a1, c1, a2, c2, a3, c3, rfl, -, -, hx3⟩, -, -, -, -, -, -, -⟩ := h
  have HX := hide hx3
  have HP := hide hp
  clear hx3 hp
  obtain ⟨i0, hi, hz0, hz1, hz2⟩ := info_parts infoStr
  by_cases h0 : asI x 5 = 0
  · have h24 := (asI_score h0).n
    have HK : Hid (askS p x = askTo p x.s x.s.length) := by rw [Hid, askS, if_pos h0]
    rw [HK.out, h0]
    rw [h0] at HC
    clear HK h0
    generalize x.s = L at *
    generalize x.l.length = n1 at *
    generalize x.p.length = n2 at *
    generalize x.t = t at *
    generalize x.k = k at *
    go_enter Tryz.func30, Tryz.ntmps30
    go_wp2_with fail
    have C0 : Below w.heap.size w (w.alloc (.cells #[.int .i64 k, .string t, .slice a1 n1 c1, .slice a2 n2 c2, .slice a3 L.length c3] 26)) := (Below.refl _ w).alloc (Nat.le_refl _) _
    refine (HC.out _ C0).mono ?_
    rintro e w1 ⟨rfl, hb1⟩
    have C1 := C0.trans (hb1.mono C0.size)
    obtain ⟨hc, hf⟩ := bcell hb1
    have q2 : w1.cell? ⟨w.heap.size, 4, none⟩ = some (.slice a3 L.length c3) := (hc _ _ (by simp)).trans (by simp [go_sem])
    have hz1' := C1.size
    clear hc hf hb1 C0 HC
    go_wp2_with fail
    go_loopw [7, 18] (fun u iv wr => ∃ q : Nat, q ≤ L.length ∧ iv = .int .i64 q ∧ wr.ownsRow w1.heap.size 9 1 u (askTo p L q).length (strs (askTo p L q)) ∧ Below w1.heap.size w1 wr) (fun _ iv _ => L.length - (intOf iv).toNat)
    case atStart => exact ⟨0, Nat.zero_le _, rfl, World.ownsRow_nil _ _ _ _, Below.refl _ _⟩
    case round =>
      obtain ⟨q, hq, rfl, hown, hbr⟩ := hrel
      have hsz := hbr.size
      have hBr : Below w.heap.size w wr := C1.trans (hbr.mono hz1')
      by_cases hlt : q < L.length
      · have hlt' : ((q : Nat) : Int) < ((L.length : Nat) : Int) := by omega
        obtain ⟨g, o, rfl, hcs⟩ : ∃ g o, a3 = some ⟨g, o, none⟩ ∧ ∀ i (h : i < L.length), w.cell? ⟨g, o + i * 2, none⟩ = some (.int .i64 L[i].1) ∧ w.cell? ⟨g, o + i * 2 + 1, none⟩ = some (.string L[i].2) := by
          rcases HX.out with h | h
          · rw [h] at hlt; simp at hlt
          · exact h
        have d0 := (hBr.cell (p := ⟨g, o + q * 2, none⟩) (World.block_lt_of_cell? _ _ (hcs q hlt).1)).trans (hcs q hlt).1
        have d1 := (hBr.cell (p := ⟨g, o + q * 2 + 1, none⟩) (World.block_lt_of_cell? _ _ (hcs q hlt).2)).trans (hcs q hlt).2
        have hql := askTo_len p L q
        have HY : Hid (p q L[q].1 = true → askTo p L (q + 1) = askTo p L q ++ [L[q].2]) := askTo_yes hlt
        have HN : Hid (p q L[q].1 = false → askTo p L (q + 1) = askTo p L q) := askTo_no hlt
        clear hcs HX
        generalize L[q] = X at *
        obtain ⟨X1, X2⟩ := X
        dsimp only at d0 d1 HY HN
        have HF : Hid (∀ W, Below w1.heap.size w1 W → Calls Tryz.prog 31 #[.int .i64 q, .int .i64 X1, .pointer (some ⟨b1, 0, none⟩), .pointer (some ⟨b2, 0, none⟩)] W fun e w' => e = .returned (.bool (p q X1)) ∧ Below W.heap.size W w') := fun W hW => HP.out q X1 W (C1.trans (hW.mono hz1'))
        clear HP
        have CA := hbr.alloc hsz (.cells #[.int .i64 X1, .string X2] 36)
        cases hx : p q X1 with
        | true =>
          have HY2 := hide (HY.out hx)
          rw [hx] at HF
          clear HY HN hx
          go_wp2_with fail
          refine (HF.out _ CA).mono ?_
          rintro e w5 ⟨rfl, hb5⟩
          have C5 := CA.trans (hb5.mono CA.size)
          have own5 := (Kept.of_below ((Below.refl _ wr).alloc (Nat.le_refl _) (.cells #[.int .i64 X1, .string X2] 36) |>.trans (hb5.mono (by simp))) (fun _ => False)).owns hown (fun _ _ e => e)
          have x0 : w5.cell? ⟨wr.heap.size, 0, none⟩ = some (.int .i64 X1) := (hb5.cell (p := ⟨wr.heap.size, 0, none⟩) (by simp)).trans (by simp [go_sem])
          have x1 : w5.cell? ⟨wr.heap.size, 1, none⟩ = some (.string X2) := (hb5.cell (p := ⟨wr.heap.size, 1, none⟩) (by simp)).trans (by simp [go_sem])
          have hsz5 := C5.size
          clear hb5 CA hown hbr d0 d1
          go_wp2_with (at_builtin; refine wpList_append_own _ rfl _ _ 22 rfl w1.heap.size 9 i0 (.string ⟨#[]⟩) 1 16 Tryz.underlying22 hi hz0 hz1 hz2 rfl (by decide) _ _ _ rfl (own5.alloc _) ⟨w5.heap.size, 0, none⟩ 1 1 [.string X2] rfl rfl ?c1 ?c2 ?c3 ?c4 ?c5 ?_)
          case c1 =>
            intro j u hj
            match j, hj with
            | 0, hj => simp at hj; subst hj; simp [Addr.add]
          case c2 => first | rfl | (intro u hu; simp at hu; subst hu; rfl)
          case c3 => unfold maxLen; omega
          case c4 => omega
          case c5 => first | omega | (simp; omega)
          intro v4 w4 hw4 hgrow _
          have hb4 : Below w1.heap.size w1 w4 := (C5.alloc hsz5 _).grown hgrow (by simp; omega) (fun j hj => (own5.lt j hj).1)
          have own4 : w4.ownsRow w1.heap.size 9 1 v4 (askTo p L (q + 1)).length (strs (askTo p L (q + 1))) := by
            rw [HY2.out, List.length_append]
            simpa [strs] using hw4
          clear hw4 hgrow own5 C5
          go_wp2_with fail
          go_roundw
          case rel => exact ⟨q + 1, by omega, by go_num, own4, hb4⟩
          case measure => simp [intOf]; omega
        | false =>
          have HY2 := hide (HN.out hx)
          rw [hx] at HF
          clear HY HN hx
          go_wp2_with fail
          refine (HF.out _ CA).mono ?_
          rintro e w5 ⟨rfl, hb5⟩
          have C5 := CA.trans (hb5.mono CA.size)
          have own5 := (Kept.of_below ((Below.refl _ wr).alloc (Nat.le_refl _) (.cells #[.int .i64 X1, .string X2] 36) |>.trans (hb5.mono (by simp))) (fun _ => False)).owns hown (fun _ _ e => e)
          clear hb5 CA hown hbr d0 d1
          go_wp2_with fail
          go_roundw
          case rel => exact ⟨q + 1, by omega, by go_num, by rw [HY2.out]; exact own5, C5⟩
          case measure => simp [intOf]; omega
      · have hge : ¬ ((q : Nat) : Int) < ((L.length : Nat) : Int) := by omega
        obtain rfl : q = L.length := by omega
        obtain ⟨ao, cp, rfl⟩ := slice_own hown
        have HT := hide (texts_own hown)
        clear hown HX HP
        go_wp2_with fail
        refine bodyPost_ret (v := .tuple #[.slice ao (askTo p L L.length).length cp, .int .i64 0]) (by simp [results, Tryz.results30, go_sem]) rfl ?_
        exact ⟨ao, ⟨cp, rfl⟩, HT.out, hBr⟩
  · have HK : Hid (askS p x = []) := by rw [Hid, askS, if_neg h0]
    rw [HK.out]
    have h0' : (asI x 5 == 0) = false := by rw [beq_eq_false_iff_ne]; exact h0
    clear HK HX HP
    generalize asI x 5 = E at *
    generalize x.s.length = n3 at *
    generalize x.l.length = n1 at *
    generalize x.p.length = n2 at *
    generalize x.t = t at *
    generalize x.k = k at *
    go_enter Tryz.func30, Tryz.ntmps30
    go_wp2_with fail
    have C0 : Below w.heap.size w (w.alloc (.cells #[.int .i64 k, .string t, .slice a1 n1 c1, .slice a2 n2 c2, .slice a3 n3 c3] 26)) := (Below.refl _ w).alloc (Nat.le_refl _) _
    refine (HC.out _ C0).mono ?_
    rintro e w1 ⟨rfl, hb1⟩
    have C1 := C0.trans (hb1.mono C0.size)
    go_wp2_with fail
    refine bodyPost_ret (v := .tuple #[.slice none 0 0, .int .i64 E]) (by simp [results, Tryz.results30, go_sem]) rfl ⟨none, 0, rfl, TextsAt.nil _, C1⟩
set_option maxRecDepth 100000 in
theorem fnWithin_any (b1 b2 : Nat) (F B : Int) (i : Nat) (m : Int) (W : World) (h1 : W.cell? ⟨b1, 0, none⟩ = some (.int .i64 F)) (h2 : W.cell? ⟨b2, 0, none⟩ = some (.int .i64 B)) :
    Calls Tryz.prog 32 #[.int .i64 i, .int .i64 m, .pointer (some ⟨b1, 0, none⟩), .pointer (some ⟨b2, 0, none⟩)] W fun e w' => e = .returned (.bool (decide (F ≤ m) && decide (m ≤ B))) ∧ Below W.heap.size W w' := by
  by_cases hc : F ≤ m
  · rw [decide_eq_true hc, Bool.true_and]
    go_enter Tryz.func32, Tryz.ntmps32
    go_wp2_with fail
    go_ret
    exact ⟨rfl, Below.refl _ _⟩
  · rw [decide_eq_false hc, Bool.false_and]
    go_enter Tryz.func32, Tryz.ntmps32
    go_wp2_with fail
    go_ret
    exact ⟨rfl, Below.refl _ _⟩
set_option maxRecDepth 100000 in
set_option maxHeartbeats 4000000 in
theorem thoseWithin_any (v : Value) (x : Itm) (b1 b2 : Nat) (p : Nat → Int → Bool) (w : World) (h : ItemIs w v x)
    (hp : ∀ (i : Nat) (m : Int) (W : World), Below w.heap.size w W → Calls Tryz.prog 32 #[.int .i64 i, .int .i64 m, .pointer (some ⟨b1, 0, none⟩), .pointer (some ⟨b2, 0, none⟩)] W fun e w' => e = .returned (.bool (p i m)) ∧ Below W.heap.size W w') :
    Calls Tryz.prog 30 #[v, .func (.func 32) #[] #[.pointer (some ⟨b1, 0, none⟩), .pointer (some ⟨b2, 0, none⟩)]] w fun e w' => ∃ a c, e = .returned (.tuple #[.slice a (askS p x).length c, .int .i64 (asI x 5)]) ∧ TextsAt w' a (askS p x) ∧ Below w.heap.size w w' := by
  have HC : Hid (∀ W, Below w.heap.size w W → Calls Tryz.prog 19 #[v, .int .i64 5] W fun e w' => e = .returned (.int .i64 (asI x 5)) ∧ Below W.heap.size W w') := fun W hW => common_any v x 5 W (h.below hW)
  obtain ⟨⟨a1, c1, a2, c2, a3, c3, rfl, -, -, hx3⟩, -, -, -, -, -, -, -⟩ := h
  have HX := hide hx3
  have HP := hide hp
  clear hx3 hp
  obtain ⟨i0, hi, hz0, hz1, hz2⟩ := info_parts infoStr
  by_cases h0 : asI x 5 = 0
  · have h24 := (asI_score h0).n
    have HK : Hid (askS p x = askTo p x.s x.s.length) := by rw [Hid, askS, if_pos h0]
    rw [HK.out, h0]
    rw [h0] at HC
    clear HK h0
    generalize x.s = L at *
    generalize x.l.length = n1 at *
    generalize x.p.length = n2 at *
    generalize x.t = t at *
    generalize x.k = k at *
    go_enter Tryz.func30, Tryz.ntmps30
    go_wp2_with fail
    have C0 : Below w.heap.size w (w.alloc (.cells #[.int .i64 k, .string t, .slice a1 n1 c1, .slice a2 n2 c2, .slice a3 L.length c3] 26)) := (Below.refl _ w).alloc (Nat.le_refl _) _
    refine (HC.out _ C0).mono ?_
    rintro e w1 ⟨rfl, hb1⟩
    have C1 := C0.trans (hb1.mono C0.size)
    obtain ⟨hc, hf⟩ := bcell hb1
    have q2 : w1.cell? ⟨w.heap.size, 4, none⟩ = some (.slice a3 L.length c3) := (hc _ _ (by simp)).trans (by simp [go_sem])
    have hz1' := C1.size
    clear hc hf hb1 C0 HC
    go_wp2_with fail
    go_loopw [7, 18] (fun u iv wr => ∃ q : Nat, q ≤ L.length ∧ iv = .int .i64 q ∧ wr.ownsRow w1.heap.size 9 1 u (askTo p L q).length (strs (askTo p L q)) ∧ Below w1.heap.size w1 wr) (fun _ iv _ => L.length - (intOf iv).toNat)
    case atStart => exact ⟨0, Nat.zero_le _, rfl, World.ownsRow_nil _ _ _ _, Below.refl _ _⟩
    case round =>
      obtain ⟨q, hq, rfl, hown, hbr⟩ := hrel
      have hsz := hbr.size
      have hBr : Below w.heap.size w wr := C1.trans (hbr.mono hz1')
      by_cases hlt : q < L.length
      · have hlt' : ((q : Nat) : Int) < ((L.length : Nat) : Int) := by omega
        obtain ⟨g, o, rfl, hcs⟩ : ∃ g o, a3 = some ⟨g, o, none⟩ ∧ ∀ i (h : i < L.length), w.cell? ⟨g, o + i * 2, none⟩ = some (.int .i64 L[i].1) ∧ w.cell? ⟨g, o + i * 2 + 1, none⟩ = some (.string L[i].2) := by
          rcases HX.out with h | h
          · rw [h] at hlt; simp at hlt
          · exact h
        have d0 := (hBr.cell (p := ⟨g, o + q * 2, none⟩) (World.block_lt_of_cell? _ _ (hcs q hlt).1)).trans (hcs q hlt).1
        have d1 := (hBr.cell (p := ⟨g, o + q * 2 + 1, none⟩) (World.block_lt_of_cell? _ _ (hcs q hlt).2)).trans (hcs q hlt).2
        have hql := askTo_len p L q
        have HY : Hid (p q L[q].1 = true → askTo p L (q + 1) = askTo p L q ++ [L[q].2]) := askTo_yes hlt
        have HN : Hid (p q L[q].1 = false → askTo p L (q + 1) = askTo p L q) := askTo_no hlt
        clear hcs HX
        generalize L[q] = X at *
        obtain ⟨X1, X2⟩ := X
        dsimp only at d0 d1 HY HN
        have HF : Hid (∀ W, Below w1.heap.size w1 W → Calls Tryz.prog 32 #[.int .i64 q, .int .i64 X1, .pointer (some ⟨b1, 0, none⟩), .pointer (some ⟨b2, 0, none⟩)] W fun e w' => e = .returned (.bool (p q X1)) ∧ Below W.heap.size W w') := fun W hW => HP.out q X1 W (C1.trans (hW.mono hz1'))
        clear HP
        have CA := hbr.alloc hsz (.cells #[.int .i64 X1, .string X2] 36)
        cases hx : p q X1 with
        | true =>
          have HY2 := hide (HY.out hx)
          rw [hx] at HF
          clear HY HN hx
          go_wp2_with fail
          refine (HF.out _ CA).mono ?_
          rintro e w5 ⟨rfl, hb5⟩
          have C5 := CA.trans (hb5.mono CA.size)
          have own5 := (Kept.of_below ((Below.refl _ wr).alloc (Nat.le_refl _) (.cells #[.int .i64 X1, .string X2] 36) |>.trans (hb5.mono (by simp))) (fun _ => False)).owns hown (fun _ _ e => e)
          have x0 : w5.cell? ⟨wr.heap.size, 0, none⟩ = some (.int .i64 X1) := (hb5.cell (p := ⟨wr.heap.size, 0, none⟩) (by simp)).trans (by simp [go_sem])
          have x1 : w5.cell? ⟨wr.heap.size, 1, none⟩ = some (.string X2) := (hb5.cell (p := ⟨wr.heap.size, 1, none⟩) (by simp)).trans (by simp [go_sem])
          have hsz5 := C5.size
          clear hb5 CA hown hbr d0 d1
          go_wp2_with (at_builtin; refine wpList_append_own _ rfl _ _ 22 rfl w1.heap.size 9 i0 (.string ⟨#[]⟩) 1 16 Tryz.underlying22 hi hz0 hz1 hz2 rfl (by decide) _ _ _ rfl (own5.alloc _) ⟨w5.heap.size, 0, none⟩ 1 1 [.string X2] rfl rfl ?c1 ?c2 ?c3 ?c4 ?c5 ?_)
          case c1 =>
            intro j u hj
            match j, hj with
            | 0, hj => simp at hj; subst hj; simp [Addr.add]
          case c2 => first | rfl | (intro u hu; simp at hu; subst hu; rfl)
          case c3 => unfold maxLen; omega
          case c4 => omega
          case c5 => first | omega | (simp; omega)
          intro v4 w4 hw4 hgrow _
          have hb4 : Below w1.heap.size w1 w4 := (C5.alloc hsz5 _).grown hgrow (by simp; omega) (fun j hj => (own5.lt j hj).1)
          have own4 : w4.ownsRow w1.heap.size 9 1 v4 (askTo p L (q + 1)).length (strs (askTo p L (q + 1))) := by
            rw [HY2.out, List.length_append]
            simpa [strs] using hw4
          clear hw4 hgrow own5 C5
          go_wp2_with fail
          go_roundw
          case rel => exact ⟨q + 1, by omega, by go_num, own4, hb4⟩
          case measure => simp [intOf]; omega
        | false =>
          have HY2 := hide (HN.out hx)
          rw [hx] at HF
          clear HY HN hx
          go_wp2_with fail
          refine (HF.out _ CA).mono ?_
          rintro e w5 ⟨rfl, hb5⟩
          have C5 := CA.trans (hb5.mono CA.size)
          have own5 := (Kept.of_below ((Below.refl _ wr).alloc (Nat.le_refl _) (.cells #[.int .i64 X1, .string X2] 36) |>.trans (hb5.mono (by simp))) (fun _ => False)).owns hown (fun _ _ e => e)
          clear hb5 CA hown hbr d0 d1
          go_wp2_with fail
          go_roundw
          case rel => exact ⟨q + 1, by omega, by go_num, by rw [HY2.out]; exact own5, C5⟩
          case measure => simp [intOf]; omega
      · have hge : ¬ ((q : Nat) : Int) < ((L.length : Nat) : Int) := by omega
        obtain rfl : q = L.length := by omega
        obtain ⟨ao, cp, rfl⟩ := slice_own hown
        have HT := hide (texts_own hown)
        clear hown HX HP
        go_wp2_with fail
        refine bodyPost_ret (v := .tuple #[.slice ao (askTo p L L.length).length cp, .int .i64 0]) (by simp [results, Tryz.results30, go_sem]) rfl ?_
        exact ⟨ao, ⟨cp, rfl⟩, HT.out, hBr⟩
  · have HK : Hid (askS p x = []) := by rw [Hid, askS, if_neg h0]
    rw [HK.out]
    have h0' : (asI x 5 == 0) = false := by rw [beq_eq_false_iff_ne]; exact h0
    clear HK HX HP
    generalize asI x 5 = E at *
    generalize x.s.length = n3 at *
    generalize x.l.length = n1 at *
    generalize x.p.length = n2 at *
    generalize x.t = t at *
    generalize x.k = k at *
    go_enter Tryz.func30, Tryz.ntmps30
    go_wp2_with fail
    have C0 : Below w.heap.size w (w.alloc (.cells #[.int .i64 k, .string t, .slice a1 n1 c1, .slice a2 n2 c2, .slice a3 n3 c3] 26)) := (Below.refl _ w).alloc (Nat.le_refl _) _
    refine (HC.out _ C0).mono ?_
    rintro e w1 ⟨rfl, hb1⟩
    have C1 := C0.trans (hb1.mono C0.size)
    go_wp2_with fail
    refine bodyPost_ret (v := .tuple #[.slice none 0 0, .int .i64 E]) (by simp [results, Tryz.results30, go_sem]) rfl ⟨none, 0, rfl, TextsAt.nil _, C1⟩
set_option maxRecDepth 100000 in
set_option maxHeartbeats 1000000 in
theorem scoreRange_any (v : Value) (x : Itm) (from_ to_ : Int) (w : World) (h : ItemIs w v x) (hl : x.s.length ≤ 9223372036854775807) (hf : -9223372036854775808 ≤ from_) (ht : -9223372036854775808 ≤ to_) (hf2 : from_ ≤ 9223372036854775807) (ht2 : to_ ≤ 9223372036854775807) :
    Calls Tryz.prog 8 #[v, .int .i64 from_, .int .i64 to_] w fun e w' => ∃ a c, e = .returned (.tuple #[.slice a (askS (byPlace x.s.length from_ to_) x).length c, .int .i64 (asI x 5)]) ∧ TextsAt w' a (askS (byPlace x.s.length from_ to_) x) ∧ Below w.heap.size w w' := by
  have HI := hide h
  obtain ⟨⟨a1, c1, a2, c2, a3, c3, rfl, -, -, -⟩, -, -, -, -, -, -, -⟩ := h
  have HPL : Hid (∀ W, Calls Tryz.prog 29 #[.int .i64 x.s.length, .int .i64 from_, .int .i64 to_] W fun e w' => e = .returned (.tuple #[.int .i64 (place1 x.s.length from_ to_), .int .i64 (place2 x.s.length from_ to_)]) ∧ w' = W) := fun W => places_any _ _ _ W hl hf ht hf2 ht2
  have HTH : Hid (∀ b1 b2 W, Below w.heap.size w W → W.cell? ⟨b1, 0, none⟩ = some (.int .i64 (place1 x.s.length from_ to_)) → W.cell? ⟨b2, 0, none⟩ = some (.int .i64 (place2 x.s.length from_ to_)) → Calls Tryz.prog 30 #[.agg #[.int .i64 x.k, .string x.t, .slice a1 x.l.length c1, .slice a2 x.p.length c2, .slice a3 x.s.length c3], .func (.func 31) #[] #[.pointer (some ⟨b1, 0, none⟩), .pointer (some ⟨b2, 0, none⟩)]] W fun e w' => ∃ a c, e = .returned (.tuple #[.slice a (askS (byPlace x.s.length from_ to_) x).length c, .int .i64 (asI x 5)]) ∧ TextsAt w' a (askS (byPlace x.s.length from_ to_) x) ∧ Below W.heap.size W w') := fun b1 b2 W hW h1 h2 => thoseRange_any _ x b1 b2 _ W (HI.out.below hW) (fun i m V hV => (fnRange_any b1 b2 _ _ i m V ((hV.cell (p := ⟨b1, 0, none⟩) (World.block_lt_of_cell? _ _ h1)).trans h1) ((hV.cell (p := ⟨b2, 0, none⟩) (World.block_lt_of_cell? _ _ h2)).trans h2)).mono fun e w' ⟨k1, k2⟩ => ⟨by rw [k1]; unfold byPlace; congr 3 <;> simp, k2⟩)
  clear HI
  generalize askS (byPlace x.s.length from_ to_) x = K at *
  generalize place1 x.s.length from_ to_ = p1 at *
  generalize place2 x.s.length from_ to_ = p2 at *
  generalize asI x 5 = E at *
  generalize x.l.length = n1 at *
  generalize x.p.length = n2 at *
  generalize x.s.length = n3 at *
  generalize x.t = t at *
  generalize x.k = k at *
  go_enter Tryz.func8, Tryz.ntmps8
  go_wp2_with fail
  refine (HPL.out _).mono ?_
  rintro e w1 ⟨rfl, rfl⟩
  have C3 : Below w.heap.size w (((w.alloc (.cells #[.int .i64 k, .string t, .slice a1 n1 c1, .slice a2 n2 c2, .slice a3 n3 c3] 26)).alloc (.cells #[.int .i64 p1] 3)).alloc (.cells #[.int .i64 p2] 3)) := (((Below.refl _ w).alloc (Nat.le_refl _) _).alloc (by simp) _).alloc (by simp; omega) _
  go_wp2_with fail
  refine (HTH.out _ _ _ C3 (by go_simp) (by go_simp)).mono ?_
  rintro e w2 ⟨a, c, rfl, hT, hb2⟩
  have C4 := C3.trans (hb2.mono C3.size)
  have HT := hide hT
  clear hT hb2
  go_wp2_with fail
  refine bodyPost_ret (v := .tuple #[.slice a K.length c, .int .i64 E]) (by simp [results, Tryz.results8, go_sem]) rfl ⟨_, _, rfl, HT.out, C4⟩
set_option maxRecDepth 100000 in
set_option maxHeartbeats 1000000 in
theorem scoreWithin_any (v : Value) (x : Itm) (least most : Int) (w : World) (h : ItemIs w v x) :
    Calls Tryz.prog 9 #[v, .int .i64 least, .int .i64 most] w fun e w' => ∃ a c, e = .returned (.tuple #[.slice a (askS (byNumber least most) x).length c, .int .i64 (asI x 5)]) ∧ TextsAt w' a (askS (byNumber least most) x) ∧ Below w.heap.size w w' := by
  have HI := hide h
  obtain ⟨⟨a1, c1, a2, c2, a3, c3, rfl, -, -, -⟩, -, -, -, -, -, -, -⟩ := h
  have HTH : Hid (∀ b1 b2 W, Below w.heap.size w W → W.cell? ⟨b1, 0, none⟩ = some (.int .i64 least) → W.cell? ⟨b2, 0, none⟩ = some (.int .i64 most) → Calls Tryz.prog 30 #[.agg #[.int .i64 x.k, .string x.t, .slice a1 x.l.length c1, .slice a2 x.p.length c2, .slice a3 x.s.length c3], .func (.func 32) #[] #[.pointer (some ⟨b1, 0, none⟩), .pointer (some ⟨b2, 0, none⟩)]] W fun e w' => ∃ a c, e = .returned (.tuple #[.slice a (askS (byNumber least most) x).length c, .int .i64 (asI x 5)]) ∧ TextsAt w' a (askS (byNumber least most) x) ∧ Below W.heap.size W w') := fun b1 b2 W hW h1 h2 => thoseWithin_any _ x b1 b2 _ W (HI.out.below hW) (fun i m V hV => fnWithin_any b1 b2 _ _ i m V ((hV.cell (p := ⟨b1, 0, none⟩) (World.block_lt_of_cell? _ _ h1)).trans h1) ((hV.cell (p := ⟨b2, 0, none⟩) (World.block_lt_of_cell? _ _ h2)).trans h2))
  clear HI
  generalize askS (byNumber least most) x = K at *
  generalize asI x 5 = E at *
  generalize x.l.length = n1 at *
  generalize x.p.length = n2 at *
  generalize x.s.length = n3 at *
  generalize x.t = t at *
  generalize x.k = k at *
  go_enter Tryz.func9, Tryz.ntmps9
  go_wp2_with fail
  have C3 : Below w.heap.size w (((w.alloc (.cells #[.int .i64 k, .string t, .slice a1 n1 c1, .slice a2 n2 c2, .slice a3 n3 c3] 26)).alloc (.cells #[.int .i64 least] 3)).alloc (.cells #[.int .i64 most] 3)) := (((Below.refl _ w).alloc (Nat.le_refl _) _).alloc (by simp) _).alloc (by simp; omega) _
  refine (HTH.out _ _ _ C3 (by go_simp) (by go_simp)).mono ?_
  rintro e w2 ⟨a, c, rfl, hT, hb2⟩
  have C4 := C3.trans (hb2.mono C3.size)
  have HT := hide hT
  clear hT hb2
  go_wp2_with fail
  refine bodyPost_ret (v := .tuple #[.slice a K.length c, .int .i64 E]) (by simp [results, Tryz.results9, go_sem]) rfl ⟨_, _, rfl, HT.out, C4⟩
end Go.Proofs.YtnobcdhlagfhmaaGreat.Z
