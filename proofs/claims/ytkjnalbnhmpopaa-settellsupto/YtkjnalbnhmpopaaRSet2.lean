/- WALK of the reference's AddSet. -/
import Derived.Test.YtkjnalbnhmpopaaSet8
import Derived.Handy
import Derived.BigRegion
import Derived.Deep.RegionHeld3
namespace Go.Proofs.Ytkjnalbnhmpopaa
open Go.RowKit

structure PutAt (l : List ByteArray) (s : ByteArray) (w : World) (k : Nat) (P : Bool) (O : List ByteArray) (v : Value) (wr : World) : Prop where
  o : wr.ownsRow w.heap.size 9 1 v O.length (strs O)
  e : O ++ (if P = true then l.drop k else insT (l.drop k) s) = putT l s
  b : Below w.heap.size w wr
  n : O.length ≤ k + P.toNat
set_option maxRecDepth 100000 in
set_option maxHeartbeats 2000000 in
theorem putText_any (a : Option Addr) (cap : Nat) (l : List ByteArray) (s : ByteArray) (w : World) (hs : TextsAt w a l) (hn : l.length ≤ 1900000) (hz : ∀ t ∈ l, t.size ≤ maxLen) :
    Calls Try.prog 67 #[.slice a l.length cap, .string s] w fun e w' => ∃ v, e = .returned v ∧ w'.ownsRow w.heap.size 9 1 v (putT l s).length (strs (putT l s)) ∧ Below w.heap.size w w' := by
  obtain ⟨i0, hi, hz0, hz1, hz2⟩ := info_parts infoStr
  have HS := hide hs
  have HZ := hide hz
  have HH := hide (hasText_any a cap l s w hs (by omega))
  obtain ⟨P0, hP0⟩ : ∃ P, P = hasT l s := ⟨_, rfl⟩
  rw [← hP0] at HH
  have HST : Hid (PutAt l s w 0 P0 [] (.slice none 0 0) w) := ⟨World.ownsRow_nil _ _ _ _, by rw [hP0, List.nil_append, List.drop_zero, putT], Below.refl _ _, by simp⟩
  clear hs hz hP0
  go_enter Try.func67, Try.ntmps67
  go_wp2_with fail
  refine HH.out.mono ?_
  rintro e w1 ⟨rfl, rfl⟩
  go_wp2_with fail
  go_loopw [5, 6, 7] (fun v pv i wr => ∃ (k : Nat) (P : Bool) (O : List ByteArray), k ≤ l.length ∧ pv = .bool P ∧ i = .int .i64 k ∧ PutAt l s w1 k P O v wr) (fun _ _ i _ => l.length - (intOf i).toNat)
  case atStart => exact ⟨0, P0, [], Nat.zero_le _, rfl, rfl, HST.out⟩
  case round =>
    obtain ⟨k, P, O, hk, rfl, rfl, hPA⟩ := hrel
    have own := hPA.o
    have hbr := hPA.b
    have hon := hPA.n
    have hon1 : O.length ≤ k + 1 := by have : P.toNat ≤ 1 := Bool.toNat_le P; omega
    have HE := hide hPA.e
    have hsz := hbr.size
    clear hPA HST
    obtain ⟨w, hww⟩ : ∃ w, w = w1 := ⟨w1, rfl⟩
    subst hww
    by_cases hlt : k < l.length
    · have hlt' : ((k : Nat) : Int) < ((l.length : Nat) : Int) := by omega
      obtain ⟨g, o, rfl, hcs⟩ : ∃ g o, a = some ⟨g, o, none⟩ ∧ ∀ i (h : i < l.length), w.cell? ⟨g, o + i, none⟩ = some (.string l[i]) := by
        rcases HS.out with h | h
        · subst h; simp at hlt
        · exact h
      have HB : Hid (∀ W, Below w.heap.size w W → W.cell? ⟨g, o + k, none⟩ = some (.string l[k])) := fun W hW => (hW.cell (p := ⟨g, o + k, none⟩) (World.block_lt_of_cell? _ _ (hcs k hlt))).trans (hcs k hlt)
      have HD : Hid (l.drop k = l[k] :: l.drop (k + 1)) := List.drop_eq_getElem_cons hlt
      have hX := HZ.out _ (List.getElem_mem hlt)
      obtain ⟨X, hXe⟩ : ∃ X, X = l[k] := ⟨_, rfl⟩
      rw [← hXe] at HB HD hX
      clear hXe hcs HS HZ HH
      have d0 := HB.out wr hbr
      cases P with
      | true =>
        have HE2 : Hid ((O ++ [X]) ++ l.drop (k + 1) = putT l s) := by
          have := HE.out
          rw [if_pos rfl, HD.out] at this
          rw [Hid, List.append_assoc]
          exact this
        clear HE
        go_wp2_with (at_builtin; refine wpList_append_own _ rfl _ _ 28 rfl w.heap.size 9 i0 (.string ⟨#[]⟩) 1 16 Try.underlying28 hi hz0 hz1 hz2 rfl (by decide) _ _ _ rfl (own.alloc _) ⟨wr.heap.size, 0, none⟩ 1 1 [.string X] rfl rfl ?c1 ?c2 ?c3 ?c4 ?c5 ?_)
        case c1 =>
          intro j u hj
          match j, hj with
          | 0, hj => simp at hj; subst hj; simp [Addr.add]
        case c2 => first | rfl | (intro u hu; simp at hu; subst hu; rfl)
        case c3 => unfold maxLen; omega
        case c4 => omega
        case c5 => first | omega | (simp; omega)
        intro v4 w4 hw4 hgrow _
        have hb4 : Below w.heap.size w w4 := (hbr.alloc hbr.size _).grown hgrow (by have := hbr.size; simp; omega) (fun j hj => by have := (own.lt j hj).1; omega)
        have own4 := hw4
        have hzz4 := hb4.size
        clear hgrow hw4 own hbr
        have HR : Hid (PutAt l s w (k + 1) true (O ++ [X]) v4 w4) := ⟨by rw [List.length_append]; simpa [strs] using own4, by rw [if_pos rfl]; exact HE2.out, hb4, by rw [List.length_append]; simp at hon ⊢; omega⟩
        clear own4 hb4 d0
        go_wp2_with fail
        go_roundw
        case rel => exact ⟨k + 1, true, _, by omega, rfl, by go_num, HR.out⟩
        case measure => simp [intOf]; omega
      | false =>
        have HC : Hid (∀ W, Calls Try.prog 82 #[.string X, .string s] W fun e w' => e = .returned (.int .i64 (cmpT X s)) ∧ Below W.heap.size W w') := fun W => textOrder_below X s W hX
        have HE1 : Hid (O ++ insT (X :: l.drop (k + 1)) s = putT l s) := by
          have := HE.out
          rw [if_neg (by decide), HD.out] at this
          exact this
        clear HE
        by_cases hgt : 0 < cmpT X s
        · have HE2 : Hid ((O ++ [s] ++ [X]) ++ l.drop (k + 1) = putT l s) := by
            have := HE1.out
            rw [insT, if_pos hgt] at this
            rw [Hid, ← this]
            simp
          clear HE1
          go_wp2_with fail
          refine (HC.out _).mono ?_
          rintro e w2 ⟨rfl, hb2⟩
          have own2 := (Kept.of_below hb2 (fun _ => False)).owns own (fun _ _ e => e)
          have hbr2 : Below w.heap.size w w2 := hbr.trans (hb2.mono hbr.size)
          have hsz2 := hbr2.size
          clear own hbr hb2 d0
          go_wp2_with (at_builtin; refine wpList_append_own _ rfl _ _ 28 rfl w.heap.size 9 i0 (.string ⟨#[]⟩) 1 16 Try.underlying28 hi hz0 hz1 hz2 rfl (by decide) _ _ _ rfl (own2.alloc _) ⟨w2.heap.size, 0, none⟩ 1 1 [.string s] rfl rfl ?c1 ?c2 ?c3 ?c4 ?c5 ?_)
          case c1 =>
            intro j u hj
            match j, hj with
            | 0, hj => simp at hj; subst hj; simp [Addr.add]
          case c2 => first | rfl | (intro u hu; simp at hu; subst hu; rfl)
          case c3 => unfold maxLen; omega
          case c4 => omega
          case c5 => first | omega | (simp; omega)
          intro v3 w3 hw3 hgrow _
          have hb3 : Below w.heap.size w w3 := (hbr2.alloc hbr2.size _).grown hgrow (by have := hbr2.size; simp; omega) (fun j hj => by have := (own2.lt j hj).1; omega)
          have own3 := hw3
          have hzz3 := hb3.size
          clear hgrow hw3 own2 hbr2
          have d0 := HB.out w3 hb3
          go_wp2_with (at_builtin; refine wpList_append_own _ rfl _ _ 28 rfl w.heap.size 9 i0 (.string ⟨#[]⟩) 1 16 Try.underlying28 hi hz0 hz1 hz2 rfl (by decide) _ _ _ rfl (own3.alloc _) ⟨w3.heap.size, 0, none⟩ 1 1 [.string X] rfl rfl ?c1 ?c2 ?c3 ?c4 ?c5 ?_)
          case c1 =>
            intro j u hj
            match j, hj with
            | 0, hj => simp at hj; subst hj; simp [Addr.add]
          case c2 => first | rfl | (intro u hu; simp at hu; subst hu; rfl)
          case c3 => unfold maxLen; omega
          case c4 => omega
          case c5 => first | omega | (simp; omega)
          intro v4 w4 hw4 hgrow _
          have hb4 : Below w.heap.size w w4 := (hb3.alloc hb3.size _).grown hgrow (by have := hb3.size; simp; omega) (fun j hj => by have := (own3.lt j hj).1; omega)
          have own4 := hw4
          have hzz4 := hb4.size
          clear hgrow hw4 own3 hb3
          have HR : Hid (PutAt l s w (k + 1) true (O ++ [s] ++ [X]) v4 w4) := ⟨by rw [List.length_append, List.length_append]; simpa [strs] using own4, by rw [if_pos rfl]; exact HE2.out, hb4, by rw [List.length_append, List.length_append]; simp at hon ⊢; omega⟩
          clear own4 hb4 d0
          go_wp2_with fail
          go_roundw
          case rel => exact ⟨k + 1, true, _, by omega, rfl, by go_num, HR.out⟩
          case measure => simp [intOf]; omega
        · have HE2 : Hid ((O ++ [X]) ++ insT (l.drop (k + 1)) s = putT l s) := by
            have := HE1.out
            rw [insT, if_neg hgt] at this
            rw [Hid, ← this]
            simp
          clear HE1
          go_wp2_with fail
          refine (HC.out _).mono ?_
          rintro e w2 ⟨rfl, hb2⟩
          have own2 := (Kept.of_below hb2 (fun _ => False)).owns own (fun _ _ e => e)
          have hbr2 : Below w.heap.size w w2 := hbr.trans (hb2.mono hbr.size)
          have hsz2 := hbr2.size
          clear own hbr hb2 d0
          have d0 := HB.out w2 hbr2
          go_wp2_with (at_builtin; refine wpList_append_own _ rfl _ _ 28 rfl w.heap.size 9 i0 (.string ⟨#[]⟩) 1 16 Try.underlying28 hi hz0 hz1 hz2 rfl (by decide) _ _ _ rfl (own2.alloc _) ⟨w2.heap.size, 0, none⟩ 1 1 [.string X] rfl rfl ?c1 ?c2 ?c3 ?c4 ?c5 ?_)
          case c1 =>
            intro j u hj
            match j, hj with
            | 0, hj => simp at hj; subst hj; simp [Addr.add]
          case c2 => first | rfl | (intro u hu; simp at hu; subst hu; rfl)
          case c3 => unfold maxLen; omega
          case c4 => omega
          case c5 => first | omega | (simp; omega)
          intro v4 w4 hw4 hgrow _
          have hb4 : Below w.heap.size w w4 := (hbr2.alloc hbr2.size _).grown hgrow (by have := hbr2.size; simp; omega) (fun j hj => by have := (own2.lt j hj).1; omega)
          have own4 := hw4
          have hzz4 := hb4.size
          clear hgrow hw4 own2 hbr2
          have HR : Hid (PutAt l s w (k + 1) false (O ++ [X]) v4 w4) := ⟨by rw [List.length_append]; simpa [strs] using own4, by rw [if_neg (by decide)]; exact HE2.out, hb4, by rw [List.length_append]; simp at hon ⊢; omega⟩
          clear own4 hb4 d0
          go_wp2_with fail
          go_roundw
          case rel => exact ⟨k + 1, false, _, by omega, rfl, by go_num, HR.out⟩
          case measure => simp [intOf]; omega
    · have hge : ¬ ((k : Nat) : Int) < ((l.length : Nat) : Int) := by omega
      obtain rfl : k = l.length := by omega
      have HE' := HE.out
      rw [List.drop_length] at HE'
      cases P with
      | true =>
        rw [if_pos rfl, List.append_nil] at HE'
        have HEE := hide HE'
        clear HE HE'
        go_wp2_with fail
        go_ret
        exact ⟨_, rfl, by rw [← HEE.out]; exact own, hbr⟩
      | false =>
        rw [if_neg (by decide), insT] at HE'
        have HEE := hide HE'
        clear HE HE'
        go_wp2_with (at_builtin; refine wpList_append_own _ rfl _ _ 28 rfl w.heap.size 9 i0 (.string ⟨#[]⟩) 1 16 Try.underlying28 hi hz0 hz1 hz2 rfl (by decide) _ _ _ rfl (own.alloc _) ⟨wr.heap.size, 0, none⟩ 1 1 [.string s] rfl rfl ?c1 ?c2 ?c3 ?c4 ?c5 ?_)
        case c2 => first | rfl | (intro u hu; simp at hu; subst hu; rfl)
        case c3 => unfold maxLen; omega
        case c4 => omega
        case c5 => first | omega | (simp; omega)
        intro v4 w4 hw4 hgrow _
        have hb4 : Below w.heap.size w w4 := (hbr.alloc hbr.size _).grown hgrow (by have := hbr.size; simp; omega) (fun j hj => by have := (own.lt j hj).1; omega)
        have own4 := hw4
        have hzz4 := hb4.size
        clear hgrow hw4 own hbr
        go_wp2_with fail
        go_ret
        exact ⟨_, rfl, by rw [← HEE.out, List.length_append]; simpa [strs] using own4, hb4⟩
end Go.Proofs.Ytkjnalbnhmpopaa
namespace Go.Proofs.Ytkjnalbnhmpopaa
open Go.RowKit

theorem addE_cases {x : Itm} {l : List ByteArray} (h0 : asI x 3 = 0) : (someE l ≠ 0 → addE x l = someE l) ∧ (someE l = 0 → 24 < (addT x.l l).length → addE x l = 2) ∧ (someE l = 0 → ¬ 24 < (addT x.l l).length → addE x l = 0) := by
  obtain ⟨-, h24, -⟩ := asI_set h0
  have hA : addE x l = if 24 < (addT x.l l).length ∨ l.any longT = true then 2 else if l = [] then 1 else 0 := by rw [addE, if_neg (by simp [h0])]
  rw [hA]
  unfold someE
  by_cases hl : l = []
  · subst hl
    have e : addT x.l [] = x.l := rfl
    have h2 : ¬ 24 < x.l.length := by omega
    rw [e]
    simp [h2]
  · cases hg : l.any longT with
    | true => simp [hl]
    | false => simp [hl]
structure AddAt (L0 l : List ByteArray) (w1 : World) (m : Nat) (ao : Option Addr) (wr : World) : Prop where
  t1 : TextsAt wr ao (addT L0 (l.take m))
  t2 : 0 < m → ∀ W, (∀ g o u, w1.heap.size ≤ g → wr.cell? ⟨g, o, none⟩ = some u → W.cell? ⟨g, o, none⟩ = some u) → TextsAt W ao (addT L0 (l.take m))
  b : Below w1.heap.size w1 wr
set_option maxRecDepth 100000 in
set_option maxHeartbeats 4000000 in
theorem addSet_any (v : Value) (x : Itm) (al : Option Addr) (cl : Nat) (l : List ByteArray) (w : World) (h : ItemIs w v x) (hl : TextsAt w al l) (hlz : ∀ t ∈ l, t.size ≤ maxLen) (hll : l.length ≤ 1500000) :
    Calls Try.prog 31 #[v, .slice al l.length cl] w fun e w' => ∃ u, e = .returned (.tuple #[u, .int .i64 (addN x l), .int .i64 (addE x l)]) ∧ ItemFrom w.heap.size w' u (addI x l) ∧ Below w.heap.size w w' := by
  have HC : Hid (∀ W, Below w.heap.size w W → Calls Try.prog 19 #[v, .int .i64 3] W fun e w' => e = .returned (.int .i64 (asI x 3)) ∧ Below W.heap.size W w') := fun W hW => refAs_any v x 3 W (h.below hW)
  obtain ⟨⟨a1, c1, a2, c2, a3, c3, rfl, hx1, -, -⟩, tz, lz, -, -, -, -, -⟩ := h
  have HL := hide hl
  have HX := hide hx1
  have HS : Hid (∀ W, Below w.heap.size w W → Calls Try.prog 48 #[.slice al l.length cl] W fun e w' => e = .returned (.int .i64 (someE l)) ∧ w' = W) := fun W hW => checkSome_any al cl l W (HL.out.below hW) (by omega)
  have HZ : Hid (∀ m, ∀ t ∈ addT x.l (l.take m), t.size ≤ maxLen) := fun m t ht => by
    rcases mem_addT.1 ht with h1 | h1
    · exact lz t h1
    · exact hlz t (List.mem_of_mem_take h1)
  clear hl hx1 lz hlz
  by_cases h0 : asI x 3 = 0
  · obtain ⟨-, hx24, -⟩ := asI_set h0
    obtain ⟨HA1, HA2, HA3⟩ := addE_cases (l := l) h0
    rw [h0] at HC
    by_cases hs0 : someE l = 0
    · have hlp : 0 < l.length := List.length_pos_iff.2 (fun e => by subst e; cases hs0)
      rw [hs0] at HS
      have hkl := addT_len x.l l
      by_cases h24 : 24 < (addT x.l l).length
      · have hE := HA2 hs0 h24
        rw [addN, addI, hE, if_neg (by decide), if_neg (by decide)]
        have h24' : (24 : Int) < (((addT x.l l).length : Nat) : Int) := by omega
        clear HA1 HA2 HA3 hE h0 hs0
        generalize hK : addT x.l l = K at *
        have HK := hide hK
        clear hK
        generalize hL0 : x.l = L0 at *
        clear hL0
        generalize hn1 : L0.length = n1 at *
        have HL0 := hide hn1
        clear hn1
        generalize x.t = t at *
        generalize x.k = k at *
        generalize x.p.length = n2 at *
        generalize x.s.length = n3 at *
        go_enter Try.func31, Try.ntmps31
        go_wp2_with fail
        refine (HC.out _ (((Below.refl _ w).alloc (Nat.le_refl _) _).alloc (by simp) _)).mono ?_
        rintro e w1 ⟨rfl, hb1⟩
        obtain ⟨hc, hf⟩ := bcell hb1
        have hz : w.heap.size + 1 < w1.heap.size := by have := hb1.size; simp at this; omega
        have y0 : w.heap.size < w1.heap.size := by omega
        have hB1 : Below w.heap.size w w1 := (((Below.refl _ w).alloc (Nat.le_refl _) _).alloc (by simp) _).trans (hb1.mono (by simp; omega))
        go_wp2_with fail
        refine (HS.out _ hB1).mono ?_
        rintro e w0 ⟨rfl, hw0⟩
        have hw1 := hw0.symm
        subst hw1
        have HBX : Hid (∀ W, Below w1.heap.size w1 W → (W.cell? ⟨w.heap.size + 1, 0, none⟩ = some (.int .i64 0) ∧ W.cell? ⟨w.heap.size + 1, 1, none⟩ = some (.string ⟨#[]⟩) ∧ W.cell? ⟨w.heap.size + 1, 2, none⟩ = some (.slice none 0 0) ∧ W.cell? ⟨w.heap.size + 1, 3, none⟩ = some (.slice none 0 0) ∧ W.cell? ⟨w.heap.size + 1, 4, none⟩ = some (.slice none 0 0)) ∧ (∀ j, W.frozen? ⟨w.heap.size + 1, j, none⟩ = false) ∧ W.cell? ⟨w.heap.size, 2, none⟩ = some (.slice a1 n1 c1)) := fun W hW =>
          ⟨⟨(hW.cell (p := ⟨w.heap.size + 1, 0, none⟩) hz).trans ((hc _ _ (by simp)).trans (by simp [go_sem])), (hW.cell (p := ⟨w.heap.size + 1, 1, none⟩) hz).trans ((hc _ _ (by simp)).trans (by simp [go_sem])), (hW.cell (p := ⟨w.heap.size + 1, 2, none⟩) hz).trans ((hc _ _ (by simp)).trans (by simp [go_sem])), (hW.cell (p := ⟨w.heap.size + 1, 3, none⟩) hz).trans ((hc _ _ (by simp)).trans (by simp [go_sem])), (hW.cell (p := ⟨w.heap.size + 1, 4, none⟩) hz).trans ((hc _ _ (by simp)).trans (by simp [go_sem]))⟩, fun j => (hW.frozen (p := ⟨w.heap.size + 1, j, none⟩) hz).trans ((hf _ _ (by simp)).trans (by simp [go_sem])), (hW.cell (p := ⟨w.heap.size, 2, none⟩) y0).trans ((hc _ _ (by simp; omega)).trans (by simp [go_sem]))⟩
        go_wp2_with fail
        go_loopw [8, 9] (fun v i wr => ∃ (m : Nat) (ao : Option Addr) (cp : Nat), m ≤ l.length ∧ v = .slice ao (addT L0 (l.take m)).length cp ∧ i = .int .i64 m ∧ AddAt L0 l w1 m ao wr) (fun _ i _ => l.length - (intOf i).toNat)
        case atStart => exact ⟨0, a1, c1, Nat.zero_le _, by rw [List.take_zero, addT, List.foldl_nil, HL0.out], rfl, ⟨by rw [List.take_zero]; exact HX.out.below hB1, fun h => absurd h (by omega), Below.refl _ _⟩⟩
        case round =>
          obtain ⟨m, ao, cp, hm, rfl, rfl, hAA⟩ := hrel
          have HAA := hide hAA
          have hbr := hAA.b
          have hsz := hbr.size
          clear hAA
          by_cases hlt : m < l.length
          · have hlt' : ((m : Nat) : Int) < ((l.length : Nat) : Int) := by omega
            obtain ⟨g, o, rfl, hcs⟩ : ∃ g o, al = some ⟨g, o, none⟩ ∧ ∀ i (h : i < l.length), w.cell? ⟨g, o + i, none⟩ = some (.string l[i]) := by
              rcases HL.out with h | h
              · subst h; simp at hlt
              · exact h
            have hBr : Below w.heap.size w wr := hB1.trans (hbr.mono hB1.size)
            have d0 : wr.cell? ⟨g, o + m, none⟩ = some (.string l[m]) := (hBr.cell (p := ⟨g, o + m, none⟩) (World.block_lt_of_cell? _ _ (hcs m hlt))).trans (hcs m hlt)
            have HT : Hid (addT L0 (l.take (m + 1)) = putT (addT L0 (l.take m)) l[m]) := by rw [Hid, List.take_succ_eq_append_getElem hlt, addT_snoc]
            have hml := addT_len L0 (l.take m)
            rw [List.length_take, HL0.out] at hml
            have HP := hide (putText_any ao cp (addT L0 (l.take m)) l[m] wr HAA.out.t1 (by omega) (HZ.out m))
            obtain ⟨X, hX⟩ : ∃ X, X = l[m] := ⟨_, rfl⟩
            rw [← hX] at d0 HT HP
            clear hX hcs
            go_wp2_with fail
            refine HP.out.mono ?_
            rintro e w4 ⟨v4, rfl, hown4, hb4⟩
            rw [← HT.out] at hown4
            obtain ⟨ao4, cp4, rfl⟩ := slice_own hown4
            have HR : Hid (AddAt L0 l w1 (m + 1) ao4 w4) := ⟨texts_own hown4, fun _ W hW => texts_from (own_low hown4 hsz) hW, hbr.trans (hb4.mono hsz)⟩
            clear hown4 hb4 d0 HP HAA
            go_wp2_with fail
            go_roundw
            case rel => exact ⟨m + 1, ao4, cp4, by omega, rfl, by go_num, HR.out⟩
            case measure => simp [intOf]; omega
          · have hge : ¬ ((m : Nat) : Int) < ((l.length : Nat) : Int) := by omega
            obtain rfl : m = l.length := by omega
            have HT2 : Hid (∀ W, (∀ g o u, w1.heap.size ≤ g → wr.cell? ⟨g, o, none⟩ = some u → W.cell? ⟨g, o, none⟩ = some u) → TextsAt W ao K) := fun W hW => by
              have := HAA.out.t2 (by omega) W hW
              rw [List.take_length, HK.out] at this
              exact this
            have HZK : Hid (∀ t ∈ K, t.size ≤ maxLen) := by
              have := HZ.out l.length
              rw [List.take_length, HK.out] at this
              exact this
            rw [List.take_length, HK.out]
            clear HAA HZ HK
            obtain ⟨⟨r0, r1, r2, r3, r4⟩, fz, x2⟩ := HBX.out wr hbr
            have fz0 := fz 0
            have fz1 := fz 1
            have fz2 := fz 2
            have fz3 := fz 3
            have fz4 := fz 4
            have hzB := hB1.size
            go_wp2_with fail
            refine bodyPost_ret (v := .tuple #[.agg #[.int .i64 0, .string ⟨#[]⟩, .slice none 0 0, .slice none 0 0, .slice none 0 0], .int .i64 0, .int .i64 2]) (by simp [results, Try.results31, go_sem, r0, r1, r2, r3, r4]) rfl ⟨_, rfl, fun w'' _ => zero_is w'', ?_⟩
            have hbb := hB1.trans (hbr.mono hB1.size)
            go_grown
      · have hE := HA3 hs0 h24
        rw [addN, addI, hE, if_pos rfl, if_pos rfl]
        have h24' : ¬ (24 : Int) < (((addT x.l l).length : Nat) : Int) := by omega
        clear HA1 HA2 HA3 hE h0 hs0
        generalize hK : addT x.l l = K at *
        have HK := hide hK
        clear hK
        generalize hL0 : x.l = L0 at *
        clear hL0
        generalize hn1 : L0.length = n1 at *
        have HL0 := hide hn1
        clear hn1
        generalize x.t = t at *
        generalize x.k = k at *
        generalize x.p.length = n2 at *
        generalize x.s.length = n3 at *
        go_enter Try.func31, Try.ntmps31
        go_wp2_with fail
        refine (HC.out _ (((Below.refl _ w).alloc (Nat.le_refl _) _).alloc (by simp) _)).mono ?_
        rintro e w1 ⟨rfl, hb1⟩
        obtain ⟨hc, hf⟩ := bcell hb1
        have hz : w.heap.size + 1 < w1.heap.size := by have := hb1.size; simp at this; omega
        have y0 : w.heap.size < w1.heap.size := by omega
        have hB1 : Below w.heap.size w w1 := (((Below.refl _ w).alloc (Nat.le_refl _) _).alloc (by simp) _).trans (hb1.mono (by simp; omega))
        go_wp2_with fail
        refine (HS.out _ hB1).mono ?_
        rintro e w0 ⟨rfl, hw0⟩
        have hw1 := hw0.symm
        subst hw1
        have HBX : Hid (∀ W, Below w1.heap.size w1 W → (W.cell? ⟨w.heap.size + 1, 0, none⟩ = some (.int .i64 0) ∧ W.cell? ⟨w.heap.size + 1, 1, none⟩ = some (.string ⟨#[]⟩) ∧ W.cell? ⟨w.heap.size + 1, 2, none⟩ = some (.slice none 0 0) ∧ W.cell? ⟨w.heap.size + 1, 3, none⟩ = some (.slice none 0 0) ∧ W.cell? ⟨w.heap.size + 1, 4, none⟩ = some (.slice none 0 0)) ∧ (∀ j, W.frozen? ⟨w.heap.size + 1, j, none⟩ = false) ∧ W.cell? ⟨w.heap.size, 2, none⟩ = some (.slice a1 n1 c1)) := fun W hW =>
          ⟨⟨(hW.cell (p := ⟨w.heap.size + 1, 0, none⟩) hz).trans ((hc _ _ (by simp)).trans (by simp [go_sem])), (hW.cell (p := ⟨w.heap.size + 1, 1, none⟩) hz).trans ((hc _ _ (by simp)).trans (by simp [go_sem])), (hW.cell (p := ⟨w.heap.size + 1, 2, none⟩) hz).trans ((hc _ _ (by simp)).trans (by simp [go_sem])), (hW.cell (p := ⟨w.heap.size + 1, 3, none⟩) hz).trans ((hc _ _ (by simp)).trans (by simp [go_sem])), (hW.cell (p := ⟨w.heap.size + 1, 4, none⟩) hz).trans ((hc _ _ (by simp)).trans (by simp [go_sem]))⟩, fun j => (hW.frozen (p := ⟨w.heap.size + 1, j, none⟩) hz).trans ((hf _ _ (by simp)).trans (by simp [go_sem])), (hW.cell (p := ⟨w.heap.size, 2, none⟩) y0).trans ((hc _ _ (by simp; omega)).trans (by simp [go_sem]))⟩
        go_wp2_with fail
        go_loopw [8, 9] (fun v i wr => ∃ (m : Nat) (ao : Option Addr) (cp : Nat), m ≤ l.length ∧ v = .slice ao (addT L0 (l.take m)).length cp ∧ i = .int .i64 m ∧ AddAt L0 l w1 m ao wr) (fun _ i _ => l.length - (intOf i).toNat)
        case atStart => exact ⟨0, a1, c1, Nat.zero_le _, by rw [List.take_zero, addT, List.foldl_nil, HL0.out], rfl, ⟨by rw [List.take_zero]; exact HX.out.below hB1, fun h => absurd h (by omega), Below.refl _ _⟩⟩
        case round =>
          obtain ⟨m, ao, cp, hm, rfl, rfl, hAA⟩ := hrel
          have HAA := hide hAA
          have hbr := hAA.b
          have hsz := hbr.size
          clear hAA
          by_cases hlt : m < l.length
          · have hlt' : ((m : Nat) : Int) < ((l.length : Nat) : Int) := by omega
            obtain ⟨g, o, rfl, hcs⟩ : ∃ g o, al = some ⟨g, o, none⟩ ∧ ∀ i (h : i < l.length), w.cell? ⟨g, o + i, none⟩ = some (.string l[i]) := by
              rcases HL.out with h | h
              · subst h; simp at hlt
              · exact h
            have hBr : Below w.heap.size w wr := hB1.trans (hbr.mono hB1.size)
            have d0 : wr.cell? ⟨g, o + m, none⟩ = some (.string l[m]) := (hBr.cell (p := ⟨g, o + m, none⟩) (World.block_lt_of_cell? _ _ (hcs m hlt))).trans (hcs m hlt)
            have HT : Hid (addT L0 (l.take (m + 1)) = putT (addT L0 (l.take m)) l[m]) := by rw [Hid, List.take_succ_eq_append_getElem hlt, addT_snoc]
            have hml := addT_len L0 (l.take m)
            rw [List.length_take, HL0.out] at hml
            have HP := hide (putText_any ao cp (addT L0 (l.take m)) l[m] wr HAA.out.t1 (by omega) (HZ.out m))
            obtain ⟨X, hX⟩ : ∃ X, X = l[m] := ⟨_, rfl⟩
            rw [← hX] at d0 HT HP
            clear hX hcs
            go_wp2_with fail
            refine HP.out.mono ?_
            rintro e w4 ⟨v4, rfl, hown4, hb4⟩
            rw [← HT.out] at hown4
            obtain ⟨ao4, cp4, rfl⟩ := slice_own hown4
            have HR : Hid (AddAt L0 l w1 (m + 1) ao4 w4) := ⟨texts_own hown4, fun _ W hW => texts_from (own_low hown4 hsz) hW, hbr.trans (hb4.mono hsz)⟩
            clear hown4 hb4 d0 HP HAA
            go_wp2_with fail
            go_roundw
            case rel => exact ⟨m + 1, ao4, cp4, by omega, rfl, by go_num, HR.out⟩
            case measure => simp [intOf]; omega
          · have hge : ¬ ((m : Nat) : Int) < ((l.length : Nat) : Int) := by omega
            obtain rfl : m = l.length := by omega
            have HT2 : Hid (∀ W, (∀ g o u, w1.heap.size ≤ g → wr.cell? ⟨g, o, none⟩ = some u → W.cell? ⟨g, o, none⟩ = some u) → TextsAt W ao K) := fun W hW => by
              have := HAA.out.t2 (by omega) W hW
              rw [List.take_length, HK.out] at this
              exact this
            have HZK : Hid (∀ t ∈ K, t.size ≤ maxLen) := by
              have := HZ.out l.length
              rw [List.take_length, HK.out] at this
              exact this
            rw [List.take_length, HK.out]
            clear HAA HZ HK
            obtain ⟨fk, fa, fn, fc, ho, hi⟩ := filled_item (p := fun W' => ∀ g o u, w1.heap.size ≤ g → wr.cell? ⟨g, o, none⟩ = some u → W'.cell? ⟨g, o, none⟩ = some u) (cp := cp) 3 HT2.out HZK.out (by omega)
            have HO := hide ho
            have HI := hide hi
            clear ho hi HT2 HZK HC HS HL
            go_wp2_with fail
            obtain ⟨-, -, x2⟩ := HBX.out wr hbr
            have hbd : Below w1.heap.size w1 wr.drew := hbr.drew
            have nn1 : wr.heap.size ≠ w.heap.size + 1 := by omega
            have nn2 : w.heap.size + 1 ≠ wr.heap.size := by omega
            have nn3 : w.heap.size ≠ w.heap.size + 1 := by omega
            have nn4 : w.heap.size + 1 ≠ w.heap.size := by omega
            have nn5 : ¬ w.heap.size = w.heap.size + 1 := by omega
            have hwr := wrap_small (((K.length : Nat) : Int) - ((n1 : Nat) : Int)) (by omega) (by omega)
            have hzl := hbr.size
            have hz1 := hB1.size
            clear hc hf hb1
            go_region_held3 (fun w' => w'.cell? ⟨w.heap.size, 2, none⟩ = some (.slice a1 n1 c1)) (go_keep)
              ((go_at_call 49; refine (HO.out _).mono ?_; rintro e w9 ⟨rfl, hb9⟩; have hb9' : Below w1.heap.size w1 w9 := hbd.trans (hb9.mono hzl); obtain ⟨⟨b0, b1, b2, b3, b4⟩, fz, x3⟩ := HBX.out w9 hb9'; have fz0 := fz 0; have fz1 := fz 1; have fz2 := fz 2; have fz3 := fz 3; have fz4 := fz 4))
            all_goals
              go_wp2_with fail
              refine bodyPost_ret (v := .tuple #[.agg #[.int .i64 fk, .string ⟨#[]⟩, .slice fa fn fc, .slice none 0 0, .slice none 0 0], .int .i64 (((K.length : Nat) : Int) - ((n1 : Nat) : Int)), .int .i64 0]) (by simp [results, Try.results31, go_sem, b0, b1, b2, b3, b4]) rfl ⟨_, rfl, ?_, ?_⟩
              · exact fun w'' hw => HI.out w'' (fun g' o' u' hg hu => hw g' o' u' (by omega) ((five_apart w9 (w.heap.size + 1) _ _ _ _ _ g' o' (by omega)).trans ((hb9.cell (p := ⟨g', o', none⟩) (World.block_lt_of_cell? wr _ hu)).trans hu)))
              · have hb9'' := hB1.trans (hb9'.mono hz1)
                go_grown
    · have hE := HA1 hs0
      rw [addN, addI, hE, if_neg hs0, if_neg hs0]
      have hs0' : (someE l == 0) = false := by rw [beq_eq_false_iff_ne]; exact hs0
      clear HA1 HA2 HA3 hE h0 hs0 HZ HX HL
      generalize someE l = E at *
      generalize x.l.length = n1 at *
      generalize x.t = t at *
      generalize x.k = k at *
      generalize x.p.length = n2 at *
      generalize x.s.length = n3 at *
      go_enter Try.func31, Try.ntmps31
      go_wp2_with fail
      refine (HC.out _ (((Below.refl _ w).alloc (Nat.le_refl _) _).alloc (by simp) _)).mono ?_
      rintro e w1 ⟨rfl, hb1⟩
      obtain ⟨hc, hf⟩ := bcell hb1
      have hz : w.heap.size + 1 < w1.heap.size := by have := hb1.size; simp at this; omega
      have y0 : w.heap.size < w1.heap.size := by omega
      have hB1 : Below w.heap.size w w1 := (((Below.refl _ w).alloc (Nat.le_refl _) _).alloc (by simp) _).trans (hb1.mono (by simp; omega))
      go_wp2_with fail
      refine (HS.out _ hB1).mono ?_
      rintro e w0 ⟨rfl, hw0⟩
      have hw1 := hw0.symm
      subst hw1
      go_wp2_with fail
      refine bodyPost_ret (v := .tuple #[.agg #[.int .i64 0, .string ⟨#[]⟩, .slice none 0 0, .slice none 0 0, .slice none 0 0], .int .i64 0, .int .i64 E]) (by simp [results, Try.results31, go_sem, hc]) rfl ⟨_, rfl, fun w'' _ => zero_is w'', ?_⟩
      go_grown
  · have hE : addE x l = asI x 3 := by rw [addE, if_pos h0]
    rw [addN, addI, hE, if_neg h0, if_neg h0]
    have h0' : (asI x 3 == 0) = false := by rw [beq_eq_false_iff_ne]; exact h0
    clear hE HZ HX HL HS
    generalize asI x 3 = E at *
    generalize x.l.length = n1 at *
    generalize x.t = t at *
    generalize x.k = k at *
    generalize x.p.length = n2 at *
    generalize x.s.length = n3 at *
    go_enter Try.func31, Try.ntmps31
    go_wp2_with fail
    refine (HC.out _ (((Below.refl _ w).alloc (Nat.le_refl _) _).alloc (by simp) _)).mono ?_
    rintro e w1 ⟨rfl, hb1⟩
    obtain ⟨hc, hf⟩ := bcell hb1
    have hz : w.heap.size + 1 < w1.heap.size := by have := hb1.size; simp at this; omega
    have y0 : w.heap.size < w1.heap.size := by omega
    have hB1 : Below w.heap.size w w1 := (((Below.refl _ w).alloc (Nat.le_refl _) _).alloc (by simp) _).trans (hb1.mono (by simp; omega))
    go_wp2_with fail
    refine bodyPost_ret (v := .tuple #[.agg #[.int .i64 0, .string ⟨#[]⟩, .slice none 0 0, .slice none 0 0, .slice none 0 0], .int .i64 0, .int .i64 E]) (by simp [results, Try.results31, go_sem, hc]) rfl ⟨_, rfl, fun w'' _ => zero_is w'', ?_⟩
    go_grown
end Go.Proofs.Ytkjnalbnhmpopaa
