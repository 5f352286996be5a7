/- WALK of the reference's PutScores. -/
import Derived.Test.YtnobcdhlagfhmaaGreatZRh2
import Derived.Test.YtnobcdhlagfhmaaGreatZTx
import Derived.BigQuiet
import Derived.BigRegion
import Derived.Handy
namespace Go.Proofs.YtnobcdhlagfhmaaGreat.Z
open Go.RowKit

theorem lessM_snoc (M : List Sc) (f : ByteArray) (p : Sc) : lessM (M ++ [p]) f = if p.2 = f then lessM M f else lessM M f ++ [p] := by
  unfold lessM
  rw [List.filter_append]
  by_cases h : p.2 = f <;> simp [h]
set_option maxRecDepth 100000 in
set_option maxHeartbeats 16000000 in
theorem putScores_right (v : Value) (x : Itm) (al : Option Addr) (cl : Nat) (l : List Sc) (w : World) (h : ItemIs w v x) (hl : ScoresAt w al l) (hll : l.length ≤ 1400000) (h0 : asI x 5 = 0) (hne : l ≠ []) (hwr : wrongS l = 0) :
    Calls Tryz.prog 10 #[v, .slice al l.length cl] w fun e w' => ∃ u, e = .returned (.tuple #[u, .int .i64 (putN x l), .int .i64 (putE x l)]) ∧ ItemFrom w.heap.size w' u (putI x l) ∧ Below w.heap.size w w' := by
  have HC : Hid (∀ W, Below w.heap.size w W → Calls Tryz.prog 33 #[v, .int .i64 5] W fun e w' => e = .returned (.int .i64 (asI x 5)) ∧ Below W.heap.size W w') := fun W hW => refAs_any v x 5 W (h.below hW)
  obtain ⟨⟨a1, c1, a2, c2, a3, c3, rfl, -, -, hx3⟩, -, -, -, sz, -, -, -⟩ := h
  have AS := asI_score h0
  have hx24 := AS.n
  have hPE : putE x l = if 24 < (togS x.s l).length then 2 else 0 := by rw [putE, if_neg (by simp [h0]), if_neg (by simp [hwr]), if_neg hne]
  obtain ⟨PE, PN, PI, e1, e2, e3, HP⟩ : ∃ PE PN PI, PE = putE x l ∧ PN = putN x l ∧ PI = putI x l ∧ Hid ((24 < (togS x.s l).length → PE = 2 ∧ PN = 0 ∧ PI = Itm.none) ∧ (¬ 24 < (togS x.s l).length → PE = 0 ∧ PN = (((togS x.s l).length : Nat) : Int) - ((x.s.length : Nat) : Int) ∧ PI = kindS (togS x.s l))) := by
    refine ⟨_, _, _, rfl, rfl, rfl, fun h => ?_, fun h => ?_⟩
    · rw [putN, putI, hPE, if_pos h, if_neg (by decide), if_neg (by decide)]
      exact ⟨rfl, rfl, rfl⟩
    · rw [putN, putI, hPE, if_neg h, if_pos rfl, if_pos rfl]
      exact ⟨rfl, rfl, rfl⟩
  rw [← e1, ← e2, ← e3]
  clear e1 e2 e3
  rw [h0] at HC
  have HL := hide hl
  have HX := hide hx3
  have HR := hide AS.r
  have hl0 : ((((l.length : Nat)) : Int) == 0) = false := by rw [beq_eq_false_iff_ne]; exact fun e => hne (List.eq_nil_of_length_eq_zero (by omega))
  have HCK : Hid (∀ q (hq : q < l.length), checkS l[q] = 0) := fun q hq => wrongS_zero hwr _ (List.getElem_mem hq)
  have HTZ : Hid (∀ t ∈ togS x.s l, t.2.size ≤ maxLen) := fun t ht => by
    have hm := lastS_mem ((mem_togS AS.o l t).1 ht)
    rcases List.mem_append.1 hm with h1 | h1
    · exact sz t h1
    · have := (checkS_ok (wrongS_zero hwr t h1)).2.2
      unfold maxLen
      omega
  clear hPE h0 hl hx3 sz hne hwr AS
  generalize x.s = L at *
  generalize x.l.length = n1 at *
  generalize x.t = t at *
  generalize x.k = k at *
  generalize x.p.length = n2 at *
  generalize hK : togS L l = K at *
  have HK := hide hK
  clear hK
  go_enter Tryz.func10, Tryz.ntmps10
  go_wp2_with fail
  refine (HC.out _ (((Below.refl _ w).alloc (Nat.le_refl _) _).alloc (by simp) _)).mono ?_
  rintro e w1 ⟨rfl, hb1⟩
  obtain ⟨hc, hf⟩ := bcell hb1
  have hz : w.heap.size + 1 < w1.heap.size := by have := hb1.size; simp at this; omega
  have hy : w.heap.size < w1.heap.size := by omega
  have hB1 : Below w.heap.size w w1 := (((Below.refl _ w).alloc (Nat.le_refl _) _).alloc (by simp) _).trans (hb1.mono (by simp; omega))
  have HBX : Hid (∀ W, Below w1.heap.size w1 W → (W.cell? ⟨w.heap.size + 1, 0, none⟩ = some (.int .i64 0) ∧ W.cell? ⟨w.heap.size + 1, 1, none⟩ = some (.string ⟨#[]⟩) ∧ W.cell? ⟨w.heap.size + 1, 2, none⟩ = some (.slice none 0 0) ∧ W.cell? ⟨w.heap.size + 1, 3, none⟩ = some (.slice none 0 0) ∧ W.cell? ⟨w.heap.size + 1, 4, none⟩ = some (.slice none 0 0)) ∧ (∀ j, W.frozen? ⟨w.heap.size + 1, j, none⟩ = false) ∧ W.cell? ⟨w.heap.size, 4, none⟩ = some (.slice a3 L.length c3)) := fun W hW =>
    ⟨⟨(hW.cell (p := ⟨w.heap.size + 1, 0, none⟩) hz).trans ((hc _ _ (by simp)).trans (by simp [go_sem])), (hW.cell (p := ⟨w.heap.size + 1, 1, none⟩) hz).trans ((hc _ _ (by simp)).trans (by simp [go_sem])), (hW.cell (p := ⟨w.heap.size + 1, 2, none⟩) hz).trans ((hc _ _ (by simp)).trans (by simp [go_sem])), (hW.cell (p := ⟨w.heap.size + 1, 3, none⟩) hz).trans ((hc _ _ (by simp)).trans (by simp [go_sem])), (hW.cell (p := ⟨w.heap.size + 1, 4, none⟩) hz).trans ((hc _ _ (by simp)).trans (by simp [go_sem]))⟩, fun j => (hW.frozen (p := ⟨w.heap.size + 1, j, none⟩) hz).trans ((hf _ _ (by simp)).trans (by simp [go_sem])), (hW.cell (p := ⟨w.heap.size, 4, none⟩) hy).trans ((hc _ _ (by simp; omega)).trans (by simp [go_sem]))⟩
  have hz1 := hB1.size
  clear hc hf hb1 HC
  go_wp2_with fail
  go_loop [7, 8] (fun ev iv => ∃ q : Nat, q ≤ l.length ∧ iv = .int .i64 q ∧ ev = .int .i64 0) (fun _ iv => l.length - (intOf iv).toNat)
  case atStart => exact ⟨0, Nat.zero_le _, rfl, rfl⟩
  case round =>
    obtain ⟨q, hq, rfl, rfl⟩ := hrel
    by_cases hlt : q < l.length
    · have hlt' : ((q : Nat) : Int) < ((l.length : Nat) : Int) := by omega
      obtain ⟨g0, o0, rfl, hcs⟩ : ∃ g o, al = some ⟨g, o, none⟩ ∧ ∀ i (h : i < l.length), w.cell? ⟨g, o + i * 2, none⟩ = some (.int .i64 l[i].1) ∧ w.cell? ⟨g, o + i * 2 + 1, none⟩ = some (.string l[i].2) := by
        rcases HL.out with h | h
        · rw [h] at hlt; simp at hlt
        · exact h
      have d0 := (hB1.cell (p := ⟨g0, o0 + q * 2, none⟩) (World.block_lt_of_cell? _ _ (hcs q hlt).1)).trans (hcs q hlt).1
      have d1 := (hB1.cell (p := ⟨g0, o0 + q * 2 + 1, none⟩) (World.block_lt_of_cell? _ _ (hcs q hlt).2)).trans (hcs q hlt).2
      obtain ⟨k1, k2, k3⟩ := checkS_ok (HCK.out q hlt)
      have hdi : decide (-999999999 ≤ l[q].1 ∧ l[q].1 ≤ 999999999) = true := decide_eq_true ⟨k1, k2⟩
      have hL2 : ¬ (60 : Int) < ((l[q].2.size : Nat) : Int) := by omega
      clear hcs HL HX HR HCK HTZ HK HBX HP k1 k2 k3
      generalize l[q] = X at *
      obtain ⟨X1, X2⟩ := X
      dsimp only at d0 d1 hdi hL2
      go_wp2_with fail
      refine (isInt_any _ _).mono ?_
      rintro e w3 ⟨rfl, hw3⟩
      have hw4 := hw3.symm
      subst hw4
      rw [hdi]
      go_wp2_with fail
      go_round
      case rel => exact ⟨q + 1, by omega, by go_num, rfl⟩
      case measure => simp [intOf]; omega
    · have hge : ¬ ((q : Nat) : Int) < ((l.length : Nat) : Int) := by omega
      obtain rfl : q = l.length := by omega
      clear hlt hq
      have HPX : Hid (∀ W, Below w1.heap.size w1 W → ScoresAt W a3 L) := fun W hW => HX.out.below (hB1.trans (hW.mono hz1))
      obtain ⟨-, -, x2⟩ := HBX.out w1 (Below.refl _ _)
      go_wp2_with (at_builtin; refine wpList_append_pairs rfl _ _ rfl w1.heap.size _ _ _ rfl (World.ownsRow_lit w1 #[] 0 (Nat.le_refl _) (by unfold maxLen; omega) rfl) a3 c3 L rfl (HPX.out _ ((Below.refl _ w1).alloc (Nat.le_refl _) _)) (by omega) (by simp) ?_)
      intro v2 w2 hown2 hgrow2
      have hb2 : Below w1.heap.size w1 w2 := ((Below.refl _ w1).alloc (Nat.le_refl _) _).grown hgrow2 (by simp) (fun j hj => by simp [Value.ownBlock] at hj; omega)
      have hown2' : w2.ownsRow w1.heap.size 36 2 v2 L.length (rowP L) := by simpa using hown2
      clear hown2 hgrow2 HPX HX
      go_wp2_with fail
      go_loopw [9, 10] (fun v iv wr => ∃ q : Nat, q ≤ l.length ∧ iv = .int .i64 q ∧ wr.ownsRow w1.heap.size 36 2 v (togS L (l.take q)).length (rowP (togS L (l.take q))) ∧ Below w1.heap.size w1 wr) (fun _ iv _ => l.length - (intOf iv).toNat)
      case atStart => exact ⟨0, Nat.zero_le _, rfl, hown2', hb2⟩
      case round =>
        clear hown2' hb2 hge x2
        obtain ⟨wo, hwo⟩ : ∃ wo, wo = wr := ⟨wr, rfl⟩
        subst hwo
        obtain ⟨q, hq, rfl, hown, hbr⟩ := hrel
        have hsz := hbr.size
        have hBr : Below w.heap.size w wo := hB1.trans (hbr.mono hz1)
        by_cases hlt : q < l.length
        · have hlt' : ((q : Nat) : Int) < ((l.length : Nat) : Int) := by omega
          obtain ⟨g0, o0, rfl, hcs⟩ : ∃ g o, al = some ⟨g, o, none⟩ ∧ ∀ i (h : i < l.length), w.cell? ⟨g, o + i * 2, none⟩ = some (.int .i64 l[i].1) ∧ w.cell? ⟨g, o + i * 2 + 1, none⟩ = some (.string l[i].2) := by
            rcases HL.out with h | h
            · rw [h] at hlt; simp at hlt
            · exact h
          have d0 := (hBr.cell (p := ⟨g0, o0 + q * 2, none⟩) (World.block_lt_of_cell? _ _ (hcs q hlt).1)).trans (hcs q hlt).1
          have d1 := (hBr.cell (p := ⟨g0, o0 + q * 2 + 1, none⟩) (World.block_lt_of_cell? _ _ (hcs q hlt).2)).trans (hcs q hlt).2
          have HRM := hide (rises_togS HR.out (l.take q))
          have HSN : Hid (togS L (l.take (q + 1)) = putS (togS L (l.take q)) l[q]) := by rw [Hid, List.take_succ_eq_append_getElem hlt, togS_snoc]
          have hML : (togS L (l.take q)).length ≤ 1400024 := Nat.le_trans (togS_len _ _) (by rw [List.length_take]; omega)
          have hXz : l[q].2.size ≤ maxLen := by
            have := (checkS_ok (HCK.out q hlt)).2.2
            unfold maxLen
            omega
          have hg0 : g0 < wo.heap.size := World.block_lt_of_cell? _ _ d0
          clear hcs HL HCK HTZ HR HK HBX HP
          generalize l[q] = X at *
          generalize togS L (l.take q) = M at *
          obtain ⟨X1, X2⟩ := X
          dsimp only at d0 d1 hXz
          obtain ⟨ao, cap, rfl, -⟩ := pairs_of_own hown
          have HNR : Hid (RisesS (lessM M X2)) := List.Pairwise.sublist List.filter_sublist HRM.out
          have hNL := lessM_len M X2
          have HPS : Hid (putS M (X1, X2) = insS (lessM M X2) (X1, X2)) := rfl
          clear HRM
          go_wp2_with fail
          go_loopw [11, 12] (fun lv nv wi => ∃ n : Nat, n ≤ M.length ∧ nv = .int .i64 n ∧ wi.ownsRow wo.heap.size 36 2 lv (lessM (M.take n) X2).length (rowP (lessM (M.take n) X2)) ∧ Below wo.heap.size wo wi) (fun _ nv _ => M.length - (intOf nv).toNat)
          case atStart => exact ⟨0, Nat.zero_le _, rfl, World.ownsRow_nil _ _ _ _, Below.refl _ _⟩
          case round =>
            obtain ⟨n, hn, rfl, hownL, hb3⟩ := hrel
            have hown3 := (Kept.of_below hb3 (fun _ => False)).owns hown (fun _ _ e => e)
            have hbr3 := hbr.trans (hb3.mono hsz)
            have e0 := (hb3.cell (p := ⟨g0, o0 + q * 2, none⟩) hg0).trans d0
            have e1 := (hb3.cell (p := ⟨g0, o0 + q * 2 + 1, none⟩) hg0).trans d1
            have hsz3 := hb3.size
            by_cases hn2 : n < M.length
            · have hn2' : ((n : Nat) : Int) < ((M.length : Nat) : Int) := by omega
              obtain ⟨g, rfl, hg1, hg2⟩ := ownP_head hown3 (by omega)
              obtain ⟨m0, m1⟩ := ownP_at hown3 (List.getElem?_eq_getElem hn2)
              have HSL : Hid (lessM (M.take (n + 1)) X2 = if M[n].2 = X2 then lessM (M.take n) X2 else lessM (M.take n) X2 ++ [M[n]]) := by rw [Hid, List.take_succ_eq_append_getElem hn2, lessM_snoc]
              have hll2 : (lessM (M.take n) X2).length ≤ 1400024 := Nat.le_trans (lessM_len _ _) (by rw [List.length_take]; omega)
              have hbq := beq_fd M[n].2 X2
              clear hown hown3 HNR HSN d0 d1 HPS
              generalize M[n] = Y at *
              obtain ⟨Y1, Y2⟩ := Y
              dsimp only at m0 m1 HSL hbq
              by_cases hE : Y2 = X2
              · have HS2 : Hid (lessM (M.take (n + 1)) X2 = lessM (M.take n) X2) := by rw [Hid, HSL.out, if_pos hE]
                rw [decide_eq_true hE] at hbq
                clear HSL hE
                go_wp2_with fail
                go_quiet (fail)
                go_wp2_with fail
                go_roundw
                case rel => exact ⟨n + 1, by omega, by go_num, by rw [HS2.out]; exact (Kept.of_below (below_drewN (Below.refl _ _) _) (fun _ => False)).owns hownL (fun _ _ e => e), below_drewN hb3 _⟩
                case measure => simp [intOf]; omega
              · have HS2 : Hid (lessM (M.take (n + 1)) X2 = lessM (M.take n) X2 ++ [(Y1, Y2)]) := by rw [Hid, HSL.out, if_neg hE]
                rw [decide_eq_false hE] at hbq
                clear HSL hE
                go_wp2_with fail
                go_quiet (fail)
                have hownD := (Kept.of_below (below_drewN (Below.refl wr.heap.size wr) nq) (fun _ => False)).owns hownL (fun _ _ e => e)
                have hbD := below_drewN hb3 nq
                have m0D : (wr.drewN nq).cell? ⟨g, n * 2, none⟩ = some (.int .i64 Y1) := m0
                have m1D : (wr.drewN nq).cell? ⟨g, n * 2 + 1, none⟩ = some (.string Y2) := m1
                have hszD : wo.heap.size ≤ (wr.drewN nq).heap.size := hbD.size
                clear m0 m1 hownL e0 e1
                generalize wr.drewN nq = wd at *
                go_wp2_with (at_builtin; refine wpList_append_pairs rfl _ _ rfl wo.heap.size _ _ _ rfl (hownD.alloc _) (some ⟨wd.heap.size, 0, none⟩) 1 [(Y1, Y2)] rfl (pairAt_new _ (Y1, Y2)) (by simp; omega) (by simp; omega) ?_)
                intro v4 w4 hown4 hgrow
                have hb4 : Below wo.heap.size wo w4 := (hbD.alloc hszD _).grown hgrow (by simp; omega) (fun j hj => (hownD.lt j hj).1)
                have hown5 : w4.ownsRow wo.heap.size 36 2 v4 (lessM (M.take (n + 1)) X2).length (rowP (lessM (M.take (n + 1)) X2)) := by
                  rw [HS2.out, rowP_snoc, List.length_append]
                  exact hown4
                clear hown4 hgrow hownD hbD
                go_wp2_with fail
                go_roundw
                case rel => exact ⟨n + 1, by omega, by go_num, hown5, hb4⟩
                case measure => simp [intOf]; omega
            · have hge : ¬ ((n : Nat) : Int) < ((M.length : Nat) : Int) := by omega
              obtain rfl : n = M.length := by omega
              rw [List.take_length] at hownL
              clear hown hown3 hbr d0 d1 hBr hn hn2
              generalize lessM M X2 = N at *
              go_wp2_with (at_builtin; refine wpList_append_pairs rfl _ _ rfl wo.heap.size _ _ _ rfl (hownL.alloc _) (some ⟨wr.heap.size, 0, none⟩) 1 [(X1, X2)] rfl (pairAt_new _ (X1, X2)) (by simp; omega) (by simp; omega) ?_)
              intro v4 w4 hown4 hgrow
              have hb4 : Below w1.heap.size w1 w4 := (hbr3.alloc hbr3.size _).grown hgrow (by have := hbr3.size; simp; omega) (fun j hj => by have := (hownL.lt j hj).1; omega)
              have hown5 : w4.ownsRow w1.heap.size 36 2 v4 (N.length + 1) (rowP (insAt N N.length (X1, X2))) := by
                rw [insAt_all, rowP_snoc]
                exact TextsFrom.low hown4 hsz
              clear hown4 hgrow hownL hbr3 e0 e1 hb3
              obtain ⟨g, cap4, rfl, hg1, hg2⟩ := ownP_shape hown5 (by omega)
              go_wp2_with fail
              go_loopw [13] (fun kv wr5 => ∃ k : Nat, k ≤ N.length ∧ kv = .int .i64 k ∧ wr5.ownsRow w1.heap.size 36 2 (.slice (some ⟨g, 0, none⟩) (N.length + 1) cap4) (N.length + 1) (rowP (insAt N k (X1, X2))) ∧ Below w1.heap.size w1 wr5 ∧ Hid (∀ j (hj : j < N.length), k ≤ j → lessS (X1, X2) N[j])) (fun kv _ => (intOf kv).toNat)
              case atStart => exact ⟨N.length, Nat.le_refl _, by first | rfl | go_num, hown5, hb4, fun j hj h => absurd h (by omega)⟩
              case round =>
                clear hown5 hb4 hg2
                obtain ⟨k, hk, rfl, hown6, hb6, HGT⟩ := hrel
                by_cases hk0 : k = 0
                · subst hk0
                  have HEQ : Hid (insAt N 0 (X1, X2) = togS L (l.take (q + 1))) := by
                    rw [Hid, HSN.out, HPS.out]
                    exact insS_ins HNR.out (Nat.zero_le _) HGT.out (fun j _ h => absurd h (by omega))
                  have HEL : Hid ((togS L (l.take (q + 1))).length = N.length + 1) := by rw [Hid, ← HEQ.out]; exact insAt_len (Nat.zero_le _)
                  clear HGT HSN HNR HPS
                  go_wp2_with fail
                  go_quiet (fail)
                  go_wp2_with fail
                  go_roundw
                  case rel => exact ⟨q + 1, by omega, by go_num, by rw [HEL.out, ← HEQ.out]; exact (Kept.of_below (below_drewN (Below.refl _ _) _) (fun _ => False)).owns hown6 (fun _ _ e => e), below_drewN hb6 _⟩
                  case measure => simp [intOf]; omega
                · obtain ⟨m, rfl⟩ : ∃ m, k = m + 1 := ⟨k - 1, by omega⟩
                  have hm : m < N.length := by omega
                  obtain ⟨i0, i1⟩ := insAt_at (p := (X1, X2)) hm
                  have HCS : Hid (∀ W, Below wr.heap.size wr W → (W.cell? ⟨g, m * 2, none⟩ = some (.int .i64 N[m].1) ∧ W.cell? ⟨g, m * 2 + 1, none⟩ = some (.string N[m].2)) ∧ (W.cell? ⟨g, (m + 1) * 2, none⟩ = some (.int .i64 X1) ∧ W.cell? ⟨g, (m + 1) * 2 + 1, none⟩ = some (.string X2)) ∧ ∀ j, W.frozen? ⟨g, j, none⟩ = false) := fun W hW => by
                    have hoW := (Kept.of_below hW (fun _ => False)).owns hown6 (fun _ _ e => e)
                    exact ⟨ownP_at hoW i0, ownP_at hoW i1, fun j => hoW.frozenAt j⟩
                  have HSW := hide (insAt_swap (p := (X1, X2)) hm)
                  have HSC : Hid (∀ W, Calls Tryz.prog 35 #[.agg #[.int .i64 X1, .string X2], .agg #[.int .i64 N[m].1, .string N[m].2]] W fun e w' => e = .returned (.bool (decide (cmpS (X1, X2) N[m] < 0))) ∧ Below W.heap.size W w') := fun W => scoreLess_any (X1, X2) N[m] W hXz
                  have HCL : Hid (cmpS (X1, X2) N[m] < 0 ↔ lessS (X1, X2) N[m]) := cmpS_lt _ _
                  have hm1 : ((m : Nat) : Int) < ((N.length : Nat) : Int) := by omega
                  have hm2 : ((m : Nat) : Int) + 1 < ((N.length : Nat) : Int) + 1 := by omega
                  have hm3 : ((m : Nat) : Int) < ((N.length : Nat) : Int) + 1 := by omega
                  have hm0 : (0 : Int) < ((m : Nat) : Int) + 1 := by omega
                  have hm4 : (0 : Int) ≤ ((m : Nat) : Int) + 1 := by omega
                  have hm5 : (0 : Int) ≤ ((m : Nat) : Int) := by omega
                  have hw1 : IntKind.i64.wrap (((m + 1 : Nat) : Int) - 1) = ((m : Nat) : Int) := by rw [wrap_small _ (by omega) (by omega)]; omega
                  have hw2 : IntKind.i64.wrap (((m : Nat) : Int) + 1 - 1) = ((m : Nat) : Int) := by rw [wrap_small _ (by omega) (by omega)]; omega
                  have hw3 : IntKind.i64.wrap ((m : Nat) : Int) = ((m : Nat) : Int) := wrap_small _ (by omega) (by omega)
                  obtain ⟨⟨y0, y1⟩, ⟨y2, y3⟩, -⟩ := HCS.out wr (Below.refl _ _)
                  have hbd := hb6.drew
                  have hbd0 : Below wr.heap.size wr wr.drew := (Below.refl _ _).drew
                  have hsz6 := hb6.size
                  by_cases hless : cmpS (X1, X2) N[m] < 0
                  · have HGT2 : Hid (∀ j (hj : j < N.length), m ≤ j → lessS (X1, X2) N[j]) := fun j hj h => by
                      by_cases e : j = m
                      · subst e; exact HCL.out.1 hless
                      · exact HGT.out j hj (by omega)
                    rw [decide_eq_true hless] at HSC
                    obtain ⟨Y, hY⟩ : ∃ Y, Y = N[m] := ⟨_, rfl⟩
                    rw [← hY] at y0 y1 HSC HSW HCS
                    obtain ⟨Y1, Y2⟩ := Y
                    dsimp only at y0 y1 HSC HCS
                    clear hY HGT HCL HNR HSN HPS hless i0 i1
                    have HWS : Hid (∀ W, Below wr.heap.size wr W → (((((W.setCell ⟨g, (m + 1) * 2, none⟩ (.int .i64 Y1)).setCell ⟨g, (m + 1) * 2 + 1, none⟩ (.string Y2)).setCell ⟨g, m * 2, none⟩ (.int .i64 X1)).setCell ⟨g, m * 2 + 1, none⟩ (.string X2))).ownsRow w1.heap.size 36 2 (.slice (some ⟨g, 0, none⟩) (N.length + 1) cap4) (N.length + 1) (rowP (insAt N m (X1, X2))) ∧ Below w1.heap.size w1 (((((W.setCell ⟨g, (m + 1) * 2, none⟩ (.int .i64 Y1)).setCell ⟨g, (m + 1) * 2 + 1, none⟩ (.string Y2)).setCell ⟨g, m * 2, none⟩ (.int .i64 X1)).setCell ⟨g, m * 2 + 1, none⟩ (.string X2)))) := fun W hW => by
                      have ho := (Kept.of_below hW (fun _ => False)).owns hown6 (fun _ _ e => e)
                      have h1 := ownP_set ho (m + 1) (by rw [insAt_len (by omega)]; omega) (Y1, Y2)
                      have h2 := ownP_set h1 m (by rw [List.length_set, insAt_len (by omega)]; omega) (X1, X2)
                      rw [HSW.out] at h2
                      have hbW := hb6.trans (hW.mono hsz6)
                      exact ⟨h2, (((hbW.setCell (p := ⟨g, (m + 1) * 2, none⟩) hg1 _).setCell (p := ⟨g, (m + 1) * 2 + 1, none⟩) hg1 _).setCell (p := ⟨g, m * 2, none⟩) hg1 _).setCell (p := ⟨g, m * 2 + 1, none⟩) hg1 _⟩
                    clear hown6 HSW
                    go_wp2_with fail
                    go_region_held3 (fun w' => w'.cell? ⟨g, m * 2, none⟩ = some (.int .i64 Y1) ∧ w'.cell? ⟨g, m * 2 + 1, none⟩ = some (.string Y2) ∧ w'.cell? ⟨g, (m + 1) * 2, none⟩ = some (.int .i64 X1) ∧ w'.cell? ⟨g, (m + 1) * 2 + 1, none⟩ = some (.string X2)) (go_keep) ((go_at_call 35; refine (HSC.out _).mono ?_; rintro e w5 ⟨rfl, hb5⟩; have D5 := hbd0.trans (hb5.mono (Nat.le_refl _)); obtain ⟨⟨f0, f1⟩, ⟨f2, f3⟩, hfz⟩ := HCS.out _ D5))
                    have z0 := hfz ((m + 1) * 2)
                    have z1 := hfz ((m + 1) * 2 + 1)
                    have z2 := hfz (m * 2)
                    have z3 := hfz (m * 2 + 1)
                    have HW2 := hide (HWS.out w5 D5)
                    clear hfz y0 y1 y2 y3 HSC HCS HWS hb5 D5
                    go_wp2_with fail
                    go_region
                    generalize ((((w5.setCell ⟨g, (m + 1) * 2, none⟩ (.int .i64 Y1)).setCell ⟨g, (m + 1) * 2 + 1, none⟩ (.string Y2)).setCell ⟨g, m * 2, none⟩ (.int .i64 X1)).setCell ⟨g, m * 2 + 1, none⟩ (.string X2)) = w9 at *
                    go_wp2_with fail
                    go_roundw
                    case rel => exact ⟨m, by omega, by go_num, (Kept.of_below ((Below.refl _ w9).drew) (fun _ => False)).owns HW2.out.1 (fun _ _ e => e), HW2.out.2.drew, HGT2⟩
                    case measure => simp [intOf]
                  · have HEQ : Hid (insAt N (m + 1) (X1, X2) = togS L (l.take (q + 1))) := by
                      rw [Hid, HSN.out, HPS.out]
                      exact insS_ins HNR.out (by omega) HGT.out (fun j _ h => by obtain rfl : j = m := by omega
                                                                                 exact fun h2 => hless (HCL.out.2 h2))
                    have HEL : Hid ((togS L (l.take (q + 1))).length = N.length + 1) := by rw [Hid, ← HEQ.out]; exact insAt_len (by omega)
                    rw [decide_eq_false hless] at HSC
                    obtain ⟨Y, hY⟩ : ∃ Y, Y = N[m] := ⟨_, rfl⟩
                    rw [← hY] at y0 y1 HSC HCS
                    obtain ⟨Y1, Y2⟩ := Y
                    dsimp only at y0 y1 HSC HCS
                    clear hY HGT HCL HNR HSN HPS HSW hless i0 i1
                    have HO6 : Hid (∀ W, Below wr.heap.size wr W → W.ownsRow w1.heap.size 36 2 (.slice (some ⟨g, 0, none⟩) (N.length + 1) cap4) (N.length + 1) (rowP (insAt N (m + 1) (X1, X2))) ∧ Below w1.heap.size w1 W) := fun W hW => ⟨(Kept.of_below hW (fun _ => False)).owns hown6 (fun _ _ e => e), hb6.trans (hW.mono hsz6)⟩
                    clear hown6
                    go_wp2_with fail
                    go_region_held3 (fun w' => w'.cell? ⟨g, m * 2, none⟩ = some (.int .i64 Y1) ∧ w'.cell? ⟨g, m * 2 + 1, none⟩ = some (.string Y2) ∧ w'.cell? ⟨g, (m + 1) * 2, none⟩ = some (.int .i64 X1) ∧ w'.cell? ⟨g, (m + 1) * 2 + 1, none⟩ = some (.string X2)) (go_keep) ((go_at_call 35; refine (HSC.out _).mono ?_; rintro e w5 ⟨rfl, hb5⟩; have D5 := hbd0.trans (hb5.mono (Nat.le_refl _)); obtain ⟨⟨f0, f1⟩, ⟨f2, f3⟩, hfz⟩ := HCS.out _ D5))
                    have HW2 := hide (HO6.out w5 D5)
                    clear hfz y0 y1 y2 y3 HSC HCS HO6 hb5 D5 f0 f1 f2 f3
                    go_wp2_with fail
                    go_roundw
                    case rel => exact ⟨q + 1, by omega, by go_num, by rw [HEL.out, ← HEQ.out]; exact HW2.out.1, HW2.out.2⟩
                    case measure => simp [intOf]; omega
        · have hge2 : ¬ ((q : Nat) : Int) < ((l.length : Nat) : Int) := by omega
          obtain rfl : q = l.length := by omega
          rw [List.take_length, HK.out] at hown
          obtain ⟨ao, cap, rfl, -⟩ := pairs_of_own hown
          have hkn : K.length ≤ 1400024 := by rw [← HK.out]; exact Nat.le_trans (togS_len _ _) (by omega)
          obtain ⟨-, hF⟩ := pairsFrom_own hown
          have HF := hide hF
          clear hF HK HR HCK HL hown
          by_cases h24 : 24 < K.length
          · have h24' : (24 : Int) < ((K.length : Nat) : Int) := by omega
            have H1 := hide (HP.out.1 h24)
            clear HP
            obtain ⟨⟨r0, r1, r2, r3, r4⟩, fz, x2⟩ := HBX.out wo hbr
            have fz0 := fz 0
            have fz1 := fz 1
            have fz2 := fz 2
            have fz3 := fz 3
            have fz4 := fz 4
            go_wp2_with fail
            refine bodyPost_ret (v := .tuple #[.agg #[.int .i64 0, .string ⟨#[]⟩, .slice none 0 0, .slice none 0 0, .slice none 0 0], .int .i64 0, .int .i64 2]) (by simp [results, Tryz.results10, go_sem, r0, r1, r2, r3, r4]) rfl ⟨_, by rw [H1.out.1, H1.out.2.1], by rw [H1.out.2.2]; exact fun w'' _ => zero_is w'', ?_⟩
            go_grown
          · have h24' : ¬ (24 : Int) < ((K.length : Nat) : Int) := by omega
            have H1 := hide (HP.out.2 h24)
            clear HP
            obtain ⟨fk, fa, fn, fc, ho, hi⟩ := filledP_item (p := fun W' => ∀ g o u, w1.heap.size ≤ g → wo.cell? ⟨g, o, none⟩ = some u → W'.cell? ⟨g, o, none⟩ = some u) (cp := cap) (fun W' hW' => HF.out W' hW') HTZ.out (by omega)
            have HO := hide ho
            have HI := hide hi
            clear ho hi HTZ HF
            obtain ⟨-, -, x2⟩ := HBX.out wo hbr
            have hbd : Below w1.heap.size w1 wo.drew := hbr.drew
            have nn1 : wo.heap.size ≠ w.heap.size + 1 := by omega
            have nn2 : w.heap.size + 1 ≠ wo.heap.size := by omega
            have nn3 : w.heap.size ≠ w.heap.size + 1 := by omega
            have nn4 : w.heap.size + 1 ≠ w.heap.size := by omega
            have nn5 : ¬ w.heap.size = w.heap.size + 1 := by omega
            have hwr := wrap_small (((K.length : Nat) : Int) - ((L.length : Nat) : Int)) (by omega) (by omega)
            go_wp2_with fail
            go_region_held3 (fun w' => w'.cell? ⟨w.heap.size, 4, none⟩ = some (.slice a3 L.length c3)) (go_keep)
              ((go_at_call 36; refine (HO.out _).mono ?_; rintro e w9 ⟨rfl, hb9⟩; have hb9' : Below w1.heap.size w1 w9 := hbd.trans (hb9.mono hsz); obtain ⟨⟨b0, b1, b2, b3, b4⟩, fz, x3⟩ := HBX.out w9 hb9'; have fz0 := fz 0; have fz1 := fz 1; have fz2 := fz 2; have fz3 := fz 3; have fz4 := fz 4))
            all_goals
              go_wp2_with fail
              refine bodyPost_ret (v := .tuple #[.agg #[.int .i64 fk, .string ⟨#[]⟩, .slice none 0 0, .slice none 0 0, .slice fa fn fc], .int .i64 (((K.length : Nat) : Int) - ((L.length : Nat) : Int)), .int .i64 0]) (by simp [results, Tryz.results10, go_sem, b0, b1, b2, b3, b4]) rfl ⟨_, by rw [H1.out.1, H1.out.2.1], ?_, ?_⟩
              · rw [H1.out.2.2]
                exact fun w'' hw => HI.out w'' (fun g' o' u' hg hu => hw g' o' u' (by omega) ((five_apart w9 (w.heap.size + 1) _ _ _ _ _ g' o' (by omega)).trans ((hb9.cell (p := ⟨g', o', none⟩) (World.block_lt_of_cell? wo _ hu)).trans hu)))
              · have hb9'' := hB1.trans (hb9'.mono hz1)
                go_grown
theorem putScores_any (v : Value) (x : Itm) (al : Option Addr) (cl : Nat) (l : List Sc) (w : World) (h : ItemIs w v x) (hl : ScoresAt w al l) (hll : l.length ≤ 1400000) :
    Calls Tryz.prog 10 #[v, .slice al l.length cl] w fun e w' => ∃ u, e = .returned (.tuple #[u, .int .i64 (putN x l), .int .i64 (putE x l)]) ∧ ItemFrom w.heap.size w' u (putI x l) ∧ Below w.heap.size w w' := by
  by_cases h0 : asI x 5 = 0
  · by_cases hne : l = []
    · exact putScores_wrong v x al cl l w h hl hll (.inr (.inl hne))
    · by_cases hwr : wrongS l = 0
      · exact putScores_right v x al cl l w h hl hll h0 hne hwr
      · exact putScores_wrong v x al cl l w h hl hll (.inr (.inr hwr))
  · exact putScores_wrong v x al cl l w h hl hll (.inl h0)
end Go.Proofs.YtnobcdhlagfhmaaGreat.Z
