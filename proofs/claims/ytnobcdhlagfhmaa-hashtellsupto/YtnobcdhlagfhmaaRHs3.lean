/- WALK of the reference's PutPairs. -/
import Derived.Test.YtnobcdhlagfhmaaRHs2
import Derived.BigQuiet
import Derived.BigRegion
import Derived.Handy
namespace Go.Proofs.Ytnobcdhlagfhmaa
open Go.RowKit

/-- where a field stands, as far as it has been looked for -/
def FoundTo (M : List Pr) (f : ByteArray) (n : Nat) (kv : Value) : Prop :=
  (kv = .int .i64 M.length ∧ ∀ j (hj : j < M.length), j < n → M[j].1 ≠ f) ∨ ∃ i, ∃ hi : i < M.length, kv = .int .i64 i ∧ M[i].1 = f
theorem FoundTo.step {M : List Pr} {f : ByteArray} {n : Nat} {kv : Value} (h : FoundTo M f n kv) (hn : n < M.length) (hf : M[n].1 ≠ f) : FoundTo M f (n + 1) kv := by
  rcases h with ⟨h1, h2⟩ | h
  · refine .inl ⟨h1, fun j hj h3 => ?_⟩
    by_cases e : j = n
    · subst e; exact hf
    · exact h2 j hj (by omega)
  · exact .inr h
set_option maxRecDepth 100000 in
set_option maxHeartbeats 16000000 in
theorem putPairs_right (v : Value) (x : Itm) (al : Option Addr) (cl : Nat) (l : List Pr) (w : World) (h : ItemIs w v x) (hl : PairsAt w al l) (hll : l.length ≤ 1400000) (hlz : ∀ t ∈ l, t.1.size ≤ maxLen ∧ t.2.size ≤ maxLen) (h0 : asI x 4 = 0) (hne : l ≠ []) (hlong : l.any longP = false) :
    Calls Try.prog 9 #[v, .slice al l.length cl] w fun e w' => ∃ u, e = .returned (.tuple #[u, .int .i64 (putN x l), .int .i64 (putE x l)]) ∧ ItemFrom w.heap.size w' u (putI x l) ∧ Below w.heap.size w w' := by
  have HC : Hid (∀ W, Below w.heap.size w W → Calls Try.prog 31 #[v, .int .i64 4] W fun e w' => e = .returned (.int .i64 (asI x 4)) ∧ Below W.heap.size W w') := fun W hW => refAs_any v x 4 W (h.below hW)
  obtain ⟨⟨a1, c1, a2, c2, a3, c3, rfl, -, hx2, -⟩, -, -, pz, -, -, -, -⟩ := h
  obtain ⟨hR, hx24, -⟩ := asI_hash h0
  have hPE : putE x l = if 24 < (togP x.p l).length then 2 else 0 := by rw [putE, if_neg (by simp [h0]), hlong]; simp [hne]
  obtain ⟨PE, PN, PI, e1, e2, e3, HP⟩ : ∃ PE PN PI, PE = putE x l ∧ PN = putN x l ∧ PI = putI x l ∧ Hid ((24 < (togP x.p l).length → PE = 2 ∧ PN = 0 ∧ PI = Itm.none) ∧ (¬ 24 < (togP x.p l).length → PE = 0 ∧ PN = (((togP x.p l).length : Nat) : Int) - ((x.p.length : Nat) : Int) ∧ PI = kindP (togP x.p l))) := by
    refine ⟨_, _, _, rfl, rfl, rfl, fun h => ?_, fun h => ?_⟩
    · rw [putN, putI, hPE, if_pos h, if_neg (by decide), if_neg (by decide)]
      exact ⟨rfl, rfl, rfl⟩
    · rw [putN, putI, hPE, if_neg h, if_pos rfl, if_pos rfl]
      exact ⟨rfl, rfl, rfl⟩
  rw [← e1, ← e2, ← e3]
  clear e1 e2 e3
  rw [h0] at HC
  have HL := hide hl
  have HX := hide hx2
  have HR := hide hR
  have hl0 : ((((l.length : Nat)) : Int) == 0) = false := by rw [beq_eq_false_iff_ne]; exact fun e => hne (List.eq_nil_of_length_eq_zero (by omega))
  have HLZ := hide hlz
  have HTZ : Hid (∀ q, ∀ t ∈ togP x.p (l.take q), t.1.size ≤ maxLen ∧ t.2.size ≤ maxLen) := fun q t ht => by
    have hm := lastP_mem ((mem_togP hR (l.take q) t).1 ht)
    rcases List.mem_append.1 hm with h1 | h1
    · exact pz t h1
    · exact hlz t (List.mem_of_mem_take h1)
  have HNL : Hid (∀ q (hq : q < l.length), longP l[q] = false) := fun q hq => by
    rw [List.any_eq_false] at hlong
    simpa using hlong l[q] (List.getElem_mem hq)
  clear hPE h0 hl hx2 pz hne hlong hR hlz
  generalize x.p = L at *
  generalize x.l.length = n1 at *
  generalize x.t = t at *
  generalize x.k = k at *
  generalize x.s.length = n3 at *
  generalize hK : togP L l = K at *
  have HK := hide hK
  clear hK
  go_enter Try.func9, Try.ntmps9
  go_wp2_with fail
  refine (HC.out _ (((Below.refl _ w).alloc (Nat.le_refl _) _).alloc (by simp) _)).mono ?_
  rintro e w1 ⟨rfl, hb1⟩
  obtain ⟨hc, hf⟩ := bcell hb1
  have hz : w.heap.size + 1 < w1.heap.size := by have := hb1.size; simp at this; omega
  have hy : w.heap.size < w1.heap.size := by omega
  have hB1 : Below w.heap.size w w1 := (((Below.refl _ w).alloc (Nat.le_refl _) _).alloc (by simp) _).trans (hb1.mono (by simp; omega))
  have HBX : Hid (∀ W, Below w1.heap.size w1 W → (W.cell? ⟨w.heap.size + 1, 0, none⟩ = some (.int .i64 0) ∧ W.cell? ⟨w.heap.size + 1, 1, none⟩ = some (.string ⟨#[]⟩) ∧ W.cell? ⟨w.heap.size + 1, 2, none⟩ = some (.slice none 0 0) ∧ W.cell? ⟨w.heap.size + 1, 3, none⟩ = some (.slice none 0 0) ∧ W.cell? ⟨w.heap.size + 1, 4, none⟩ = some (.slice none 0 0)) ∧ (∀ j, W.frozen? ⟨w.heap.size + 1, j, none⟩ = false) ∧ W.cell? ⟨w.heap.size, 3, none⟩ = some (.slice a2 L.length c2)) := fun W hW =>
    ⟨⟨(hW.cell (p := ⟨w.heap.size + 1, 0, none⟩) hz).trans ((hc _ _ (by simp)).trans (by simp [go_sem])), (hW.cell (p := ⟨w.heap.size + 1, 1, none⟩) hz).trans ((hc _ _ (by simp)).trans (by simp [go_sem])), (hW.cell (p := ⟨w.heap.size + 1, 2, none⟩) hz).trans ((hc _ _ (by simp)).trans (by simp [go_sem])), (hW.cell (p := ⟨w.heap.size + 1, 3, none⟩) hz).trans ((hc _ _ (by simp)).trans (by simp [go_sem])), (hW.cell (p := ⟨w.heap.size + 1, 4, none⟩) hz).trans ((hc _ _ (by simp)).trans (by simp [go_sem]))⟩, fun j => (hW.frozen (p := ⟨w.heap.size + 1, j, none⟩) hz).trans ((hf _ _ (by simp)).trans (by simp [go_sem])), (hW.cell (p := ⟨w.heap.size, 3, none⟩) hy).trans ((hc _ _ (by simp; omega)).trans (by simp [go_sem]))⟩
  have hz1 := hB1.size
  clear hc hf hb1 HC
  go_wp2_with fail
  go_loop [7, 8] (fun ev iv => ∃ q : Nat, q ≤ l.length ∧ iv = .int .i64 q ∧ ev = .int .i64 0) (fun _ iv => l.length - (intOf iv).toNat)
  case atStart => exact ⟨0, Nat.zero_le _, rfl, rfl⟩
  case round =>
    obtain ⟨q, hq, rfl, rfl⟩ := hrel
    by_cases hlt : q < l.length
    · have hlt' : ((q : Nat) : Int) < ((l.length : Nat) : Int) := by omega
      obtain ⟨g0, o0, rfl, hcs⟩ : ∃ g o, al = some ⟨g, o, none⟩ ∧ ∀ i (h : i < l.length), w.cell? ⟨g, o + i * 2, none⟩ = some (.string l[i].1) ∧ w.cell? ⟨g, o + i * 2 + 1, none⟩ = some (.string l[i].2) := by
        rcases HL.out with h | h
        · rw [h] at hlt; simp at hlt
        · exact h
      have d0 := (hB1.cell (p := ⟨g0, o0 + q * 2, none⟩) (World.block_lt_of_cell? _ _ (hcs q hlt).1)).trans (hcs q hlt).1
      have d1 := (hB1.cell (p := ⟨g0, o0 + q * 2 + 1, none⟩) (World.block_lt_of_cell? _ _ (hcs q hlt).2)).trans (hcs q hlt).2
      have hlg := HNL.out q hlt
      clear hcs HL HX HR HLZ HTZ HNL HK HBX
      generalize l[q] = X at *
      obtain ⟨X1, X2⟩ := X
      dsimp only at d0 d1
      rw [long_of, Bool.or_eq_false_iff, decide_eq_false_iff_not, decide_eq_false_iff_not] at hlg
      have hL1 : ¬ (60 : Int) < ((X1.size : Nat) : Int) := by omega
      have hL2 : ¬ (60 : Int) < ((X2.size : Nat) : Int) := by omega
      clear hlg
      go_wp2_with fail
      go_round
      case rel => exact ⟨q + 1, by omega, by go_num, rfl⟩
      case measure => simp [intOf]; omega
    · have hge : ¬ ((q : Nat) : Int) < ((l.length : Nat) : Int) := by omega
      obtain rfl : q = l.length := by omega
      clear hlt hq HNL
      have HPX : Hid (∀ W, Below w1.heap.size w1 W → PairsAt W a2 L) := fun W hW => HX.out.below (hB1.trans (hW.mono hz1))
      obtain ⟨-, -, x2⟩ := HBX.out w1 (Below.refl _ _)
      go_wp2_with (at_builtin; refine wpList_append_pairs rfl _ _ rfl w1.heap.size _ _ _ rfl (World.ownsRow_lit w1 #[] 0 (Nat.le_refl _) (by unfold maxLen; omega) rfl) a2 c2 L rfl (HPX.out _ ((Below.refl _ w1).alloc (Nat.le_refl _) _)) (by omega) (by simp) ?_)
      intro v2 w2 hown2 hgrow2
      have hb2 : Below w1.heap.size w1 w2 := ((Below.refl _ w1).alloc (Nat.le_refl _) _).grown hgrow2 (by simp) (fun j hj => by simp [Value.ownBlock] at hj; omega)
      have hown2' : w2.ownsRow w1.heap.size 37 2 v2 L.length (rowP L) := by simpa using hown2
      clear hown2 hgrow2 HPX HX
      go_wp2_with fail
      go_loopw [9, 10] (fun v iv wr => ∃ q : Nat, q ≤ l.length ∧ iv = .int .i64 q ∧ wr.ownsRow w1.heap.size 37 2 v (togP L (l.take q)).length (rowP (togP L (l.take q))) ∧ Below w1.heap.size w1 wr) (fun _ iv _ => l.length - (intOf iv).toNat)
      case atStart => exact ⟨0, Nat.zero_le _, rfl, hown2', hb2⟩
      case round =>
        clear hown2' hb2 hge x2
        obtain ⟨wo, hwo⟩ : ∃ wo, wo = wr := ⟨wr, rfl⟩
        subst hwo
        obtain ⟨q, hq, rfl, hown, hbr⟩ := hrel
        have hsz := hbr.size
        have hBr : Below w.heap.size w wo := hB1.trans (hbr.mono hz1)
        by_cases hlt : q < l.length
        · have hlt' : ((q : Nat) : Int) < ((l.length : Nat) : Int) := by omega
          obtain ⟨g0, o0, rfl, hcs⟩ : ∃ g o, al = some ⟨g, o, none⟩ ∧ ∀ i (h : i < l.length), w.cell? ⟨g, o + i * 2, none⟩ = some (.string l[i].1) ∧ w.cell? ⟨g, o + i * 2 + 1, none⟩ = some (.string l[i].2) := by
            rcases HL.out with h | h
            · rw [h] at hlt; simp at hlt
            · exact h
          have d0 := (hBr.cell (p := ⟨g0, o0 + q * 2, none⟩) (World.block_lt_of_cell? _ _ (hcs q hlt).1)).trans (hcs q hlt).1
          have d1 := (hBr.cell (p := ⟨g0, o0 + q * 2 + 1, none⟩) (World.block_lt_of_cell? _ _ (hcs q hlt).2)).trans (hcs q hlt).2
          have HRM := hide (rises_togP HR.out (l.take q))
          have HSN : Hid (togP L (l.take (q + 1)) = putP (togP L (l.take q)) l[q]) := by rw [Hid, List.take_succ_eq_append_getElem hlt, togP_snoc]
          have hML : (togP L (l.take q)).length ≤ 1400024 := Nat.le_trans (togP_len _ _) (by rw [List.length_take]; omega)
          have hXz := (HLZ.out l[q] (List.getElem_mem hlt)).1
          have hg0 : g0 < wo.heap.size := World.block_lt_of_cell? _ _ d0
          clear hcs HL HLZ HTZ HR HK HBX
          generalize l[q] = X at *
          generalize togP L (l.take q) = M at *
          obtain ⟨X1, X2⟩ := X
          dsimp only at d0 d1 hXz
          obtain ⟨ao, cap, rfl, -⟩ := pairs_of_own hown
          go_wp2_with fail
          go_loopw [11, 12] (fun kv nv wi => ∃ n : Nat, n ≤ M.length ∧ nv = .int .i64 n ∧ Hid (FoundTo M X1 n kv) ∧ Below wo.heap.size wo wi) (fun _ nv _ => M.length - (intOf nv).toNat)
          case atStart => exact ⟨0, Nat.zero_le _, rfl, .inl ⟨rfl, fun j hj h => absurd h (by omega)⟩, Below.refl _ _⟩
          case round =>
            obtain ⟨n, hn, rfl, HF, hb3⟩ := hrel
            have hown3 := (Kept.of_below hb3 (fun _ => False)).owns hown (fun _ _ e => e)
            have hbr3 := hbr.trans (hb3.mono hsz)
            have e0 := (hb3.cell (p := ⟨g0, o0 + q * 2, none⟩) hg0).trans d0
            have e1 := (hb3.cell (p := ⟨g0, o0 + q * 2 + 1, none⟩) hg0).trans d1
            have hsz3 := hbr3.size
            by_cases hn2 : n < M.length
            · have hn2' : ((n : Nat) : Int) < ((M.length : Nat) : Int) := by omega
              obtain ⟨g, rfl, hg1, hg2⟩ := ownP_head hown3 (by omega)
              obtain ⟨m0, m1⟩ := ownP_at hown3 (List.getElem?_eq_getElem hn2)
              have hbq := beq_fd M[n].1 X1
              by_cases hE : M[n].1 = X1
              · have HFF : Hid (FoundTo M X1 (n + 1) (.int .i64 n)) := .inr ⟨n, hn2, rfl, hE⟩
                rw [decide_eq_true hE] at hbq
                clear hE HF hown hown3 HRM HSN d0 d1 m1
                generalize M[n].1 = Y at *
                go_wp2_with fail
                go_quiet (fail)
                go_wp2_with fail
                go_roundw
                case rel => exact ⟨n + 1, by omega, by go_num, HFF, below_drewN hb3 _⟩
                case measure => simp [intOf]; omega
              · have HFF := hide (HF.out.step hn2 hE)
                rw [decide_eq_false hE] at hbq
                clear hE HF hown hown3 HRM HSN d0 d1 m1
                generalize M[n].1 = Y at *
                go_wp2_with fail
                go_quiet (fail)
                go_wp2_with fail
                go_roundw
                case rel => exact ⟨n + 1, by omega, by go_num, HFF, below_drewN hb3 _⟩
                case measure => simp [intOf]; omega
            · have hge : ¬ ((n : Nat) : Int) < ((M.length : Nat) : Int) := by omega
              obtain rfl : n = M.length := by omega
              rcases HF.out with ⟨rfl, hno⟩ | ⟨i, hi, rfl, hf⟩
              · have HNO : Hid (∀ p ∈ M, p.1 ≠ X1) := fun p hp => by
                  obtain ⟨j, hj, rfl⟩ := List.getElem_of_mem hp
                  exact hno j hj hj
                clear hno HF hown hbr d0 d1 hb3 hBr
                go_wp2_with (at_builtin; refine wpList_append_pairs rfl _ _ rfl w1.heap.size _ _ _ rfl (hown3.alloc _) (some ⟨wr.heap.size, 0, none⟩) 1 [(X1, X2)] rfl (pairAt_new _ (X1, X2)) (by simp; omega) (by simp; omega) ?_)
                intro v4 w4 hown4 hgrow
                have hb4 : Below w1.heap.size w1 w4 := (hbr3.alloc hsz3 _).grown hgrow (by simp; omega) (fun j hj => (hown3.lt j hj).1)
                have hown5 : w4.ownsRow w1.heap.size 37 2 v4 (M.length + 1) (rowP (insAt M M.length (X1, X2))) := by
                  rw [insAt_all, rowP_snoc]
                  exact hown4
                clear hown4 hgrow hown3 hbr3 e0 e1
                obtain ⟨g, cap, rfl, hg1, hg2⟩ := ownP_shape hown5 (by omega)
                go_wp2_with fail
                go_loopw [11] (fun kv wr5 => ∃ k : Nat, k ≤ M.length ∧ kv = .int .i64 k ∧ wr5.ownsRow w1.heap.size 37 2 (.slice (some ⟨g, 0, none⟩) (M.length + 1) cap) (M.length + 1) (rowP (insAt M k (X1, X2))) ∧ Below w1.heap.size w1 wr5 ∧ Hid (∀ j (hj : j < M.length), k ≤ j → lessT X1 M[j].1)) (fun kv _ => (intOf kv).toNat)
                case atStart => exact ⟨M.length, Nat.le_refl _, rfl, hown5, hb4, fun j hj h => absurd h (by omega)⟩
                case round =>
                  clear hown5 hb4 hg2
                  obtain ⟨k, hk, rfl, hown6, hb6, HGT⟩ := hrel
                  by_cases hk0 : k = 0
                  · subst hk0
                    have HEQ : Hid (insAt M 0 (X1, X2) = togP L (l.take (q + 1))) := by
                      rw [Hid, HSN.out]
                      exact putP_ins HRM.out HNO.out (Nat.zero_le _) HGT.out (fun j _ h => absurd h (by omega))
                    have HEL : Hid ((togP L (l.take (q + 1))).length = M.length + 1) := by rw [Hid, ← HEQ.out]; exact insAt_len (Nat.zero_le _)
                    clear HGT HSN HNO HRM
                    go_wp2_with fail
                    go_quiet (fail)
                    go_wp2_with fail
                    go_roundw
                    case rel => exact ⟨q + 1, by omega, by go_num, by rw [HEL.out, ← HEQ.out]; exact (Kept.of_below (below_drewN (Below.refl _ _) _) (fun _ => False)).owns hown6 (fun _ _ e => e), below_drewN hb6 _⟩
                    case measure => simp [intOf]; omega
                  · obtain ⟨m, rfl⟩ : ∃ m, k = m + 1 := ⟨k - 1, by omega⟩
                    have hm : m < M.length := by omega
                    obtain ⟨i0, i1⟩ := insAt_at (p := (X1, X2)) hm
                    obtain ⟨y0, y1⟩ := ownP_at hown6 i0
                    obtain ⟨y2, y3⟩ := ownP_at hown6 i1
                    dsimp only at y2 y3
                    have hfz := fun j => hown6.frozenAt j
                    have HCT : Hid (∀ W, Calls Try.prog 32 #[.string X1, .string M[m].1] W fun e w' => e = .returned (.int .i64 (cmpT X1 M[m].1)) ∧ ∃ z, w' = W.drewN z) := fun W => textOrder_any X1 M[m].1 W hXz
                    clear i0 i1
                    obtain ⟨C, hC⟩ : ∃ C, C = cmpT X1 M[m].1 := ⟨_, rfl⟩
                    rw [← hC] at HCT
                    have HCL : Hid (C < 0 ↔ lessT X1 M[m].1) := by rw [Hid, hC]; exact cmpT_lt _ _
                    have HSW := hide (insAt_swap (p := (X1, X2)) hm)
                    have hm1 : ((m : Nat) : Int) < ((M.length : Nat) : Int) := by omega
                    have hm0 : (0 : Int) < ((m : Nat) : Int) + 1 := by omega
                    clear hC
                    by_cases hless : C < 0
                    · have HGT2 : Hid (∀ j (hj : j < M.length), m ≤ j → lessT X1 M[j].1) := fun j hj h => by
                        by_cases e : j = m
                        · subst e; exact HCL.out.1 hless
                        · exact HGT.out j hj (by omega)
                      obtain ⟨Y, hY⟩ : ∃ Y, Y = M[m] := ⟨_, rfl⟩
                      rw [← hY] at y0 y1 HCT HSW
                      obtain ⟨Y1, Y2⟩ := Y
                      dsimp only at y0 y1 HCT
                      clear hY HGT HCL HNO HRM HSN
                      have HWS : Hid (∀ z, ((((((wr.drewN z).setCell ⟨g, (m + 1) * 2, none⟩ (.string Y1)).setCell ⟨g, (m + 1) * 2 + 1, none⟩ (.string Y2)).setCell ⟨g, m * 2, none⟩ (.string X1)).setCell ⟨g, m * 2 + 1, none⟩ (.string X2)).ownsRow w1.heap.size 37 2 (.slice (some ⟨g, 0, none⟩) (M.length + 1) cap) (M.length + 1) (rowP (insAt M m (X1, X2)))) ∧ Below w1.heap.size w1 (((((wr.drewN z).setCell ⟨g, (m + 1) * 2, none⟩ (.string Y1)).setCell ⟨g, (m + 1) * 2 + 1, none⟩ (.string Y2)).setCell ⟨g, m * 2, none⟩ (.string X1)).setCell ⟨g, m * 2 + 1, none⟩ (.string X2))) := fun z => by
                        have ho := (Kept.of_below (below_drewN (Below.refl wr.heap.size wr) z) (fun _ => False)).owns hown6 (fun _ _ e => e)
                        have h1 := ownP_set ho (m + 1) (by rw [insAt_len (by omega)]; omega) (Y1, Y2)
                        have h2 := ownP_set h1 m (by rw [List.length_set, insAt_len (by omega)]; omega) (X1, X2)
                        rw [HSW.out] at h2
                        exact ⟨h2, ((((below_drewN hb6 z).setCell (p := ⟨g, (m + 1) * 2, none⟩) hg1 _).setCell (p := ⟨g, (m + 1) * 2 + 1, none⟩) hg1 _).setCell (p := ⟨g, m * 2, none⟩) hg1 _).setCell (p := ⟨g, m * 2 + 1, none⟩) hg1 _⟩
                      have z0 := hfz ((m + 1) * 2)
                      have z1 := hfz ((m + 1) * 2 + 1)
                      have z2 := hfz (m * 2)
                      have z3 := hfz (m * 2 + 1)
                      clear hown6 HSW hfz
                      go_wp2_with fail
                      go_quiet ((go_at_call 32; exact Calls.quiet_of (HCT.out _)))
                      go_wp2_with fail
                      go_region
                      have HW2 := hide (HWS.out (nq + 1))
                      clear HWS
                      generalize ((((wr.drewN (nq + 1)).setCell ⟨g, (m + 1) * 2, none⟩ (.string Y1)).setCell ⟨g, (m + 1) * 2 + 1, none⟩ (.string Y2)).setCell ⟨g, m * 2, none⟩ (.string X1)).setCell ⟨g, m * 2 + 1, none⟩ (.string X2) = w9 at *
                      go_wp2_with fail
                      go_roundw
                      case rel => exact ⟨m, by omega, by go_num, HW2.out.1, HW2.out.2, HGT2⟩
                      case measure => simp [intOf]
                    · have HEQ : Hid (insAt M (m + 1) (X1, X2) = togP L (l.take (q + 1))) := by
                        rw [Hid, HSN.out]
                        exact putP_ins HRM.out HNO.out (by omega) HGT.out (fun j _ h => by obtain rfl : j = m := by omega
                                                                                           exact fun h2 => hless (HCL.out.2 h2))
                      have HEL : Hid ((togP L (l.take (q + 1))).length = M.length + 1) := by rw [Hid, ← HEQ.out]; exact insAt_len (by omega)
                      obtain ⟨Y, hY⟩ : ∃ Y, Y = M[m] := ⟨_, rfl⟩
                      rw [← hY] at y0 y1 HCT
                      obtain ⟨Y1, Y2⟩ := Y
                      dsimp only at y0 y1 HCT
                      clear HGT HSN HNO HRM HCL HSW hY hfz
                      go_wp2_with fail
                      go_quiet ((go_at_call 32; exact Calls.quiet_of (HCT.out _)))
                      go_wp2_with fail
                      go_roundw
                      case rel => exact ⟨q + 1, by omega, by go_num, by rw [HEL.out, ← HEQ.out]; exact (Kept.of_below (below_drewN (Below.refl _ _) _) (fun _ => False)).owns hown6 (fun _ _ e => e), below_drewN hb6 _⟩
                      case measure => simp [intOf]; omega
              · have HEQ : Hid (M.set i (X1, X2) = togP L (l.take (q + 1))) := by rw [Hid, HSN.out]; exact putP_set HRM.out hi hf
                have HEL : Hid ((togP L (l.take (q + 1))).length = M.length) := by rw [Hid, ← HEQ.out, List.length_set]
                obtain ⟨g, rfl, hg1, hg2⟩ := ownP_head hown3 (by omega)
                obtain ⟨m0, m1⟩ := ownP_at hown3 (List.getElem?_eq_getElem hi)
                have f0 := hown3.frozenAt (i * 2)
                have f1 := hown3.frozenAt (i * 2 + 1)
                have hi' : ((i : Nat) : Int) < ((M.length : Nat) : Int) := by omega
                have HOW := hide (ownP_set hown3 i hi (X1, X2))
                have HBW : Hid (Below w1.heap.size w1 ((wr.setCell ⟨g, i * 2, none⟩ (.string X1)).setCell ⟨g, i * 2 + 1, none⟩ (.string X2))) := (hbr3.setCell (p := ⟨g, i * 2, none⟩) hg1 _).setCell (p := ⟨g, i * 2 + 1, none⟩) hg1 _
                clear hown hown3 HF HSN HRM hf d0 d1 hb3
                generalize M[i].1 = Y1 at *
                generalize M[i].2 = Y2 at *
                go_wp2_with fail
                go_roundw
                case rel => exact ⟨q + 1, by omega, by go_num, by rw [HEL.out, ← HEQ.out]; exact HOW.out, HBW.out⟩
                case measure => simp [intOf]; omega
        · have hge2 : ¬ ((q : Nat) : Int) < ((l.length : Nat) : Int) := by omega
          obtain rfl : q = l.length := by omega
          rw [List.take_length, HK.out] at hown
          obtain ⟨ao, cap, rfl, -⟩ := pairs_of_own hown
          have hkn : K.length ≤ 1400024 := by rw [← HK.out]; exact Nat.le_trans (togP_len _ _) (by omega)
          have HTK : Hid (∀ t ∈ K, t.1.size ≤ maxLen ∧ t.2.size ≤ maxLen) := by
            have := HTZ.out l.length
            rw [List.take_length, HK.out] at this
            exact this
          obtain ⟨-, hF⟩ := pairsFrom_own hown
          have HF := hide hF
          clear hF HTZ HK HR HLZ HL hown
          by_cases h24 : 24 < K.length
          · have h24' : (24 : Int) < ((K.length : Nat) : Int) := by omega
            obtain ⟨h1, h2, h3⟩ := HP.out.1 h24
            obtain ⟨⟨r0, r1, r2, r3, r4⟩, fz, x2⟩ := HBX.out wo hbr
            have H1 := hide h1
            have H2 := hide h2
            have H3 := hide h3
            clear h1 h2 h3 HP
            have fz0 := fz 0
            have fz1 := fz 1
            have fz2 := fz 2
            have fz3 := fz 3
            have fz4 := fz 4
            go_wp2_with fail
            refine bodyPost_ret (v := .tuple #[.agg #[.int .i64 0, .string ⟨#[]⟩, .slice none 0 0, .slice none 0 0, .slice none 0 0], .int .i64 0, .int .i64 2]) (by simp [results, Try.results9, go_sem, r0, r1, r2, r3, r4]) rfl ⟨_, by rw [H1.out, H2.out], by rw [H3.out]; exact fun w'' _ => zero_is w'', ?_⟩
            go_grown
          · have h24' : ¬ (24 : Int) < ((K.length : Nat) : Int) := by omega
            have H1 := hide (HP.out.2 h24)
            clear HP
            obtain ⟨fk, fa, fn, fc, ho, hi⟩ := filledP_item (p := fun W' => ∀ g o u, w1.heap.size ≤ g → wo.cell? ⟨g, o, none⟩ = some u → W'.cell? ⟨g, o, none⟩ = some u) (cp := cap) (fun W' hW' => HF.out W' hW') HTK.out (by omega)
            have HO := hide ho
            have HI := hide hi
            clear ho hi HTK HF
            obtain ⟨-, -, x2⟩ := HBX.out wo hbr
            have hbd : Below w1.heap.size w1 wo.drew := hbr.drew
            have nn1 : wo.heap.size ≠ w.heap.size + 1 := by omega
            have nn2 : w.heap.size + 1 ≠ wo.heap.size := by omega
            have nn3 : w.heap.size ≠ w.heap.size + 1 := by omega
            have nn4 : w.heap.size + 1 ≠ w.heap.size := by omega
            have nn5 : ¬ w.heap.size = w.heap.size + 1 := by omega
            have hwr := wrap_small (((K.length : Nat) : Int) - ((L.length : Nat) : Int)) (by omega) (by omega)
            go_wp2_with fail
            go_region_held3 (fun w' => w'.cell? ⟨w.heap.size, 3, none⟩ = some (.slice a2 L.length c2)) (go_keep)
              ((go_at_call 33; refine (HO.out _).mono ?_; rintro e w9 ⟨rfl, hb9⟩; have hb9' : Below w1.heap.size w1 w9 := hbd.trans (hb9.mono hsz); obtain ⟨⟨b0, b1, b2, b3, b4⟩, fz, x3⟩ := HBX.out w9 hb9'; have fz0 := fz 0; have fz1 := fz 1; have fz2 := fz 2; have fz3 := fz 3; have fz4 := fz 4))
            all_goals
              go_wp2_with fail
              refine bodyPost_ret (v := .tuple #[.agg #[.int .i64 fk, .string ⟨#[]⟩, .slice none 0 0, .slice fa fn fc, .slice none 0 0], .int .i64 (((K.length : Nat) : Int) - ((L.length : Nat) : Int)), .int .i64 0]) (by simp [results, Try.results9, go_sem, b0, b1, b2, b3, b4]) rfl ⟨_, by rw [H1.out.1, H1.out.2.1], ?_, ?_⟩
              · rw [H1.out.2.2]
                exact fun w'' hw => HI.out w'' (fun g' o' u' hg hu => hw g' o' u' (by omega) ((five_apart w9 (w.heap.size + 1) _ _ _ _ _ g' o' (by omega)).trans ((hb9.cell (p := ⟨g', o', none⟩) (World.block_lt_of_cell? wo _ hu)).trans hu)))
              · have hb9'' := hB1.trans (hb9'.mono hz1)
                go_grown
theorem putPairs_any (v : Value) (x : Itm) (al : Option Addr) (cl : Nat) (l : List Pr) (w : World) (h : ItemIs w v x) (hl : PairsAt w al l) (hll : l.length ≤ 1400000) (hlz : ∀ t ∈ l, t.1.size ≤ maxLen ∧ t.2.size ≤ maxLen) :
    Calls Try.prog 9 #[v, .slice al l.length cl] w fun e w' => ∃ u, e = .returned (.tuple #[u, .int .i64 (putN x l), .int .i64 (putE x l)]) ∧ ItemFrom w.heap.size w' u (putI x l) ∧ Below w.heap.size w w' := by
  by_cases h0 : asI x 4 = 0
  · by_cases hne : l = []
    · exact putPairs_wrong v x al cl l w h hl hll hlz (.inr (.inl hne))
    · cases hlong : l.any longP with
      | true => exact putPairs_wrong v x al cl l w h hl hll hlz (.inr (.inr hlong))
      | false => exact putPairs_right v x al cl l w h hl hll hlz h0 hne hlong
  · exact putPairs_wrong v x al cl l w h hl hll hlz (.inl h0)
end Go.Proofs.Ytnobcdhlagfhmaa
