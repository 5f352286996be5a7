/- WALKS of the reference's scores: an item that has something, DropScores. -/
import Derived.Test.YtnobcdhlagfhmaaGreatZDrop
import Derived.Test.YtnobcdhlagfhmaaGreatRHas
import Derived.Test.YtnobcdhlagfhmaaGreatRAs
import Derived.Deep.RegionHeld3
import Derived.Laws.OwnMore
import Derived.Handy
namespace Go.Proofs.YtnobcdhlagfhmaaGreat.Z
open Go.RowKit

set_option maxRecDepth 100000 in
set_option maxHeartbeats 1000000 in
/-- an item of pairs alone -/
theorem filledP_any (k : Int) (a : Option Addr) (n c : Nat) (w : World) (hn : n ≤ 281474976710656) :
    Calls Tryz.prog 36 #[.agg #[.int .i64 k, .string ⟨#[]⟩, .slice none 0 0, .slice none 0 0, .slice a n c]] w fun e w' => e = .returned (if n = 0 then .agg #[.int .i64 0, .string ⟨#[]⟩, .slice none 0 0, .slice none 0 0, .slice none 0 0] else .agg #[.int .i64 k, .string ⟨#[]⟩, .slice none 0 0, .slice none 0 0, .slice a n c]) ∧ Below w.heap.size w w' := by
  by_cases h0 : n = 0
  · subst h0
    rw [if_pos rfl]
    go_enter Tryz.func36, Tryz.ntmps36
    go_wp2_with fail
    refine bodyPost_ret (v := .agg #[.int .i64 0, .string ⟨#[]⟩, .slice none 0 0, .slice none 0 0, .slice none 0 0]) (by simp [results, Tryz.results36, go_sem]) rfl ⟨rfl, ?_⟩
    go_grown
  · rw [if_neg h0]
    have h0' : (((n : Nat) : Int) == 0) = false := by rw [beq_eq_false_iff_ne]; omega
    go_enter Tryz.func36, Tryz.ntmps36
    go_wp2_with fail
    refine bodyPost_ret (v := .agg #[.int .i64 k, .string ⟨#[]⟩, .slice none 0 0, .slice none 0 0, .slice a n c]) (by simp [results, Tryz.results36, go_sem]) rfl ⟨rfl, ?_⟩
    go_grown
theorem filledP_item {p : World → Prop} {ao : Option Addr} {cp : Nat} {K : List Sc} (hT : ∀ W, p W → ScoresAt W ao K) (hz : ∀ t ∈ K, t.2.size ≤ maxLen) (hl : K.length ≤ 281474976710656) :
    ∃ (fk : Int) (fa : Option Addr) (fn fc : Nat), (∀ W, Calls Tryz.prog 36 #[.agg #[.int .i64 5, .string ⟨#[]⟩, .slice none 0 0, .slice none 0 0, .slice ao K.length cp]] W fun e w' => e = .returned (.agg #[.int .i64 fk, .string ⟨#[]⟩, .slice none 0 0, .slice none 0 0, .slice fa fn fc]) ∧ Below W.heap.size W w') ∧ ∀ W, p W → ItemIs W (.agg #[.int .i64 fk, .string ⟨#[]⟩, .slice none 0 0, .slice none 0 0, .slice fa fn fc]) (kindS K) := by
  by_cases h0 : K = []
  · subst h0
    refine ⟨0, none, 0, 0, fun W => ?_, fun w' _ => zero_is w'⟩
    have := filledP_any 5 ao 0 cp W (by omega)
    rw [if_pos rfl] at this
    exact this
  · refine ⟨5, ao, K.length, cp, fun W => ?_, fun w' hw => ?_⟩
    · have := filledP_any 5 ao K.length cp W hl
      rw [if_neg (fun e => h0 (List.eq_nil_of_length_eq_zero e))] at this
      exact this
    · rw [kindS, if_neg h0]
      exact ⟨⟨none, 0, none, 0, ao, cp, rfl, .inl rfl, .inl rfl, hT w' hw⟩, (show (0 : Nat) ≤ maxLen by simp), by simp, by simp, hz, by simp, by simp, hl⟩
theorem pairAt_new (w : World) (p : Sc) : ScoresAt (w.alloc (.cells #[.int .i64 p.1, .string p.2] 36)) (some ⟨w.heap.size, 0, none⟩) [p] := by
  refine .inr ⟨w.heap.size, 0, rfl, fun i hi => ?_⟩
  obtain rfl : i = 0 := by simp at hi; exact hi
  simp [go_sem]
/-- pairs in a row of one's own lie from its base on -/
theorem pairsFrom_own {w : World} {base : Nat} {a : Option Addr} {n cap : Nat} {ms : List Sc} (h : w.ownsRow base 36 2 (.slice a n cap) ms.length (rowP ms)) : n = ms.length ∧ PairsFrom base w a ms := by
  rcases h.2 with ⟨h1, h2⟩ | ⟨g, cp, cur, h1, hg, -⟩
  · obtain ⟨rfl, rfl, rfl⟩ : a = none ∧ n = 0 ∧ cap = 0 := by simpa using h1
    have e : ms = [] := List.eq_nil_of_length_eq_zero h2
    subst e
    exact ⟨rfl, PairsFrom.none _ _ _⟩
  · obtain ⟨rfl, rfl, rfl⟩ : a = some ⟨g, 0, none⟩ ∧ n = ms.length ∧ cap = cp := by simpa using h1
    exact ⟨rfl, PairsFrom.of (.inr ⟨g, 0, rfl, fun i hi => by rw [Nat.zero_add]; exact (RowAt.of h).c i hi⟩) hg⟩
set_option maxRecDepth 100000 in
set_option maxHeartbeats 4000000 in
theorem dropScores_any (v : Value) (x : Itm) (al : Option Addr) (cl : Nat) (l : List ByteArray) (w : World) (h : ItemIs w v x) (hl : TextsAt w al l) (hll : l.length ≤ 281474976710656) :
    Calls Tryz.prog 11 #[v, .slice al l.length cl] w fun e w' => ∃ u, e = .returned (.tuple #[u, .int .i64 (dropN x l), .int .i64 (asI x 5)]) ∧ ItemFrom w.heap.size w' u (dropI x l) ∧ Below w.heap.size w w' := by
  have HC : Hid (∀ W, Below w.heap.size w W → Calls Tryz.prog 33 #[v, .int .i64 5] W fun e w' => e = .returned (.int .i64 (asI x 5)) ∧ Below W.heap.size W w') := fun W hW => refAs_any v x 5 W (h.below hW)
  obtain ⟨⟨a1, c1, a2, c2, a3, c3, rfl, -, -, hx2⟩, -, -, -, pz, -, -, -⟩ := h
  by_cases h0 : asI x 5 = 0
  · have hx24 := (asI_score h0).n
    rw [dropI, if_pos h0, dropN, if_pos h0, h0]
    rw [h0] at HC
    have HX := hide hx2
    have HL := hide hl
    have HZ : Hid (∀ t ∈ stayP x.s l, t.2.size ≤ maxLen) := fun t ht => pz t (List.mem_filter.1 ht).1
    have hkl := stayP_len x.s l
    clear h0 hx2 hl pz
    generalize x.s = L at *
    generalize hK : stayP L l = K at *
    have HK := hide hK
    clear hK
    generalize x.l.length = n1 at *
    generalize x.t = t at *
    generalize x.k = k at *
    generalize x.p.length = n3 at *
    go_enter Tryz.func11, Tryz.ntmps11
    go_wp2_with fail
    refine (HC.out _ (((Below.refl _ w).alloc (Nat.le_refl _) _).alloc (by simp) _)).mono ?_
    rintro e w1 ⟨rfl, hb1⟩
    obtain ⟨hc, hf⟩ := bcell hb1
    have hz : w.heap.size + 1 < w1.heap.size := by have := hb1.size; simp at this; omega
    have hy : w.heap.size < w1.heap.size := by omega
    have hB1 : Below w.heap.size w w1 := (((Below.refl _ w).alloc (Nat.le_refl _) _).alloc (by simp) _).trans (hb1.mono (by simp; omega))
    have HBX : Hid (∀ W, Below w1.heap.size w1 W → (W.cell? ⟨w.heap.size + 1, 0, none⟩ = some (.int .i64 0) ∧ W.cell? ⟨w.heap.size + 1, 1, none⟩ = some (.string ⟨#[]⟩) ∧ W.cell? ⟨w.heap.size + 1, 2, none⟩ = some (.slice none 0 0) ∧ W.cell? ⟨w.heap.size + 1, 3, none⟩ = some (.slice none 0 0) ∧ W.cell? ⟨w.heap.size + 1, 4, none⟩ = some (.slice none 0 0)) ∧ (∀ j, W.frozen? ⟨w.heap.size + 1, j, none⟩ = false) ∧ W.cell? ⟨w.heap.size, 4, none⟩ = some (.slice a3 L.length c3)) := fun W hW =>
      ⟨⟨(hW.cell (p := ⟨w.heap.size + 1, 0, none⟩) hz).trans ((hc _ _ (by simp)).trans (by simp [go_sem])), (hW.cell (p := ⟨w.heap.size + 1, 1, none⟩) hz).trans ((hc _ _ (by simp)).trans (by simp [go_sem])), (hW.cell (p := ⟨w.heap.size + 1, 2, none⟩) hz).trans ((hc _ _ (by simp)).trans (by simp [go_sem])), (hW.cell (p := ⟨w.heap.size + 1, 3, none⟩) hz).trans ((hc _ _ (by simp)).trans (by simp [go_sem])), (hW.cell (p := ⟨w.heap.size + 1, 4, none⟩) hz).trans ((hc _ _ (by simp)).trans (by simp [go_sem]))⟩, fun j => (hW.frozen (p := ⟨w.heap.size + 1, j, none⟩) hz).trans ((hf _ _ (by simp)).trans (by simp [go_sem])), (hW.cell (p := ⟨w.heap.size, 4, none⟩) hy).trans ((hc _ _ (by simp; omega)).trans (by simp [go_sem]))⟩
    have hz1 := hB1.size
    clear hc hf hb1 HC
    go_wp2_with fail
    go_loopw [8, 9] (fun v i wr => ∃ k : Nat, k ≤ L.length ∧ i = .int .i64 k ∧ wr.ownsRow w1.heap.size 36 2 v (stayP (L.take k) l).length (rowP (stayP (L.take k) l)) ∧ Below w1.heap.size w1 wr) (fun _ i _ => L.length - (intOf i).toNat)
    case atStart => exact ⟨0, Nat.zero_le _, rfl, World.ownsRow_nil _ _ _ _, Below.refl _ _⟩
    case round =>
      obtain ⟨q, hq, rfl, hown, hbr⟩ := hrel
      have hsz := hbr.size
      have hBr : Below w.heap.size w wr := hB1.trans (hbr.mono hz1)
      obtain ⟨-, -, x2⟩ := HBX.out wr hbr
      by_cases hlt : q < L.length
      · have hlt' : ((q : Nat) : Int) < ((L.length : Nat) : Int) := by omega
        obtain ⟨g, o, rfl, hcs⟩ : ∃ g o, a3 = some ⟨g, o, none⟩ ∧ ∀ i (h : i < L.length), w.cell? ⟨g, o + i * 2, none⟩ = some (.int .i64 L[i].1) ∧ w.cell? ⟨g, o + i * 2 + 1, none⟩ = some (.string L[i].2) := by
          rcases HX.out with h | h
          · rw [h] at hlt; simp at hlt
          · exact h
        have d0 := (hBr.cell (p := ⟨g, o + q * 2, none⟩) (World.block_lt_of_cell? _ _ (hcs q hlt).1)).trans (hcs q hlt).1
        have d1 := (hBr.cell (p := ⟨g, o + q * 2 + 1, none⟩) (World.block_lt_of_cell? _ _ (hcs q hlt).2)).trans (hcs q hlt).2
        have hql : (stayP (L.take q) l).length ≤ 24 := Nat.le_trans (stayP_len _ _) (by rw [List.length_take]; omega)
        have HCH := hide (hasText_any al cl l L[q].2 wr (HL.out.below hBr) hll)
        have HSN : Hid (stayP (L.take (q + 1)) l = if hasT l L[q].2 = true then stayP (L.take q) l else stayP (L.take q) l ++ [L[q]]) := by rw [Hid, List.take_succ_eq_append_getElem hlt, stay_snoc]
        clear hcs HX HL HZ HK HBX
        generalize L[q] = X at *
        obtain ⟨X1, X2⟩ := X
        dsimp only at d0 d1 HCH HSN
        cases hx : hasT l X2 with
        | true =>
          have HY : Hid (stayP (L.take (q + 1)) l = stayP (L.take q) l) := by rw [Hid, HSN.out, if_pos hx]
          rw [hx] at HCH
          clear HSN hx
          go_wp2_with fail
          refine HCH.out.mono ?_
          rintro e w2 ⟨rfl, hw2⟩
          have hw3 := hw2.symm
          subst hw3
          go_wp2_with fail
          go_roundw
          case rel => exact ⟨q + 1, by omega, by go_num, by rw [HY.out]; exact hown, hbr⟩
          case measure => simp [intOf]; omega
        | false =>
          have HY : Hid (stayP (L.take (q + 1)) l = stayP (L.take q) l ++ [(X1, X2)]) := by rw [Hid, HSN.out, if_neg (by rw [hx]; decide)]
          rw [hx] at HCH
          clear HSN hx
          go_wp2_with fail
          refine HCH.out.mono ?_
          rintro e w2 ⟨rfl, hw2⟩
          have hw3 := hw2.symm
          subst hw3
          go_wp2_with (at_builtin; refine wpList_append_pairs rfl _ _ rfl w1.heap.size _ _ _ rfl (hown.alloc _) (some ⟨wr.heap.size, 0, none⟩) 1 [(X1, X2)] rfl (pairAt_new _ (X1, X2)) (by simp; omega) (by simp; omega) ?_)
          intro v4 w4 hown4 hgrow
          have hb4 : Below w1.heap.size w1 w4 := (hbr.alloc hsz _).grown hgrow (by simp; omega) (fun j hj => (hown.lt j hj).1)
          have hown5 : w4.ownsRow w1.heap.size 36 2 v4 (stayP (L.take (q + 1)) l).length (rowP (stayP (L.take (q + 1)) l)) := by
            rw [HY.out, rowP_snoc, List.length_append]
            exact hown4
          clear hown4 hgrow hown hbr
          go_wp2_with fail
          go_roundw
          case rel => exact ⟨q + 1, by omega, by go_num, hown5, hb4⟩
          case measure => simp [intOf]; omega
      · have hge : ¬ ((q : Nat) : Int) < ((L.length : Nat) : Int) := by omega
        obtain rfl : q = L.length := by omega
        rw [List.take_length, HK.out] at hown
        obtain ⟨ao, cp, rfl, -⟩ := pairs_of_own hown
        obtain ⟨-, hF⟩ := pairsFrom_own hown
        obtain ⟨fk, fa, fn, fc, ho, hi⟩ := filledP_item (p := fun W' => ∀ g o u, w1.heap.size ≤ g → wr.cell? ⟨g, o, none⟩ = some u → W'.cell? ⟨g, o, none⟩ = some u) (cp := cp) (fun W' hW' => hF W' hW') HZ.out (by omega)
        have HO := hide ho
        have HI := hide hi
        clear ho hi HZ HK HX HL hF hown
        have hbd : Below w1.heap.size w1 wr.drew := hbr.drew
        have nn1 : wr.heap.size ≠ w.heap.size + 1 := by omega
        have nn2 : w.heap.size + 1 ≠ wr.heap.size := by omega
        have nn3 : w.heap.size ≠ w.heap.size + 1 := by omega
        have nn4 : w.heap.size + 1 ≠ w.heap.size := by omega
        have nn5 : ¬ w.heap.size = w.heap.size + 1 := by omega
        have hwr := wrap_small (((L.length : Nat) : Int) - ((K.length : Nat) : Int)) (by omega) (by omega)
        go_wp2_with fail
        go_region_held3 (fun w' => w'.cell? ⟨w.heap.size, 4, none⟩ = some (.slice a3 L.length c3)) (go_keep)
          ((go_at_call 36; refine (HO.out _).mono ?_; rintro e w9 ⟨rfl, hb9⟩; have hb9' : Below w1.heap.size w1 w9 := hbd.trans (hb9.mono hsz); obtain ⟨⟨b0, b1, b2, b3, b4⟩, fz, x3⟩ := HBX.out w9 hb9'; have fz0 := fz 0; have fz1 := fz 1; have fz2 := fz 2; have fz3 := fz 3; have fz4 := fz 4))
        all_goals
          go_wp2_with fail
          refine bodyPost_ret (v := .tuple #[.agg #[.int .i64 fk, .string ⟨#[]⟩, .slice none 0 0, .slice none 0 0, .slice fa fn fc], .int .i64 (((L.length : Nat) : Int) - ((K.length : Nat) : Int)), .int .i64 0]) (by simp [results, Tryz.results11, go_sem, b0, b1, b2, b3, b4]) rfl ⟨_, rfl, ?_, ?_⟩
          · exact fun w'' hw => HI.out w'' (fun g' o' u' hg hu => hw g' o' u' (by omega) ((five_apart w9 (w.heap.size + 1) _ _ _ _ _ g' o' (by omega)).trans ((hb9.cell (p := ⟨g', o', none⟩) (World.block_lt_of_cell? wr _ hu)).trans hu)))
          · have hb9'' := hB1.trans (hb9'.mono hz1)
            go_grown
  · rw [dropI, dropN, if_neg h0, if_neg h0]
    have h0' : (asI x 5 == 0) = false := by rw [beq_eq_false_iff_ne]; exact h0
    clear hx2 hl
    generalize asI x 5 = E at *
    generalize x.l.length = L at *
    generalize x.t = t at *
    generalize x.k = k at *
    generalize x.s.length = n2 at *
    generalize x.p.length = n3 at *
    go_enter Tryz.func11, Tryz.ntmps11
    go_wp2_with fail
    refine (HC.out _ (((Below.refl _ w).alloc (Nat.le_refl _) _).alloc (by simp) _)).mono ?_
    rintro e w1 ⟨rfl, hb1⟩
    obtain ⟨hc, hf⟩ := bcell hb1
    have hz : w.heap.size + 1 < w1.heap.size := by have := hb1.size; simp at this; omega
    have hy : w.heap.size < w1.heap.size := by omega
    have hB1 : Below w.heap.size w w1 := (((Below.refl _ w).alloc (Nat.le_refl _) _).alloc (by simp) _).trans (hb1.mono (by simp; omega))
    go_wp2_with fail
    refine bodyPost_ret (v := .tuple #[.agg #[.int .i64 0, .string ⟨#[]⟩, .slice none 0 0, .slice none 0 0, .slice none 0 0], .int .i64 0, .int .i64 E]) (by simp [results, Tryz.results11, go_sem, hc]) rfl ⟨_, rfl, fun w'' _ => zero_is w'', ?_⟩
    go_grown
end Go.Proofs.YtnobcdhlagfhmaaGreat.Z
