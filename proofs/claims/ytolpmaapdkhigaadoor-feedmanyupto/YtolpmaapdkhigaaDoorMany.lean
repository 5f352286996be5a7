/- WALK of FeedMany. -/
import Derived.Test.YtolpmaapdkhigaaDoorPlain3
import Derived.Test.YtolpmaapdkhigaaDoorPieces
namespace Go.Proofs.YtolpmaapdkhigaaDoor
open Go.RowKit

theorem mk_lst (x : List UInt8) : lst ⟨x.toArray⟩ = x := by simp [lst]

/-- Words at a slice that can be read -/
theorem words_texts (u : Value) (xs : List (List UInt8)) (w : World) (h : TextsAt w u xs) (hs : ∀ x ∈ xs, x.length ≤ 1048576) :
    Calls Tryd.prog 18 #[u] w fun e w' => e = .returned (.tuple #[.string ⟨(pWordsR xs).1.toArray⟩, .int .i64 (pWordsR xs).2]) ∧ Below w.heap.size w w' := by
  obtain ⟨a, cap, rfl, h⟩ := h
  have e : (xs.map (fun x => (⟨x.toArray⟩ : ByteArray))).map lst = xs := by
    rw [List.map_map]
    have : (lst ∘ fun x : List UInt8 => (⟨x.toArray⟩ : ByteArray)) = id := funext fun x => mk_lst x
    rw [this, List.map_id]
  have hw := words_any a cap (xs.map (fun x => (⟨x.toArray⟩ : ByteArray))) w (by
    rcases h with rfl | ⟨b, off, rfl, hc⟩
    · exact .inl rfl
    · refine .inr ⟨b, off, rfl, ⟨fun i hi => ?_⟩⟩
      rw [List.length_map] at hi
      rw [hc i hi, List.getElem_map]) (by
    intro s hsm
    obtain ⟨x, hx, rfl⟩ := List.mem_map.1 hsm
    have := hs x hx
    rw [size_mk]
    unfold maxLen
    omega)
  rw [e, List.length_map] at hw
  exact hw

/-- a slice of the call's own that holds slices that could be read in w0 -/
def Wants (base : Nat) (w0 w : World) (V : Value) (C : List (List (List UInt8))) : Prop :=
  ∃ vs : List Value, w.ownsRow base 42 1 V C.length vs ∧ ∀ i (h : i < C.length), ∃ v, vs[i]? = some v ∧ TextsAt w0 v C[i]
theorem Wants.at_ {base : Nat} {w0 w : World} {V : Value} {C : List (List (List UInt8))} (h : Wants base w0 w V C) (hb : Below w0.heap.size w0 w) : CmdsAt w V C := by
  obtain ⟨vs, h1, h2⟩ := h
  rcases h1.2 with ⟨rfl, h0⟩ | ⟨g, cap, cur, rfl, _⟩
  · exact ⟨none, 0, by rw [h0], .inl (List.eq_nil_of_length_eq_zero h0)⟩
  · refine ⟨_, cap, rfl, .inr ⟨g, 0, rfl, fun i hi => ?_⟩⟩
    obtain ⟨v, h3, h4⟩ := h2 i hi
    have := h1.cellAt i (by omega)
    exact ⟨v, by rw [Nat.zero_add, this, h3], h4.kept hb⟩
theorem Wants.kept {base : Nat} {w0 w w' : World} {V : Value} {C : List (List (List UInt8))} (h : Wants base w0 w V C) (hb : Below w.heap.size w w') : Wants base w0 w' V C := by
  obtain ⟨vs, h1, h2⟩ := h
  exact ⟨vs, (Kept.of_below hb (fun _ => False)).owns h1 (fun _ _ e => e), h2⟩
theorem Wants.push {base : Nat} {w0 w' : World} {V' v : Value} {C : List (List (List UInt8))} {c : List (List UInt8)} {vs : List Value}
    (hl : vs.length = C.length) (h2 : ∀ i (h : i < C.length), ∃ v, vs[i]? = some v ∧ TextsAt w0 v C[i]) (hv : TextsAt w0 v c) (hV' : w'.ownsRow base 42 1 V' (C.length + 1) (vs ++ [v])) : Wants base w0 w' V' (C ++ [c]) := by
  refine ⟨vs ++ [v], by simpa using hV', fun i hi => ?_⟩
  by_cases hlt : i < C.length
  · obtain ⟨u, h3, h4⟩ := h2 i hlt
    exact ⟨u, by rw [List.getElem?_append_left (by omega)]; exact h3, by rw [List.getElem_append_left hlt]; exact h4⟩
  · have hil : i = C.length := by simp at hi; omega
    subst hil
    refine ⟨v, ?_, ?_⟩
    · rw [List.getElem?_append_right (by omega)]; simp [hl]
    · simp only [List.getElem_append_right (Nat.le_refl _), Nat.sub_self, List.getElem_cons_zero]
      exact hv

theorem filter_take (L : List (List (List UInt8))) (k : Nat) (h : k < L.length) : (L.take (k + 1)).filter isCmd = (L.take k).filter isCmd ++ (if isCmd L[k] then [L[k]] else []) := by
  rw [List.take_succ_eq_append_getElem h, List.filter_append]
  simp only [List.filter_cons, List.filter_nil]

theorem sum_take_le (L : List (List (List UInt8))) (k : Nat) : ((L.take k).map cost).sum ≤ (L.map cost).sum := by
  conv => rhs; rw [← List.take_append_drop k L]
  rw [List.map_append, List.sum_append]
  omega
theorem cost_le_sum : ∀ (L : List (List (List UInt8))) (c : List (List UInt8)), c ∈ L → cost c ≤ (L.map cost).sum
  | [], c, h => by cases h
  | d :: L, c, h => by
    rcases List.mem_cons.1 h with rfl | h
    · simp
    · have := cost_le_sum L c h
      simp only [List.map_cons, List.sum_cons]
      omega
theorem len_le_cost : ∀ (c : List (List UInt8)) (x : List UInt8), x ∈ c → x.length ≤ cost c
  | [], x, h => by cases h
  | y :: c, x, h => by
    rcases List.mem_cons.1 h with rfl | h
    · simp [cost]; omega
    · have := len_le_cost c x h
      simp only [cost, List.map_cons, List.sum_cons] at this ⊢
      omega
theorem count_le_sum : ∀ (L : List (List (List UInt8))), L.length ≤ (L.map cost).sum
  | [] => by simp
  | c :: L => by
    have := count_le_sum L
    have h1 : 1 ≤ cost c := by unfold cost; omega
    simp only [List.map_cons, List.sum_cons, List.length_cons]
    omega
theorem each_le_cost : ∀ (c : List (List UInt8)), c.length ≤ cost c
  | [] => by simp
  | y :: c => by
    have := each_le_cost c
    simp only [cost, List.map_cons, List.sum_cons, List.length_cons] at this ⊢
    omega

set_option maxRecDepth 100000 in
set_option maxHeartbeats 2000000 in
theorem many_walk (a : Option Addr) (cap : Nat) (L : List (List (List UInt8))) (w : World) (hL : CmdsAt w (.slice a L.length cap) L) (hsum : (L.map cost).sum ≤ 1048576) :
    Calls Tryd.prog 6 #[.slice a L.length cap] w fun e w' => e = .returned (.bool true) ∧ Below w.heap.size w w' := by
  obtain ⟨i0, hi, hz0, hz1, hz2⟩ := info_parts info36
  have hLl := count_le_sum L
  have HL := hide hL
  have HSUM := hide hsum
  clear hL hsum
  have hlen : L.length ≤ 1048576 := Nat.le_trans hLl HSUM.out
  clear hLl
  go_enter Tryd.func6, Tryd.ntmps6
  go_wp2_with (go_at_call 16; refine (feedBegun_any _).mono ?_; rintro e w1 ⟨rfl, hb1⟩)
  have HB1 := hide hb1
  clear hb1
  go_loopw [3, 4, 5] (fun sv V i wr => ∃ (k : Nat) (x : List UInt8), k ≤ L.length ∧ i = .int .i64 k ∧ sv = .string ⟨x.toArray⟩ ∧ Hid (x = manyB (L.take k)) ∧ x.length ≤ 7340032 ∧ Hid (Wants w1.heap.size w wr V ((L.take k).filter isCmd)) ∧ Hid (Below w.heap.size w wr) ∧ Hid (w1.heap.size ≤ wr.heap.size)) (fun _ _ i _ => L.length - (intOf i).toNat)
  case atStart => exact ⟨0, [], Nat.zero_le _, rfl, rfl, by simp [Hid, manyB], by simp, ⟨[], World.ownsRow_nil _ _ _ _, fun i hi => by simp at hi⟩, HB1, Nat.le_refl _⟩
  case round =>
    obtain ⟨k, x, hk, rfl, rfl, HX, hxl, HW, HB, HZ⟩ := hrel
    by_cases hlt : k < L.length
    · obtain ⟨a0, cap0, he, hc⟩ := HL.out
      simp only [Value.slice.injEq, true_and] at he
      obtain ⟨rfl, rfl⟩ := he
      obtain ⟨b, off, rfl, hcc⟩ : ∃ b off, a = some ⟨b, off, none⟩ ∧ ∀ i (h : i < L.length), ∃ u, w.cell? ⟨b, off + i, none⟩ = some u ∧ TextsAt w u L[i] := by
        rcases hc with rfl | hc
        · simp at hlt
        · exact hc
      clear hc
      obtain ⟨u, hu1, hu2⟩ := hcc k hlt
      have hub : b < w.heap.size := World.block_lt_of_cell? w _ hu1
      have huc : wr.cell? ⟨b, off + k, none⟩ = some u := (HB.out.cell (p := ⟨b, off + k, none⟩) hub).trans hu1
      have hut : TextsAt wr u L[k] := hu2.kept HB.out
      have hcost := Nat.le_trans (cost_le_sum L L[k] (List.getElem_mem hlt)) HSUM.out
      have hwords := words_texts u L[k] wr hut (fun x hx => Nat.le_trans (len_le_cost L[k] x hx) hcost)
      have HU2 := hide hu2
      have HLEN : Hid ((manyB (L.take (k + 1))).length ≤ 7340032) := by
        have h1 := manyB_len (L.take (k + 1))
        have h2 := sum_take_le L (k + 1)
        have h3 := HSUM.out
        show _ ≤ _
        omega
      obtain ⟨vs, hV0, hVi⟩ := HW.out
      obtain ⟨ao, cp, hVe⟩ := shapes hV0
      obtain ⟨ua, uc, hue, -⟩ := hu2
      cases hcmd : isCmd L[k] with
      | true =>
        obtain ⟨hR, _, _, _⟩ := isCmd_iff L[k] hcmd
        rw [hR] at hwords
        have hbl := wordsB_len L[k] hcmd
        have hbl2 : (pWordsB L[k]).length ≤ 7340032 := by omega
        have HX2 : Hid (x ++ pWordsB L[k] = manyB (L.take (k + 1))) := by rw [HX.out, manyB_take L k hlt, hcmd]; simp [Hid]
        have HF2 : Hid ((L.take (k + 1)).filter isCmd = (L.take k).filter isCmd ++ [L[k]]) := by rw [filter_take L k hlt, hcmd]; simp [Hid]
        have hcat : (⟨x.toArray⟩ ++ ⟨(pWordsB L[k]).toArray⟩ : ByteArray) = ⟨(x ++ pWordsB L[k]).toArray⟩ := ba_ext (by simp)
        have HCAT := hide hcat
        have HWD := hide hwords
        have hcl : ((L.take k).filter isCmd).length ≤ 1048576 := by
          have h1 := List.length_filter_le isCmd (L.take k)
          rw [List.length_take] at h1
          omega
        clear hbl hcost hR hcat hwords hcc hut
        subst hVe hue
        go_wp2_with fail
        refine HWD.out.mono ?_
        rintro e w2 ⟨rfl, hb2⟩
        have huc2 : w2.cell? ⟨b, off + k, none⟩ = some (.slice ua L[k].length uc) := (Kept.of_below hb2 (fun _ => False)).cell' huc (fun e => e)
        have hV2 := (Kept.of_below hb2 (fun _ => False)).owns hV0 (fun _ _ e => e)
        have hzz2 : w1.heap.size ≤ w2.heap.size := Nat.le_trans HZ.out hb2.size
        have HB2 : Hid (Below w.heap.size w w2) := HB.out.trans (hb2.mono HB.out.size)
        clear hb2 huc
        generalize hS : ByteArray.mk (pWordsB L[k]).toArray = S at *
        have hSz : S.size ≤ 7340032 := by rw [← hS, size_mk]; exact hbl2
        have HS := hide hS
        clear hS
        go_wp2_with (at_builtin; refine wpList_append_own _ rfl _ _ 36 rfl w1.heap.size 42 i0 (.slice none 0 0) 1 24 Tryd.underlying36 hi hz0 hz1 hz2 rfl (by decide) _ _ _ rfl (hV2.alloc _) ⟨w2.heap.size, 0, none⟩ 1 1 [.slice ua L[k].length uc] rfl rfl ?c1 ?c2 ?c3 ?c4 ?c5 ?_)
        case c1 =>
          intro j u hj
          match j, hj with
          | 0, hj => simp at hj; subst hj; simp [Addr.add]
        case c2 => intro u hu; simp at hu; subst hu; rfl
        case c3 => unfold maxLen; omega
        case c4 => omega
        case c5 => simp; omega
        intro V3 w3 hown3 hgrow _
        have hk3 : Below w1.heap.size w2 w3 := ((Below.refl _ w2).alloc hzz2 _).grown hgrow (by simp; omega) (fun j hj => (hV0.lt j hj).1)
        have hw3 : Wants w1.heap.size w w3 V3 ((L.take (k + 1)).filter isCmd) := by
          rw [HF2.out]
          exact Wants.push (by simpa using hV0.1) hVi HU2.out hown3
        have HW3 := hide hw3
        have HB3 : Hid (Below w.heap.size w w3) := HB2.out.trans (hk3.mono HB1.out.size)
        have HZ3 : Hid (w1.heap.size ≤ w3.heap.size) := Nat.le_trans hzz2 hk3.size
        clear hown3 hgrow hw3 hk3
        go_wp2
        go_roundw
        case rel =>
          refine ⟨k + 1, x ++ pWordsB L[k], by omega, by go_num, ?_, HX2, by rw [HX2.out]; exact HLEN.out, HW3, HB3, HZ3⟩
          rw [HCAT.out]
        case measure => simp [intOf]; omega
      | false =>
        have hne : ¬ (pWordsR L[k]).2 = 0 := of_decide_eq_false hcmd
        have hnb : (((pWordsR L[k]).2 : Int) == 0) = false := by rw [beq_eq_false_iff_ne]; omega
        have HX2 : Hid (x = manyB (L.take (k + 1))) := by rw [HX.out, manyB_take L k hlt, hcmd]; simp [Hid]
        have HF2 : Hid ((L.take (k + 1)).filter isCmd = (L.take k).filter isCmd) := by rw [filter_take L k hlt, hcmd]; simp [Hid]
        have HWD := hide hwords
        clear hcost hwords hcc hut hne
        subst hVe hue
        go_wp2_with fail
        refine HWD.out.mono ?_
        rintro e w2 ⟨rfl, hb2⟩
        have HW2 : Hid (Wants w1.heap.size w w2 (.slice ao ((L.take k).filter isCmd).length cp) ((L.take (k + 1)).filter isCmd)) := by
          rw [HF2.out]
          exact HW.out.kept hb2
        have HZ2 : Hid (w1.heap.size ≤ w2.heap.size) := Nat.le_trans HZ.out hb2.size
        have HB2 : Hid (Below w.heap.size w w2) := HB.out.trans (hb2.mono HB.out.size)
        clear hb2 huc
        go_wp2
        go_roundw
        case rel => exact ⟨k + 1, x, by omega, by go_num, rfl, HX2, hxl, HW2, HB2, HZ2⟩
        case measure => simp [intOf]; omega
    · have hkk : k = L.length := by omega
      subst hkk
      rw [List.take_length] at HX HW
      have hfeed : pFeedR ((⟨#[]⟩ : ByteArray).data.toList ++ (⟨x.toArray⟩ : ByteArray).data.toList) = (L.filter isCmd, [], 0) := by
        rw [toList_mk, HX.out]
        exact many_told L
      have HFEED := hide hfeed
      have HSZ : Hid ((⟨#[]⟩ : ByteArray).size + (⟨x.toArray⟩ : ByteArray).size ≤ 33554432) := by
        have h0 : (⟨#[]⟩ : ByteArray).size = 0 := rfl
        show _ + _ ≤ _
        rw [h0, size_mk]
        omega
      obtain ⟨vs, hV0, hVi⟩ := HW.out
      obtain ⟨ao, cp, hVe⟩ := shapes hV0
      subst hVe
      clear hfeed hV0 hVi
      go_wp2_with fail
      refine (feed_at _ _ (L.filter isCmd) [] 0 _ HSZ.out HFEED.out).mono ?_
      rintro e w2 ⟨V, rfl, hC, hb2⟩
      have HW2 := HW.out.kept hb2
      have hB2 : Below w.heap.size w w2 := HB.out.trans (hb2.mono HB.out.size)
      have hfl : (L.filter isCmd).length ≤ 1000000000 := by have := List.length_filter_le isCmd L; omega
      have hsame := sameCmds_any V (.slice ao (L.filter isCmd).length cp) (L.filter isCmd) (L.filter isCmd) w2 hC.at_ (HW2.at_ hB2) hfl (fun y hy => by
        have h1 := each_le_cost y
        have h2 := cost_le_sum L y (List.mem_filter.1 hy).1
        have h3 := HSUM.out
        omega)
      have hd : decide (L.filter isCmd = L.filter isCmd) = true := by simp
      rw [hd] at hsame
      have HSAME := hide hsame
      have HB2 := hide hB2
      clear hsame HW2 hB2 hC hb2 hd
      go_wp2_with (go_at_call 17; refine HSAME.out.mono ?_; rintro e w3 ⟨rfl, m3, rfl⟩)
      go_ret
      exact ⟨rfl, HB2.out.trans ⟨rfl, rfl, rfl, Nat.le_refl _, fun _ _ => rfl⟩⟩
end Go.Proofs.YtolpmaapdkhigaaDoor
