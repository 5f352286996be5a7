/- What the reference takes of sets, one by one. -/
import Derived.Test.YtkjnalbnhmpopaaRSet2
import Derived.Handy
namespace Go.Proofs.Ytkjnalbnhmpopaa
open Go.RowKit

/-- of the first so many lists what is taken -/
def selTo (f : Nat → ByteArray → Bool) (ls : List (List ByteArray)) (k : Nat) : List ByteArray := ((List.range k).map fun j => (ls[j]!).filter (f j)).flatten
theorem selTo_succ (f : Nat → ByteArray → Bool) (ls : List (List ByteArray)) (k : Nat) : selTo f ls (k + 1) = selTo f ls k ++ (ls[k]!).filter (f k) := by
  unfold selTo
  rw [List.range_succ, List.map_append, List.flatten_append]
  simp
theorem mem_selTo {f : Nat → ByteArray → Bool} {ls : List (List ByteArray)} {k : Nat} {x : ByteArray} : x ∈ selTo f ls k ↔ ∃ j, j < k ∧ x ∈ ls[j]! ∧ f j x = true := by
  unfold selTo
  rw [List.mem_flatten]
  constructor
  · rintro ⟨l, hl, hx⟩
    obtain ⟨j, hj, rfl⟩ := List.mem_map.1 hl
    exact ⟨j, List.mem_range.1 hj, List.mem_filter.1 hx⟩
  · rintro ⟨j, hj, hx⟩
    exact ⟨_, List.mem_map.2 ⟨j, List.mem_range.2 hj, rfl⟩, List.mem_filter.2 hx⟩
def fO1 (ls : List (List ByteArray)) : Nat → ByteArray → Bool := fun _ s => decide (cntL ls s = ls.length)
def fO2 (_ : List (List ByteArray)) : Nat → ByteArray → Bool := fun _ _ => true
def fO3 (ls : List (List ByteArray)) : Nat → ByteArray → Bool := fun i s => decide (i = 0) && decide (cntL ls s = 1)
theorem selTo_len (f : Nat → ByteArray → Bool) (ls : List (List ByteArray)) {k : Nat} (hk : k ≤ ls.length) : (selTo f ls k).length ≤ ls.flatten.length := by
  have h : ∀ k, k ≤ ls.length → (selTo f ls k).length ≤ (ls.take k).flatten.length := fun k => by
    induction k with
    | zero => intro _; exact Nat.zero_le _
    | succ k ih =>
      intro hk
      have hlt : k < ls.length := by omega
      have h1 := List.length_filter_le (f k) ls[k]!
      have e : ls[k]! = ls[k] := by simp [hlt]
      rw [selTo_succ, List.take_succ_eq_append_getElem hlt, List.flatten_append, List.length_append, List.length_append]
      have := ih (by omega)
      have e2 : ([ls[k]].flatten).length = ls[k].length := by rw [List.flatten_cons, List.flatten_nil, List.append_nil]
      rw [e] at h1 ⊢
      omega
  have h1 := h k hk
  have e : ls.flatten = (ls.take k).flatten ++ (ls.drop k).flatten := by rw [← List.flatten_append, List.take_append_drop]
  rw [e, List.length_append]
  omega
theorem selTo_len2 (f : Nat → ByteArray → Bool) (ls : List (List ByteArray)) {k : Nat} (hk : k < ls.length) : (selTo f ls k).length + ls[k]!.length ≤ ls.flatten.length := by
  have h1 := selTo_len (fun j t => if j = k then true else f j t) ls (k := k + 1) (by omega)
  rw [selTo_succ, List.length_append] at h1
  have e1 : (ls[k]!.filter fun t => if k = k then true else f k t) = ls[k]! := List.filter_eq_self.2 (fun a _ => by simp)
  have e2 : selTo (fun j t => if j = k then true else f j t) ls k = selTo f ls k := by
    unfold selTo
    congr 1
    refine List.map_congr_left (fun j hj => ?_)
    have := List.mem_range.1 hj
    refine List.filter_congr (fun t _ => ?_)
    have hjk : ¬ j = k := by omega
    simp [hjk]
  rw [e2] at h1
  have e3 := congrArg List.length e1
  omega
structure OutAt (w : World) (T : List ByteArray) (v : Value) (wr : World) : Prop where
  o : wr.ownsRow w.heap.size 9 1 v (addT [] T).length (strs (addT [] T))
  b : Below w.heap.size w wr
theorem sel_is {p : ByteArray → Nat → Bool} {f : Nat → ByteArray → Bool} {ls : List (List ByteArray)} (h : ∀ x, (∃ j, j < ls.length ∧ x ∈ ls[j]! ∧ f j x = true) ↔ (∃ l ∈ ls, x ∈ l) ∧ p x (cntL ls x) = true) : addT [] (selTo f ls ls.length) = thoseL p ls := by
  refine rises_unique (rises_addT List.Pairwise.nil) (thoseL_rises p ls) (fun x => ?_)
  rw [mem_addT, mem_selTo, mem_thoseL, ← h]
  simp
theorem mem_at {ls : List (List ByteArray)} {x : ByteArray} : (∃ j, j < ls.length ∧ x ∈ ls[j]!) ↔ ∃ l ∈ ls, x ∈ l := by
  constructor
  · rintro ⟨j, hj, hx⟩
    have e : ls[j]! = ls[j] := by simp [hj]
    rw [e] at hx
    exact ⟨_, List.getElem_mem hj, hx⟩
  · rintro ⟨l, hl, hx⟩
    obtain ⟨j, hj, rfl⟩ := List.getElem_of_mem hl
    exact ⟨j, hj, by simpa [hj] using hx⟩
theorem sel1 (xs : List Itm) : addT [] (selTo (fO1 (xs.map Itm.l)) (xs.map Itm.l) xs.length) = thoseL (askM xs) (xs.map Itm.l) := by
  have h := sel_is (p := askM xs) (f := fO1 (xs.map Itm.l)) (ls := xs.map Itm.l) (fun x => by
    rw [← mem_at]
    unfold fO1 askM
    rw [List.length_map]
    exact ⟨fun ⟨j, h1, h2, h3⟩ => ⟨⟨j, h1, h2⟩, h3⟩, fun ⟨⟨j, h1, h2⟩, h3⟩ => ⟨j, h1, h2, h3⟩⟩)
  rw [List.length_map] at h
  exact h
theorem sel2 (xs : List Itm) : addT [] (selTo (fO2 (xs.map Itm.l)) (xs.map Itm.l) xs.length) = thoseL (askJ xs) (xs.map Itm.l) := by
  have h := sel_is (p := askJ xs) (f := fO2 (xs.map Itm.l)) (ls := xs.map Itm.l) (fun x => by
    rw [← mem_at]
    unfold fO2 askJ
    exact ⟨fun ⟨j, h1, h2, h3⟩ => ⟨⟨j, h1, h2⟩, h3⟩, fun ⟨⟨j, h1, h2⟩, h3⟩ => ⟨j, h1, h2, h3⟩⟩)
  rw [List.length_map] at h
  exact h
theorem sel3 (xs : List Itm) (hne : xs ≠ []) : addT [] (selTo (fO3 (xs.map Itm.l)) (xs.map Itm.l) xs.length) = thoseL (askL1 xs) (xs.map Itm.l) := by
  have h0 : ((xs.map Itm.l)[0]!) = (xs.headD Itm.none).l := by
    cases xs with
    | nil => exact absurd rfl hne
    | cons y r => rfl
  have hl : 0 < (xs.map Itm.l).length := by rw [List.length_map]; exact List.length_pos_iff.2 hne
  have h := sel_is (p := askL1 xs) (f := fO3 (xs.map Itm.l)) (ls := xs.map Itm.l) (fun x => by
    rw [← mem_at]
    unfold fO3 askL1
    rw [Bool.and_eq_true, decide_eq_true_eq, hasT_iff, ← h0]
    constructor
    · rintro ⟨j, h1, h2, h3⟩
      rw [Bool.and_eq_true, decide_eq_true_eq, decide_eq_true_eq] at h3
      obtain ⟨rfl, h3⟩ := h3
      exact ⟨⟨0, h1, h2⟩, h3, h2⟩
    · rintro ⟨_, h3, h4⟩
      exact ⟨0, hl, h4, by rw [Bool.and_eq_true, decide_eq_true_eq, decide_eq_true_eq]; exact ⟨rfl, h3⟩⟩)
  rw [List.length_map] at h
  exact h
set_option maxRecDepth 100000 in
set_option maxHeartbeats 4000000 in
theorem setsOf1_some (a : Option Addr) (c : Nat) (xs : List Itm) (w : World) (hx : ItemsAt w a xs) (hne : xs ≠ []) (hxl : xs.length ≤ 1500000) (hsum : (xs.map Itm.l).flatten.length ≤ 1500000) (SE : Int) (TL : List ByteArray) (HS : Hid (SE = setsE xs ∧ TL = if setsE xs = 0 then addT [] (selTo (fO1 (xs.map Itm.l)) (xs.map Itm.l) xs.length) else [])) :
    Calls Try.prog 32 #[.slice a xs.length c, .int .i64 1] w fun e w' => ∃ a' cap, e = .returned (.tuple #[.slice a' TL.length cap, .int .i64 SE]) ∧ (∀ W, (∀ g o u, w.heap.size ≤ g → w'.cell? ⟨g, o, none⟩ = some u → W.cell? ⟨g, o, none⟩ = some u) → TextsAt W a' TL) ∧ Below w.heap.size w w' := by
  obtain ⟨g, o, rfl, hc⟩ := hx.resolve_left hne
  have HX := hide hc
  have hpos : 0 < xs.length := List.length_pos_iff.2 hne
  have hpos' : (((xs.length : Nat) : Int) == 0) = false := by rw [beq_eq_false_iff_ne]; omega
  clear hc hne hx
  go_enter Try.func32, Try.ntmps32
  go_wp2_with fail
  go_loopw [6] (fun i wr => ∃ k : Nat, k ≤ xs.length ∧ i = .int .i64 k ∧ Hid (∀ x ∈ xs.take k, asI x 3 = 0) ∧ Below w.heap.size w wr) (fun i _ => xs.length - (intOf i).toNat)
  case atStart => exact ⟨0, Nat.zero_le _, rfl, fun x hx => by simp at hx, Below.refl _ _⟩
  case round =>
    obtain ⟨k, hk, rfl, HG, hnx⟩ := hrel
    by_cases hlt : k < xs.length
    · have hlt' : ((k : Nat) : Int) < ((xs.length : Nat) : Int) := by omega
      obtain ⟨a1, c1, a2, c2, a3, c3, ⟨e0, e1, e2, e3, e4⟩, hI⟩ := HX.out k hlt
      have HBC : Hid (∀ g o v, w.cell? ⟨g, o, none⟩ = some v → wr.cell? ⟨g, o, none⟩ = some v) := fun g o _ hv => (hnx.cell (p := ⟨g, o, none⟩) (World.block_lt_of_cell? _ _ hv)).trans hv
      have d0 := HBC.out _ _ _ e0
      have d1 := HBC.out _ _ _ e1
      have d2 := HBC.out _ _ _ e2
      have d3 := HBC.out _ _ _ e3
      have d4 := HBC.out _ _ _ e4
      have HC := hide (refAs_any _ xs[k] 3 wr (hI.below hnx))
      have HTK : Hid (xs.take (k + 1) = xs.take k ++ [xs[k]]) := List.take_succ_eq_append_getElem hlt
      have HSA : Hid (asI xs[k] 3 ≠ 0 → setsE xs = asI xs[k] 3) := fun h => setsE_at hlt HG.out h
      obtain ⟨E, hE⟩ : ∃ E, E = asI xs[k] 3 := ⟨_, rfl⟩
      rw [← hE] at HC HSA
      have HE := hide hE
      clear hE e0 e1 e2 e3 e4 hI HBC
      generalize xs[k] = X at *
      go_wp2_with fail
      refine HC.out.mono ?_
      rintro e w1 ⟨rfl, hb1⟩
      have hB1 : Below w.heap.size w w1 := hnx.trans (hb1.mono hnx.size)
      clear HC d0 d1 d2 d3 d4 hb1
      by_cases h0 : E = 0
      · have HX0 : Hid (asI X 3 = 0) := HE.out.symm.trans h0
        subst h0
        go_wp2_with fail
        go_roundw
        case rel =>
          refine ⟨k + 1, by omega, by go_num, ?_, hB1⟩
          rw [HTK.out]
          intro x hx
          rcases List.mem_append.1 hx with hx | hx
          · exact HG.out x hx
          · rw [List.mem_singleton.1 hx]; exact HX0.out
        case measure => simp [intOf]; omega
      · have h0' : (E == 0) = false := by rw [beq_eq_false_iff_ne]; exact h0
        have hse := HSA.out h0
        have e1 : SE = E := HS.out.1.trans hse
        have e2 : TL = [] := by rw [HS.out.2, hse, if_neg h0]
        subst e1 e2
        go_wp2_with fail
        exact bodyPost_ret (v := .tuple #[.slice none 0 0, .int .i64 SE]) (by simp [results, Try.results32, go_sem]) rfl ⟨none, 0, rfl, fun W _ => .inl rfl, hB1⟩
    · have hge : ¬ ((k : Nat) : Int) < ((xs.length : Nat) : Int) := by omega
      obtain rfl : k = xs.length := by omega
      rw [List.take_length] at HG
      have hSE : SE = 0 := HS.out.1.trans (setsE_all HG.out)
      have HTL : Hid (TL = addT [] (selTo (fO1 (xs.map Itm.l)) (xs.map Itm.l) xs.length)) := by rw [Hid, HS.out.2, if_pos (setsE_all HG.out)]
      have HZL : Hid (∀ l ∈ xs.map Itm.l, ∀ t ∈ l, t.size ≤ maxLen) := fun l hl t ht => by
        obtain ⟨y, hy, rfl⟩ := List.mem_map.1 hl
        have := (asI_set (HG.out y hy)).2.2 t ht
        unfold maxLen
        omega
      have HLS : Hid (∀ i (h : i < xs.length), ∃ a1 c1, w.cell? ⟨g, o + i * 5 + 2, none⟩ = some (.slice a1 ((xs.map Itm.l)[i]!).length c1) ∧ TextsAt w a1 ((xs.map Itm.l)[i]!) ∧ ((xs.map Itm.l)[i]!).length ≤ 24) := fun i hi => by
        obtain ⟨a1, c1, a2, c2, a3, c3, ⟨-, -, e2, -, -⟩, hI⟩ := HX.out i hi
        have e9 : (xs.map Itm.l)[i]! = xs[i].l := by simp [hi]
        obtain ⟨⟨b1, q1, b2, q2, b3, q3, e, t1, -, -⟩, -, -, -, -, -, -, -⟩ := hI
        injection e with e
        have e' := congrArg (fun z => z[2]?) e
        simp at e'
        obtain ⟨rfl, _⟩ := e'
        rw [e9]
        exact ⟨a1, c1, e2, t1, (asI_set (HG.out _ (List.getElem_mem hi))).2.1⟩
      have hnl : (xs.map Itm.l).length = xs.length := List.length_map _
      subst hSE
      clear HS HG HX
      generalize hls : xs.map Itm.l = ls at *
      clear hls
      generalize xs.length = n at *
      have HO : Hid (OutAt w [] (.slice none 0 0) wr) := ⟨World.ownsRow_nil _ _ _ _, hnx⟩
      clear hnx
      go_wp2_with fail
      go_loopw [8, 9] (fun v i wr => ∃ k : Nat, k ≤ n ∧ i = .int .i64 k ∧ OutAt w (selTo (fO1 ls) ls k) v wr) (fun _ i _ => n - (intOf i).toNat)
      case atStart => exact ⟨0, Nat.zero_le _, rfl, HO.out⟩
      case round =>
        obtain ⟨k, hk, rfl, hOA⟩ := hrel
        have HOA := hide hOA
        have hbr := hOA.b
        clear hOA HO
        by_cases hlt : k < n
        · have hlt' : ((k : Nat) : Int) < ((n : Nat) : Int) := by omega
          obtain ⟨a1, c1, e2, ht1, h24⟩ := HLS.out k hlt
          have HD2 : Hid (∀ W, Below w.heap.size w W → W.cell? ⟨g, o + k * 5 + 2, none⟩ = some (.slice a1 ls[k]!.length c1)) := fun W hW => (hW.cell (p := ⟨g, o + k * 5 + 2, none⟩) (World.block_lt_of_cell? _ _ e2)).trans e2
          have HSS : Hid (selTo (fO1 ls) ls (k + 1) = selTo (fO1 ls) ls k ++ ls[k]!.filter (fO1 ls k)) := selTo_succ _ _ _
          have HZK : Hid (∀ t ∈ ls[k]!, t.size ≤ maxLen) := fun t ht => HZL.out _ (by rw [show ls[k]! = ls[k]'(by omega) by simp [show k < ls.length by omega]]; exact List.getElem_mem _) t ht
          have HLK : Hid ((selTo (fO1 ls) ls k).length + ls[k]!.length ≤ 1500000) := by
            have h1 := selTo_len (fO1 ls) ls (k := k + 1) (by omega)
            have h2 := selTo_len2 (fO1 ls) ls (k := k) (by omega)
            rw [Hid]
            omega
          have HTX : Hid (TextsAt w a1 ls[k]!) := ht1
          have HZS : Hid (∀ t ∈ selTo (fO1 ls) ls k, t.size ≤ maxLen) := fun t ht => by
            obtain ⟨j, hj, h1, _⟩ := mem_selTo.1 ht
            exact HZL.out _ (by rw [show ls[j]! = ls[j]'(by omega) by simp [show j < ls.length by omega]]; exact List.getElem_mem _) t h1
          clear e2 ht1
          generalize ls[k]! = L at *
          generalize selTo (fO1 ls) ls k = T at *
          have HO2 : Hid (∀ v, OutAt w T v wr → OutAt w (T ++ (L.take 0).filter (fO1 ls k)) v wr) := fun v h => by rw [List.take_zero, List.filter_nil, List.append_nil]; exact h
          go_wp2_with fail
          go_loopw [8, 10] (fun v i wr => ∃ m : Nat, m ≤ L.length ∧ i = .int .i64 m ∧ OutAt w (T ++ (L.take m).filter (fO1 ls k)) v wr) (fun _ i _ => L.length - (intOf i).toNat)
          case atStart => exact ⟨0, Nat.zero_le _, rfl, HO2.out _ HOA.out⟩
          case round =>
            clear HO2 HOA hbr
            obtain ⟨m, hm, rfl, hOA⟩ := hrel
            have HOA := hide hOA
            have hbr := hOA.b
            have hrow := hOA.o
            obtain ⟨ao, cp, hao⟩ := slice_own hrow
            subst hao
            clear hOA
            have d2 := HD2.out wr hbr
            by_cases hmt : m < L.length
            · have hmt' : ((m : Nat) : Int) < ((L.length : Nat) : Int) := by omega
              obtain ⟨g1, o1, rfl, hcs⟩ : ∃ g o, a1 = some ⟨g, o, none⟩ ∧ ∀ i (h : i < L.length), w.cell? ⟨g, o + i, none⟩ = some (.string L[i]) := by
                rcases HTX.out with h | h
                · subst h; simp at hmt
                · exact h
              have d0 : wr.cell? ⟨g1, o1 + m, none⟩ = some (.string L[m]) := (hbr.cell (p := ⟨g1, o1 + m, none⟩) (World.block_lt_of_cell? _ _ (hcs m hmt))).trans (hcs m hmt)
              have HTM : Hid ((L.take (m + 1)).filter (fO1 ls k) = (L.take m).filter (fO1 ls k) ++ (if fO1 ls k L[m] = true then [L[m]] else [])) := by
                rw [Hid, List.take_succ_eq_append_getElem hmt, List.filter_append]
                congr 1
                all_goals (by_cases hf : fO1 ls k L[m] = true <;> simp [hf])
              obtain ⟨s, hs⟩ : ∃ s, s = L[m] := ⟨_, rfl⟩
              rw [← hs] at d0 HTM
              have HSM : Hid (s ∈ L) := by rw [Hid, hs]; exact List.getElem_mem _
              clear hs hcs
              have HTT : Hid (TextsAt wr ao (addT [] (T ++ (L.take m).filter (fO1 ls k)))) := texts_own hrow
              have HLT : Hid ((addT [] (T ++ (L.take m).filter (fO1 ls k))).length ≤ 1500000) := by
                have h1 := addT_len [] (T ++ (L.take m).filter (fO1 ls k))
                have h2 := HLK.out
                have h3 := List.length_filter_le (fO1 ls k) (L.take m)
                rw [List.length_append] at h1
                rw [List.length_take] at h3
                rw [Hid]
                simp only [List.length_nil] at h1
                omega
              have HZT : Hid (∀ t ∈ addT [] (T ++ (L.take m).filter (fO1 ls k)), t.size ≤ maxLen) := fun t ht => by
                rcases mem_addT.1 ht with h1 | h1
                · cases h1
                rcases List.mem_append.1 h1 with h1 | h1
                · exact HZS.out t h1
                · exact HZK.out t (List.mem_of_mem_take (List.mem_filter.1 h1).1)
              go_wp2_with fail
              obtain ⟨wc, hwc⟩ : ∃ wc, wc = wr := ⟨_, rfl⟩
              have hbc : Below w.heap.size w wc := by rw [hwc]; exact hbr
              rw [← hwc] at HOA HTT hrow
              go_loopw [12, 13] (fun mv i wr => ∃ q : Nat, q ≤ n ∧ i = .int .i64 q ∧ mv = .int .i64 (cntL (ls.take q) s) ∧ wr = wc) (fun _ i _ => n - (intOf i).toNat)
              case atStart => exact ⟨0, Nat.zero_le _, rfl, by rw [List.take_zero]; rfl, hwc.symm⟩
              case round =>
                clear hbr d2 d0 hwc
                obtain ⟨q, hq, rfl, rfl, rfl⟩ := hrel
                by_cases hqt : q < n
                · have hqt' : ((q : Nat) : Int) < ((n : Nat) : Int) := by omega
                  obtain ⟨b1, q1, f2, ft, f24⟩ := HLS.out q hqt
                  have f2' := (hbc.cell (p := ⟨g, o + q * 5 + 2, none⟩) (World.block_lt_of_cell? _ _ f2)).trans f2
                  have HHT := hide (hasText_any b1 q1 ls[q]! s wr (ft.below hbc) (by omega))
                  have HCT : Hid (cntL (ls.take (q + 1)) s = cntL (ls.take q) s + if hasT ls[q]! s = true then 1 else 0) := by
                    have hql : q < ls.length := by omega
                    rw [Hid, List.take_succ_eq_append_getElem hql, cntL, cntL, List.filter_append, List.length_append, show ls[q]! = ls[q] by simp [hql]]
                    by_cases hf : hasT ls[q] s = true <;> simp [hf]
                  have hcl : cntL (ls.take q) s ≤ 1500000 := by
                    have h1 := List.length_filter_le (fun l => hasT l s) (ls.take q)
                    rw [List.length_take] at h1
                    unfold cntL
                    omega
                  clear f2 ft f24
                  generalize ls[q]! = LQ at *
                  generalize cntL (ls.take q) s = CQ at *
                  go_wp2_with fail
                  refine HHT.out.mono ?_
                  rintro e w6 ⟨rfl, hw6⟩
                  subst hw6
                  cases hh : hasT LQ s with
                  | true =>
                    rw [hh] at HCT
                    go_wp2_with fail
                    go_roundw
                    case rel => exact ⟨q + 1, by omega, by go_num, by rw [HCT.out]; go_num, by trivial⟩
                    case measure => simp [intOf]; omega
                  | false =>
                    rw [hh] at HCT
                    go_wp2_with fail
                    go_roundw
                    case rel => exact ⟨q + 1, by omega, by go_num, by rw [HCT.out]; rfl, by trivial⟩
                    case measure => simp [intOf]; omega
                · have hqe : ¬ ((q : Nat) : Int) < ((n : Nat) : Int) := by omega
                  obtain rfl : q = n := by omega
                  rw [show ls.take q = ls from List.take_of_length_le (by omega)]
                  have hcn : cntL ls s ≤ 1500000 := by
                    have h1 := List.length_filter_le (fun l => hasT l s) ls
                    unfold cntL
                    omega
                  cases hf : fO1 ls k s with
                  | true =>
                    rw [hf, if_pos rfl] at HTM
                    have HP := hide (putText_any ao cp _ s wr HTT.out (by have := HLT.out; omega) HZT.out)
                    rw [← addT_snoc, List.append_assoc, ← HTM.out] at HP
                    have hfe : ((((cntL ls s : Nat) : Int)) == ((q : Nat) : Int)) = true := by have := of_decide_eq_true hf; rw [beq_iff_eq]; omega
                    clear hf
                    go_wp2_with fail
                    refine HP.out.mono ?_
                    rintro e w7 ⟨v7, rfl, hown7, hb7⟩
                    have hb7' : Below w.heap.size w w7 := hbc.trans (hb7.mono hbc.size)
                    have HR : Hid (OutAt w (T ++ (L.take (m + 1)).filter (fO1 ls k)) v7 w7) := ⟨own_low hown7 hbc.size, hb7'⟩
                    clear hown7 hb7 hb7' HP hrow HOA HTT
                    go_wp2_with fail
                    go_roundw
                    case rel => exact ⟨m + 1, by omega, by go_num, HR.out⟩
                    case measure => simp [intOf]; omega
                  | false =>
                    rw [hf, if_neg (by decide), List.append_nil] at HTM
                    have hfe : ((((cntL ls s : Nat) : Int)) == ((q : Nat) : Int)) = false := by have := of_decide_eq_false hf; rw [beq_eq_false_iff_ne]; omega
                    clear hf
                    go_wp2_with fail
                    go_roundw
                    case rel => exact ⟨m + 1, by omega, by go_num, by rw [HTM.out]; exact HOA.out⟩
                    case measure => simp [intOf]; omega
            · have hge2 : ¬ ((m : Nat) : Int) < ((L.length : Nat) : Int) := by omega
              obtain rfl : m = L.length := by omega
              go_wp2_with fail
              go_roundw
              case rel =>
                refine ⟨k + 1, by omega, by go_num, ?_⟩
                rw [HSS.out]
                have := HOA.out
                simpa only [List.take_length] using this
              case measure => simp [intOf]; omega
        · have hge2 : ¬ ((k : Nat) : Int) < ((n : Nat) : Int) := by omega
          obtain rfl : k = n := by omega
          have hrow := HOA.out.o
          rw [← HTL.out] at hrow
          obtain ⟨ao, cp, hao⟩ := slice_own hrow
          subst hao
          have HRW := hide hrow
          clear hrow HOA
          go_wp2_with fail
          exact bodyPost_ret (v := .tuple #[.slice ao TL.length cp, .int .i64 0]) (by simp [results, Try.results32, go_sem]) rfl (by first | exact ⟨ao, cp, rfl, fun W hW => texts_from HRW.out hW, hbr⟩ | exact ⟨ao, ⟨cp, rfl⟩, fun W hW => texts_from HRW.out hW, hbr⟩)
set_option maxRecDepth 100000 in
set_option maxHeartbeats 4000000 in
theorem setsOf2_some (a : Option Addr) (c : Nat) (xs : List Itm) (w : World) (hx : ItemsAt w a xs) (hne : xs ≠ []) (hxl : xs.length ≤ 1500000) (hsum : (xs.map Itm.l).flatten.length ≤ 1500000) (SE : Int) (TL : List ByteArray) (HS : Hid (SE = setsE xs ∧ TL = if setsE xs = 0 then addT [] (selTo (fO2 (xs.map Itm.l)) (xs.map Itm.l) xs.length) else [])) :
    Calls Try.prog 32 #[.slice a xs.length c, .int .i64 2] w fun e w' => ∃ a' cap, e = .returned (.tuple #[.slice a' TL.length cap, .int .i64 SE]) ∧ (∀ W, (∀ g o u, w.heap.size ≤ g → w'.cell? ⟨g, o, none⟩ = some u → W.cell? ⟨g, o, none⟩ = some u) → TextsAt W a' TL) ∧ Below w.heap.size w w' := by
  obtain ⟨g, o, rfl, hc⟩ := hx.resolve_left hne
  have HX := hide hc
  have hpos : 0 < xs.length := List.length_pos_iff.2 hne
  have hpos' : (((xs.length : Nat) : Int) == 0) = false := by rw [beq_eq_false_iff_ne]; omega
  clear hc hne hx
  go_enter Try.func32, Try.ntmps32
  go_wp2_with fail
  go_loopw [6] (fun i wr => ∃ k : Nat, k ≤ xs.length ∧ i = .int .i64 k ∧ Hid (∀ x ∈ xs.take k, asI x 3 = 0) ∧ Below w.heap.size w wr) (fun i _ => xs.length - (intOf i).toNat)
  case atStart => exact ⟨0, Nat.zero_le _, rfl, fun x hx => by simp at hx, Below.refl _ _⟩
  case round =>
    obtain ⟨k, hk, rfl, HG, hnx⟩ := hrel
    by_cases hlt : k < xs.length
    · have hlt' : ((k : Nat) : Int) < ((xs.length : Nat) : Int) := by omega
      obtain ⟨a1, c1, a2, c2, a3, c3, ⟨e0, e1, e2, e3, e4⟩, hI⟩ := HX.out k hlt
      have HBC : Hid (∀ g o v, w.cell? ⟨g, o, none⟩ = some v → wr.cell? ⟨g, o, none⟩ = some v) := fun g o _ hv => (hnx.cell (p := ⟨g, o, none⟩) (World.block_lt_of_cell? _ _ hv)).trans hv
      have d0 := HBC.out _ _ _ e0
      have d1 := HBC.out _ _ _ e1
      have d2 := HBC.out _ _ _ e2
      have d3 := HBC.out _ _ _ e3
      have d4 := HBC.out _ _ _ e4
      have HC := hide (refAs_any _ xs[k] 3 wr (hI.below hnx))
      have HTK : Hid (xs.take (k + 1) = xs.take k ++ [xs[k]]) := List.take_succ_eq_append_getElem hlt
      have HSA : Hid (asI xs[k] 3 ≠ 0 → setsE xs = asI xs[k] 3) := fun h => setsE_at hlt HG.out h
      obtain ⟨E, hE⟩ : ∃ E, E = asI xs[k] 3 := ⟨_, rfl⟩
      rw [← hE] at HC HSA
      have HE := hide hE
      clear hE e0 e1 e2 e3 e4 hI HBC
      generalize xs[k] = X at *
      go_wp2_with fail
      refine HC.out.mono ?_
      rintro e w1 ⟨rfl, hb1⟩
      have hB1 : Below w.heap.size w w1 := hnx.trans (hb1.mono hnx.size)
      clear HC d0 d1 d2 d3 d4 hb1
      by_cases h0 : E = 0
      · have HX0 : Hid (asI X 3 = 0) := HE.out.symm.trans h0
        subst h0
        go_wp2_with fail
        go_roundw
        case rel =>
          refine ⟨k + 1, by omega, by go_num, ?_, hB1⟩
          rw [HTK.out]
          intro x hx
          rcases List.mem_append.1 hx with hx | hx
          · exact HG.out x hx
          · rw [List.mem_singleton.1 hx]; exact HX0.out
        case measure => simp [intOf]; omega
      · have h0' : (E == 0) = false := by rw [beq_eq_false_iff_ne]; exact h0
        have hse := HSA.out h0
        have e1 : SE = E := HS.out.1.trans hse
        have e2 : TL = [] := by rw [HS.out.2, hse, if_neg h0]
        subst e1 e2
        go_wp2_with fail
        exact bodyPost_ret (v := .tuple #[.slice none 0 0, .int .i64 SE]) (by simp [results, Try.results32, go_sem]) rfl ⟨none, 0, rfl, fun W _ => .inl rfl, hB1⟩
    · have hge : ¬ ((k : Nat) : Int) < ((xs.length : Nat) : Int) := by omega
      obtain rfl : k = xs.length := by omega
      rw [List.take_length] at HG
      have hSE : SE = 0 := HS.out.1.trans (setsE_all HG.out)
      have HTL : Hid (TL = addT [] (selTo (fO2 (xs.map Itm.l)) (xs.map Itm.l) xs.length)) := by rw [Hid, HS.out.2, if_pos (setsE_all HG.out)]
      have HZL : Hid (∀ l ∈ xs.map Itm.l, ∀ t ∈ l, t.size ≤ maxLen) := fun l hl t ht => by
        obtain ⟨y, hy, rfl⟩ := List.mem_map.1 hl
        have := (asI_set (HG.out y hy)).2.2 t ht
        unfold maxLen
        omega
      have HLS : Hid (∀ i (h : i < xs.length), ∃ a1 c1, w.cell? ⟨g, o + i * 5 + 2, none⟩ = some (.slice a1 ((xs.map Itm.l)[i]!).length c1) ∧ TextsAt w a1 ((xs.map Itm.l)[i]!) ∧ ((xs.map Itm.l)[i]!).length ≤ 24) := fun i hi => by
        obtain ⟨a1, c1, a2, c2, a3, c3, ⟨-, -, e2, -, -⟩, hI⟩ := HX.out i hi
        have e9 : (xs.map Itm.l)[i]! = xs[i].l := by simp [hi]
        obtain ⟨⟨b1, q1, b2, q2, b3, q3, e, t1, -, -⟩, -, -, -, -, -, -, -⟩ := hI
        injection e with e
        have e' := congrArg (fun z => z[2]?) e
        simp at e'
        obtain ⟨rfl, _⟩ := e'
        rw [e9]
        exact ⟨a1, c1, e2, t1, (asI_set (HG.out _ (List.getElem_mem hi))).2.1⟩
      have hnl : (xs.map Itm.l).length = xs.length := List.length_map _
      subst hSE
      clear HS HG HX
      generalize hls : xs.map Itm.l = ls at *
      clear hls
      generalize xs.length = n at *
      have HO : Hid (OutAt w [] (.slice none 0 0) wr) := ⟨World.ownsRow_nil _ _ _ _, hnx⟩
      clear hnx
      go_wp2_with fail
      go_loopw [8, 9] (fun v i wr => ∃ k : Nat, k ≤ n ∧ i = .int .i64 k ∧ OutAt w (selTo (fO2 ls) ls k) v wr) (fun _ i _ => n - (intOf i).toNat)
      case atStart => exact ⟨0, Nat.zero_le _, rfl, HO.out⟩
      case round =>
        obtain ⟨k, hk, rfl, hOA⟩ := hrel
        have HOA := hide hOA
        have hbr := hOA.b
        clear hOA HO
        by_cases hlt : k < n
        · have hlt' : ((k : Nat) : Int) < ((n : Nat) : Int) := by omega
          obtain ⟨a1, c1, e2, ht1, h24⟩ := HLS.out k hlt
          have HD2 : Hid (∀ W, Below w.heap.size w W → W.cell? ⟨g, o + k * 5 + 2, none⟩ = some (.slice a1 ls[k]!.length c1)) := fun W hW => (hW.cell (p := ⟨g, o + k * 5 + 2, none⟩) (World.block_lt_of_cell? _ _ e2)).trans e2
          have HSS : Hid (selTo (fO2 ls) ls (k + 1) = selTo (fO2 ls) ls k ++ ls[k]!.filter (fO2 ls k)) := selTo_succ _ _ _
          have HZK : Hid (∀ t ∈ ls[k]!, t.size ≤ maxLen) := fun t ht => HZL.out _ (by rw [show ls[k]! = ls[k]'(by omega) by simp [show k < ls.length by omega]]; exact List.getElem_mem _) t ht
          have HLK : Hid ((selTo (fO2 ls) ls k).length + ls[k]!.length ≤ 1500000) := by
            have h1 := selTo_len (fO2 ls) ls (k := k + 1) (by omega)
            have h2 := selTo_len2 (fO2 ls) ls (k := k) (by omega)
            rw [Hid]
            omega
          have HTX : Hid (TextsAt w a1 ls[k]!) := ht1
          have HZS : Hid (∀ t ∈ selTo (fO2 ls) ls k, t.size ≤ maxLen) := fun t ht => by
            obtain ⟨j, hj, h1, _⟩ := mem_selTo.1 ht
            exact HZL.out _ (by rw [show ls[j]! = ls[j]'(by omega) by simp [show j < ls.length by omega]]; exact List.getElem_mem _) t h1
          clear e2 ht1
          generalize ls[k]! = L at *
          generalize selTo (fO2 ls) ls k = T at *
          have HO2 : Hid (∀ v, OutAt w T v wr → OutAt w (T ++ (L.take 0).filter (fO2 ls k)) v wr) := fun v h => by rw [List.take_zero, List.filter_nil, List.append_nil]; exact h
          go_wp2_with fail
          go_loopw [8, 10] (fun v i wr => ∃ m : Nat, m ≤ L.length ∧ i = .int .i64 m ∧ OutAt w (T ++ (L.take m).filter (fO2 ls k)) v wr) (fun _ i _ => L.length - (intOf i).toNat)
          case atStart => exact ⟨0, Nat.zero_le _, rfl, HO2.out _ HOA.out⟩
          case round =>
            clear HO2 HOA hbr
            obtain ⟨m, hm, rfl, hOA⟩ := hrel
            have HOA := hide hOA
            have hbr := hOA.b
            have hrow := hOA.o
            obtain ⟨ao, cp, hao⟩ := slice_own hrow
            subst hao
            clear hOA
            have d2 := HD2.out wr hbr
            by_cases hmt : m < L.length
            · have hmt' : ((m : Nat) : Int) < ((L.length : Nat) : Int) := by omega
              obtain ⟨g1, o1, rfl, hcs⟩ : ∃ g o, a1 = some ⟨g, o, none⟩ ∧ ∀ i (h : i < L.length), w.cell? ⟨g, o + i, none⟩ = some (.string L[i]) := by
                rcases HTX.out with h | h
                · subst h; simp at hmt
                · exact h
              have d0 : wr.cell? ⟨g1, o1 + m, none⟩ = some (.string L[m]) := (hbr.cell (p := ⟨g1, o1 + m, none⟩) (World.block_lt_of_cell? _ _ (hcs m hmt))).trans (hcs m hmt)
              have HTM : Hid ((L.take (m + 1)).filter (fO2 ls k) = (L.take m).filter (fO2 ls k) ++ (if fO2 ls k L[m] = true then [L[m]] else [])) := by
                rw [Hid, List.take_succ_eq_append_getElem hmt, List.filter_append]
                congr 1
                all_goals (by_cases hf : fO2 ls k L[m] = true <;> simp [hf])
              obtain ⟨s, hs⟩ : ∃ s, s = L[m] := ⟨_, rfl⟩
              rw [← hs] at d0 HTM
              have HSM : Hid (s ∈ L) := by rw [Hid, hs]; exact List.getElem_mem _
              clear hs hcs
              have HTT : Hid (TextsAt wr ao (addT [] (T ++ (L.take m).filter (fO2 ls k)))) := texts_own hrow
              have HLT : Hid ((addT [] (T ++ (L.take m).filter (fO2 ls k))).length ≤ 1500000) := by
                have h1 := addT_len [] (T ++ (L.take m).filter (fO2 ls k))
                have h2 := HLK.out
                have h3 := List.length_filter_le (fO2 ls k) (L.take m)
                rw [List.length_append] at h1
                rw [List.length_take] at h3
                rw [Hid]
                simp only [List.length_nil] at h1
                omega
              have HZT : Hid (∀ t ∈ addT [] (T ++ (L.take m).filter (fO2 ls k)), t.size ≤ maxLen) := fun t ht => by
                rcases mem_addT.1 ht with h1 | h1
                · cases h1
                rcases List.mem_append.1 h1 with h1 | h1
                · exact HZS.out t h1
                · exact HZK.out t (List.mem_of_mem_take (List.mem_filter.1 h1).1)
              go_wp2_with fail
              obtain ⟨wc, hwc⟩ : ∃ wc, wc = wr := ⟨_, rfl⟩
              have hbc : Below w.heap.size w wc := by rw [hwc]; exact hbr
              rw [← hwc] at HOA HTT hrow
              go_loopw [12, 13] (fun mv i wr => ∃ q : Nat, q ≤ n ∧ i = .int .i64 q ∧ mv = .int .i64 (cntL (ls.take q) s) ∧ wr = wc) (fun _ i _ => n - (intOf i).toNat)
              case atStart => exact ⟨0, Nat.zero_le _, rfl, by rw [List.take_zero]; rfl, hwc.symm⟩
              case round =>
                clear hbr d2 d0 hwc
                obtain ⟨q, hq, rfl, rfl, rfl⟩ := hrel
                by_cases hqt : q < n
                · have hqt' : ((q : Nat) : Int) < ((n : Nat) : Int) := by omega
                  obtain ⟨b1, q1, f2, ft, f24⟩ := HLS.out q hqt
                  have f2' := (hbc.cell (p := ⟨g, o + q * 5 + 2, none⟩) (World.block_lt_of_cell? _ _ f2)).trans f2
                  have HHT := hide (hasText_any b1 q1 ls[q]! s wr (ft.below hbc) (by omega))
                  have HCT : Hid (cntL (ls.take (q + 1)) s = cntL (ls.take q) s + if hasT ls[q]! s = true then 1 else 0) := by
                    have hql : q < ls.length := by omega
                    rw [Hid, List.take_succ_eq_append_getElem hql, cntL, cntL, List.filter_append, List.length_append, show ls[q]! = ls[q] by simp [hql]]
                    by_cases hf : hasT ls[q] s = true <;> simp [hf]
                  have hcl : cntL (ls.take q) s ≤ 1500000 := by
                    have h1 := List.length_filter_le (fun l => hasT l s) (ls.take q)
                    rw [List.length_take] at h1
                    unfold cntL
                    omega
                  clear f2 ft f24
                  generalize ls[q]! = LQ at *
                  generalize cntL (ls.take q) s = CQ at *
                  go_wp2_with fail
                  refine HHT.out.mono ?_
                  rintro e w6 ⟨rfl, hw6⟩
                  subst hw6
                  cases hh : hasT LQ s with
                  | true =>
                    rw [hh] at HCT
                    go_wp2_with fail
                    go_roundw
                    case rel => exact ⟨q + 1, by omega, by go_num, by rw [HCT.out]; go_num, by trivial⟩
                    case measure => simp [intOf]; omega
                  | false =>
                    rw [hh] at HCT
                    go_wp2_with fail
                    go_roundw
                    case rel => exact ⟨q + 1, by omega, by go_num, by rw [HCT.out]; rfl, by trivial⟩
                    case measure => simp [intOf]; omega
                · have hqe : ¬ ((q : Nat) : Int) < ((n : Nat) : Int) := by omega
                  obtain rfl : q = n := by omega
                  rw [show ls.take q = ls from List.take_of_length_le (by omega)]
                  have hcn : cntL ls s ≤ 1500000 := by
                    have h1 := List.length_filter_le (fun l => hasT l s) ls
                    unfold cntL
                    omega
                  cases hf : fO2 ls k s with
                  | true =>
                    rw [hf, if_pos rfl] at HTM
                    have HP := hide (putText_any ao cp _ s wr HTT.out (by have := HLT.out; omega) HZT.out)
                    rw [← addT_snoc, List.append_assoc, ← HTM.out] at HP
                    have hfe := hf
                    clear hf
                    go_wp2_with fail
                    refine HP.out.mono ?_
                    rintro e w7 ⟨v7, rfl, hown7, hb7⟩
                    have hb7' : Below w.heap.size w w7 := hbc.trans (hb7.mono hbc.size)
                    have HR : Hid (OutAt w (T ++ (L.take (m + 1)).filter (fO2 ls k)) v7 w7) := ⟨own_low hown7 hbc.size, hb7'⟩
                    clear hown7 hb7 hb7' HP hrow HOA HTT
                    go_wp2_with fail
                    go_roundw
                    case rel => exact ⟨m + 1, by omega, by go_num, HR.out⟩
                    case measure => simp [intOf]; omega
                  | false =>
                    rw [hf, if_neg (by decide), List.append_nil] at HTM
                    simp [fO2] at hf
            · have hge2 : ¬ ((m : Nat) : Int) < ((L.length : Nat) : Int) := by omega
              obtain rfl : m = L.length := by omega
              go_wp2_with fail
              go_roundw
              case rel =>
                refine ⟨k + 1, by omega, by go_num, ?_⟩
                rw [HSS.out]
                have := HOA.out
                simpa only [List.take_length] using this
              case measure => simp [intOf]; omega
        · have hge2 : ¬ ((k : Nat) : Int) < ((n : Nat) : Int) := by omega
          obtain rfl : k = n := by omega
          have hrow := HOA.out.o
          rw [← HTL.out] at hrow
          obtain ⟨ao, cp, hao⟩ := slice_own hrow
          subst hao
          have HRW := hide hrow
          clear hrow HOA
          go_wp2_with fail
          exact bodyPost_ret (v := .tuple #[.slice ao TL.length cp, .int .i64 0]) (by simp [results, Try.results32, go_sem]) rfl (by first | exact ⟨ao, cp, rfl, fun W hW => texts_from HRW.out hW, hbr⟩ | exact ⟨ao, ⟨cp, rfl⟩, fun W hW => texts_from HRW.out hW, hbr⟩)
set_option maxRecDepth 100000 in
set_option maxHeartbeats 4000000 in
theorem setsOf3_some (a : Option Addr) (c : Nat) (xs : List Itm) (w : World) (hx : ItemsAt w a xs) (hne : xs ≠ []) (hxl : xs.length ≤ 1500000) (hsum : (xs.map Itm.l).flatten.length ≤ 1500000) (SE : Int) (TL : List ByteArray) (HS : Hid (SE = setsE xs ∧ TL = if setsE xs = 0 then addT [] (selTo (fO3 (xs.map Itm.l)) (xs.map Itm.l) xs.length) else [])) :
    Calls Try.prog 32 #[.slice a xs.length c, .int .i64 3] w fun e w' => ∃ a' cap, e = .returned (.tuple #[.slice a' TL.length cap, .int .i64 SE]) ∧ (∀ W, (∀ g o u, w.heap.size ≤ g → w'.cell? ⟨g, o, none⟩ = some u → W.cell? ⟨g, o, none⟩ = some u) → TextsAt W a' TL) ∧ Below w.heap.size w w' := by
  obtain ⟨g, o, rfl, hc⟩ := hx.resolve_left hne
  have HX := hide hc
  have hpos : 0 < xs.length := List.length_pos_iff.2 hne
  have hpos' : (((xs.length : Nat) : Int) == 0) = false := by rw [beq_eq_false_iff_ne]; omega
  clear hc hne hx
  go_enter Try.func32, Try.ntmps32
  go_wp2_with fail
  go_loopw [6] (fun i wr => ∃ k : Nat, k ≤ xs.length ∧ i = .int .i64 k ∧ Hid (∀ x ∈ xs.take k, asI x 3 = 0) ∧ Below w.heap.size w wr) (fun i _ => xs.length - (intOf i).toNat)
  case atStart => exact ⟨0, Nat.zero_le _, rfl, fun x hx => by simp at hx, Below.refl _ _⟩
  case round =>
    obtain ⟨k, hk, rfl, HG, hnx⟩ := hrel
    by_cases hlt : k < xs.length
    · have hlt' : ((k : Nat) : Int) < ((xs.length : Nat) : Int) := by omega
      obtain ⟨a1, c1, a2, c2, a3, c3, ⟨e0, e1, e2, e3, e4⟩, hI⟩ := HX.out k hlt
      have HBC : Hid (∀ g o v, w.cell? ⟨g, o, none⟩ = some v → wr.cell? ⟨g, o, none⟩ = some v) := fun g o _ hv => (hnx.cell (p := ⟨g, o, none⟩) (World.block_lt_of_cell? _ _ hv)).trans hv
      have d0 := HBC.out _ _ _ e0
      have d1 := HBC.out _ _ _ e1
      have d2 := HBC.out _ _ _ e2
      have d3 := HBC.out _ _ _ e3
      have d4 := HBC.out _ _ _ e4
      have HC := hide (refAs_any _ xs[k] 3 wr (hI.below hnx))
      have HTK : Hid (xs.take (k + 1) = xs.take k ++ [xs[k]]) := List.take_succ_eq_append_getElem hlt
      have HSA : Hid (asI xs[k] 3 ≠ 0 → setsE xs = asI xs[k] 3) := fun h => setsE_at hlt HG.out h
      obtain ⟨E, hE⟩ : ∃ E, E = asI xs[k] 3 := ⟨_, rfl⟩
      rw [← hE] at HC HSA
      have HE := hide hE
      clear hE e0 e1 e2 e3 e4 hI HBC
      generalize xs[k] = X at *
      go_wp2_with fail
      refine HC.out.mono ?_
      rintro e w1 ⟨rfl, hb1⟩
      have hB1 : Below w.heap.size w w1 := hnx.trans (hb1.mono hnx.size)
      clear HC d0 d1 d2 d3 d4 hb1
      by_cases h0 : E = 0
      · have HX0 : Hid (asI X 3 = 0) := HE.out.symm.trans h0
        subst h0
        go_wp2_with fail
        go_roundw
        case rel =>
          refine ⟨k + 1, by omega, by go_num, ?_, hB1⟩
          rw [HTK.out]
          intro x hx
          rcases List.mem_append.1 hx with hx | hx
          · exact HG.out x hx
          · rw [List.mem_singleton.1 hx]; exact HX0.out
        case measure => simp [intOf]; omega
      · have h0' : (E == 0) = false := by rw [beq_eq_false_iff_ne]; exact h0
        have hse := HSA.out h0
        have e1 : SE = E := HS.out.1.trans hse
        have e2 : TL = [] := by rw [HS.out.2, hse, if_neg h0]
        subst e1 e2
        go_wp2_with fail
        exact bodyPost_ret (v := .tuple #[.slice none 0 0, .int .i64 SE]) (by simp [results, Try.results32, go_sem]) rfl ⟨none, 0, rfl, fun W _ => .inl rfl, hB1⟩
    · have hge : ¬ ((k : Nat) : Int) < ((xs.length : Nat) : Int) := by omega
      obtain rfl : k = xs.length := by omega
      rw [List.take_length] at HG
      have hSE : SE = 0 := HS.out.1.trans (setsE_all HG.out)
      have HTL : Hid (TL = addT [] (selTo (fO3 (xs.map Itm.l)) (xs.map Itm.l) xs.length)) := by rw [Hid, HS.out.2, if_pos (setsE_all HG.out)]
      have HZL : Hid (∀ l ∈ xs.map Itm.l, ∀ t ∈ l, t.size ≤ maxLen) := fun l hl t ht => by
        obtain ⟨y, hy, rfl⟩ := List.mem_map.1 hl
        have := (asI_set (HG.out y hy)).2.2 t ht
        unfold maxLen
        omega
      have HLS : Hid (∀ i (h : i < xs.length), ∃ a1 c1, w.cell? ⟨g, o + i * 5 + 2, none⟩ = some (.slice a1 ((xs.map Itm.l)[i]!).length c1) ∧ TextsAt w a1 ((xs.map Itm.l)[i]!) ∧ ((xs.map Itm.l)[i]!).length ≤ 24) := fun i hi => by
        obtain ⟨a1, c1, a2, c2, a3, c3, ⟨-, -, e2, -, -⟩, hI⟩ := HX.out i hi
        have e9 : (xs.map Itm.l)[i]! = xs[i].l := by simp [hi]
        obtain ⟨⟨b1, q1, b2, q2, b3, q3, e, t1, -, -⟩, -, -, -, -, -, -, -⟩ := hI
        injection e with e
        have e' := congrArg (fun z => z[2]?) e
        simp at e'
        obtain ⟨rfl, _⟩ := e'
        rw [e9]
        exact ⟨a1, c1, e2, t1, (asI_set (HG.out _ (List.getElem_mem hi))).2.1⟩
      have hnl : (xs.map Itm.l).length = xs.length := List.length_map _
      subst hSE
      clear HS HG HX
      generalize hls : xs.map Itm.l = ls at *
      clear hls
      generalize xs.length = n at *
      have HO : Hid (OutAt w [] (.slice none 0 0) wr) := ⟨World.ownsRow_nil _ _ _ _, hnx⟩
      clear hnx
      go_wp2_with fail
      go_loopw [8, 9] (fun v i wr => ∃ k : Nat, k ≤ n ∧ i = .int .i64 k ∧ OutAt w (selTo (fO3 ls) ls k) v wr) (fun _ i _ => n - (intOf i).toNat)
      case atStart => exact ⟨0, Nat.zero_le _, rfl, HO.out⟩
      case round =>
        obtain ⟨k, hk, rfl, hOA⟩ := hrel
        have HOA := hide hOA
        have hbr := hOA.b
        clear hOA HO
        by_cases hlt : k < n
        · have hlt' : ((k : Nat) : Int) < ((n : Nat) : Int) := by omega
          obtain ⟨a1, c1, e2, ht1, h24⟩ := HLS.out k hlt
          have HD2 : Hid (∀ W, Below w.heap.size w W → W.cell? ⟨g, o + k * 5 + 2, none⟩ = some (.slice a1 ls[k]!.length c1)) := fun W hW => (hW.cell (p := ⟨g, o + k * 5 + 2, none⟩) (World.block_lt_of_cell? _ _ e2)).trans e2
          have HSS : Hid (selTo (fO3 ls) ls (k + 1) = selTo (fO3 ls) ls k ++ ls[k]!.filter (fO3 ls k)) := selTo_succ _ _ _
          have HZK : Hid (∀ t ∈ ls[k]!, t.size ≤ maxLen) := fun t ht => HZL.out _ (by rw [show ls[k]! = ls[k]'(by omega) by simp [show k < ls.length by omega]]; exact List.getElem_mem _) t ht
          have HLK : Hid ((selTo (fO3 ls) ls k).length + ls[k]!.length ≤ 1500000) := by
            have h1 := selTo_len (fO3 ls) ls (k := k + 1) (by omega)
            have h2 := selTo_len2 (fO3 ls) ls (k := k) (by omega)
            rw [Hid]
            omega
          have HTX : Hid (TextsAt w a1 ls[k]!) := ht1
          have HZS : Hid (∀ t ∈ selTo (fO3 ls) ls k, t.size ≤ maxLen) := fun t ht => by
            obtain ⟨j, hj, h1, _⟩ := mem_selTo.1 ht
            exact HZL.out _ (by rw [show ls[j]! = ls[j]'(by omega) by simp [show j < ls.length by omega]]; exact List.getElem_mem _) t h1
          clear e2 ht1
          generalize ls[k]! = L at *
          generalize selTo (fO3 ls) ls k = T at *
          have HO2 : Hid (∀ v, OutAt w T v wr → OutAt w (T ++ (L.take 0).filter (fO3 ls k)) v wr) := fun v h => by rw [List.take_zero, List.filter_nil, List.append_nil]; exact h
          go_wp2_with fail
          go_loopw [8, 10] (fun v i wr => ∃ m : Nat, m ≤ L.length ∧ i = .int .i64 m ∧ OutAt w (T ++ (L.take m).filter (fO3 ls k)) v wr) (fun _ i _ => L.length - (intOf i).toNat)
          case atStart => exact ⟨0, Nat.zero_le _, rfl, HO2.out _ HOA.out⟩
          case round =>
            clear HO2 HOA hbr
            obtain ⟨m, hm, rfl, hOA⟩ := hrel
            have HOA := hide hOA
            have hbr := hOA.b
            have hrow := hOA.o
            obtain ⟨ao, cp, hao⟩ := slice_own hrow
            subst hao
            clear hOA
            have d2 := HD2.out wr hbr
            by_cases hmt : m < L.length
            · have hmt' : ((m : Nat) : Int) < ((L.length : Nat) : Int) := by omega
              obtain ⟨g1, o1, rfl, hcs⟩ : ∃ g o, a1 = some ⟨g, o, none⟩ ∧ ∀ i (h : i < L.length), w.cell? ⟨g, o + i, none⟩ = some (.string L[i]) := by
                rcases HTX.out with h | h
                · subst h; simp at hmt
                · exact h
              have d0 : wr.cell? ⟨g1, o1 + m, none⟩ = some (.string L[m]) := (hbr.cell (p := ⟨g1, o1 + m, none⟩) (World.block_lt_of_cell? _ _ (hcs m hmt))).trans (hcs m hmt)
              have HTM : Hid ((L.take (m + 1)).filter (fO3 ls k) = (L.take m).filter (fO3 ls k) ++ (if fO3 ls k L[m] = true then [L[m]] else [])) := by
                rw [Hid, List.take_succ_eq_append_getElem hmt, List.filter_append]
                congr 1
                all_goals (by_cases hf : fO3 ls k L[m] = true <;> simp [hf])
              obtain ⟨s, hs⟩ : ∃ s, s = L[m] := ⟨_, rfl⟩
              rw [← hs] at d0 HTM
              have HSM : Hid (s ∈ L) := by rw [Hid, hs]; exact List.getElem_mem _
              clear hs hcs
              have HTT : Hid (TextsAt wr ao (addT [] (T ++ (L.take m).filter (fO3 ls k)))) := texts_own hrow
              have HLT : Hid ((addT [] (T ++ (L.take m).filter (fO3 ls k))).length ≤ 1500000) := by
                have h1 := addT_len [] (T ++ (L.take m).filter (fO3 ls k))
                have h2 := HLK.out
                have h3 := List.length_filter_le (fO3 ls k) (L.take m)
                rw [List.length_append] at h1
                rw [List.length_take] at h3
                rw [Hid]
                simp only [List.length_nil] at h1
                omega
              have HZT : Hid (∀ t ∈ addT [] (T ++ (L.take m).filter (fO3 ls k)), t.size ≤ maxLen) := fun t ht => by
                rcases mem_addT.1 ht with h1 | h1
                · cases h1
                rcases List.mem_append.1 h1 with h1 | h1
                · exact HZS.out t h1
                · exact HZK.out t (List.mem_of_mem_take (List.mem_filter.1 h1).1)
              go_wp2_with fail
              obtain ⟨wc, hwc⟩ : ∃ wc, wc = wr := ⟨_, rfl⟩
              have hbc : Below w.heap.size w wc := by rw [hwc]; exact hbr
              rw [← hwc] at HOA HTT hrow
              go_loopw [12, 13] (fun mv i wr => ∃ q : Nat, q ≤ n ∧ i = .int .i64 q ∧ mv = .int .i64 (cntL (ls.take q) s) ∧ wr = wc) (fun _ i _ => n - (intOf i).toNat)
              case atStart => exact ⟨0, Nat.zero_le _, rfl, by rw [List.take_zero]; rfl, hwc.symm⟩
              case round =>
                clear hbr d2 d0 hwc
                obtain ⟨q, hq, rfl, rfl, rfl⟩ := hrel
                by_cases hqt : q < n
                · have hqt' : ((q : Nat) : Int) < ((n : Nat) : Int) := by omega
                  obtain ⟨b1, q1, f2, ft, f24⟩ := HLS.out q hqt
                  have f2' := (hbc.cell (p := ⟨g, o + q * 5 + 2, none⟩) (World.block_lt_of_cell? _ _ f2)).trans f2
                  have HHT := hide (hasText_any b1 q1 ls[q]! s wr (ft.below hbc) (by omega))
                  have HCT : Hid (cntL (ls.take (q + 1)) s = cntL (ls.take q) s + if hasT ls[q]! s = true then 1 else 0) := by
                    have hql : q < ls.length := by omega
                    rw [Hid, List.take_succ_eq_append_getElem hql, cntL, cntL, List.filter_append, List.length_append, show ls[q]! = ls[q] by simp [hql]]
                    by_cases hf : hasT ls[q] s = true <;> simp [hf]
                  have hcl : cntL (ls.take q) s ≤ 1500000 := by
                    have h1 := List.length_filter_le (fun l => hasT l s) (ls.take q)
                    rw [List.length_take] at h1
                    unfold cntL
                    omega
                  clear f2 ft f24
                  generalize ls[q]! = LQ at *
                  generalize cntL (ls.take q) s = CQ at *
                  go_wp2_with fail
                  refine HHT.out.mono ?_
                  rintro e w6 ⟨rfl, hw6⟩
                  subst hw6
                  cases hh : hasT LQ s with
                  | true =>
                    rw [hh] at HCT
                    go_wp2_with fail
                    go_roundw
                    case rel => exact ⟨q + 1, by omega, by go_num, by rw [HCT.out]; go_num, by trivial⟩
                    case measure => simp [intOf]; omega
                  | false =>
                    rw [hh] at HCT
                    go_wp2_with fail
                    go_roundw
                    case rel => exact ⟨q + 1, by omega, by go_num, by rw [HCT.out]; rfl, by trivial⟩
                    case measure => simp [intOf]; omega
                · have hqe : ¬ ((q : Nat) : Int) < ((n : Nat) : Int) := by omega
                  obtain rfl : q = n := by omega
                  rw [show ls.take q = ls from List.take_of_length_le (by omega)]
                  have hcn : cntL ls s ≤ 1500000 := by
                    have h1 := List.length_filter_le (fun l => hasT l s) ls
                    unfold cntL
                    omega
                  cases hf : fO3 ls k s with
                  | true =>
                    rw [hf, if_pos rfl] at HTM
                    have HP := hide (putText_any ao cp _ s wr HTT.out (by have := HLT.out; omega) HZT.out)
                    rw [← addT_snoc, List.append_assoc, ← HTM.out] at HP
                    have hfe : k = 0 ∧ cntL ls s = 1 := by simpa [fO3] using hf
                    obtain ⟨hk0, hfe⟩ := hfe
                    have hk1 : (((k : Nat) : Int) == 0) = true := by rw [beq_iff_eq]; omega
                    have hfe2 : (((cntL ls s : Nat) : Int) == 1) = true := by rw [beq_iff_eq]; omega
                    clear hk0 hfe
                    clear hf
                    go_wp2_with fail
                    refine HP.out.mono ?_
                    rintro e w7 ⟨v7, rfl, hown7, hb7⟩
                    have hb7' : Below w.heap.size w w7 := hbc.trans (hb7.mono hbc.size)
                    have HR : Hid (OutAt w (T ++ (L.take (m + 1)).filter (fO3 ls k)) v7 w7) := ⟨own_low hown7 hbc.size, hb7'⟩
                    clear hown7 hb7 hb7' HP hrow HOA HTT
                    go_wp2_with fail
                    go_roundw
                    case rel => exact ⟨m + 1, by omega, by go_num, HR.out⟩
                    case measure => simp [intOf]; omega
                  | false =>
                    rw [hf, if_neg (by decide), List.append_nil] at HTM
                    have hfe : ¬ (k = 0 ∧ cntL ls s = 1) := by simpa [fO3] using hf
                    by_cases hk0 : k = 0
                    · have hk1 : (((k : Nat) : Int) == 0) = true := by rw [beq_iff_eq]; omega
                      have hc1 : (((cntL ls s : Nat) : Int) == 1) = false := by rw [beq_eq_false_iff_ne]; intro e; exact hfe ⟨hk0, by omega⟩
                      clear hk0 hfe
                      clear hf
                      go_wp2_with fail
                      go_roundw
                      case rel => exact ⟨m + 1, by omega, by go_num, by rw [HTM.out]; exact HOA.out⟩
                      case measure => simp [intOf]; omega
                    · have hk1 : (((k : Nat) : Int) == 0) = false := by rw [beq_eq_false_iff_ne]; omega
                      clear hk0 hfe
                      clear hf
                      go_wp2_with fail
                      go_roundw
                      case rel => exact ⟨m + 1, by omega, by go_num, by rw [HTM.out]; exact HOA.out⟩
                      case measure => simp [intOf]; omega
            · have hge2 : ¬ ((m : Nat) : Int) < ((L.length : Nat) : Int) := by omega
              obtain rfl : m = L.length := by omega
              go_wp2_with fail
              go_roundw
              case rel =>
                refine ⟨k + 1, by omega, by go_num, ?_⟩
                rw [HSS.out]
                have := HOA.out
                simpa only [List.take_length] using this
              case measure => simp [intOf]; omega
        · have hge2 : ¬ ((k : Nat) : Int) < ((n : Nat) : Int) := by omega
          obtain rfl : k = n := by omega
          have hrow := HOA.out.o
          rw [← HTL.out] at hrow
          obtain ⟨ao, cp, hao⟩ := slice_own hrow
          subst hao
          have HRW := hide hrow
          clear hrow HOA
          go_wp2_with fail
          exact bodyPost_ret (v := .tuple #[.slice ao TL.length cp, .int .i64 0]) (by simp [results, Try.results32, go_sem]) rfl (by first | exact ⟨ao, cp, rfl, fun W hW => texts_from HRW.out hW, hbr⟩ | exact ⟨ao, ⟨cp, rfl⟩, fun W hW => texts_from HRW.out hW, hbr⟩)
end Go.Proofs.Ytkjnalbnhmpopaa
