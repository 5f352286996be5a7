/- Part 3 of what the proof leans on: Lst1, Lst2, ShelfL, Lst3, RInt, RChk1, RChk2, RChk3, RChk4, RChk5, RChk6, Lst4, Lst5, Lst6, Lst9, Lst1b, Lst7, Lst8. -/
import Derived.Test.YtcidoodaiimhfaaGreatPart2
import Derived.Test.YtcidoodaiimhfaaGreatPart1
import Derived.Handy
import Derived.Lib.AppendZeros
import Derived.Laws.OwnMore
import Derived.Shelf.Slices.ReverseS
import Derived.Shelf.Slices.Clone
import Derived.Shelf.Slices.Cells
import Derived.Test.YtcidoodaiimhfaaGreatProg
import Derived.Laws.IdiomCopy
import Derived.Test.YtcidoodaiimhfaaGreatChecked
import Derived.BigQuiet
import Derived.Deep.RegionHeld3
import Derived.BigRegion
/- WALKS of what elements stay. -/
namespace Go.Proofs.YtcidoodaiimhfaaGreat
open Go.RowKit

theorem infoStr : (Tryz.prog.info? 9).map (fun i => (i.zero, i.size, i.bytes)) = some (some (.string ⟨#[]⟩), 1, 16) := by kernel_rfl
/-- a list as an item: nothing, if it has no elements -/
def lstI (l : List ByteArray) : Itm := if l = [] then Itm.none else ⟨2, ⟨#[]⟩, l, [], []⟩
def strs (l : List ByteArray) : List Value := l.map Value.string
/-- those of the first k that stay -/
def keptTo (goes : Nat → ByteArray → Bool) (l : List ByteArray) (k : Nat) : List ByteArray := ((List.range k).filter fun i => !goes i l[i]!).map fun i => l[i]!
theorem keptTo_go {goes : Nat → ByteArray → Bool} {l : List ByteArray} {k : Nat} (hk : k < l.length) (h : goes k l[k] = true) : keptTo goes l (k + 1) = keptTo goes l k := by
  unfold keptTo
  rw [List.range_succ, List.filter_append, List.map_append]
  simp [hk, h]
theorem keptTo_stay {goes : Nat → ByteArray → Bool} {l : List ByteArray} {k : Nat} (hk : k < l.length) (h : goes k l[k] = false) : keptTo goes l (k + 1) = keptTo goes l k ++ [l[k]] := by
  unfold keptTo
  rw [List.range_succ, List.filter_append, List.map_append]
  simp [hk, h]
theorem keptTo_len (goes : Nat → ByteArray → Bool) (l : List ByteArray) (k : Nat) : (keptTo goes l k).length ≤ k := by
  unfold keptTo
  rw [List.length_map]
  have := List.length_filter_le (fun i => !goes i l[i]!) (List.range k)
  simpa using this
theorem keptTo_mem {goes : Nat → ByteArray → Bool} {l : List ByteArray} {k : Nat} (hk : k ≤ l.length) : ∀ t ∈ keptTo goes l k, t ∈ l := by
  intro t ht
  unfold keptTo at ht
  obtain ⟨i, hi, rfl⟩ := List.mem_map.1 ht
  have := List.mem_range.1 (List.mem_filter.1 hi).1
  rw [getElem!_pos l i (by omega)]
  exact List.getElem_mem _
/-- texts of a row of one's own -/
theorem texts_own {w : World} {base : Nat} {a : Option Addr} {cap : Nat} {xs : List ByteArray} (h : w.ownsRow base 9 1 (.slice a xs.length cap) xs.length (strs xs)) : TextsAt w a xs := by
  rcases h.2 with ⟨hv, h0⟩ | ⟨g, cp, cur, hv, _⟩
  · exact .inl (List.eq_nil_of_length_eq_zero h0)
  · injection hv with h1 h2 h3
    subst h1
    refine .inr ⟨g, 0, rfl, fun i hi => ?_⟩
    have := h.cellAt i (by omega)
    rw [Nat.zero_add, this]
    simp [strs, hi]
theorem texts_apart {w w' : World} {base b : Nat} {a : Option Addr} {cap : Nat} {xs : List ByteArray} (h : w.ownsRow base 9 1 (.slice a xs.length cap) xs.length (strs xs)) (hb : b < base) (hw : ∀ g o, g ≠ b → w'.cell? ⟨g, o, none⟩ = w.cell? ⟨g, o, none⟩) : TextsAt w' a xs := by
  rcases h.2 with ⟨hv, h0⟩ | ⟨g, cp, cur, hv, hg, _⟩
  · exact .inl (List.eq_nil_of_length_eq_zero h0)
  · injection hv with h1 h2 h3
    subst h1
    refine .inr ⟨g, 0, rfl, fun i hi => ?_⟩
    have := h.cellAt i (by omega)
    rw [hw _ _ (by omega), Nat.zero_add, this]
    simp [strs, hi]
theorem texts_from {w w' : World} {base : Nat} {a : Option Addr} {cap : Nat} {xs : List ByteArray} (h : w.ownsRow base 9 1 (.slice a xs.length cap) xs.length (strs xs)) (hw : ∀ g o u, base ≤ g → w.cell? ⟨g, o, none⟩ = some u → w'.cell? ⟨g, o, none⟩ = some u) : TextsAt w' a xs := by
  rcases h.2 with ⟨hv, h0⟩ | ⟨g, cp, cur, hv, hg, _⟩
  · exact .inl (List.eq_nil_of_length_eq_zero h0)
  · injection hv with h1 h2 h3
    subst h1
    refine .inr ⟨g, 0, rfl, fun i hi => ?_⟩
    have := h.cellAt i (by omega)
    refine hw _ _ _ hg ?_
    rw [Nat.zero_add, this]
    simp [strs, hi]
theorem texts_ownF {w w' : World} {base : Nat} {a : Option Addr} {cap : Nat} {xs : List ByteArray} (h : w.ownsRow base 9 1 (.slice a xs.length cap) xs.length (strs xs)) (hw : ∀ g o u, base ≤ g → w.cell? ⟨g, o, none⟩ = some u → w.frozen? ⟨g, o, none⟩ = false → w'.cell? ⟨g, o, none⟩ = some u) : TextsAt w' a xs := by
  rcases h.2 with ⟨hv, h0⟩ | ⟨g, cp, cur, hv, hg, hh, _⟩
  · exact .inl (List.eq_nil_of_length_eq_zero h0)
  · injection hv with h1 h2 h3
    subst h1
    refine .inr ⟨g, 0, rfl, fun i hi => ?_⟩
    have := h.cellAt i (by omega)
    refine hw _ _ _ hg ?_ (by simp [World.frozen?, hh])
    rw [Nat.zero_add, this]
    simp [strs, hi]
theorem slice_own {w : World} {b e s : Nat} {v : Value} {n : Nat} {xs : List Value} (h : w.ownsRow b e s v n xs) : ∃ ao cp, v = .slice ao n cp := by
  rcases h.2 with ⟨rfl, rfl⟩ | ⟨g, cap, cur, rfl, _⟩
  · exact ⟨none, 0, rfl⟩
  · exact ⟨_, _, rfl⟩
theorem lstI_is {w : World} {a : Option Addr} {cap : Nat} {l : List ByteArray} (h : TextsAt w a l) (hne : l ≠ []) (hz : ∀ t ∈ l, t.size ≤ maxLen) (hl : l.length ≤ 281474976710656) : ItemIs w (.agg #[.int .i64 2, .string ⟨#[]⟩, .slice a l.length cap, .slice none 0 0, .slice none 0 0]) (lstI l) := by
  rw [lstI, if_neg hne]
  exact ⟨⟨a, cap, none, 0, none, 0, rfl, h, .inl rfl, .inl rfl⟩, (show (0 : Nat) ≤ maxLen by simp), hz, by simp, by simp, hl, by simp, by simp⟩

theorem popAt_any (b at_ i : Nat) (t : ByteArray) (w : World) (h : w.cell? ⟨b, 0, none⟩ = some (.int .i64 at_)) : Calls Tryz.prog 90 #[.int .i64 i, .string t, .pointer (some ⟨b, 0, none⟩)] w fun e w' => e = .returned (.bool (decide (i = at_))) ∧ w' = w := by
  have hd : (((i : Nat) : Int) == ((at_ : Nat) : Int)) = decide (i = at_) := by rw [Bool.eq_iff_iff]; simp; omega
  go_enter Tryz.func90, Tryz.ntmps90
  go_wp2_with fail
  go_ret
  rw [← hd]
  exact ⟨rfl, rfl⟩

set_option maxRecDepth 100000 in
set_option maxHeartbeats 2000000 in
theorem withoutP_any (b at_ : Nat) (a : Option Addr) (cap : Nat) (l : List ByteArray) (w : World) (hs : TextsAt w a l) (hn : l.length ≤ 1000) (hz : ∀ t ∈ l, t.size ≤ maxLen) (hc : w.cell? ⟨b, 0, none⟩ = some (.int .i64 at_)) :
    Calls Tryz.prog 89 #[.slice a l.length cap, .func (.func 90) #[] #[.pointer (some ⟨b, 0, none⟩)]] w fun e w' => ∃ v, e = .returned v ∧ ItemOwn w.heap.size w' v (lstI (keptTo (fun i _ => decide (i = at_)) l l.length)) ∧ Below w.heap.size w w' := by
  obtain ⟨i0, hi, hz0, hz1, hz2⟩ := info_parts infoStr
  have HS := hide hs
  have HZ := hide hz
  clear hs hz
  go_enter Tryz.func89, Tryz.ntmps89
  go_wp2_with fail
  generalize hW0 : World.alloc w _ = W0
  have q0 : W0.cell? ⟨w.heap.size, 0, none⟩ = some (.int .i64 0) := by rw [← hW0]; simp [go_sem]
  have q1 : W0.cell? ⟨w.heap.size, 1, none⟩ = some (.string ⟨#[]⟩) := by rw [← hW0]; simp [go_sem]
  have q2 : W0.cell? ⟨w.heap.size, 2, none⟩ = some (.slice none 0 0) := by rw [← hW0]; simp [go_sem]
  have q3 : W0.cell? ⟨w.heap.size, 3, none⟩ = some (.slice none 0 0) := by rw [← hW0]; simp [go_sem]
  have q4 : W0.cell? ⟨w.heap.size, 4, none⟩ = some (.slice none 0 0) := by rw [← hW0]; simp [go_sem]
  have f0 : W0.frozen? ⟨w.heap.size, 0, none⟩ = false := by rw [← hW0]; simp [go_sem]
  have f1 : W0.frozen? ⟨w.heap.size, 1, none⟩ = false := by rw [← hW0]; simp [go_sem]
  have f2 : W0.frozen? ⟨w.heap.size, 2, none⟩ = false := by rw [← hW0]; simp [go_sem]
  have f3 : W0.frozen? ⟨w.heap.size, 3, none⟩ = false := by rw [← hW0]; simp [go_sem]
  have f4 : W0.frozen? ⟨w.heap.size, 4, none⟩ = false := by rw [← hW0]; simp [go_sem]
  have zW : W0.heap.size = w.heap.size + 1 := by rw [← hW0]; simp
  have BW : Below w.heap.size w W0 := by rw [← hW0]; exact (Below.refl _ _).alloc (Nat.le_refl _) _
  clear hW0
  have Q0 := hide q0
  have Q1 := hide q1
  have Q2 := hide q2
  have Q3 := hide q3
  have Q4 := hide q4
  have F0 := hide f0
  have F1 := hide f1
  have F2 := hide f2
  have F3 := hide f3
  have F4 := hide f4
  clear q0 q1 q2 q3 q4 f0 f1 f2 f3 f4
  go_loopw [5, 10] (fun v i wr => ∃ k : Nat, k ≤ l.length ∧ i = .int .i64 k ∧ wr.ownsRow (w.heap.size + 1) 9 1 v (keptTo (fun i _ => decide (i = at_)) l k).length (strs (keptTo (fun i _ => decide (i = at_)) l k)) ∧ Below (w.heap.size + 1) W0 wr) (fun _ i _ => l.length - (intOf i).toNat)
  case atStart => exact ⟨0, Nat.zero_le _, rfl, World.ownsRow_nil _ _ _ _, Below.refl _ _⟩
  case round =>
    obtain ⟨k, hk, rfl, hown, hbr⟩ := hrel
    have hsz := hbr.size
    have BR : Below w.heap.size w wr := BW.trans (hbr.mono (by omega))
    have HB : Hid (∀ g o v, w.cell? ⟨g, o, none⟩ = some v → wr.cell? ⟨g, o, none⟩ = some v) := fun g o _ hv => (BR.cell (p := ⟨g, o, none⟩) (World.block_lt_of_cell? _ _ hv)).trans hv
    by_cases hlt : k < l.length
    · have hlt' : ((k : Nat) : Int) < ((l.length : Nat) : Int) := by omega
      obtain ⟨g, o, rfl, hcs⟩ : ∃ g o, a = some ⟨g, o, none⟩ ∧ ∀ i (h : i < l.length), w.cell? ⟨g, o + i, none⟩ = some (.string l[i]) := by
        rcases HS.out with h | h
        · subst h; simp at hlt
        · exact h
      have d0 : wr.cell? ⟨g, o + k, none⟩ = some (.string l[k]) := HB.out _ _ _ (hcs k hlt)
      have hc1 : wr.cell? ⟨b, 0, none⟩ = some (.int .i64 at_) := HB.out _ _ _ hc
      have HC := hide (popAt_any b at_ k l[k] wr hc1)
      have hkl := keptTo_len (fun i _ => decide (i = at_)) l k
      cases hx : (fun i _ => decide (i = at_)) k l[k] with
      | true =>
        have HY := hide (keptTo_go (goes := fun i _ => decide (i = at_)) hlt hx)
        have HX := hide hx
        clear hcs HS HZ hx HB
        go_wp2_with fail
        refine HC.out.mono ?_
        rintro e w1 ⟨rfl, rfl⟩
        rw [HX.out]
        go_wp2_with fail
        go_roundw
        case rel => exact ⟨k + 1, by omega, by go_num, by rw [HY.out]; exact hown, hbr⟩
        case measure => simp [intOf]; omega
      | false =>
        have HY := hide (keptTo_stay (goes := fun i _ => decide (i = at_)) hlt hx)
        have HX := hide hx
        clear hcs HS HZ hx HB
        generalize l[k] = X at *
        go_wp2_with fail
        refine HC.out.mono ?_
        rintro e w1 ⟨rfl, rfl⟩
        rw [HX.out]
        go_wp2_with (at_builtin; refine wpList_append_own _ rfl _ _ 24 rfl (w.heap.size + 1) 9 i0 (.string ⟨#[]⟩) 1 16 Tryz.underlying24 hi hz0 hz1 hz2 rfl (by decide) _ _ _ rfl (hown.alloc _) ⟨w1.heap.size, 0, none⟩ 1 1 [.string X] rfl rfl ?c1 ?c2 ?c3 ?c4 ?c5 ?_)
        case c1 =>
          intro j u hj
          match j, hj with
          | 0, hj => simp at hj; subst hj; simp [Addr.add]
        case c2 => intro u hu; simp at hu; subst hu; rfl
        case c3 => unfold maxLen; omega
        case c4 => omega
        case c5 => simp; omega
        intro v' w4 hown4 hgrow _
        have hb4 : Below (w.heap.size + 1) W0 w4 := (hbr.alloc (by omega) _).grown hgrow (by simp; omega) (fun j hj => (hown.lt j hj).1)
        have hown5 : w4.ownsRow (w.heap.size + 1) 9 1 v' (keptTo (fun i _ => decide (i = at_)) l (k + 1)).length (strs (keptTo (fun i _ => decide (i = at_)) l (k + 1))) := by
          rw [HY.out]
          simpa [strs] using hown4
        go_wp2_with fail
        go_roundw
        case rel => exact ⟨k + 1, by omega, by go_num, hown5, hb4⟩
        case measure => simp [intOf]; omega
    · have hge : ¬ ((k : Nat) : Int) < ((l.length : Nat) : Int) := by omega
      obtain rfl : k = l.length := by omega
      have q0 := (hbr.cell (p := ⟨w.heap.size, 0, none⟩) (by simp)).trans Q0.out
      have q1 := (hbr.cell (p := ⟨w.heap.size, 1, none⟩) (by simp)).trans Q1.out
      have q2 := (hbr.cell (p := ⟨w.heap.size, 2, none⟩) (by simp)).trans Q2.out
      have q3 := (hbr.cell (p := ⟨w.heap.size, 3, none⟩) (by simp)).trans Q3.out
      have q4 := (hbr.cell (p := ⟨w.heap.size, 4, none⟩) (by simp)).trans Q4.out
      have f0 := (hbr.frozen (p := ⟨w.heap.size, 0, none⟩) (by simp)).trans F0.out
      have f1 := (hbr.frozen (p := ⟨w.heap.size, 1, none⟩) (by simp)).trans F1.out
      have f2 := (hbr.frozen (p := ⟨w.heap.size, 2, none⟩) (by simp)).trans F2.out
      have f3 := (hbr.frozen (p := ⟨w.heap.size, 3, none⟩) (by simp)).trans F3.out
      have f4 := (hbr.frozen (p := ⟨w.heap.size, 4, none⟩) (by simp)).trans F4.out
      have hkl := keptTo_len (fun i _ => decide (i = at_)) l l.length
      have HM : Hid (∀ t ∈ keptTo (fun i _ => decide (i = at_)) l l.length, t.size ≤ maxLen) := fun t ht => HZ.out t (keptTo_mem (Nat.le_refl _) t ht)
      clear HS HZ HB Q0 Q1 Q2 Q3 Q4 F0 F1 F2 F3 F4
      generalize hK : keptTo (fun i _ => decide (i = at_)) l l.length = K at *
      have HK := hide hK
      clear hK
      obtain ⟨ao, cp, rfl⟩ := slice_own hown
      by_cases h0 : K = []
      · subst h0
        clear hown
        go_wp2_with fail
        refine bodyPost_ret (v := .agg #[.int .i64 0, .string ⟨#[]⟩, .slice none 0 0, .slice none 0 0, .slice none 0 0]) (by simp [results, Tryz.results89, go_sem, q0, q1, q2, q3, q4]) rfl ⟨_, rfl, ?_, ?_⟩
        · rw [HK.out, lstI, if_pos rfl]; exact fun w'' _ => zero_is w''
        · go_grown
      · have hKl : K.length ≠ 0 := fun e => h0 (List.eq_nil_of_length_eq_zero e)
        have hKb : (((K.length : Nat) : Int) == 0) = false := by rw [beq_eq_false_iff_ne]; omega
        have HT : Hid (∀ w', (∀ g o u, w.heap.size + 1 ≤ g → wr.cell? ⟨g, o, none⟩ = some u → wr.frozen? ⟨g, o, none⟩ = false → w'.cell? ⟨g, o, none⟩ = some u) → TextsAt w' ao K) := fun w' hw => texts_ownF hown hw
        clear hown
        have HNE := hide h0
        clear h0
        generalize hLL : K.length = n at *
        go_wp2_with fail
        refine bodyPost_ret (v := .agg #[.int .i64 2, .string ⟨#[]⟩, .slice ao n cp, .slice none 0 0, .slice none 0 0]) (by simp [results, Tryz.results89, go_sem, q0, q1, q2, q3, q4]) rfl ⟨_, rfl, ?_, ?_⟩
        · subst hLL
          rw [HK.out]
          exact fun w'' hw => lstI_is (HT.out w'' (fun g o u hg hu hf => hw g o u (by omega) ((five_apart _ _ _ _ _ _ _ g o (by omega)).trans hu) (by simpa using hf))) HNE.out HM.out (by omega)
        · go_grown
end Go.Proofs.YtcidoodaiimhfaaGreat

/- Appending texts; Grow, Concat of two. -/
namespace Go.Proofs.YtcidoodaiimhfaaGreat
open Go.RowKit

theorem run_append_none (P : Program) (w : World) (base : Nat) (t ty e : TypeId) (i : TypeInfo) (size : Nat) (ht : P.underlying t = some (.slice e)) (hi : P.info? e = some i)
    (v : Value) (n : Nat) (xs : List Value) (hown : w.ownsRow base e size v n xs) (c : Nat) :
    (Builtin.append_ #[t, t] ty #[v, .slice none 0 c]).run P w = .ok v w := by
  rcases hown.2 with ⟨rfl, rfl⟩ | ⟨g, cap, cur, rfl, _, _, hnc, _⟩
  · simp [Builtin.append_, run_underlying ht, sizeOf, typeInfo, hi, Builtin.lenOf, Builtin.firstCells]
  · simp [Builtin.append_, run_underlying ht, sizeOf, typeInfo, hi, Builtin.lenOf, Builtin.firstCells, hnc, storeCells]
theorem strs_one (l : List ByteArray) : ∀ u ∈ strs l, u.oneCell' = true := by
  intro u hu
  obtain ⟨t, _, rfl⟩ := List.mem_map.1 hu
  rfl
theorem texts_news {w : World} {g o : Nat} {l : List ByteArray} (h : ∀ i (hi : i < l.length), w.cell? ⟨g, o + i, none⟩ = some (.string l[i])) : ∀ j u, (strs l)[j]? = some u → w.cell? ((⟨g, o, none⟩ : Addr).add j) = some u := by
  intro j u hj
  have hjl : j < l.length := by
    have := (List.getElem?_eq_some_iff.1 hj).1
    simpa [strs] using this
  have e : (⟨g, o, none⟩ : Addr).add j = ⟨g, o + j, none⟩ := by
    unfold Addr.add
    split
    · rename_i h; subst h; rfl
    · rfl
  rw [e, h j hjl, ← hj]
  simp [strs, hjl]
/-- append of texts to a row of one's own -/
theorem wpList_append_texts {w : World} {ops : Array Oper} {rest : List Oper} {o : Oper} {a : Act} {Q : Exit → Act → World → Prop}
    (hg : o.guard = none) (s x : Operand) (hop : o.op = .call { callee := .builtin .append, args := #[s, x], argTypes := #[24, 24] })
    (base : Nat) (v : Value) (n : Nat) (xs : List Value) (hs : a.eval s = v) (hown : w.ownsRow base 9 1 v n xs)
    (ad : Option Addr) (c : Nat) (l : List ByteArray) (hx : a.eval x = .slice ad l.length c) (hl : TextsAt w ad l) (h63 : n + l.length ≤ 2000000) (hbase : base ≤ w.heap.size)
    (hK : ∀ v' w', w'.ownsRow base 9 1 v' (n + l.length) (xs ++ strs l) → w.grownBy w' v.ownBlock → wpList Tryz.prog ops Q rest (a.put o.dst v') w') :
    wpList Tryz.prog ops Q (o :: rest) a w := by
  obtain ⟨i0, hi, hz0, hz1, hz2⟩ := info_parts infoStr
  refine wpList_plain hg fun K' hK' => ?_
  cases ad with
  | none =>
    obtain rfl : l = [] := by
      rcases hl with h | ⟨g, o, h, _⟩
      · exact h
      · cases h
    have hr := run_append_none Tryz.prog w base 24 o.type 9 i0 1 Tryz.underlying24 hi v n xs hown c
    unfold Oper.wp execOp
    simp only [hop, resolve, invoke, builtin, Sem.run_bind, Sem.run_pure, Result.andThen_ok, List.map_toArray, List.map_cons, List.map_nil, hs, hx, List.length_nil, hr]
    exact hK' _ _ (hK v w (by simpa [strs] using hown) (World.grownBy.refl _ _))
  | some ad =>
    refine wp_append_own (P := Tryz.prog) w s x 24 hop base 9 i0 (.string ⟨#[]⟩) 1 16 Tryz.underlying24 hi hz0 hz1 hz2 rfl (by decide) v n xs hs hown ad l.length c (strs l) hx (by simp [strs]) ?_ (strs_one l) (by unfold maxLen; omega) (by omega) hbase ?_
    · rcases hl with h | ⟨g, o, h, hc⟩
      · subst h
        intro j u hj
        simp [strs] at hj
      · injection h with h
        subst h
        exact texts_news hc
    · intro v' w' h1 h2 _
      exact hK' _ _ (hK v' w' h1 h2)

/-- append of so many noughts to nothing -/
theorem wpList_append_zeros {w : World} {ops : Array Oper} {rest : List Oper} {o : Oper} {a : Act} {Q : Exit → Act → World → Prop}
    (hg : o.guard = none) (s x : Operand) (hop : o.op = .call { callee := .builtin .append, args := #[s, x], argTypes := #[24, 3] })
    (n : Nat) (hs : a.eval s = .slice none 0 0) (hx : a.eval x = .int .i64 n) (h0 : 0 < n) (hn : n ≤ 2000000)
    (hK : ∀ w' cap, n ≤ cap → w'.ownsRow w.heap.size 9 1 (.slice (some ⟨w.heap.size, 0, none⟩) 0 cap) 0 [] → Below w.heap.size w w' → wpList Tryz.prog ops Q rest (a.put o.dst (.slice (some ⟨w.heap.size, 0, none⟩) n cap)) w') :
    wpList Tryz.prog ops Q (o :: rest) a w := by
  obtain ⟨i0, hi, hz0, hz1, hz2⟩ := info_parts infoStr
  refine wpList_plain hg fun K' hK' => ?_
  have hr := Lib.run_append_nil_zeros (P := Tryz.prog) w 24 3 o.type 9 i0 (.string ⟨#[]⟩) .i64 .i64 Tryz.underlying24 Tryz.underlying3 hi hz0 n h0 (by omega) (by omega) (by rw [hz2]; omega)
  unfold Oper.wp execOp
  simp only [hop, resolve, invoke, builtin, Sem.run_bind, Sem.run_pure, Result.andThen_ok, List.map_toArray, List.map_cons, List.map_nil, hs, hx, hr]
  have hge := grownCap_ge w n 0 9
  have hle := grownCap_le_maxLen w n 0 9 (by unfold maxLen; omega)
  generalize grownCap w n 0 9 = cap at *
  refine hK' _ _ (hK _ cap hge ?_ ((Below.refl _ _).drew.alloc (Nat.le_refl _) _))
  have := World.ownsRow_made (base := w.heap.size) (e := 9) (size := 1) w.drew (Builtin.zeroCells (Value.string ⟨#[]⟩).cells n ++ Builtin.zeroCells (Value.string ⟨#[]⟩).cells (cap - n)) cap (Nat.le_refl _) hle (by
    rw [Array.size_append, size_zeroCells, size_zeroCells]
    have : (Value.string ⟨#[]⟩).cells.size = 1 := rfl
    rw [this]
    omega)
  exact this

set_option maxRecDepth 100000 in
set_option maxHeartbeats 1000000 in
theorem grow_any (n : Nat) (w : World) (h0 : 0 < n) (hn : n ≤ 2000000) : Calls Tryz.prog 156 #[.slice none 0 0, .int .i64 n] w fun e w' => ∃ cap, e = .returned (.slice (some ⟨w.heap.size, 0, none⟩) 0 cap) ∧ w'.ownsRow w.heap.size 9 1 (.slice (some ⟨w.heap.size, 0, none⟩) 0 cap) 0 [] ∧ Below w.heap.size w w' := by
  have h1 : ¬ ((n : Nat) : Int) < 0 := by omega
  have h2 : (0 : Int) < ((n : Nat) : Int) := by omega
  go_enter Tryz.func156, Tryz.ntmps156
  go_wp2_with (at_builtin; refine wpList_append_zeros rfl _ _ rfl n rfl rfl h0 hn ?_)
  intro w' cap hcap hown hb
  have hc0 : (0 : Int) ≤ ((cap : Nat) : Int) := by omega
  go_wp2_with fail
  go_ret
  exact ⟨cap, rfl, hown, hb⟩

set_option maxRecDepth 100000 in
set_option maxHeartbeats 2000000 in
theorem concat_any (g : Nat) (a1 a2 : Option Addr) (c1 c2 : Nat) (l1 l2 : List ByteArray) (w : World) (h0 : w.cell? ⟨g, 0, none⟩ = some (.slice a1 l1.length c1)) (h1 : w.cell? ⟨g, 1, none⟩ = some (.slice a2 l2.length c2))
    (hl1 : TextsAt w a1 l1) (hl2 : TextsAt w a2 l2) (hpos : 0 < l1.length + l2.length) (hn : l1.length + l2.length ≤ 2000000) :
    Calls Tryz.prog 94 #[.slice (some ⟨g, 0, none⟩) 2 2] w fun e w' => ∃ v, e = .returned v ∧ w'.ownsRow w.heap.size 9 1 v (l1 ++ l2).length (strs (l1 ++ l2)) ∧ Below w.heap.size w w' := by
  have hgl : g < w.heap.size := World.block_lt_of_cell? _ _ h0
  have H1 := hide hl1
  have H2 := hide hl2
  clear hl1 hl2
  have HG : Hid (Calls Tryz.prog 156 #[.slice none 0 0, .int .i64 (((l1.length : Nat) : Int) + ((l2.length : Nat) : Int))] w fun e w' => ∃ cap, e = .returned (.slice (some ⟨w.heap.size, 0, none⟩) 0 cap) ∧ w'.ownsRow w.heap.size 9 1 (.slice (some ⟨w.heap.size, 0, none⟩) 0 cap) 0 [] ∧ Below w.heap.size w w') := by
    have hh := grow_any (l1.length + l2.length) w hpos hn
    rw [Int.natCast_add] at hh
    exact hh
  have n1 : ¬ ((l1.length : Nat) : Int) < 0 := by omega
  have n2 : ¬ ((l1.length : Nat) : Int) + ((l2.length : Nat) : Int) < 0 := by omega
  go_enter Tryz.func94, Tryz.ntmps94
  go_wp2_with fail
  refine wp_loop_rounds 3 ?_
  rw [rounds_succ]
  go_wp2_with fail
  rw [rounds_succ]
  go_wp2_with fail
  rw [rounds_succ]
  go_wp2_with fail
  refine HG.out.mono ?_
  rintro e w1 ⟨cap, rfl, hown1, hb1⟩
  have e0 : w1.cell? ⟨g, 0, none⟩ = some (.slice a1 l1.length c1) := (hb1.cell (p := ⟨g, 0, none⟩) hgl).trans h0
  have e1 : w1.cell? ⟨g, 1, none⟩ = some (.slice a2 l2.length c2) := (hb1.cell (p := ⟨g, 1, none⟩) hgl).trans h1
  have hz1 := hb1.size
  go_wp2_with fail
  refine wp_loop_rounds 3 ?_
  rw [rounds_succ]
  go_wp2_with (at_builtin; refine wpList_append_texts rfl _ _ rfl w.heap.size _ 0 [] rfl hown1 a1 c1 l1 rfl (H1.out.below hb1) (by omega) hz1 ?_)
  intro v2 w2 hown2 hg2
  have hb2 : Below w.heap.size w w2 := hb1.grown hg2 hz1 (fun j hj => (hown1.lt j hj).1)
  have hz2 := hb2.size
  have k0 : w2.cell? ⟨g, 0, none⟩ = some (.slice a1 l1.length c1) := (hb2.cell (p := ⟨g, 0, none⟩) hgl).trans h0
  have k1 : w2.cell? ⟨g, 1, none⟩ = some (.slice a2 l2.length c2) := (hb2.cell (p := ⟨g, 1, none⟩) hgl).trans h1
  go_wp2_with fail
  rw [rounds_succ]
  go_wp2_with (at_builtin; refine wpList_append_texts rfl _ _ rfl w.heap.size _ _ _ rfl hown2 a2 c2 l2 rfl (H2.out.below hb2) (by omega) hz2 ?_)
  intro v3 w3 hown3 hg3
  have hb3 : Below w.heap.size w w3 := hb2.grown hg3 hz2 (fun j hj => (hown2.lt j hj).1)
  go_wp2_with fail
  rw [rounds_succ]
  go_wp2_with fail
  go_ret
  refine ⟨v3, rfl, ?_, hb3⟩
  simpa [strs] using hown3
end Go.Proofs.YtcidoodaiimhfaaGreat

/- Library contracts, laid at this program. -/
namespace Go.Proofs
open Go.Shelf
def Tryz.laysNm217_ren : Go.Shelf.Ren := ⟨fun | 17 => 154 | n => n, fun | 24 => 24 | 9 => 9 | 3 => 3 | 4 => 4 | 0 => 0 | n => n, fun | n => n⟩
theorem Tryz.laysNm217 : Go.Proofs.Lays2.n17 Tryz.prog Tryz.laysNm217_ren := {
  mixed := by kernel_rfl
  f17 := Tryz.func154.trans (congrArg some (by kernel_rfl))
  t0 := Tryz.underlying0
  a0 := Tryz.isAgg0
  z0 := Tryz.sizeOf0
  v0 := Tryz.zeroValue0
  t3 := Tryz.underlying3
  a3 := Tryz.isAgg3
  z3 := Tryz.sizeOf3
  v3 := Tryz.zeroValue3
  t4 := Tryz.underlying4
  a4 := Tryz.isAgg4
  z4 := Tryz.sizeOf4
  v4 := Tryz.zeroValue4
  t9 := Tryz.underlying9
  a9 := Tryz.isAgg9
  z9 := Tryz.sizeOf9
  v9 := Tryz.zeroValue9
  t24 := Tryz.underlying24
  a24 := Tryz.isAgg24
  z24 := Tryz.sizeOf24
  v24 := Tryz.zeroValue24 }
def Tryz.laysNm216_ren : Go.Shelf.Ren := ⟨fun | 16 => 99 | n => n, fun | 24 => 24 | 9 => 9 | 4 => 4 | n => n, fun | n => n⟩
theorem Tryz.laysNm216 : Go.Proofs.Lays2.n16 Tryz.prog Tryz.laysNm216_ren := {
  mixed := by kernel_rfl
  f16 := Tryz.func99.trans (congrArg some (by kernel_rfl))
  t4 := Tryz.underlying4
  a4 := Tryz.isAgg4
  z4 := Tryz.sizeOf4
  v4 := Tryz.zeroValue4
  t9 := Tryz.underlying9
  a9 := Tryz.isAgg9
  z9 := Tryz.sizeOf9
  v9 := Tryz.zeroValue9
  t24 := Tryz.underlying24
  a24 := Tryz.isAgg24
  z24 := Tryz.sizeOf24
  v24 := Tryz.zeroValue24
  i9 := by kernel_rfl }
open Go.RowKit Go.Lib in
theorem Tryz.slices_Clone_string (b off n c : Nat) (zs : List ByteArray) (w : World) (hz : n ≤ zs.length) (hbig : n * 16 ≤ 140737488355328) (hc : ∀ j, j < zs.length → w.cell? ⟨b, off + j, none⟩ = some (.string (zs.getD j ByteArray.empty))) :
    Calls Tryz.prog 99 #[.slice (some ⟨b, off, none⟩) n c] w fun e w' => ∃ v', e = .returned v' ∧ w'.ownsRow w.heap.size 9 1 v' n ((zs.take n).map (Value.string)) ∧ v' ≠ .slice none 0 0 ∧ Below w.heap.size w w' := Any.slices_Clone_string Tryz.laysNm216 b off n c zs w hz hbig hc
open Go.RowKit Go.Lib in
theorem Tryz.slices_Clone_string_nil (n c : Nat) (w : World) :
    Calls Tryz.prog 99 #[.slice none n c] w fun e w' => e = .returned (.slice none 0 0) ∧ w' = w := Any.slices_Clone_string_nil Tryz.laysNm216 n c w
open Go.RowKit Go.Lib in
theorem Tryz.slices_Clone_string_zero (a : Addr) (c : Nat) (w : World) :
    Calls Tryz.prog 99 #[.slice (some a) 0 c] w fun e w' => ∃ v', e = .returned v' ∧ w'.ownsRow w.heap.size 9 1 v' 0 [] ∧ v' ≠ .slice none 0 0 ∧ Below w.heap.size w w' := Any.slices_Clone_string_zero Tryz.laysNm216 a c w
open Go.RowKit Go.Lib Go.Sort in
theorem Tryz.slices_Reverse_string_cells (b off n c : Nat) (Sx : Nat → ByteArray) (w : World) (hbig : n ≤ 9223372036854775807) (hc : ∀ i, i < n → w.cell? ⟨b, off + i, none⟩ = some (.string (Sx i))) (hf : ∀ j, j < n → w.frozen? ⟨b, off + j, none⟩ = false) :
    Calls Tryz.prog 154 #[.slice (some ⟨b, off, none⟩) n c] w fun e w' => e = .returned (.tuple #[]) ∧ ∃ q, w' = (w.drewN q).setCells b off ((Lib.strsOf Sx n).reverse.map encStr) := Any.slices_Reverse_string_cells Tryz.laysNm217 b off n c Sx w hbig hc hf
end Go.Proofs

/- WALK of together. -/
namespace Go.Proofs.YtcidoodaiimhfaaGreat
open Go.RowKit Go.Lib Go.Sort

theorem below_setCells {B : Nat} {a : World} (b : Nat) (hb : B ≤ b) : ∀ (vs : List Value) (o : Nat) (w : World), Below B a w → Below B a (w.setCells b o vs)
  | [], _, _, h => h
  | v :: vs, o, w, h => below_setCells b hb vs (o + 1) (w.setCell ⟨b, o, none⟩ v) (h.setCell (p := ⟨b, o, none⟩) hb v)
theorem rev_list (l : List ByteArray) : (Lib.strsOf (fun i => l.getD i ByteArray.empty) l.length).reverse.map encStr = strs l.reverse := by
  have e : Lib.strsOf (fun i => l.getD i ByteArray.empty) l.length = l.map (fun t => t.data.toList) := by
    unfold Lib.strsOf
    apply List.ext_getElem
    · simp
    · intro i h1 h2
      simp at h1 h2
      simp [h1]
  rw [e, ← List.map_reverse, List.map_map, strs]
  congr 1
/-- the clone, turned round -/
theorem turned_any (a : Option Addr) (c : Nat) (l : List ByteArray) (w : World) (hl : TextsAt w a l) (hne : l ≠ []) (hn : l.length ≤ 1000) :
    Calls Tryz.prog 99 #[.slice a l.length c] w fun e w' => ∃ g cap, e = .returned (.slice (some ⟨g, 0, none⟩) l.length cap) ∧ w.heap.size ≤ g ∧ Below w.heap.size w w' ∧
      ∀ W, Below w'.heap.size w' W → Calls Tryz.prog 154 #[.slice (some ⟨g, 0, none⟩) l.length cap] W fun e w'' => e = .returned (.tuple #[]) ∧ TextsAt w'' (some ⟨g, 0, none⟩) l.reverse ∧ Below w.heap.size W w'' := by
  obtain ⟨g0, o0, rfl, hc⟩ : ∃ g o, a = some ⟨g, o, none⟩ ∧ ∀ i (h : i < l.length), w.cell? ⟨g, o + i, none⟩ = some (.string l[i]) := by
    rcases hl with h | h
    · exact absurd h hne
    · exact h
  refine (Tryz.slices_Clone_string g0 o0 l.length c l w (Nat.le_refl _) (by omega) (fun j hj => by rw [hc j hj]; simp [hj])).mono ?_
  rintro e w' ⟨v', rfl, hown, hnn, hb⟩
  rw [List.take_length] at hown
  rcases hown.2 with ⟨hv, _⟩ | ⟨g, cap, cur, rfl, hbg, hgg, rest⟩
  · exact absurd hv hnn
  · refine ⟨g, cap, rfl, hbg, hb, fun W hW => ?_⟩
    have hgl : g < w'.heap.size := (hown.lt g rfl).2
    have hcs : ∀ i, i < l.length → W.cell? ⟨g, 0 + i, none⟩ = some (.string (l.getD i ByteArray.empty)) := fun i hi => by
      have h1 := (hW.cell (p := ⟨g, i, none⟩) hgl).trans (hown.cellAt i (by omega))
      rw [Nat.zero_add, h1]
      simp [hi]
    refine (Tryz.slices_Reverse_string_cells g 0 l.length cap (fun i => l.getD i ByteArray.empty) W (by omega) hcs (fun j hj => by rw [Nat.zero_add]; exact (hW.frozen (p := ⟨g, j, none⟩) hgl).trans (hown.frozenAt j))).mono ?_
    rintro e w'' ⟨rfl, q, rfl⟩
    refine ⟨rfl, ?_, ?_⟩
    · rw [rev_list]
      refine .inr ⟨g, 0, rfl, fun i hi => ?_⟩
      have hl2 : (strs l.reverse).length = l.length := by simp [strs]
      have := World.cell?_setCells_in g (strs l.reverse) 0 (W.drewN q) (fun j hj => by
        have h3 := hcs j (by omega)
        show (W.cell? ⟨g, 0 + j, none⟩).isSome = true
        rw [h3]
        rfl) i (by simp at hi; omega)
      rw [this]
      simp [strs]
    · have hd : Below w.heap.size W (W.drewN q) := ⟨rfl, rfl, rfl, Nat.le_refl _, fun _ _ => rfl⟩
      exact below_setCells g hbg _ 0 _ hd

theorem own_low {w : World} {b1 b2 e s : Nat} {v : Value} {n : Nat} {xs : List Value} (h : w.ownsRow b1 e s v n xs) (hb : b2 ≤ b1) : w.ownsRow b2 e s v n xs := by
  refine ⟨h.1, ?_⟩
  rcases h.2 with hn | ⟨g, cap, cur, hv, hbg, rest⟩
  · exact .inl hn
  · exact .inr ⟨g, cap, cur, hv, Nat.le_trans hb hbg, rest⟩
def pushL (there : List ByteArray) (left : Bool) (l : List ByteArray) : List ByteArray := if left then l.reverse ++ there else there ++ l
set_option maxRecDepth 100000 in
set_option maxHeartbeats 1000000 in
theorem together_any (a1 a2 : Option Addr) (c1 c2 : Nat) (there l : List ByteArray) (left : Bool) (w : World) (h1 : TextsAt w a1 there) (h2 : TextsAt w a2 l) (hne : l ≠ []) (hn : there.length + l.length ≤ 1000) :
    Calls Tryz.prog 88 #[.slice a1 there.length c1, .bool left, .slice a2 l.length c2] w fun e w' => ∃ v, e = .returned v ∧ w'.ownsRow w.heap.size 9 1 v (pushL there left l).length (strs (pushL there left l)) ∧ Below w.heap.size w w' := by
  have hlp : 0 < l.length := List.length_pos_iff.2 hne
  cases left with
  | false =>
    have H1 := hide h1
    have H2 := hide h2
    clear h1 h2
    go_enter Tryz.func88, Tryz.ntmps88
    go_wp2_with fail
    refine (concat_any w.heap.size a1 a2 c1 c2 there l _ (by simp [go_sem]) (by simp [go_sem]) (H1.out.below ((Below.refl _ _).alloc (Nat.le_refl _) _)) (H2.out.below ((Below.refl _ _).alloc (Nat.le_refl _) _)) (by omega) (by omega)).mono ?_
    rintro e w1 ⟨v, rfl, hown, hb⟩
    go_wp2_with fail
    go_ret
    refine ⟨v, rfl, ?_, ((Below.refl _ w).alloc (Nat.le_refl _) _).trans (hb.mono (by simp))⟩
    simp only [pushL, Bool.false_eq_true, if_false]
    exact own_low hown (by simp)
  | true =>
    have HT := hide (turned_any a2 c2 l w h2 hne (by omega))
    have H1 := hide h1
    clear h1 h2
    go_enter Tryz.func88, Tryz.ntmps88
    go_wp2_with fail
    refine HT.out.mono ?_
    rintro e w1 ⟨g, cap, rfl, hg, hb1, HR⟩
    have HRR := hide (HR w1 (Below.refl _ _))
    clear HR
    go_wp2_with fail
    refine HRR.out.mono ?_
    rintro e w2 ⟨rfl, ht2, hb2⟩
    have B2 : Below w.heap.size w w2 := hb1.trans hb2
    have HT2 := hide ht2
    clear ht2
    go_wp2_with fail
    have hz2 := B2.size
    refine (concat_any w2.heap.size (some ⟨g, 0, none⟩) a1 cap c1 l.reverse there _ (by simp [go_sem]) (by simp [go_sem]) (HT2.out.below ((Below.refl _ _).alloc (Nat.le_refl _) _)) (H1.out.below (B2.alloc B2.size _)) (by simp; omega) (by simp; omega)).mono ?_
    rintro e w3 ⟨v, rfl, hown, hb⟩
    go_wp2_with fail
    go_ret
    refine ⟨v, rfl, ?_, (B2.alloc B2.size _).trans (hb.mono (by simp; omega))⟩
    simp only [pushL, if_true]
    exact own_low hown (by simp; omega)
end Go.Proofs.YtcidoodaiimhfaaGreat

/- WALKS of the reference's small functions: between, IsInt. -/
namespace Go.Proofs.YtcidoodaiimhfaaGreat
open Go.RowKit

set_option maxRecDepth 100000 in
set_option maxHeartbeats 1000000 in
theorem between_any (n lo hi : Int) (w : World) :
    Calls Tryz.prog 64 #[.int .i64 n, .int .i64 lo, .int .i64 hi] w fun e w' => e = .returned (.bool (decide (lo ≤ n ∧ n ≤ hi))) ∧ w' = w := by
  by_cases h1 : lo ≤ n
  · by_cases h2 : n ≤ hi
    · rw [decide_eq_true (⟨h1, h2⟩ : lo ≤ n ∧ n ≤ hi)]
      go_enter Tryz.func64, Tryz.ntmps64
      go_wp2
      go_ret
      exact ⟨rfl, rfl⟩
    · rw [decide_eq_false (fun h : lo ≤ n ∧ n ≤ hi => h2 h.2)]
      go_enter Tryz.func64, Tryz.ntmps64
      go_wp2
      go_ret
      exact ⟨rfl, rfl⟩
  · rw [decide_eq_false (fun h : lo ≤ n ∧ n ≤ hi => h1 h.1)]
    go_enter Tryz.func64, Tryz.ntmps64
    go_wp2
    go_ret
    exact ⟨rfl, rfl⟩

set_option maxRecDepth 100000 in
set_option maxHeartbeats 1000000 in
theorem isInt_any (n : Int) (w : World) :
    Calls Tryz.prog 66 #[.int .i64 n] w fun e w' => e = .returned (.bool (decide (-999999999 ≤ n ∧ n ≤ 999999999))) ∧ w' = w := by
  go_enter Tryz.func66, Tryz.ntmps66
  go_wp2_with (go_at_call 64; refine (between_any _ _ _ _).mono ?_; rintro e w' ⟨rfl, rfl⟩)
  go_ret
  refine ⟨?_, rfl⟩
  rw [Bool.decide_and]
  rfl

theorem bt (lo n hi : Int) (w : World) (h : lo ≤ n) (h' : n ≤ hi) : Calls Tryz.prog 64 #[.int .i64 n, .int .i64 lo, .int .i64 hi] w fun e w' => e = .returned (.bool true) ∧ w' = w := by
  have := between_any n lo hi w
  rw [decide_eq_true (⟨h, h'⟩ : lo ≤ n ∧ n ≤ hi)] at this
  exact this
theorem bf (lo n hi : Int) (w : World) (h : n < lo ∨ hi < n) : Calls Tryz.prog 64 #[.int .i64 n, .int .i64 lo, .int .i64 hi] w fun e w' => e = .returned (.bool false) ∧ w' = w := by
  have := between_any n lo hi w
  rw [decide_eq_false (show ¬ (lo ≤ n ∧ n ≤ hi) by omega)] at this
  exact this
end Go.Proofs.YtcidoodaiimhfaaGreat

/- WALKS of the reference's order of texts and of scores. -/
namespace Go.Proofs.YtcidoodaiimhfaaGreat
open Go.RowKit

theorem below_drewN' {B : Nat} {a w : World} (h : Below B a w) (n : Nat) : Below B a (w.drewN n) := ⟨h.os, h.tape, h.output, h.size, h.block⟩
theorem drewN_add' (w : World) (a b : Nat) : (w.drewN a).drewN b = w.drewN (a + b) := by
  simp [World.drewN, Nat.add_assoc]
theorem get_data (s : ByteArray) (k : Nat) (h : k < s.size) : s.data.toList.drop k = s[k] :: s.data.toList.drop (k + 1) := by
  rw [List.drop_eq_getElem_cons (by rw [size_list]; exact h)]
  rfl

set_option maxRecDepth 100000 in
set_option maxHeartbeats 1000000 in
theorem textOrder_any (a b : ByteArray) (w : World) (ha : a.size ≤ maxLen) :
    Calls Tryz.prog 65 #[.string a, .string b] w fun e w' => e = .returned (.int .i64 (cmpT a b)) ∧ ∃ q, w' = w.drewN q := by
  unfold maxLen at ha
  go_enter Tryz.func65, Tryz.ntmps65
  go_wp2_with fail
  go_loopw [5] (fun i wr => ∃ k : Nat, k ≤ a.size ∧ k ≤ b.size ∧ i = .int .i64 k ∧ (∃ q, wr = w.drewN q) ∧ Hid (cmpT a b = Lib.compareBytes (a.data.toList.drop k) (b.data.toList.drop k))) (fun i _ => a.size - (intOf i).toNat)
  case atStart => exact ⟨0, Nat.zero_le _, Nat.zero_le _, rfl, ⟨0, rfl⟩, rfl⟩
  case round =>
    obtain ⟨k, hk, hkb, rfl, ⟨q0, rfl⟩, HC⟩ := hrel
    by_cases hlt : k < a.size
    · by_cases hltb : k < b.size
      · have HS : Hid (cmpT a b = if a[k] < b[k] then -1 else if b[k] < a[k] then 1 else Lib.compareBytes (a.data.toList.drop (k + 1)) (b.data.toList.drop (k + 1))) := by
          rw [Hid, HC.out, get_data a k hlt, get_data b k hltb, Lib.compareBytes]
        have hi1 : ((k : Nat) : Int) < ((a.size : Nat) : Int) := by omega
        have hi2 : ((k : Nat) : Int) < ((b.size : Nat) : Int) := by omega
        rcases Nat.lt_trichotomy a[k].toNat b[k].toNat with hc | hc | hc
        · have HR : Hid (cmpT a b = -1) := by rw [Hid, HS.out, if_pos (UInt8.lt_iff_toNat_lt.2 hc)]
          have hc' : ((a[k].toNat : Nat) : Int) < ((b[k].toNat : Nat) : Int) := by omega
          clear HS HC
          go_wp2_with fail
          go_quiet (fail)
          go_wp2_with fail
          go_ret
          rw [HR.out]
          exact ⟨rfl, _, by first | rfl | exact drewN_add' _ _ _ | (rw [drewN_add', drewN_add'])⟩
        · have HR : Hid (cmpT a b = Lib.compareBytes (a.data.toList.drop (k + 1)) (b.data.toList.drop (k + 1))) := by
            rw [Hid, HS.out, if_neg (by rw [UInt8.lt_iff_toNat_lt]; omega), if_neg (by rw [UInt8.lt_iff_toNat_lt]; omega)]
          have hc1 : decide (((a[k].toNat : Nat) : Int) < ((b[k].toNat : Nat) : Int)) = false := decide_eq_false (by omega)
          have hc2 : decide (((b[k].toNat : Nat) : Int) < ((a[k].toNat : Nat) : Int)) = false := decide_eq_false (by omega)
          have hc3 : ¬ ((a[k].toNat : Nat) : Int) < ((b[k].toNat : Nat) : Int) := by omega
          have hc4 : ¬ ((b[k].toNat : Nat) : Int) < ((a[k].toNat : Nat) : Int) := by omega
          clear HS HC hc
          go_wp2_with fail
          go_quiet (fail)
          go_wp2_with fail
          go_quiet (fail)
          go_wp2_with fail
          go_roundw
          case rel => exact ⟨k + 1, by omega, by omega, by go_num, ⟨_, rfl⟩, HR⟩
          case measure => simp [intOf]; omega
        · have HR : Hid (cmpT a b = 1) := by rw [Hid, HS.out, if_neg (by rw [UInt8.lt_iff_toNat_lt]; omega), if_pos (UInt8.lt_iff_toNat_lt.2 hc)]
          have hc1 : ¬ ((a[k].toNat : Nat) : Int) < ((b[k].toNat : Nat) : Int) := by omega
          have hc' : ((b[k].toNat : Nat) : Int) < ((a[k].toNat : Nat) : Int) := by omega
          clear HS HC
          go_wp2_with fail
          go_quiet (fail)
          go_wp2_with fail
          go_quiet (fail)
          go_wp2_with fail
          go_ret
          rw [HR.out]
          exact ⟨rfl, _, by first | rfl | exact drewN_add' _ _ _ | (rw [drewN_add', drewN_add'])⟩
      · have hkb' : k = b.size := by omega
        have HR : Hid (cmpT a b = 1) := by
          rw [Hid, HC.out, get_data a k hlt, List.drop_of_length_le (l := b.data.toList) (by rw [size_list]; omega), Lib.compareBytes]
        have h1 : ¬ ((k : Nat) : Int) < ((b.size : Nat) : Int) := by omega
        have h2 : ((b.size : Nat) : Int) < ((a.size : Nat) : Int) := by omega
        have h3 : ¬ ((a.size : Nat) : Int) < ((b.size : Nat) : Int) := by omega
        clear hkb' HC
        go_wp2_with fail
        go_ret
        rw [HR.out]
        exact ⟨rfl, q0, rfl⟩
    · have hka' : k = a.size := by omega
      rcases Nat.lt_or_eq_of_le (show a.size ≤ b.size by omega) with hl | hl
      · have HR : Hid (cmpT a b = -1) := by
          rw [Hid, HC.out, get_data b k (by omega), List.drop_of_length_le (l := a.data.toList) (by rw [size_list]; omega), Lib.compareBytes]
        have h1 : ¬ ((k : Nat) : Int) < ((a.size : Nat) : Int) := by omega
        have h2 : ((a.size : Nat) : Int) < ((b.size : Nat) : Int) := by omega
        clear hka' HC
        go_wp2_with fail
        go_ret
        rw [HR.out]
        exact ⟨rfl, q0, rfl⟩
      · have HR : Hid (cmpT a b = 0) := by
          rw [Hid, HC.out, List.drop_of_length_le (l := a.data.toList) (by rw [size_list]; omega), List.drop_of_length_le (l := b.data.toList) (by rw [size_list]; omega), Lib.compareBytes]
        have h1 : ¬ ((k : Nat) : Int) < ((a.size : Nat) : Int) := by omega
        have h2 : ¬ ((a.size : Nat) : Int) < ((b.size : Nat) : Int) := by omega
        have h3 : ¬ ((b.size : Nat) : Int) < ((a.size : Nat) : Int) := by omega
        clear hka' HC hl
        go_wp2_with fail
        go_ret
        rw [HR.out]
        exact ⟨rfl, q0, rfl⟩

theorem textOrder_below (a b : ByteArray) (w : World) (ha : a.size ≤ maxLen) :
    Calls Tryz.prog 65 #[.string a, .string b] w fun e w' => e = .returned (.int .i64 (cmpT a b)) ∧ Below w.heap.size w w' :=
  (textOrder_any a b w ha).mono fun _ _ ⟨h1, q, h2⟩ => ⟨h1, by subst h2; exact below_drewN' (Below.refl _ _) q⟩
theorem cmpS_less (a b : Int × ByteArray) : decide (cmpS a b < 0) = (decide (a.1 < b.1) || (decide (a.1 = b.1) && decide (cmpT a.2 b.2 < 0))) := by
  unfold cmpS
  by_cases h1 : a.1 < b.1
  · simp [h1]
  · by_cases h2 : b.1 < a.1
    · have : ¬ a.1 = b.1 := by omega
      simp [h1, h2, this]
    · have : a.1 = b.1 := by omega
      simp [this]
set_option maxRecDepth 100000 in
set_option maxHeartbeats 1000000 in
theorem scoreLess_any (x y : Int × ByteArray) (w : World) (hx : x.2.size ≤ maxLen) :
    Calls Tryz.prog 67 #[.agg #[.int .i64 x.1, .string x.2], .agg #[.int .i64 y.1, .string y.2]] w fun e w' => e = .returned (.bool (decide (cmpS x y < 0))) ∧ Below w.heap.size w w' := by
  rw [cmpS_less]
  obtain ⟨x1, x2⟩ := x
  obtain ⟨y1, y2⟩ := y
  simp only at *
  have HT : Hid (∀ W, Calls Tryz.prog 65 #[.string x2, .string y2] W fun e w' => e = .returned (.int .i64 (cmpT x2 y2)) ∧ Below W.heap.size W w') := fun W => textOrder_below _ _ W hx
  generalize cmpT x2 y2 = C at *
  by_cases h1 : x1 < y1
  · rw [decide_eq_true h1, Bool.true_or]
    go_enter Tryz.func67, Tryz.ntmps67
    go_wp2_with fail
    go_ret
    exact ⟨rfl, ((Below.refl _ w).alloc (Nat.le_refl _) _).alloc (by simp) _⟩
  · by_cases h2 : x1 = y1
    · subst h2
      rw [decide_eq_false h1, decide_eq_true (rfl : x1 = x1), Bool.false_or, Bool.true_and]
      go_enter Tryz.func67, Tryz.ntmps67
      go_wp2_with fail
      refine (HT.out _).mono ?_
      rintro e w1 ⟨rfl, hb1⟩
      have B1 : Below w.heap.size w w1 := (((Below.refl _ w).alloc (Nat.le_refl _) _).alloc (by simp) _).trans (hb1.mono (by simp; omega))
      go_wp2_with fail
      go_ret
      exact ⟨rfl, B1⟩
    · rw [decide_eq_false h1, decide_eq_false h2, Bool.false_or, Bool.false_and]
      have h2' : (x1 == y1) = false := by rw [beq_eq_false_iff_ne]; exact h2
      go_enter Tryz.func67, Tryz.ntmps67
      go_wp2_with fail
      go_ret
      exact ⟨rfl, ((Below.refl _ w).alloc (Nat.le_refl _) _).alloc (by simp) _⟩
end Go.Proofs.YtcidoodaiimhfaaGreat

/- WALKS of the reference's check of an item: kinds, what is other, texts. -/
namespace Go.Proofs.YtcidoodaiimhfaaGreat
open Go.RowKit

theorem between15 (k : Int) (w : World) (h : 1 ≤ k ∧ k ≤ 5) : Calls Tryz.prog 64 #[.int .i64 k, .int .i64 1, .int .i64 5] w fun e w' => e = .returned (.bool true) ∧ w' = w := by
  have hh := between_any k 1 5 w
  rw [decide_eq_true h] at hh
  exact hh
set_option maxRecDepth 100000 in
set_option maxHeartbeats 4000000 in
theorem refC_bad (k : Int) (t : ByteArray) (a1 a2 a3 : Option Addr) (c1 c2 c3 : Nat) (n1 n2 n3 : Nat) (w : World) (h : k < 1 ∨ 5 < k) :
    Calls Tryz.prog 13 #[.agg #[.int .i64 k, .string t, .slice a1 n1 c1, .slice a2 n2 c2, .slice a3 n3 c3]] w fun e w' => e = .returned (.int .i64 7) ∧ Below w.heap.size w w' := by
  have HB : Hid (∀ W, Calls Tryz.prog 64 #[.int .i64 k, .int .i64 1, .int .i64 5] W fun e w' => e = .returned (.bool false) ∧ w' = W) := fun W => by
    have hh := between_any k 1 5 W
    rw [decide_eq_false (by omega)] at hh
    exact hh
  go_enter Tryz.func13, Tryz.ntmps13
  go_wp2_with fail
  refine (HB.out _).mono ?_
  rintro e w1 ⟨rfl, rfl⟩
  go_wp2_with fail
  go_ret
  exact ⟨rfl, (Below.refl _ _).alloc (Nat.le_refl _) _⟩
set_option maxRecDepth 100000 in
set_option maxHeartbeats 4000000 in
theorem refC_o1l (t : ByteArray) (n1 : Nat) (n2 : Nat) (n3 : Nat) (a1 a2 a3 : Option Addr) (c1 c2 c3 : Nat) (w : World) (h : 0 < n1) :
    Calls Tryz.prog 13 #[.agg #[.int .i64 1, .string t, .slice a1 n1 c1, .slice a2 n2 c2, .slice a3 n3 c3]] w fun e w' => e = .returned (.int .i64 1) ∧ Below w.heap.size w w' := by
  have h1 : (0 : Int) < ((n1 : Nat) : Int) := by omega
  have h2 : ¬ n1 = 0 := by omega
  go_enter Tryz.func13, Tryz.ntmps13
  go_wp2_with fail
  refine (between15 _ _ (by decide)).mono ?_
  rintro e w1 ⟨rfl, rfl⟩
  go_wp2_with fail
  go_ret
  exact ⟨rfl, (Below.refl _ _).alloc (Nat.le_refl _) _⟩
set_option maxRecDepth 100000 in
set_option maxHeartbeats 4000000 in
theorem refC_o1p (t : ByteArray) (n2 : Nat) (n3 : Nat) (a1 a2 a3 : Option Addr) (c1 c2 c3 : Nat) (w : World) (h : 0 < n2) :
    Calls Tryz.prog 13 #[.agg #[.int .i64 1, .string t, .slice a1 0 c1, .slice a2 n2 c2, .slice a3 n3 c3]] w fun e w' => e = .returned (.int .i64 1) ∧ Below w.heap.size w w' := by
  have h1 : (0 : Int) < ((n2 : Nat) : Int) := by omega
  have h2 : ¬ n2 = 0 := by omega
  go_enter Tryz.func13, Tryz.ntmps13
  go_wp2_with fail
  refine (between15 _ _ (by decide)).mono ?_
  rintro e w1 ⟨rfl, rfl⟩
  go_wp2_with fail
  go_ret
  exact ⟨rfl, (Below.refl _ _).alloc (Nat.le_refl _) _⟩
set_option maxRecDepth 100000 in
set_option maxHeartbeats 4000000 in
theorem refC_o1s (t : ByteArray) (n3 : Nat) (a1 a2 a3 : Option Addr) (c1 c2 c3 : Nat) (w : World) (h : 0 < n3) :
    Calls Tryz.prog 13 #[.agg #[.int .i64 1, .string t, .slice a1 0 c1, .slice a2 0 c2, .slice a3 n3 c3]] w fun e w' => e = .returned (.int .i64 1) ∧ Below w.heap.size w w' := by
  have h1 : (0 : Int) < ((n3 : Nat) : Int) := by omega
  have h2 : ¬ n3 = 0 := by omega
  go_enter Tryz.func13, Tryz.ntmps13
  go_wp2_with fail
  refine (between15 _ _ (by decide)).mono ?_
  rintro e w1 ⟨rfl, rfl⟩
  go_wp2_with fail
  go_ret
  exact ⟨rfl, (Below.refl _ _).alloc (Nat.le_refl _) _⟩
set_option maxRecDepth 100000 in
set_option maxHeartbeats 4000000 in
theorem refC_o2t (t : ByteArray) (n1 : Nat) (n2 : Nat) (n3 : Nat) (a1 a2 a3 : Option Addr) (c1 c2 c3 : Nat) (w : World) (h : ¬ t.toList = []) :
    Calls Tryz.prog 13 #[.agg #[.int .i64 2, .string t, .slice a1 n1 c1, .slice a2 n2 c2, .slice a3 n3 c3]] w fun e w' => e = .returned (.int .i64 1) ∧ Below w.heap.size w w' := by
  have h1 : (t.toList == []) = false := by rw [beq_eq_false_iff_ne]; exact h
  go_enter Tryz.func13, Tryz.ntmps13
  go_wp2_with fail
  refine (between15 _ _ (by decide)).mono ?_
  rintro e w1 ⟨rfl, rfl⟩
  go_wp2_with fail
  go_ret
  exact ⟨rfl, (Below.refl _ _).alloc (Nat.le_refl _) _⟩
set_option maxRecDepth 100000 in
set_option maxHeartbeats 4000000 in
theorem refC_o2p (n1 : Nat) (n2 : Nat) (n3 : Nat) (a1 a2 a3 : Option Addr) (c1 c2 c3 : Nat) (w : World) (h : 0 < n2) :
    Calls Tryz.prog 13 #[.agg #[.int .i64 2, .string ⟨#[]⟩, .slice a1 n1 c1, .slice a2 n2 c2, .slice a3 n3 c3]] w fun e w' => e = .returned (.int .i64 1) ∧ Below w.heap.size w w' := by
  have h1 : (0 : Int) < ((n2 : Nat) : Int) := by omega
  have h2 : ¬ n2 = 0 := by omega
  go_enter Tryz.func13, Tryz.ntmps13
  go_wp2_with fail
  refine (between15 _ _ (by decide)).mono ?_
  rintro e w1 ⟨rfl, rfl⟩
  go_wp2_with fail
  go_ret
  exact ⟨rfl, (Below.refl _ _).alloc (Nat.le_refl _) _⟩
set_option maxRecDepth 100000 in
set_option maxHeartbeats 4000000 in
theorem refC_o2s (n1 : Nat) (n3 : Nat) (a1 a2 a3 : Option Addr) (c1 c2 c3 : Nat) (w : World) (h : 0 < n3) :
    Calls Tryz.prog 13 #[.agg #[.int .i64 2, .string ⟨#[]⟩, .slice a1 n1 c1, .slice a2 0 c2, .slice a3 n3 c3]] w fun e w' => e = .returned (.int .i64 1) ∧ Below w.heap.size w w' := by
  have h1 : (0 : Int) < ((n3 : Nat) : Int) := by omega
  have h2 : ¬ n3 = 0 := by omega
  go_enter Tryz.func13, Tryz.ntmps13
  go_wp2_with fail
  refine (between15 _ _ (by decide)).mono ?_
  rintro e w1 ⟨rfl, rfl⟩
  go_wp2_with fail
  go_ret
  exact ⟨rfl, (Below.refl _ _).alloc (Nat.le_refl _) _⟩
set_option maxRecDepth 100000 in
set_option maxHeartbeats 4000000 in
theorem refC_o3t (t : ByteArray) (n1 : Nat) (n2 : Nat) (n3 : Nat) (a1 a2 a3 : Option Addr) (c1 c2 c3 : Nat) (w : World) (h : ¬ t.toList = []) :
    Calls Tryz.prog 13 #[.agg #[.int .i64 3, .string t, .slice a1 n1 c1, .slice a2 n2 c2, .slice a3 n3 c3]] w fun e w' => e = .returned (.int .i64 1) ∧ Below w.heap.size w w' := by
  have h1 : (t.toList == []) = false := by rw [beq_eq_false_iff_ne]; exact h
  go_enter Tryz.func13, Tryz.ntmps13
  go_wp2_with fail
  refine (between15 _ _ (by decide)).mono ?_
  rintro e w1 ⟨rfl, rfl⟩
  go_wp2_with fail
  go_ret
  exact ⟨rfl, (Below.refl _ _).alloc (Nat.le_refl _) _⟩
set_option maxRecDepth 100000 in
set_option maxHeartbeats 4000000 in
theorem refC_o3p (n1 : Nat) (n2 : Nat) (n3 : Nat) (a1 a2 a3 : Option Addr) (c1 c2 c3 : Nat) (w : World) (h : 0 < n2) :
    Calls Tryz.prog 13 #[.agg #[.int .i64 3, .string ⟨#[]⟩, .slice a1 n1 c1, .slice a2 n2 c2, .slice a3 n3 c3]] w fun e w' => e = .returned (.int .i64 1) ∧ Below w.heap.size w w' := by
  have h1 : (0 : Int) < ((n2 : Nat) : Int) := by omega
  have h2 : ¬ n2 = 0 := by omega
  go_enter Tryz.func13, Tryz.ntmps13
  go_wp2_with fail
  refine (between15 _ _ (by decide)).mono ?_
  rintro e w1 ⟨rfl, rfl⟩
  go_wp2_with fail
  go_ret
  exact ⟨rfl, (Below.refl _ _).alloc (Nat.le_refl _) _⟩
set_option maxRecDepth 100000 in
set_option maxHeartbeats 4000000 in
theorem refC_o3s (n1 : Nat) (n3 : Nat) (a1 a2 a3 : Option Addr) (c1 c2 c3 : Nat) (w : World) (h : 0 < n3) :
    Calls Tryz.prog 13 #[.agg #[.int .i64 3, .string ⟨#[]⟩, .slice a1 n1 c1, .slice a2 0 c2, .slice a3 n3 c3]] w fun e w' => e = .returned (.int .i64 1) ∧ Below w.heap.size w w' := by
  have h1 : (0 : Int) < ((n3 : Nat) : Int) := by omega
  have h2 : ¬ n3 = 0 := by omega
  go_enter Tryz.func13, Tryz.ntmps13
  go_wp2_with fail
  refine (between15 _ _ (by decide)).mono ?_
  rintro e w1 ⟨rfl, rfl⟩
  go_wp2_with fail
  go_ret
  exact ⟨rfl, (Below.refl _ _).alloc (Nat.le_refl _) _⟩
set_option maxRecDepth 100000 in
set_option maxHeartbeats 4000000 in
theorem refC_o4t (t : ByteArray) (n1 : Nat) (n2 : Nat) (n3 : Nat) (a1 a2 a3 : Option Addr) (c1 c2 c3 : Nat) (w : World) (h : ¬ t.toList = []) :
    Calls Tryz.prog 13 #[.agg #[.int .i64 4, .string t, .slice a1 n1 c1, .slice a2 n2 c2, .slice a3 n3 c3]] w fun e w' => e = .returned (.int .i64 1) ∧ Below w.heap.size w w' := by
  have h1 : (t.toList == []) = false := by rw [beq_eq_false_iff_ne]; exact h
  go_enter Tryz.func13, Tryz.ntmps13
  go_wp2_with fail
  refine (between15 _ _ (by decide)).mono ?_
  rintro e w1 ⟨rfl, rfl⟩
  go_wp2_with fail
  go_ret
  exact ⟨rfl, (Below.refl _ _).alloc (Nat.le_refl _) _⟩
set_option maxRecDepth 100000 in
set_option maxHeartbeats 4000000 in
theorem refC_o4l (n1 : Nat) (n2 : Nat) (n3 : Nat) (a1 a2 a3 : Option Addr) (c1 c2 c3 : Nat) (w : World) (h : 0 < n1) :
    Calls Tryz.prog 13 #[.agg #[.int .i64 4, .string ⟨#[]⟩, .slice a1 n1 c1, .slice a2 n2 c2, .slice a3 n3 c3]] w fun e w' => e = .returned (.int .i64 1) ∧ Below w.heap.size w w' := by
  have h1 : (0 : Int) < ((n1 : Nat) : Int) := by omega
  have h2 : ¬ n1 = 0 := by omega
  go_enter Tryz.func13, Tryz.ntmps13
  go_wp2_with fail
  refine (between15 _ _ (by decide)).mono ?_
  rintro e w1 ⟨rfl, rfl⟩
  go_wp2_with fail
  go_ret
  exact ⟨rfl, (Below.refl _ _).alloc (Nat.le_refl _) _⟩
set_option maxRecDepth 100000 in
set_option maxHeartbeats 4000000 in
theorem refC_o4s (n2 : Nat) (n3 : Nat) (a1 a2 a3 : Option Addr) (c1 c2 c3 : Nat) (w : World) (h : 0 < n3) :
    Calls Tryz.prog 13 #[.agg #[.int .i64 4, .string ⟨#[]⟩, .slice a1 0 c1, .slice a2 n2 c2, .slice a3 n3 c3]] w fun e w' => e = .returned (.int .i64 1) ∧ Below w.heap.size w w' := by
  have h1 : (0 : Int) < ((n3 : Nat) : Int) := by omega
  have h2 : ¬ n3 = 0 := by omega
  go_enter Tryz.func13, Tryz.ntmps13
  go_wp2_with fail
  refine (between15 _ _ (by decide)).mono ?_
  rintro e w1 ⟨rfl, rfl⟩
  go_wp2_with fail
  go_ret
  exact ⟨rfl, (Below.refl _ _).alloc (Nat.le_refl _) _⟩
set_option maxRecDepth 100000 in
set_option maxHeartbeats 4000000 in
theorem refC_o5t (t : ByteArray) (n1 : Nat) (n2 : Nat) (n3 : Nat) (a1 a2 a3 : Option Addr) (c1 c2 c3 : Nat) (w : World) (h : ¬ t.toList = []) :
    Calls Tryz.prog 13 #[.agg #[.int .i64 5, .string t, .slice a1 n1 c1, .slice a2 n2 c2, .slice a3 n3 c3]] w fun e w' => e = .returned (.int .i64 1) ∧ Below w.heap.size w w' := by
  have h1 : (t.toList == []) = false := by rw [beq_eq_false_iff_ne]; exact h
  go_enter Tryz.func13, Tryz.ntmps13
  go_wp2_with fail
  refine (between15 _ _ (by decide)).mono ?_
  rintro e w1 ⟨rfl, rfl⟩
  go_wp2_with fail
  go_ret
  exact ⟨rfl, (Below.refl _ _).alloc (Nat.le_refl _) _⟩
set_option maxRecDepth 100000 in
set_option maxHeartbeats 4000000 in
theorem refC_o5l (n1 : Nat) (n2 : Nat) (n3 : Nat) (a1 a2 a3 : Option Addr) (c1 c2 c3 : Nat) (w : World) (h : 0 < n1) :
    Calls Tryz.prog 13 #[.agg #[.int .i64 5, .string ⟨#[]⟩, .slice a1 n1 c1, .slice a2 n2 c2, .slice a3 n3 c3]] w fun e w' => e = .returned (.int .i64 1) ∧ Below w.heap.size w w' := by
  have h1 : (0 : Int) < ((n1 : Nat) : Int) := by omega
  have h2 : ¬ n1 = 0 := by omega
  go_enter Tryz.func13, Tryz.ntmps13
  go_wp2_with fail
  refine (between15 _ _ (by decide)).mono ?_
  rintro e w1 ⟨rfl, rfl⟩
  go_wp2_with fail
  go_ret
  exact ⟨rfl, (Below.refl _ _).alloc (Nat.le_refl _) _⟩
set_option maxRecDepth 100000 in
set_option maxHeartbeats 4000000 in
theorem refC_o5p (n2 : Nat) (n3 : Nat) (a1 a2 a3 : Option Addr) (c1 c2 c3 : Nat) (w : World) (h : 0 < n2) :
    Calls Tryz.prog 13 #[.agg #[.int .i64 5, .string ⟨#[]⟩, .slice a1 0 c1, .slice a2 n2 c2, .slice a3 n3 c3]] w fun e w' => e = .returned (.int .i64 1) ∧ Below w.heap.size w w' := by
  have h1 : (0 : Int) < ((n2 : Nat) : Int) := by omega
  have h2 : ¬ n2 = 0 := by omega
  go_enter Tryz.func13, Tryz.ntmps13
  go_wp2_with fail
  refine (between15 _ _ (by decide)).mono ?_
  rintro e w1 ⟨rfl, rfl⟩
  go_wp2_with fail
  go_ret
  exact ⟨rfl, (Below.refl _ _).alloc (Nat.le_refl _) _⟩
set_option maxRecDepth 100000 in
set_option maxHeartbeats 4000000 in
theorem refC_1 (t : ByteArray) (a1 a2 a3 : Option Addr) (c1 c2 c3 : Nat) (w : World) :
    Calls Tryz.prog 13 #[.agg #[.int .i64 1, .string t, .slice a1 0 c1, .slice a2 0 c2, .slice a3 0 c3]] w fun e w' => e = .returned (.int .i64 (if longT t = true then 2 else 0)) ∧ Below w.heap.size w w' := by
  by_cases h : 60 < t.size
  · rw [if_pos (show longT t = true by unfold longT; exact decide_eq_true h)]
    have h' : (60 : Int) < ((t.size : Nat) : Int) := by omega
    go_enter Tryz.func13, Tryz.ntmps13
    go_wp2_with fail
    refine (between15 _ _ (by decide)).mono ?_
    rintro e w1 ⟨rfl, rfl⟩
    go_wp2_with fail
    go_ret
    exact ⟨rfl, (Below.refl _ _).alloc (Nat.le_refl _) _⟩
  · rw [if_neg (show ¬ longT t = true by unfold longT; simp; omega)]
    have h' : ¬ (60 : Int) < ((t.size : Nat) : Int) := by omega
    go_enter Tryz.func13, Tryz.ntmps13
    go_wp2_with fail
    refine (between15 _ _ (by decide)).mono ?_
    rintro e w1 ⟨rfl, rfl⟩
    go_wp2_with fail
    go_ret
    exact ⟨rfl, (Below.refl _ _).alloc (Nat.le_refl _) _⟩
end Go.Proofs.YtcidoodaiimhfaaGreat

/- WALKS of the reference's check of lists and sets. -/
namespace Go.Proofs.YtcidoodaiimhfaaGreat
open Go.RowKit

set_option maxRecDepth 100000 in
set_option maxHeartbeats 4000000 in
theorem refC_2 (a1 a2 a3 : Option Addr) (c1 c2 c3 : Nat) (l : List ByteArray) (w : World) (hs : TextsAt w a1 l) (hn : l.length ≤ 281474976710656) :
    Calls Tryz.prog 13 #[.agg #[.int .i64 2, .string ⟨#[]⟩, .slice a1 l.length c1, .slice a2 0 c2, .slice a3 0 c3]] w fun e w' => e = .returned (.int .i64 (sizeT (l).length ((l).any longT))) ∧ Below w.heap.size w w' := by
  have HS := hide hs
  clear hs
  by_cases h0 : l.length = 0
  · obtain rfl : l = [] := List.eq_nil_of_length_eq_zero h0
    rw [show (sizeT (([] : List ByteArray)).length ((([] : List ByteArray)).any longT)) = 5 from rfl]
    clear h0
    go_enter Tryz.func13, Tryz.ntmps13
    go_wp2_with fail
    refine (between15 _ _ (by decide)).mono ?_
    rintro e w1 ⟨rfl, rfl⟩
    go_wp2_with fail
    go_ret
    exact ⟨rfl, (Below.refl _ _).alloc (Nat.le_refl _) _⟩
  have h0b : (((l.length : Nat) : Int) == 0) = false := by rw [beq_eq_false_iff_ne]; omega
  by_cases h24 : 24 < l.length
  · rw [show (sizeT (l).length ((l).any longT)) = 2 by rw [sizeT, if_neg h0, if_pos (.inl h24)]]
    have h24' : (24 : Int) < ((l.length : Nat) : Int) := by omega
    go_enter Tryz.func13, Tryz.ntmps13
    go_wp2_with fail
    refine (between15 _ _ (by decide)).mono ?_
    rintro e w1 ⟨rfl, rfl⟩
    go_wp2_with fail
    go_ret
    exact ⟨rfl, (Below.refl _ _).alloc (Nat.le_refl _) _⟩
  have h24' : ¬ (24 : Int) < ((l.length : Nat) : Int) := by omega
  go_enter Tryz.func13, Tryz.ntmps13
  go_wp2_with fail
  refine (between15 _ _ (by decide)).mono ?_
  rintro e w1 ⟨rfl, rfl⟩
  go_wp2_with fail
  generalize hW0 : World.alloc w _ = W0
  have q2 : W0.cell? ⟨w.heap.size, 2, none⟩ = some (.slice a1 l.length c1) := by rw [← hW0]; simp [go_sem]
  have q3 : W0.cell? ⟨w.heap.size, 3, none⟩ = some (.slice a2 0 c2) := by rw [← hW0]; simp [go_sem]
  have q4 : W0.cell? ⟨w.heap.size, 4, none⟩ = some (.slice a3 0 c3) := by rw [← hW0]; simp [go_sem]
  have BW : Below w.heap.size w W0 := by rw [← hW0]; exact (Below.refl _ _).alloc (Nat.le_refl _) _
  have HB : Hid (∀ g o v, w.cell? ⟨g, o, none⟩ = some v → W0.cell? ⟨g, o, none⟩ = some v) := fun g o _ hv => (BW.cell (p := ⟨g, o, none⟩) (World.block_lt_of_cell? _ _ hv)).trans hv
  have zW : w.heap.size < W0.heap.size := by rw [← hW0]; simp
  clear hW0
  go_loop [5] (fun i => ∃ k : Nat, k ≤ l.length ∧ i = .int .i64 k ∧ Hid ((l.take k).any longT = false)) (fun i => l.length - (intOf i).toNat)
  case atStart => exact ⟨0, Nat.zero_le _, rfl, by simp [Hid]⟩
  case round =>
    obtain ⟨k, hk, rfl, HA⟩ := hrel
    by_cases hlt : k < l.length
    · have hlt' : ((k : Nat) : Int) < ((l.length : Nat) : Int) := by omega
      have HT : Hid ((l.take (k + 1)).any longT = ((l.take k).any longT || longT l[k])) := by
        rw [Hid, List.take_succ_eq_append_getElem hlt, List.any_append]
        simp
      have HF : Hid (longT l[k] = true → l.any longT = true) := fun hx => List.any_eq_true.mpr ⟨l[k], List.getElem_mem hlt, hx⟩
      obtain ⟨g, o, rfl, hcs⟩ : ∃ g o, a1 = some ⟨g, o, none⟩ ∧ ∀ i (h : i < l.length), w.cell? ⟨g, o + i, none⟩ = some (.string l[i]) := by
        rcases HS.out with h | h
        · subst h; simp at hlt
        · exact h
      have d0 : W0.cell? ⟨g, o + k, none⟩ = some (.string l[k]) := HB.out _ _ _ (hcs k hlt)
      clear hcs HS HB
      by_cases hx : 60 < l[k].size
      · have HY := hide (HF.out (by unfold longT; exact decide_eq_true hx))
        have hx' : (60 : Int) < ((l[k].size : Nat) : Int) := by omega
        clear HF HT
        go_wp2_with fail
        go_ret
        rw [show (sizeT (l).length ((l).any longT)) = 2 by rw [sizeT, if_neg h0, if_pos (.inr HY.out)]]
        exact ⟨rfl, BW⟩
      · have HY : Hid ((l.take (k + 1)).any longT = false) := by rw [Hid, HT.out, HA.out]; unfold longT; simp; omega
        have hx' : ¬ (60 : Int) < ((l[k].size : Nat) : Int) := by omega
        clear HF HT
        go_wp2_with fail
        go_round
        case rel => exact ⟨k + 1, by omega, by go_num, HY⟩
        case measure => simp [intOf]; omega
    · have hge : ¬ ((k : Nat) : Int) < ((l.length : Nat) : Int) := by omega
      have HY : Hid (l.any longT = false) := by have := HA.out; rw [List.take_of_length_le (by omega)] at this; exact this
      have HOK : Hid (sizeT l.length (l.any longT) = 0) := show sizeT l.length (l.any longT) = 0 by rw [sizeT, if_neg h0, if_neg (by rw [HY.out]; rintro (h | h); omega; cases h)]
      clear HA
      go_wp2_with fail
      refine wp_loop_rounds 1 ?_
      rw [rounds_succ]
      go_wp2_with fail
      refine wp_loop_rounds 1 ?_
      rw [rounds_succ]
      go_wp2_with fail
      go_loopw [8] (fun i wr => ∃ j : Nat, 1 ≤ j ∧ j ≤ l.length ∧ i = .int .i64 j ∧ Below W0.heap.size W0 wr) (fun i _ => l.length + 1 - (intOf i).toNat)
      case atStart => exact ⟨1, Nat.le_refl _, by omega, rfl, Below.refl _ _⟩
      case round =>
        obtain ⟨j, hj1, hj, rfl, hbr⟩ := hrel
        have r2 := (hbr.cell (p := ⟨w.heap.size, 2, none⟩) zW).trans q2
        have r3 := (hbr.cell (p := ⟨w.heap.size, 3, none⟩) zW).trans q3
        have r4 := (hbr.cell (p := ⟨w.heap.size, 4, none⟩) zW).trans q4
        have BR : Below w.heap.size w wr := BW.trans (hbr.mono BW.size)
        have HB2 : Hid (∀ g o v, w.cell? ⟨g, o, none⟩ = some v → wr.cell? ⟨g, o, none⟩ = some v) := fun g o _ hv => (BR.cell (p := ⟨g, o, none⟩) (World.block_lt_of_cell? _ _ hv)).trans hv
        clear q2 q3 q4 HB
        by_cases hjl : j < l.length
        · have hjl' : ((j : Nat) : Int) < ((l.length : Nat) : Int) := by omega
          go_wp2_with fail
          go_quiet (fail)
          go_wp2_with fail
          go_roundw
          case rel => exact ⟨j + 1, by omega, by omega, by go_num, below_drewN' hbr _⟩
          case measure => simp [intOf]; omega
        · have hjl' : ¬ ((j : Nat) : Int) < ((l.length : Nat) : Int) := by omega
          go_wp2_with fail
          refine wp_loop_rounds 1 ?_
          rw [rounds_succ]
          go_wp2_with fail
          refine wp_loop_rounds 1 ?_
          rw [rounds_succ]
          go_wp2_with fail
          refine wp_loop_rounds 1 ?_
          rw [rounds_succ]
          go_wp2_with fail
          refine wp_loop_rounds 1 ?_
          rw [rounds_succ]
          go_wp2_with fail
          go_ret
          rw [HOK.out]
          exact ⟨rfl, BR⟩

set_option maxRecDepth 100000 in
set_option maxHeartbeats 4000000 in
theorem refC_3 (a1 a2 a3 : Option Addr) (c1 c2 c3 : Nat) (l : List ByteArray) (w : World) (hs : TextsAt w a1 l) (hn : l.length ≤ 281474976710656) (hz : ∀ t ∈ l, t.size ≤ maxLen) :
    Calls Tryz.prog 13 #[.agg #[.int .i64 3, .string ⟨#[]⟩, .slice a1 l.length c1, .slice a2 0 c2, .slice a3 0 c3]] w fun e w' => e = .returned (.int .i64 (setT l)) ∧ Below w.heap.size w w' := by
  have HS := hide hs
  clear hs
  have HZ := hide hz
  clear hz
  by_cases h0 : l.length = 0
  · obtain rfl : l = [] := List.eq_nil_of_length_eq_zero h0
    rw [show (setT ([] : List ByteArray)) = 5 from rfl]
    clear h0
    go_enter Tryz.func13, Tryz.ntmps13
    go_wp2_with fail
    refine (between15 _ _ (by decide)).mono ?_
    rintro e w1 ⟨rfl, rfl⟩
    go_wp2_with fail
    go_ret
    exact ⟨rfl, (Below.refl _ _).alloc (Nat.le_refl _) _⟩
  have h0b : (((l.length : Nat) : Int) == 0) = false := by rw [beq_eq_false_iff_ne]; omega
  by_cases h24 : 24 < l.length
  · rw [show (setT l) = 2 by rw [setT, if_pos (by rw [sizeT, if_neg h0, if_pos (.inl h24)]; decide), sizeT, if_neg h0, if_pos (.inl h24)]]
    have h24' : (24 : Int) < ((l.length : Nat) : Int) := by omega
    go_enter Tryz.func13, Tryz.ntmps13
    go_wp2_with fail
    refine (between15 _ _ (by decide)).mono ?_
    rintro e w1 ⟨rfl, rfl⟩
    go_wp2_with fail
    go_ret
    exact ⟨rfl, (Below.refl _ _).alloc (Nat.le_refl _) _⟩
  have h24' : ¬ (24 : Int) < ((l.length : Nat) : Int) := by omega
  go_enter Tryz.func13, Tryz.ntmps13
  go_wp2_with fail
  refine (between15 _ _ (by decide)).mono ?_
  rintro e w1 ⟨rfl, rfl⟩
  go_wp2_with fail
  generalize hW0 : World.alloc w _ = W0
  have q2 : W0.cell? ⟨w.heap.size, 2, none⟩ = some (.slice a1 l.length c1) := by rw [← hW0]; simp [go_sem]
  have q3 : W0.cell? ⟨w.heap.size, 3, none⟩ = some (.slice a2 0 c2) := by rw [← hW0]; simp [go_sem]
  have q4 : W0.cell? ⟨w.heap.size, 4, none⟩ = some (.slice a3 0 c3) := by rw [← hW0]; simp [go_sem]
  have BW : Below w.heap.size w W0 := by rw [← hW0]; exact (Below.refl _ _).alloc (Nat.le_refl _) _
  have HB : Hid (∀ g o v, w.cell? ⟨g, o, none⟩ = some v → W0.cell? ⟨g, o, none⟩ = some v) := fun g o _ hv => (BW.cell (p := ⟨g, o, none⟩) (World.block_lt_of_cell? _ _ hv)).trans hv
  have zW : w.heap.size < W0.heap.size := by rw [← hW0]; simp
  clear hW0
  go_loop [5] (fun i => ∃ k : Nat, k ≤ l.length ∧ i = .int .i64 k ∧ Hid ((l.take k).any longT = false)) (fun i => l.length - (intOf i).toNat)
  case atStart => exact ⟨0, Nat.zero_le _, rfl, by simp [Hid]⟩
  case round =>
    obtain ⟨k, hk, rfl, HA⟩ := hrel
    by_cases hlt : k < l.length
    · have hlt' : ((k : Nat) : Int) < ((l.length : Nat) : Int) := by omega
      have HT : Hid ((l.take (k + 1)).any longT = ((l.take k).any longT || longT l[k])) := by
        rw [Hid, List.take_succ_eq_append_getElem hlt, List.any_append]
        simp
      have HF : Hid (longT l[k] = true → l.any longT = true) := fun hx => List.any_eq_true.mpr ⟨l[k], List.getElem_mem hlt, hx⟩
      obtain ⟨g, o, rfl, hcs⟩ : ∃ g o, a1 = some ⟨g, o, none⟩ ∧ ∀ i (h : i < l.length), w.cell? ⟨g, o + i, none⟩ = some (.string l[i]) := by
        rcases HS.out with h | h
        · subst h; simp at hlt
        · exact h
      have d0 : W0.cell? ⟨g, o + k, none⟩ = some (.string l[k]) := HB.out _ _ _ (hcs k hlt)
      clear hcs HS HB
      by_cases hx : 60 < l[k].size
      · have HY := hide (HF.out (by unfold longT; exact decide_eq_true hx))
        have hx' : (60 : Int) < ((l[k].size : Nat) : Int) := by omega
        clear HF HT
        go_wp2_with fail
        go_ret
        rw [show (setT l) = 2 by rw [setT, if_pos (by rw [sizeT, if_neg h0, if_pos (.inr HY.out)]; decide), sizeT, if_neg h0, if_pos (.inr HY.out)]]
        exact ⟨rfl, BW⟩
      · have HY : Hid ((l.take (k + 1)).any longT = false) := by rw [Hid, HT.out, HA.out]; unfold longT; simp; omega
        have hx' : ¬ (60 : Int) < ((l[k].size : Nat) : Int) := by omega
        clear HF HT
        go_wp2_with fail
        go_round
        case rel => exact ⟨k + 1, by omega, by go_num, HY⟩
        case measure => simp [intOf]; omega
    · have hge : ¬ ((k : Nat) : Int) < ((l.length : Nat) : Int) := by omega
      have HY : Hid (l.any longT = false) := by have := HA.out; rw [List.take_of_length_le (by omega)] at this; exact this
      have HOK : Hid (sizeT l.length (l.any longT) = 0) := show sizeT l.length (l.any longT) = 0 by rw [sizeT, if_neg h0, if_neg (by rw [HY.out]; rintro (h | h); omega; cases h)]
      clear HA
      go_wp2_with fail
      refine wp_loop_rounds 1 ?_
      rw [rounds_succ]
      go_wp2_with fail
      refine wp_loop_rounds 1 ?_
      rw [rounds_succ]
      go_wp2_with fail
      go_loopw [8] (fun i wr => ∃ j : Nat, 1 ≤ j ∧ j ≤ l.length ∧ i = .int .i64 j ∧ Below W0.heap.size W0 wr ∧ Hid (riseTo cmpT l j = true)) (fun i _ => l.length + 1 - (intOf i).toNat)
      case atStart => exact ⟨1, Nat.le_refl _, by omega, rfl, Below.refl _ _, rfl⟩
      case round =>
        obtain ⟨j, hj1, hj, rfl, hbr, HA⟩ := hrel
        have r2 := (hbr.cell (p := ⟨w.heap.size, 2, none⟩) zW).trans q2
        have r3 := (hbr.cell (p := ⟨w.heap.size, 3, none⟩) zW).trans q3
        have r4 := (hbr.cell (p := ⟨w.heap.size, 4, none⟩) zW).trans q4
        have BR : Below w.heap.size w wr := BW.trans (hbr.mono BW.size)
        have HB2 : Hid (∀ g o v, w.cell? ⟨g, o, none⟩ = some v → wr.cell? ⟨g, o, none⟩ = some v) := fun g o _ hv => (BR.cell (p := ⟨g, o, none⟩) (World.block_lt_of_cell? _ _ hv)).trans hv
        clear q2 q3 q4 HB
        by_cases hjl : j < l.length
        · have hjl' : ((j : Nat) : Int) < ((l.length : Nat) : Int) := by omega
          obtain ⟨g, o, rfl, hcs⟩ : ∃ g o, a1 = some ⟨g, o, none⟩ ∧ ∀ i (h : i < l.length), w.cell? ⟨g, o + i, none⟩ = some (.string l[i]) := by
            rcases HS.out with h | h
            · subst h; simp at hjl
            · exact h
          obtain ⟨m, rfl⟩ : ∃ m, j = m + 1 := ⟨j - 1, by omega⟩
          have d0 : wr.cell? ⟨g, o + m, none⟩ = some (.string l[m]) := HB2.out _ _ _ (hcs m (by omega))
          have d1 : wr.cell? ⟨g, o + (m + 1), none⟩ = some (.string l[m + 1]) := HB2.out _ _ _ (hcs (m + 1) hjl)
          have hmm : IntKind.i64.wrap ((m : Nat) : Int) = ((m : Nat) : Int) := by rw [IntKind.wrap_i64]; omega
          have hm2 : ((m : Nat) : Int) < ((l.length : Nat) : Int) := by omega
          have hm3 : ((m : Nat) : Int) + 1 < ((l.length : Nat) : Int) := by omega
          have hm4 : (0 : Int) ≤ ((m : Nat) : Int) + 1 := by omega
          have hm5 : (((m : Nat) : Int) + 1).toNat = m + 1 := by omega
          have HT : Hid (riseTo cmpT l (m + 1 + 1) = decide (cmpT l[m] l[m + 1] < 0)) := by
            rw [Hid, riseTo_succ cmpT l (m + 1) (by omega), HA.out, Bool.true_and, show m + 1 - 1 = m by omega, getElem!_pos l m (by omega), getElem!_pos l (m + 1) hjl]
          have HC : Hid (∀ W, Calls Tryz.prog 65 #[.string l[m], .string l[m + 1]] W fun e w' => e = .returned (.int .i64 (cmpT l[m] l[m + 1])) ∧ ∃ q, w' = W.drewN q) := fun W => textOrder_any _ _ W (HZ.out _ (List.getElem_mem _))
          generalize cmpT l[m] l[m + 1] = C at *
          clear hcs HS HB2 HZ
          by_cases hC : C < 0
          · have hC' : ¬ (0 : Int) ≤ C := by omega
            have HY : Hid (riseTo cmpT l (m + 1 + 1) = true) := by rw [Hid, HT.out]; exact decide_eq_true hC
            go_wp2_with fail
            go_quiet ((go_at_call 65; exact Calls.quiet_of (HC.out _)))
            go_wp2_with fail
            go_roundw
            case rel => exact ⟨m + 1 + 1, by omega, by omega, by go_num, below_drewN' hbr _, HY⟩
            case measure => simp [intOf]; omega
          · have hC' : (0 : Int) ≤ C := by omega
            have HY : Hid (riseTo cmpT l l.length = false) := riseTo_false (k := m + 1 + 1) (by rw [HT.out]; exact decide_eq_false hC) (by omega)
            go_wp2_with fail
            go_quiet ((go_at_call 65; exact Calls.quiet_of (HC.out _)))
            go_wp2_with fail
            go_ret
            rw [show setT l = 4 by rw [setT, if_neg (by simp [HOK.out]), if_neg (by rw [HY.out]; decide)]]
            exact ⟨rfl, below_drewN' BR _⟩
        · have hjl' : ¬ ((j : Nat) : Int) < ((l.length : Nat) : Int) := by omega
          have HY : Hid (riseTo cmpT l l.length = true) := by have : j = l.length := by omega
                                                              rw [← this]; exact HA.out
          go_wp2_with fail
          refine wp_loop_rounds 1 ?_
          rw [rounds_succ]
          go_wp2_with fail
          refine wp_loop_rounds 1 ?_
          rw [rounds_succ]
          go_wp2_with fail
          refine wp_loop_rounds 1 ?_
          rw [rounds_succ]
          go_wp2_with fail
          refine wp_loop_rounds 1 ?_
          rw [rounds_succ]
          go_wp2_with fail
          go_ret
          rw [show setT l = 0 by rw [setT, if_neg (by simp [HOK.out]), if_pos HY.out]]
          exact ⟨rfl, BR⟩
end Go.Proofs.YtcidoodaiimhfaaGreat

/- WALKS of the reference's check of hashes. -/
namespace Go.Proofs.YtcidoodaiimhfaaGreat
open Go.RowKit

set_option maxRecDepth 100000 in
set_option maxHeartbeats 4000000 in
theorem refC_4 (a1 a2 a3 : Option Addr) (c1 c2 c3 : Nat) (l : List (ByteArray × ByteArray)) (w : World) (hs : PairsAt w a2 l) (hn : l.length ≤ 281474976710656) (hz : ∀ t ∈ l, t.1.size ≤ maxLen ∧ t.2.size ≤ maxLen) :
    Calls Tryz.prog 13 #[.agg #[.int .i64 4, .string ⟨#[]⟩, .slice a1 0 c1, .slice a2 l.length c2, .slice a3 0 c3]] w fun e w' => e = .returned (.int .i64 (hashT l)) ∧ Below w.heap.size w w' := by
  have HS := hide hs
  clear hs
  have HZ := hide hz
  clear hz
  by_cases h0 : l.length = 0
  · obtain rfl : l = [] := List.eq_nil_of_length_eq_zero h0
    rw [show (hashT ([] : List (ByteArray × ByteArray))) = 5 from rfl]
    clear h0
    go_enter Tryz.func13, Tryz.ntmps13
    go_wp2_with fail
    refine (between15 _ _ (by decide)).mono ?_
    rintro e w1 ⟨rfl, rfl⟩
    go_wp2_with fail
    go_ret
    exact ⟨rfl, (Below.refl _ _).alloc (Nat.le_refl _) _⟩
  have h0b : (((l.length : Nat) : Int) == 0) = false := by rw [beq_eq_false_iff_ne]; omega
  by_cases h24 : 24 < l.length
  · rw [show (hashT l) = 2 by rw [hashT, if_pos (by rw [sizeT, if_neg h0, if_pos (.inl h24)]; decide), sizeT, if_neg h0, if_pos (.inl h24)]]
    have h24' : (24 : Int) < ((l.length : Nat) : Int) := by omega
    go_enter Tryz.func13, Tryz.ntmps13
    go_wp2_with fail
    refine (between15 _ _ (by decide)).mono ?_
    rintro e w1 ⟨rfl, rfl⟩
    go_wp2_with fail
    go_ret
    exact ⟨rfl, (Below.refl _ _).alloc (Nat.le_refl _) _⟩
  have h24' : ¬ (24 : Int) < ((l.length : Nat) : Int) := by omega
  go_enter Tryz.func13, Tryz.ntmps13
  go_wp2_with fail
  refine (between15 _ _ (by decide)).mono ?_
  rintro e w1 ⟨rfl, rfl⟩
  go_wp2_with fail
  generalize hW0 : World.alloc w _ = W0
  have q2 : W0.cell? ⟨w.heap.size, 2, none⟩ = some (.slice a1 0 c1) := by rw [← hW0]; simp [go_sem]
  have q3 : W0.cell? ⟨w.heap.size, 3, none⟩ = some (.slice a2 l.length c2) := by rw [← hW0]; simp [go_sem]
  have q4 : W0.cell? ⟨w.heap.size, 4, none⟩ = some (.slice a3 0 c3) := by rw [← hW0]; simp [go_sem]
  have BW : Below w.heap.size w W0 := by rw [← hW0]; exact (Below.refl _ _).alloc (Nat.le_refl _) _
  have HB : Hid (∀ g o v, w.cell? ⟨g, o, none⟩ = some v → W0.cell? ⟨g, o, none⟩ = some v) := fun g o _ hv => (BW.cell (p := ⟨g, o, none⟩) (World.block_lt_of_cell? _ _ hv)).trans hv
  have zW : w.heap.size < W0.heap.size := by rw [← hW0]; simp
  clear hW0
  refine wp_loop_rounds 1 ?_
  rw [rounds_succ]
  go_wp2_with fail
  go_loop [6] (fun i => ∃ k : Nat, k ≤ l.length ∧ i = .int .i64 k ∧ Hid ((l.take k).any longP = false)) (fun i => l.length - (intOf i).toNat)
  case atStart => exact ⟨0, Nat.zero_le _, rfl, by simp [Hid]⟩
  case round =>
    obtain ⟨k, hk, rfl, HA⟩ := hrel
    by_cases hlt : k < l.length
    · have hlt' : ((k : Nat) : Int) < ((l.length : Nat) : Int) := by omega
      have HT : Hid ((l.take (k + 1)).any longP = ((l.take k).any longP || longP l[k])) := by
        rw [Hid, List.take_succ_eq_append_getElem hlt, List.any_append]
        simp
      have HF : Hid (longP l[k] = true → l.any longP = true) := fun hx => List.any_eq_true.mpr ⟨l[k], List.getElem_mem hlt, hx⟩
      obtain ⟨g, o, rfl, hcs⟩ : ∃ g o, a2 = some ⟨g, o, none⟩ ∧ ∀ i (h : i < l.length), w.cell? ⟨g, o + i * 2, none⟩ = some (.string l[i].1) ∧ w.cell? ⟨g, o + i * 2 + 1, none⟩ = some (.string l[i].2) := by
        rcases HS.out with h | h
        · subst h; simp at hlt
        · exact h
      have d0 : W0.cell? ⟨g, o + k * 2, none⟩ = some (.string l[k].1) := HB.out _ _ _ (hcs k hlt).1
      have d1 : W0.cell? ⟨g, o + k * 2 + 1, none⟩ = some (.string l[k].2) := HB.out _ _ _ (hcs k hlt).2
      clear hcs HS HB HZ
      by_cases hx : 60 < l[k].1.size
      · have HY := hide (HF.out (by simp only [longP, longT, decide_eq_true hx, Bool.true_or]))
        have hx' : (60 : Int) < ((l[k].1.size : Nat) : Int) := by omega
        clear HF HT
        go_wp2_with fail
        go_ret
        rw [show (hashT l) = 2 by rw [hashT, if_pos (by rw [sizeT, if_neg h0, if_pos (.inr HY.out)]; decide), sizeT, if_neg h0, if_pos (.inr HY.out)]]
        exact ⟨rfl, BW⟩
      · have hx' : ¬ (60 : Int) < ((l[k].1.size : Nat) : Int) := by omega
        by_cases hy : 60 < l[k].2.size
        · have HY := hide (HF.out (by simp only [longP, longT, decide_eq_true hy, Bool.or_true]))
          have hy' : (60 : Int) < ((l[k].2.size : Nat) : Int) := by omega
          clear HF HT
          go_wp2_with fail
          go_ret
          rw [show (hashT l) = 2 by rw [hashT, if_pos (by rw [sizeT, if_neg h0, if_pos (.inr HY.out)]; decide), sizeT, if_neg h0, if_pos (.inr HY.out)]]
          exact ⟨rfl, BW⟩
        · have HY : Hid ((l.take (k + 1)).any longP = false) := by rw [Hid, HT.out, HA.out]; simp only [longP, longT, decide_eq_false hx, decide_eq_false hy, Bool.or_self]
          have hy' : ¬ (60 : Int) < ((l[k].2.size : Nat) : Int) := by omega
          clear HF HT
          go_wp2_with fail
          go_round
          case rel => exact ⟨k + 1, by omega, by go_num, HY⟩
          case measure => simp [intOf]; omega
    · have hge : ¬ ((k : Nat) : Int) < ((l.length : Nat) : Int) := by omega
      have HY : Hid (l.any longP = false) := by have := HA.out; rw [List.take_of_length_le (by omega)] at this; exact this
      have HOK : Hid (sizeT l.length (l.any longP) = 0) := show sizeT l.length (l.any longP) = 0 by rw [sizeT, if_neg h0, if_neg (by rw [HY.out]; rintro (h | h); omega; cases h)]
      clear HA
      go_wp2_with fail
      refine wp_loop_rounds 1 ?_
      rw [rounds_succ]
      go_wp2_with fail
      refine wp_loop_rounds 1 ?_
      rw [rounds_succ]
      go_wp2_with fail
      go_loopw [9] (fun i wr => ∃ j : Nat, 1 ≤ j ∧ j ≤ l.length ∧ i = .int .i64 j ∧ Below W0.heap.size W0 wr ∧ Hid (riseTo cmpP l j = true)) (fun i _ => l.length + 1 - (intOf i).toNat)
      case atStart => exact ⟨1, Nat.le_refl _, by omega, rfl, Below.refl _ _, rfl⟩
      case round =>
        obtain ⟨j, hj1, hj, rfl, hbr, HA⟩ := hrel
        have r2 := (hbr.cell (p := ⟨w.heap.size, 2, none⟩) zW).trans q2
        have r3 := (hbr.cell (p := ⟨w.heap.size, 3, none⟩) zW).trans q3
        have r4 := (hbr.cell (p := ⟨w.heap.size, 4, none⟩) zW).trans q4
        have BR : Below w.heap.size w wr := BW.trans (hbr.mono BW.size)
        have HB2 : Hid (∀ g o v, w.cell? ⟨g, o, none⟩ = some v → wr.cell? ⟨g, o, none⟩ = some v) := fun g o _ hv => (BR.cell (p := ⟨g, o, none⟩) (World.block_lt_of_cell? _ _ hv)).trans hv
        clear q2 q3 q4 HB
        by_cases hjl : j < l.length
        · have hjl' : ((j : Nat) : Int) < ((l.length : Nat) : Int) := by omega
          obtain ⟨g, o, rfl, hcs⟩ : ∃ g o, a2 = some ⟨g, o, none⟩ ∧ ∀ i (h : i < l.length), w.cell? ⟨g, o + i * 2, none⟩ = some (.string l[i].1) ∧ w.cell? ⟨g, o + i * 2 + 1, none⟩ = some (.string l[i].2) := by
            rcases HS.out with h | h
            · subst h; simp at hjl
            · exact h
          obtain ⟨m, rfl⟩ : ∃ m, j = m + 1 := ⟨j - 1, by omega⟩
          have d0 : wr.cell? ⟨g, o + m * 2, none⟩ = some (.string l[m].1) := HB2.out _ _ _ (hcs m (by omega)).1
          have d1 : wr.cell? ⟨g, o + (m + 1) * 2, none⟩ = some (.string l[m + 1].1) := HB2.out _ _ _ (hcs (m + 1) hjl).1
          have hmm : IntKind.i64.wrap ((m : Nat) : Int) = ((m : Nat) : Int) := by rw [IntKind.wrap_i64]; omega
          have hm2 : ((m : Nat) : Int) < ((l.length : Nat) : Int) := by omega
          have hm3 : ((m : Nat) : Int) + 1 < ((l.length : Nat) : Int) := by omega
          have hm4 : (0 : Int) ≤ ((m : Nat) : Int) + 1 := by omega
          have hm5 : (((m : Nat) : Int) + 1).toNat = m + 1 := by omega
          have HT : Hid (riseTo cmpP l (m + 1 + 1) = decide (cmpT l[m].1 l[m + 1].1 < 0)) := by
            rw [Hid, riseTo_succ cmpP l (m + 1) (by omega), HA.out, Bool.true_and, show m + 1 - 1 = m by omega, getElem!_pos l m (by omega), getElem!_pos l (m + 1) hjl]
            rfl
          have HC : Hid (∀ W, Calls Tryz.prog 65 #[.string l[m].1, .string l[m + 1].1] W fun e w' => e = .returned (.int .i64 (cmpT l[m].1 l[m + 1].1)) ∧ ∃ q, w' = W.drewN q) := fun W => textOrder_any _ _ W (HZ.out _ (List.getElem_mem _)).1
          generalize cmpT l[m].1 l[m + 1].1 = C at *
          clear hcs HS HB2 HZ
          by_cases hC : C < 0
          · have hC' : ¬ (0 : Int) ≤ C := by omega
            have HY : Hid (riseTo cmpP l (m + 1 + 1) = true) := by rw [Hid, HT.out]; exact decide_eq_true hC
            go_wp2_with fail
            go_quiet ((go_at_call 65; exact Calls.quiet_of (HC.out _)))
            go_wp2_with fail
            go_roundw
            case rel => exact ⟨m + 1 + 1, by omega, by omega, by go_num, below_drewN' hbr _, HY⟩
            case measure => simp [intOf]; omega
          · have hC' : (0 : Int) ≤ C := by omega
            have HY : Hid (riseTo cmpP l l.length = false) := riseTo_false (k := m + 1 + 1) (by rw [HT.out]; exact decide_eq_false hC) (by omega)
            go_wp2_with fail
            go_quiet ((go_at_call 65; exact Calls.quiet_of (HC.out _)))
            go_wp2_with fail
            go_ret
            rw [show hashT l = 4 by rw [hashT, if_neg (by simp [HOK.out]), if_neg (by rw [HY.out]; decide)]]
            exact ⟨rfl, below_drewN' BR _⟩
        · have hjl' : ¬ ((j : Nat) : Int) < ((l.length : Nat) : Int) := by omega
          have HY : Hid (riseTo cmpP l l.length = true) := by have : j = l.length := by omega
                                                              rw [← this]; exact HA.out
          go_wp2_with fail
          refine wp_loop_rounds 1 ?_
          rw [rounds_succ]
          go_wp2_with fail
          refine wp_loop_rounds 1 ?_
          rw [rounds_succ]
          go_wp2_with fail
          refine wp_loop_rounds 1 ?_
          rw [rounds_succ]
          go_wp2_with fail
          go_ret
          rw [show hashT l = 0 by rw [hashT, if_neg (by simp [HOK.out]), if_pos HY.out]]
          exact ⟨rfl, BR⟩
end Go.Proofs.YtcidoodaiimhfaaGreat

/- WALK of the reference's check of scores. -/
namespace Go.Proofs.YtcidoodaiimhfaaGreat
open Go.RowKit

theorem bytes_inj' {a b : ByteArray} (h : a.toList = b.toList) : a = b := by
  rw [ByteArray.toList_eq, ByteArray.toList_eq] at h
  cases a; cases b
  congr 1
  exact Array.toList_inj.1 h
theorem outS_not (x : Int × ByteArray) : (!outS x) = decide (-999999999 ≤ x.1 ∧ x.1 ≤ 999999999) := by
  unfold outS
  rw [Bool.eq_iff_iff]
  simp
theorem twice_of {l : List (Int × ByteArray)} {m k : Nat} (hm : m < k) (hk : k < l.length) (h : l[m].2 = l[k].2) : twiceS l = true := by
  unfold twiceS
  simp only [Bool.not_eq_true', decide_eq_false_iff_not]
  intro hn
  have := List.pairwise_iff_getElem.1 hn m k (by simp; omega) (by simp; omega) hm
  simp only [List.getElem_map] at this
  exact this h
theorem nodup_step {l : List (Int × ByteArray)} {k : Nat} (hk : k < l.length) (h : ((l.map Prod.snd).take k).Nodup) (hj : ∀ j (h : j < k), l[j].2 ≠ l[k].2) : ((l.map Prod.snd).take (k + 1)).Nodup := by
  rw [List.take_succ_eq_append_getElem (by simp; omega), List.nodup_append]
  refine ⟨h, by simp, ?_⟩
  intro a ha b hb
  simp at hb
  subst hb
  obtain ⟨i, hi, rfl⟩ := List.getElem_of_mem ha
  simp at hi ⊢
  exact hj i (by omega)

set_option maxRecDepth 100000 in
set_option maxHeartbeats 4000000 in
theorem refC_5 (a1 a2 a3 : Option Addr) (c1 c2 c3 : Nat) (l : List (Int × ByteArray)) (w : World) (hs : ScoresAt w a3 l) (hn : l.length ≤ 281474976710656) (hz : ∀ t ∈ l, t.2.size ≤ maxLen) :
    Calls Tryz.prog 13 #[.agg #[.int .i64 5, .string ⟨#[]⟩, .slice a1 0 c1, .slice a2 0 c2, .slice a3 l.length c3]] w fun e w' => e = .returned (.int .i64 (scoreT l)) ∧ Below w.heap.size w w' := by
  have HS := hide hs
  clear hs
  have HZ := hide hz
  clear hz
  by_cases h0 : l.length = 0
  · obtain rfl : l = [] := List.eq_nil_of_length_eq_zero h0
    rw [show (scoreT ([] : List (Int × ByteArray))) = 5 from rfl]
    clear h0
    go_enter Tryz.func13, Tryz.ntmps13
    go_wp2_with fail
    refine (between15 _ _ (by decide)).mono ?_
    rintro e w1 ⟨rfl, rfl⟩
    go_wp2_with fail
    go_ret
    exact ⟨rfl, (Below.refl _ _).alloc (Nat.le_refl _) _⟩
  have h0b : (((l.length : Nat) : Int) == 0) = false := by rw [beq_eq_false_iff_ne]; omega
  by_cases h24 : 24 < l.length
  · rw [show (scoreT l) = 2 by rw [scoreT, if_pos (by rw [sizeT, if_neg h0, if_pos (.inl h24)]; decide), sizeT, if_neg h0, if_pos (.inl h24)]]
    have h24' : (24 : Int) < ((l.length : Nat) : Int) := by omega
    go_enter Tryz.func13, Tryz.ntmps13
    go_wp2_with fail
    refine (between15 _ _ (by decide)).mono ?_
    rintro e w1 ⟨rfl, rfl⟩
    go_wp2_with fail
    go_ret
    exact ⟨rfl, (Below.refl _ _).alloc (Nat.le_refl _) _⟩
  have h24' : ¬ (24 : Int) < ((l.length : Nat) : Int) := by omega
  go_enter Tryz.func13, Tryz.ntmps13
  go_wp2_with fail
  refine (between15 _ _ (by decide)).mono ?_
  rintro e w1 ⟨rfl, rfl⟩
  go_wp2_with fail
  generalize hW0 : World.alloc w _ = W0
  have q2 : W0.cell? ⟨w.heap.size, 2, none⟩ = some (.slice a1 0 c1) := by rw [← hW0]; simp [go_sem]
  have q3 : W0.cell? ⟨w.heap.size, 3, none⟩ = some (.slice a2 0 c2) := by rw [← hW0]; simp [go_sem]
  have q4 : W0.cell? ⟨w.heap.size, 4, none⟩ = some (.slice a3 l.length c3) := by rw [← hW0]; simp [go_sem]
  have BW : Below w.heap.size w W0 := by rw [← hW0]; exact (Below.refl _ _).alloc (Nat.le_refl _) _
  have HB : Hid (∀ g o v, w.cell? ⟨g, o, none⟩ = some v → W0.cell? ⟨g, o, none⟩ = some v) := fun g o _ hv => (BW.cell (p := ⟨g, o, none⟩) (World.block_lt_of_cell? _ _ hv)).trans hv
  have zW : w.heap.size < W0.heap.size := by rw [← hW0]; simp
  clear hW0
  refine wp_loop_rounds 1 ?_
  rw [rounds_succ]
  go_wp2_with fail
  refine wp_loop_rounds 1 ?_
  rw [rounds_succ]
  go_wp2_with fail
  go_loop [7] (fun i => ∃ k : Nat, k ≤ l.length ∧ i = .int .i64 k ∧ Hid ((l.take k).any longS = false)) (fun i => l.length - (intOf i).toNat)
  case atStart => exact ⟨0, Nat.zero_le _, rfl, by simp [Hid]⟩
  case round =>
    obtain ⟨k, hk, rfl, HA⟩ := hrel
    by_cases hlt : k < l.length
    · have hlt' : ((k : Nat) : Int) < ((l.length : Nat) : Int) := by omega
      have HT : Hid ((l.take (k + 1)).any longS = ((l.take k).any longS || longS l[k])) := by
        rw [Hid, List.take_succ_eq_append_getElem hlt, List.any_append]
        simp
      have HF : Hid (longS l[k] = true → l.any longS = true) := fun hx => List.any_eq_true.mpr ⟨l[k], List.getElem_mem hlt, hx⟩
      obtain ⟨g, o, rfl, hcs⟩ : ∃ g o, a3 = some ⟨g, o, none⟩ ∧ ∀ i (h : i < l.length), w.cell? ⟨g, o + i * 2, none⟩ = some (.int .i64 l[i].1) ∧ w.cell? ⟨g, o + i * 2 + 1, none⟩ = some (.string l[i].2) := by
        rcases HS.out with h | h
        · subst h; simp at hlt
        · exact h
      have d1 : W0.cell? ⟨g, o + k * 2 + 1, none⟩ = some (.string l[k].2) := HB.out _ _ _ (hcs k hlt).2
      clear hcs HS HB HZ
      by_cases hx : 60 < l[k].2.size
      · have HY := hide (HF.out (by simp only [longS, longT, decide_eq_true hx]))
        have hx' : (60 : Int) < ((l[k].2.size : Nat) : Int) := by omega
        clear HF HT
        go_wp2_with fail
        go_ret
        rw [show (scoreT l) = 2 by rw [scoreT, if_pos (by rw [sizeT, if_neg h0, if_pos (.inr HY.out)]; decide), sizeT, if_neg h0, if_pos (.inr HY.out)]]
        exact ⟨rfl, BW⟩
      · have HY : Hid ((l.take (k + 1)).any longS = false) := by rw [Hid, HT.out, HA.out]; simp only [longS, longT, decide_eq_false hx, Bool.or_self]
        have hx' : ¬ (60 : Int) < ((l[k].2.size : Nat) : Int) := by omega
        clear HF HT
        go_wp2_with fail
        go_round
        case rel => exact ⟨k + 1, by omega, by go_num, HY⟩
        case measure => simp [intOf]; omega
    · have hge : ¬ ((k : Nat) : Int) < ((l.length : Nat) : Int) := by omega
      have HY : Hid (l.any longS = false) := by have := HA.out; rw [List.take_of_length_le (by omega)] at this; exact this
      have HOK : Hid (sizeT l.length (l.any longS) = 0) := show sizeT l.length (l.any longS) = 0 by rw [sizeT, if_neg h0, if_neg (by rw [HY.out]; rintro (h | h); omega; cases h)]
      clear HA
      go_wp2_with fail
      refine wp_loop_rounds 1 ?_
      rw [rounds_succ]
      go_wp2_with fail
      refine wp_loop_rounds 1 ?_
      rw [rounds_succ]
      go_wp2_with fail
      go_loop [10] (fun i => ∃ k : Nat, k ≤ l.length ∧ i = .int .i64 k ∧ Hid ((l.take k).any outS = false)) (fun i => l.length - (intOf i).toNat)
      case atStart => exact ⟨0, Nat.zero_le _, rfl, by simp [Hid]⟩
      case round =>
        obtain ⟨k, hk, rfl, HA⟩ := hrel
        by_cases hlt : k < l.length
        · have hlt' : ((k : Nat) : Int) < ((l.length : Nat) : Int) := by omega
          have HT : Hid ((l.take (k + 1)).any outS = ((l.take k).any outS || outS l[k])) := by
            rw [Hid, List.take_succ_eq_append_getElem hlt, List.any_append]
            simp
          have HF : Hid (outS l[k] = true → l.any outS = true) := fun hx => List.any_eq_true.mpr ⟨l[k], List.getElem_mem hlt, hx⟩
          obtain ⟨g, o, rfl, hcs⟩ : ∃ g o, a3 = some ⟨g, o, none⟩ ∧ ∀ i (h : i < l.length), w.cell? ⟨g, o + i * 2, none⟩ = some (.int .i64 l[i].1) ∧ w.cell? ⟨g, o + i * 2 + 1, none⟩ = some (.string l[i].2) := by
            rcases HS.out with h | h
            · subst h; simp at hlt
            · exact h
          have d0 : W0.cell? ⟨g, o + k * 2, none⟩ = some (.int .i64 l[k].1) := HB.out _ _ _ (hcs k hlt).1
          have HI : Hid (∀ W, Calls Tryz.prog 66 #[.int .i64 l[k].1] W fun e w' => e = .returned (.bool (!outS l[k])) ∧ w' = W) := fun W => by
            rw [outS_not]
            exact isInt_any _ W
          clear hcs HS HB HZ
          cases hx : outS l[k] with
          | true =>
            have HY := hide (HF.out hx)
            rw [hx] at HI
            clear HF HT hx
            go_wp2_with fail
            refine (HI.out _).mono ?_
            rintro e w1 ⟨rfl, rfl⟩
            go_wp2_with fail
            go_ret
            rw [show scoreT l = 3 by rw [scoreT, if_neg (by simp [HOK.out]), if_pos HY.out]]
            exact ⟨rfl, BW⟩
          | false =>
            have HY : Hid ((l.take (k + 1)).any outS = false) := by rw [Hid, HT.out, HA.out, hx]; rfl
            rw [hx] at HI
            clear HF HT hx
            go_wp2_with fail
            refine (HI.out _).mono ?_
            rintro e w1 ⟨rfl, rfl⟩
            go_wp2_with fail
            go_round
            case rel => exact ⟨k + 1, by omega, by go_num, HY⟩
            case measure => simp [intOf]; omega
        · have hge : ¬ ((k : Nat) : Int) < ((l.length : Nat) : Int) := by omega
          have HY : Hid (l.any outS = false) := by have := HA.out; rw [List.take_of_length_le (by omega)] at this; exact this
          have HIN : Hid (l.any outS = false) := HY
          clear HA HY
          go_wp2_with fail
          go_loopw [11] (fun i wr => ∃ k : Nat, k ≤ l.length ∧ i = .int .i64 k ∧ Below W0.heap.size W0 wr ∧ Hid (((l.map Prod.snd).take k).Nodup)) (fun i _ => l.length - (intOf i).toNat)
          case atStart => exact ⟨0, Nat.zero_le _, rfl, Below.refl _ _, by simp [Hid]⟩
          case round =>
            obtain ⟨k, hk, rfl, hbo, HN⟩ := hrel
            have r4 := (hbo.cell (p := ⟨w.heap.size, 4, none⟩) zW).trans q4
            have BO : Below w.heap.size w wr := BW.trans (hbo.mono BW.size)
            have HB3 : Hid (∀ g o v, w.cell? ⟨g, o, none⟩ = some v → wr.cell? ⟨g, o, none⟩ = some v) := fun g o _ hv => (BO.cell (p := ⟨g, o, none⟩) (World.block_lt_of_cell? _ _ hv)).trans hv
            by_cases hlt : k < l.length
            · have hlt' : ((k : Nat) : Int) < ((l.length : Nat) : Int) := by omega
              go_wp2_with fail
              go_loopw [12] (fun i wi => ∃ m : Nat, m ≤ k ∧ i = .int .i64 m ∧ Below W0.heap.size W0 wi ∧ Hid (∀ j (h : j < m) (h2 : j < l.length), l[j].2 ≠ l[k].2)) (fun i _ => k - (intOf i).toNat)
              case atStart => exact ⟨0, Nat.zero_le _, rfl, hbo, fun j h _ => absurd h (by omega)⟩
              case round =>
                clear r4
                obtain ⟨m, hm, rfl, hbi, HM⟩ := hrel
                have r4 := (hbi.cell (p := ⟨w.heap.size, 4, none⟩) zW).trans q4
                have BI : Below w.heap.size w wr := BW.trans (hbi.mono BW.size)
                have HB4 : Hid (∀ g o v, w.cell? ⟨g, o, none⟩ = some v → wr.cell? ⟨g, o, none⟩ = some v) := fun g o _ hv => (BI.cell (p := ⟨g, o, none⟩) (World.block_lt_of_cell? _ _ hv)).trans hv
                by_cases hmk : m < k
                · have hmk' : ((m : Nat) : Int) < ((k : Nat) : Int) := by omega
                  have hml' : ((m : Nat) : Int) < ((l.length : Nat) : Int) := by omega
                  obtain ⟨g, o, rfl, hcs⟩ : ∃ g o, a3 = some ⟨g, o, none⟩ ∧ ∀ i (h : i < l.length), w.cell? ⟨g, o + i * 2, none⟩ = some (.int .i64 l[i].1) ∧ w.cell? ⟨g, o + i * 2 + 1, none⟩ = some (.string l[i].2) := by
                    rcases HS.out with h | h
                    · subst h; simp at hlt
                    · exact h
                  have d1 : wr.cell? ⟨g, o + m * 2 + 1, none⟩ = some (.string l[m].2) := HB4.out _ _ _ (hcs m (by omega)).2
                  have e1 : wr.cell? ⟨g, o + k * 2 + 1, none⟩ = some (.string l[k].2) := HB4.out _ _ _ (hcs k hlt).2
                  have HX : Hid (l[m].2 = l[k].2 → twiceS l = true) := fun h => twice_of hmk hlt h
                  have HX2 : Hid (l[m].2 ≠ l[k].2 → ∀ j (h : j < m + 1) (h2 : j < l.length), l[j].2 ≠ l[k].2) := fun h j hj h2 => by
                    by_cases e : j = m
                    · subst e; exact h
                    · exact HM.out j (by omega) h2
                  clear hcs HS HB HB3 HB4 HZ HM
                  generalize l[m].2 = X at *
                  generalize hYY : l[k].2 = Y at *
                  by_cases hXY : X = Y
                  · subst hXY
                    have HY := hide (HX.out rfl)
                    clear HX HX2 hYY
                    go_wp2_with fail
                    go_quiet (fail)
                    go_wp2_with fail
                    go_ret
                    rw [show scoreT l = 6 by rw [scoreT, if_neg (by simp [HOK.out]), if_neg (by simp [HIN.out]), if_pos HY.out]]
                    exact ⟨rfl, below_drewN' BI _⟩
                  · have hne : (X.toList == Y.toList) = false := by rw [beq_eq_false_iff_ne]; exact fun e => hXY (bytes_inj' e)
                    have HY := hide (HX2.out hXY)
                    clear HX HX2
                    go_wp2_with fail
                    go_quiet (fail)
                    go_wp2_with fail
                    go_roundw
                    case rel => exact ⟨m + 1, by omega, by go_num, below_drewN' hbi _, HY.out⟩
                    case measure => simp [intOf]; omega
                · have hmk' : ¬ ((m : Nat) : Int) < ((k : Nat) : Int) := by omega
                  have HNN : Hid (((l.map Prod.snd).take (k + 1)).Nodup) := nodup_step hlt HN.out (fun j hj => HM.out j (by omega) (by omega))
                  go_wp2_with fail
                  go_roundw
                  case rel => exact ⟨k + 1, by omega, by go_num, hbi, HNN⟩
                  case measure => simp [intOf]; omega
            · have hge : ¬ ((k : Nat) : Int) < ((l.length : Nat) : Int) := by omega
              have HTW : Hid (twiceS l = false) := by
                have h1 := HN.out
                rw [List.take_of_length_le (by simp; omega)] at h1
                simp [Hid, twiceS, h1]
              clear HN HB3
              go_wp2_with fail
              go_loopw [13] (fun i wr => ∃ j : Nat, 1 ≤ j ∧ j ≤ l.length ∧ i = .int .i64 j ∧ Below W0.heap.size W0 wr ∧ Hid (riseTo cmpS l j = true)) (fun i _ => l.length + 1 - (intOf i).toNat)
              case atStart => exact ⟨1, Nat.le_refl _, by omega, rfl, hbo, rfl⟩
              case round =>
                obtain ⟨j, hj1, hj, rfl, hbr, HA⟩ := hrel
                have r4 := (hbr.cell (p := ⟨w.heap.size, 4, none⟩) zW).trans q4
                have BR : Below w.heap.size w wr := BW.trans (hbr.mono BW.size)
                have HB2 : Hid (∀ g o v, w.cell? ⟨g, o, none⟩ = some v → wr.cell? ⟨g, o, none⟩ = some v) := fun g o _ hv => (BR.cell (p := ⟨g, o, none⟩) (World.block_lt_of_cell? _ _ hv)).trans hv
                have zr : w.heap.size < wr.heap.size := Nat.lt_of_lt_of_le zW hbr.size
                by_cases hjl : j < l.length
                · have hjl' : ((j : Nat) : Int) < ((l.length : Nat) : Int) := by omega
                  obtain ⟨g, o, rfl, hcs⟩ : ∃ g o, a3 = some ⟨g, o, none⟩ ∧ ∀ i (h : i < l.length), w.cell? ⟨g, o + i * 2, none⟩ = some (.int .i64 l[i].1) ∧ w.cell? ⟨g, o + i * 2 + 1, none⟩ = some (.string l[i].2) := by
                    rcases HS.out with h | h
                    · subst h; simp at hjl
                    · exact h
                  obtain ⟨m, rfl⟩ : ∃ m, j = m + 1 := ⟨j - 1, by omega⟩
                  have d0 : wr.cell? ⟨g, o + m * 2, none⟩ = some (.int .i64 l[m].1) := HB2.out _ _ _ (hcs m (by omega)).1
                  have d1 : wr.cell? ⟨g, o + m * 2 + 1, none⟩ = some (.string l[m].2) := HB2.out _ _ _ (hcs m (by omega)).2
                  have e0 : wr.cell? ⟨g, o + (m + 1) * 2, none⟩ = some (.int .i64 l[m + 1].1) := HB2.out _ _ _ (hcs (m + 1) hjl).1
                  have e1 : wr.cell? ⟨g, o + (m + 1) * 2 + 1, none⟩ = some (.string l[m + 1].2) := HB2.out _ _ _ (hcs (m + 1) hjl).2
                  have hgl : g < wr.heap.size := World.block_lt_of_cell? _ _ d0
                  have hmm : IntKind.i64.wrap ((m : Nat) : Int) = ((m : Nat) : Int) := by rw [IntKind.wrap_i64]; omega
                  have hm2 : ((m : Nat) : Int) < ((l.length : Nat) : Int) := by omega
                  have hm3 : ((m : Nat) : Int) + 1 < ((l.length : Nat) : Int) := by omega
                  have hm4 : (0 : Int) ≤ ((m : Nat) : Int) + 1 := by omega
                  have hm5 : (((m : Nat) : Int) + 1).toNat = m + 1 := by omega
                  have HT : Hid (riseTo cmpS l (m + 1 + 1) = decide (cmpS l[m] l[m + 1] < 0)) := by
                    rw [Hid, riseTo_succ cmpS l (m + 1) (by omega), HA.out, Bool.true_and, show m + 1 - 1 = m by omega, getElem!_pos l m (by omega), getElem!_pos l (m + 1) hjl]
                  have HC : Hid (∀ W, Calls Tryz.prog 67 #[.agg #[.int .i64 l[m].1, .string l[m].2], .agg #[.int .i64 l[m + 1].1, .string l[m + 1].2]] W fun e w' => e = .returned (.bool (decide (cmpS l[m] l[m + 1] < 0))) ∧ Below W.heap.size W w') := fun W => scoreLess_any _ _ W (HZ.out _ (List.getElem_mem _))
                  generalize decide (cmpS l[m] l[m + 1] < 0) = C at *
                  clear hcs HS HB2 HZ
                  generalize l[m].1 = X1 at *
                  generalize l[m].2 = X2 at *
                  generalize l[m + 1].1 = Y1 at *
                  generalize l[m + 1].2 = Y2 at *
                  cases C with
                  | true =>
                    have HY : Hid (riseTo cmpS l (m + 1 + 1) = true) := HT.out
                    go_wp2_with fail
                    go_region_held3 (fun w' => w'.cell? ⟨w.heap.size, 4, none⟩ = some (.slice (some ⟨g, o, none⟩) l.length c3) ∧ w'.cell? ⟨g, o + m * 2, none⟩ = some (.int .i64 X1) ∧ w'.cell? ⟨g, o + m * 2 + 1, none⟩ = some (.string X2) ∧ w'.cell? ⟨g, o + (m + 1) * 2, none⟩ = some (.int .i64 Y1) ∧ w'.cell? ⟨g, o + (m + 1) * 2 + 1, none⟩ = some (.string Y2)) (go_keep)
                      ((go_at_call 67; refine (HC.out _).mono ?_; rintro e w2 ⟨rfl, hb2⟩; have s4 := (hb2.cell (p := ⟨w.heap.size, 4, none⟩) zr).trans r4; have s0 := (hb2.cell (p := ⟨g, o + m * 2, none⟩) hgl).trans d0; have s1 := (hb2.cell (p := ⟨g, o + m * 2 + 1, none⟩) hgl).trans d1; have t0 := (hb2.cell (p := ⟨g, o + (m + 1) * 2, none⟩) hgl).trans e0; have t1 := (hb2.cell (p := ⟨g, o + (m + 1) * 2 + 1, none⟩) hgl).trans e1))
                    all_goals
                      go_wp2_with fail
                      go_roundw
                      case rel => exact ⟨m + 1 + 1, by omega, by omega, by go_num, hbr.drew.trans (hb2.mono hbr.size), HY⟩
                      case measure => simp [intOf]; omega
                  | false =>
                    have HY : Hid (riseTo cmpS l l.length = false) := riseTo_false (k := m + 1 + 1) HT.out (by omega)
                    go_wp2_with fail
                    go_region_held3 (fun w' => w'.cell? ⟨w.heap.size, 4, none⟩ = some (.slice (some ⟨g, o, none⟩) l.length c3) ∧ w'.cell? ⟨g, o + m * 2, none⟩ = some (.int .i64 X1) ∧ w'.cell? ⟨g, o + m * 2 + 1, none⟩ = some (.string X2) ∧ w'.cell? ⟨g, o + (m + 1) * 2, none⟩ = some (.int .i64 Y1) ∧ w'.cell? ⟨g, o + (m + 1) * 2 + 1, none⟩ = some (.string Y2)) (go_keep)
                      ((go_at_call 67; refine (HC.out _).mono ?_; rintro e w2 ⟨rfl, hb2⟩; have s4 := (hb2.cell (p := ⟨w.heap.size, 4, none⟩) zr).trans r4; have s0 := (hb2.cell (p := ⟨g, o + m * 2, none⟩) hgl).trans d0; have s1 := (hb2.cell (p := ⟨g, o + m * 2 + 1, none⟩) hgl).trans d1; have t0 := (hb2.cell (p := ⟨g, o + (m + 1) * 2, none⟩) hgl).trans e0; have t1 := (hb2.cell (p := ⟨g, o + (m + 1) * 2 + 1, none⟩) hgl).trans e1))
                    all_goals
                      go_wp2_with fail
                      go_ret
                      rw [show scoreT l = 4 by rw [scoreT, if_neg (by simp [HOK.out]), if_neg (by simp [HIN.out]), if_neg (by simp [HTW.out]), if_neg (by rw [HY.out]; decide)]]
                      exact ⟨rfl, BR.drew.trans (hb2.mono BR.size)⟩
                · have hjl' : ¬ ((j : Nat) : Int) < ((l.length : Nat) : Int) := by omega
                  have HY : Hid (riseTo cmpS l l.length = true) := by have : j = l.length := by omega
                                                                      rw [← this]; exact HA.out
                  go_wp2_with fail
                  go_ret
                  rw [show scoreT l = 0 by rw [scoreT, if_neg (by simp [HOK.out]), if_neg (by simp [HIN.out]), if_neg (by simp [HTW.out]), if_pos HY.out]]
                  exact ⟨rfl, BR⟩
end Go.Proofs.YtcidoodaiimhfaaGreat

/- The reference's check of an item, whole. -/
namespace Go.Proofs.YtcidoodaiimhfaaGreat
open Go.RowKit

theorem empty_bytes {t : ByteArray} (h : t.toList = []) : t = ⟨#[]⟩ := bytes_inj' (by rw [h, ByteArray.toList_eq])
theorem refCheck_any (v : Value) (x : Itm) (w : World) (h : ItemIs w v x) :
    Calls Tryz.prog 13 #[v] w fun e w' => e = .returned (.int .i64 (chkI x)) ∧ Below w.heap.size w w' := by
  obtain ⟨⟨a1, c1, a2, c2, a3, c3, rfl, h1, h2, h3⟩, tz, lz, pz, sz, ll, pl, sl⟩ := h
  obtain ⟨k, t, l, p, s⟩ := x
  simp only at *
  by_cases h0 : k < 1 ∨ 5 < k
  · rw [show chkI ⟨k, t, l, p, s⟩ = 7 by rw [chkI, if_pos h0]]
    exact refC_bad k t a1 a2 a3 c1 c2 c3 _ _ _ w h0
  cases ho : otherI ⟨k, t, l, p, s⟩ with
  | true =>
    rw [show chkI ⟨k, t, l, p, s⟩ = 1 by rw [chkI, if_neg h0, if_pos ho]]
    have ho' := of_decide_eq_true ho
    simp only at ho'
    have hkk : k = 1 ∨ k = 2 ∨ k = 3 ∨ k = 4 ∨ k = 5 := by omega
    rcases hkk with rfl | rfl | rfl | rfl | rfl
    · by_cases hl : 0 < l.length
      · exact refC_o1l t _ _ _ a1 a2 a3 c1 c2 c3 w hl
      · obtain rfl : l = [] := List.eq_nil_of_length_eq_zero (by omega)
        by_cases hp : 0 < p.length
        · exact refC_o1p t _ _ a1 a2 a3 c1 c2 c3 w hp
        · obtain rfl : p = [] := List.eq_nil_of_length_eq_zero (by omega)
          have hs : 0 < s.length := by simpa using ho'
          exact refC_o1s t _ a1 a2 a3 c1 c2 c3 w hs
    · by_cases ht : t.toList = []
      · obtain rfl := empty_bytes ht
        by_cases hp : 0 < p.length
        · exact refC_o2p _ _ _ a1 a2 a3 c1 c2 c3 w hp
        · obtain rfl : p = [] := List.eq_nil_of_length_eq_zero (by omega)
          have hs : 0 < s.length := by simpa using ho'
          exact refC_o2s _ _ a1 a2 a3 c1 c2 c3 w hs
      · exact refC_o2t t _ _ _ a1 a2 a3 c1 c2 c3 w ht
    · by_cases ht : t.toList = []
      · obtain rfl := empty_bytes ht
        by_cases hp : 0 < p.length
        · exact refC_o3p _ _ _ a1 a2 a3 c1 c2 c3 w hp
        · obtain rfl : p = [] := List.eq_nil_of_length_eq_zero (by omega)
          have hs : 0 < s.length := by simpa using ho'
          exact refC_o3s _ _ a1 a2 a3 c1 c2 c3 w hs
      · exact refC_o3t t _ _ _ a1 a2 a3 c1 c2 c3 w ht
    · by_cases ht : t.toList = []
      · obtain rfl := empty_bytes ht
        by_cases hl : 0 < l.length
        · exact refC_o4l _ _ _ a1 a2 a3 c1 c2 c3 w hl
        · obtain rfl : l = [] := List.eq_nil_of_length_eq_zero (by omega)
          have hs : 0 < s.length := by simpa using ho'
          exact refC_o4s _ _ a1 a2 a3 c1 c2 c3 w hs
      · exact refC_o4t t _ _ _ a1 a2 a3 c1 c2 c3 w ht
    · by_cases ht : t.toList = []
      · obtain rfl := empty_bytes ht
        by_cases hl : 0 < l.length
        · exact refC_o5l _ _ _ a1 a2 a3 c1 c2 c3 w hl
        · obtain rfl : l = [] := List.eq_nil_of_length_eq_zero (by omega)
          have hp : 0 < p.length := by simpa using ho'
          exact refC_o5p _ _ a1 a2 a3 c1 c2 c3 w hp
      · exact refC_o5t t _ _ _ a1 a2 a3 c1 c2 c3 w ht
  | false =>
    have hp : chkI ⟨k, t, l, p, s⟩ = if k = 2 then sizeT l.length (l.any longT) else if k = 3 then setT l else if k = 4 then hashT p else if k = 5 then scoreT s else if longT t = true then 2 else 0 := by
      rw [chkI, if_neg h0, if_neg (by rw [ho]; decide)]
    rw [hp]
    have ho' := of_decide_eq_false ho
    simp only at ho'
    have hkk : k = 1 ∨ k = 2 ∨ k = 3 ∨ k = 4 ∨ k = 5 := by omega
    rcases hkk with rfl | rfl | rfl | rfl | rfl
    · obtain rfl : l = [] := List.eq_nil_of_length_eq_zero (by by_cases hx : 0 < l.length; exact absurd (Or.inr (Or.inl ⟨by decide, hx⟩)) ho'; omega)
      obtain rfl : p = [] := List.eq_nil_of_length_eq_zero (by by_cases hx : 0 < p.length; exact absurd (Or.inr (Or.inr (Or.inl ⟨by decide, hx⟩))) ho'; omega)
      obtain rfl : s = [] := List.eq_nil_of_length_eq_zero (by by_cases hx : 0 < s.length; exact absurd (Or.inr (Or.inr (Or.inr ⟨by decide, hx⟩))) ho'; omega)
      rw [if_neg (by decide), if_neg (by decide), if_neg (by decide), if_neg (by decide)]
      exact refC_1 t a1 a2 a3 c1 c2 c3 w
    · obtain rfl := empty_bytes (t := t) (by by_cases ht : t.toList = []; exact ht; exact absurd (Or.inl ⟨by decide, ht⟩) ho')
      obtain rfl : p = [] := List.eq_nil_of_length_eq_zero (by by_cases hx : 0 < p.length; exact absurd (Or.inr (Or.inr (Or.inl ⟨by decide, hx⟩))) ho'; omega)
      obtain rfl : s = [] := List.eq_nil_of_length_eq_zero (by by_cases hx : 0 < s.length; exact absurd (Or.inr (Or.inr (Or.inr ⟨by decide, hx⟩))) ho'; omega)
      rw [if_pos rfl]
      exact refC_2 a1 a2 a3 c1 c2 c3 l w h1 ll
    · obtain rfl := empty_bytes (t := t) (by by_cases ht : t.toList = []; exact ht; exact absurd (Or.inl ⟨by decide, ht⟩) ho')
      obtain rfl : p = [] := List.eq_nil_of_length_eq_zero (by by_cases hx : 0 < p.length; exact absurd (Or.inr (Or.inr (Or.inl ⟨by decide, hx⟩))) ho'; omega)
      obtain rfl : s = [] := List.eq_nil_of_length_eq_zero (by by_cases hx : 0 < s.length; exact absurd (Or.inr (Or.inr (Or.inr ⟨by decide, hx⟩))) ho'; omega)
      rw [if_neg (by decide), if_pos rfl]
      exact refC_3 a1 a2 a3 c1 c2 c3 l w h1 ll lz
    · obtain rfl := empty_bytes (t := t) (by by_cases ht : t.toList = []; exact ht; exact absurd (Or.inl ⟨by decide, ht⟩) ho')
      obtain rfl : l = [] := List.eq_nil_of_length_eq_zero (by by_cases hx : 0 < l.length; exact absurd (Or.inr (Or.inl ⟨by decide, hx⟩)) ho'; omega)
      obtain rfl : s = [] := List.eq_nil_of_length_eq_zero (by by_cases hx : 0 < s.length; exact absurd (Or.inr (Or.inr (Or.inr ⟨by decide, hx⟩))) ho'; omega)
      rw [if_neg (by decide), if_neg (by decide), if_pos rfl]
      exact refC_4 a1 a2 a3 c1 c2 c3 p w h2 pl pz
    · obtain rfl := empty_bytes (t := t) (by by_cases ht : t.toList = []; exact ht; exact absurd (Or.inl ⟨by decide, ht⟩) ho')
      obtain rfl : l = [] := List.eq_nil_of_length_eq_zero (by by_cases hx : 0 < l.length; exact absurd (Or.inr (Or.inl ⟨by decide, hx⟩)) ho'; omega)
      obtain rfl : p = [] := List.eq_nil_of_length_eq_zero (by by_cases hx : 0 < p.length; exact absurd (Or.inr (Or.inr (Or.inl ⟨by decide, hx⟩))) ho'; omega)
      rw [if_neg (by decide), if_neg (by decide), if_neg (by decide), if_pos rfl]
      exact refC_5 a1 a2 a3 c1 c2 c3 s w h3 sl sz
end Go.Proofs.YtcidoodaiimhfaaGreat

/- WALK of Push. -/
namespace Go.Proofs.YtcidoodaiimhfaaGreat
open Go.RowKit

theorem pushLong_below (t : ByteArray) (w : World) : Calls Tryz.prog 87 #[.string t] w fun e w' => e = .returned (.bool (longT t)) ∧ Below w.heap.size w w' := by
  have h : decide ((60 : Int) < ((t.size : Nat) : Int)) = longT t := by unfold longT; simp; omega
  go_enter Tryz.func87, Tryz.ntmps87
  go_wp2_with fail
  go_ret
  exact ⟨rfl, Below.refl _ _⟩

set_option maxRecDepth 100000 in
set_option maxHeartbeats 1000000 in
theorem idxPushLong_any (a : Option Addr) (cap : Nat) (ts : List ByteArray) (w : World) (hs : TextsAt w a ts) (hn : ts.length ≤ 2000000) :
    Calls Tryz.prog 153 #[.slice a ts.length cap, .func (.func 87) #[] #[]] w fun e w' => (∃ n : Int, e = .returned (.int .i64 n) ∧ (decide (0 ≤ n) = ts.any longT)) ∧ Below w.heap.size w w' := by
  have HS := hide hs
  clear hs
  go_enter Tryz.func153, Tryz.ntmps153
  go_wp2_with fail
  go_loopw [8] (fun i wr => ∃ k : Nat, k ≤ ts.length ∧ i = .int .i64 k ∧ Below w.heap.size w wr ∧ Hid ((ts.take k).any longT = false)) (fun i _ => ts.length - (intOf i).toNat)
  case atStart => exact ⟨0, Nat.zero_le _, rfl, Below.refl _ _, by simp [Hid]⟩
  case round =>
    obtain ⟨k, hk, rfl, hb, HA⟩ := hrel
    by_cases hlt : k < ts.length
    · obtain ⟨g, o, rfl, hcs⟩ : ∃ g o, a = some ⟨g, o, none⟩ ∧ ∀ i (h : i < ts.length), w.cell? ⟨g, o + i, none⟩ = some (.string ts[i]) := by
        rcases HS.out with h | h
        · subst h; simp at hlt
        · exact h
      have HB : Hid (∀ g o v, w.cell? ⟨g, o, none⟩ = some v → wr.cell? ⟨g, o, none⟩ = some v) := fun g o _ hv => (hb.cell (p := ⟨g, o, none⟩) (World.block_lt_of_cell? _ _ hv)).trans hv
      have d0 : wr.cell? ⟨g, o + k, none⟩ = some (.string ts[k]) := HB.out _ _ _ (hcs k hlt)
      have HT : Hid ((ts.take (k + 1)).any longT = ((ts.take k).any longT || longT ts[k])) := by
        rw [Hid, List.take_succ_eq_append_getElem hlt, List.any_append]
        simp
      have HF : Hid (longT ts[k] = true → ts.any longT = true) := fun hx => List.any_eq_true.mpr ⟨ts[k], List.getElem_mem hlt, hx⟩
      clear hcs HS HB
      go_wp2_with fail
      refine (pushLong_below ts[k] wr).mono ?_
      rintro e w1 ⟨rfl, hb1⟩
      have hb2 : Below w.heap.size w w1 := hb.trans (hb1.mono hb.size)
      cases hx : longT ts[k] with
      | true =>
        have HY := hide (HF.out hx)
        clear HF HT hx
        go_wp2_with fail
        go_ret
        exact ⟨⟨_, rfl, by rw [HY.out]; simp⟩, hb2⟩
      | false =>
        have HY : Hid ((ts.take (k + 1)).any longT = false) := by rw [Hid, HT.out, HA.out, hx]; rfl
        clear HF HT hx
        go_wp2_with fail
        go_roundw
        case rel => exact ⟨k + 1, by omega, by go_num, hb2, HY⟩
        case measure => simp [intOf]; omega
    · have hkk : k = ts.length := by omega
      subst hkk
      have HY : Hid (ts.any longT = false) := by have := HA.out; rw [List.take_length] at this; exact this
      go_wp2_with fail
      go_ret
      exact ⟨⟨-1, rfl, by rw [HY.out]; rfl⟩, hb⟩
theorem containsPushLong_any (a : Option Addr) (cap : Nat) (ts : List ByteArray) (w : World) (hs : TextsAt w a ts) (hn : ts.length ≤ 2000000) :
    Calls Tryz.prog 86 #[.slice a ts.length cap, .func (.func 87) #[] #[]] w fun e w' => e = .returned (.bool (ts.any longT)) ∧ Below w.heap.size w w' := by
  have HI := hide (idxPushLong_any a cap ts w hs hn)
  clear hs
  go_enter Tryz.func86, Tryz.ntmps86
  go_wp2_with fail
  refine HI.out.mono ?_
  rintro e w1 ⟨⟨n, rfl, hd⟩, hb⟩
  have HD := hide hd
  clear hd
  go_wp2_with fail
  go_ret
  exact ⟨by rw [← HD.out]; rfl, hb⟩

/-- an item that is right as a list -/
theorem asI_list {x : Itm} (h : asI x 2 = 0) : x = lstI x.l ∧ x.l.length ≤ 24 ∧ x.l.any longT = false := by
  obtain ⟨k, t, l, p, s⟩ := x
  unfold asI at h
  split at h
  · rename_i hn
    simp only [Itm.isNone, decide_eq_true_eq] at hn
    obtain ⟨rfl, ht, rfl, rfl, rfl⟩ := hn
    obtain rfl := empty_bytes ht
    exact ⟨rfl, by simp, rfl⟩
  · split at h
    · rename_i h1; exact absurd h h1
    · rename_i h1
      split at h
      · cases h
      · rename_i hk
        have hk1 : k = 2 := by
          rcases Int.lt_trichotomy k 2 with h' | h' | h'
          · exact absurd (show k ≠ 2 by omega) hk
          · exact h'
          · exact absurd (show k ≠ 2 by omega) hk
        subst hk1
        have h2 : chkI ⟨2, t, l, p, s⟩ = 0 := by
          rcases Classical.em (chkI ⟨2, t, l, p, s⟩ = 0) with h' | h'
          · exact h'
          · exact absurd h' h1
        unfold chkI at h2
        rw [if_neg (show ¬ ((2 : Int) < 1 ∨ 5 < (2 : Int)) by decide)] at h2
        split at h2
        · cases h2
        · rename_i ho
          rw [if_pos rfl] at h2
          simp only [otherI, decide_eq_true_eq] at ho
          have ht : t.toList = [] := by
            rcases Classical.em (t.toList = []) with h' | h'
            · exact h'
            · exact absurd (Or.inl ⟨by decide, h'⟩) ho
          obtain rfl := empty_bytes ht
          obtain rfl : p = [] := List.eq_nil_of_length_eq_zero (by by_cases hx : 0 < p.length; exact absurd (Or.inr (Or.inr (Or.inl ⟨by decide, hx⟩))) ho; omega)
          obtain rfl : s = [] := List.eq_nil_of_length_eq_zero (by by_cases hx : 0 < s.length; exact absurd (Or.inr (Or.inr (Or.inr ⟨by decide, hx⟩))) ho; omega)
          have hp := sizeT_pos h2
          refine ⟨?_, sizeT_small h2, sizeT_short h2⟩
          simp only [lstI]
          rw [if_neg (fun e => by rw [e] at hp; simp at hp)]
def pushE (x : Itm) (l : List ByteArray) : Int := if asI x 2 ≠ 0 then asI x 2 else if 24 < x.l.length + l.length ∨ l.any longT = true then 2 else if l = [] then 1 else 0
def pushI (x : Itm) (left : Bool) (l : List ByteArray) : Itm := if pushE x l = 0 then lstI (pushL x.l left l) else Itm.none
def pushN (x : Itm) (l : List ByteArray) : Int := if pushE x l = 0 then ((x.l.length : Nat) : Int) + ((l.length : Nat) : Int) else 0
end Go.Proofs.YtcidoodaiimhfaaGreat

/- WALK of Push. -/
namespace Go.Proofs.YtcidoodaiimhfaaGreat
open Go.RowKit

set_option maxRecDepth 100000 in
set_option maxHeartbeats 4000000 in
theorem push_own (v : Value) (x : Itm) (left : Bool) (al : Option Addr) (cl : Nat) (l : List ByteArray) (w : World) (h : ItemIs w v x) (hl : TextsAt w al l) (hll : l.length ≤ 281474976710656) :
    Calls Tryz.prog 33 #[v, .bool left, .slice al l.length cl] w fun e w' => ∃ u, e = .returned (.tuple #[u, .int .i64 (pushN x l), .int .i64 (pushE x l)]) ∧ ItemOwn w.heap.size w' u (pushI x left l) ∧ Below w.heap.size w w' := by
  have HC : Hid (∀ W, Below w.heap.size w W → Calls Tryz.prog 85 #[v, .int .i64 2] W fun e w' => e = .returned (.int .i64 (asI x 2)) ∧ Below W.heap.size W w') := fun W hW => common_any v x 2 W (h.below hW)
  obtain ⟨⟨a1, c1, a2, c2, a3, c3, rfl, hx1, -, -⟩, tz, lz, -, -, -, -, -⟩ := h
  have HL := hide hl
  have HX := hide hx1
  clear hl hx1
  by_cases h0 : asI x 2 = 0
  · obtain ⟨-, hx24, hxl⟩ := asI_list h0
    rw [h0] at HC
    by_cases hbig : 24 < x.l.length + l.length
    · have hE : pushE x l = 2 := by rw [pushE, if_neg (by simp [h0]), if_pos (.inl hbig)]
      rw [pushN, pushI, hE, if_neg (by decide), if_neg (by decide)]
      have hbig' : (24 : Int) < ((x.l.length : Nat) : Int) + ((l.length : Nat) : Int) := by omega
      clear hE h0 hxl
      generalize x.t = t at *
      generalize x.k = k at *
      generalize x.p.length = n2 at *
      generalize x.s.length = n3 at *
      go_enter Tryz.func33, Tryz.ntmps33
      go_wp2_with fail
      refine (HC.out _ (((Below.refl _ w).alloc (Nat.le_refl _) _).alloc (by simp) _)).mono ?_
      rintro e w1 ⟨rfl, hb1⟩
      obtain ⟨hc, hf⟩ := bcell hb1
      have hz : w.heap.size + 1 < w1.heap.size := by have := hb1.size; simp at this; omega
      have hB1 : Below w.heap.size w w1 := (((Below.refl _ w).alloc (Nat.le_refl _) _).alloc (by simp) _).trans (hb1.mono (by simp; omega))
      go_wp2_with fail
      refine bodyPost_ret (v := .tuple #[.agg #[.int .i64 0, .string ⟨#[]⟩, .slice none 0 0, .slice none 0 0, .slice none 0 0], .int .i64 0, .int .i64 2]) (by simp [results, Tryz.results33, go_sem, hc]) rfl ⟨_, rfl, fun w'' _ => zero_is w'', ?_⟩
      go_grown
    · have hbig' : ¬ (24 : Int) < ((x.l.length : Nat) : Int) + ((l.length : Nat) : Int) := by omega
      have HK : Hid (∀ W, Below w.heap.size w W → Calls Tryz.prog 86 #[.slice al l.length cl, .func (.func 87) #[] #[]] W fun e w' => e = .returned (.bool (l.any longT)) ∧ Below W.heap.size W w') := fun W hW => containsPushLong_any al cl l W (HL.out.below hW) (by omega)
      cases hlong : l.any longT with
      | true =>
        have hE : pushE x l = 2 := by rw [pushE, if_neg (by simp [h0]), if_pos (.inr hlong)]
        rw [pushN, pushI, hE, if_neg (by decide), if_neg (by decide)]
        rw [hlong] at HK
        clear hE h0 hxl hlong
        generalize x.t = t at *
        generalize x.k = k at *
        generalize x.p.length = n2 at *
        generalize x.s.length = n3 at *
        go_enter Tryz.func33, Tryz.ntmps33
        go_wp2_with fail
        refine (HC.out _ (((Below.refl _ w).alloc (Nat.le_refl _) _).alloc (by simp) _)).mono ?_
        rintro e w1 ⟨rfl, hb1⟩
        obtain ⟨hc, hf⟩ := bcell hb1
        have hz : w.heap.size + 1 < w1.heap.size := by have := hb1.size; simp at this; omega
        have hB1 : Below w.heap.size w w1 := (((Below.refl _ w).alloc (Nat.le_refl _) _).alloc (by simp) _).trans (hb1.mono (by simp; omega))
        go_wp2_with fail
        refine (HK.out w1 hB1).mono ?_
        rintro e w2 ⟨rfl, hb2⟩
        obtain ⟨hc2, hf2⟩ := bcell hb2
        have hz2 : w.heap.size + 1 < w2.heap.size := by have := hb2.size; omega
        have hB2 : Below w.heap.size w w2 := hB1.trans (hb2.mono hB1.size)
        go_wp2_with fail
        refine bodyPost_ret (v := .tuple #[.agg #[.int .i64 0, .string ⟨#[]⟩, .slice none 0 0, .slice none 0 0, .slice none 0 0], .int .i64 0, .int .i64 2]) (by simp [results, Tryz.results33, go_sem, hc2, hc, hz]) rfl ⟨_, rfl, fun w'' _ => zero_is w'', ?_⟩
        go_grown
      | false =>
        rw [hlong] at HK
        by_cases hne : l = []
        · subst hne
          have hE : pushE x [] = 1 := by rw [pushE, if_neg (by simp [h0]), if_neg (by rintro (h | h); omega; cases h), if_pos rfl]
          rw [pushN, pushI, hE, if_neg (by decide), if_neg (by decide)]
          clear hE h0 hxl hlong
          generalize x.t = t at *
          generalize x.k = k at *
          generalize x.p.length = n2 at *
          generalize x.s.length = n3 at *
          go_enter Tryz.func33, Tryz.ntmps33
          go_wp2_with fail
          refine (HC.out _ (((Below.refl _ w).alloc (Nat.le_refl _) _).alloc (by simp) _)).mono ?_
          rintro e w1 ⟨rfl, hb1⟩
          obtain ⟨hc, hf⟩ := bcell hb1
          have hz : w.heap.size + 1 < w1.heap.size := by have := hb1.size; simp at this; omega
          have hB1 : Below w.heap.size w w1 := (((Below.refl _ w).alloc (Nat.le_refl _) _).alloc (by simp) _).trans (hb1.mono (by simp; omega))
          go_wp2_with fail
          refine (HK.out w1 hB1).mono ?_
          rintro e w2 ⟨rfl, hb2⟩
          obtain ⟨hc2, hf2⟩ := bcell hb2
          have hz2 : w.heap.size + 1 < w2.heap.size := by have := hb2.size; omega
          have hB2 : Below w.heap.size w w2 := hB1.trans (hb2.mono hB1.size)
          go_wp2_with fail
          refine bodyPost_ret (v := .tuple #[.agg #[.int .i64 0, .string ⟨#[]⟩, .slice none 0 0, .slice none 0 0, .slice none 0 0], .int .i64 0, .int .i64 1]) (by simp [results, Tryz.results33, go_sem, hc2, hc, hz]) rfl ⟨_, rfl, fun w'' _ => zero_is w'', ?_⟩
          go_grown
        · have hE : pushE x l = 0 := by rw [pushE, if_neg (by simp [h0]), if_neg (by rintro (h | h); omega; rw [hlong] at h; cases h), if_neg hne]
          have hlp : 0 < l.length := List.length_pos_iff.2 hne
          have hl0 : (((l.length : Nat) : Int) == 0) = false := by rw [beq_eq_false_iff_ne]; omega
          rw [pushN, pushI, hE, if_pos rfl, if_pos rfl]
          have HTG : Hid (∀ W, Below w.heap.size w W → Calls Tryz.prog 88 #[.slice a1 x.l.length c1, .bool left, .slice al l.length cl] W fun e w' => ∃ v, e = .returned v ∧ w'.ownsRow W.heap.size 9 1 v (pushL x.l left l).length (strs (pushL x.l left l)) ∧ Below W.heap.size W w') := fun W hW => together_any a1 al c1 cl x.l l left W (HX.out.below hW) (HL.out.below hW) hne (by omega)
          have HPZ : Hid (∀ t ∈ pushL x.l left l, t.size ≤ maxLen) := fun t ht => by
            have hm : t ∈ x.l ∨ t ∈ l := by
              unfold pushL at ht
              split at ht
              · rcases List.mem_append.1 ht with h | h
                · exact .inr (List.mem_reverse.1 h)
                · exact .inl h
              · rcases List.mem_append.1 ht with h | h
                · exact .inl h
                · exact .inr h
            rcases hm with h | h
            · exact lz t h
            · have := List.any_eq_false.1 hlong t h
              simp only [longT, decide_eq_true_eq] at this
              unfold maxLen
              omega
          have HPL : Hid ((pushL x.l left l).length = x.l.length + l.length) := by unfold pushL; split <;> simp [Hid]; omega
          have HPN : Hid (pushL x.l left l ≠ []) := fun e => by have := HPL.out; rw [e] at this; simp at this; omega
          clear hE h0 hxl hlong lz
          generalize pushL x.l left l = K at *
          generalize x.t = t at *
          generalize x.k = k at *
          generalize x.p.length = n2 at *
          generalize x.s.length = n3 at *
          go_enter Tryz.func33, Tryz.ntmps33
          go_wp2_with fail
          refine (HC.out _ (((Below.refl _ w).alloc (Nat.le_refl _) _).alloc (by simp) _)).mono ?_
          rintro e w1 ⟨rfl, hb1⟩
          obtain ⟨hc, hf⟩ := bcell hb1
          have hz : w.heap.size + 1 < w1.heap.size := by have := hb1.size; simp at this; omega
          have hB1 : Below w.heap.size w w1 := (((Below.refl _ w).alloc (Nat.le_refl _) _).alloc (by simp) _).trans (hb1.mono (by simp; omega))
          go_wp2_with fail
          refine (HK.out w1 hB1).mono ?_
          rintro e w2 ⟨rfl, hb2⟩
          obtain ⟨hc2, hf2⟩ := bcell hb2
          have hz2 : w.heap.size + 1 < w2.heap.size := by have := hb2.size; omega
          have hB2 : Below w.heap.size w w2 := hB1.trans (hb2.mono hB1.size)
          have y1 : w.heap.size < w1.heap.size := by omega
          have y2 : w.heap.size < w2.heap.size := by omega
          go_wp2_with fail
          refine (HTG.out w2 hB2).mono ?_
          rintro e w3 ⟨u, rfl, hown, hb3⟩
          obtain ⟨ao, cp, rfl⟩ := slice_own hown
          obtain ⟨hc3, hf3⟩ := bcell hb3
          have hz3 : w.heap.size + 1 < w3.heap.size := by have := hb3.size; omega
          have hB3 : Below w.heap.size w w3 := hB2.trans (hb3.mono hB2.size)
          have HT : Hid (∀ w', (∀ g o u, w2.heap.size ≤ g → w3.cell? ⟨g, o, none⟩ = some u → w3.frozen? ⟨g, o, none⟩ = false → w'.cell? ⟨g, o, none⟩ = some u) → TextsAt w' ao K) := fun w' hw => texts_ownF hown hw
          clear hown
          generalize hKL : K.length = n at *
          go_wp2_with fail
          refine bodyPost_ret (v := .tuple #[.agg #[.int .i64 2, .string ⟨#[]⟩, .slice ao n cp, .slice none 0 0, .slice none 0 0], .int .i64 (((x.l.length : Nat) : Int) + ((l.length : Nat) : Int)), .int .i64 0]) (by simp [results, Tryz.results33, go_sem, hc3, hc2, hc, hz, hz2]) rfl ⟨_, rfl, ?_, ?_⟩
          · subst hKL
            exact fun w'' hw => lstI_is (HT.out w'' (fun g o u hg hu hf => hw g o u (by omega) ((five_apart _ _ _ _ _ _ _ g o (by omega)).trans hu) (by simpa using hf))) HPN.out HPZ.out (by rw [HPL.out]; omega)
          · go_grown
  · have hE : pushE x l = asI x 2 := by rw [pushE, if_pos h0]
    have h0' : (asI x 2 == 0) = false := by rw [beq_eq_false_iff_ne]; exact h0
    rw [pushN, pushI, hE, if_neg h0, if_neg h0]
    clear hE
    generalize asI x 2 = E at *
    generalize x.t = t at *
    generalize x.k = k at *
    generalize x.p.length = n2 at *
    generalize x.s.length = n3 at *
    go_enter Tryz.func33, Tryz.ntmps33
    go_wp2_with fail
    refine (HC.out _ (((Below.refl _ w).alloc (Nat.le_refl _) _).alloc (by simp) _)).mono ?_
    rintro e w1 ⟨rfl, hb1⟩
    obtain ⟨hc, hf⟩ := bcell hb1
    have hz : w.heap.size + 1 < w1.heap.size := by have := hb1.size; simp at this; omega
    have hB1 : Below w.heap.size w w1 := (((Below.refl _ w).alloc (Nat.le_refl _) _).alloc (by simp) _).trans (hb1.mono (by simp; omega))
    go_wp2_with fail
    refine bodyPost_ret (v := .tuple #[.agg #[.int .i64 0, .string ⟨#[]⟩, .slice none 0 0, .slice none 0 0, .slice none 0 0], .int .i64 0, .int .i64 E]) (by simp [results, Tryz.results33, go_sem, hc]) rfl ⟨_, rfl, fun w'' _ => zero_is w'', ?_⟩
    go_grown
theorem push_any (v : Value) (x : Itm) (left : Bool) (al : Option Addr) (cl : Nat) (l : List ByteArray) (w : World) (h : ItemIs w v x) (hl : TextsAt w al l) (hll : l.length ≤ 281474976710656) :
    Calls Tryz.prog 33 #[v, .bool left, .slice al l.length cl] w fun e w' => ∃ u, e = .returned (.tuple #[u, .int .i64 (pushN x l), .int .i64 (pushE x l)]) ∧ ItemFrom w.heap.size w' u (pushI x left l) ∧ Below w.heap.size w w' :=
  (push_own v x left al cl l w h hl hll).mono fun _ _ ⟨u, he, hi, hb⟩ => ⟨u, he, hi.from, hb⟩
end Go.Proofs.YtcidoodaiimhfaaGreat

/- WALK of Pop. -/
namespace Go.Proofs.YtcidoodaiimhfaaGreat
open Go.RowKit

def popE (x : Itm) : Int := if asI x 2 ≠ 0 then asI x 2 else if x.l = [] then 5 else 0
def popAt (left : Bool) (l : List ByteArray) : Nat := if left then 0 else l.length - 1
def popK (l : List ByteArray) (left : Bool) : List ByteArray := keptTo (fun i _ => decide (i = popAt left l)) l l.length
def popI (x : Itm) (left : Bool) : Itm := if popE x = 0 then lstI (popK x.l left) else Itm.none
def popS (x : Itm) (left : Bool) : ByteArray := if popE x = 0 then x.l[popAt left x.l]! else ⟨#[]⟩
set_option maxRecDepth 100000 in
set_option maxHeartbeats 4000000 in
theorem pop_own (v : Value) (x : Itm) (left : Bool) (w : World) (h : ItemIs w v x) :
    Calls Tryz.prog 34 #[v, .bool left] w fun e w' => ∃ u, e = .returned (.tuple #[u, .string (popS x left), .int .i64 (popE x)]) ∧ ItemOwn w.heap.size w' u (popI x left) ∧ Below w.heap.size w w' := by
  have HC : Hid (∀ W, Below w.heap.size w W → Calls Tryz.prog 85 #[v, .int .i64 2] W fun e w' => e = .returned (.int .i64 (asI x 2)) ∧ Below W.heap.size W w') := fun W hW => common_any v x 2 W (h.below hW)
  obtain ⟨⟨a1, c1, a2, c2, a3, c3, rfl, hx1, -, -⟩, tz, lz, -, -, -, -, -⟩ := h
  have HX := hide hx1
  clear hx1
  by_cases h0 : asI x 2 = 0
  · obtain ⟨-, hx24, hxl⟩ := asI_list h0
    rw [h0] at HC
    by_cases hne : x.l = []
    · have hE : popE x = 5 := by rw [popE, if_neg (by simp [h0]), if_pos hne]
      rw [popS, popI, hE, if_neg (by decide), if_neg (by decide)]
      rw [hne] at HC ⊢
      clear hE h0 hxl hne HX
      generalize x.t = t at *
      generalize x.k = k at *
      generalize x.p.length = n2 at *
      generalize x.s.length = n3 at *
      go_enter Tryz.func34, Tryz.ntmps34
      go_wp2_with fail
      refine (HC.out _ (((Below.refl _ w).alloc (Nat.le_refl _) _).alloc (by simp) _)).mono ?_
      rintro e w1 ⟨rfl, hb1⟩
      obtain ⟨hc, hf⟩ := bcell hb1
      have hz : w.heap.size + 1 < w1.heap.size := by have := hb1.size; simp at this; omega
      have hB1 : Below w.heap.size w w1 := (((Below.refl _ w).alloc (Nat.le_refl _) _).alloc (by simp) _).trans (hb1.mono (by simp; omega))
      go_wp2_with fail
      refine bodyPost_ret (v := .tuple #[.agg #[.int .i64 0, .string ⟨#[]⟩, .slice none 0 0, .slice none 0 0, .slice none 0 0], .string ⟨#[]⟩, .int .i64 5]) (by simp [results, Tryz.results34, go_sem, hc]) rfl ⟨_, rfl, fun w'' _ => zero_is w'', ?_⟩
      go_grown
    · have hE : popE x = 0 := by rw [popE, if_neg (by simp [h0]), if_neg hne]
      rw [popS, popI, hE, if_pos rfl, if_pos rfl, popK]
      have hpos : 0 < x.l.length := List.length_pos_iff.2 hne
      have hl0 : (((x.l.length : Nat) : Int) == 0) = false := by rw [beq_eq_false_iff_ne]; omega
      have HZ := hide lz
      clear hE h0 hxl hne lz
      generalize x.l = L at *
      cases left with
      | true =>
        have hat : 0 < L.length := hpos
        rw [show popAt true L = 0 from rfl, getElem!_pos L 0 hat]
        have HW : Hid (∀ (b : Nat) (W : World), Below w.heap.size w W → W.cell? ⟨b, 0, none⟩ = some (.int .i64 ((0 : Nat) : Int)) → Calls Tryz.prog 89 #[.slice a1 L.length c1, .func (.func 90) #[] #[.pointer (some ⟨b, 0, none⟩)]] W fun e w' => ∃ v, e = .returned v ∧ ItemOwn W.heap.size w' v (lstI (keptTo (fun i _ => decide (i = 0)) L L.length)) ∧ Below W.heap.size W w') := fun b W hW hc => withoutP_any b 0 a1 c1 L W (HX.out.below hW) (by omega) HZ.out hc
        generalize x.t = t at *
        generalize x.k = k at *
        generalize x.p.length = n2 at *
        generalize x.s.length = n3 at *
        go_enter Tryz.func34, Tryz.ntmps34
        go_wp2_with fail
        refine (HC.out _ (((Below.refl _ w).alloc (Nat.le_refl _) _).alloc (by simp) _)).mono ?_
        rintro e w1 ⟨rfl, hb1⟩
        obtain ⟨hc, hf⟩ := bcell hb1
        have hz : w.heap.size + 1 < w1.heap.size := by have := hb1.size; simp at this; omega
        have hB1 : Below w.heap.size w w1 := (((Below.refl _ w).alloc (Nat.le_refl _) _).alloc (by simp) _).trans (hb1.mono (by simp; omega))
        go_wp2_with fail
        obtain ⟨g, o, rfl, hcs⟩ : ∃ g o, a1 = some ⟨g, o, none⟩ ∧ ∀ i (h : i < L.length), w.cell? ⟨g, o + i, none⟩ = some (.string L[i]) := by
          rcases HX.out with h | h
          · subst h; simp at hpos
          · exact h
        have hgl : g < w.heap.size := World.block_lt_of_cell? _ _ (hcs _ hat)
        have HO : Hid (w1.cell? ⟨g, o, none⟩ = some (.string L[0])) := (hB1.cell (p := ⟨g, o, none⟩) hgl).trans (by simpa using hcs _ hat)
        have HX1 : Hid (w1.cell? ⟨w.heap.size, 2, none⟩ = some (.slice (some ⟨g, o, none⟩) L.length c1)) := (hc _ _ (by simp; omega)).trans (by simp [go_sem])
        have HK0 : Hid (∀ j, w1.frozen? ⟨w.heap.size + 1, j, none⟩ = false) := fun j => (hf _ _ (by simp)).trans (by simp [go_sem])
        have HB0 : Hid (w1.cell? ⟨w.heap.size + 1, 0, none⟩ = some (.int .i64 0) ∧ w1.cell? ⟨w.heap.size + 1, 1, none⟩ = some (.string ⟨#[]⟩) ∧ w1.cell? ⟨w.heap.size + 1, 2, none⟩ = some (.slice none 0 0) ∧ w1.cell? ⟨w.heap.size + 1, 3, none⟩ = some (.slice none 0 0) ∧ w1.cell? ⟨w.heap.size + 1, 4, none⟩ = some (.slice none 0 0)) :=
          ⟨(hc _ _ (by simp)).trans (by simp [go_sem]), (hc _ _ (by simp)).trans (by simp [go_sem]), (hc _ _ (by simp)).trans (by simp [go_sem]), (hc _ _ (by simp)).trans (by simp [go_sem]), (hc _ _ (by simp)).trans (by simp [go_sem])⟩
        have CB : Below w.heap.size w (w1.alloc (.cells #[.int .i64 ((0 : Nat) : Int)] 3)) := hB1.alloc hB1.size _
        have c2' : w1.cell? ⟨w.heap.size, 2, none⟩ = some (.slice (some ⟨g, o, none⟩) L.length c1) := HX1.out
        have o2' : w1.cell? ⟨g, o, none⟩ = some (.string L[0]) := HO.out
        have hgl1 : g < w1.heap.size := by omega
        have hy1 : w.heap.size < w1.heap.size := by omega
        clear hcs HX hc hf hb1 HO HX1
        go_wp2_with fail
        generalize hW1 : World.alloc w1 _ = W1
        have AB : Below w1.heap.size w1 W1 := by rw [← hW1]; exact (Below.refl _ _).alloc (Nat.le_refl _) _
        have zW : w1.heap.size < W1.heap.size := by rw [← hW1]; simp
        have A0 : W1.cell? ⟨w1.heap.size, 0, none⟩ = some (.int .i64 ((0 : Nat) : Int)) := by rw [← hW1]; simp [go_sem]
        have CW : Below w.heap.size w W1 := hB1.trans (AB.mono hB1.size)
        have X2 : W1.cell? ⟨w.heap.size, 2, none⟩ = some (.slice (some ⟨g, o, none⟩) L.length c1) := (AB.cell (p := ⟨w.heap.size, 2, none⟩) hy1).trans c2'
        have O2 : W1.cell? ⟨g, o, none⟩ = some (.string L[0]) := (AB.cell (p := ⟨g, o, none⟩) hgl1).trans o2'
        have HBB : Hid (∀ w2, Below W1.heap.size W1 w2 → (w2.cell? ⟨w.heap.size + 1, 0, none⟩ = some (.int .i64 0) ∧ w2.cell? ⟨w.heap.size + 1, 1, none⟩ = some (.string ⟨#[]⟩) ∧ w2.cell? ⟨w.heap.size + 1, 2, none⟩ = some (.slice none 0 0) ∧ w2.cell? ⟨w.heap.size + 1, 3, none⟩ = some (.slice none 0 0) ∧ w2.cell? ⟨w.heap.size + 1, 4, none⟩ = some (.slice none 0 0)) ∧ (∀ j, w2.frozen? ⟨w.heap.size + 1, j, none⟩ = false) ∧ w2.cell? ⟨w.heap.size, 2, none⟩ = some (.slice (some ⟨g, o, none⟩) L.length c1) ∧ w2.cell? ⟨w1.heap.size, 0, none⟩ = some (.int .i64 ((0 : Nat) : Int)) ∧ w2.cell? ⟨g, o, none⟩ = some (.string L[0])) := fun w2 h2 => by
          have hyy : w.heap.size + 1 < W1.heap.size := by omega
          have A2 : Below w1.heap.size w1 w2 := AB.trans (h2.mono (Nat.le_of_lt zW))
          obtain ⟨b0, b1, b2, b3, b4⟩ := HB0.out
          exact ⟨⟨(A2.cell (p := ⟨w.heap.size + 1, 0, none⟩) hz).trans b0, (A2.cell (p := ⟨w.heap.size + 1, 1, none⟩) hz).trans b1, (A2.cell (p := ⟨w.heap.size + 1, 2, none⟩) hz).trans b2, (A2.cell (p := ⟨w.heap.size + 1, 3, none⟩) hz).trans b3, (A2.cell (p := ⟨w.heap.size + 1, 4, none⟩) hz).trans b4⟩, fun j => (A2.frozen (p := ⟨w.heap.size + 1, j, none⟩) hz).trans (HK0.out j), (h2.cell (p := ⟨w.heap.size, 2, none⟩) (by simp only; omega)).trans X2, (h2.cell (p := ⟨w1.heap.size, 0, none⟩) zW).trans A0, (h2.cell (p := ⟨g, o, none⟩) (by simp only; omega)).trans O2⟩
        have ne1 : w1.heap.size ≠ w.heap.size + 1 := by omega
        have ne2 : w.heap.size + 1 ≠ w1.heap.size := by omega
        have ne3 : g ≠ w.heap.size + 1 := by omega
        have ne4 : w.heap.size + 1 ≠ g := by omega
        clear hW1 CB c2' o2'
        go_region_held3 (fun w' => w'.cell? ⟨w.heap.size, 2, none⟩ = some (.slice (some ⟨g, o, none⟩) L.length c1) ∧ w'.cell? ⟨w1.heap.size, 0, none⟩ = some (.int .i64 ((0 : Nat) : Int)) ∧ w'.cell? ⟨g, o, none⟩ = some (.string L[0])) (go_keep)
          ((go_at_call 89; refine (HW.out w1.heap.size _ CW.drew A0).mono ?_; rintro e w2 ⟨u, rfl, hI, hb2⟩; obtain ⟨⟨i1, j1, i2, j2, i3, j3, rfl, -, -, -⟩, -, -, -, -, -, -, -⟩ := id hI.is; obtain ⟨⟨b0, b1, b2, b3, b4⟩, fz, s2, s1, s3⟩ := HBB.out w2 ⟨hb2.os, hb2.tape, hb2.output, hb2.size, hb2.block⟩; have fz0 := fz 0; have fz1 := fz 1; have fz2 := fz 2; have fz3 := fz 3; have fz4 := fz 4))
        all_goals
          go_wp2_with fail
          have hb2' : Below W1.heap.size W1 w2 := ⟨hb2.os, hb2.tape, hb2.output, hb2.size, hb2.block⟩
          have C2 : Below w.heap.size w w2 := CW.trans (hb2'.mono CW.size)
          refine bodyPost_ret (v := .tuple #[.agg #[.int .i64 (lstI (keptTo (fun i _ => decide (i = 0)) L L.length)).k, .string (lstI (keptTo (fun i _ => decide (i = 0)) L L.length)).t, .slice i1 (lstI (keptTo (fun i _ => decide (i = 0)) L L.length)).l.length j1, .slice i2 (lstI (keptTo (fun i _ => decide (i = 0)) L L.length)).p.length j2, .slice i3 (lstI (keptTo (fun i _ => decide (i = 0)) L L.length)).s.length j3], .string L[0], .int .i64 0]) (by simp [results, Tryz.results34, go_sem, b0, b1, b2, b3, b4]) rfl ⟨_, rfl, ?_, ?_⟩
          · exact fun w'' hw => hI w'' (fun g' o' u' hg hu hf => hw g' o' u' (by have : W1.drew.heap.size = W1.heap.size := rfl; omega) ((five_apart _ _ _ _ _ _ _ g' o' (by have : W1.drew.heap.size = W1.heap.size := rfl; omega)).trans hu) (by simpa using hf))
          · go_grown
      | false =>
        obtain ⟨m, hm⟩ : ∃ m, m = L.length - 1 := ⟨_, rfl⟩
        have hat : m < L.length := by omega
        rw [show popAt false L = m by rw [hm]; rfl, getElem!_pos L m hat]
        have hmI : ((L.length : Nat) : Int) - 1 = ((m : Nat) : Int) := by omega
        have hmi : ((m : Nat) : Int) < ((L.length : Nat) : Int) := by omega
        have HW : Hid (∀ (b : Nat) (W : World), Below w.heap.size w W → W.cell? ⟨b, 0, none⟩ = some (.int .i64 ((m : Nat) : Int)) → Calls Tryz.prog 89 #[.slice a1 L.length c1, .func (.func 90) #[] #[.pointer (some ⟨b, 0, none⟩)]] W fun e w' => ∃ v, e = .returned v ∧ ItemOwn W.heap.size w' v (lstI (keptTo (fun i _ => decide (i = m)) L L.length)) ∧ Below W.heap.size W w') := fun b W hW hc => withoutP_any b m a1 c1 L W (HX.out.below hW) (by omega) HZ.out hc
        clear hm
        generalize x.t = t at *
        generalize x.k = k at *
        generalize x.p.length = n2 at *
        generalize x.s.length = n3 at *
        go_enter Tryz.func34, Tryz.ntmps34
        go_wp2_with fail
        refine (HC.out _ (((Below.refl _ w).alloc (Nat.le_refl _) _).alloc (by simp) _)).mono ?_
        rintro e w1 ⟨rfl, hb1⟩
        obtain ⟨hc, hf⟩ := bcell hb1
        have hz : w.heap.size + 1 < w1.heap.size := by have := hb1.size; simp at this; omega
        have hB1 : Below w.heap.size w w1 := (((Below.refl _ w).alloc (Nat.le_refl _) _).alloc (by simp) _).trans (hb1.mono (by simp; omega))
        go_wp2_with fail
        obtain ⟨g, o, rfl, hcs⟩ : ∃ g o, a1 = some ⟨g, o, none⟩ ∧ ∀ i (h : i < L.length), w.cell? ⟨g, o + i, none⟩ = some (.string L[i]) := by
          rcases HX.out with h | h
          · subst h; simp at hpos
          · exact h
        have hgl : g < w.heap.size := World.block_lt_of_cell? _ _ (hcs _ hat)
        have HO : Hid (w1.cell? ⟨g, o + m, none⟩ = some (.string L[m])) := (hB1.cell (p := ⟨g, o + m, none⟩) hgl).trans (by simpa using hcs _ hat)
        have HX1 : Hid (w1.cell? ⟨w.heap.size, 2, none⟩ = some (.slice (some ⟨g, o, none⟩) L.length c1)) := (hc _ _ (by simp; omega)).trans (by simp [go_sem])
        have HK0 : Hid (∀ j, w1.frozen? ⟨w.heap.size + 1, j, none⟩ = false) := fun j => (hf _ _ (by simp)).trans (by simp [go_sem])
        have HB0 : Hid (w1.cell? ⟨w.heap.size + 1, 0, none⟩ = some (.int .i64 0) ∧ w1.cell? ⟨w.heap.size + 1, 1, none⟩ = some (.string ⟨#[]⟩) ∧ w1.cell? ⟨w.heap.size + 1, 2, none⟩ = some (.slice none 0 0) ∧ w1.cell? ⟨w.heap.size + 1, 3, none⟩ = some (.slice none 0 0) ∧ w1.cell? ⟨w.heap.size + 1, 4, none⟩ = some (.slice none 0 0)) :=
          ⟨(hc _ _ (by simp)).trans (by simp [go_sem]), (hc _ _ (by simp)).trans (by simp [go_sem]), (hc _ _ (by simp)).trans (by simp [go_sem]), (hc _ _ (by simp)).trans (by simp [go_sem]), (hc _ _ (by simp)).trans (by simp [go_sem])⟩
        have CB : Below w.heap.size w (w1.alloc (.cells #[.int .i64 ((m : Nat) : Int)] 3)) := hB1.alloc hB1.size _
        have c2' : w1.cell? ⟨w.heap.size, 2, none⟩ = some (.slice (some ⟨g, o, none⟩) L.length c1) := HX1.out
        have o2' : w1.cell? ⟨g, o + m, none⟩ = some (.string L[m]) := HO.out
        have hgl1 : g < w1.heap.size := by omega
        have hy1 : w.heap.size < w1.heap.size := by omega
        clear hcs HX hc hf hb1 HO HX1
        go_wp2_with fail
        generalize hW1 : World.alloc w1 _ = W1
        have AB : Below w1.heap.size w1 W1 := by rw [← hW1]; exact (Below.refl _ _).alloc (Nat.le_refl _) _
        have zW : w1.heap.size < W1.heap.size := by rw [← hW1]; simp
        have A0 : W1.cell? ⟨w1.heap.size, 0, none⟩ = some (.int .i64 ((m : Nat) : Int)) := by rw [← hW1]; simp [go_sem]
        have CW : Below w.heap.size w W1 := hB1.trans (AB.mono hB1.size)
        have X2 : W1.cell? ⟨w.heap.size, 2, none⟩ = some (.slice (some ⟨g, o, none⟩) L.length c1) := (AB.cell (p := ⟨w.heap.size, 2, none⟩) hy1).trans c2'
        have O2 : W1.cell? ⟨g, o + m, none⟩ = some (.string L[m]) := (AB.cell (p := ⟨g, o + m, none⟩) hgl1).trans o2'
        have HBB : Hid (∀ w2, Below W1.heap.size W1 w2 → (w2.cell? ⟨w.heap.size + 1, 0, none⟩ = some (.int .i64 0) ∧ w2.cell? ⟨w.heap.size + 1, 1, none⟩ = some (.string ⟨#[]⟩) ∧ w2.cell? ⟨w.heap.size + 1, 2, none⟩ = some (.slice none 0 0) ∧ w2.cell? ⟨w.heap.size + 1, 3, none⟩ = some (.slice none 0 0) ∧ w2.cell? ⟨w.heap.size + 1, 4, none⟩ = some (.slice none 0 0)) ∧ (∀ j, w2.frozen? ⟨w.heap.size + 1, j, none⟩ = false) ∧ w2.cell? ⟨w.heap.size, 2, none⟩ = some (.slice (some ⟨g, o, none⟩) L.length c1) ∧ w2.cell? ⟨w1.heap.size, 0, none⟩ = some (.int .i64 ((m : Nat) : Int)) ∧ w2.cell? ⟨g, o + m, none⟩ = some (.string L[m])) := fun w2 h2 => by
          have hyy : w.heap.size + 1 < W1.heap.size := by omega
          have A2 : Below w1.heap.size w1 w2 := AB.trans (h2.mono (Nat.le_of_lt zW))
          obtain ⟨b0, b1, b2, b3, b4⟩ := HB0.out
          exact ⟨⟨(A2.cell (p := ⟨w.heap.size + 1, 0, none⟩) hz).trans b0, (A2.cell (p := ⟨w.heap.size + 1, 1, none⟩) hz).trans b1, (A2.cell (p := ⟨w.heap.size + 1, 2, none⟩) hz).trans b2, (A2.cell (p := ⟨w.heap.size + 1, 3, none⟩) hz).trans b3, (A2.cell (p := ⟨w.heap.size + 1, 4, none⟩) hz).trans b4⟩, fun j => (A2.frozen (p := ⟨w.heap.size + 1, j, none⟩) hz).trans (HK0.out j), (h2.cell (p := ⟨w.heap.size, 2, none⟩) (by simp only; omega)).trans X2, (h2.cell (p := ⟨w1.heap.size, 0, none⟩) zW).trans A0, (h2.cell (p := ⟨g, o + m, none⟩) (by simp only; omega)).trans O2⟩
        have ne1 : w1.heap.size ≠ w.heap.size + 1 := by omega
        have ne2 : w.heap.size + 1 ≠ w1.heap.size := by omega
        have ne3 : g ≠ w.heap.size + 1 := by omega
        have ne4 : w.heap.size + 1 ≠ g := by omega
        clear hW1 CB c2' o2'
        go_region_held3 (fun w' => w'.cell? ⟨w.heap.size, 2, none⟩ = some (.slice (some ⟨g, o, none⟩) L.length c1) ∧ w'.cell? ⟨w1.heap.size, 0, none⟩ = some (.int .i64 ((m : Nat) : Int)) ∧ w'.cell? ⟨g, o + m, none⟩ = some (.string L[m])) (go_keep)
          ((go_at_call 89; refine (HW.out w1.heap.size _ CW.drew A0).mono ?_; rintro e w2 ⟨u, rfl, hI, hb2⟩; obtain ⟨⟨i1, j1, i2, j2, i3, j3, rfl, -, -, -⟩, -, -, -, -, -, -, -⟩ := id hI.is; obtain ⟨⟨b0, b1, b2, b3, b4⟩, fz, s2, s1, s3⟩ := HBB.out w2 ⟨hb2.os, hb2.tape, hb2.output, hb2.size, hb2.block⟩; have fz0 := fz 0; have fz1 := fz 1; have fz2 := fz 2; have fz3 := fz 3; have fz4 := fz 4))
        all_goals
          go_wp2_with fail
          have hb2' : Below W1.heap.size W1 w2 := ⟨hb2.os, hb2.tape, hb2.output, hb2.size, hb2.block⟩
          have C2 : Below w.heap.size w w2 := CW.trans (hb2'.mono CW.size)
          refine bodyPost_ret (v := .tuple #[.agg #[.int .i64 (lstI (keptTo (fun i _ => decide (i = m)) L L.length)).k, .string (lstI (keptTo (fun i _ => decide (i = m)) L L.length)).t, .slice i1 (lstI (keptTo (fun i _ => decide (i = m)) L L.length)).l.length j1, .slice i2 (lstI (keptTo (fun i _ => decide (i = m)) L L.length)).p.length j2, .slice i3 (lstI (keptTo (fun i _ => decide (i = m)) L L.length)).s.length j3], .string L[m], .int .i64 0]) (by simp [results, Tryz.results34, go_sem, b0, b1, b2, b3, b4]) rfl ⟨_, rfl, ?_, ?_⟩
          · exact fun w'' hw => hI w'' (fun g' o' u' hg hu hf => hw g' o' u' (by have : W1.drew.heap.size = W1.heap.size := rfl; omega) ((five_apart _ _ _ _ _ _ _ g' o' (by have : W1.drew.heap.size = W1.heap.size := rfl; omega)).trans hu) (by simpa using hf))
          · go_grown
  · have hE : popE x = asI x 2 := by rw [popE, if_pos h0]
    have h0' : (asI x 2 == 0) = false := by rw [beq_eq_false_iff_ne]; exact h0
    rw [popS, popI, hE, if_neg h0, if_neg h0]
    clear hE
    generalize asI x 2 = E at *
    generalize x.t = t at *
    generalize x.k = k at *
    generalize x.p.length = n2 at *
    generalize x.s.length = n3 at *
    go_enter Tryz.func34, Tryz.ntmps34
    go_wp2_with fail
    refine (HC.out _ (((Below.refl _ w).alloc (Nat.le_refl _) _).alloc (by simp) _)).mono ?_
    rintro e w1 ⟨rfl, hb1⟩
    obtain ⟨hc, hf⟩ := bcell hb1
    have hz : w.heap.size + 1 < w1.heap.size := by have := hb1.size; simp at this; omega
    have hB1 : Below w.heap.size w w1 := (((Below.refl _ w).alloc (Nat.le_refl _) _).alloc (by simp) _).trans (hb1.mono (by simp; omega))
    go_wp2_with fail
    refine bodyPost_ret (v := .tuple #[.agg #[.int .i64 0, .string ⟨#[]⟩, .slice none 0 0, .slice none 0 0, .slice none 0 0], .string ⟨#[]⟩, .int .i64 E]) (by simp [results, Tryz.results34, go_sem, hc]) rfl ⟨_, rfl, fun w'' _ => zero_is w'', ?_⟩
    go_grown
theorem pop_any (v : Value) (x : Itm) (left : Bool) (w : World) (h : ItemIs w v x) :
    Calls Tryz.prog 34 #[v, .bool left] w fun e w' => ∃ u, e = .returned (.tuple #[u, .string (popS x left), .int .i64 (popE x)]) ∧ ItemFrom w.heap.size w' u (popI x left) ∧ Below w.heap.size w w' :=
  (pop_own v x left w h).mono fun _ _ ⟨u, he, hi, hb⟩ => ⟨u, he, hi.from, hb⟩
end Go.Proofs.YtcidoodaiimhfaaGreat

/- What Pop does with lists, as plain data. -/
namespace Go.Proofs.YtcidoodaiimhfaaGreat
open Go.RowKit

theorem lst_as {l : List ByteArray} (h : l.length ≤ 24) (hl : l.any longT = false) : asI (lstI l) 2 = 0 := by
  by_cases hn : l = []
  · subst hn
    rw [asI, if_pos (by simp [lstI, Itm.isNone, Itm.none, ByteArray.toList_eq])]
  · have e : lstI l = ⟨2, ⟨#[]⟩, l, [], []⟩ := by rw [lstI, if_neg hn]
    have hp : 0 < l.length := List.length_pos_iff.2 hn
    have h1 : chkI ⟨2, ⟨#[]⟩, l, [], []⟩ = 0 := by
      unfold chkI
      rw [if_neg (show ¬ ((2 : Int) < 1 ∨ 5 < (2 : Int)) by decide), if_neg (by simp [otherI, ByteArray.toList_eq]), if_pos rfl]
      unfold sizeT
      rw [if_neg (by simp only; omega), if_neg (by rw [hl]; rintro (h' | h'); simp only at h'; omega; cases h')]
    rw [e]
    unfold asI
    split
    · rfl
    · rw [if_neg (by simp [h1]), if_neg (by simp)]
theorem lstI_l' (l : List ByteArray) : (lstI l).l = l := by
  unfold lstI
  split
  · rename_i h; rw [h]; rfl
  · rfl
theorem kept_struck (l : List ByteArray) (m : Nat) : ∀ k, k ≤ l.length → keptTo (fun i _ => decide (i = m)) l k = if k ≤ m then l.take k else l.take m ++ (l.take k).drop (m + 1)
  | 0, _ => by simp [keptTo]
  | k + 1, hk => by
    have ih := kept_struck l m k (by omega)
    have ht : l.take (k + 1) = l.take k ++ [l[k]] := by rw [List.take_append_getElem]
    by_cases hm : k = m
    · rw [keptTo_go (by omega) (by simp [hm]), ih, if_pos (by omega), if_neg (by omega), hm]
      rw [List.drop_of_length_le (by rw [List.length_take]; omega), List.append_nil]
    · rw [keptTo_stay (by omega) (by simp [hm]), ih]
      by_cases h : k < m
      · rw [if_pos (by omega), if_pos (by omega), ht]
      · rw [if_neg (by omega), if_neg (by omega), ht, List.drop_append_of_le_length (by rw [List.length_take]; omega), List.append_assoc]
theorem popK_front (t : ByteArray) (M : List ByteArray) : popK (t :: M) true = M := by
  rw [popK, show popAt true (t :: M) = 0 from rfl, kept_struck _ _ _ (Nat.le_refl _), if_neg (by simp), List.take_length]
  rfl
theorem popK_back (t : ByteArray) (M : List ByteArray) : popK (M ++ [t]) false = M := by
  have e : popAt false (M ++ [t]) = M.length := by simp [popAt]
  rw [popK, e, kept_struck _ _ _ (Nat.le_refl _), if_neg (by simp), List.take_length]
  rw [List.take_left, List.drop_of_length_le (by simp), List.append_nil]
theorem pop_lst {L : List ByteArray} (hn : L ≠ []) (h : L.length ≤ 24) (hl : L.any longT = false) (left : Bool) : popE (lstI L) = 0 ∧ popS (lstI L) left = L[popAt left L]! ∧ popI (lstI L) left = lstI (popK L left) := by
  have hE : popE (lstI L) = 0 := by rw [popE, if_neg (by simp [lst_as h hl]), lstI_l', if_neg hn]
  refine ⟨hE, ?_, ?_⟩
  · rw [popS, if_pos hE, lstI_l']
  · rw [popI, if_pos hE, lstI_l']
theorem pop_front {t : ByteArray} {M : List ByteArray} (h : (t :: M).length ≤ 24) (hl : (t :: M).any longT = false) : popE (lstI (t :: M)) = 0 ∧ popS (lstI (t :: M)) true = t ∧ popI (lstI (t :: M)) true = lstI M := by
  obtain ⟨a, b, c⟩ := pop_lst (by simp) h hl true
  refine ⟨a, ?_, ?_⟩
  · rw [b]; rfl
  · rw [c, popK_front]
theorem pop_back {t : ByteArray} {M : List ByteArray} (h : (M ++ [t]).length ≤ 24) (hl : (M ++ [t]).any longT = false) : popE (lstI (M ++ [t])) = 0 ∧ popS (lstI (M ++ [t])) false = t ∧ popI (lstI (M ++ [t])) false = lstI M := by
  obtain ⟨a, b, c⟩ := pop_lst (by simp) h hl false
  refine ⟨a, ?_, ?_⟩
  · rw [b]
    have e : popAt false (M ++ [t]) = M.length := by simp [popAt]
    rw [e, getElem!_pos _ _ (by simp)]
    simp
  · rw [c, popK_back]
theorem any_take {l : List ByteArray} {n : Nat} (h : l.any longT = false) : (l.take n).any longT = false := by
  rw [List.any_eq_false] at h ⊢
  exact fun x hx => h x (List.mem_of_mem_take hx)
theorem any_drop {l : List ByteArray} {n : Nat} (h : l.any longT = false) : (l.drop n).any longT = false := by
  rw [List.any_eq_false] at h ⊢
  exact fun x hx => h x (List.mem_of_mem_drop hx)
theorem any_push {there l : List ByteArray} {left : Bool} (h : there.any longT = false) (hl : l.any longT = false) : (pushL there left l).any longT = false := by
  unfold pushL
  split
  · rw [List.any_append, List.any_reverse, h, hl]; rfl
  · rw [List.any_append, h, hl]; rfl
theorem len_push (there l : List ByteArray) (left : Bool) : (pushL there left l).length = there.length + l.length := by
  unfold pushL
  split <;> simp <;> omega
/-- what was pushed last goes first -/
theorem pop_pushed {there l : List ByteArray} {left : Bool} {j : Nat} (hj : j < l.length) (hn : there.length + l.length ≤ 24) (ht : there.any longT = false) (hl : l.any longT = false) :
    popE (lstI (pushL there left (l.take (j + 1)))) = 0 ∧ popS (lstI (pushL there left (l.take (j + 1)))) left = l[j] ∧ popI (lstI (pushL there left (l.take (j + 1)))) left = lstI (pushL there left (l.take j)) := by
  have hz : (pushL there left (l.take (j + 1))).length ≤ 24 := by rw [len_push, List.length_take]; omega
  have ha : (pushL there left (l.take (j + 1))).any longT = false := any_push ht (any_take hl)
  have et : l.take (j + 1) = l.take j ++ [l[j]] := by rw [List.take_append_getElem]
  rw [et] at hz ha ⊢
  cases left with
  | true =>
    have e : pushL there true (l.take j ++ [l[j]]) = l[j] :: pushL there true (l.take j) := by unfold pushL; rw [if_pos rfl, if_pos rfl, List.reverse_append]; rfl
    rw [e] at hz ha ⊢
    exact pop_front hz ha
  | false =>
    have e : pushL there false (l.take j ++ [l[j]]) = pushL there false (l.take j) ++ [l[j]] := by unfold pushL; rw [if_neg (by decide), if_neg (by decide), List.append_assoc]
    rw [e] at hz ha ⊢
    exact pop_back hz ha
/-- from the other end what was pushed first goes first -/
theorem pop_other {l : List ByteArray} {left : Bool} {j : Nat} (hj : j < l.length) (hn : l.length ≤ 24) (hl : l.any longT = false) :
    popE (lstI (pushL [] left (l.drop j))) = 0 ∧ popS (lstI (pushL [] left (l.drop j))) (!left) = l[j] ∧ popI (lstI (pushL [] left (l.drop j))) (!left) = lstI (pushL [] left (l.drop (j + 1))) := by
  have hz : (pushL [] left (l.drop j)).length ≤ 24 := by rw [len_push, List.length_drop]; simp only [List.length_nil]; omega
  have ha : (pushL [] left (l.drop j)).any longT = false := any_push rfl (any_drop hl)
  have et : l.drop j = l[j] :: l.drop (j + 1) := List.drop_eq_getElem_cons hj
  rw [et] at hz ha ⊢
  cases left with
  | true =>
    have e : pushL [] true (l[j] :: l.drop (j + 1)) = pushL [] true (l.drop (j + 1)) ++ [l[j]] := by simp [pushL]
    rw [e] at hz ha ⊢
    exact pop_back hz ha
  | false =>
    have e : pushL [] false (l[j] :: l.drop (j + 1)) = l[j] :: pushL [] false (l.drop (j + 1)) := by simp [pushL]
    rw [e] at hz ha ⊢
    exact pop_front hz ha
theorem push_none (there : List ByteArray) (left : Bool) : pushL there left [] = there := by
  unfold pushL
  split <;> simp
theorem pushE_zero {x : Itm} {l : List ByteArray} (h : pushE x l = 0) : asI x 2 = 0 ∧ x.l.length + l.length ≤ 24 ∧ l.any longT = false ∧ l ≠ [] := by
  unfold pushE at h
  split at h
  · rename_i h1; exact absurd h h1
  · rename_i h1
    split at h
    · cases h
    · rename_i h2
      split at h
      · cases h
      · rename_i h3
        refine ⟨Classical.byContradiction h1, by omega, ?_, h3⟩
        cases hb : l.any longT
        · rfl
        · exact absurd (Or.inr hb) h2
end Go.Proofs.YtcidoodaiimhfaaGreat

/- WALKS of what elements stay: Trim and Remove. -/
namespace Go.Proofs.YtcidoodaiimhfaaGreat
open Go.RowKit

def trimGo (p q : Nat) : Nat → ByteArray → Bool := fun i _ => decide (i < p ∨ q ≤ i)
theorem trimAt_any (b1 b2 p q i : Nat) (t : ByteArray) (w : World) (h1 : w.cell? ⟨b1, 0, none⟩ = some (.int .i64 p)) (h2 : w.cell? ⟨b2, 0, none⟩ = some (.int .i64 q)) : Calls Tryz.prog 92 #[.int .i64 i, .string t, .pointer (some ⟨b1, 0, none⟩), .pointer (some ⟨b2, 0, none⟩)] w fun e w' => e = .returned (.bool (trimGo p q i t)) ∧ w' = w := by
  show Calls _ _ _ _ fun e w' => e = .returned (.bool (decide (i < p ∨ q ≤ i))) ∧ w' = w
  by_cases g1 : i < p
  · have g1' : ((i : Nat) : Int) < ((p : Nat) : Int) := by omega
    rw [decide_eq_true (Or.inl g1)]
    go_enter Tryz.func92, Tryz.ntmps92
    go_wp2_with fail
    go_ret
    exact ⟨rfl, rfl⟩
  · have g1' : ¬ ((i : Nat) : Int) < ((p : Nat) : Int) := by omega
    have hd : decide (i < p ∨ q ≤ i) = decide (((q : Nat) : Int) ≤ ((i : Nat) : Int)) := by rw [Bool.eq_iff_iff]; simp; omega
    rw [hd]
    go_enter Tryz.func92, Tryz.ntmps92
    go_wp2_with fail
    go_ret
    exact ⟨rfl, rfl⟩
theorem removeAt_any (b : Nat) (s : ByteArray) (i : Nat) (t : ByteArray) (w : World) (h1 : w.cell? ⟨b, 0, none⟩ = some (.string s)) : Calls Tryz.prog 93 #[.int .i64 i, .string t, .pointer (some ⟨b, 0, none⟩)] w fun e w' => e = .returned (.bool (decide (t = s))) ∧ w' = w := by
  have hd : (t.toList == s.toList) = decide (t = s) := by
    rw [Bool.eq_iff_iff]
    simp only [beq_iff_eq, decide_eq_true_eq]
    exact ⟨bytes_inj, fun e => by rw [e]⟩
  go_enter Tryz.func93, Tryz.ntmps93
  go_wp2_with fail
  go_ret
  rw [← hd]
  exact ⟨rfl, rfl⟩

set_option maxRecDepth 100000 in
set_option maxHeartbeats 2000000 in
theorem withoutT_any (b1 b2 p q : Nat) (a : Option Addr) (cap : Nat) (l : List ByteArray) (w : World) (hs : TextsAt w a l) (hn : l.length ≤ 1000) (hz : ∀ t ∈ l, t.size ≤ maxLen) (hc : w.cell? ⟨b1, 0, none⟩ = some (.int .i64 p)) (hd : w.cell? ⟨b2, 0, none⟩ = some (.int .i64 q)) :
    Calls Tryz.prog 89 #[.slice a l.length cap, .func (.func 92) #[] #[.pointer (some ⟨b1, 0, none⟩), .pointer (some ⟨b2, 0, none⟩)]] w fun e w' => ∃ v, e = .returned v ∧ ItemOwn w.heap.size w' v (lstI (keptTo (trimGo p q) l l.length)) ∧ Below w.heap.size w w' := by
  obtain ⟨i0, hi, hz0, hz1, hz2⟩ := info_parts infoStr
  have HS := hide hs
  have HZ := hide hz
  clear hs hz
  go_enter Tryz.func89, Tryz.ntmps89
  go_wp2_with fail
  generalize hW0 : World.alloc w _ = W0
  have q0 : W0.cell? ⟨w.heap.size, 0, none⟩ = some (.int .i64 0) := by rw [← hW0]; simp [go_sem]
  have q1 : W0.cell? ⟨w.heap.size, 1, none⟩ = some (.string ⟨#[]⟩) := by rw [← hW0]; simp [go_sem]
  have q2 : W0.cell? ⟨w.heap.size, 2, none⟩ = some (.slice none 0 0) := by rw [← hW0]; simp [go_sem]
  have q3 : W0.cell? ⟨w.heap.size, 3, none⟩ = some (.slice none 0 0) := by rw [← hW0]; simp [go_sem]
  have q4 : W0.cell? ⟨w.heap.size, 4, none⟩ = some (.slice none 0 0) := by rw [← hW0]; simp [go_sem]
  have f0 : W0.frozen? ⟨w.heap.size, 0, none⟩ = false := by rw [← hW0]; simp [go_sem]
  have f1 : W0.frozen? ⟨w.heap.size, 1, none⟩ = false := by rw [← hW0]; simp [go_sem]
  have f2 : W0.frozen? ⟨w.heap.size, 2, none⟩ = false := by rw [← hW0]; simp [go_sem]
  have f3 : W0.frozen? ⟨w.heap.size, 3, none⟩ = false := by rw [← hW0]; simp [go_sem]
  have f4 : W0.frozen? ⟨w.heap.size, 4, none⟩ = false := by rw [← hW0]; simp [go_sem]
  have zW : W0.heap.size = w.heap.size + 1 := by rw [← hW0]; simp
  have BW : Below w.heap.size w W0 := by rw [← hW0]; exact (Below.refl _ _).alloc (Nat.le_refl _) _
  clear hW0
  have Q0 := hide q0
  have Q1 := hide q1
  have Q2 := hide q2
  have Q3 := hide q3
  have Q4 := hide q4
  have F0 := hide f0
  have F1 := hide f1
  have F2 := hide f2
  have F3 := hide f3
  have F4 := hide f4
  clear q0 q1 q2 q3 q4 f0 f1 f2 f3 f4
  go_loopw [5, 10] (fun v i wr => ∃ k : Nat, k ≤ l.length ∧ i = .int .i64 k ∧ wr.ownsRow (w.heap.size + 1) 9 1 v (keptTo (trimGo p q) l k).length (strs (keptTo (trimGo p q) l k)) ∧ Below (w.heap.size + 1) W0 wr) (fun _ i _ => l.length - (intOf i).toNat)
  case atStart => exact ⟨0, Nat.zero_le _, rfl, World.ownsRow_nil _ _ _ _, Below.refl _ _⟩
  case round =>
    obtain ⟨k, hk, rfl, hown, hbr⟩ := hrel
    have hsz := hbr.size
    have BR : Below w.heap.size w wr := BW.trans (hbr.mono (by omega))
    have HB : Hid (∀ g o v, w.cell? ⟨g, o, none⟩ = some v → wr.cell? ⟨g, o, none⟩ = some v) := fun g o _ hv => (BR.cell (p := ⟨g, o, none⟩) (World.block_lt_of_cell? _ _ hv)).trans hv
    by_cases hlt : k < l.length
    · have hlt' : ((k : Nat) : Int) < ((l.length : Nat) : Int) := by omega
      obtain ⟨g, o, rfl, hcs⟩ : ∃ g o, a = some ⟨g, o, none⟩ ∧ ∀ i (h : i < l.length), w.cell? ⟨g, o + i, none⟩ = some (.string l[i]) := by
        rcases HS.out with h | h
        · subst h; simp at hlt
        · exact h
      have d0 : wr.cell? ⟨g, o + k, none⟩ = some (.string l[k]) := HB.out _ _ _ (hcs k hlt)
      have hc1 : wr.cell? ⟨b1, 0, none⟩ = some (.int .i64 p) := HB.out _ _ _ hc
      have hd1 : wr.cell? ⟨b2, 0, none⟩ = some (.int .i64 q) := HB.out _ _ _ hd
      have HC := hide (trimAt_any b1 b2 p q k l[k] wr hc1 hd1)
      have hkl := keptTo_len (trimGo p q) l k
      cases hx : (trimGo p q) k l[k] with
      | true =>
        have HY := hide (keptTo_go (goes := trimGo p q) hlt hx)
        have HX := hide hx
        clear hcs HS HZ hx HB
        go_wp2_with fail
        refine HC.out.mono ?_
        rintro e w1 ⟨rfl, rfl⟩
        rw [HX.out]
        go_wp2_with fail
        go_roundw
        case rel => exact ⟨k + 1, by omega, by go_num, by rw [HY.out]; exact hown, hbr⟩
        case measure => simp [intOf]; omega
      | false =>
        have HY := hide (keptTo_stay (goes := trimGo p q) hlt hx)
        have HX := hide hx
        clear hcs HS HZ hx HB
        generalize l[k] = X at *
        go_wp2_with fail
        refine HC.out.mono ?_
        rintro e w1 ⟨rfl, rfl⟩
        rw [HX.out]
        go_wp2_with (at_builtin; refine wpList_append_own _ rfl _ _ 24 rfl (w.heap.size + 1) 9 i0 (.string ⟨#[]⟩) 1 16 Tryz.underlying24 hi hz0 hz1 hz2 rfl (by decide) _ _ _ rfl (hown.alloc _) ⟨w1.heap.size, 0, none⟩ 1 1 [.string X] rfl rfl ?c1 ?c2 ?c3 ?c4 ?c5 ?_)
        case c1 =>
          intro j u hj
          match j, hj with
          | 0, hj => simp at hj; subst hj; simp [Addr.add]
        case c2 => intro u hu; simp at hu; subst hu; rfl
        case c3 => unfold maxLen; omega
        case c4 => omega
        case c5 => simp; omega
        intro v' w4 hown4 hgrow _
        have hb4 : Below (w.heap.size + 1) W0 w4 := (hbr.alloc (by omega) _).grown hgrow (by simp; omega) (fun j hj => (hown.lt j hj).1)
        have hown5 : w4.ownsRow (w.heap.size + 1) 9 1 v' (keptTo (trimGo p q) l (k + 1)).length (strs (keptTo (trimGo p q) l (k + 1))) := by
          rw [HY.out]
          simpa [strs] using hown4
        go_wp2_with fail
        go_roundw
        case rel => exact ⟨k + 1, by omega, by go_num, hown5, hb4⟩
        case measure => simp [intOf]; omega
    · have hge : ¬ ((k : Nat) : Int) < ((l.length : Nat) : Int) := by omega
      obtain rfl : k = l.length := by omega
      have q0 := (hbr.cell (p := ⟨w.heap.size, 0, none⟩) (by simp)).trans Q0.out
      have q1 := (hbr.cell (p := ⟨w.heap.size, 1, none⟩) (by simp)).trans Q1.out
      have q2 := (hbr.cell (p := ⟨w.heap.size, 2, none⟩) (by simp)).trans Q2.out
      have q3 := (hbr.cell (p := ⟨w.heap.size, 3, none⟩) (by simp)).trans Q3.out
      have q4 := (hbr.cell (p := ⟨w.heap.size, 4, none⟩) (by simp)).trans Q4.out
      have f0 := (hbr.frozen (p := ⟨w.heap.size, 0, none⟩) (by simp)).trans F0.out
      have f1 := (hbr.frozen (p := ⟨w.heap.size, 1, none⟩) (by simp)).trans F1.out
      have f2 := (hbr.frozen (p := ⟨w.heap.size, 2, none⟩) (by simp)).trans F2.out
      have f3 := (hbr.frozen (p := ⟨w.heap.size, 3, none⟩) (by simp)).trans F3.out
      have f4 := (hbr.frozen (p := ⟨w.heap.size, 4, none⟩) (by simp)).trans F4.out
      have hkl := keptTo_len (trimGo p q) l l.length
      have HM : Hid (∀ t ∈ keptTo (trimGo p q) l l.length, t.size ≤ maxLen) := fun t ht => HZ.out t (keptTo_mem (Nat.le_refl _) t ht)
      clear HS HZ HB Q0 Q1 Q2 Q3 Q4 F0 F1 F2 F3 F4
      generalize hK : keptTo (trimGo p q) l l.length = K at *
      have HK := hide hK
      clear hK
      obtain ⟨ao, cp, rfl⟩ := slice_own hown
      by_cases h0 : K = []
      · subst h0
        clear hown
        go_wp2_with fail
        refine bodyPost_ret (v := .agg #[.int .i64 0, .string ⟨#[]⟩, .slice none 0 0, .slice none 0 0, .slice none 0 0]) (by simp [results, Tryz.results89, go_sem, q0, q1, q2, q3, q4]) rfl ⟨_, rfl, ?_, ?_⟩
        · rw [HK.out, lstI, if_pos rfl]; exact fun w'' _ => zero_is w''
        · go_grown
      · have hKl : K.length ≠ 0 := fun e => h0 (List.eq_nil_of_length_eq_zero e)
        have hKb : (((K.length : Nat) : Int) == 0) = false := by rw [beq_eq_false_iff_ne]; omega
        have HT : Hid (∀ w', (∀ g o u, w.heap.size + 1 ≤ g → wr.cell? ⟨g, o, none⟩ = some u → wr.frozen? ⟨g, o, none⟩ = false → w'.cell? ⟨g, o, none⟩ = some u) → TextsAt w' ao K) := fun w' hw => texts_ownF hown hw
        clear hown
        have HNE := hide h0
        clear h0
        generalize hLL : K.length = n at *
        go_wp2_with fail
        refine bodyPost_ret (v := .agg #[.int .i64 2, .string ⟨#[]⟩, .slice ao n cp, .slice none 0 0, .slice none 0 0]) (by simp [results, Tryz.results89, go_sem, q0, q1, q2, q3, q4]) rfl ⟨_, rfl, ?_, ?_⟩
        · subst hLL
          rw [HK.out]
          exact fun w'' hw => lstI_is (HT.out w'' (fun g o u hg hu hf => hw g o u (by omega) ((five_apart _ _ _ _ _ _ _ g o (by omega)).trans hu) (by simpa using hf))) HNE.out HM.out (by omega)
        · go_grown

set_option maxRecDepth 100000 in
set_option maxHeartbeats 2000000 in
theorem withoutR_any (b : Nat) (s : ByteArray) (a : Option Addr) (cap : Nat) (l : List ByteArray) (w : World) (hs : TextsAt w a l) (hn : l.length ≤ 1000) (hz : ∀ t ∈ l, t.size ≤ maxLen) (hc : w.cell? ⟨b, 0, none⟩ = some (.string s)) :
    Calls Tryz.prog 89 #[.slice a l.length cap, .func (.func 93) #[] #[.pointer (some ⟨b, 0, none⟩)]] w fun e w' => ∃ v, e = .returned v ∧ ItemOwn w.heap.size w' v (lstI (keptTo (fun _ t => decide (t = s)) l l.length)) ∧ Below w.heap.size w w' := by
  obtain ⟨i0, hi, hz0, hz1, hz2⟩ := info_parts infoStr
  have HS := hide hs
  have HZ := hide hz
  clear hs hz
  go_enter Tryz.func89, Tryz.ntmps89
  go_wp2_with fail
  generalize hW0 : World.alloc w _ = W0
  have q0 : W0.cell? ⟨w.heap.size, 0, none⟩ = some (.int .i64 0) := by rw [← hW0]; simp [go_sem]
  have q1 : W0.cell? ⟨w.heap.size, 1, none⟩ = some (.string ⟨#[]⟩) := by rw [← hW0]; simp [go_sem]
  have q2 : W0.cell? ⟨w.heap.size, 2, none⟩ = some (.slice none 0 0) := by rw [← hW0]; simp [go_sem]
  have q3 : W0.cell? ⟨w.heap.size, 3, none⟩ = some (.slice none 0 0) := by rw [← hW0]; simp [go_sem]
  have q4 : W0.cell? ⟨w.heap.size, 4, none⟩ = some (.slice none 0 0) := by rw [← hW0]; simp [go_sem]
  have f0 : W0.frozen? ⟨w.heap.size, 0, none⟩ = false := by rw [← hW0]; simp [go_sem]
  have f1 : W0.frozen? ⟨w.heap.size, 1, none⟩ = false := by rw [← hW0]; simp [go_sem]
  have f2 : W0.frozen? ⟨w.heap.size, 2, none⟩ = false := by rw [← hW0]; simp [go_sem]
  have f3 : W0.frozen? ⟨w.heap.size, 3, none⟩ = false := by rw [← hW0]; simp [go_sem]
  have f4 : W0.frozen? ⟨w.heap.size, 4, none⟩ = false := by rw [← hW0]; simp [go_sem]
  have zW : W0.heap.size = w.heap.size + 1 := by rw [← hW0]; simp
  have BW : Below w.heap.size w W0 := by rw [← hW0]; exact (Below.refl _ _).alloc (Nat.le_refl _) _
  clear hW0
  have Q0 := hide q0
  have Q1 := hide q1
  have Q2 := hide q2
  have Q3 := hide q3
  have Q4 := hide q4
  have F0 := hide f0
  have F1 := hide f1
  have F2 := hide f2
  have F3 := hide f3
  have F4 := hide f4
  clear q0 q1 q2 q3 q4 f0 f1 f2 f3 f4
  go_loopw [5, 10] (fun v i wr => ∃ k : Nat, k ≤ l.length ∧ i = .int .i64 k ∧ wr.ownsRow (w.heap.size + 1) 9 1 v (keptTo (fun _ t => decide (t = s)) l k).length (strs (keptTo (fun _ t => decide (t = s)) l k)) ∧ Below (w.heap.size + 1) W0 wr) (fun _ i _ => l.length - (intOf i).toNat)
  case atStart => exact ⟨0, Nat.zero_le _, rfl, World.ownsRow_nil _ _ _ _, Below.refl _ _⟩
  case round =>
    obtain ⟨k, hk, rfl, hown, hbr⟩ := hrel
    have hsz := hbr.size
    have BR : Below w.heap.size w wr := BW.trans (hbr.mono (by omega))
    have HB : Hid (∀ g o v, w.cell? ⟨g, o, none⟩ = some v → wr.cell? ⟨g, o, none⟩ = some v) := fun g o _ hv => (BR.cell (p := ⟨g, o, none⟩) (World.block_lt_of_cell? _ _ hv)).trans hv
    by_cases hlt : k < l.length
    · have hlt' : ((k : Nat) : Int) < ((l.length : Nat) : Int) := by omega
      obtain ⟨g, o, rfl, hcs⟩ : ∃ g o, a = some ⟨g, o, none⟩ ∧ ∀ i (h : i < l.length), w.cell? ⟨g, o + i, none⟩ = some (.string l[i]) := by
        rcases HS.out with h | h
        · subst h; simp at hlt
        · exact h
      have d0 : wr.cell? ⟨g, o + k, none⟩ = some (.string l[k]) := HB.out _ _ _ (hcs k hlt)
      have hc1 : wr.cell? ⟨b, 0, none⟩ = some (.string s) := HB.out _ _ _ hc
      have HC := hide (removeAt_any b s k l[k] wr hc1)
      have hkl := keptTo_len (fun _ t => decide (t = s)) l k
      cases hx : (fun _ t => decide (t = s)) k l[k] with
      | true =>
        have HY := hide (keptTo_go (goes := fun _ t => decide (t = s)) hlt hx)
        have HX := hide hx
        clear hcs HS HZ hx HB
        go_wp2_with fail
        refine HC.out.mono ?_
        rintro e w1 ⟨rfl, rfl⟩
        rw [HX.out]
        go_wp2_with fail
        go_roundw
        case rel => exact ⟨k + 1, by omega, by go_num, by rw [HY.out]; exact hown, hbr⟩
        case measure => simp [intOf]; omega
      | false =>
        have HY := hide (keptTo_stay (goes := fun _ t => decide (t = s)) hlt hx)
        have HX := hide hx
        clear hcs HS HZ hx HB
        generalize l[k] = X at *
        go_wp2_with fail
        refine HC.out.mono ?_
        rintro e w1 ⟨rfl, rfl⟩
        rw [HX.out]
        go_wp2_with (at_builtin; refine wpList_append_own _ rfl _ _ 24 rfl (w.heap.size + 1) 9 i0 (.string ⟨#[]⟩) 1 16 Tryz.underlying24 hi hz0 hz1 hz2 rfl (by decide) _ _ _ rfl (hown.alloc _) ⟨w1.heap.size, 0, none⟩ 1 1 [.string X] rfl rfl ?c1 ?c2 ?c3 ?c4 ?c5 ?_)
        case c1 =>
          intro j u hj
          match j, hj with
          | 0, hj => simp at hj; subst hj; simp [Addr.add]
        case c2 => intro u hu; simp at hu; subst hu; rfl
        case c3 => unfold maxLen; omega
        case c4 => omega
        case c5 => simp; omega
        intro v' w4 hown4 hgrow _
        have hb4 : Below (w.heap.size + 1) W0 w4 := (hbr.alloc (by omega) _).grown hgrow (by simp; omega) (fun j hj => (hown.lt j hj).1)
        have hown5 : w4.ownsRow (w.heap.size + 1) 9 1 v' (keptTo (fun _ t => decide (t = s)) l (k + 1)).length (strs (keptTo (fun _ t => decide (t = s)) l (k + 1))) := by
          rw [HY.out]
          simpa [strs] using hown4
        go_wp2_with fail
        go_roundw
        case rel => exact ⟨k + 1, by omega, by go_num, hown5, hb4⟩
        case measure => simp [intOf]; omega
    · have hge : ¬ ((k : Nat) : Int) < ((l.length : Nat) : Int) := by omega
      obtain rfl : k = l.length := by omega
      have q0 := (hbr.cell (p := ⟨w.heap.size, 0, none⟩) (by simp)).trans Q0.out
      have q1 := (hbr.cell (p := ⟨w.heap.size, 1, none⟩) (by simp)).trans Q1.out
      have q2 := (hbr.cell (p := ⟨w.heap.size, 2, none⟩) (by simp)).trans Q2.out
      have q3 := (hbr.cell (p := ⟨w.heap.size, 3, none⟩) (by simp)).trans Q3.out
      have q4 := (hbr.cell (p := ⟨w.heap.size, 4, none⟩) (by simp)).trans Q4.out
      have f0 := (hbr.frozen (p := ⟨w.heap.size, 0, none⟩) (by simp)).trans F0.out
      have f1 := (hbr.frozen (p := ⟨w.heap.size, 1, none⟩) (by simp)).trans F1.out
      have f2 := (hbr.frozen (p := ⟨w.heap.size, 2, none⟩) (by simp)).trans F2.out
      have f3 := (hbr.frozen (p := ⟨w.heap.size, 3, none⟩) (by simp)).trans F3.out
      have f4 := (hbr.frozen (p := ⟨w.heap.size, 4, none⟩) (by simp)).trans F4.out
      have hkl := keptTo_len (fun _ t => decide (t = s)) l l.length
      have HM : Hid (∀ t ∈ keptTo (fun _ t => decide (t = s)) l l.length, t.size ≤ maxLen) := fun t ht => HZ.out t (keptTo_mem (Nat.le_refl _) t ht)
      clear HS HZ HB Q0 Q1 Q2 Q3 Q4 F0 F1 F2 F3 F4
      generalize hK : keptTo (fun _ t => decide (t = s)) l l.length = K at *
      have HK := hide hK
      clear hK
      obtain ⟨ao, cp, rfl⟩ := slice_own hown
      by_cases h0 : K = []
      · subst h0
        clear hown
        go_wp2_with fail
        refine bodyPost_ret (v := .agg #[.int .i64 0, .string ⟨#[]⟩, .slice none 0 0, .slice none 0 0, .slice none 0 0]) (by simp [results, Tryz.results89, go_sem, q0, q1, q2, q3, q4]) rfl ⟨_, rfl, ?_, ?_⟩
        · rw [HK.out, lstI, if_pos rfl]; exact fun w'' _ => zero_is w''
        · go_grown
      · have hKl : K.length ≠ 0 := fun e => h0 (List.eq_nil_of_length_eq_zero e)
        have hKb : (((K.length : Nat) : Int) == 0) = false := by rw [beq_eq_false_iff_ne]; omega
        have HT : Hid (∀ w', (∀ g o u, w.heap.size + 1 ≤ g → wr.cell? ⟨g, o, none⟩ = some u → wr.frozen? ⟨g, o, none⟩ = false → w'.cell? ⟨g, o, none⟩ = some u) → TextsAt w' ao K) := fun w' hw => texts_ownF hown hw
        clear hown
        have HNE := hide h0
        clear h0
        generalize hLL : K.length = n at *
        go_wp2_with fail
        refine bodyPost_ret (v := .agg #[.int .i64 2, .string ⟨#[]⟩, .slice ao n cp, .slice none 0 0, .slice none 0 0]) (by simp [results, Tryz.results89, go_sem, q0, q1, q2, q3, q4]) rfl ⟨_, rfl, ?_, ?_⟩
        · subst hLL
          rw [HK.out]
          exact fun w'' hw => lstI_is (HT.out w'' (fun g o u hg hu hf => hw g o u (by omega) ((five_apart _ _ _ _ _ _ _ g o (by omega)).trans hu) (by simpa using hf))) HNE.out HM.out (by omega)
        · go_grown
end Go.Proofs.YtcidoodaiimhfaaGreat

/- WALK of Trim and Range. -/
namespace Go.Proofs.YtcidoodaiimhfaaGreat
open Go.RowKit

def trimK (l : List ByteArray) (f t : Int) : List ByteArray := keptTo (trimGo (place1 l.length f t) (place2 l.length f t)) l l.length
def trimI (x : Itm) (f t : Int) : Itm := if asI x 2 = 0 then lstI (trimK x.l f t) else Itm.none
set_option maxRecDepth 100000 in
set_option maxHeartbeats 4000000 in
theorem trim_own (v : Value) (x : Itm) (from_ to_ : Int) (w : World) (h : ItemIs w v x) (hf1 : -9223372036854775808 ≤ from_) (ht1 : -9223372036854775808 ≤ to_) (hf2 : from_ ≤ 9223372036854775807) (ht2 : to_ ≤ 9223372036854775807) :
    Calls Tryz.prog 35 #[v, .int .i64 from_, .int .i64 to_] w fun e w' => ∃ u, e = .returned (.tuple #[u, .int .i64 (asI x 2)]) ∧ ItemOwn w.heap.size w' u (trimI x from_ to_) ∧ Below w.heap.size w w' := by
  have HC : Hid (∀ W, Below w.heap.size w W → Calls Tryz.prog 85 #[v, .int .i64 2] W fun e w' => e = .returned (.int .i64 (asI x 2)) ∧ Below W.heap.size W w') := fun W hW => common_any v x 2 W (h.below hW)
  obtain ⟨⟨a1, c1, a2, c2, a3, c3, rfl, hx1, -, -⟩, tz, lz, -, -, -, -, -⟩ := h
  have HX := hide hx1
  clear hx1
  by_cases h0 : asI x 2 = 0
  · obtain ⟨-, hx24, hxl⟩ := asI_list h0
    rw [trimI, if_pos h0, h0, trimK]
    rw [h0] at HC
    have HZ := hide lz
    clear h0 hxl lz
    generalize x.l = L at *
    have HP : Hid (∀ W, Calls Tryz.prog 91 #[.int .i64 L.length, .int .i64 from_, .int .i64 to_] W fun e w' => e = .returned (.tuple #[.int .i64 (place1 L.length from_ to_), .int .i64 (place2 L.length from_ to_)]) ∧ w' = W) := fun W => places_any _ _ _ W (by omega) hf1 ht1 hf2 ht2
    have HW : Hid (∀ (b1 b2 : Nat) (W : World), Below w.heap.size w W → W.cell? ⟨b1, 0, none⟩ = some (.int .i64 (place1 L.length from_ to_)) → W.cell? ⟨b2, 0, none⟩ = some (.int .i64 (place2 L.length from_ to_)) → Calls Tryz.prog 89 #[.slice a1 L.length c1, .func (.func 92) #[] #[.pointer (some ⟨b1, 0, none⟩), .pointer (some ⟨b2, 0, none⟩)]] W fun e w' => ∃ v, e = .returned v ∧ ItemOwn W.heap.size w' v (lstI (keptTo (trimGo (place1 L.length from_ to_) (place2 L.length from_ to_)) L L.length)) ∧ Below W.heap.size W w') := fun b1 b2 W hW hc hd => withoutT_any b1 b2 _ _ a1 c1 L W (HX.out.below hW) (by omega) HZ.out hc hd
    generalize keptTo (trimGo (place1 L.length from_ to_) (place2 L.length from_ to_)) L L.length = K at *
    generalize place1 L.length from_ to_ = P1 at *
    generalize place2 L.length from_ to_ = P2 at *
    generalize x.t = t at *
    generalize x.k = k at *
    generalize x.p.length = n2 at *
    generalize x.s.length = n3 at *
    go_enter Tryz.func35, Tryz.ntmps35
    go_wp2_with fail
    refine (HC.out _ (((Below.refl _ w).alloc (Nat.le_refl _) _).alloc (by simp) _)).mono ?_
    rintro e w1 ⟨rfl, hb1⟩
    obtain ⟨hc, hf⟩ := bcell hb1
    have hz : w.heap.size + 1 < w1.heap.size := by have := hb1.size; simp at this; omega
    have hB1 : Below w.heap.size w w1 := (((Below.refl _ w).alloc (Nat.le_refl _) _).alloc (by simp) _).trans (hb1.mono (by simp; omega))
    go_wp2_with fail
    refine (HP.out _).mono ?_
    rintro e w2 ⟨rfl, rfl⟩
    have hy : w.heap.size < w2.heap.size := by omega
    go_wp2_with fail
    refine (HW.out w2.heap.size (w2.heap.size + 1) _ ?hA ?hB ?hD).mono ?_
    case hA => go_grown
    case hB => simp [go_sem]
    case hD => simp [go_sem]
    rintro e w3 ⟨u, rfl, hI, hb3⟩
    have E3 : Below w2.heap.size w2 w3 := (((Below.refl _ w2).alloc (Nat.le_refl _) _).alloc (by simp) _).trans (hb3.mono (by simp; omega))
    have D3 : Below w.heap.size w w3 := hB1.trans (E3.mono hB1.size)
    have z3 := hb3.size
    simp at z3
    have b0 := (E3.cell (p := ⟨w.heap.size + 1, 0, none⟩) hz).trans ((hc _ _ (by simp)).trans (show _ = some (.int .i64 0) by simp [go_sem]))
    have b1 := (E3.cell (p := ⟨w.heap.size + 1, 1, none⟩) hz).trans ((hc _ _ (by simp)).trans (show _ = some (.string ⟨#[]⟩) by simp [go_sem]))
    have b2 := (E3.cell (p := ⟨w.heap.size + 1, 2, none⟩) hz).trans ((hc _ _ (by simp)).trans (show _ = some (.slice none 0 0) by simp [go_sem]))
    have b3 := (E3.cell (p := ⟨w.heap.size + 1, 3, none⟩) hz).trans ((hc _ _ (by simp)).trans (show _ = some (.slice none 0 0) by simp [go_sem]))
    have b4 := (E3.cell (p := ⟨w.heap.size + 1, 4, none⟩) hz).trans ((hc _ _ (by simp)).trans (show _ = some (.slice none 0 0) by simp [go_sem]))
    have g0 := (E3.frozen (p := ⟨w.heap.size + 1, 0, none⟩) hz).trans ((hf _ _ (by simp)).trans (show _ = false by simp [go_sem]))
    have g1 := (E3.frozen (p := ⟨w.heap.size + 1, 1, none⟩) hz).trans ((hf _ _ (by simp)).trans (show _ = false by simp [go_sem]))
    have g2 := (E3.frozen (p := ⟨w.heap.size + 1, 2, none⟩) hz).trans ((hf _ _ (by simp)).trans (show _ = false by simp [go_sem]))
    have g3 := (E3.frozen (p := ⟨w.heap.size + 1, 3, none⟩) hz).trans ((hf _ _ (by simp)).trans (show _ = false by simp [go_sem]))
    have g4 := (E3.frozen (p := ⟨w.heap.size + 1, 4, none⟩) hz).trans ((hf _ _ (by simp)).trans (show _ = false by simp [go_sem]))
    have HI := hide hI
    obtain ⟨⟨i1, j1, i2, j2, i3, j3, rfl, -, -, -⟩, -, -, -, -, -, -, -⟩ := hI.is
    clear hI hc hf
    generalize hKI : lstI K = KI at *
    go_wp2_with fail
    refine bodyPost_ret (v := .tuple #[.agg #[.int .i64 KI.k, .string KI.t, .slice i1 KI.l.length j1, .slice i2 KI.p.length j2, .slice i3 KI.s.length j3], .int .i64 0]) (by simp [results, Tryz.results35, go_sem, b0, b1, b2, b3, b4]) rfl ⟨_, rfl, ?_, ?_⟩
    · rw [hKI]
      exact fun w'' hw => HI.out w'' (fun g' o' u' hg hu hfz => by
        simp at hg
        exact hw g' o' u' (by omega) ((five_apart _ _ _ _ _ _ _ g' o' (by omega)).trans hu) (by simpa using hfz))
    · go_grown
  · rw [trimI, if_neg h0]
    have h0' : (asI x 2 == 0) = false := by rw [beq_eq_false_iff_ne]; exact h0
    generalize asI x 2 = E at *
    generalize x.t = t at *
    generalize x.k = k at *
    generalize x.p.length = n2 at *
    generalize x.s.length = n3 at *
    go_enter Tryz.func35, Tryz.ntmps35
    go_wp2_with fail
    refine (HC.out _ (((Below.refl _ w).alloc (Nat.le_refl _) _).alloc (by simp) _)).mono ?_
    rintro e w1 ⟨rfl, hb1⟩
    obtain ⟨hc, hf⟩ := bcell hb1
    have hz : w.heap.size + 1 < w1.heap.size := by have := hb1.size; simp at this; omega
    have hB1 : Below w.heap.size w w1 := (((Below.refl _ w).alloc (Nat.le_refl _) _).alloc (by simp) _).trans (hb1.mono (by simp; omega))
    go_wp2_with fail
    refine bodyPost_ret (v := .tuple #[.agg #[.int .i64 0, .string ⟨#[]⟩, .slice none 0 0, .slice none 0 0, .slice none 0 0], .int .i64 E]) (by simp [results, Tryz.results35, go_sem, hc]) rfl ⟨_, rfl, fun w'' _ => zero_is w'', ?_⟩
    go_grown

theorem trim_any (v : Value) (x : Itm) (from_ to_ : Int) (w : World) (h : ItemIs w v x) (hf1 : -9223372036854775808 ≤ from_) (ht1 : -9223372036854775808 ≤ to_) (hf2 : from_ ≤ 9223372036854775807) (ht2 : to_ ≤ 9223372036854775807) :
    Calls Tryz.prog 35 #[v, .int .i64 from_, .int .i64 to_] w fun e w' => ∃ u, e = .returned (.tuple #[u, .int .i64 (asI x 2)]) ∧ ItemFrom w.heap.size w' u (trimI x from_ to_) ∧ Below w.heap.size w w' :=
  (trim_own v x from_ to_ w h hf1 ht1 hf2 ht2).mono fun _ _ ⟨u, he, hi, hb⟩ => ⟨u, he, hi.from, hb⟩
set_option maxRecDepth 100000 in
set_option maxHeartbeats 4000000 in
theorem listRange_own (v : Value) (x : Itm) (from_ to_ : Int) (w : World) (h : ItemIs w v x) (hf1 : -9223372036854775808 ≤ from_) (ht1 : -9223372036854775808 ≤ to_) (hf2 : from_ ≤ 9223372036854775807) (ht2 : to_ ≤ 9223372036854775807) :
    Calls Tryz.prog 37 #[v, .int .i64 from_, .int .i64 to_] w fun e w' => ∃ a c, e = .returned (.tuple #[.slice a (trimI x from_ to_).l.length c, .int .i64 (asI x 2)]) ∧ TextsOwn w.heap.size w' a (trimI x from_ to_).l ∧ Below w.heap.size w w' := by
  have HT : Hid (∀ W, Below w.heap.size w W → Calls Tryz.prog 35 #[v, .int .i64 from_, .int .i64 to_] W fun e w' => ∃ u, e = .returned (.tuple #[u, .int .i64 (asI x 2)]) ∧ ItemOwn W.heap.size w' u (trimI x from_ to_) ∧ Below W.heap.size W w') := fun W hW => trim_own v x from_ to_ W (h.below hW) hf1 ht1 hf2 ht2
  obtain ⟨⟨a1, c1, a2, c2, a3, c3, rfl, -, -, -⟩, -, -, -, -, -, -, -⟩ := h
  generalize trimI x from_ to_ = Y at *
  generalize asI x 2 = E at *
  generalize x.k = k at *
  generalize x.t = t at *
  generalize x.l.length = n1 at *
  generalize x.p.length = n2 at *
  generalize x.s.length = n3 at *
  go_enter Tryz.func37, Tryz.ntmps37
  go_wp2_with fail
  refine (HT.out _ ((Below.refl _ w).alloc (Nat.le_refl _) _)).mono ?_
  rintro e w1 ⟨u, rfl, hI, hb1⟩
  have B1 : Below w.heap.size w w1 := ((Below.refl _ w).alloc (Nat.le_refl _) _).trans (hb1.mono (by simp))
  obtain ⟨⟨i1, j1, i2, j2, i3, j3, rfl, -, -, -⟩, -, -, -, -, -, -, -⟩ := id hI.is
  have HTT := hide hI
  clear hI
  go_wp2_with fail
  go_ret2
  exact ⟨i1, j1, rfl, fun W hW => (HTT.out.low (by simp)).texts W (fun g o u hg hu hf => hW g o u hg (by rw [((Below.refl w1.heap.size w1).alloc (Nat.le_refl _) _).cell (p := ⟨g, o, none⟩) (World.block_lt_of_cell? _ _ hu)]; exact hu) (by rw [((Below.refl w1.heap.size w1).alloc (Nat.le_refl _) _).frozen (p := ⟨g, o, none⟩) (World.block_lt_of_cell? _ _ hu)]; exact hf)), B1.alloc B1.size _⟩
theorem listRange_any (v : Value) (x : Itm) (from_ to_ : Int) (w : World) (h : ItemIs w v x) (hf1 : -9223372036854775808 ≤ from_) (ht1 : -9223372036854775808 ≤ to_) (hf2 : from_ ≤ 9223372036854775807) (ht2 : to_ ≤ 9223372036854775807) :
    Calls Tryz.prog 37 #[v, .int .i64 from_, .int .i64 to_] w fun e w' => ∃ a c, e = .returned (.tuple #[.slice a (trimI x from_ to_).l.length c, .int .i64 (asI x 2)]) ∧ TextsAt w' a (trimI x from_ to_).l ∧ Below w.heap.size w w' :=
  (listRange_own v x from_ to_ w h hf1 ht1 hf2 ht2).mono fun _ _ ⟨a, c, he, hi, hb⟩ => ⟨a, c, he, hi.at, hb⟩
end Go.Proofs.YtcidoodaiimhfaaGreat

/- WALK of Remove. -/
namespace Go.Proofs.YtcidoodaiimhfaaGreat
open Go.RowKit

theorem lstI_l (l : List ByteArray) : (lstI l).l = l := by
  unfold lstI
  split
  · rename_i h; rw [h]; rfl
  · rfl
def remK (l : List ByteArray) (s : ByteArray) : List ByteArray := keptTo (fun _ t => decide (t = s)) l l.length
def remI (x : Itm) (s : ByteArray) : Itm := if asI x 2 = 0 then lstI (remK x.l s) else Itm.none
def remN (x : Itm) (s : ByteArray) : Int := if asI x 2 = 0 then ((x.l.length : Nat) : Int) - (((remK x.l s).length : Nat) : Int) else 0
set_option maxRecDepth 100000 in
set_option maxHeartbeats 4000000 in
theorem remove_own (v : Value) (x : Itm) (s : ByteArray) (w : World) (h : ItemIs w v x) :
    Calls Tryz.prog 36 #[v, .string s] w fun e w' => ∃ u, e = .returned (.tuple #[u, .int .i64 (remN x s), .int .i64 (asI x 2)]) ∧ ItemOwn w.heap.size w' u (remI x s) ∧ Below w.heap.size w w' := by
  have HC : Hid (∀ W, Below w.heap.size w W → Calls Tryz.prog 85 #[v, .int .i64 2] W fun e w' => e = .returned (.int .i64 (asI x 2)) ∧ Below W.heap.size W w') := fun W hW => common_any v x 2 W (h.below hW)
  obtain ⟨⟨a1, c1, a2, c2, a3, c3, rfl, hx1, -, -⟩, tz, lz, -, -, -, -, -⟩ := h
  have HX := hide hx1
  clear hx1
  by_cases h0 : asI x 2 = 0
  · obtain ⟨-, hx24, hxl⟩ := asI_list h0
    rw [remI, if_pos h0, remN, if_pos h0, h0, remK]
    rw [h0] at HC
    have HZ := hide lz
    clear h0 hxl lz
    generalize x.l = L at *
    have HW : Hid (∀ (b : Nat) (W : World), Below w.heap.size w W → W.cell? ⟨b, 0, none⟩ = some (.string s) → Calls Tryz.prog 89 #[.slice a1 L.length c1, .func (.func 93) #[] #[.pointer (some ⟨b, 0, none⟩)]] W fun e w' => ∃ v, e = .returned v ∧ ItemOwn W.heap.size w' v (lstI (keptTo (fun _ t => decide (t = s)) L L.length)) ∧ Below W.heap.size W w') := fun b W hW hc => withoutR_any b s a1 c1 L W (HX.out.below hW) (by omega) HZ.out hc
    have hkl := keptTo_len (fun _ t => decide (t = s)) L L.length
    have HLL : Hid ((lstI (keptTo (fun _ t => decide (t = s)) L L.length)).l.length = (keptTo (fun _ t => decide (t = s)) L L.length).length) := by rw [Hid, lstI_l]
    rw [← HLL.out]
    rw [← HLL.out] at hkl
    clear HLL
    generalize lstI (keptTo (fun _ t => decide (t = s)) L L.length) = KI at *
    generalize x.t = t at *
    generalize x.k = k at *
    generalize x.p.length = n2 at *
    generalize x.s.length = n3 at *
    go_enter Tryz.func36, Tryz.ntmps36
    go_wp2_with fail
    refine (HC.out _ ((((Below.refl _ w).alloc (Nat.le_refl _) _).alloc (by simp) _).alloc (by simp; omega) _)).mono ?_
    rintro e w1 ⟨rfl, hb1⟩
    obtain ⟨hc, hf⟩ := bcell hb1
    have hz : w.heap.size + 2 < w1.heap.size := by have := hb1.size; simp at this; omega
    have hB1 : Below w.heap.size w w1 := ((((Below.refl _ w).alloc (Nat.le_refl _) _).alloc (by simp) _).alloc (by simp; omega) _).trans (hb1.mono (by simp; omega))
    have y0 : w.heap.size < w1.heap.size := by omega
    have y1 : w.heap.size + 1 < w1.heap.size := by omega
    go_wp2_with fail
    refine (HW.out (w.heap.size + 1) _ hB1 ((hc _ _ (by simp)).trans (by simp [go_sem]))).mono ?_
    rintro e w2 ⟨u, rfl, hI, hb2⟩
    have B2 : Below w.heap.size w w2 := hB1.trans (hb2.mono hB1.size)
    have z2 := hb2.size
    have HI := hide hI
    obtain ⟨⟨i1, j1, i2, j2, i3, j3, rfl, -, -, -⟩, -, -, -, -, -, -, -⟩ := hI.is
    clear hI
    go_wp2_with fail
    generalize hW3 : World.alloc w2 _ = W3
    have A3 : Below w2.heap.size w2 W3 := by rw [← hW3]; exact (Below.refl _ _).alloc (Nat.le_refl _) _
    have AB : Below w1.heap.size w1 W3 := hb2.trans (A3.mono z2)
    have z3 : W3.heap.size = w2.heap.size + 1 := by rw [← hW3]; simp
    have u0 : W3.cell? ⟨w2.heap.size, 0, none⟩ = some (.int .i64 KI.k) := by rw [← hW3]; simp [go_sem]
    have u1 : W3.cell? ⟨w2.heap.size, 1, none⟩ = some (.string KI.t) := by rw [← hW3]; simp [go_sem]
    have u2 : W3.cell? ⟨w2.heap.size, 2, none⟩ = some (.slice i1 KI.l.length j1) := by rw [← hW3]; simp [go_sem]
    have u3 : W3.cell? ⟨w2.heap.size, 3, none⟩ = some (.slice i2 KI.p.length j2) := by rw [← hW3]; simp [go_sem]
    have u4 : W3.cell? ⟨w2.heap.size, 4, none⟩ = some (.slice i3 KI.s.length j3) := by rw [← hW3]; simp [go_sem]
    have x2 := (AB.cell (p := ⟨w.heap.size, 2, none⟩) y0).trans ((hc _ _ (by simp; omega)).trans (show _ = some (.slice a1 L.length c1) by simp [go_sem]))
    have b0 := (AB.cell (p := ⟨w.heap.size + 2, 0, none⟩) hz).trans ((hc _ _ (by simp)).trans (show _ = some (.int .i64 0) by simp [go_sem]))
    have b1 := (AB.cell (p := ⟨w.heap.size + 2, 1, none⟩) hz).trans ((hc _ _ (by simp)).trans (show _ = some (.string ⟨#[]⟩) by simp [go_sem]))
    have b2 := (AB.cell (p := ⟨w.heap.size + 2, 2, none⟩) hz).trans ((hc _ _ (by simp)).trans (show _ = some (.slice none 0 0) by simp [go_sem]))
    have b3 := (AB.cell (p := ⟨w.heap.size + 2, 3, none⟩) hz).trans ((hc _ _ (by simp)).trans (show _ = some (.slice none 0 0) by simp [go_sem]))
    have b4 := (AB.cell (p := ⟨w.heap.size + 2, 4, none⟩) hz).trans ((hc _ _ (by simp)).trans (show _ = some (.slice none 0 0) by simp [go_sem]))
    have g0 := (AB.frozen (p := ⟨w.heap.size + 2, 0, none⟩) hz).trans ((hf _ _ (by simp)).trans (show _ = false by simp [go_sem]))
    have g1 := (AB.frozen (p := ⟨w.heap.size + 2, 1, none⟩) hz).trans ((hf _ _ (by simp)).trans (show _ = false by simp [go_sem]))
    have g2 := (AB.frozen (p := ⟨w.heap.size + 2, 2, none⟩) hz).trans ((hf _ _ (by simp)).trans (show _ = false by simp [go_sem]))
    have g3 := (AB.frozen (p := ⟨w.heap.size + 2, 3, none⟩) hz).trans ((hf _ _ (by simp)).trans (show _ = false by simp [go_sem]))
    have g4 := (AB.frozen (p := ⟨w.heap.size + 2, 4, none⟩) hz).trans ((hf _ _ (by simp)).trans (show _ = false by simp [go_sem]))
    have D3 : Below w.heap.size w W3 := hB1.trans (AB.mono hB1.size)
    have n1 : w2.heap.size ≠ w.heap.size + 2 := by omega
    have n2 : w.heap.size + 2 ≠ w2.heap.size := by omega
    clear hW3 hc hf hb1 hb2
    go_region
    all_goals
      go_wp2_with fail
      refine bodyPost_ret (v := .tuple #[.agg #[.int .i64 KI.k, .string KI.t, .slice i1 KI.l.length j1, .slice i2 KI.p.length j2, .slice i3 KI.s.length j3], .int .i64 (((L.length : Nat) : Int) - ((KI.l.length : Nat) : Int)), .int .i64 0]) (by simp [results, Tryz.results36, go_sem, b0, b1, b2, b3, b4]) rfl ⟨_, rfl, ?_, ?_⟩
      · exact fun w'' hw => HI.out w'' (fun g' o' u' hg hu hf => hw g' o' u' (by omega) ((five_apart W3 (w.heap.size + 1 + 1) _ _ _ _ _ g' o' (by omega)).trans ((A3.cell (p := ⟨g', o', none⟩) (World.block_lt_of_cell? _ _ hu)).trans hu)) (by have hq := (A3.frozen (p := ⟨g', o', none⟩) (World.block_lt_of_cell? _ _ hu)).trans hf; simpa using hq))
      · go_grown
  · rw [remI, if_neg h0, remN, if_neg h0]
    have h0' : (asI x 2 == 0) = false := by rw [beq_eq_false_iff_ne]; exact h0
    generalize asI x 2 = E at *
    generalize x.t = t at *
    generalize x.k = k at *
    generalize x.p.length = n2 at *
    generalize x.s.length = n3 at *
    go_enter Tryz.func36, Tryz.ntmps36
    go_wp2_with fail
    refine (HC.out _ ((((Below.refl _ w).alloc (Nat.le_refl _) _).alloc (by simp) _).alloc (by simp; omega) _)).mono ?_
    rintro e w1 ⟨rfl, hb1⟩
    obtain ⟨hc, hf⟩ := bcell hb1
    have hz : w.heap.size + 2 < w1.heap.size := by have := hb1.size; simp at this; omega
    have hB1 : Below w.heap.size w w1 := ((((Below.refl _ w).alloc (Nat.le_refl _) _).alloc (by simp) _).alloc (by simp; omega) _).trans (hb1.mono (by simp; omega))
    go_wp2_with fail
    refine bodyPost_ret (v := .tuple #[.agg #[.int .i64 0, .string ⟨#[]⟩, .slice none 0 0, .slice none 0 0, .slice none 0 0], .int .i64 0, .int .i64 E]) (by simp [results, Tryz.results36, go_sem, hc]) rfl ⟨_, rfl, fun w'' _ => zero_is w'', ?_⟩
    go_grown
theorem remove_any (v : Value) (x : Itm) (s : ByteArray) (w : World) (h : ItemIs w v x) :
    Calls Tryz.prog 36 #[v, .string s] w fun e w' => ∃ u, e = .returned (.tuple #[u, .int .i64 (remN x s), .int .i64 (asI x 2)]) ∧ ItemFrom w.heap.size w' u (remI x s) ∧ Below w.heap.size w w' :=
  (remove_own v x s w h).mono fun _ _ ⟨u, he, hi, hb⟩ => ⟨u, he, hi.from, hb⟩
end Go.Proofs.YtcidoodaiimhfaaGreat

