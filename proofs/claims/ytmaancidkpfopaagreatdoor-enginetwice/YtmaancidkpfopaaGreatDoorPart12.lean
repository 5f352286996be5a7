/- Part 12 of what the proof leans on: Lst1, Lst2, ShelfL, Lst3, EmpB, Lst4, Lst6, EDed8, EDed4, EDo4, Txt2, EDed9. -/
import Derived.Test.YtmaancidkpfopaaGreatDoorPart2
import Derived.Test.YtmaancidkpfopaaGreatDoorPart3
import Derived.Test.YtmaancidkpfopaaGreatDoorPart4
import Derived.Test.YtmaancidkpfopaaGreatDoorPart5
import Derived.Test.YtmaancidkpfopaaGreatDoorPart6
import Derived.Test.YtmaancidkpfopaaGreatDoorPart7
import Derived.Test.YtmaancidkpfopaaGreatDoorPart8
import Derived.Test.YtmaancidkpfopaaGreatDoorPart10
import Derived.Test.YtmaancidkpfopaaGreatDoorPart11
import Derived.Handy
import Derived.Lib.AppendZeros
import Derived.Laws.OwnMore
import Derived.Shelf.Slices.ReverseS
import Derived.Shelf.Slices.Clone
import Derived.Shelf.Slices.Cells
import Derived.Test.YtmaancidkpfopaaGreatDoorProg
import Derived.Laws.IdiomCopy
import Derived.Test.YtmaancidkpfopaaGreatDoorPart1
import Derived.Deep.RegionHeld3
import Derived.Test.YtmaancidkpfopaaGreatDoorPart9
/- WALKS of what elements stay. -/
namespace Go.Proofs.YtmaancidkpfopaaGreatDoor
open Go.RowKit

theorem infoStr : (Tryz.prog.info? 9).map (fun i => (i.zero, i.size, i.bytes)) = some (some (.string ⟨#[]⟩), 1, 16) := by kernel_rfl
/-- a list as an item: nothing, if it has no elements -/
def lstI (l : List ByteArray) : Itm := if l = [] then Itm.none else ⟨2, ⟨#[]⟩, l, [], []⟩
def strs (l : List ByteArray) : List Value := l.map Value.string
/-- those of the first k that stay -/
def keptTo (goes : Nat → ByteArray → Bool) (l : List ByteArray) (k : Nat) : List ByteArray := ((List.range k).filter fun i => !goes i l[i]!).map fun i => l[i]!
theorem keptTo_go {goes : Nat → ByteArray → Bool} {l : List ByteArray} {k : Nat} (hk : k < l.length) (h : goes k l[k] = true) : keptTo goes l (k + 1) = keptTo goes l k := by
  unfold keptTo
  rw [List.range_succ, List.filter_append, List.map_append]
  simp [hk, h]
theorem keptTo_stay {goes : Nat → ByteArray → Bool} {l : List ByteArray} {k : Nat} (hk : k < l.length) (h : goes k l[k] = false) : keptTo goes l (k + 1) = keptTo goes l k ++ [l[k]] := by
  unfold keptTo
  rw [List.range_succ, List.filter_append, List.map_append]
  simp [hk, h]
theorem keptTo_len (goes : Nat → ByteArray → Bool) (l : List ByteArray) (k : Nat) : (keptTo goes l k).length ≤ k := by
  unfold keptTo
  rw [List.length_map]
  have := List.length_filter_le (fun i => !goes i l[i]!) (List.range k)
  simpa using this
theorem keptTo_mem {goes : Nat → ByteArray → Bool} {l : List ByteArray} {k : Nat} (hk : k ≤ l.length) : ∀ t ∈ keptTo goes l k, t ∈ l := by
  intro t ht
  unfold keptTo at ht
  obtain ⟨i, hi, rfl⟩ := List.mem_map.1 ht
  have := List.mem_range.1 (List.mem_filter.1 hi).1
  rw [getElem!_pos l i (by omega)]
  exact List.getElem_mem _
/-- texts of a row of one's own -/
theorem texts_own {w : World} {base : Nat} {a : Option Addr} {cap : Nat} {xs : List ByteArray} (h : w.ownsRow base 9 1 (.slice a xs.length cap) xs.length (strs xs)) : TextsAt w a xs := by
  rcases h.2 with ⟨hv, h0⟩ | ⟨g, cp, cur, hv, _⟩
  · exact .inl (List.eq_nil_of_length_eq_zero h0)
  · injection hv with h1 h2 h3
    subst h1
    refine .inr ⟨g, 0, rfl, fun i hi => ?_⟩
    have := h.cellAt i (by omega)
    rw [Nat.zero_add, this]
    simp [strs, hi]
theorem texts_apart {w w' : World} {base b : Nat} {a : Option Addr} {cap : Nat} {xs : List ByteArray} (h : w.ownsRow base 9 1 (.slice a xs.length cap) xs.length (strs xs)) (hb : b < base) (hw : ∀ g o, g ≠ b → w'.cell? ⟨g, o, none⟩ = w.cell? ⟨g, o, none⟩) : TextsAt w' a xs := by
  rcases h.2 with ⟨hv, h0⟩ | ⟨g, cp, cur, hv, hg, _⟩
  · exact .inl (List.eq_nil_of_length_eq_zero h0)
  · injection hv with h1 h2 h3
    subst h1
    refine .inr ⟨g, 0, rfl, fun i hi => ?_⟩
    have := h.cellAt i (by omega)
    rw [hw _ _ (by omega), Nat.zero_add, this]
    simp [strs, hi]
theorem texts_from {w w' : World} {base : Nat} {a : Option Addr} {cap : Nat} {xs : List ByteArray} (h : w.ownsRow base 9 1 (.slice a xs.length cap) xs.length (strs xs)) (hw : ∀ g o u, base ≤ g → w.cell? ⟨g, o, none⟩ = some u → w'.cell? ⟨g, o, none⟩ = some u) : TextsAt w' a xs := by
  rcases h.2 with ⟨hv, h0⟩ | ⟨g, cp, cur, hv, hg, _⟩
  · exact .inl (List.eq_nil_of_length_eq_zero h0)
  · injection hv with h1 h2 h3
    subst h1
    refine .inr ⟨g, 0, rfl, fun i hi => ?_⟩
    have := h.cellAt i (by omega)
    refine hw _ _ _ hg ?_
    rw [Nat.zero_add, this]
    simp [strs, hi]
theorem texts_ownF {w w' : World} {base : Nat} {a : Option Addr} {cap : Nat} {xs : List ByteArray} (h : w.ownsRow base 9 1 (.slice a xs.length cap) xs.length (strs xs)) (hw : ∀ g o u, base ≤ g → w.cell? ⟨g, o, none⟩ = some u → w.frozen? ⟨g, o, none⟩ = false → w'.cell? ⟨g, o, none⟩ = some u) : TextsAt w' a xs := by
  rcases h.2 with ⟨hv, h0⟩ | ⟨g, cp, cur, hv, hg, hh, _⟩
  · exact .inl (List.eq_nil_of_length_eq_zero h0)
  · injection hv with h1 h2 h3
    subst h1
    refine .inr ⟨g, 0, rfl, fun i hi => ?_⟩
    have := h.cellAt i (by omega)
    refine hw _ _ _ hg ?_ (by simp [World.frozen?, hh])
    rw [Nat.zero_add, this]
    simp [strs, hi]
theorem slice_own {w : World} {b e s : Nat} {v : Value} {n : Nat} {xs : List Value} (h : w.ownsRow b e s v n xs) : ∃ ao cp, v = .slice ao n cp := by
  rcases h.2 with ⟨rfl, rfl⟩ | ⟨g, cap, cur, rfl, _⟩
  · exact ⟨none, 0, rfl⟩
  · exact ⟨_, _, rfl⟩
theorem lstI_is {w : World} {a : Option Addr} {cap : Nat} {l : List ByteArray} (h : TextsAt w a l) (hne : l ≠ []) (hz : ∀ t ∈ l, t.size ≤ maxLen) (hl : l.length ≤ 281474976710656) : ItemIs w (.agg #[.int .i64 2, .string ⟨#[]⟩, .slice a l.length cap, .slice none 0 0, .slice none 0 0]) (lstI l) := by
  rw [lstI, if_neg hne]
  exact ⟨⟨a, cap, none, 0, none, 0, rfl, h, .inl rfl, .inl rfl⟩, (show (0 : Nat) ≤ maxLen by simp), hz, by simp, by simp, hl, by simp, by simp⟩

theorem popAt_any (b at_ i : Nat) (t : ByteArray) (w : World) (h : w.cell? ⟨b, 0, none⟩ = some (.int .i64 at_)) : Calls Tryz.prog 227 #[.int .i64 i, .string t, .pointer (some ⟨b, 0, none⟩)] w fun e w' => e = .returned (.bool (decide (i = at_))) ∧ w' = w := by
  have hd : (((i : Nat) : Int) == ((at_ : Nat) : Int)) = decide (i = at_) := by rw [Bool.eq_iff_iff]; simp; omega
  go_enter Tryz.func227, Tryz.ntmps227
  go_wp2_with fail
  go_ret
  rw [← hd]
  exact ⟨rfl, rfl⟩

set_option maxRecDepth 100000 in
set_option maxHeartbeats 2000000 in
theorem withoutP_any (b at_ : Nat) (a : Option Addr) (cap : Nat) (l : List ByteArray) (w : World) (hs : TextsAt w a l) (hn : l.length ≤ 1000) (hz : ∀ t ∈ l, t.size ≤ maxLen) (hc : w.cell? ⟨b, 0, none⟩ = some (.int .i64 at_)) :
    Calls Tryz.prog 170 #[.slice a l.length cap, .func (.func 227) #[] #[.pointer (some ⟨b, 0, none⟩)]] w fun e w' => ∃ v, e = .returned v ∧ ItemOwn w.heap.size w' v (lstI (keptTo (fun i _ => decide (i = at_)) l l.length)) ∧ Below w.heap.size w w' := by
  obtain ⟨i0, hi, hz0, hz1, hz2⟩ := info_parts infoStr
  have HS := hide hs
  have HZ := hide hz
  clear hs hz
  go_enter Tryz.func170, Tryz.ntmps170
  go_wp2_with fail
  generalize hW0 : World.alloc w _ = W0
  have q0 : W0.cell? ⟨w.heap.size, 0, none⟩ = some (.int .i64 0) := by rw [← hW0]; simp [go_sem]
  have q1 : W0.cell? ⟨w.heap.size, 1, none⟩ = some (.string ⟨#[]⟩) := by rw [← hW0]; simp [go_sem]
  have q2 : W0.cell? ⟨w.heap.size, 2, none⟩ = some (.slice none 0 0) := by rw [← hW0]; simp [go_sem]
  have q3 : W0.cell? ⟨w.heap.size, 3, none⟩ = some (.slice none 0 0) := by rw [← hW0]; simp [go_sem]
  have q4 : W0.cell? ⟨w.heap.size, 4, none⟩ = some (.slice none 0 0) := by rw [← hW0]; simp [go_sem]
  have f0 : W0.frozen? ⟨w.heap.size, 0, none⟩ = false := by rw [← hW0]; simp [go_sem]
  have f1 : W0.frozen? ⟨w.heap.size, 1, none⟩ = false := by rw [← hW0]; simp [go_sem]
  have f2 : W0.frozen? ⟨w.heap.size, 2, none⟩ = false := by rw [← hW0]; simp [go_sem]
  have f3 : W0.frozen? ⟨w.heap.size, 3, none⟩ = false := by rw [← hW0]; simp [go_sem]
  have f4 : W0.frozen? ⟨w.heap.size, 4, none⟩ = false := by rw [← hW0]; simp [go_sem]
  have zW : W0.heap.size = w.heap.size + 1 := by rw [← hW0]; simp
  have BW : Below w.heap.size w W0 := by rw [← hW0]; exact (Below.refl _ _).alloc (Nat.le_refl _) _
  clear hW0
  have Q0 := hide q0
  have Q1 := hide q1
  have Q2 := hide q2
  have Q3 := hide q3
  have Q4 := hide q4
  have F0 := hide f0
  have F1 := hide f1
  have F2 := hide f2
  have F3 := hide f3
  have F4 := hide f4
  clear q0 q1 q2 q3 q4 f0 f1 f2 f3 f4
  go_loopw [5, 10] (fun v i wr => ∃ k : Nat, k ≤ l.length ∧ i = .int .i64 k ∧ wr.ownsRow (w.heap.size + 1) 9 1 v (keptTo (fun i _ => decide (i = at_)) l k).length (strs (keptTo (fun i _ => decide (i = at_)) l k)) ∧ Below (w.heap.size + 1) W0 wr) (fun _ i _ => l.length - (intOf i).toNat)
  case atStart => exact ⟨0, Nat.zero_le _, rfl, World.ownsRow_nil _ _ _ _, Below.refl _ _⟩
  case round =>
    obtain ⟨k, hk, rfl, hown, hbr⟩ := hrel
    have hsz := hbr.size
    have BR : Below w.heap.size w wr := BW.trans (hbr.mono (by omega))
    have HB : Hid (∀ g o v, w.cell? ⟨g, o, none⟩ = some v → wr.cell? ⟨g, o, none⟩ = some v) := fun g o _ hv => (BR.cell (p := ⟨g, o, none⟩) (World.block_lt_of_cell? _ _ hv)).trans hv
    by_cases hlt : k < l.length
    · have hlt' : ((k : Nat) : Int) < ((l.length : Nat) : Int) := by omega
      obtain ⟨g, o, rfl, hcs⟩ : ∃ g o, a = some ⟨g, o, none⟩ ∧ ∀ i (h : i < l.length), w.cell? ⟨g, o + i, none⟩ = some (.string l[i]) := by
        rcases HS.out with h | h
        · subst h; simp at hlt
        · exact h
      have d0 : wr.cell? ⟨g, o + k, none⟩ = some (.string l[k]) := HB.out _ _ _ (hcs k hlt)
      have hc1 : wr.cell? ⟨b, 0, none⟩ = some (.int .i64 at_) := HB.out _ _ _ hc
      have HC := hide (popAt_any b at_ k l[k] wr hc1)
      have hkl := keptTo_len (fun i _ => decide (i = at_)) l k
      cases hx : (fun i _ => decide (i = at_)) k l[k] with
      | true =>
        have HY := hide (keptTo_go (goes := fun i _ => decide (i = at_)) hlt hx)
        have HX := hide hx
        clear hcs HS HZ hx HB
        go_wp2_with fail
        refine HC.out.mono ?_
        rintro e w1 ⟨rfl, rfl⟩
        rw [HX.out]
        go_wp2_with fail
        go_roundw
        case rel => exact ⟨k + 1, by omega, by go_num, by rw [HY.out]; exact hown, hbr⟩
        case measure => simp [intOf]; omega
      | false =>
        have HY := hide (keptTo_stay (goes := fun i _ => decide (i = at_)) hlt hx)
        have HX := hide hx
        clear hcs HS HZ hx HB
        generalize l[k] = X at *
        go_wp2_with fail
        refine HC.out.mono ?_
        rintro e w1 ⟨rfl, rfl⟩
        rw [HX.out]
        go_wp2_with (at_builtin; refine wpList_append_own _ rfl _ _ 31 rfl (w.heap.size + 1) 9 i0 (.string ⟨#[]⟩) 1 16 Tryz.underlying31 hi hz0 hz1 hz2 rfl (by decide) _ _ _ rfl (hown.alloc _) ⟨w1.heap.size, 0, none⟩ 1 1 [.string X] rfl rfl ?c1 ?c2 ?c3 ?c4 ?c5 ?_)
        case c1 =>
          intro j u hj
          match j, hj with
          | 0, hj => simp at hj; subst hj; simp [Addr.add]
        case c2 => intro u hu; simp at hu; subst hu; rfl
        case c3 => unfold maxLen; omega
        case c4 => omega
        case c5 => simp; omega
        intro v' w4 hown4 hgrow _
        have hb4 : Below (w.heap.size + 1) W0 w4 := (hbr.alloc (by omega) _).grown hgrow (by simp; omega) (fun j hj => (hown.lt j hj).1)
        have hown5 : w4.ownsRow (w.heap.size + 1) 9 1 v' (keptTo (fun i _ => decide (i = at_)) l (k + 1)).length (strs (keptTo (fun i _ => decide (i = at_)) l (k + 1))) := by
          rw [HY.out]
          simpa [strs] using hown4
        go_wp2_with fail
        go_roundw
        case rel => exact ⟨k + 1, by omega, by go_num, hown5, hb4⟩
        case measure => simp [intOf]; omega
    · have hge : ¬ ((k : Nat) : Int) < ((l.length : Nat) : Int) := by omega
      obtain rfl : k = l.length := by omega
      have q0 := (hbr.cell (p := ⟨w.heap.size, 0, none⟩) (by simp)).trans Q0.out
      have q1 := (hbr.cell (p := ⟨w.heap.size, 1, none⟩) (by simp)).trans Q1.out
      have q2 := (hbr.cell (p := ⟨w.heap.size, 2, none⟩) (by simp)).trans Q2.out
      have q3 := (hbr.cell (p := ⟨w.heap.size, 3, none⟩) (by simp)).trans Q3.out
      have q4 := (hbr.cell (p := ⟨w.heap.size, 4, none⟩) (by simp)).trans Q4.out
      have f0 := (hbr.frozen (p := ⟨w.heap.size, 0, none⟩) (by simp)).trans F0.out
      have f1 := (hbr.frozen (p := ⟨w.heap.size, 1, none⟩) (by simp)).trans F1.out
      have f2 := (hbr.frozen (p := ⟨w.heap.size, 2, none⟩) (by simp)).trans F2.out
      have f3 := (hbr.frozen (p := ⟨w.heap.size, 3, none⟩) (by simp)).trans F3.out
      have f4 := (hbr.frozen (p := ⟨w.heap.size, 4, none⟩) (by simp)).trans F4.out
      have hkl := keptTo_len (fun i _ => decide (i = at_)) l l.length
      have HM : Hid (∀ t ∈ keptTo (fun i _ => decide (i = at_)) l l.length, t.size ≤ maxLen) := fun t ht => HZ.out t (keptTo_mem (Nat.le_refl _) t ht)
      clear HS HZ HB Q0 Q1 Q2 Q3 Q4 F0 F1 F2 F3 F4
      generalize hK : keptTo (fun i _ => decide (i = at_)) l l.length = K at *
      have HK := hide hK
      clear hK
      obtain ⟨ao, cp, rfl⟩ := slice_own hown
      by_cases h0 : K = []
      · subst h0
        clear hown
        go_wp2_with fail
        refine bodyPost_ret (v := .agg #[.int .i64 0, .string ⟨#[]⟩, .slice none 0 0, .slice none 0 0, .slice none 0 0]) (by simp [results, Tryz.results170, go_sem, q0, q1, q2, q3, q4]) rfl ⟨_, rfl, ?_, ?_⟩
        · rw [HK.out, lstI, if_pos rfl]; exact fun w'' _ => zero_is w''
        · go_grown
      · have hKl : K.length ≠ 0 := fun e => h0 (List.eq_nil_of_length_eq_zero e)
        have hKb : (((K.length : Nat) : Int) == 0) = false := by rw [beq_eq_false_iff_ne]; omega
        have HT : Hid (∀ w', (∀ g o u, w.heap.size + 1 ≤ g → wr.cell? ⟨g, o, none⟩ = some u → wr.frozen? ⟨g, o, none⟩ = false → w'.cell? ⟨g, o, none⟩ = some u) → TextsAt w' ao K) := fun w' hw => texts_ownF hown hw
        clear hown
        have HNE := hide h0
        clear h0
        generalize hLL : K.length = n at *
        go_wp2_with fail
        refine bodyPost_ret (v := .agg #[.int .i64 2, .string ⟨#[]⟩, .slice ao n cp, .slice none 0 0, .slice none 0 0]) (by simp [results, Tryz.results170, go_sem, q0, q1, q2, q3, q4]) rfl ⟨_, rfl, ?_, ?_⟩
        · subst hLL
          rw [HK.out]
          exact fun w'' hw => lstI_is (HT.out w'' (fun g o u hg hu hf => hw g o u (by omega) ((five_apart _ _ _ _ _ _ _ g o (by omega)).trans hu) (by simpa using hf))) HNE.out HM.out (by omega)
        · go_grown
end Go.Proofs.YtmaancidkpfopaaGreatDoor

/- Appending texts; Grow, Concat of two. -/
namespace Go.Proofs.YtmaancidkpfopaaGreatDoor
open Go.RowKit

theorem run_append_none (P : Program) (w : World) (base : Nat) (t ty e : TypeId) (i : TypeInfo) (size : Nat) (ht : P.underlying t = some (.slice e)) (hi : P.info? e = some i)
    (v : Value) (n : Nat) (xs : List Value) (hown : w.ownsRow base e size v n xs) (c : Nat) :
    (Builtin.append_ #[t, t] ty #[v, .slice none 0 c]).run P w = .ok v w := by
  rcases hown.2 with ⟨rfl, rfl⟩ | ⟨g, cap, cur, rfl, _, _, hnc, _⟩
  · simp [Builtin.append_, run_underlying ht, sizeOf, typeInfo, hi, Builtin.lenOf, Builtin.firstCells]
  · simp [Builtin.append_, run_underlying ht, sizeOf, typeInfo, hi, Builtin.lenOf, Builtin.firstCells, hnc, storeCells]
theorem strs_one (l : List ByteArray) : ∀ u ∈ strs l, u.oneCell' = true := by
  intro u hu
  obtain ⟨t, _, rfl⟩ := List.mem_map.1 hu
  rfl
theorem texts_news {w : World} {g o : Nat} {l : List ByteArray} (h : ∀ i (hi : i < l.length), w.cell? ⟨g, o + i, none⟩ = some (.string l[i])) : ∀ j u, (strs l)[j]? = some u → w.cell? ((⟨g, o, none⟩ : Addr).add j) = some u := by
  intro j u hj
  have hjl : j < l.length := by
    have := (List.getElem?_eq_some_iff.1 hj).1
    simpa [strs] using this
  have e : (⟨g, o, none⟩ : Addr).add j = ⟨g, o + j, none⟩ := by
    unfold Addr.add
    split
    · rename_i h; subst h; rfl
    · rfl
  rw [e, h j hjl, ← hj]
  simp [strs, hjl]
/-- append of texts to a row of one's own -/
theorem wpList_append_texts {w : World} {ops : Array Oper} {rest : List Oper} {o : Oper} {a : Act} {Q : Exit → Act → World → Prop}
    (hg : o.guard = none) (s x : Operand) (hop : o.op = .call { callee := .builtin .append, args := #[s, x], argTypes := #[31, 31] })
    (base : Nat) (v : Value) (n : Nat) (xs : List Value) (hs : a.eval s = v) (hown : w.ownsRow base 9 1 v n xs)
    (ad : Option Addr) (c : Nat) (l : List ByteArray) (hx : a.eval x = .slice ad l.length c) (hl : TextsAt w ad l) (h63 : n + l.length ≤ 2000000) (hbase : base ≤ w.heap.size)
    (hK : ∀ v' w', w'.ownsRow base 9 1 v' (n + l.length) (xs ++ strs l) → w.grownBy w' v.ownBlock → wpList Tryz.prog ops Q rest (a.put o.dst v') w') :
    wpList Tryz.prog ops Q (o :: rest) a w := by
  obtain ⟨i0, hi, hz0, hz1, hz2⟩ := info_parts infoStr
  refine wpList_plain hg fun K' hK' => ?_
  cases ad with
  | none =>
    obtain rfl : l = [] := by
      rcases hl with h | ⟨g, o, h, _⟩
      · exact h
      · cases h
    have hr := run_append_none Tryz.prog w base 31 o.type 9 i0 1 Tryz.underlying31 hi v n xs hown c
    unfold Oper.wp execOp
    simp only [hop, resolve, invoke, builtin, Sem.run_bind, Sem.run_pure, Result.andThen_ok, List.map_toArray, List.map_cons, List.map_nil, hs, hx, List.length_nil, hr]
    exact hK' _ _ (hK v w (by simpa [strs] using hown) (World.grownBy.refl _ _))
  | some ad =>
    refine wp_append_own (P := Tryz.prog) w s x 31 hop base 9 i0 (.string ⟨#[]⟩) 1 16 Tryz.underlying31 hi hz0 hz1 hz2 rfl (by decide) v n xs hs hown ad l.length c (strs l) hx (by simp [strs]) ?_ (strs_one l) (by unfold maxLen; omega) (by omega) hbase ?_
    · rcases hl with h | ⟨g, o, h, hc⟩
      · subst h
        intro j u hj
        simp [strs] at hj
      · injection h with h
        subst h
        exact texts_news hc
    · intro v' w' h1 h2 _
      exact hK' _ _ (hK v' w' h1 h2)

/-- append of so many noughts to nothing -/
theorem wpList_append_zeros {w : World} {ops : Array Oper} {rest : List Oper} {o : Oper} {a : Act} {Q : Exit → Act → World → Prop}
    (hg : o.guard = none) (s x : Operand) (hop : o.op = .call { callee := .builtin .append, args := #[s, x], argTypes := #[31, 3] })
    (n : Nat) (hs : a.eval s = .slice none 0 0) (hx : a.eval x = .int .i64 n) (h0 : 0 < n) (hn : n ≤ 2000000)
    (hK : ∀ w' cap, n ≤ cap → w'.ownsRow w.heap.size 9 1 (.slice (some ⟨w.heap.size, 0, none⟩) 0 cap) 0 [] → Below w.heap.size w w' → wpList Tryz.prog ops Q rest (a.put o.dst (.slice (some ⟨w.heap.size, 0, none⟩) n cap)) w') :
    wpList Tryz.prog ops Q (o :: rest) a w := by
  obtain ⟨i0, hi, hz0, hz1, hz2⟩ := info_parts infoStr
  refine wpList_plain hg fun K' hK' => ?_
  have hr := Lib.run_append_nil_zeros (P := Tryz.prog) w 31 3 o.type 9 i0 (.string ⟨#[]⟩) .i64 .i64 Tryz.underlying31 Tryz.underlying3 hi hz0 n h0 (by omega) (by omega) (by rw [hz2]; omega)
  unfold Oper.wp execOp
  simp only [hop, resolve, invoke, builtin, Sem.run_bind, Sem.run_pure, Result.andThen_ok, List.map_toArray, List.map_cons, List.map_nil, hs, hx, hr]
  have hge := grownCap_ge w n 0 9
  have hle := grownCap_le_maxLen w n 0 9 (by unfold maxLen; omega)
  generalize grownCap w n 0 9 = cap at *
  refine hK' _ _ (hK _ cap hge ?_ ((Below.refl _ _).drew.alloc (Nat.le_refl _) _))
  have := World.ownsRow_made (base := w.heap.size) (e := 9) (size := 1) w.drew (Builtin.zeroCells (Value.string ⟨#[]⟩).cells n ++ Builtin.zeroCells (Value.string ⟨#[]⟩).cells (cap - n)) cap (Nat.le_refl _) hle (by
    rw [Array.size_append, size_zeroCells, size_zeroCells]
    have : (Value.string ⟨#[]⟩).cells.size = 1 := rfl
    rw [this]
    omega)
  exact this

set_option maxRecDepth 100000 in
set_option maxHeartbeats 1000000 in
theorem grow_any (n : Nat) (w : World) (h0 : 0 < n) (hn : n ≤ 2000000) : Calls Tryz.prog 228 #[.slice none 0 0, .int .i64 n] w fun e w' => ∃ cap, e = .returned (.slice (some ⟨w.heap.size, 0, none⟩) 0 cap) ∧ w'.ownsRow w.heap.size 9 1 (.slice (some ⟨w.heap.size, 0, none⟩) 0 cap) 0 [] ∧ Below w.heap.size w w' := by
  have h1 : ¬ ((n : Nat) : Int) < 0 := by omega
  have h2 : (0 : Int) < ((n : Nat) : Int) := by omega
  go_enter Tryz.func228, Tryz.ntmps228
  go_wp2_with (at_builtin; refine wpList_append_zeros rfl _ _ rfl n rfl rfl h0 hn ?_)
  intro w' cap hcap hown hb
  have hc0 : (0 : Int) ≤ ((cap : Nat) : Int) := by omega
  go_wp2_with fail
  go_ret
  exact ⟨cap, rfl, hown, hb⟩

set_option maxRecDepth 100000 in
set_option maxHeartbeats 2000000 in
theorem concat_any (g : Nat) (a1 a2 : Option Addr) (c1 c2 : Nat) (l1 l2 : List ByteArray) (w : World) (h0 : w.cell? ⟨g, 0, none⟩ = some (.slice a1 l1.length c1)) (h1 : w.cell? ⟨g, 1, none⟩ = some (.slice a2 l2.length c2))
    (hl1 : TextsAt w a1 l1) (hl2 : TextsAt w a2 l2) (hpos : 0 < l1.length + l2.length) (hn : l1.length + l2.length ≤ 2000000) :
    Calls Tryz.prog 173 #[.slice (some ⟨g, 0, none⟩) 2 2] w fun e w' => ∃ v, e = .returned v ∧ w'.ownsRow w.heap.size 9 1 v (l1 ++ l2).length (strs (l1 ++ l2)) ∧ Below w.heap.size w w' := by
  have hgl : g < w.heap.size := World.block_lt_of_cell? _ _ h0
  have H1 := hide hl1
  have H2 := hide hl2
  clear hl1 hl2
  have HG : Hid (Calls Tryz.prog 228 #[.slice none 0 0, .int .i64 (((l1.length : Nat) : Int) + ((l2.length : Nat) : Int))] w fun e w' => ∃ cap, e = .returned (.slice (some ⟨w.heap.size, 0, none⟩) 0 cap) ∧ w'.ownsRow w.heap.size 9 1 (.slice (some ⟨w.heap.size, 0, none⟩) 0 cap) 0 [] ∧ Below w.heap.size w w') := by
    have hh := grow_any (l1.length + l2.length) w hpos hn
    rw [Int.natCast_add] at hh
    exact hh
  have n1 : ¬ ((l1.length : Nat) : Int) < 0 := by omega
  have n2 : ¬ ((l1.length : Nat) : Int) + ((l2.length : Nat) : Int) < 0 := by omega
  go_enter Tryz.func173, Tryz.ntmps173
  go_wp2_with fail
  refine wp_loop_rounds 3 ?_
  rw [rounds_succ]
  go_wp2_with fail
  rw [rounds_succ]
  go_wp2_with fail
  rw [rounds_succ]
  go_wp2_with fail
  refine HG.out.mono ?_
  rintro e w1 ⟨cap, rfl, hown1, hb1⟩
  have e0 : w1.cell? ⟨g, 0, none⟩ = some (.slice a1 l1.length c1) := (hb1.cell (p := ⟨g, 0, none⟩) hgl).trans h0
  have e1 : w1.cell? ⟨g, 1, none⟩ = some (.slice a2 l2.length c2) := (hb1.cell (p := ⟨g, 1, none⟩) hgl).trans h1
  have hz1 := hb1.size
  go_wp2_with fail
  refine wp_loop_rounds 3 ?_
  rw [rounds_succ]
  go_wp2_with (at_builtin; refine wpList_append_texts rfl _ _ rfl w.heap.size _ 0 [] rfl hown1 a1 c1 l1 rfl (H1.out.below hb1) (by omega) hz1 ?_)
  intro v2 w2 hown2 hg2
  have hb2 : Below w.heap.size w w2 := hb1.grown hg2 hz1 (fun j hj => (hown1.lt j hj).1)
  have hz2 := hb2.size
  have k0 : w2.cell? ⟨g, 0, none⟩ = some (.slice a1 l1.length c1) := (hb2.cell (p := ⟨g, 0, none⟩) hgl).trans h0
  have k1 : w2.cell? ⟨g, 1, none⟩ = some (.slice a2 l2.length c2) := (hb2.cell (p := ⟨g, 1, none⟩) hgl).trans h1
  go_wp2_with fail
  rw [rounds_succ]
  go_wp2_with (at_builtin; refine wpList_append_texts rfl _ _ rfl w.heap.size _ _ _ rfl hown2 a2 c2 l2 rfl (H2.out.below hb2) (by omega) hz2 ?_)
  intro v3 w3 hown3 hg3
  have hb3 : Below w.heap.size w w3 := hb2.grown hg3 hz2 (fun j hj => (hown2.lt j hj).1)
  go_wp2_with fail
  rw [rounds_succ]
  go_wp2_with fail
  go_ret
  refine ⟨v3, rfl, ?_, hb3⟩
  simpa [strs] using hown3
end Go.Proofs.YtmaancidkpfopaaGreatDoor

/- Library contracts, laid at this program. -/
namespace Go.Proofs
open Go.Shelf
def Tryz.laysNm217_ren : Go.Shelf.Ren := ⟨fun | 17 => 265 | n => n, fun | 24 => 31 | 9 => 9 | 3 => 3 | 4 => 4 | 0 => 0 | n => n, fun | n => n⟩
theorem Tryz.laysNm217 : Go.Proofs.Lays2.n17 Tryz.prog Tryz.laysNm217_ren := {
  mixed := by kernel_rfl
  f17 := Tryz.func265.trans (congrArg some (by kernel_rfl))
  t0 := Tryz.underlying0
  a0 := Tryz.isAgg0
  z0 := Tryz.sizeOf0
  v0 := Tryz.zeroValue0
  t3 := Tryz.underlying3
  a3 := Tryz.isAgg3
  z3 := Tryz.sizeOf3
  v3 := Tryz.zeroValue3
  t4 := Tryz.underlying4
  a4 := Tryz.isAgg4
  z4 := Tryz.sizeOf4
  v4 := Tryz.zeroValue4
  t9 := Tryz.underlying9
  a9 := Tryz.isAgg9
  z9 := Tryz.sizeOf9
  v9 := Tryz.zeroValue9
  t24 := Tryz.underlying31
  a24 := Tryz.isAgg31
  z24 := Tryz.sizeOf31
  v24 := Tryz.zeroValue31 }
def Tryz.laysNm216_ren : Go.Shelf.Ren := ⟨fun | 16 => 41 | n => n, fun | 24 => 31 | 9 => 9 | 4 => 4 | n => n, fun | n => n⟩
theorem Tryz.laysNm216 : Go.Proofs.Lays2.n16 Tryz.prog Tryz.laysNm216_ren := {
  mixed := by kernel_rfl
  f16 := Tryz.func41.trans (congrArg some (by kernel_rfl))
  t4 := Tryz.underlying4
  a4 := Tryz.isAgg4
  z4 := Tryz.sizeOf4
  v4 := Tryz.zeroValue4
  t9 := Tryz.underlying9
  a9 := Tryz.isAgg9
  z9 := Tryz.sizeOf9
  v9 := Tryz.zeroValue9
  t24 := Tryz.underlying31
  a24 := Tryz.isAgg31
  z24 := Tryz.sizeOf31
  v24 := Tryz.zeroValue31
  i9 := by kernel_rfl }
open Go.RowKit Go.Lib in
theorem Tryz.slices_Clone_string (b off n c : Nat) (zs : List ByteArray) (w : World) (hz : n ≤ zs.length) (hbig : n * 16 ≤ 140737488355328) (hc : ∀ j, j < zs.length → w.cell? ⟨b, off + j, none⟩ = some (.string (zs.getD j ByteArray.empty))) :
    Calls Tryz.prog 41 #[.slice (some ⟨b, off, none⟩) n c] w fun e w' => ∃ v', e = .returned v' ∧ w'.ownsRow w.heap.size 9 1 v' n ((zs.take n).map (Value.string)) ∧ v' ≠ .slice none 0 0 ∧ Below w.heap.size w w' := Any.slices_Clone_string Tryz.laysNm216 b off n c zs w hz hbig hc
open Go.RowKit Go.Lib in
theorem Tryz.slices_Clone_string_nil (n c : Nat) (w : World) :
    Calls Tryz.prog 41 #[.slice none n c] w fun e w' => e = .returned (.slice none 0 0) ∧ w' = w := Any.slices_Clone_string_nil Tryz.laysNm216 n c w
open Go.RowKit Go.Lib in
theorem Tryz.slices_Clone_string_zero (a : Addr) (c : Nat) (w : World) :
    Calls Tryz.prog 41 #[.slice (some a) 0 c] w fun e w' => ∃ v', e = .returned v' ∧ w'.ownsRow w.heap.size 9 1 v' 0 [] ∧ v' ≠ .slice none 0 0 ∧ Below w.heap.size w w' := Any.slices_Clone_string_zero Tryz.laysNm216 a c w
open Go.RowKit Go.Lib Go.Sort in
theorem Tryz.slices_Reverse_string_cells (b off n c : Nat) (Sx : Nat → ByteArray) (w : World) (hbig : n ≤ 9223372036854775807) (hc : ∀ i, i < n → w.cell? ⟨b, off + i, none⟩ = some (.string (Sx i))) (hf : ∀ j, j < n → w.frozen? ⟨b, off + j, none⟩ = false) :
    Calls Tryz.prog 265 #[.slice (some ⟨b, off, none⟩) n c] w fun e w' => e = .returned (.tuple #[]) ∧ ∃ q, w' = (w.drewN q).setCells b off ((Lib.strsOf Sx n).reverse.map encStr) := Any.slices_Reverse_string_cells Tryz.laysNm217 b off n c Sx w hbig hc hf
end Go.Proofs

/- WALK of together. -/
namespace Go.Proofs.YtmaancidkpfopaaGreatDoor
open Go.RowKit Go.Lib Go.Sort

theorem below_setCells {B : Nat} {a : World} (b : Nat) (hb : B ≤ b) : ∀ (vs : List Value) (o : Nat) (w : World), Below B a w → Below B a (w.setCells b o vs)
  | [], _, _, h => h
  | v :: vs, o, w, h => below_setCells b hb vs (o + 1) (w.setCell ⟨b, o, none⟩ v) (h.setCell (p := ⟨b, o, none⟩) hb v)
theorem rev_list (l : List ByteArray) : (Lib.strsOf (fun i => l.getD i ByteArray.empty) l.length).reverse.map encStr = strs l.reverse := by
  have e : Lib.strsOf (fun i => l.getD i ByteArray.empty) l.length = l.map (fun t => t.data.toList) := by
    unfold Lib.strsOf
    apply List.ext_getElem
    · simp
    · intro i h1 h2
      simp at h1 h2
      simp [h1]
  rw [e, ← List.map_reverse, List.map_map, strs]
  congr 1
/-- the clone, turned round -/
theorem turned_any (a : Option Addr) (c : Nat) (l : List ByteArray) (w : World) (hl : TextsAt w a l) (hne : l ≠ []) (hn : l.length ≤ 1000) :
    Calls Tryz.prog 41 #[.slice a l.length c] w fun e w' => ∃ g cap, e = .returned (.slice (some ⟨g, 0, none⟩) l.length cap) ∧ w.heap.size ≤ g ∧ Below w.heap.size w w' ∧
      ∀ W, Below w'.heap.size w' W → Calls Tryz.prog 265 #[.slice (some ⟨g, 0, none⟩) l.length cap] W fun e w'' => e = .returned (.tuple #[]) ∧ TextsAt w'' (some ⟨g, 0, none⟩) l.reverse ∧ Below w.heap.size W w'' := by
  obtain ⟨g0, o0, rfl, hc⟩ : ∃ g o, a = some ⟨g, o, none⟩ ∧ ∀ i (h : i < l.length), w.cell? ⟨g, o + i, none⟩ = some (.string l[i]) := by
    rcases hl with h | h
    · exact absurd h hne
    · exact h
  refine (Tryz.slices_Clone_string g0 o0 l.length c l w (Nat.le_refl _) (by omega) (fun j hj => by rw [hc j hj]; simp [hj])).mono ?_
  rintro e w' ⟨v', rfl, hown, hnn, hb⟩
  rw [List.take_length] at hown
  rcases hown.2 with ⟨hv, _⟩ | ⟨g, cap, cur, rfl, hbg, hgg, rest⟩
  · exact absurd hv hnn
  · refine ⟨g, cap, rfl, hbg, hb, fun W hW => ?_⟩
    have hgl : g < w'.heap.size := (hown.lt g rfl).2
    have hcs : ∀ i, i < l.length → W.cell? ⟨g, 0 + i, none⟩ = some (.string (l.getD i ByteArray.empty)) := fun i hi => by
      have h1 := (hW.cell (p := ⟨g, i, none⟩) hgl).trans (hown.cellAt i (by omega))
      rw [Nat.zero_add, h1]
      simp [hi]
    refine (Tryz.slices_Reverse_string_cells g 0 l.length cap (fun i => l.getD i ByteArray.empty) W (by omega) hcs (fun j hj => by rw [Nat.zero_add]; exact (hW.frozen (p := ⟨g, j, none⟩) hgl).trans (hown.frozenAt j))).mono ?_
    rintro e w'' ⟨rfl, q, rfl⟩
    refine ⟨rfl, ?_, ?_⟩
    · rw [rev_list]
      refine .inr ⟨g, 0, rfl, fun i hi => ?_⟩
      have hl2 : (strs l.reverse).length = l.length := by simp [strs]
      have := World.cell?_setCells_in g (strs l.reverse) 0 (W.drewN q) (fun j hj => by
        have h3 := hcs j (by omega)
        show (W.cell? ⟨g, 0 + j, none⟩).isSome = true
        rw [h3]
        rfl) i (by simp at hi; omega)
      rw [this]
      simp [strs]
    · have hd : Below w.heap.size W (W.drewN q) := ⟨rfl, rfl, rfl, Nat.le_refl _, fun _ _ => rfl⟩
      exact below_setCells g hbg _ 0 _ hd

theorem own_low {w : World} {b1 b2 e s : Nat} {v : Value} {n : Nat} {xs : List Value} (h : w.ownsRow b1 e s v n xs) (hb : b2 ≤ b1) : w.ownsRow b2 e s v n xs := by
  refine ⟨h.1, ?_⟩
  rcases h.2 with hn | ⟨g, cap, cur, hv, hbg, rest⟩
  · exact .inl hn
  · exact .inr ⟨g, cap, cur, hv, Nat.le_trans hb hbg, rest⟩
def pushL (there : List ByteArray) (left : Bool) (l : List ByteArray) : List ByteArray := if left then l.reverse ++ there else there ++ l
set_option maxRecDepth 100000 in
set_option maxHeartbeats 1000000 in
theorem together_any (a1 a2 : Option Addr) (c1 c2 : Nat) (there l : List ByteArray) (left : Bool) (w : World) (h1 : TextsAt w a1 there) (h2 : TextsAt w a2 l) (hne : l ≠ []) (hn : there.length + l.length ≤ 1000) :
    Calls Tryz.prog 226 #[.slice a1 there.length c1, .bool left, .slice a2 l.length c2] w fun e w' => ∃ v, e = .returned v ∧ w'.ownsRow w.heap.size 9 1 v (pushL there left l).length (strs (pushL there left l)) ∧ Below w.heap.size w w' := by
  have hlp : 0 < l.length := List.length_pos_iff.2 hne
  cases left with
  | false =>
    have H1 := hide h1
    have H2 := hide h2
    clear h1 h2
    go_enter Tryz.func226, Tryz.ntmps226
    go_wp2_with fail
    refine (concat_any w.heap.size a1 a2 c1 c2 there l _ (by simp [go_sem]) (by simp [go_sem]) (H1.out.below ((Below.refl _ _).alloc (Nat.le_refl _) _)) (H2.out.below ((Below.refl _ _).alloc (Nat.le_refl _) _)) (by omega) (by omega)).mono ?_
    rintro e w1 ⟨v, rfl, hown, hb⟩
    go_wp2_with fail
    go_ret
    refine ⟨v, rfl, ?_, ((Below.refl _ w).alloc (Nat.le_refl _) _).trans (hb.mono (by simp))⟩
    simp only [pushL, Bool.false_eq_true, if_false]
    exact own_low hown (by simp)
  | true =>
    have HT := hide (turned_any a2 c2 l w h2 hne (by omega))
    have H1 := hide h1
    clear h1 h2
    go_enter Tryz.func226, Tryz.ntmps226
    go_wp2_with fail
    refine HT.out.mono ?_
    rintro e w1 ⟨g, cap, rfl, hg, hb1, HR⟩
    have HRR := hide (HR w1 (Below.refl _ _))
    clear HR
    go_wp2_with fail
    refine HRR.out.mono ?_
    rintro e w2 ⟨rfl, ht2, hb2⟩
    have B2 : Below w.heap.size w w2 := hb1.trans hb2
    have HT2 := hide ht2
    clear ht2
    go_wp2_with fail
    have hz2 := B2.size
    refine (concat_any w2.heap.size (some ⟨g, 0, none⟩) a1 cap c1 l.reverse there _ (by simp [go_sem]) (by simp [go_sem]) (HT2.out.below ((Below.refl _ _).alloc (Nat.le_refl _) _)) (H1.out.below (B2.alloc B2.size _)) (by simp; omega) (by simp; omega)).mono ?_
    rintro e w3 ⟨v, rfl, hown, hb⟩
    go_wp2_with fail
    go_ret
    refine ⟨v, rfl, ?_, (B2.alloc B2.size _).trans (hb.mono (by simp; omega))⟩
    simp only [pushL, if_true]
    exact own_low hown (by simp; omega)
end Go.Proofs.YtmaancidkpfopaaGreatDoor

/- A text without bytes. -/
namespace Go.Proofs.YtmaancidkpfopaaGreatDoor
open Go.RowKit

theorem below_drewN' {B : Nat} {a w : World} (h : Below B a w) (n : Nat) : Below B a (w.drewN n) := ⟨h.os, h.tape, h.output, h.size, h.block⟩
theorem bytes_inj' {a b : ByteArray} (h : a.toList = b.toList) : a = b := by
  rw [ByteArray.toList_eq, ByteArray.toList_eq] at h
  cases a; cases b
  congr 1
  exact Array.toList_inj.1 h
theorem empty_bytes {t : ByteArray} (h : t.toList = []) : t = ⟨#[]⟩ := by
  rw [ByteArray.toList_eq] at h
  obtain ⟨⟨l⟩⟩ := t
  simp at h
  rw [h]
end Go.Proofs.YtmaancidkpfopaaGreatDoor

/- WALK of Push. -/
namespace Go.Proofs.YtmaancidkpfopaaGreatDoor
open Go.RowKit

theorem pushLong_below (t : ByteArray) (w : World) : Calls Tryz.prog 28 #[.string t] w fun e w' => e = .returned (.bool (longT t)) ∧ Below w.heap.size w w' := by
  have h : decide ((60 : Int) < ((t.size : Nat) : Int)) = longT t := by unfold longT; simp; omega
  go_enter Tryz.func28, Tryz.ntmps28
  go_wp2_with fail
  go_ret
  exact ⟨rfl, Below.refl _ _⟩

set_option maxRecDepth 100000 in
set_option maxHeartbeats 1000000 in
theorem idxPushLong_any (a : Option Addr) (cap : Nat) (ts : List ByteArray) (w : World) (hs : TextsAt w a ts) (hn : ts.length ≤ 2000000) :
    Calls Tryz.prog 208 #[.slice a ts.length cap, .func (.func 28) #[] #[]] w fun e w' => (∃ n : Int, e = .returned (.int .i64 n) ∧ (decide (0 ≤ n) = ts.any longT)) ∧ Below w.heap.size w w' := by
  have HS := hide hs
  clear hs
  go_enter Tryz.func208, Tryz.ntmps208
  go_wp2_with fail
  go_loopw [8] (fun i wr => ∃ k : Nat, k ≤ ts.length ∧ i = .int .i64 k ∧ Below w.heap.size w wr ∧ Hid ((ts.take k).any longT = false)) (fun i _ => ts.length - (intOf i).toNat)
  case atStart => exact ⟨0, Nat.zero_le _, rfl, Below.refl _ _, by simp [Hid]⟩
  case round =>
    obtain ⟨k, hk, rfl, hb, HA⟩ := hrel
    by_cases hlt : k < ts.length
    · obtain ⟨g, o, rfl, hcs⟩ : ∃ g o, a = some ⟨g, o, none⟩ ∧ ∀ i (h : i < ts.length), w.cell? ⟨g, o + i, none⟩ = some (.string ts[i]) := by
        rcases HS.out with h | h
        · subst h; simp at hlt
        · exact h
      have HB : Hid (∀ g o v, w.cell? ⟨g, o, none⟩ = some v → wr.cell? ⟨g, o, none⟩ = some v) := fun g o _ hv => (hb.cell (p := ⟨g, o, none⟩) (World.block_lt_of_cell? _ _ hv)).trans hv
      have d0 : wr.cell? ⟨g, o + k, none⟩ = some (.string ts[k]) := HB.out _ _ _ (hcs k hlt)
      have HT : Hid ((ts.take (k + 1)).any longT = ((ts.take k).any longT || longT ts[k])) := by
        rw [Hid, List.take_succ_eq_append_getElem hlt, List.any_append]
        simp
      have HF : Hid (longT ts[k] = true → ts.any longT = true) := fun hx => List.any_eq_true.mpr ⟨ts[k], List.getElem_mem hlt, hx⟩
      clear hcs HS HB
      go_wp2_with fail
      refine (pushLong_below ts[k] wr).mono ?_
      rintro e w1 ⟨rfl, hb1⟩
      have hb2 : Below w.heap.size w w1 := hb.trans (hb1.mono hb.size)
      cases hx : longT ts[k] with
      | true =>
        have HY := hide (HF.out hx)
        clear HF HT hx
        go_wp2_with fail
        go_ret
        exact ⟨⟨_, rfl, by rw [HY.out]; simp⟩, hb2⟩
      | false =>
        have HY : Hid ((ts.take (k + 1)).any longT = false) := by rw [Hid, HT.out, HA.out, hx]; rfl
        clear HF HT hx
        go_wp2_with fail
        go_roundw
        case rel => exact ⟨k + 1, by omega, by go_num, hb2, HY⟩
        case measure => simp [intOf]; omega
    · have hkk : k = ts.length := by omega
      subst hkk
      have HY : Hid (ts.any longT = false) := by have := HA.out; rw [List.take_length] at this; exact this
      go_wp2_with fail
      go_ret
      exact ⟨⟨-1, rfl, by rw [HY.out]; rfl⟩, hb⟩
theorem containsPushLong_any (a : Option Addr) (cap : Nat) (ts : List ByteArray) (w : World) (hs : TextsAt w a ts) (hn : ts.length ≤ 2000000) :
    Calls Tryz.prog 131 #[.slice a ts.length cap, .func (.func 28) #[] #[]] w fun e w' => e = .returned (.bool (ts.any longT)) ∧ Below w.heap.size w w' := by
  have HI := hide (idxPushLong_any a cap ts w hs hn)
  clear hs
  go_enter Tryz.func131, Tryz.ntmps131
  go_wp2_with fail
  refine HI.out.mono ?_
  rintro e w1 ⟨⟨n, rfl, hd⟩, hb⟩
  have HD := hide hd
  clear hd
  go_wp2_with fail
  go_ret
  exact ⟨by rw [← HD.out]; rfl, hb⟩

/-- an item that is right as a list -/
theorem asI_list {x : Itm} (h : asI x 2 = 0) : x = lstI x.l ∧ x.l.length ≤ 24 ∧ x.l.any longT = false := by
  obtain ⟨k, t, l, p, s⟩ := x
  unfold asI at h
  split at h
  · rename_i hn
    simp only [Itm.isNone, decide_eq_true_eq] at hn
    obtain ⟨rfl, ht, rfl, rfl, rfl⟩ := hn
    obtain rfl := empty_bytes ht
    exact ⟨rfl, by simp, rfl⟩
  · split at h
    · rename_i h1; exact absurd h h1
    · rename_i h1
      split at h
      · cases h
      · rename_i hk
        have hk1 : k = 2 := by
          rcases Int.lt_trichotomy k 2 with h' | h' | h'
          · exact absurd (show k ≠ 2 by omega) hk
          · exact h'
          · exact absurd (show k ≠ 2 by omega) hk
        subst hk1
        have h2 : chkI ⟨2, t, l, p, s⟩ = 0 := by
          rcases Classical.em (chkI ⟨2, t, l, p, s⟩ = 0) with h' | h'
          · exact h'
          · exact absurd h' h1
        unfold chkI at h2
        rw [if_neg (show ¬ ((2 : Int) < 1 ∨ 5 < (2 : Int)) by decide)] at h2
        split at h2
        · cases h2
        · rename_i ho
          rw [if_pos rfl] at h2
          simp only [otherI, decide_eq_true_eq] at ho
          have ht : t.toList = [] := by
            rcases Classical.em (t.toList = []) with h' | h'
            · exact h'
            · exact absurd (Or.inl ⟨by decide, h'⟩) ho
          obtain rfl := empty_bytes ht
          obtain rfl : p = [] := List.eq_nil_of_length_eq_zero (by by_cases hx : 0 < p.length; exact absurd (Or.inr (Or.inr (Or.inl ⟨by decide, hx⟩))) ho; omega)
          obtain rfl : s = [] := List.eq_nil_of_length_eq_zero (by by_cases hx : 0 < s.length; exact absurd (Or.inr (Or.inr (Or.inr ⟨by decide, hx⟩))) ho; omega)
          have hp := sizeT_pos h2
          refine ⟨?_, sizeT_small h2, sizeT_short h2⟩
          simp only [lstI]
          rw [if_neg (fun e => by rw [e] at hp; simp at hp)]
def pushE (x : Itm) (l : List ByteArray) : Int := if asI x 2 ≠ 0 then asI x 2 else if 24 < x.l.length + l.length ∨ l.any longT = true then 2 else if l = [] then 1 else 0
def pushI (x : Itm) (left : Bool) (l : List ByteArray) : Itm := if pushE x l = 0 then lstI (pushL x.l left l) else Itm.none
def pushN (x : Itm) (l : List ByteArray) : Int := if pushE x l = 0 then ((x.l.length : Nat) : Int) + ((l.length : Nat) : Int) else 0
end Go.Proofs.YtmaancidkpfopaaGreatDoor

/- WALK of Pop. -/
namespace Go.Proofs.YtmaancidkpfopaaGreatDoor
open Go.RowKit

def popE (x : Itm) : Int := if asI x 2 ≠ 0 then asI x 2 else if x.l = [] then 5 else 0
def popAt (left : Bool) (l : List ByteArray) : Nat := if left then 0 else l.length - 1
def popK (l : List ByteArray) (left : Bool) : List ByteArray := keptTo (fun i _ => decide (i = popAt left l)) l l.length
def popI (x : Itm) (left : Bool) : Itm := if popE x = 0 then lstI (popK x.l left) else Itm.none
def popS (x : Itm) (left : Bool) : ByteArray := if popE x = 0 then x.l[popAt left x.l]! else ⟨#[]⟩
set_option maxRecDepth 100000 in
set_option maxHeartbeats 4000000 in
theorem pop_own (v : Value) (x : Itm) (left : Bool) (w : World) (h : ItemIs w v x) :
    Calls Tryz.prog 169 #[v, .bool left] w fun e w' => ∃ u, e = .returned (.tuple #[u, .string (popS x left), .int .i64 (popE x)]) ∧ ItemOwn w.heap.size w' u (popI x left) ∧ Below w.heap.size w w' := by
  have HC : Hid (∀ W, Below w.heap.size w W → Calls Tryz.prog 115 #[v, .int .i64 2] W fun e w' => e = .returned (.int .i64 (asI x 2)) ∧ Below W.heap.size W w') := fun W hW => common_any v x 2 W (h.below hW)
  obtain ⟨⟨a1, c1, a2, c2, a3, c3, rfl, hx1, -, -⟩, tz, lz, -, -, -, -, -⟩ := h
  have HX := hide hx1
  clear hx1
  by_cases h0 : asI x 2 = 0
  · obtain ⟨-, hx24, hxl⟩ := asI_list h0
    rw [h0] at HC
    by_cases hne : x.l = []
    · have hE : popE x = 5 := by rw [popE, if_neg (by simp [h0]), if_pos hne]
      rw [popS, popI, hE, if_neg (by decide), if_neg (by decide)]
      rw [hne] at HC ⊢
      clear hE h0 hxl hne HX
      generalize x.t = t at *
      generalize x.k = k at *
      generalize x.p.length = n2 at *
      generalize x.s.length = n3 at *
      go_enter Tryz.func169, Tryz.ntmps169
      go_wp2_with fail
      refine (HC.out _ (((Below.refl _ w).alloc (Nat.le_refl _) _).alloc (by simp) _)).mono ?_
      rintro e w1 ⟨rfl, hb1⟩
      obtain ⟨hc, hf⟩ := bcell hb1
      have hz : w.heap.size + 1 < w1.heap.size := by have := hb1.size; simp at this; omega
      have hB1 : Below w.heap.size w w1 := (((Below.refl _ w).alloc (Nat.le_refl _) _).alloc (by simp) _).trans (hb1.mono (by simp; omega))
      go_wp2_with fail
      refine bodyPost_ret (v := .tuple #[.agg #[.int .i64 0, .string ⟨#[]⟩, .slice none 0 0, .slice none 0 0, .slice none 0 0], .string ⟨#[]⟩, .int .i64 5]) (by simp [results, Tryz.results169, go_sem, hc]) rfl ⟨_, rfl, fun w'' _ => zero_is w'', ?_⟩
      go_grown
    · have hE : popE x = 0 := by rw [popE, if_neg (by simp [h0]), if_neg hne]
      rw [popS, popI, hE, if_pos rfl, if_pos rfl, popK]
      have hpos : 0 < x.l.length := List.length_pos_iff.2 hne
      have hl0 : (((x.l.length : Nat) : Int) == 0) = false := by rw [beq_eq_false_iff_ne]; omega
      have HZ := hide lz
      clear hE h0 hxl hne lz
      generalize x.l = L at *
      cases left with
      | true =>
        have hat : 0 < L.length := hpos
        rw [show popAt true L = 0 from rfl, getElem!_pos L 0 hat]
        have HW : Hid (∀ (b : Nat) (W : World), Below w.heap.size w W → W.cell? ⟨b, 0, none⟩ = some (.int .i64 ((0 : Nat) : Int)) → Calls Tryz.prog 170 #[.slice a1 L.length c1, .func (.func 227) #[] #[.pointer (some ⟨b, 0, none⟩)]] W fun e w' => ∃ v, e = .returned v ∧ ItemOwn W.heap.size w' v (lstI (keptTo (fun i _ => decide (i = 0)) L L.length)) ∧ Below W.heap.size W w') := fun b W hW hc => withoutP_any b 0 a1 c1 L W (HX.out.below hW) (by omega) HZ.out hc
        generalize x.t = t at *
        generalize x.k = k at *
        generalize x.p.length = n2 at *
        generalize x.s.length = n3 at *
        go_enter Tryz.func169, Tryz.ntmps169
        go_wp2_with fail
        refine (HC.out _ (((Below.refl _ w).alloc (Nat.le_refl _) _).alloc (by simp) _)).mono ?_
        rintro e w1 ⟨rfl, hb1⟩
        obtain ⟨hc, hf⟩ := bcell hb1
        have hz : w.heap.size + 1 < w1.heap.size := by have := hb1.size; simp at this; omega
        have hB1 : Below w.heap.size w w1 := (((Below.refl _ w).alloc (Nat.le_refl _) _).alloc (by simp) _).trans (hb1.mono (by simp; omega))
        go_wp2_with fail
        obtain ⟨g, o, rfl, hcs⟩ : ∃ g o, a1 = some ⟨g, o, none⟩ ∧ ∀ i (h : i < L.length), w.cell? ⟨g, o + i, none⟩ = some (.string L[i]) := by
          rcases HX.out with h | h
          · subst h; simp at hpos
          · exact h
        have hgl : g < w.heap.size := World.block_lt_of_cell? _ _ (hcs _ hat)
        have HO : Hid (w1.cell? ⟨g, o, none⟩ = some (.string L[0])) := (hB1.cell (p := ⟨g, o, none⟩) hgl).trans (by have h8 := hcs _ hat; first | exact h8 | (simp only [Nat.add_zero] at h8; exact h8) | (simp at h8 ⊢; exact h8))
        have HX1 : Hid (w1.cell? ⟨w.heap.size, 2, none⟩ = some (.slice (some ⟨g, o, none⟩) L.length c1)) := (hc _ _ (by simp; omega)).trans (by simp [go_sem])
        have HK0 : Hid (∀ j, w1.frozen? ⟨w.heap.size + 1, j, none⟩ = false) := fun j => (hf _ _ (by simp)).trans (by simp [go_sem])
        have HB0 : Hid (w1.cell? ⟨w.heap.size + 1, 0, none⟩ = some (.int .i64 0) ∧ w1.cell? ⟨w.heap.size + 1, 1, none⟩ = some (.string ⟨#[]⟩) ∧ w1.cell? ⟨w.heap.size + 1, 2, none⟩ = some (.slice none 0 0) ∧ w1.cell? ⟨w.heap.size + 1, 3, none⟩ = some (.slice none 0 0) ∧ w1.cell? ⟨w.heap.size + 1, 4, none⟩ = some (.slice none 0 0)) :=
          ⟨(hc _ _ (by simp)).trans (by simp [go_sem]), (hc _ _ (by simp)).trans (by simp [go_sem]), (hc _ _ (by simp)).trans (by simp [go_sem]), (hc _ _ (by simp)).trans (by simp [go_sem]), (hc _ _ (by simp)).trans (by simp [go_sem])⟩
        have CB : Below w.heap.size w (w1.alloc (.cells #[.int .i64 ((0 : Nat) : Int)] 3)) := hB1.alloc hB1.size _
        have c2' : w1.cell? ⟨w.heap.size, 2, none⟩ = some (.slice (some ⟨g, o, none⟩) L.length c1) := HX1.out
        have o2' : w1.cell? ⟨g, o, none⟩ = some (.string L[0]) := HO.out
        have hgl1 : g < w1.heap.size := by omega
        have hy1 : w.heap.size < w1.heap.size := by omega
        clear hcs HX hc hf hb1 HO HX1
        go_wp2_with fail
        generalize hW1 : World.alloc w1 _ = W1
        have AB : Below w1.heap.size w1 W1 := by rw [← hW1]; exact (Below.refl _ _).alloc (Nat.le_refl _) _
        have zW : w1.heap.size < W1.heap.size := by rw [← hW1]; simp
        have A0 : W1.cell? ⟨w1.heap.size, 0, none⟩ = some (.int .i64 ((0 : Nat) : Int)) := by rw [← hW1]; simp [go_sem]
        have CW : Below w.heap.size w W1 := hB1.trans (AB.mono hB1.size)
        have X2 : W1.cell? ⟨w.heap.size, 2, none⟩ = some (.slice (some ⟨g, o, none⟩) L.length c1) := (AB.cell (p := ⟨w.heap.size, 2, none⟩) hy1).trans c2'
        have O2 : W1.cell? ⟨g, o, none⟩ = some (.string L[0]) := (AB.cell (p := ⟨g, o, none⟩) hgl1).trans o2'
        have HBB : Hid (∀ w2, Below W1.heap.size W1 w2 → (w2.cell? ⟨w.heap.size + 1, 0, none⟩ = some (.int .i64 0) ∧ w2.cell? ⟨w.heap.size + 1, 1, none⟩ = some (.string ⟨#[]⟩) ∧ w2.cell? ⟨w.heap.size + 1, 2, none⟩ = some (.slice none 0 0) ∧ w2.cell? ⟨w.heap.size + 1, 3, none⟩ = some (.slice none 0 0) ∧ w2.cell? ⟨w.heap.size + 1, 4, none⟩ = some (.slice none 0 0)) ∧ (∀ j, w2.frozen? ⟨w.heap.size + 1, j, none⟩ = false) ∧ w2.cell? ⟨w.heap.size, 2, none⟩ = some (.slice (some ⟨g, o, none⟩) L.length c1) ∧ w2.cell? ⟨w1.heap.size, 0, none⟩ = some (.int .i64 ((0 : Nat) : Int)) ∧ w2.cell? ⟨g, o, none⟩ = some (.string L[0])) := fun w2 h2 => by
          have hyy : w.heap.size + 1 < W1.heap.size := by omega
          have A2 : Below w1.heap.size w1 w2 := AB.trans (h2.mono (Nat.le_of_lt zW))
          obtain ⟨b0, b1, b2, b3, b4⟩ := HB0.out
          exact ⟨⟨(A2.cell (p := ⟨w.heap.size + 1, 0, none⟩) hz).trans b0, (A2.cell (p := ⟨w.heap.size + 1, 1, none⟩) hz).trans b1, (A2.cell (p := ⟨w.heap.size + 1, 2, none⟩) hz).trans b2, (A2.cell (p := ⟨w.heap.size + 1, 3, none⟩) hz).trans b3, (A2.cell (p := ⟨w.heap.size + 1, 4, none⟩) hz).trans b4⟩, fun j => (A2.frozen (p := ⟨w.heap.size + 1, j, none⟩) hz).trans (HK0.out j), (h2.cell (p := ⟨w.heap.size, 2, none⟩) (by simp only; omega)).trans X2, (h2.cell (p := ⟨w1.heap.size, 0, none⟩) zW).trans A0, (h2.cell (p := ⟨g, o, none⟩) (by simp only; omega)).trans O2⟩
        have ne1 : w1.heap.size ≠ w.heap.size + 1 := by omega
        have ne2 : w.heap.size + 1 ≠ w1.heap.size := by omega
        have ne3 : g ≠ w.heap.size + 1 := by omega
        have ne4 : w.heap.size + 1 ≠ g := by omega
        clear hW1 CB c2' o2'
        go_region_held3 (fun w' => w'.cell? ⟨w.heap.size, 2, none⟩ = some (.slice (some ⟨g, o, none⟩) L.length c1) ∧ w'.cell? ⟨w1.heap.size, 0, none⟩ = some (.int .i64 ((0 : Nat) : Int)) ∧ w'.cell? ⟨g, o, none⟩ = some (.string L[0])) (go_keep)
          ((go_at_call 170; refine (HW.out w1.heap.size _ CW.drew A0).mono ?_; rintro e w2 ⟨u, rfl, hI, hb2⟩; obtain ⟨⟨i1, j1, i2, j2, i3, j3, rfl, -, -, -⟩, -, -, -, -, -, -, -⟩ := id hI.is; obtain ⟨⟨b0, b1, b2, b3, b4⟩, fz, s2, s1, s3⟩ := HBB.out w2 ⟨hb2.os, hb2.tape, hb2.output, hb2.size, hb2.block⟩; have fz0 := fz 0; have fz1 := fz 1; have fz2 := fz 2; have fz3 := fz 3; have fz4 := fz 4))
        all_goals
          go_wp2_with fail
          have hb2' : Below W1.heap.size W1 w2 := ⟨hb2.os, hb2.tape, hb2.output, hb2.size, hb2.block⟩
          have C2 : Below w.heap.size w w2 := CW.trans (hb2'.mono CW.size)
          refine bodyPost_ret (v := .tuple #[.agg #[.int .i64 (lstI (keptTo (fun i _ => decide (i = 0)) L L.length)).k, .string (lstI (keptTo (fun i _ => decide (i = 0)) L L.length)).t, .slice i1 (lstI (keptTo (fun i _ => decide (i = 0)) L L.length)).l.length j1, .slice i2 (lstI (keptTo (fun i _ => decide (i = 0)) L L.length)).p.length j2, .slice i3 (lstI (keptTo (fun i _ => decide (i = 0)) L L.length)).s.length j3], .string L[0], .int .i64 0]) (by simp [results, Tryz.results169, go_sem, b0, b1, b2, b3, b4]) rfl ⟨_, rfl, ?_, ?_⟩
          · exact fun w'' hw => hI w'' (fun g' o' u' hg hu hf => hw g' o' u' (by have : W1.drew.heap.size = W1.heap.size := rfl; omega) ((five_apart _ _ _ _ _ _ _ g' o' (by have : W1.drew.heap.size = W1.heap.size := rfl; omega)).trans hu) (by simpa using hf))
          · go_grown
      | false =>
        obtain ⟨m, hm⟩ : ∃ m, m = L.length - 1 := ⟨_, rfl⟩
        have hat : m < L.length := by omega
        rw [show popAt false L = m by rw [hm]; rfl, getElem!_pos L m hat]
        have hmI : ((L.length : Nat) : Int) - 1 = ((m : Nat) : Int) := by omega
        have hmi : ((m : Nat) : Int) < ((L.length : Nat) : Int) := by omega
        have HW : Hid (∀ (b : Nat) (W : World), Below w.heap.size w W → W.cell? ⟨b, 0, none⟩ = some (.int .i64 ((m : Nat) : Int)) → Calls Tryz.prog 170 #[.slice a1 L.length c1, .func (.func 227) #[] #[.pointer (some ⟨b, 0, none⟩)]] W fun e w' => ∃ v, e = .returned v ∧ ItemOwn W.heap.size w' v (lstI (keptTo (fun i _ => decide (i = m)) L L.length)) ∧ Below W.heap.size W w') := fun b W hW hc => withoutP_any b m a1 c1 L W (HX.out.below hW) (by omega) HZ.out hc
        clear hm
        generalize x.t = t at *
        generalize x.k = k at *
        generalize x.p.length = n2 at *
        generalize x.s.length = n3 at *
        go_enter Tryz.func169, Tryz.ntmps169
        go_wp2_with fail
        refine (HC.out _ (((Below.refl _ w).alloc (Nat.le_refl _) _).alloc (by simp) _)).mono ?_
        rintro e w1 ⟨rfl, hb1⟩
        obtain ⟨hc, hf⟩ := bcell hb1
        have hz : w.heap.size + 1 < w1.heap.size := by have := hb1.size; simp at this; omega
        have hB1 : Below w.heap.size w w1 := (((Below.refl _ w).alloc (Nat.le_refl _) _).alloc (by simp) _).trans (hb1.mono (by simp; omega))
        go_wp2_with fail
        obtain ⟨g, o, rfl, hcs⟩ : ∃ g o, a1 = some ⟨g, o, none⟩ ∧ ∀ i (h : i < L.length), w.cell? ⟨g, o + i, none⟩ = some (.string L[i]) := by
          rcases HX.out with h | h
          · subst h; simp at hpos
          · exact h
        have hgl : g < w.heap.size := World.block_lt_of_cell? _ _ (hcs _ hat)
        have HO : Hid (w1.cell? ⟨g, o + m, none⟩ = some (.string L[m])) := (hB1.cell (p := ⟨g, o + m, none⟩) hgl).trans (by have h8 := hcs _ hat; first | exact h8 | (simp only [Nat.add_zero] at h8; exact h8) | (simp at h8 ⊢; exact h8))
        have HX1 : Hid (w1.cell? ⟨w.heap.size, 2, none⟩ = some (.slice (some ⟨g, o, none⟩) L.length c1)) := (hc _ _ (by simp; omega)).trans (by simp [go_sem])
        have HK0 : Hid (∀ j, w1.frozen? ⟨w.heap.size + 1, j, none⟩ = false) := fun j => (hf _ _ (by simp)).trans (by simp [go_sem])
        have HB0 : Hid (w1.cell? ⟨w.heap.size + 1, 0, none⟩ = some (.int .i64 0) ∧ w1.cell? ⟨w.heap.size + 1, 1, none⟩ = some (.string ⟨#[]⟩) ∧ w1.cell? ⟨w.heap.size + 1, 2, none⟩ = some (.slice none 0 0) ∧ w1.cell? ⟨w.heap.size + 1, 3, none⟩ = some (.slice none 0 0) ∧ w1.cell? ⟨w.heap.size + 1, 4, none⟩ = some (.slice none 0 0)) :=
          ⟨(hc _ _ (by simp)).trans (by simp [go_sem]), (hc _ _ (by simp)).trans (by simp [go_sem]), (hc _ _ (by simp)).trans (by simp [go_sem]), (hc _ _ (by simp)).trans (by simp [go_sem]), (hc _ _ (by simp)).trans (by simp [go_sem])⟩
        have CB : Below w.heap.size w (w1.alloc (.cells #[.int .i64 ((m : Nat) : Int)] 3)) := hB1.alloc hB1.size _
        have c2' : w1.cell? ⟨w.heap.size, 2, none⟩ = some (.slice (some ⟨g, o, none⟩) L.length c1) := HX1.out
        have o2' : w1.cell? ⟨g, o + m, none⟩ = some (.string L[m]) := HO.out
        have hgl1 : g < w1.heap.size := by omega
        have hy1 : w.heap.size < w1.heap.size := by omega
        clear hcs HX hc hf hb1 HO HX1
        go_wp2_with fail
        generalize hW1 : World.alloc w1 _ = W1
        have AB : Below w1.heap.size w1 W1 := by rw [← hW1]; exact (Below.refl _ _).alloc (Nat.le_refl _) _
        have zW : w1.heap.size < W1.heap.size := by rw [← hW1]; simp
        have A0 : W1.cell? ⟨w1.heap.size, 0, none⟩ = some (.int .i64 ((m : Nat) : Int)) := by rw [← hW1]; simp [go_sem]
        have CW : Below w.heap.size w W1 := hB1.trans (AB.mono hB1.size)
        have X2 : W1.cell? ⟨w.heap.size, 2, none⟩ = some (.slice (some ⟨g, o, none⟩) L.length c1) := (AB.cell (p := ⟨w.heap.size, 2, none⟩) hy1).trans c2'
        have O2 : W1.cell? ⟨g, o + m, none⟩ = some (.string L[m]) := (AB.cell (p := ⟨g, o + m, none⟩) hgl1).trans o2'
        have HBB : Hid (∀ w2, Below W1.heap.size W1 w2 → (w2.cell? ⟨w.heap.size + 1, 0, none⟩ = some (.int .i64 0) ∧ w2.cell? ⟨w.heap.size + 1, 1, none⟩ = some (.string ⟨#[]⟩) ∧ w2.cell? ⟨w.heap.size + 1, 2, none⟩ = some (.slice none 0 0) ∧ w2.cell? ⟨w.heap.size + 1, 3, none⟩ = some (.slice none 0 0) ∧ w2.cell? ⟨w.heap.size + 1, 4, none⟩ = some (.slice none 0 0)) ∧ (∀ j, w2.frozen? ⟨w.heap.size + 1, j, none⟩ = false) ∧ w2.cell? ⟨w.heap.size, 2, none⟩ = some (.slice (some ⟨g, o, none⟩) L.length c1) ∧ w2.cell? ⟨w1.heap.size, 0, none⟩ = some (.int .i64 ((m : Nat) : Int)) ∧ w2.cell? ⟨g, o + m, none⟩ = some (.string L[m])) := fun w2 h2 => by
          have hyy : w.heap.size + 1 < W1.heap.size := by omega
          have A2 : Below w1.heap.size w1 w2 := AB.trans (h2.mono (Nat.le_of_lt zW))
          obtain ⟨b0, b1, b2, b3, b4⟩ := HB0.out
          exact ⟨⟨(A2.cell (p := ⟨w.heap.size + 1, 0, none⟩) hz).trans b0, (A2.cell (p := ⟨w.heap.size + 1, 1, none⟩) hz).trans b1, (A2.cell (p := ⟨w.heap.size + 1, 2, none⟩) hz).trans b2, (A2.cell (p := ⟨w.heap.size + 1, 3, none⟩) hz).trans b3, (A2.cell (p := ⟨w.heap.size + 1, 4, none⟩) hz).trans b4⟩, fun j => (A2.frozen (p := ⟨w.heap.size + 1, j, none⟩) hz).trans (HK0.out j), (h2.cell (p := ⟨w.heap.size, 2, none⟩) (by simp only; omega)).trans X2, (h2.cell (p := ⟨w1.heap.size, 0, none⟩) zW).trans A0, (h2.cell (p := ⟨g, o + m, none⟩) (by simp only; omega)).trans O2⟩
        have ne1 : w1.heap.size ≠ w.heap.size + 1 := by omega
        have ne2 : w.heap.size + 1 ≠ w1.heap.size := by omega
        have ne3 : g ≠ w.heap.size + 1 := by omega
        have ne4 : w.heap.size + 1 ≠ g := by omega
        clear hW1 CB c2' o2'
        go_region_held3 (fun w' => w'.cell? ⟨w.heap.size, 2, none⟩ = some (.slice (some ⟨g, o, none⟩) L.length c1) ∧ w'.cell? ⟨w1.heap.size, 0, none⟩ = some (.int .i64 ((m : Nat) : Int)) ∧ w'.cell? ⟨g, o + m, none⟩ = some (.string L[m])) (go_keep)
          ((go_at_call 170; refine (HW.out w1.heap.size _ CW.drew A0).mono ?_; rintro e w2 ⟨u, rfl, hI, hb2⟩; obtain ⟨⟨i1, j1, i2, j2, i3, j3, rfl, -, -, -⟩, -, -, -, -, -, -, -⟩ := id hI.is; obtain ⟨⟨b0, b1, b2, b3, b4⟩, fz, s2, s1, s3⟩ := HBB.out w2 ⟨hb2.os, hb2.tape, hb2.output, hb2.size, hb2.block⟩; have fz0 := fz 0; have fz1 := fz 1; have fz2 := fz 2; have fz3 := fz 3; have fz4 := fz 4))
        all_goals
          go_wp2_with fail
          have hb2' : Below W1.heap.size W1 w2 := ⟨hb2.os, hb2.tape, hb2.output, hb2.size, hb2.block⟩
          have C2 : Below w.heap.size w w2 := CW.trans (hb2'.mono CW.size)
          refine bodyPost_ret (v := .tuple #[.agg #[.int .i64 (lstI (keptTo (fun i _ => decide (i = m)) L L.length)).k, .string (lstI (keptTo (fun i _ => decide (i = m)) L L.length)).t, .slice i1 (lstI (keptTo (fun i _ => decide (i = m)) L L.length)).l.length j1, .slice i2 (lstI (keptTo (fun i _ => decide (i = m)) L L.length)).p.length j2, .slice i3 (lstI (keptTo (fun i _ => decide (i = m)) L L.length)).s.length j3], .string L[m], .int .i64 0]) (by simp [results, Tryz.results169, go_sem, b0, b1, b2, b3, b4]) rfl ⟨_, rfl, ?_, ?_⟩
          · exact fun w'' hw => hI w'' (fun g' o' u' hg hu hf => hw g' o' u' (by have : W1.drew.heap.size = W1.heap.size := rfl; omega) ((five_apart _ _ _ _ _ _ _ g' o' (by have : W1.drew.heap.size = W1.heap.size := rfl; omega)).trans hu) (by simpa using hf))
          · go_grown
  · have hE : popE x = asI x 2 := by rw [popE, if_pos h0]
    have h0' : (asI x 2 == 0) = false := by rw [beq_eq_false_iff_ne]; exact h0
    rw [popS, popI, hE, if_neg h0, if_neg h0]
    clear hE
    generalize asI x 2 = E at *
    generalize x.t = t at *
    generalize x.k = k at *
    generalize x.p.length = n2 at *
    generalize x.s.length = n3 at *
    go_enter Tryz.func169, Tryz.ntmps169
    go_wp2_with fail
    refine (HC.out _ (((Below.refl _ w).alloc (Nat.le_refl _) _).alloc (by simp) _)).mono ?_
    rintro e w1 ⟨rfl, hb1⟩
    obtain ⟨hc, hf⟩ := bcell hb1
    have hz : w.heap.size + 1 < w1.heap.size := by have := hb1.size; simp at this; omega
    have hB1 : Below w.heap.size w w1 := (((Below.refl _ w).alloc (Nat.le_refl _) _).alloc (by simp) _).trans (hb1.mono (by simp; omega))
    go_wp2_with fail
    refine bodyPost_ret (v := .tuple #[.agg #[.int .i64 0, .string ⟨#[]⟩, .slice none 0 0, .slice none 0 0, .slice none 0 0], .string ⟨#[]⟩, .int .i64 E]) (by simp [results, Tryz.results169, go_sem, hc]) rfl ⟨_, rfl, fun w'' _ => zero_is w'', ?_⟩
    go_grown
theorem pop_any (v : Value) (x : Itm) (left : Bool) (w : World) (h : ItemIs w v x) :
    Calls Tryz.prog 169 #[v, .bool left] w fun e w' => ∃ u, e = .returned (.tuple #[u, .string (popS x left), .int .i64 (popE x)]) ∧ ItemFrom w.heap.size w' u (popI x left) ∧ Below w.heap.size w w' :=
  (pop_own v x left w h).mono fun _ _ ⟨u, he, hi, hb⟩ => ⟨u, he, hi.from, hb⟩
end Go.Proofs.YtmaancidkpfopaaGreatDoor

/- WALK: what lpop and rpop ask. -/
namespace Go.Proofs.YtmaancidkpfopaaGreatDoor
open Go.RowKit

theorem ItemFrom.it {B : Nat} {w : World} {v : Value} {x : Itm} (h : ItemFrom B w v x) : ItFrom B w v x := fun w' hag => h w' (fun g o _ hg hu => (World.cell?_of_block (a := ⟨g, o, none⟩) (hag g hg (World.block_lt_of_cell? _ _ hu))).trans hu)
set_option maxRecDepth 100000 in
set_option maxHeartbeats 4000000 in
theorem popAsk_any (v : Value) (x : Itm) (left : Bool) (bc n cl : Nat) (a : Option Addr) (w : World) (h : ItemIs w v x) (hc : w.cell? ⟨bc, 0, none⟩ = some (.bool left)) :
    Calls Tryz.prog 167 (#[v, .slice a n cl] ++ #[.pointer (some ⟨bc, 0, none⟩)]) w fun e w' => (∃ u, e = .returned (.tuple #[u, .agg #[.int .i64 4, .string (popS x left), .int .i64 0, .slice none 0 0], .int .i64 (popE x)]) ∧ ItFrom w.heap.size w' u (popI x left)) ∧ Below w.heap.size w w' := by
  obtain ⟨a1, c1, a2, c2, a3, c3, rfl⟩ := shapeE h
  have HPO := hide (fun W (hW : Below w.heap.size w W) => pop_own _ x left W (h.below hW))
  have HW := hide withBytes_any
  obtain ⟨V1, hV1, AV1, B1⟩ : ∃ V', w.alloc (.cells #[.int .i64 x.k, .string x.t, .slice a1 x.l.length c1, .slice a2 x.p.length c2, .slice a3 x.s.length c3] 40) = V' ∧ Below w.heap.size w V' ∧ V'.heap[w.heap.size]? = some (.cells #[.int .i64 x.k, .string x.t, .slice a1 x.l.length c1, .slice a2 x.p.length c2, .slice a3 x.s.length c3] 40) := ⟨_, rfl, (Below.refl _ w).alloc (Nat.le_refl _) _, by show (w.heap.push _)[w.heap.size]? = _; simp⟩
  obtain ⟨V2, hV2, AV2, B2⟩ : ∃ V', V1.alloc (.cells #[.int .i64 0, .string ⟨#[]⟩, .slice none 0 0, .slice none 0 0, .slice none 0 0] 40) = V' ∧ Below V1.heap.size V1 V' ∧ V'.heap[V1.heap.size]? = some (.cells #[.int .i64 0, .string ⟨#[]⟩, .slice none 0 0, .slice none 0 0, .slice none 0 0] 40) := ⟨_, rfl, (Below.refl _ V1).alloc (Nat.le_refl _) _, by show (V1.heap.push _)[V1.heap.size]? = _; simp⟩
  obtain ⟨V3, hV3, AV3, B3⟩ : ∃ V', V2.alloc (.cells #[.int .i64 0, .string ⟨#[]⟩, .int .i64 0, .slice none 0 0] 27) = V' ∧ Below V2.heap.size V2 V' ∧ V'.heap[V2.heap.size]? = some (.cells #[.int .i64 0, .string ⟨#[]⟩, .int .i64 0, .slice none 0 0] 27) := ⟨_, rfl, (Below.refl _ V2).alloc (Nat.le_refl _) _, by show (V2.heap.push _)[V2.heap.size]? = _; simp⟩
  have h1 : w.heap.size < V1.heap.size := (Array.getElem?_eq_some_iff.1 B1).1
  have h2 : V1.heap.size < V2.heap.size := (Array.getElem?_eq_some_iff.1 B2).1
  have h3 : V2.heap.size < V3.heap.size := (Array.getElem?_eq_some_iff.1 B3).1
  have HLT : Hid (w.heap.size < V1.heap.size ∧ V1.heap.size < V2.heap.size ∧ V2.heap.size < V3.heap.size) := ⟨h1, h2, h3⟩
  have HB : Hid (Below w.heap.size w V3) := AV1.trans ((AV2.trans (AV3.mono AV2.size)).mono AV1.size)
  have H3 := hide B3
  have H2 := hide ((AV3.block _ h2).trans B2)
  have hX : V3.heap[w.heap.size]? = some (.cells #[.int .i64 x.k, .string x.t, .slice a1 x.l.length c1, .slice a2 x.p.length c2, .slice a3 x.s.length c3] 40 (0, 0)) := (AV3.block _ (Nat.lt_trans h1 h2)).trans ((AV2.block _ h1).trans B1)
  have hcc := (HB.out.cell (World.block_lt_of_cell? _ _ hc)).trans hc
  have d0 : V3.cell? ⟨w.heap.size, 0, none⟩ = some (.int .i64 x.k) := by simp [World.cell?, hX]
  have d1 : V3.cell? ⟨w.heap.size, 1, none⟩ = some (.string x.t) := by simp [World.cell?, hX]
  have d2 : V3.cell? ⟨w.heap.size, 2, none⟩ = some (.slice a1 x.l.length c1) := by simp [World.cell?, hX]
  have d3 : V3.cell? ⟨w.heap.size, 3, none⟩ = some (.slice a2 x.p.length c2) := by simp [World.cell?, hX]
  have d4 : V3.cell? ⟨w.heap.size, 4, none⟩ = some (.slice a3 x.s.length c3) := by simp [World.cell?, hX]
  clear B1 B2 B3 AV1 AV2 AV3 h hc hX h1 h2 h3
  generalize popI x left = Y at *
  generalize popS x left = T at *
  generalize popE x = E at *
  generalize x.k = k0 at *
  generalize x.t = t0 at *
  generalize x.l.length = l1 at *
  generalize x.p.length = l2 at *
  generalize x.s.length = l3 at *
  show Calls _ _ #[_, _, _] _ _
  go_enter Tryz.func167, Tryz.ntmps167
  go_wp2_with fail
  clear hV1 hV2 hV3
  refine (HPO.out _ HB.out).mono ?_
  rintro e w4 ⟨u, rfl, ho, hb4⟩
  have hy := ho.is
  obtain ⟨b1, e1, b2, e2, b3, e3, rfl⟩ := shapeE hy
  have HO := hide ho.from.it
  have HB4 := hide hb4
  clear ho hb4 hy d0 d1 d2 d3 d4 hcc
  go_wp2_with fail
  refine (HW.out _ _ _ _ _ _ _ _ _ _ _ _ _ _).mono ?_
  rintro e w5 ⟨rfl, hb5⟩
  have hz := HLT.out
  have hbb : Below V3.heap.size V3 w5 := HB4.out.trans (hb5.mono HB4.out.size)
  have HB5 := hide hb5
  have r2 := (hbb.block _ (by omega)).trans H2.out
  have r3 := (hbb.block _ (by omega)).trans H3.out
  have HBB : Hid (Below w.heap.size w w5) := HB.out.trans (hbb.mono HB.out.size)
  have HP := hide (put5Q r2 (.int .i64 Y.k) (.string Y.t) (.slice b1 Y.l.length e1) (.slice b2 Y.p.length e2) (.slice b3 Y.s.length e3))
  have HR3 := hide r3
  have HQ := hide (fun (W : World) (hW : W.heap[V2.heap.size]? = some (.cells #[.int .i64 0, .string ⟨#[]⟩, .int .i64 0, .slice none 0 0] 27 (0, 0))) => put4R hW (.int .i64 4) (.string T) (.int .i64 0) (.slice none 0 0))
  have HL := hide (And.intro (Array.getElem?_eq_some_iff.1 r2).1 (Array.getElem?_eq_some_iff.1 r3).1)
  have m0 : w5.cell? ⟨V1.heap.size, 0, none⟩ = some (.int .i64 0) := by simp [World.cell?, r2]
  have n0 : w5.frozen? ⟨V1.heap.size, 0, none⟩ = false := by simp [World.frozen?, r2]
  have m1 : w5.cell? ⟨V1.heap.size, 1, none⟩ = some (.string ⟨#[]⟩) := by simp [World.cell?, r2]
  have n1 : w5.frozen? ⟨V1.heap.size, 1, none⟩ = false := by simp [World.frozen?, r2]
  have m2 : w5.cell? ⟨V1.heap.size, 2, none⟩ = some (.slice none 0 0) := by simp [World.cell?, r2]
  have n2 : w5.frozen? ⟨V1.heap.size, 2, none⟩ = false := by simp [World.frozen?, r2]
  have m3 : w5.cell? ⟨V1.heap.size, 3, none⟩ = some (.slice none 0 0) := by simp [World.cell?, r2]
  have n3 : w5.frozen? ⟨V1.heap.size, 3, none⟩ = false := by simp [World.frozen?, r2]
  have m4 : w5.cell? ⟨V1.heap.size, 4, none⟩ = some (.slice none 0 0) := by simp [World.cell?, r2]
  have n4 : w5.frozen? ⟨V1.heap.size, 4, none⟩ = false := by simp [World.frozen?, r2]
  have p0 : w5.cell? ⟨V2.heap.size, 0, none⟩ = some (.int .i64 0) := by simp [World.cell?, r3]
  have q0 : w5.frozen? ⟨V2.heap.size, 0, none⟩ = false := by simp [World.frozen?, r3]
  have p1 : w5.cell? ⟨V2.heap.size, 1, none⟩ = some (.string ⟨#[]⟩) := by simp [World.cell?, r3]
  have q1 : w5.frozen? ⟨V2.heap.size, 1, none⟩ = false := by simp [World.frozen?, r3]
  have p2 : w5.cell? ⟨V2.heap.size, 2, none⟩ = some (.int .i64 0) := by simp [World.cell?, r3]
  have q2 : w5.frozen? ⟨V2.heap.size, 2, none⟩ = false := by simp [World.frozen?, r3]
  have p3 : w5.cell? ⟨V2.heap.size, 3, none⟩ = some (.slice none 0 0) := by simp [World.cell?, r3]
  have q3 : w5.frozen? ⟨V2.heap.size, 3, none⟩ = false := by simp [World.frozen?, r3]
  have hne : ¬ V1.heap.size = V2.heap.size := by omega
  have hne2 : ¬ V2.heap.size = V1.heap.size := by omega
  clear r2 r3 hbb hb5 hz
  go_wp2_with fail
  obtain ⟨hH1, hK1⟩ := HP.out
  generalize (((((w5.setCell ⟨V1.heap.size, 0, none⟩ (.int .i64 Y.k)).setCell ⟨V1.heap.size, 1, none⟩ (.string Y.t)).setCell ⟨V1.heap.size, 2, none⟩ (.slice b1 Y.l.length e1)).setCell ⟨V1.heap.size, 3, none⟩ (.slice b2 Y.p.length e2)).setCell ⟨V1.heap.size, 4, none⟩ (.slice b3 Y.s.length e3)) = WA at *
  obtain ⟨hH, hKp⟩ := HQ.out WA ((hK1.block _ HL.out.2 (by simp only [one]; exact hne2)).trans HR3.out)
  have r2 := (hKp.block _ (Array.getElem?_eq_some_iff.1 hH1).1 (by simp only [one]; exact hne)).trans hH1
  generalize ((((WA.setCell ⟨V2.heap.size, 0, none⟩ (.int .i64 4)).setCell ⟨V2.heap.size, 1, none⟩ (.string T)).setCell ⟨V2.heap.size, 2, none⟩ (.int .i64 0)).setCell ⟨V2.heap.size, 3, none⟩ (.slice none 0 0)) = WB at *
  have hz := HLT.out
  refine bodyPost_ret (v := .tuple #[.agg #[.int .i64 Y.k, .string Y.t, .slice b1 Y.l.length e1, .slice b2 Y.p.length e2, .slice b3 Y.s.length e3], .agg #[.int .i64 4, .string T, .int .i64 0, .slice none 0 0], .int .i64 E]) (by simp [results, Tryz.results167, go_sem, World.cell?, hH, r2]) rfl ⟨⟨_, rfl, fun w' hag => HO.out w' (fun k g1 g2 => ?_)⟩, ?_⟩
  · have g3 : k < w5.heap.size := Nat.lt_of_lt_of_le g2 HB5.out.size
    have g4 : k < WA.heap.size := Nat.lt_of_lt_of_le g3 hK1.size
    exact (hag k (by omega) (Nat.lt_of_lt_of_le g4 hKp.size)).trans ((hKp.block k g4 (by simp only [one]; omega)).trans ((hK1.block k g3 (by simp only [one]; omega)).trans (HB5.out.block k g2)))
  · exact HBB.out.trans ((hK1.below (B := w.heap.size) (by have := HBB.out.size; omega) (fun k hk => by simp only [one] at hk; omega)).trans (hKp.below (B := w.heap.size) (by have := HBB.out.size; have := hK1.size; omega) (fun k hk => by simp only [one] at hk; omega)))
end Go.Proofs.YtmaancidkpfopaaGreatDoor

/- WALK: the deed of ttl. -/
namespace Go.Proofs.YtmaancidkpfopaaGreatDoor
open Go.RowKit

/-- how long a key is there yet -/
def leftR (s : List Ent) (now : Int) (x : ByteArray) : Int := if (getR s now x).isNone then -2 else if untilR s now x = 0 then -1 else untilR s now x - now
set_option linter.unusedSimpArgs false in
set_option maxRecDepth 100000 in
set_option maxHeartbeats 8000000 in
theorem leftDeed_any (b : Nat) (s : List Ent) (now : Int) (g0 o0 cl n : Nat) (x : ByteArray) (w : World) (h : KeepAt w b s now) (hx : w.cell? ⟨g0, o0, none⟩ = some (.string x)) (hr : -9223372036854775808 ≤ untilR s now x - now ∧ untilR s now x - now ≤ 9223372036854775807) :
    Calls Tryz.prog 67 #[.pointer (some ⟨b, 0, none⟩), .slice (some ⟨g0, o0, none⟩) (n + 1) cl] w fun e w' => e = .returned (.tuple #[repV 3 ⟨#[]⟩ (leftR s now x), .int .i64 0]) ∧ Below w.heap.size w w' := by
  have HH := hide (fun W (hW : Below w.heap.size w W) => keepHas_any b s now x W (h.below hW))
  have HU := hide (fun W (hW : Below w.heap.size w W) => keepUntil_any b s now x W (h.below hW))
  have hlt := World.block_lt_of_cell? _ _ hx
  have HX := hide (fun (W : World) (hW : Below w.heap.size w W) => (hW.cell (p := ⟨g0, o0, none⟩) hlt).trans hx)
  have HKN : Hid (∀ W, Below w.heap.size w W → W.cell? ⟨b, 1, none⟩ = some (.int .i64 now)) := fun W hW => by
    obtain ⟨⟨a, c, hh, _⟩, _⟩ := h.below hW
    simp [World.cell?, hh]
  have HN := hide numberReply_any
  unfold repV at HN
  have hpos : (0 : Int) < ((n : Nat) : Int) + 1 := by omega
  obtain ⟨V, hV, AV, RB⟩ : ∃ V, w.alloc (.cells #[.int .i64 0, .string ⟨#[]⟩, .int .i64 0, .slice none 0 0] 27) = V ∧ Below w.heap.size w V ∧ V.heap[w.heap.size]? = some (.cells #[.int .i64 0, .string ⟨#[]⟩, .int .i64 0, .slice none 0 0] 27) := ⟨_, rfl, (Below.refl _ w).alloc (Nat.le_refl _) _, by show (w.heap.push _)[w.heap.size]? = _; simp⟩
  have hxV := HX.out _ AV
  have HRB := hide RB
  have HZ := hide (Array.getElem?_eq_some_iff.1 RB).1
  have HAV := hide AV
  clear hx h RB AV hlt
  unfold leftR repV
  generalize untilR s now x = U at *
  generalize (getR s now x).isNone = NB at *
  go_enter Tryz.func67, Tryz.ntmps67
  go_wp2_with fail
  clear hV
  refine (HH.out _ HAV.out).mono ?_
  rintro e w1 ⟨rfl, hb1⟩
  cases NB with
  | true =>
    go_wp2_with fail
    refine (HN.out _ _).mono ?_
    rintro e wz ⟨rfl, hbz⟩
    have hbb := hb1.trans (hbz.mono hb1.size)
    have RZ := (hbb.block _ HZ.out).trans HRB.out
    have HPR := hide (put4R RZ (.int .i64 3) (.string ⟨#[]⟩) (.int .i64 (-2)) (.slice none 0 0))
    have HBB := hide (HAV.out.trans (hbb.mono HAV.out.size))
    have m0 : wz.cell? ⟨w.heap.size, 0, none⟩ = some (.int .i64 0) := by simp [World.cell?, RZ]
    have n0 : wz.frozen? ⟨w.heap.size, 0, none⟩ = false := by simp [World.frozen?, RZ]
    have m1 : wz.cell? ⟨w.heap.size, 1, none⟩ = some (.string ⟨#[]⟩) := by simp [World.cell?, RZ]
    have n1 : wz.frozen? ⟨w.heap.size, 1, none⟩ = false := by simp [World.frozen?, RZ]
    have m2 : wz.cell? ⟨w.heap.size, 2, none⟩ = some (.int .i64 0) := by simp [World.cell?, RZ]
    have n2 : wz.frozen? ⟨w.heap.size, 2, none⟩ = false := by simp [World.frozen?, RZ]
    have m3 : wz.cell? ⟨w.heap.size, 3, none⟩ = some (.slice none 0 0) := by simp [World.cell?, RZ]
    have n3 : wz.frozen? ⟨w.heap.size, 3, none⟩ = false := by simp [World.frozen?, RZ]
    clear RZ hbz hbb
    go_wp2_with fail
    obtain ⟨hH, hKp⟩ := HPR.out
    generalize ((((wz.setCell ⟨w.heap.size, 0, none⟩ (.int .i64 3)).setCell ⟨w.heap.size, 1, none⟩ (.string ⟨#[]⟩)).setCell ⟨w.heap.size, 2, none⟩ (.int .i64 (-2))).setCell ⟨w.heap.size, 3, none⟩ (.slice none 0 0)) = V4 at *
    refine bodyPost_ret (v := .tuple #[.agg #[.int .i64 3, .string ⟨#[]⟩, .int .i64 (-2), .slice none 0 0], .int .i64 0]) (by simp [results, Tryz.results67, go_sem, World.cell?, hH]) rfl ⟨?_, HBB.out.trans (hKp.below (B := w.heap.size) (by have := HBB.out.size; omega) (fun k hk => by simp only [one] at hk; omega))⟩
    rfl
  | false =>
    have hx1 := HX.out _ (HAV.out.trans (hb1.mono HAV.out.size))
    go_wp2_with fail
    refine (HU.out _ (HAV.out.trans (hb1.mono HAV.out.size))).mono ?_
    rintro e w2 ⟨rfl, hb2⟩
    have hb12 := hb1.trans (hb2.mono hb1.size)
    clear hb1 hb2 hx1
    by_cases hU : U = 0
    · have hU' : (U == 0) = true := by rw [hU]; rfl
      go_wp2_with fail
      refine (HN.out _ _).mono ?_
      rintro e wz ⟨rfl, hbz⟩
      have hbb := hb12.trans (hbz.mono hb12.size)
      have RZ := (hbb.block _ HZ.out).trans HRB.out
      have HPR := hide (put4R RZ (.int .i64 3) (.string ⟨#[]⟩) (.int .i64 (-1)) (.slice none 0 0))
      have HBB := hide (HAV.out.trans (hbb.mono HAV.out.size))
      have m0 : wz.cell? ⟨w.heap.size, 0, none⟩ = some (.int .i64 0) := by simp [World.cell?, RZ]
      have n0 : wz.frozen? ⟨w.heap.size, 0, none⟩ = false := by simp [World.frozen?, RZ]
      have m1 : wz.cell? ⟨w.heap.size, 1, none⟩ = some (.string ⟨#[]⟩) := by simp [World.cell?, RZ]
      have n1 : wz.frozen? ⟨w.heap.size, 1, none⟩ = false := by simp [World.frozen?, RZ]
      have m2 : wz.cell? ⟨w.heap.size, 2, none⟩ = some (.int .i64 0) := by simp [World.cell?, RZ]
      have n2 : wz.frozen? ⟨w.heap.size, 2, none⟩ = false := by simp [World.frozen?, RZ]
      have m3 : wz.cell? ⟨w.heap.size, 3, none⟩ = some (.slice none 0 0) := by simp [World.cell?, RZ]
      have n3 : wz.frozen? ⟨w.heap.size, 3, none⟩ = false := by simp [World.frozen?, RZ]
      clear RZ hbz hbb
      go_wp2_with fail
      obtain ⟨hH, hKp⟩ := HPR.out
      generalize ((((wz.setCell ⟨w.heap.size, 0, none⟩ (.int .i64 3)).setCell ⟨w.heap.size, 1, none⟩ (.string ⟨#[]⟩)).setCell ⟨w.heap.size, 2, none⟩ (.int .i64 (-1))).setCell ⟨w.heap.size, 3, none⟩ (.slice none 0 0)) = V4 at *
      refine bodyPost_ret (v := .tuple #[.agg #[.int .i64 3, .string ⟨#[]⟩, .int .i64 (-1), .slice none 0 0], .int .i64 0]) (by simp [results, Tryz.results67, go_sem, World.cell?, hH]) rfl ⟨?_, HBB.out.trans (hKp.below (B := w.heap.size) (by have := HBB.out.size; omega) (fun k hk => by simp only [one] at hk; omega))⟩
      simp [hU]
    · have hU' : (U == 0) = false := by rw [beq_eq_false_iff_ne]; exact hU
      have hk2 := HKN.out _ (HAV.out.trans (hb12.mono HAV.out.size))
      have hr1 := hr.1
      have hr2 := hr.2
      go_wp2_with fail
      refine (HN.out _ _).mono ?_
      rintro e wz ⟨rfl, hbz⟩
      have hbb := hb12.trans (hbz.mono hb12.size)
      have RZ := (hbb.block _ HZ.out).trans HRB.out
      have HPR := hide (put4R RZ (.int .i64 3) (.string ⟨#[]⟩) (.int .i64 (U - now)) (.slice none 0 0))
      have HBB := hide (HAV.out.trans (hbb.mono HAV.out.size))
      have m0 : wz.cell? ⟨w.heap.size, 0, none⟩ = some (.int .i64 0) := by simp [World.cell?, RZ]
      have n0 : wz.frozen? ⟨w.heap.size, 0, none⟩ = false := by simp [World.frozen?, RZ]
      have m1 : wz.cell? ⟨w.heap.size, 1, none⟩ = some (.string ⟨#[]⟩) := by simp [World.cell?, RZ]
      have n1 : wz.frozen? ⟨w.heap.size, 1, none⟩ = false := by simp [World.frozen?, RZ]
      have m2 : wz.cell? ⟨w.heap.size, 2, none⟩ = some (.int .i64 0) := by simp [World.cell?, RZ]
      have n2 : wz.frozen? ⟨w.heap.size, 2, none⟩ = false := by simp [World.frozen?, RZ]
      have m3 : wz.cell? ⟨w.heap.size, 3, none⟩ = some (.slice none 0 0) := by simp [World.cell?, RZ]
      have n3 : wz.frozen? ⟨w.heap.size, 3, none⟩ = false := by simp [World.frozen?, RZ]
      clear RZ hbz hbb
      go_wp2_with fail
      obtain ⟨hH, hKp⟩ := HPR.out
      generalize ((((wz.setCell ⟨w.heap.size, 0, none⟩ (.int .i64 3)).setCell ⟨w.heap.size, 1, none⟩ (.string ⟨#[]⟩)).setCell ⟨w.heap.size, 2, none⟩ (.int .i64 (U - now))).setCell ⟨w.heap.size, 3, none⟩ (.slice none 0 0)) = V4 at *
      refine bodyPost_ret (v := .tuple #[.agg #[.int .i64 3, .string ⟨#[]⟩, .int .i64 (U - now), .slice none 0 0], .int .i64 0]) (by simp [results, Tryz.results67, go_sem, World.cell?, hH]) rfl ⟨?_, HBB.out.trans (hKp.below (B := w.heap.size) (by have := HBB.out.size; omega) (fun k hk => by simp only [one] at hk; omega))⟩
      simp [hU]
end Go.Proofs.YtmaancidkpfopaaGreatDoor

/- What set, get, del, persist, ttl, lpop answer. -/
namespace Go.Proofs.YtmaancidkpfopaaGreatDoor
open Go.RowKit

def setW : ByteArray := ⟨#[115, 101, 116]⟩
def getW : ByteArray := ⟨#[103, 101, 116]⟩
def delW : ByteArray := ⟨#[100, 101, 108]⟩
def persistW : ByteArray := ⟨#[112, 101, 114, 115, 105, 115, 116]⟩
def ttlW : ByteArray := ⟨#[116, 116, 108]⟩
def lpopW : ByteArray := ⟨#[108, 112, 111, 112]⟩
set_option maxRecDepth 100000 in
theorem do_set (a : Option Addr) (c : Nat) (s : List Ent) (now : Int) (g0 o0 cl : Nat) (key v : ByteArray) (w : World) (he : Env w) (hs : SpaceAt w a s) (hc : chkSp s = 0) (ht : timeT now = true)
    (hl : ∀ i (h : i < [setW, key, v].length), w.cell? ⟨g0, o0 + i, none⟩ = some (.string [setW, key, v][i])) (hcl : 3 ≤ cl) (h0 : wordsE [setW, key, v] = 0) :
    Calls Tryz.prog 5 #[.slice a s.length c, .int .i64 now, .slice (some ⟨g0, o0, none⟩) 3 cl] w fun e w' => DoneP (putS s now key ⟨1, v, [], [], []⟩ 0) s 1 0 (putE s now key ⟨1, v, [], [], []⟩ 0) ⟨#[79, 75]⟩ w e w' :=
  (do_one a c s now g0 o0 cl setW [key, v] 9 (by decide) 72 (keptS s now key ⟨1, v, [], [], []⟩ 0) 1 0 (putE s now key ⟨1, v, [], [], []⟩ 0) ⟨#[79, 75]⟩ w he hs hc ht hl hcl h0 (by decide +kernel)
    (checkP_plain (by show fitsP cmds[9].once cmds[9].again 2 = true; decide +kernel) (by show ∀ i, i < 2 → letterP cmds[9].once cmds[9].again i ≠ 110; decide +kernel)) (fun _ _ => rfl) (by kernel_rfl)
    (fun W b ar S hW hb hS hk hr => by
      obtain ⟨g, o, rfl, hlr⟩ := texts_some hr
      have hgl : g < w.heap.size := World.block_lt_of_cell? _ _ (hlr 0 (by simp))
      have hlW := cells_more hlr hW
      exact set_any S b s now g o (cl - 1) 0 key v W hS hk (hlW 0 (by simp)) (by omega) (hlW 1 (by simp)) (words_size h0 (by simp)).1)).mono fun e w' h => h.of rfl (fun h0 => ⟨by rw [keptS, if_pos h0], rfl, rfl, rfl⟩)
set_option maxRecDepth 100000 in
theorem do_get (a : Option Addr) (c : Nat) (s : List Ent) (now : Int) (g0 o0 cl : Nat) (key : ByteArray) (w : World) (he : Env w) (hs : SpaceAt w a s) (hc : chkSp s = 0) (ht : timeT now = true)
    (hl : ∀ i (h : i < [getW, key].length), w.cell? ⟨g0, o0 + i, none⟩ = some (.string [getW, key][i])) (hcl : 2 ≤ cl) (h0 : wordsE [getW, key] = 0) :
    Calls Tryz.prog 5 #[.slice a s.length c, .int .i64 now, .slice (some ⟨g0, o0, none⟩) 2 cl] w fun e w' => DoneP s s 4 0 (wholeE (getR s now key)) (wholeT (getR s now key)) w e w' :=
  do_reads a c s now g0 o0 cl getW key [] 8 (by decide) 69 4 0 (wholeE (getR s now key)) (wholeT (getR s now key)) w he hs hc ht hl hcl h0 (by decide +kernel)
    (checkP_plain (by show fitsP cmds[8].once cmds[8].again 1 = true; decide +kernel) (by show ∀ i, i < 1 → letterP cmds[8].once cmds[8].again i ≠ 110; decide +kernel)) (fun _ _ => rfl) (by kernel_rfl)
    (fun W v a2 hW hv ha => getAsk_any v (getR s now key) a2 0 _ W hv)
set_option maxRecDepth 100000 in
theorem do_del (a : Option Addr) (c : Nat) (s : List Ent) (now : Int) (g0 o0 cl : Nat) (key : ByteArray) (w : World) (he : Env w) (hs : SpaceAt w a s) (hc : chkSp s = 0) (ht : timeT now = true)
    (hl : ∀ i (h : i < [delW, key].length), w.cell? ⟨g0, o0 + i, none⟩ = some (.string [delW, key][i])) (hcl : 2 ≤ cl) (h0 : wordsE [delW, key] = 0) :
    Calls Tryz.prog 5 #[.slice a s.length c, .int .i64 now, .slice (some ⟨g0, o0, none⟩) 2 cl] w fun e w' => DoneP (putS s now key Itm.none 0) s 3 (if (getR s now key).isNone then 0 else 1) 0 ⟨#[]⟩ w e w' := by
  have hk0 : chkKey s now key = 0 := chkKey_of (spRight hc) ht (words_size h0 (by simp)).2
  have hd1 := drop_one hk0
  exact do_one a c s now g0 o0 cl delW [key] 1 (by decide) 58 (putS s now key Itm.none 0) 3 (if (getR s now key).isNone then 0 else 1) 0 ⟨#[]⟩ w he hs hc ht hl hcl h0 (by decide +kernel)
    (checkP_plain (by show fitsP cmds[1].once cmds[1].again 1 = true; decide +kernel) (by show ∀ i, i < 1 → letterP cmds[1].once cmds[1].again i ≠ 110; decide +kernel)) (fun _ _ => rfl) (by kernel_rfl)
    (fun W b ar S hW hb hS hk hr => by
      have hhh := dropDeed_any S b s now ar (cl - 1) [key] W hS hk (hr.below hW) (fun g o e => by
        obtain ⟨g', o', e', hlr⟩ := texts_some hr
        rw [e] at e'
        cases e'
        have := World.block_lt_of_cell? _ _ (hlr 0 (by simp))
        have h2 : g < w.heap.size := this
        omega) (by simp)
      rw [hd1] at hhh
      refine hhh.mono fun e w' ⟨h1, h2⟩ => ⟨?_, h2⟩
      rw [h1]
      unfold dropV repV
      rw [if_pos rfl]
      split <;> rfl)
set_option maxRecDepth 100000 in
theorem do_persist (a : Option Addr) (c : Nat) (s : List Ent) (now : Int) (g0 o0 cl : Nat) (key : ByteArray) (w : World) (he : Env w) (hs : SpaceAt w a s) (hc : chkSp s = 0) (ht : timeT now = true)
    (hl : ∀ i (h : i < [persistW, key].length), w.cell? ⟨g0, o0 + i, none⟩ = some (.string [persistW, key][i])) (hcl : 2 ≤ cl) (h0 : wordsE [persistW, key] = 0) (hU : untilR s now key = 0) :
    Calls Tryz.prog 5 #[.slice a s.length c, .int .i64 now, .slice (some ⟨g0, o0, none⟩) 2 cl] w fun e w' => DoneP s s 3 0 0 ⟨#[]⟩ w e w' :=
  do_one a c s now g0 o0 cl persistW [key] 7 (by decide) 68 s 3 0 0 ⟨#[]⟩ w he hs hc ht hl hcl h0 (by decide +kernel)
    (checkP_plain (by show fitsP cmds[7].once cmds[7].again 1 = true; decide +kernel) (by show ∀ i, i < 1 → letterP cmds[7].once cmds[7].again i ≠ 110; decide +kernel)) (fun _ _ => rfl) (by kernel_rfl)
    (fun W b ar S hW hb hS hk hr => by
      obtain ⟨g, o, rfl, hlr⟩ := texts_some hr
      exact persist_no S b s now g o (cl - 1) 0 key W hk (cells_more hlr hW 0 (by simp)) hU)
set_option maxRecDepth 100000 in
theorem do_ttl (a : Option Addr) (c : Nat) (s : List Ent) (now : Int) (g0 o0 cl : Nat) (key : ByteArray) (w : World) (he : Env w) (hs : SpaceAt w a s) (hc : chkSp s = 0) (ht : timeT now = true)
    (hl : ∀ i (h : i < [ttlW, key].length), w.cell? ⟨g0, o0 + i, none⟩ = some (.string [ttlW, key][i])) (hcl : 2 ≤ cl) (h0 : wordsE [ttlW, key] = 0) (hr : -9223372036854775808 ≤ untilR s now key - now ∧ untilR s now key - now ≤ 9223372036854775807) :
    Calls Tryz.prog 5 #[.slice a s.length c, .int .i64 now, .slice (some ⟨g0, o0, none⟩) 2 cl] w fun e w' => DoneP s s 3 (leftR s now key) 0 ⟨#[]⟩ w e w' :=
  do_one a c s now g0 o0 cl ttlW [key] 6 (by decide) 67 s 3 (leftR s now key) 0 ⟨#[]⟩ w he hs hc ht hl hcl h0 (by decide +kernel)
    (checkP_plain (by show fitsP cmds[6].once cmds[6].again 1 = true; decide +kernel) (by show ∀ i, i < 1 → letterP cmds[6].once cmds[6].again i ≠ 110; decide +kernel)) (fun _ _ => rfl) (by kernel_rfl)
    (fun W b ar S hW hb hS hk hr2 => by
      obtain ⟨g, o, rfl, hlr⟩ := texts_some hr2
      exact (leftDeed_any b s now g o (cl - 1) 0 key W hk.at (cells_more hlr hW 0 (by simp)) hr).mono fun e w' ⟨h1, h2⟩ => ⟨h1, hk.below h2, Kept.of_below h2 _⟩)
set_option maxRecDepth 100000 in
theorem do_lpop (a : Option Addr) (c : Nat) (s : List Ent) (now : Int) (g0 o0 cl : Nat) (key : ByteArray) (w : World) (he : Env w) (hs : SpaceAt w a s) (hc : chkSp s = 0) (ht : timeT now = true)
    (hl : ∀ i (h : i < [lpopW, key].length), w.cell? ⟨g0, o0 + i, none⟩ = some (.string [lpopW, key][i])) (hcl : 2 ≤ cl) (h0 : wordsE [lpopW, key] = 0) :
    Calls Tryz.prog 5 #[.slice a s.length c, .int .i64 now, .slice (some ⟨g0, o0, none⟩) 2 cl] w fun e w' => DoneP (putS s now key (popI (getR s now key) true) (untilR s now key)) s 4 0 (chgE s now key (popI (getR s now key) true) (popE (getR s now key))) (popS (getR s now key) true) w e w' :=
  do_changes2 a c s now g0 o0 cl lpopW key [] 16 (by decide) 167 true 4 0 (popE (getR s now key)) (popS (getR s now key) true) (popI (getR s now key) true) w he hs hc ht hl hcl h0 (by decide +kernel)
    (checkP_plain (by show fitsP cmds[16].once cmds[16].again 1 = true; decide +kernel) (by show ∀ i, i < 1 → letterP cmds[16].once cmds[16].again i ≠ 110; decide +kernel)) (fun _ _ => rfl) (by kernel_rfl)
    (fun W v a2 b hW hv ha hb => popAsk_any v (getR s now key) true b 0 _ a2 W hv hb)
end Go.Proofs.YtmaancidkpfopaaGreatDoor

/- WALK of Add. -/
namespace Go.Proofs.YtmaancidkpfopaaGreatDoor
open Go.RowKit

theorem digitsNumber_bytes (t : ByteArray) (w : World) (hx : t.size ≤ 281474976710656) (he : Env w) :
    Calls Tryz.prog 39 #[.string t] w fun e w' => Below w.heap.size w w' ∧ (∀ v, pInt t.data.toList = some v → e = .returned (.tuple #[.int .i64 v, .bool true])) ∧ (pInt t.data.toList = none → e = .returned (.tuple #[.int .i64 0, .bool false])) := by
  have h := digitsNumber_any t.data.toList w (by rw [size_list]; exact hx) he
  have e : (⟨t.data.toList.toArray⟩ : ByteArray) = t := by simp
  rw [e] at h
  exact h
/-- the number that an item tells -/
def tellsI (x : Itm) : Option Int := if x.k = 1 then pInt x.t.data.toList else some 0
def tellsV (x : Itm) : Value := match tellsI x with | some v => .tuple #[.int .i64 v, .bool true] | none => .tuple #[.int .i64 0, .bool false]
set_option maxRecDepth 100000 in
set_option maxHeartbeats 2000000 in
theorem tells_any (k : Int) (t : ByteArray) (a1 a2 a3 : Option Addr) (n1 n2 n3 c1 c2 c3 : Nat) (l : List ByteArray) (p : List (ByteArray × ByteArray)) (s : List (Int × ByteArray)) (w : World) (ht : t.size ≤ 281474976710656) (he : Env w) :
    Calls Tryz.prog 163 #[.agg #[.int .i64 k, .string t, .slice a1 n1 c1, .slice a2 n2 c2, .slice a3 n3 c3]] w fun e w' => e = .returned (tellsV ⟨k, t, l, p, s⟩) ∧ Below w.heap.size w w' := by
  by_cases hk : k = 1
  · subst hk
    cases hp : pInt t.data.toList with
    | some v =>
      have hv : tellsV ⟨1, t, l, p, s⟩ = .tuple #[.int .i64 v, .bool true] := by simp [tellsV, tellsI, hp]
      rw [hv]
      have HP := hide hp
      clear hv hp
      go_enter Tryz.func163, Tryz.ntmps163
      go_wp2_with fail
      refine (digitsNumber_bytes t _ ht (he.below ((Below.refl _ w).alloc (Nat.le_refl _) _))).mono ?_
      rintro e w1 ⟨hb1, hs, -⟩
      rw [hs v HP.out]
      clear hs
      go_wp2_with fail
      go_ret2
      exact ⟨rfl, ((Below.refl _ w).alloc (Nat.le_refl _) _).trans (hb1.mono (by simp))⟩
    | none =>
      have hv : tellsV ⟨1, t, l, p, s⟩ = .tuple #[.int .i64 0, .bool false] := by simp [tellsV, tellsI, hp]
      rw [hv]
      have HP := hide hp
      clear hv hp
      go_enter Tryz.func163, Tryz.ntmps163
      go_wp2_with fail
      refine (digitsNumber_bytes t _ ht (he.below ((Below.refl _ w).alloc (Nat.le_refl _) _))).mono ?_
      rintro e w1 ⟨hb1, -, hs⟩
      rw [hs HP.out]
      clear hs
      go_wp2_with fail
      go_ret2
      exact ⟨rfl, ((Below.refl _ w).alloc (Nat.le_refl _) _).trans (hb1.mono (by simp))⟩
  · have hv : tellsV ⟨k, t, l, p, s⟩ = .tuple #[.int .i64 0, .bool true] := by simp [tellsV, tellsI, hk]
    rw [hv]
    have hk' : (k == 1) = false := by rw [beq_eq_false_iff_ne]; exact hk
    clear hv
    go_enter Tryz.func163, Tryz.ntmps163
    go_wp2_with fail
    go_ret2
    exact ⟨rfl, (Below.refl _ w).alloc (Nat.le_refl _) _⟩
theorem tellsI_bounds {x : Itm} {v : Int} (h : tellsI x = some v) : -999999999 ≤ v ∧ v ≤ 999999999 := by
  unfold tellsI at h
  split at h
  · exact ⟨(pInt_bounds h).1, (pInt_bounds h).2.1⟩
  · simp at h; omega

/-- what comes of Add -/
def addE (x : Itm) (n : Int) : Int := if asI x 1 ≠ 0 then asI x 1 else match tellsI x with | none => 1 | some v => if mayN n = true ∧ mayN (v + n) = true then 0 else 3
def addV (x : Itm) (n : Int) : Value := if addE x n = 0 then .tuple #[tval ⟨(Lib.itoa ((tellsI x).getD 0 + n)).toArray⟩, .int .i64 ((tellsI x).getD 0 + n), .int .i64 0] else .tuple #[zval, .int .i64 0, .int .i64 (addE x n)]
theorem addV_of {x : Itm} {n E : Int} (h : addE x n = E) (h0 : E ≠ 0) : addV x n = .tuple #[zval, .int .i64 0, .int .i64 E] := by rw [addV, h, if_neg h0]

set_option maxRecDepth 100000 in
set_option maxHeartbeats 2000000 in
theorem add_any (v : Value) (x : Itm) (n : Int) (w : World) (h : ItemIs w v x) (he : Env w) (hn1 : -9223372036854775808 ≤ n) (hn2 : n ≤ 9223372036854775807) :
    Calls Tryz.prog 82 #[v, .int .i64 n] w fun e w' => e = .returned (addV x n) ∧ Below w.heap.size w w' := by
  have HC : Hid (∀ W, Below w.heap.size w W → Calls Tryz.prog 115 #[v, .int .i64 1] W fun e w' => e = .returned (.int .i64 (asI x 1)) ∧ Below W.heap.size W w') := fun W hW => common_any v x 1 W (h.below hW)
  obtain ⟨⟨a1, c1, a2, c2, a3, c3, rfl, -, -, -⟩, tz, -, -, -, -, -, -⟩ := h
  by_cases h0 : asI x 1 = 0
  · have hx60 := (asI_text h0).1
    have HT : Hid (∀ W, Below w.heap.size w W → Calls Tryz.prog 163 #[.agg #[.int .i64 x.k, .string x.t, .slice a1 x.l.length c1, .slice a2 x.p.length c2, .slice a3 x.s.length c3]] W fun e w' => e = .returned (tellsV x) ∧ Below W.heap.size W w') := fun W hW => tells_any x.k x.t a1 a2 a3 _ _ _ c1 c2 c3 x.l x.p x.s W (by omega) (he.below hW)
    rw [h0] at HC
    cases ht : tellsI x with
    | none =>
      rw [addV_of (E := 1) (by rw [addE, if_neg (by simp [h0]), ht]) (by decide)]
      rw [show tellsV x = .tuple #[.int .i64 0, .bool false] by simp [tellsV, ht]] at HT
      clear ht h0
      generalize x.t = t at *
      generalize x.k = k at *
      generalize x.l.length = n1 at *
      generalize x.p.length = n2 at *
      generalize x.s.length = n3 at *
      go_enter Tryz.func82, Tryz.ntmps82
      go_wp2_with fail
      refine (HC.out _ (((Below.refl _ w).alloc (Nat.le_refl _) _).alloc (by simp) _)).mono ?_
      rintro e w1 ⟨rfl, hb1⟩
      obtain ⟨hc, hf⟩ := bcell hb1
      have hz : w.heap.size + 1 < w1.heap.size := by have := hb1.size; simp at this; omega
      have hB1 : Below w.heap.size w w1 := (((Below.refl _ w).alloc (Nat.le_refl _) _).alloc (by simp) _).trans (hb1.mono (by simp; omega))
      go_wp2_with fail
      refine (HT.out w1 hB1).mono ?_
      rintro e w2 ⟨rfl, hb2⟩
      obtain ⟨hc2, hf2⟩ := bcell hb2
      have hz2 : w.heap.size + 1 < w2.heap.size := by have := hb2.size; omega
      have hB2 : Below w.heap.size w w2 := hB1.trans (hb2.mono hB1.size)
      go_wp2_with fail
      refine bodyPost_ret (v := .tuple #[zval, .int .i64 0, .int .i64 1]) (by simp [results, Tryz.results82, go_sem, hc2, hc, hz, zval]) rfl ⟨rfl, ?_⟩
      go_grown
    | some u =>
      obtain ⟨hu1, hu2⟩ := tellsI_bounds ht
      rw [show tellsV x = .tuple #[.int .i64 u, .bool true] by simp [tellsV, ht]] at HT
      have HM1 : Hid (∀ W, Calls Tryz.prog 130 #[.int .i64 n] W fun e w' => e = .returned (.bool (mayN n)) ∧ w' = W) := fun W => may_any n W
      have HM2 : Hid (∀ W, Calls Tryz.prog 130 #[.int .i64 (u + n)] W fun e w' => e = .returned (.bool (mayN (u + n))) ∧ w' = W) := fun W => may_any (u + n) W
      cases hm1 : mayN n with
      | false =>
        rw [addV_of (E := 3) (by simp [addE, h0, ht, hm1]) (by decide)]
        rw [hm1] at HM1
        clear ht h0 hm1 HM2
        generalize x.t = t at *
        generalize x.k = k at *
        generalize x.l.length = n1 at *
        generalize x.p.length = n2 at *
        generalize x.s.length = n3 at *
        go_enter Tryz.func82, Tryz.ntmps82
        go_wp2_with fail
        refine (HC.out _ (((Below.refl _ w).alloc (Nat.le_refl _) _).alloc (by simp) _)).mono ?_
        rintro e w1 ⟨rfl, hb1⟩
        obtain ⟨hc, hf⟩ := bcell hb1
        have hz : w.heap.size + 1 < w1.heap.size := by have := hb1.size; simp at this; omega
        have hB1 : Below w.heap.size w w1 := (((Below.refl _ w).alloc (Nat.le_refl _) _).alloc (by simp) _).trans (hb1.mono (by simp; omega))
        go_wp2_with fail
        refine (HT.out w1 hB1).mono ?_
        rintro e w2 ⟨rfl, hb2⟩
        obtain ⟨hc2, hf2⟩ := bcell hb2
        have hz2 : w.heap.size + 1 < w2.heap.size := by have := hb2.size; omega
        have hB2 : Below w.heap.size w w2 := hB1.trans (hb2.mono hB1.size)
        go_wp2_with fail
        refine (HM1.out _).mono ?_
        rintro e w3 ⟨rfl, rfl⟩
        go_wp2_with fail
        refine bodyPost_ret (v := .tuple #[zval, .int .i64 0, .int .i64 3]) (by simp [results, Tryz.results82, go_sem, hc2, hc, hz, zval]) rfl ⟨rfl, ?_⟩
        go_grown
      | true =>
        obtain ⟨hn3, hn4⟩ := (mayN_iff n).1 hm1
        rw [hm1] at HM1
        cases hm2 : mayN (u + n) with
        | false =>
          rw [addV_of (E := 3) (by simp [addE, h0, ht, hm2]) (by decide)]
          rw [hm2] at HM2
          clear ht h0 hm1 hm2
          generalize x.t = t at *
          generalize x.k = k at *
          generalize x.l.length = n1 at *
          generalize x.p.length = n2 at *
          generalize x.s.length = n3 at *
          go_enter Tryz.func82, Tryz.ntmps82
          go_wp2_with fail
          refine (HC.out _ (((Below.refl _ w).alloc (Nat.le_refl _) _).alloc (by simp) _)).mono ?_
          rintro e w1 ⟨rfl, hb1⟩
          obtain ⟨hc, hf⟩ := bcell hb1
          have hz : w.heap.size + 1 < w1.heap.size := by have := hb1.size; simp at this; omega
          have hB1 : Below w.heap.size w w1 := (((Below.refl _ w).alloc (Nat.le_refl _) _).alloc (by simp) _).trans (hb1.mono (by simp; omega))
          go_wp2_with fail
          refine (HT.out w1 hB1).mono ?_
          rintro e w2 ⟨rfl, hb2⟩
          obtain ⟨hc2, hf2⟩ := bcell hb2
          have hz2 : w.heap.size + 1 < w2.heap.size := by have := hb2.size; omega
          have hB2 : Below w.heap.size w w2 := hB1.trans (hb2.mono hB1.size)
          go_wp2_with fail
          refine (HM1.out _).mono ?_
          rintro e w3 ⟨rfl, rfl⟩
          go_wp2_with fail
          refine (HM2.out _).mono ?_
          rintro e w4 ⟨rfl, rfl⟩
          go_wp2_with fail
          refine bodyPost_ret (v := .tuple #[zval, .int .i64 0, .int .i64 3]) (by simp [results, Tryz.results82, go_sem, hc2, hc, hz, zval]) rfl ⟨rfl, ?_⟩
          go_grown
        | true =>
          have hE : addE x n = 0 := by simp [addE, h0, ht, hm1, hm2]
          have hv : addV x n = .tuple #[tval ⟨(Lib.itoa (u + n)).toArray⟩, .int .i64 (u + n), .int .i64 0] := by rw [addV, if_pos hE, ht]; rfl
          rw [hv]
          rw [hm2] at HM2
          have HI : Hid (∀ W, Below w.heap.size w W → Calls Tryz.prog 53 #[.int .i64 (u + n)] W fun e w' => e = .returned (.string ⟨(Lib.itoa (u + n)).toArray⟩) ∧ Below W.heap.size W w') := fun W hW => itoa_any (u + n) W (by omega) (by omega) (he.below hW)
          generalize (⟨(Lib.itoa (u + n)).toArray⟩ : ByteArray) = R at *
          clear ht h0 hm1 hm2 hE hv
          generalize x.t = t at *
          generalize x.k = k at *
          generalize x.l.length = n1 at *
          generalize x.p.length = n2 at *
          generalize x.s.length = n3 at *
          go_enter Tryz.func82, Tryz.ntmps82
          go_wp2_with fail
          refine (HC.out _ (((Below.refl _ w).alloc (Nat.le_refl _) _).alloc (by simp) _)).mono ?_
          rintro e w1 ⟨rfl, hb1⟩
          obtain ⟨hc, hf⟩ := bcell hb1
          have hz : w.heap.size + 1 < w1.heap.size := by have := hb1.size; simp at this; omega
          have hB1 : Below w.heap.size w w1 := (((Below.refl _ w).alloc (Nat.le_refl _) _).alloc (by simp) _).trans (hb1.mono (by simp; omega))
          go_wp2_with fail
          refine (HT.out w1 hB1).mono ?_
          rintro e w2 ⟨rfl, hb2⟩
          obtain ⟨hc2, hf2⟩ := bcell hb2
          have hz2 : w.heap.size + 1 < w2.heap.size := by have := hb2.size; omega
          have hB2 : Below w.heap.size w w2 := hB1.trans (hb2.mono hB1.size)
          go_wp2_with fail
          refine (HM1.out _).mono ?_
          rintro e w3 ⟨rfl, rfl⟩
          go_wp2_with fail
          refine (HM2.out _).mono ?_
          rintro e w4 ⟨rfl, rfl⟩
          go_wp2_with fail
          refine (HI.out _ hB2).mono ?_
          rintro e w5 ⟨rfl, hb5⟩
          obtain ⟨hc5, hf5⟩ := bcell hb5
          have hz5 : w.heap.size + 1 < w5.heap.size := by have := hb5.size; omega
          have hB5 : Below w.heap.size w w5 := hB2.trans (hb5.mono hB2.size)
          go_wp2_with fail
          refine bodyPost_ret (v := .tuple #[tval R, .int .i64 (u + n), .int .i64 0]) (by simp [results, Tryz.results82, go_sem, hc5, hc2, hc, hz, hz2, tval]) rfl ⟨rfl, ?_⟩
          go_grown
  · rw [addV_of (E := asI x 1) (by rw [addE, if_pos h0]) h0]
    have h0' : (asI x 1 == 0) = false := by rw [beq_eq_false_iff_ne]; exact h0
    generalize asI x 1 = E at *
    generalize x.t = t at *
    generalize x.k = k at *
    generalize x.l.length = n1 at *
    generalize x.p.length = n2 at *
    generalize x.s.length = n3 at *
    go_enter Tryz.func82, Tryz.ntmps82
    go_wp2_with fail
    refine (HC.out _ (((Below.refl _ w).alloc (Nat.le_refl _) _).alloc (by simp) _)).mono ?_
    rintro e w1 ⟨rfl, hb1⟩
    obtain ⟨hc, hf⟩ := bcell hb1
    have hz : w.heap.size + 1 < w1.heap.size := by have := hb1.size; simp at this; omega
    have hB1 : Below w.heap.size w w1 := (((Below.refl _ w).alloc (Nat.le_refl _) _).alloc (by simp) _).trans (hb1.mono (by simp; omega))
    go_wp2_with fail
    refine bodyPost_ret (v := .tuple #[zval, .int .i64 0, .int .i64 E]) (by simp [results, Tryz.results82, go_sem, hc, zval]) rfl ⟨rfl, ?_⟩
    go_grown
end Go.Proofs.YtmaancidkpfopaaGreatDoor

/- WALK: the number that a word tells. -/
namespace Go.Proofs.YtmaancidkpfopaaGreatDoor
open Go.RowKit

set_option maxRecDepth 100000 in
set_option maxHeartbeats 4000000 in
theorem number_any (t : ByteArray) (w : World) (hx : t.size ≤ 281474976710656) (he : Env w) :
    Calls Tryz.prog 83 #[.string t] w fun e w' => e = .returned (.int .i64 ((pInt t.data.toList).getD 0)) ∧ Below w.heap.size w w' := by
  have HN := hide (digitsNumber_bytes t w hx he)
  cases hp : pInt t.data.toList with
  | some v =>
    rw [hp] at HN
    go_enter Tryz.func83, Tryz.ntmps83
    go_wp2_with fail
    refine HN.out.mono ?_
    rintro e w1 ⟨hb, h1, -⟩
    obtain rfl := h1 v rfl
    have HB := hide hb
    clear hb h1
    go_wp2_with fail
    go_ret
    exact ⟨rfl, HB.out⟩
  | none =>
    rw [hp] at HN
    go_enter Tryz.func83, Tryz.ntmps83
    go_wp2_with fail
    refine HN.out.mono ?_
    rintro e w1 ⟨hb, -, h1⟩
    obtain rfl := h1 (by first | rfl | trivial)
    have HB := hide hb
    clear hb h1
    go_wp2_with fail
    go_ret
    exact ⟨rfl, HB.out⟩
end Go.Proofs.YtmaancidkpfopaaGreatDoor

