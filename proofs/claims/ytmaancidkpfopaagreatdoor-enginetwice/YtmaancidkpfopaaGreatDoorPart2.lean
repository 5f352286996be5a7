/- Part 2 of what the proof leans on: IChk10, YRow, IChk11, SPl, YDef, Boxes, YCopy, YChk, YOwn. -/
import Derived.Test.YtmaancidkpfopaaGreatDoorPart1
import Derived.Handy
import Derived.Lib.AppendZeros
import Derived.Laws.OwnMore
import Derived.Lib.SlicesCompact
import Derived.BigQuiet
import Derived.Laws.Cover1
import Derived.Sort.Walk0
/- WALK of the check of an item. -/
namespace Go.Proofs.YtmaancidkpfopaaGreatDoor
open Go.RowKit

/-- an item that lies in memory -/
structure ItemIs (w : World) (v : Value) (x : Itm) : Prop where
  ex : ∃ a1 c1 a2 c2 a3 c3, v = .agg #[.int .i64 x.k, .string x.t, .slice a1 x.l.length c1, .slice a2 x.p.length c2, .slice a3 x.s.length c3] ∧ TextsAt w a1 x.l ∧ PairsAt w a2 x.p ∧ ScoresAt w a3 x.s
  tz : x.t.size ≤ maxLen
  lz : ∀ t ∈ x.l, t.size ≤ maxLen
  pz : ∀ t ∈ x.p, t.1.size ≤ maxLen ∧ t.2.size ≤ maxLen
  sz : ∀ t ∈ x.s, t.2.size ≤ maxLen
  ll : x.l.length ≤ 281474976710656
  pl : x.p.length ≤ 281474976710656
  sl : x.s.length ≤ 281474976710656
theorem ItemIs.below {w w' : World} {v : Value} {x : Itm} (h : ItemIs w v x) (hb : Below w.heap.size w w') : ItemIs w' v x := by
  obtain ⟨⟨a1, c1, a2, c2, a3, c3, e, h1, h2, h3⟩, tz, lz, pz, sz, ll, pl, sl⟩ := h
  exact ⟨⟨a1, c1, a2, c2, a3, c3, e, h1.below hb, h2.below hb, h3.below hb⟩, tz, lz, pz, sz, ll, pl, sl⟩
theorem len_pos_b {α : Type} (l : List α) : decide ((0 : Int) < ((l.length : Nat) : Int)) = decide (0 < l.length) := by simp

set_option maxRecDepth 100000 in
set_option maxHeartbeats 4000000 in
theorem hasOther_any (k : Int) (t : ByteArray) (a1 a2 a3 : Option Addr) (n1 n2 n3 c1 c2 c3 : Nat) (w : World) :
    Calls Tryz.prog 44 #[.agg #[.int .i64 k, .string t, .slice a1 n1 c1, .slice a2 n2 c2, .slice a3 n3 c3]] w fun e w' => e = .returned (.bool (decide ((k ≠ 1 ∧ ¬ t.toList = []) ∨ (¬ (k = 2 ∨ k = 3) ∧ 0 < n1) ∨ (k ≠ 4 ∧ 0 < n2) ∨ (k ≠ 5 ∧ 0 < n3)))) ∧ Below w.heap.size w w' := by
  go_enter Tryz.func44, Tryz.ntmps44
  go_wp2
  all_goals go_ret
  all_goals refine ⟨?_, (Below.refl _ _).alloc (Nat.le_refl _) _⟩
  all_goals first | (simp [*]; done) | (simp [*]; omega)
end Go.Proofs.YtmaancidkpfopaaGreatDoor

/- Rows of texts, pairs, scores: appending them, copies of them. -/
namespace Go.Proofs.YtmaancidkpfopaaGreatDoor.YT
open Go.RowKit
theorem infoStr : (Tryz.prog.info? 9).map (fun i => (i.zero, i.size, i.bytes)) = some (some (.string ⟨#[]⟩), 1, 16) := by kernel_rfl
def strs (l : List ByteArray) : List Value := l.map Value.string
theorem run_append_none (P : Program) (w : World) (base : Nat) (t ty e : TypeId) (i : TypeInfo) (size : Nat) (ht : P.underlying t = some (.slice e)) (hi : P.info? e = some i)
    (v : Value) (n : Nat) (xs : List Value) (hown : w.ownsRow base e size v n xs) (c : Nat) :
    (Builtin.append_ #[t, t] ty #[v, .slice none 0 c]).run P w = .ok v w := by
  rcases hown.2 with ⟨rfl, rfl⟩ | ⟨g, cap, cur, rfl, _, _, hnc, _⟩
  · simp [Builtin.append_, run_underlying ht, sizeOf, typeInfo, hi, Builtin.lenOf, Builtin.firstCells]
  · simp [Builtin.append_, run_underlying ht, sizeOf, typeInfo, hi, Builtin.lenOf, Builtin.firstCells, hnc, storeCells]
theorem strs_one (l : List ByteArray) : ∀ u ∈ strs l, u.oneCell' = true := by
  intro u hu
  obtain ⟨t, _, rfl⟩ := List.mem_map.1 hu
  rfl
theorem texts_news {w : World} {g o : Nat} {l : List ByteArray} (h : ∀ i (hi : i < l.length), w.cell? ⟨g, o + i, none⟩ = some (.string l[i])) : ∀ j u, (strs l)[j]? = some u → w.cell? ((⟨g, o, none⟩ : Addr).add j) = some u := by
  intro j u hj
  have hjl : j < l.length := by
    have := (List.getElem?_eq_some_iff.1 hj).1
    simpa [strs] using this
  have e : (⟨g, o, none⟩ : Addr).add j = ⟨g, o + j, none⟩ := by
    unfold Addr.add
    split
    · rename_i h; subst h; rfl
    · rfl
  rw [e, h j hjl, ← hj]
  simp [strs, hjl]
/-- append of texts to a row of one's own -/
theorem wpList_append_texts {w : World} {ops : Array Oper} {rest : List Oper} {o : Oper} {a : Act} {Q : Exit → Act → World → Prop}
    (hg : o.guard = none) (s x : Operand) (hop : o.op = .call { callee := .builtin .append, args := #[s, x], argTypes := #[31, 31] })
    (base : Nat) (v : Value) (n : Nat) (xs : List Value) (hs : a.eval s = v) (hown : w.ownsRow base 9 1 v n xs)
    (ad : Option Addr) (c : Nat) (l : List ByteArray) (hx : a.eval x = .slice ad l.length c) (hl : TextsAt w ad l) (h63 : n + l.length ≤ 2000000) (hbase : base ≤ w.heap.size)
    (hK : ∀ v' w', w'.ownsRow base 9 1 v' (n + l.length) (xs ++ strs l) → w.grownBy w' v.ownBlock → wpList Tryz.prog ops Q rest (a.put o.dst v') w') :
    wpList Tryz.prog ops Q (o :: rest) a w := by
  obtain ⟨i0, hi, hz0, hz1, hz2⟩ := info_parts infoStr
  refine wpList_plain hg fun K' hK' => ?_
  cases ad with
  | none =>
    obtain rfl : l = [] := by
      rcases hl with h | ⟨g, o, h, _⟩
      · exact h
      · cases h
    have hr := run_append_none Tryz.prog w base 31 o.type 9 i0 1 Tryz.underlying31 hi v n xs hown c
    unfold Oper.wp execOp
    simp only [hop, resolve, invoke, builtin, Sem.run_bind, Sem.run_pure, Result.andThen_ok, List.map_toArray, List.map_cons, List.map_nil, hs, hx, List.length_nil, hr]
    exact hK' _ _ (hK v w (by simpa [strs] using hown) (World.grownBy.refl _ _))
  | some ad =>
    refine wp_append_own (P := Tryz.prog) w s x 31 hop base 9 i0 (.string ⟨#[]⟩) 1 16 Tryz.underlying31 hi hz0 hz1 hz2 rfl (by decide) v n xs hs hown ad l.length c (strs l) hx (by simp [strs]) ?_ (strs_one l) (by unfold maxLen; omega) (by omega) hbase ?_
    · rcases hl with h | ⟨g, o, h, hc⟩
      · subst h
        intro j u hj
        simp [strs] at hj
      · injection h with h
        subst h
        exact texts_news hc
    · intro v' w' h1 h2 _
      exact hK' _ _ (hK v' w' h1 h2)

set_option maxRecDepth 100000 in
set_option maxHeartbeats 1000000 in
theorem cloneP_any (a : Option Addr) (c : Nat) (L : List ByteArray) (w : World) (hL : TextsAt w a L) (hn : L.length ≤ 1000000) :
    Calls Tryz.prog 41 #[.slice a L.length c] w fun e w' => ∃ v, e = .returned v ∧ w'.ownsRow w.heap.size 9 1 v L.length (strs L) ∧ Below w.heap.size w w' := by
  cases a with
  | none =>
    obtain rfl : L = [] := by
      rcases hL with h | ⟨g, o, h, _⟩
      · exact h
      · cases h
    have he : ∀ w : World, (binOp .eql 31 (.slice none 0 c) (.slice none 0 0)).run Tryz.prog w = .ok (.bool true) w := fun _ => rfl
    go_enter Tryz.func41, Tryz.ntmps41
    go_wp2_with fail
    go_ret
    exact ⟨_, rfl, World.ownsRow_nil _ _ _ _, Below.refl _ _⟩
  | some ad =>
    have HL := hide hL
    clear hL
    have HB : Below w.heap.size w (w.alloc (.cells #[] 9)) := (Below.refl _ w).alloc (Nat.le_refl _) _
    have HO : (w.alloc (.cells #[] 9)).ownsRow w.heap.size 9 1 (.slice (some ⟨w.heap.size, 0, none⟩) 0 0) 0 [] := World.ownsRow_lit w #[] 0 (Nat.le_refl _) (Nat.zero_le _) rfl
    have HLB := HL.out.below HB
    have he : ∀ w : World, (binOp .eql 31 (.slice (some ad) L.length c) (.slice none 0 0)).run Tryz.prog w = .ok (.bool false) w := fun _ => rfl
    go_enter Tryz.func41, Tryz.ntmps41
    go_wp2_with (at_builtin; refine wpList_append_texts rfl _ _ rfl w.heap.size _ 0 [] rfl HO (some ad) c L rfl HLB (by omega) (by simp) ?_)
    intro v2 w2 hown2 hg2
    have hb2 : Below w.heap.size w w2 := HB.grown hg2 HB.size (fun j hj => (HO.lt j hj).1)
    go_wp2_with fail
    go_ret
    exact ⟨v2, rfl, hown2, hb2⟩

end Go.Proofs.YtmaancidkpfopaaGreatDoor.YT
namespace Go.Proofs.YtmaancidkpfopaaGreatDoor.YP
open Go.RowKit
def rowP (l : List (ByteArray × ByteArray)) : List Value := (l.map fun p => [Value.string p.1, Value.string p.2]).flatten
theorem rowP_len (l : List (ByteArray × ByteArray)) : (rowP l).length = l.length * 2 := by
  induction l with
  | nil => rfl
  | cons p r ih => simp [rowP] at ih ⊢; omega
theorem rowP_snoc (l : List (ByteArray × ByteArray)) (p : ByteArray × ByteArray) : rowP (l ++ [p]) = rowP l ++ [.string p.1, .string p.2] := by simp [rowP]
theorem infoPair : (Tryz.prog.info? 70).map (fun i => (i.zero, i.size, i.bytes)) = some (some (.agg #[.string ⟨#[]⟩, .string ⟨#[]⟩]), 2, 32) := by kernel_rfl

theorem run_append_noneP (P : Program) (w : World) (base : Nat) (t ty e : TypeId) (i : TypeInfo) (size : Nat) (ht : P.underlying t = some (.slice e)) (hi : P.info? e = some i)
    (v : Value) (n : Nat) (xs : List Value) (hown : w.ownsRow base e size v n xs) (c : Nat) :
    (Builtin.append_ #[t, t] ty #[v, .slice none 0 c]).run P w = .ok v w := by
  rcases hown.2 with ⟨rfl, rfl⟩ | ⟨g, cap, cur, rfl, _, _, hnc, _⟩
  · simp [Builtin.append_, run_underlying ht, sizeOf, typeInfo, hi, Builtin.lenOf, Builtin.firstCells]
  · simp [Builtin.append_, run_underlying ht, sizeOf, typeInfo, hi, Builtin.lenOf, Builtin.firstCells, hnc, storeCells]
theorem rowP_one (l : List (ByteArray × ByteArray)) : ∀ u ∈ rowP l, u.oneCell' = true := by
  induction l with
  | nil => intro u hu; cases hu
  | cons p r ih =>
    intro u hu
    have e : rowP (p :: r) = .string p.1 :: .string p.2 :: rowP r := rfl
    rw [e] at hu
    rcases List.mem_cons.1 hu with rfl | hu
    · rfl
    · rcases List.mem_cons.1 hu with rfl | hu
      · rfl
      · exact ih u hu
theorem rowP_at (l : List (ByteArray × ByteArray)) (i : Nat) (h : i < l.length) : (rowP l)[i * 2]? = some (.string l[i].1) ∧ (rowP l)[i * 2 + 1]? = some (.string l[i].2) := by
  induction l generalizing i with
  | nil => simp at h
  | cons p r ih =>
    have e : rowP (p :: r) = .string p.1 :: .string p.2 :: rowP r := rfl
    rw [e]
    cases i with
    | zero => exact ⟨rfl, rfl⟩
    | succ i =>
      have := ih i (by simpa using h)
      rw [show (i + 1) * 2 = i * 2 + 1 + 1 by omega]
      simpa using this
theorem pairs_news {w : World} {g o : Nat} {l : List (ByteArray × ByteArray)} (h : ∀ i (hi : i < l.length), w.cell? ⟨g, o + i * 2, none⟩ = some (.string l[i].1) ∧ w.cell? ⟨g, o + i * 2 + 1, none⟩ = some (.string l[i].2)) : ∀ j u, (rowP l)[j]? = some u → w.cell? ((⟨g, o, none⟩ : Addr).add j) = some u := by
  intro j u hj
  have hjl : j < l.length * 2 := by
    have := (List.getElem?_eq_some_iff.1 hj).1
    rwa [rowP_len] at this
  have e : (⟨g, o, none⟩ : Addr).add j = ⟨g, o + j, none⟩ := by
    unfold Addr.add
    split
    · rename_i h; subst h; rfl
    · rfl
  have hq : j / 2 < l.length := by omega
  obtain ⟨r1, r2⟩ := rowP_at l (j / 2) hq
  obtain ⟨d1, d2⟩ := h (j / 2) hq
  rw [e]
  by_cases hm : j % 2 = 0
  · have e1 : j = j / 2 * 2 := by omega
    rw [← e1] at r1
    rw [show o + j = o + j / 2 * 2 by omega, d1, ← r1, hj]
  · have e1 : j = j / 2 * 2 + 1 := by omega
    rw [← e1] at r2
    rw [show o + j = o + j / 2 * 2 + 1 by omega, d2, ← r2, hj]
/-- append of texts to a row of one's own -/
theorem wpList_append_pairs {w : World} {ops : Array Oper} {rest : List Oper} {o : Oper} {a : Act} {Q : Exit → Act → World → Prop}
    (hg : o.guard = none) (s x : Operand) (hop : o.op = .call { callee := .builtin .append, args := #[s, x], argTypes := #[37, 37] })
    (base : Nat) (v : Value) (n : Nat) (xs : List Value) (hs : a.eval s = v) (hown : w.ownsRow base 70 2 v n xs)
    (ad : Option Addr) (c : Nat) (l : List (ByteArray × ByteArray)) (hx : a.eval x = .slice ad l.length c) (hl : PairsAt w ad l) (h63 : n + l.length ≤ 2000000) (hbase : base ≤ w.heap.size)
    (hK : ∀ v' w', w'.ownsRow base 70 2 v' (n + l.length) (xs ++ rowP l) → w.grownBy w' v.ownBlock → wpList Tryz.prog ops Q rest (a.put o.dst v') w') :
    wpList Tryz.prog ops Q (o :: rest) a w := by
  obtain ⟨i0, hi, hz0, hz1, hz2⟩ := info_parts infoPair
  refine wpList_plain hg fun K' hK' => ?_
  cases ad with
  | none =>
    obtain rfl : l = [] := by
      rcases hl with h | ⟨g, o, h, _⟩
      · exact h
      · cases h
    have hr := run_append_noneP Tryz.prog w base 37 o.type 70 i0 2 Tryz.underlying37 hi v n xs hown c
    unfold Oper.wp execOp
    simp only [hop, resolve, invoke, builtin, Sem.run_bind, Sem.run_pure, Result.andThen_ok, List.map_toArray, List.map_cons, List.map_nil, hs, hx, List.length_nil, hr]
    exact hK' _ _ (hK v w (by simpa [rowP] using hown) (World.grownBy.refl _ _))
  | some ad =>
    refine wp_append_own (P := Tryz.prog) w s x 37 hop base 70 i0 (.agg #[.string ⟨#[]⟩, .string ⟨#[]⟩]) 2 32 Tryz.underlying37 hi hz0 hz1 hz2 rfl (by decide) v n xs hs hown ad l.length c (rowP l) hx (by rw [rowP_len]) ?_ (rowP_one l) (by unfold maxLen; omega) (by omega) hbase ?_
    · rcases hl with h | ⟨g, o, h, hc⟩
      · subst h
        intro j u hj
        simp [rowP] at hj
      · injection h with h
        subst h
        exact pairs_news hc
    · intro v' w' h1 h2 _
      exact hK' _ _ (hK v' w' h1 h2)

set_option maxRecDepth 100000 in
set_option maxHeartbeats 1000000 in
theorem cloneP_any (a : Option Addr) (c : Nat) (L : List (ByteArray × ByteArray)) (w : World) (hL : PairsAt w a L) (hn : L.length ≤ 1000000) :
    Calls Tryz.prog 42 #[.slice a L.length c] w fun e w' => ∃ v, e = .returned v ∧ w'.ownsRow w.heap.size 70 2 v L.length (rowP L) ∧ Below w.heap.size w w' := by
  cases a with
  | none =>
    obtain rfl : L = [] := by
      rcases hL with h | ⟨g, o, h, _⟩
      · exact h
      · cases h
    have he : ∀ w : World, (binOp .eql 37 (.slice none 0 c) (.slice none 0 0)).run Tryz.prog w = .ok (.bool true) w := fun _ => rfl
    go_enter Tryz.func42, Tryz.ntmps42
    go_wp2_with fail
    go_ret
    exact ⟨_, rfl, World.ownsRow_nil _ _ _ _, Below.refl _ _⟩
  | some ad =>
    have HL := hide hL
    clear hL
    have HB : Below w.heap.size w (w.alloc (.cells #[] 70)) := (Below.refl _ w).alloc (Nat.le_refl _) _
    have HO : (w.alloc (.cells #[] 70)).ownsRow w.heap.size 70 2 (.slice (some ⟨w.heap.size, 0, none⟩) 0 0) 0 [] := World.ownsRow_lit w #[] 0 (Nat.le_refl _) (Nat.zero_le _) rfl
    have HLB := HL.out.below HB
    have he : ∀ w : World, (binOp .eql 37 (.slice (some ad) L.length c) (.slice none 0 0)).run Tryz.prog w = .ok (.bool false) w := fun _ => rfl
    go_enter Tryz.func42, Tryz.ntmps42
    go_wp2_with (at_builtin; refine wpList_append_pairs rfl _ _ rfl w.heap.size _ 0 [] rfl HO (some ad) c L rfl HLB (by omega) (by simp) ?_)
    intro v2 w2 hown2 hg2
    have hb2 : Below w.heap.size w w2 := HB.grown hg2 HB.size (fun j hj => (HO.lt j hj).1)
    go_wp2_with fail
    go_ret
    exact ⟨v2, rfl, hown2, hb2⟩

end Go.Proofs.YtmaancidkpfopaaGreatDoor.YP
namespace Go.Proofs.YtmaancidkpfopaaGreatDoor.YS
open Go.RowKit
def rowP (l : List (Int × ByteArray)) : List Value := (l.map fun p => [Value.int .i64 p.1, Value.string p.2]).flatten
theorem rowP_len (l : List (Int × ByteArray)) : (rowP l).length = l.length * 2 := by
  induction l with
  | nil => rfl
  | cons p r ih => simp [rowP] at ih ⊢; omega
theorem rowP_snoc (l : List (Int × ByteArray)) (p : Int × ByteArray) : rowP (l ++ [p]) = rowP l ++ [.int .i64 p.1, .string p.2] := by simp [rowP]
theorem infoScore : (Tryz.prog.info? 72).map (fun i => (i.zero, i.size, i.bytes)) = some (some (.agg #[.int .i64 0, .string ⟨#[]⟩]), 2, 24) := by kernel_rfl

theorem run_append_noneP (P : Program) (w : World) (base : Nat) (t ty e : TypeId) (i : TypeInfo) (size : Nat) (ht : P.underlying t = some (.slice e)) (hi : P.info? e = some i)
    (v : Value) (n : Nat) (xs : List Value) (hown : w.ownsRow base e size v n xs) (c : Nat) :
    (Builtin.append_ #[t, t] ty #[v, .slice none 0 c]).run P w = .ok v w := by
  rcases hown.2 with ⟨rfl, rfl⟩ | ⟨g, cap, cur, rfl, _, _, hnc, _⟩
  · simp [Builtin.append_, run_underlying ht, sizeOf, typeInfo, hi, Builtin.lenOf, Builtin.firstCells]
  · simp [Builtin.append_, run_underlying ht, sizeOf, typeInfo, hi, Builtin.lenOf, Builtin.firstCells, hnc, storeCells]
theorem rowP_one (l : List (Int × ByteArray)) : ∀ u ∈ rowP l, u.oneCell' = true := by
  induction l with
  | nil => intro u hu; cases hu
  | cons p r ih =>
    intro u hu
    have e : rowP (p :: r) = .int .i64 p.1 :: .string p.2 :: rowP r := rfl
    rw [e] at hu
    rcases List.mem_cons.1 hu with rfl | hu
    · rfl
    · rcases List.mem_cons.1 hu with rfl | hu
      · rfl
      · exact ih u hu
theorem rowP_at (l : List (Int × ByteArray)) (i : Nat) (h : i < l.length) : (rowP l)[i * 2]? = some (.int .i64 l[i].1) ∧ (rowP l)[i * 2 + 1]? = some (.string l[i].2) := by
  induction l generalizing i with
  | nil => simp at h
  | cons p r ih =>
    have e : rowP (p :: r) = .int .i64 p.1 :: .string p.2 :: rowP r := rfl
    rw [e]
    cases i with
    | zero => exact ⟨rfl, rfl⟩
    | succ i =>
      have := ih i (by simpa using h)
      rw [show (i + 1) * 2 = i * 2 + 1 + 1 by omega]
      simpa using this
theorem pairs_news {w : World} {g o : Nat} {l : List (Int × ByteArray)} (h : ∀ i (hi : i < l.length), w.cell? ⟨g, o + i * 2, none⟩ = some (.int .i64 l[i].1) ∧ w.cell? ⟨g, o + i * 2 + 1, none⟩ = some (.string l[i].2)) : ∀ j u, (rowP l)[j]? = some u → w.cell? ((⟨g, o, none⟩ : Addr).add j) = some u := by
  intro j u hj
  have hjl : j < l.length * 2 := by
    have := (List.getElem?_eq_some_iff.1 hj).1
    rwa [rowP_len] at this
  have e : (⟨g, o, none⟩ : Addr).add j = ⟨g, o + j, none⟩ := by
    unfold Addr.add
    split
    · rename_i h; subst h; rfl
    · rfl
  have hq : j / 2 < l.length := by omega
  obtain ⟨r1, r2⟩ := rowP_at l (j / 2) hq
  obtain ⟨d1, d2⟩ := h (j / 2) hq
  rw [e]
  by_cases hm : j % 2 = 0
  · have e1 : j = j / 2 * 2 := by omega
    rw [← e1] at r1
    rw [show o + j = o + j / 2 * 2 by omega, d1, ← r1, hj]
  · have e1 : j = j / 2 * 2 + 1 := by omega
    rw [← e1] at r2
    rw [show o + j = o + j / 2 * 2 + 1 by omega, d2, ← r2, hj]
/-- append of texts to a row of one's own -/
theorem wpList_append_pairs {w : World} {ops : Array Oper} {rest : List Oper} {o : Oper} {a : Act} {Q : Exit → Act → World → Prop}
    (hg : o.guard = none) (s x : Operand) (hop : o.op = .call { callee := .builtin .append, args := #[s, x], argTypes := #[38, 38] })
    (base : Nat) (v : Value) (n : Nat) (xs : List Value) (hs : a.eval s = v) (hown : w.ownsRow base 72 2 v n xs)
    (ad : Option Addr) (c : Nat) (l : List (Int × ByteArray)) (hx : a.eval x = .slice ad l.length c) (hl : ScoresAt w ad l) (h63 : n + l.length ≤ 2000000) (hbase : base ≤ w.heap.size)
    (hK : ∀ v' w', w'.ownsRow base 72 2 v' (n + l.length) (xs ++ rowP l) → w.grownBy w' v.ownBlock → wpList Tryz.prog ops Q rest (a.put o.dst v') w') :
    wpList Tryz.prog ops Q (o :: rest) a w := by
  obtain ⟨i0, hi, hz0, hz1, hz2⟩ := info_parts infoScore
  refine wpList_plain hg fun K' hK' => ?_
  cases ad with
  | none =>
    obtain rfl : l = [] := by
      rcases hl with h | ⟨g, o, h, _⟩
      · exact h
      · cases h
    have hr := run_append_noneP Tryz.prog w base 38 o.type 72 i0 2 Tryz.underlying38 hi v n xs hown c
    unfold Oper.wp execOp
    simp only [hop, resolve, invoke, builtin, Sem.run_bind, Sem.run_pure, Result.andThen_ok, List.map_toArray, List.map_cons, List.map_nil, hs, hx, List.length_nil, hr]
    exact hK' _ _ (hK v w (by simpa [rowP] using hown) (World.grownBy.refl _ _))
  | some ad =>
    refine wp_append_own (P := Tryz.prog) w s x 38 hop base 72 i0 (.agg #[.int .i64 0, .string ⟨#[]⟩]) 2 24 Tryz.underlying38 hi hz0 hz1 hz2 rfl (by decide) v n xs hs hown ad l.length c (rowP l) hx (by rw [rowP_len]) ?_ (rowP_one l) (by unfold maxLen; omega) (by omega) hbase ?_
    · rcases hl with h | ⟨g, o, h, hc⟩
      · subst h
        intro j u hj
        simp [rowP] at hj
      · injection h with h
        subst h
        exact pairs_news hc
    · intro v' w' h1 h2 _
      exact hK' _ _ (hK v' w' h1 h2)

set_option maxRecDepth 100000 in
set_option maxHeartbeats 1000000 in
theorem cloneP_any (a : Option Addr) (c : Nat) (L : List (Int × ByteArray)) (w : World) (hL : ScoresAt w a L) (hn : L.length ≤ 1000000) :
    Calls Tryz.prog 43 #[.slice a L.length c] w fun e w' => ∃ v, e = .returned v ∧ w'.ownsRow w.heap.size 72 2 v L.length (rowP L) ∧ Below w.heap.size w w' := by
  cases a with
  | none =>
    obtain rfl : L = [] := by
      rcases hL with h | ⟨g, o, h, _⟩
      · exact h
      · cases h
    have he : ∀ w : World, (binOp .eql 38 (.slice none 0 c) (.slice none 0 0)).run Tryz.prog w = .ok (.bool true) w := fun _ => rfl
    go_enter Tryz.func43, Tryz.ntmps43
    go_wp2_with fail
    go_ret
    exact ⟨_, rfl, World.ownsRow_nil _ _ _ _, Below.refl _ _⟩
  | some ad =>
    have HL := hide hL
    clear hL
    have HB : Below w.heap.size w (w.alloc (.cells #[] 72)) := (Below.refl _ w).alloc (Nat.le_refl _) _
    have HO : (w.alloc (.cells #[] 72)).ownsRow w.heap.size 72 2 (.slice (some ⟨w.heap.size, 0, none⟩) 0 0) 0 [] := World.ownsRow_lit w #[] 0 (Nat.le_refl _) (Nat.zero_le _) rfl
    have HLB := HL.out.below HB
    have he : ∀ w : World, (binOp .eql 38 (.slice (some ad) L.length c) (.slice none 0 0)).run Tryz.prog w = .ok (.bool false) w := fun _ => rfl
    go_enter Tryz.func43, Tryz.ntmps43
    go_wp2_with (at_builtin; refine wpList_append_pairs rfl _ _ rfl w.heap.size _ 0 [] rfl HO (some ad) c L rfl HLB (by omega) (by simp) ?_)
    intro v2 w2 hown2 hg2
    have hb2 : Below w.heap.size w w2 := HB.grown hg2 HB.size (fun j hj => (HO.lt j hj).1)
    go_wp2_with fail
    go_ret
    exact ⟨v2, rfl, hown2, hb2⟩

end Go.Proofs.YtmaancidkpfopaaGreatDoor.YS

/- WALK of the check of an item, whole. -/
namespace Go.Proofs.YtmaancidkpfopaaGreatDoor
open Go.RowKit

set_option maxRecDepth 100000 in
set_option maxHeartbeats 4000000 in
theorem check_any (v : Value) (x : Itm) (w : World) (h : ItemIs w v x) :
    Calls Tryz.prog 29 #[v] w fun e w' => e = .returned (.int .i64 (chkI x)) ∧ Below w.heap.size w w' := by
  obtain ⟨⟨a1, c1, a2, c2, a3, c3, rfl, h1, h2, h3⟩, tz, lz, pz, sz, ll, pl, sl⟩ := h
  obtain ⟨k, t, l, p, s⟩ := x
  simp only at *
  by_cases h0 : k < 1 ∨ 5 < k
  · have hp : chkI ⟨k, t, l, p, s⟩ = 7 := by rw [chkI, if_pos h0]
    rw [hp]
    clear hp
    rcases h0 with h0 | h0
    · go_enter Tryz.func29, Tryz.ntmps29
      go_wp2_with fail
      go_ret
      exact ⟨rfl, (Below.refl _ _).alloc (Nat.le_refl _) _⟩
    · have h0' : ¬ k < 1 := by omega
      go_enter Tryz.func29, Tryz.ntmps29
      go_wp2_with fail
      go_ret
      exact ⟨rfl, (Below.refl _ _).alloc (Nat.le_refl _) _⟩
  have hk1 : ¬ k < 1 := by omega
  have hk5 : ¬ 5 < k := by omega
  have HO : Hid (∀ W, Calls Tryz.prog 44 #[.agg #[.int .i64 k, .string t, .slice a1 l.length c1, .slice a2 p.length c2, .slice a3 s.length c3]] W fun e w' => e = .returned (.bool (otherI ⟨k, t, l, p, s⟩)) ∧ Below W.heap.size W w') := fun W => hasOther_any k t a1 a2 a3 l.length p.length s.length c1 c2 c3 W
  cases ho : otherI ⟨k, t, l, p, s⟩ with
  | true =>
    have hp : chkI ⟨k, t, l, p, s⟩ = 1 := by rw [chkI, if_neg h0, if_pos ho]
    rw [hp]
    rw [ho] at HO
    clear hp h0 ho
    go_enter Tryz.func29, Tryz.ntmps29
    go_wp2_with fail
    refine (HO.out _).mono ?_
    rintro e w1 ⟨rfl, hb1⟩
    go_wp2_with fail
    go_ret
    exact ⟨rfl, ((Below.refl _ w).alloc (Nat.le_refl _) _).trans (hb1.mono (by simp))⟩
  | false =>
    have hp : chkI ⟨k, t, l, p, s⟩ = if k = 2 then sizeT l.length (l.any longT) else if k = 3 then setT l else if k = 4 then hashT p else if k = 5 then scoreT s else if longT t = true then 2 else 0 := by
      rw [chkI, if_neg h0, if_neg (by rw [ho]; decide)]
    rw [hp]
    rw [ho] at HO
    clear hp h0 ho
    have hkk : k = 1 ∨ k = 2 ∨ k = 3 ∨ k = 4 ∨ k = 5 := by omega
    have H1 : Hid (TextsAt w a1 l) := h1
    have H2 : Hid (PairsAt w a2 p) := h2
    have H3 : Hid (ScoresAt w a3 s) := h3
    have HZ : Hid (∀ t ∈ s, t.2.size ≤ maxLen) := sz
    clear h1 h2 h3 lz pz sz hk1 hk5
    rcases hkk with rfl | rfl | rfl | rfl | rfl
    · rw [if_neg (by decide), if_neg (by decide), if_neg (by decide), if_neg (by decide)]
      have HL : Hid (∀ W, Calls Tryz.prog 46 #[.string t] W fun e w' => e = .returned (.bool (longT t)) ∧ w' = W) := fun W => isLong_any t W
      generalize longT t = B at *
      go_enter Tryz.func29, Tryz.ntmps29
      go_wp2_with fail
      refine (HO.out _).mono ?_
      rintro e w1 ⟨rfl, hb1⟩
      obtain ⟨hc, hf⟩ := bcell hb1
      have hz : w.heap.size < w1.heap.size := by have := hb1.size; simp at this; omega
      have hB1 : Below w.heap.size w w1 := ((Below.refl _ w).alloc (Nat.le_refl _) _).trans (hb1.mono (by simp))
      go_wp2_with fail
      refine (HL.out _).mono ?_
      rintro e w2 ⟨rfl, rfl⟩
      cases B with
      | true =>
        go_wp2_with fail
        go_ret
        exact ⟨rfl, hB1⟩
      | false =>
        go_wp2_with fail
        go_ret
        exact ⟨rfl, hB1⟩
    · rw [if_pos rfl]
      have HC : Hid (∀ W, Below w.heap.size w W → Calls Tryz.prog 45 #[.slice a1 l.length c1, .func (.func 46) #[] #[]] W fun e w' => e = .returned (.int .i64 (sizeT l.length (l.any longT))) ∧ Below W.heap.size W w') := fun W hW => checkSizeT_any a1 c1 l W (H1.out.below hW)
      generalize sizeT l.length (l.any longT) = Z at *
      go_enter Tryz.func29, Tryz.ntmps29
      go_wp2_with fail
      refine (HO.out _).mono ?_
      rintro e w1 ⟨rfl, hb1⟩
      obtain ⟨hc, hf⟩ := bcell hb1
      have hz : w.heap.size < w1.heap.size := by have := hb1.size; simp at this; omega
      have hB1 : Below w.heap.size w w1 := ((Below.refl _ w).alloc (Nat.le_refl _) _).trans (hb1.mono (by simp))
      go_wp2_with fail
      refine (HC.out w1 hB1).mono ?_
      rintro e w2 ⟨rfl, hb2⟩
      go_wp2_with fail
      go_ret
      exact ⟨rfl, hB1.trans (hb2.mono hB1.size)⟩
    · rw [if_neg (by decide), if_pos rfl]
      have HC : Hid (∀ W, Below w.heap.size w W → Calls Tryz.prog 47 #[.slice a1 l.length c1] W fun e w' => e = .returned (.int .i64 (setT l)) ∧ Below W.heap.size W w') := fun W hW => checkSet_any a1 c1 l W (H1.out.below hW)
      generalize setT l = Z at *
      go_enter Tryz.func29, Tryz.ntmps29
      go_wp2_with fail
      refine (HO.out _).mono ?_
      rintro e w1 ⟨rfl, hb1⟩
      obtain ⟨hc, hf⟩ := bcell hb1
      have hz : w.heap.size < w1.heap.size := by have := hb1.size; simp at this; omega
      have hB1 : Below w.heap.size w w1 := ((Below.refl _ w).alloc (Nat.le_refl _) _).trans (hb1.mono (by simp))
      go_wp2_with fail
      refine (HC.out w1 hB1).mono ?_
      rintro e w2 ⟨rfl, hb2⟩
      go_wp2_with fail
      go_ret
      exact ⟨rfl, hB1.trans (hb2.mono hB1.size)⟩
    · rw [if_neg (by decide), if_neg (by decide), if_pos rfl]
      have HC : Hid (∀ W, Below w.heap.size w W → Calls Tryz.prog 48 #[.slice a2 p.length c2] W fun e w' => e = .returned (.int .i64 (hashT p)) ∧ Below W.heap.size W w') := fun W hW => checkHash_any a2 c2 p W (H2.out.below hW)
      generalize hashT p = Z at *
      go_enter Tryz.func29, Tryz.ntmps29
      go_wp2_with fail
      refine (HO.out _).mono ?_
      rintro e w1 ⟨rfl, hb1⟩
      obtain ⟨hc, hf⟩ := bcell hb1
      have hz : w.heap.size < w1.heap.size := by have := hb1.size; simp at this; omega
      have hB1 : Below w.heap.size w w1 := ((Below.refl _ w).alloc (Nat.le_refl _) _).trans (hb1.mono (by simp))
      go_wp2_with fail
      refine (HC.out w1 hB1).mono ?_
      rintro e w2 ⟨rfl, hb2⟩
      go_wp2_with fail
      go_ret
      exact ⟨rfl, hB1.trans (hb2.mono hB1.size)⟩
    · rw [if_neg (by decide), if_neg (by decide), if_neg (by decide), if_pos rfl]
      have HC : Hid (∀ W, Below w.heap.size w W → Calls Tryz.prog 49 #[.slice a3 s.length c3] W fun e w' => e = .returned (.int .i64 (scoreT s)) ∧ Below W.heap.size W w') := fun W hW => checkScores_any a3 c3 s W (H3.out.below hW) HZ.out
      generalize scoreT s = Z at *
      go_enter Tryz.func29, Tryz.ntmps29
      go_wp2_with fail
      refine (HO.out _).mono ?_
      rintro e w1 ⟨rfl, hb1⟩
      obtain ⟨hc, hf⟩ := bcell hb1
      have hz : w.heap.size < w1.heap.size := by have := hb1.size; simp at this; omega
      have hB1 : Below w.heap.size w w1 := ((Below.refl _ w).alloc (Nat.le_refl _) _).trans (hb1.mono (by simp))
      go_wp2_with fail
      refine (HC.out w1 hB1).mono ?_
      rintro e w2 ⟨rfl, hb2⟩
      go_wp2_with fail
      go_ret
      exact ⟨rfl, hB1.trans (hb2.mono hB1.size)⟩
end Go.Proofs.YtmaancidkpfopaaGreatDoor

/- Sets as plain data: what rises, what is put in its place. -/
namespace Go.Proofs.YtmaancidkpfopaaGreatDoor

/-- a text ahead of another -/
def lessT (a b : ByteArray) : Prop := a.data.toList < b.data.toList
theorem cmpB_lt : ∀ a b : List UInt8, Lib.compareBytes a b < 0 ↔ a < b
  | [], [] => by simp [Lib.compareBytes]
  | [], _ :: _ => by simp [Lib.compareBytes]
  | _ :: _, [] => by simp [Lib.compareBytes]
  | a :: ar, b :: br => by
    rw [Lib.compareBytes, List.cons_lt_cons_iff]
    have hne : ∀ c : UInt8, ¬ c < c := fun c h => by rw [UInt8.lt_iff_toNat_lt] at h; omega
    split
    · rename_i h
      simp [h]
    · rename_i h
      split
      · rename_i h2
        have : a ≠ b := fun e => by subst e; exact hne _ h2
        simp [h, this]
      · rename_i h2
        have e : a = b := UInt8.toNat_inj.1 (by rw [UInt8.lt_iff_toNat_lt] at h h2; omega)
        subst e
        rw [cmpB_lt ar br]
        simp [hne]
theorem cmpB_gt : ∀ a b : List UInt8, 0 < Lib.compareBytes a b ↔ b < a
  | [], [] => by simp [Lib.compareBytes]
  | [], _ :: _ => by simp [Lib.compareBytes]
  | _ :: _, [] => by simp [Lib.compareBytes]
  | a :: ar, b :: br => by
    rw [Lib.compareBytes, List.cons_lt_cons_iff]
    have hne : ∀ c : UInt8, ¬ c < c := fun c h => by rw [UInt8.lt_iff_toNat_lt] at h; omega
    split
    · rename_i h
      have h3 : ¬ b < a := fun h2 => by rw [UInt8.lt_iff_toNat_lt] at h h2; omega
      have : b ≠ a := fun e => by subst e; exact hne _ h
      simp [h3, this]
    · rename_i h
      split
      · rename_i h2
        simp [h2]
      · rename_i h2
        have e : a = b := UInt8.toNat_inj.1 (by rw [UInt8.lt_iff_toNat_lt] at h h2; omega)
        subst e
        rw [cmpB_gt ar br]
        simp [hne]
theorem listLt_or_eq {a b : List UInt8} (h : a ≤ b) : a < b ∨ a = b := by
  by_cases h2 : a < b
  · exact .inl h2
  · exact .inr (List.le_antisymm h (List.not_lt.1 h2))
theorem cmpT_lt (a b : ByteArray) : cmpT a b < 0 ↔ lessT a b := cmpB_lt _ _
theorem cmpT_gt (a b : ByteArray) : 0 < cmpT a b ↔ lessT b a := cmpB_gt _ _
theorem lessT_irrefl (a : ByteArray) : ¬ lessT a a := List.lt_irrefl _
theorem lessT_trans {a b c : ByteArray} (h : lessT a b) (h2 : lessT b c) : lessT a c := List.lt_trans h h2
theorem bytes_eq {a b : ByteArray} (h : a.data.toList = b.data.toList) : a = b := by
  cases a; cases b
  congr 1
  exact Array.toList_inj.1 h
theorem lessT_or (a b : ByteArray) : lessT a b ∨ a = b ∨ lessT b a := by
  by_cases h : lessT a b
  · exact .inl h
  by_cases h2 : lessT b a
  · exact .inr (.inr h2)
  · exact .inr (.inl (bytes_eq (List.le_antisymm (List.not_lt.1 h2) (List.not_lt.1 h))))
/-- what rises -/
def Rises (l : List ByteArray) : Prop := l.Pairwise lessT
theorem Rises.nodup {l : List ByteArray} (h : Rises l) : l.Nodup := h.imp (fun hab e => by subst e; exact lessT_irrefl _ hab)
theorem rises_unique : ∀ {l m : List ByteArray}, Rises l → Rises m → (∀ x, x ∈ l ↔ x ∈ m) → l = m
  | [], [], _, _, _ => rfl
  | [], b :: m, _, _, h => by have := (h b).2 (by simp); cases this
  | a :: l, [], _, _, h => by have := (h a).1 (by simp); cases this
  | a :: l, b :: m, hl, hm, h => by
    have hl' := List.pairwise_cons.1 hl
    have hm' := List.pairwise_cons.1 hm
    have hab : a = b := by
      have h1 := (h a).1 (by simp)
      have h2 := (h b).2 (by simp)
      rcases List.mem_cons.1 h1 with e | h1
      · exact e
      rcases List.mem_cons.1 h2 with e | h2
      · exact e.symm
      exact absurd (lessT_trans (hm'.1 a h1) (hl'.1 b h2)) (lessT_irrefl _)
    subst hab
    congr 1
    refine rises_unique hl'.2 hm'.2 (fun x => ⟨fun hx => ?_, fun hx => ?_⟩)
    · rcases List.mem_cons.1 ((h x).1 (by simp [hx])) with e | h1
      · subst e; exact absurd (hl'.1 _ hx) (lessT_irrefl _)
      · exact h1
    · rcases List.mem_cons.1 ((h x).2 (by simp [hx])) with e | h1
      · subst e; exact absurd (hm'.1 _ hx) (lessT_irrefl _)
      · exact h1
theorem rises_of_riseTo {l : List ByteArray} (h : riseTo cmpT l l.length = true) : Rises l := by
  have hadj : ∀ j, j + 1 < l.length → lessT l[j]! l[j + 1]! := fun j hj => by
    rw [riseTo, List.all_eq_true] at h
    have := h j (List.mem_range.2 (by omega))
    simp only [decide_eq_true_eq] at this
    exact (cmpT_lt _ _).1 this
  have hfar : ∀ d i, i + d + 1 < l.length → lessT l[i]! l[i + d + 1]! := fun d => by
    induction d with
    | zero => exact fun i hi => hadj i hi
    | succ d ih => exact fun i hi => lessT_trans (ih i (by omega)) (hadj (i + d + 1) (by omega))
  rw [Rises, List.pairwise_iff_getElem]
  intro i j hi hj hij
  have := hfar (j - i - 1) i (by omega)
  rw [show i + (j - i - 1) + 1 = j by omega] at this
  simpa [hi, hj] using this
theorem riseTo_of_rises {l : List ByteArray} (h : Rises l) : riseTo cmpT l l.length = true := by
  rw [riseTo, List.all_eq_true]
  intro j hj
  rw [List.mem_range] at hj
  rw [Rises, List.pairwise_iff_getElem] at h
  have h1 := h j (j + 1) (by omega) (by omega) (by omega)
  have e1 : l[j]! = l[j]'(by omega) := by simp [show j < l.length by omega]
  have e2 : l[j + 1]! = l[j + 1]'(by omega) := by simp [show j + 1 < l.length by omega]
  rw [e1, e2, decide_eq_true_eq]
  exact (cmpT_lt _ _).2 h1
/-- a text put ahead of the first one that is behind it -/
def insT : List ByteArray → ByteArray → List ByteArray
  | [], s => [s]
  | a :: r, s => if 0 < cmpT a s then s :: a :: r else a :: insT r s
theorem mem_insT {l : List ByteArray} {s x : ByteArray} : x ∈ insT l s ↔ x = s ∨ x ∈ l := by
  induction l with
  | nil => simp [insT]
  | cons a r ih =>
    rw [insT]
    split
    · simp
    · rw [List.mem_cons, ih, List.mem_cons]
      exact ⟨fun h => by rcases h with h | h | h <;> simp [h], fun h => by rcases h with h | h | h <;> simp [h]⟩
theorem rises_insT {l : List ByteArray} {s : ByteArray} (h : Rises l) (hs : s ∉ l) : Rises (insT l s) := by
  induction l with
  | nil => simp [insT, Rises]
  | cons a r ih =>
    have h' := List.pairwise_cons.1 h
    rw [insT]
    split
    · rename_i hc
      have hsa := (cmpT_gt a s).1 hc
      refine List.pairwise_cons.2 ⟨fun b hb => ?_, h⟩
      rcases List.mem_cons.1 hb with rfl | hb
      · exact hsa
      · exact lessT_trans hsa (h'.1 b hb)
    · rename_i hc
      have hsa : lessT a s := by
        rcases lessT_or a s with h1 | h1 | h1
        · exact h1
        · subst h1; exact absurd (List.mem_cons_self ..) hs
        · exact absurd ((cmpT_gt a s).2 h1) hc
      refine List.pairwise_cons.2 ⟨fun b hb => ?_, ih h'.2 (fun hx => hs (List.mem_cons_of_mem _ hx))⟩
      rcases mem_insT.1 hb with rfl | hb
      · exact hsa
      · exact h'.1 b hb
/-- .. if it is not there -/
def putT (l : List ByteArray) (s : ByteArray) : List ByteArray := if hasT l s = true then l else insT l s
theorem mem_putT {l : List ByteArray} {s x : ByteArray} : x ∈ putT l s ↔ x = s ∨ x ∈ l := by
  unfold putT
  split
  · rename_i h
    rw [hasT_iff] at h
    exact ⟨.inr, fun hx => by
      rcases hx with rfl | hx
      · exact h
      · exact hx⟩
  · exact mem_insT
theorem rises_putT {l : List ByteArray} {s : ByteArray} (h : Rises l) : Rises (putT l s) := by
  unfold putT
  split
  · exact h
  · rename_i hn
    exact rises_insT h (fun hx => hn (hasT_iff.2 hx))
theorem insT_len (l : List ByteArray) (s : ByteArray) : (insT l s).length = l.length + 1 := by
  induction l with
  | nil => rfl
  | cons a r ih =>
    rw [insT]
    split
    · rfl
    · simp [ih]
theorem putT_len (l : List ByteArray) (s : ByteArray) : l.length ≤ (putT l s).length ∧ (putT l s).length ≤ l.length + 1 := by
  unfold putT
  split
  · omega
  · rw [insT_len]; omega
/-- many of them -/
def addT (l m : List ByteArray) : List ByteArray := m.foldl putT l
theorem addT_snoc (l m : List ByteArray) (s : ByteArray) : addT l (m ++ [s]) = putT (addT l m) s := by simp [addT]
theorem mem_addT {l m : List ByteArray} {x : ByteArray} : x ∈ addT l m ↔ x ∈ l ∨ x ∈ m := by
  induction m generalizing l with
  | nil => simp [addT]
  | cons a m ih =>
    show x ∈ addT (putT l a) m ↔ _
    rw [ih, mem_putT, List.mem_cons]
    exact ⟨fun h => by rcases h with (h | h) | h <;> simp [h], fun h => by rcases h with h | h | h <;> simp [h]⟩
theorem rises_addT {l m : List ByteArray} (h : Rises l) : Rises (addT l m) := by
  induction m generalizing l with
  | nil => exact h
  | cons a m ih => exact ih (rises_putT h)
theorem addT_len (l m : List ByteArray) : l.length ≤ (addT l m).length ∧ (addT l m).length ≤ l.length + m.length := by
  induction m generalizing l with
  | nil => simp [addT]
  | cons a m ih =>
    have h1 := ih (putT l a)
    have h2 := putT_len l a
    show l.length ≤ (addT (putT l a) m).length ∧ (addT (putT l a) m).length ≤ _
    rw [List.length_cons]
    omega
/-- what is sorted, each once -/
theorem compact_sorted {zs : List (List UInt8)} (h : zs.Pairwise (fun a b => a ≤ b)) : (Lib.compact zs).Pairwise (fun a b => a < b) ∧ ∀ x, x ∈ Lib.compact zs ↔ x ∈ zs := by
  have hg : ∀ j (hj : j < zs.length), zs.toArray[j]! = zs[j] := fun j hj => by simp [hj]
  rw [List.pairwise_iff_getElem] at h
  have hin : ∀ i, ∀ hi : i < zs.length, zs[i] ∈ Lib.compact zs := fun i => by
    induction i with
    | zero =>
      intro hi
      unfold Lib.compact Lib.compactUpTo
      rw [List.mem_map]
      exact ⟨0, List.mem_filter.2 ⟨List.mem_range.2 hi, by simp [Lib.keeps]⟩, hg 0 hi⟩
    | succ i ih =>
      intro hi
      by_cases e : zs[i + 1] = zs[i]
      · rw [e]
        exact ih (by omega)
      · unfold Lib.compact Lib.compactUpTo
        rw [List.mem_map]
        refine ⟨i + 1, List.mem_filter.2 ⟨List.mem_range.2 hi, ?_⟩, hg _ hi⟩
        unfold Lib.keeps
        rw [decide_eq_true_eq, hg _ hi, show i + 1 - 1 = i by omega, hg i (by omega)]
        exact .inr e
  refine ⟨?_, fun x => ⟨fun hx => ?_, fun hx => ?_⟩⟩
  · unfold Lib.compact Lib.compactUpTo
    rw [List.pairwise_map]
    have hp : ((List.range zs.length).filter (Lib.keeps zs.toArray)).Pairwise (fun i j => i < j) := List.pairwise_lt_range.filter _
    refine hp.imp_of_mem ?_
    intro i j hi hj hij
    have hj' := List.mem_filter.1 hj
    have hjl := List.mem_range.1 hj'.1
    rw [hg i (by omega), hg j hjl]
    have hk := hj'.2
    unfold Lib.keeps at hk
    rw [decide_eq_true_eq, hg j hjl, hg (j - 1) (by omega)] at hk
    rcases hk with hk | hk
    · omega
    · have h1 : zs[i] ≤ zs[j - 1] := by
        rcases Nat.lt_or_ge i (j - 1) with h2 | h2
        · exact h i (j - 1) (by omega) (by omega) h2
        · have e : i = j - 1 := by omega
          subst e
          exact List.le_refl _
      have h2 : zs[j - 1] ≤ zs[j] := h (j - 1) j (by omega) (by omega) (by omega)
      have h3 : zs[j - 1] < zs[j] := by
        rcases listLt_or_eq h2 with h3 | h3
        · exact h3
        · exact absurd h3.symm hk
      exact List.lt_of_le_of_lt h1 h3
  · unfold Lib.compact Lib.compactUpTo at hx
    rw [List.mem_map] at hx
    obtain ⟨j, hj, rfl⟩ := hx
    have hjl := List.mem_range.1 (List.mem_filter.1 hj).1
    rw [hg j hjl]
    exact List.getElem_mem _
  · obtain ⟨i, hi, rfl⟩ := List.getElem_of_mem hx
    exact hin i hi
def bytesL (l : List ByteArray) : List (List UInt8) := l.map fun t => t.data.toList
def textsL (l : List (List UInt8)) : List ByteArray := l.map fun t => ⟨t.toArray⟩
theorem texts_bytes (l : List ByteArray) : textsL (bytesL l) = l := by
  unfold textsL bytesL
  rw [List.map_map]
  refine (List.map_congr_left (fun a _ => ?_)).trans (List.map_id l)
  cases a
  simp
theorem sorted_bytes (l : List (List UInt8)) : (l.mergeSort fun x y => decide (x ≤ y)).Pairwise (fun a b => a ≤ b) := by
  have := List.pairwise_mergeSort (le := fun x y : List UInt8 => decide (x ≤ y)) (fun a b c h1 h2 => by
    rw [decide_eq_true_eq] at *
    exact List.le_trans h1 h2) (fun a b => by
    rw [Bool.or_eq_true, decide_eq_true_eq, decide_eq_true_eq]
    exact List.le_total _ _) l
  exact this.imp (fun h => by simpa using h)
theorem mem_textsL {l : List (List UInt8)} {x : ByteArray} : x ∈ textsL l ↔ x.data.toList ∈ l := by
  unfold textsL
  rw [List.mem_map]
  constructor
  · rintro ⟨a, ha, rfl⟩
    simpa using ha
  · intro h
    refine ⟨_, h, ?_⟩
    cases x
    simp
theorem mem_bytesL {l : List ByteArray} {x : List UInt8} : x ∈ bytesL l ↔ (⟨x.toArray⟩ : ByteArray) ∈ l := by
  unfold bytesL
  rw [List.mem_map]
  constructor
  · rintro ⟨a, ha, rfl⟩
    have e : (⟨a.data.toList.toArray⟩ : ByteArray) = a := by cases a; simp
    rw [e]
    exact ha
  · intro h
    exact ⟨_, h, by simp⟩
theorem rises_textsL {l : List (List UInt8)} (h : l.Pairwise (fun a b => a < b)) : Rises (textsL l) := by
  unfold Rises textsL
  rw [List.pairwise_map]
  exact h.imp (fun h => by simpa [lessT] using h)
/-- sorted, each once: as if each were put in its place -/
theorem compact_all_is (l m : List ByteArray) (hl : Rises l) : textsL (Lib.compact ((bytesL (l ++ m)).mergeSort fun x y => decide (x ≤ y))) = addT l m := by
  obtain ⟨h1, h2⟩ := compact_sorted (sorted_bytes (bytesL (l ++ m)))
  refine rises_unique (rises_textsL h1) (rises_addT hl) (fun x => ?_)
  rw [mem_textsL, h2, List.mem_mergeSort, mem_bytesL, mem_addT]
  have e : (⟨x.data.toList.toArray⟩ : ByteArray) = x := by cases x; simp
  rw [e, List.mem_append]
/-- sorted, of things none of which is there twice -/
theorem sorted_once {l : List ByteArray} (hl : l.Nodup) : Rises (textsL ((bytesL l).mergeSort fun x y => decide (x ≤ y))) ∧ ∀ x, x ∈ textsL ((bytesL l).mergeSort fun x y => decide (x ≤ y)) ↔ x ∈ l := by
  have hnd : (bytesL l).Nodup := by
    unfold bytesL
    unfold List.Nodup
    rw [List.pairwise_map]
    exact hl.imp (fun h e => h (bytes_eq e))
  have hp := (List.mergeSort_perm (bytesL l) (fun x y => decide (x ≤ y)))
  have hnd2 := hp.nodup_iff.2 hnd
  refine ⟨rises_textsL ?_, fun x => ?_⟩
  · have := (sorted_bytes (bytesL l)).and hnd2
    exact this.imp (fun ⟨h1, h2⟩ => by
      rcases listLt_or_eq h1 with h3 | h3
      · exact h3
      · exact absurd h3 h2)
  · rw [mem_textsL, List.mem_mergeSort, mem_bytesL]
end Go.Proofs.YtmaancidkpfopaaGreatDoor

/- Spaces: entries as plain data, and as they lie in memory. -/
namespace Go.Proofs.YtmaancidkpfopaaGreatDoor
open Go.RowKit

structure Ent where
  key : ByteArray
  item : Itm
  til : Int
def Ent.none : Ent := ⟨⟨#[]⟩, Itm.none, 0⟩
instance : Inhabited Ent := ⟨Ent.none⟩
/-- is it gone? -/
def goneE (e : Ent) (now : Int) : Bool := decide (e.til ≠ 0 ∧ e.til ≤ now)
def timeT (n : Int) : Bool := decide (0 ≤ n ∧ n ≤ 1000000)
/-- what is wrong with an entry -/
def chkE (e : Ent) : Int := if longT e.key = true then 2 else if chkI e.item ≠ 0 then chkI e.item else if timeT e.til = true then 0 else 3
instance decLessT (a b : ByteArray) : Decidable (lessT a b) := inferInstanceAs (Decidable (a.data.toList < b.data.toList))
/-- does it stand behind? -/
def behindE : Option ByteArray → Ent → Bool
  | none, _ => true
  | some k, e => decide (lessT k e.key)
/-- what is wrong with entries, behind a key -/
def chkFrom : Option ByteArray → List Ent → Int
  | _, [] => 0
  | p, e :: r => if chkE e ≠ 0 then chkE e else if behindE p e = true then chkFrom (some e.key) r else 4
/-- .. with a space -/
def chkSp (s : List Ent) : Int := if 16 < s.length then 2 else chkFrom none s
/-- .. and with what time it is -/
def chkAt (s : List Ent) (now : Int) : Int := if chkSp s ≠ 0 then chkSp s else if timeT now = true then 0 else 3
/-- .. and with a key that is asked for -/
def chkKey (s : List Ent) (now : Int) (key : ByteArray) : Int := if chkAt s now ≠ 0 then chkAt s now else if longT key = true then 2 else 0
/-- the key ahead of a place -/
def aheadE (s : List Ent) (i : Nat) : Option ByteArray := if i = 0 then none else some (s[i - 1]!).key
theorem chkFrom_at (s : List Ent) (i : Nat) (hi : i < s.length) : chkFrom (aheadE s i) (s.drop i) = if chkE s[i] ≠ 0 then chkE s[i] else if behindE (aheadE s i) s[i] = true then chkFrom (aheadE s (i + 1)) (s.drop (i + 1)) else 4 := by
  rw [List.drop_eq_getElem_cons hi, chkFrom]
  have e : aheadE s (i + 1) = some s[i].key := by rw [aheadE, if_neg (by omega)]; simp [hi]
  rw [e]
/-- what a right space has -/
structure SpRight (s : List Ent) : Prop where
  n : s.length ≤ 16
  e : ∀ x ∈ s, chkE x = 0
  r : s.Pairwise fun a b => lessT a.key b.key
theorem chkFrom_right : ∀ (p : Option ByteArray) (s : List Ent), chkFrom p s = 0 → (∀ x ∈ s, chkE x = 0) ∧ (s.Pairwise fun a b => lessT a.key b.key) ∧ ∀ k, p = some k → ∀ x ∈ s, lessT k x.key
  | _, [], _ => ⟨by simp, List.Pairwise.nil, by simp⟩
  | p, e :: r, h => by
    rw [chkFrom] at h
    split at h
    · rename_i h1; exact absurd h h1
    · rename_i h1
      have h1 : chkE e = 0 := by simpa using h1
      split at h
      · rename_i h2
        obtain ⟨a, b, c⟩ := chkFrom_right (some e.key) r h
        have hb := c e.key rfl
        refine ⟨fun x hx => ?_, List.pairwise_cons.2 ⟨hb, b⟩, fun k hk x hx => ?_⟩
        · rcases List.mem_cons.1 hx with rfl | hx
          · exact h1
          · exact a x hx
        · subst hk
          have h3 : lessT k e.key := by simpa [behindE] using h2
          rcases List.mem_cons.1 hx with rfl | hx
          · exact h3
          · exact lessT_trans h3 (hb x hx)
      · cases h
theorem spRight {s : List Ent} (h : chkSp s = 0) : SpRight s := by
  unfold chkSp at h
  split at h
  · cases h
  · rename_i h1
    obtain ⟨a, b, -⟩ := chkFrom_right none s h
    exact ⟨by omega, a, b⟩
theorem chkE_right {e : Ent} (h : chkE e = 0) : e.key.size ≤ 60 ∧ chkI e.item = 0 ∧ 0 ≤ e.til ∧ e.til ≤ 1000000 := by
  unfold chkE at h
  split at h
  · cases h
  · rename_i h1
    split at h
    · rename_i h2; exact absurd h h2
    · rename_i h2
      split at h
      · rename_i h3
        unfold timeT at h3
        have h4 : longT e.key = false := by simpa using h1
        unfold longT at h4
        simp at h3 h4 h2
        exact ⟨by omega, h2, h3.1, h3.2⟩
      · cases h
theorem small_sp {s : List Ent} (h : chkSp s = 0) : s.length ≤ 1000000 := by
  have := (spRight h).n
  omega
theorem small_at {s : List Ent} {now : Int} (h : chkAt s now = 0) : s.length ≤ 1000000 := by
  unfold chkAt at h
  by_cases h1 : chkSp s = 0
  · exact small_sp h1
  · rw [if_pos h1] at h; exact absurd h h1
theorem small_key {s : List Ent} {now : Int} {key : ByteArray} (h : chkKey s now key = 0) : s.length ≤ 1000000 := by
  unfold chkKey at h
  by_cases h1 : chkAt s now = 0
  · exact small_at h1
  · rw [if_pos h1] at h; exact absurd h h1
/-- an entry that lies in memory -/
def EntAt (w : World) (g o : Nat) (e : Ent) : Prop := ∃ a1 c1 a2 c2 a3 c3,
  (w.cell? ⟨g, o, none⟩ = some (.string e.key) ∧ w.cell? ⟨g, o + 1, none⟩ = some (.int .i64 e.item.k) ∧ w.cell? ⟨g, o + 2, none⟩ = some (.string e.item.t) ∧ w.cell? ⟨g, o + 3, none⟩ = some (.slice a1 e.item.l.length c1) ∧ w.cell? ⟨g, o + 4, none⟩ = some (.slice a2 e.item.p.length c2) ∧ w.cell? ⟨g, o + 5, none⟩ = some (.slice a3 e.item.s.length c3) ∧ w.cell? ⟨g, o + 6, none⟩ = some (.int .i64 e.til)) ∧
  ItemIs w (.agg #[.int .i64 e.item.k, .string e.item.t, .slice a1 e.item.l.length c1, .slice a2 e.item.p.length c2, .slice a3 e.item.s.length c3]) e.item
theorem EntAt.below {w w' : World} {g o : Nat} {e : Ent} (h : EntAt w g o e) (hb : Below w.heap.size w w') : EntAt w' g o e := by
  have hm : ∀ g o v, w.cell? ⟨g, o, none⟩ = some v → w'.cell? ⟨g, o, none⟩ = some v := fun g o v hv => (hb.cell (p := ⟨g, o, none⟩) (World.block_lt_of_cell? _ _ hv)).trans hv
  obtain ⟨a1, c1, a2, c2, a3, c3, ⟨h0, h1, h2, h3, h4, h5, h6⟩, hi⟩ := h
  exact ⟨a1, c1, a2, c2, a3, c3, ⟨hm _ _ _ h0, hm _ _ _ h1, hm _ _ _ h2, hm _ _ _ h3, hm _ _ _ h4, hm _ _ _ h5, hm _ _ _ h6⟩, hi.below hb⟩
/-- a space that lies in memory -/
def SpaceAt (w : World) (a : Option Addr) (s : List Ent) : Prop := s = [] ∨ ∃ g o, a = some ⟨g, o, none⟩ ∧ ∀ i (h : i < s.length), EntAt w g (o + i * 7) s[i]
theorem SpaceAt.below {w w' : World} {a : Option Addr} {s : List Ent} (h : SpaceAt w a s) (hb : Below w.heap.size w w') : SpaceAt w' a s := by
  rcases h with h | ⟨g, o, ha, hc⟩
  · exact .inl h
  · exact .inr ⟨g, o, ha, fun i hi => (hc i hi).below hb⟩
/-- an entry as a value -/
def EntIs (w : World) (v : Value) (e : Ent) : Prop := ∃ a1 c1 a2 c2 a3 c3,
  v = .agg #[.string e.key, .int .i64 e.item.k, .string e.item.t, .slice a1 e.item.l.length c1, .slice a2 e.item.p.length c2, .slice a3 e.item.s.length c3, .int .i64 e.til] ∧
  ItemIs w (.agg #[.int .i64 e.item.k, .string e.item.t, .slice a1 e.item.l.length c1, .slice a2 e.item.p.length c2, .slice a3 e.item.s.length c3]) e.item
theorem EntIs.below {w w' : World} {v : Value} {e : Ent} (h : EntIs w v e) (hb : Below w.heap.size w w') : EntIs w' v e := by
  obtain ⟨a1, c1, a2, c2, a3, c3, h0, hi⟩ := h
  exact ⟨a1, c1, a2, c2, a3, c3, h0, hi.below hb⟩
end Go.Proofs.YtmaancidkpfopaaGreatDoor

/- Boxes of five cells, and what becomes of them. -/
namespace Go.Proofs.YtmaancidkpfopaaGreatDoor
open Go.RowKit

/-- five cells lie in a block -/
structure BoxAt (w : World) (b : Nat) (v0 v1 v2 v3 v4 : Value) : Prop where
  c0 : w.cell? ⟨b, 0, none⟩ = some v0
  c1 : w.cell? ⟨b, 1, none⟩ = some v1
  c2 : w.cell? ⟨b, 2, none⟩ = some v2
  c3 : w.cell? ⟨b, 3, none⟩ = some v3
  c4 : w.cell? ⟨b, 4, none⟩ = some v4
  lt : b < w.heap.size
theorem BoxAt.below {w w' : World} {b : Nat} {v0 v1 v2 v3 v4 : Value} (h : BoxAt w b v0 v1 v2 v3 v4) (hb : Below w.heap.size w w') : BoxAt w' b v0 v1 v2 v3 v4 :=
  ⟨(hb.cell (p := ⟨b, 0, none⟩) h.lt).trans h.c0, (hb.cell (p := ⟨b, 1, none⟩) h.lt).trans h.c1, (hb.cell (p := ⟨b, 2, none⟩) h.lt).trans h.c2, (hb.cell (p := ⟨b, 3, none⟩) h.lt).trans h.c3, (hb.cell (p := ⟨b, 4, none⟩) h.lt).trans h.c4, Nat.lt_of_lt_of_le h.lt hb.size⟩
theorem BoxAt.alloc {w : World} {b : Nat} {v0 v1 v2 v3 v4 : Value} (h : BoxAt w b v0 v1 v2 v3 v4) (o : Obj) : BoxAt (w.alloc o) b v0 v1 v2 v3 v4 :=
  h.below ((Below.refl _ _).alloc (Nat.le_refl _) _)
theorem BoxAt.new (w : World) (v0 v1 v2 v3 v4 : Value) (T : TypeId) : BoxAt (w.alloc (.cells #[v0, v1, v2, v3, v4] T)) w.heap.size v0 v1 v2 v3 v4 :=
  ⟨by simp [go_sem], by simp [go_sem], by simp [go_sem], by simp [go_sem], by simp [go_sem], by simp⟩
theorem BoxAt.drewN {w : World} {b : Nat} {v0 v1 v2 v3 v4 : Value} (h : BoxAt w b v0 v1 v2 v3 v4) (n : Nat) : BoxAt (w.drewN n) b v0 v1 v2 v3 v4 :=
  ⟨h.c0, h.c1, h.c2, h.c3, h.c4, h.lt⟩
end Go.Proofs.YtmaancidkpfopaaGreatDoor

/- An item as new memory: common.Copy. -/
namespace Go.Proofs.YtmaancidkpfopaaGreatDoor
open Go.RowKit

theorem slice_ownY {w : World} {b e s : Nat} {v : Value} {n : Nat} {xs : List Value} (h : w.ownsRow b e s v n xs) : ∃ ao cp, v = .slice ao n cp := by
  rcases h.2 with ⟨rfl, rfl⟩ | ⟨g, cap, cur, rfl, _⟩
  · exact ⟨none, 0, rfl⟩
  · exact ⟨_, _, rfl⟩
/-- an item whose lists lie in memory of its own, from a block on -/
def OwnItem (B : Nat) (w : World) (v : Value) (x : Itm) : Prop := ∃ a1 c1 a2 c2 a3 c3,
  v = .agg #[.int .i64 x.k, .string x.t, .slice a1 x.l.length c1, .slice a2 x.p.length c2, .slice a3 x.s.length c3] ∧
  w.ownsRow B 9 1 (.slice a1 x.l.length c1) x.l.length (YT.strs x.l) ∧ w.ownsRow B 70 2 (.slice a2 x.p.length c2) x.p.length (YP.rowP x.p) ∧ w.ownsRow B 72 2 (.slice a3 x.s.length c3) x.s.length (YS.rowP x.s)
theorem row_keptY {B B2 T s : Nat} {w w' : World} {v : Value} {n : Nat} {xs : List Value} (h : w.ownsRow B T s v n xs) {S : Nat → Prop} (hk : Kept S w w') (hb : B2 ≤ B) (hT : T ≠ 42)
    (hS : ∀ k cs T, B ≤ k → w.heap[k]? = some (.cells cs T (0, 0)) → T ≠ 42 → ¬ S k) : w'.ownsRow B2 T s v n xs := by
  have hlt : ∀ {k : Nat} {o : Obj}, w.heap[k]? = some o → k < w.heap.size := fun {k o} hx => by
    rcases Nat.lt_or_ge k w.heap.size with h | h
    · exact h
    · rw [Array.getElem?_eq_none (by simpa using h)] at hx; simp at hx
  refine ⟨h.1, ?_⟩
  rcases h.2 with hn | ⟨g, cp, cur, e1, e2, e3, rest⟩
  · exact .inl hn
  · exact .inr ⟨g, cp, cur, e1, by omega, (hk.block g (hlt e3) (hS g _ T e2 e3 hT)).trans e3, rest⟩
theorem row_belowY {B T s : Nat} {w w' : World} {v : Value} {n : Nat} {xs : List Value} (h : w.ownsRow B T s v n xs) (hb : Below w.heap.size w w') : w'.ownsRow B T s v n xs := by
  refine ⟨h.1, ?_⟩
  rcases h.2 with hn | ⟨g, cp, cur, e1, e2, e3, rest⟩
  · exact .inl hn
  · exact .inr ⟨g, cp, cur, e1, e2, (hb.block g (Array.getElem?_eq_some_iff.1 e3).1).trans e3, rest⟩
theorem row_lowY {B B2 T s : Nat} {w : World} {v : Value} {n : Nat} {xs : List Value} (h : w.ownsRow B T s v n xs) (hb : B2 ≤ B) : w.ownsRow B2 T s v n xs := by
  refine ⟨h.1, ?_⟩
  rcases h.2 with hn | ⟨g, cp, cur, e1, e2, rest⟩
  · exact .inl hn
  · exact .inr ⟨g, cp, cur, e1, by omega, rest⟩
theorem setCell_heapY {w : World} {g : Nat} {cs : Array Value} {T : Nat} {fr : Nat × Nat} (h : w.heap[g]? = some (.cells cs T fr)) (o : Nat) (u : Value) : (w.setCell ⟨g, o, none⟩ u).heap[g]? = some (.cells (cs.setIfInBounds o u) T fr) := by
  simp [World.setCell, Array.getElem?_modify, h]
theorem allocY_new (w : World) (o : Obj) : (w.alloc o).heap[w.heap.size]? = some o := by
  show (w.heap.push o)[w.heap.size]? = some o
  simp
theorem OwnItem.kept {B B2 : Nat} {w w' : World} {v : Value} {x : Itm} (h : OwnItem B w v x) {S : Nat → Prop} (hk : Kept S w w') (hb : B2 ≤ B)
    (hS : ∀ k cs T, B ≤ k → w.heap[k]? = some (.cells cs T (0, 0)) → T ≠ 42 → ¬ S k) : OwnItem B2 w' v x := by
  obtain ⟨a1, c1, a2, c2, a3, c3, h0, h1, h2, h3⟩ := h
  exact ⟨a1, c1, a2, c2, a3, c3, h0, row_keptY h1 hk hb (by decide) hS, row_keptY h2 hk hb (by decide) hS, row_keptY h3 hk hb (by decide) hS⟩

set_option maxRecDepth 100000 in
set_option maxHeartbeats 4000000 in
theorem copy_any (v : Value) (x : Itm) (w : World) (h : ItemIs w v x) (hl : x.l.length ≤ 1000000) (hp : x.p.length ≤ 1000000) (hs : x.s.length ≤ 1000000) :
    Calls Tryz.prog 26 #[v] w fun e w' => ∃ v', e = .returned v' ∧ OwnItem w.heap.size w' v' x ∧ Below w.heap.size w w' := by
  obtain ⟨a1, c1, a2, c2, a3, c3, rfl, h1, h2, h3⟩ := h.ex
  have H1 : Hid (∀ W, Below w.heap.size w W → Calls Tryz.prog 41 #[.slice a1 x.l.length c1] W fun e w' => ∃ v, e = .returned v ∧ w'.ownsRow W.heap.size 9 1 v x.l.length (YT.strs x.l) ∧ Below W.heap.size W w') := fun W hW => YT.cloneP_any a1 c1 x.l W (h1.below hW) hl
  have H2 : Hid (∀ W, Below w.heap.size w W → Calls Tryz.prog 42 #[.slice a2 x.p.length c2] W fun e w' => ∃ v, e = .returned v ∧ w'.ownsRow W.heap.size 70 2 v x.p.length (YP.rowP x.p) ∧ Below W.heap.size W w') := fun W hW => YP.cloneP_any a2 c2 x.p W (h2.below hW) hp
  have H3 : Hid (∀ W, Below w.heap.size w W → Calls Tryz.prog 43 #[.slice a3 x.s.length c3] W fun e w' => ∃ v, e = .returned v ∧ w'.ownsRow W.heap.size 72 2 v x.s.length (YS.rowP x.s) ∧ Below W.heap.size W w') := fun W hW => YS.cloneP_any a3 c3 x.s W (h3.below hW) hs
  clear h1 h2 h3
  obtain ⟨k, hk⟩ : ∃ k, x.k = k := ⟨_, rfl⟩
  obtain ⟨t, ht⟩ : ∃ t, x.t = t := ⟨_, rfl⟩
  rw [hk, ht]
  have HKT := hide (And.intro hk ht)
  clear hk ht
  obtain ⟨W1, hW1⟩ : ∃ W1, (w.alloc (.cells #[.int .i64 k, .string t, .slice a1 x.l.length c1, .slice a2 x.p.length c2, .slice a3 x.s.length c3] 40)).alloc (.cells #[.int .i64 0, .string ⟨#[]⟩, .slice none 0 0, .slice none 0 0, .slice none 0 0] 40) = W1 := ⟨_, rfl⟩
  have HB : Below w.heap.size w W1 := hW1 ▸ ((Below.refl _ w).alloc (Nat.le_refl _) _).alloc (by simp) _
  have HH : W1.heap[w.heap.size]? = some (.cells #[.int .i64 k, .string t, .slice a1 x.l.length c1, .slice a2 x.p.length c2, .slice a3 x.s.length c3] 40 (0, 0)) := by
    rw [← hW1]
    have h1 := allocY_new w (.cells #[.int .i64 k, .string t, .slice a1 x.l.length c1, .slice a2 x.p.length c2, .slice a3 x.s.length c3] 40)
    exact (((Below.refl _ _).alloc (Nat.le_refl _) _ : Below _ _ _).block _ (Array.getElem?_eq_some_iff.1 h1).1).trans h1
  have HR : W1.heap[w.heap.size + 1]? = some (.cells #[.int .i64 0, .string ⟨#[]⟩, .slice none 0 0, .slice none 0 0, .slice none 0 0] 40 (0, 0)) := by
    rw [← hW1]
    have h1 := allocY_new (w.alloc (.cells #[.int .i64 k, .string t, .slice a1 x.l.length c1, .slice a2 x.p.length c2, .slice a3 x.s.length c3] 40)) (.cells #[.int .i64 0, .string ⟨#[]⟩, .slice none 0 0, .slice none 0 0, .slice none 0 0] 40)
    rwa [World.size_alloc] at h1
  have q2 : W1.cell? ⟨w.heap.size, 2, none⟩ = some (.slice a1 x.l.length c1) := by simp [World.cell?, HH]
  have z1 : w.heap.size < W1.heap.size := (Array.getElem?_eq_some_iff.1 HH).1
  have z2 : w.heap.size + 1 < W1.heap.size := (Array.getElem?_eq_some_iff.1 HR).1
  go_enter Tryz.func26, Tryz.ntmps26
  go_wp2_with fail
  refine (H1.out W1 HB).mono ?_
  rintro e V1 ⟨u1, rfl, ho1, hb1⟩
  obtain ⟨b1, d1, rfl⟩ := slice_ownY ho1
  have G1 := (hb1.block _ z1).trans HH
  have R1 := (hb1.block _ z2).trans HR
  have y1 : w.heap.size < V1.heap.size := (Array.getElem?_eq_some_iff.1 G1).1
  have yy1 : w.heap.size + 1 < V1.heap.size := (Array.getElem?_eq_some_iff.1 R1).1
  have B1 : Below w.heap.size w V1 := HB.trans (hb1.mono HB.size)
  have cc : V1.cell? ⟨w.heap.size, 2, none⟩ = some (.slice a1 x.l.length c1) := by simp [World.cell?, G1]
  have ff : V1.frozen? ⟨w.heap.size, 2, none⟩ = false := by simp [World.frozen?, G1]
  have K1 : Kept (one w.heap.size) V1 (V1.setCell ⟨w.heap.size, 2, none⟩ (.slice b1 x.l.length d1)) := (Kept.refl (one w.heap.size) V1).set1 2 _
  have P1 : (V1.setCell ⟨w.heap.size, 2, none⟩ (.slice b1 x.l.length d1)).heap[w.heap.size]? = some (.cells #[.int .i64 k, .string t, .slice b1 x.l.length d1, .slice a2 x.p.length c2, .slice a3 x.s.length c3] 40 (0, 0)) := by rw [setCell_heapY G1]; rfl
  have Q1 : (V1.setCell ⟨w.heap.size, 2, none⟩ (.slice b1 x.l.length d1)).heap[w.heap.size + 1]? = some (.cells #[.int .i64 0, .string ⟨#[]⟩, .slice none 0 0, .slice none 0 0, .slice none 0 0] 40 (0, 0)) := (K1.block _ yy1 (by simp [one])).trans R1
  have CB1 : Below w.heap.size w (V1.setCell ⟨w.heap.size, 2, none⟩ (.slice b1 x.l.length d1)) := B1.setCell (p := ⟨w.heap.size, 2, none⟩) (Nat.le_refl _) _
  have kz1 : W1.heap.size ≤ V1.heap.size := hb1.size
  have o1 : (V1.setCell ⟨w.heap.size, 2, none⟩ (.slice b1 x.l.length d1)).ownsRow W1.heap.size 9 1 (.slice b1 x.l.length d1) x.l.length (YT.strs x.l) := K1.owns ho1 (fun j hj e => by have := (ho1.lt j hj).1; simp only [one] at e; omega)
  obtain ⟨W2, hW2⟩ : ∃ W', V1.setCell ⟨w.heap.size, 2, none⟩ (.slice b1 x.l.length d1) = W' := ⟨_, rfl⟩
  rw [hW2] at K1 P1 Q1 CB1 o1
  have z11 : w.heap.size < W2.heap.size := (Array.getElem?_eq_some_iff.1 P1).1
  have z21 : w.heap.size + 1 < W2.heap.size := (Array.getElem?_eq_some_iff.1 Q1).1
  have q3 : W2.cell? ⟨w.heap.size, 3, none⟩ = some (.slice a2 x.p.length c2) := by simp [World.cell?, P1]
  go_wp2_with fail
  refine (H2.out W2 CB1).mono ?_
  rintro e V2 ⟨u2, rfl, ho2, hb2⟩
  obtain ⟨b2, d2, rfl⟩ := slice_ownY ho2
  have G2 := (hb2.block _ z11).trans P1
  have R2 := (hb2.block _ z21).trans Q1
  have y2 : w.heap.size < V2.heap.size := (Array.getElem?_eq_some_iff.1 G2).1
  have yy2 : w.heap.size + 1 < V2.heap.size := (Array.getElem?_eq_some_iff.1 R2).1
  have B2 : Below w.heap.size w V2 := CB1.trans (hb2.mono CB1.size)
  have cc : V2.cell? ⟨w.heap.size, 3, none⟩ = some (.slice a2 x.p.length c2) := by simp [World.cell?, G2]
  have ff : V2.frozen? ⟨w.heap.size, 3, none⟩ = false := by simp [World.frozen?, G2]
  have K2 : Kept (one w.heap.size) V2 (V2.setCell ⟨w.heap.size, 3, none⟩ (.slice b2 x.p.length d2)) := (Kept.refl (one w.heap.size) V2).set1 3 _
  have P2 : (V2.setCell ⟨w.heap.size, 3, none⟩ (.slice b2 x.p.length d2)).heap[w.heap.size]? = some (.cells #[.int .i64 k, .string t, .slice b1 x.l.length d1, .slice b2 x.p.length d2, .slice a3 x.s.length c3] 40 (0, 0)) := by rw [setCell_heapY G2]; rfl
  have Q2 : (V2.setCell ⟨w.heap.size, 3, none⟩ (.slice b2 x.p.length d2)).heap[w.heap.size + 1]? = some (.cells #[.int .i64 0, .string ⟨#[]⟩, .slice none 0 0, .slice none 0 0, .slice none 0 0] 40 (0, 0)) := (K2.block _ yy2 (by simp [one])).trans R2
  have CB2 : Below w.heap.size w (V2.setCell ⟨w.heap.size, 3, none⟩ (.slice b2 x.p.length d2)) := B2.setCell (p := ⟨w.heap.size, 3, none⟩) (Nat.le_refl _) _
  have kz2 : W2.heap.size ≤ V2.heap.size := hb2.size
  have o2 : (V2.setCell ⟨w.heap.size, 3, none⟩ (.slice b2 x.p.length d2)).ownsRow W2.heap.size 70 2 (.slice b2 x.p.length d2) x.p.length (YP.rowP x.p) := K2.owns ho2 (fun j hj e => by have := (ho2.lt j hj).1; simp only [one] at e; omega)
  have o1 := (K2.owns (row_belowY o1 hb2) (fun j hj e => by have := (o1.lt j hj).1; simp only [one] at e; omega))
  obtain ⟨W3, hW3⟩ : ∃ W', V2.setCell ⟨w.heap.size, 3, none⟩ (.slice b2 x.p.length d2) = W' := ⟨_, rfl⟩
  rw [hW3] at K2 P2 Q2 CB2 o1 o2
  have z12 : w.heap.size < W3.heap.size := (Array.getElem?_eq_some_iff.1 P2).1
  have z22 : w.heap.size + 1 < W3.heap.size := (Array.getElem?_eq_some_iff.1 Q2).1
  have q4 : W3.cell? ⟨w.heap.size, 4, none⟩ = some (.slice a3 x.s.length c3) := by simp [World.cell?, P2]
  go_wp2_with fail
  refine (H3.out W3 CB2).mono ?_
  rintro e V3 ⟨u3, rfl, ho3, hb3⟩
  obtain ⟨b3, d3, rfl⟩ := slice_ownY ho3
  have G3 := (hb3.block _ z12).trans P2
  have R3 := (hb3.block _ z22).trans Q2
  have y3 : w.heap.size < V3.heap.size := (Array.getElem?_eq_some_iff.1 G3).1
  have yy3 : w.heap.size + 1 < V3.heap.size := (Array.getElem?_eq_some_iff.1 R3).1
  have B3 : Below w.heap.size w V3 := CB2.trans (hb3.mono CB2.size)
  have cc : V3.cell? ⟨w.heap.size, 4, none⟩ = some (.slice a3 x.s.length c3) := by simp [World.cell?, G3]
  have ff : V3.frozen? ⟨w.heap.size, 4, none⟩ = false := by simp [World.frozen?, G3]
  have K3 : Kept (one w.heap.size) V3 (V3.setCell ⟨w.heap.size, 4, none⟩ (.slice b3 x.s.length d3)) := (Kept.refl (one w.heap.size) V3).set1 4 _
  have P3 : (V3.setCell ⟨w.heap.size, 4, none⟩ (.slice b3 x.s.length d3)).heap[w.heap.size]? = some (.cells #[.int .i64 k, .string t, .slice b1 x.l.length d1, .slice b2 x.p.length d2, .slice b3 x.s.length d3] 40 (0, 0)) := by rw [setCell_heapY G3]; rfl
  have Q3 : (V3.setCell ⟨w.heap.size, 4, none⟩ (.slice b3 x.s.length d3)).heap[w.heap.size + 1]? = some (.cells #[.int .i64 0, .string ⟨#[]⟩, .slice none 0 0, .slice none 0 0, .slice none 0 0] 40 (0, 0)) := (K3.block _ yy3 (by simp [one])).trans R3
  have CB3 : Below w.heap.size w (V3.setCell ⟨w.heap.size, 4, none⟩ (.slice b3 x.s.length d3)) := B3.setCell (p := ⟨w.heap.size, 4, none⟩) (Nat.le_refl _) _
  have kz3 : W3.heap.size ≤ V3.heap.size := hb3.size
  have o3 : (V3.setCell ⟨w.heap.size, 4, none⟩ (.slice b3 x.s.length d3)).ownsRow W3.heap.size 72 2 (.slice b3 x.s.length d3) x.s.length (YS.rowP x.s) := K3.owns ho3 (fun j hj e => by have := (ho3.lt j hj).1; simp only [one] at e; omega)
  have o1 := (K3.owns (row_belowY o1 hb3) (fun j hj e => by have := (o1.lt j hj).1; simp only [one] at e; omega))
  have o2 := (K3.owns (row_belowY o2 hb3) (fun j hj e => by have := (o2.lt j hj).1; simp only [one] at e; omega))
  obtain ⟨W4, hW4⟩ : ∃ W', V3.setCell ⟨w.heap.size, 4, none⟩ (.slice b3 x.s.length d3) = W' := ⟨_, rfl⟩
  rw [hW4] at K3 P3 Q3 CB3 o1 o2 o3
  have z13 : w.heap.size < W4.heap.size := (Array.getElem?_eq_some_iff.1 P3).1
  have z23 : w.heap.size + 1 < W4.heap.size := (Array.getElem?_eq_some_iff.1 Q3).1
  have r0 : W4.cell? ⟨w.heap.size, 0, none⟩ = some (.int .i64 k) := by simp [World.cell?, P3]
  have r1 : W4.cell? ⟨w.heap.size, 1, none⟩ = some (.string t) := by simp [World.cell?, P3]
  have r2 : W4.cell? ⟨w.heap.size, 2, none⟩ = some (.slice b1 x.l.length d1) := by simp [World.cell?, P3]
  have r3 : W4.cell? ⟨w.heap.size, 3, none⟩ = some (.slice b2 x.p.length d2) := by simp [World.cell?, P3]
  have r4 : W4.cell? ⟨w.heap.size, 4, none⟩ = some (.slice b3 x.s.length d3) := by simp [World.cell?, P3]
  have s0 : W4.cell? ⟨w.heap.size + 1, 0, none⟩ = some (.int .i64 0) := by simp [World.cell?, Q3]
  have s1 : W4.cell? ⟨w.heap.size + 1, 1, none⟩ = some (.string ⟨#[]⟩) := by simp [World.cell?, Q3]
  have s2 : W4.cell? ⟨w.heap.size + 1, 2, none⟩ = some (.slice none 0 0) := by simp [World.cell?, Q3]
  have s3 : W4.cell? ⟨w.heap.size + 1, 3, none⟩ = some (.slice none 0 0) := by simp [World.cell?, Q3]
  have s4 : W4.cell? ⟨w.heap.size + 1, 4, none⟩ = some (.slice none 0 0) := by simp [World.cell?, Q3]
  have f0 : W4.frozen? ⟨w.heap.size + 1, 0, none⟩ = false := by simp [World.frozen?, Q3]
  have f1 : W4.frozen? ⟨w.heap.size + 1, 1, none⟩ = false := by simp [World.frozen?, Q3]
  have f2 : W4.frozen? ⟨w.heap.size + 1, 2, none⟩ = false := by simp [World.frozen?, Q3]
  have f3 : W4.frozen? ⟨w.heap.size + 1, 3, none⟩ = false := by simp [World.frozen?, Q3]
  have f4 : W4.frozen? ⟨w.heap.size + 1, 4, none⟩ = false := by simp [World.frozen?, Q3]
  go_wp2_with fail
  have hH : (((((W4.setCell ⟨w.heap.size + 1, 0, none⟩ (.int .i64 k)).setCell ⟨w.heap.size + 1, 1, none⟩ (.string t)).setCell ⟨w.heap.size + 1, 2, none⟩ (.slice b1 x.l.length d1)).setCell ⟨w.heap.size + 1, 3, none⟩ (.slice b2 x.p.length d2)).setCell ⟨w.heap.size + 1, 4, none⟩ (.slice b3 x.s.length d3)).heap[w.heap.size + 1]? = some (.cells #[.int .i64 k, .string t, .slice b1 x.l.length d1, .slice b2 x.p.length d2, .slice b3 x.s.length d3] 40 (0, 0)) := by
    rw [setCell_heapY (setCell_heapY (setCell_heapY (setCell_heapY (setCell_heapY Q3 0 _) 1 _) 2 _) 3 _) 4 _]; rfl
  have hK : Kept (one (w.heap.size + 1)) W4 (((((W4.setCell ⟨w.heap.size + 1, 0, none⟩ (.int .i64 k)).setCell ⟨w.heap.size + 1, 1, none⟩ (.string t)).setCell ⟨w.heap.size + 1, 2, none⟩ (.slice b1 x.l.length d1)).setCell ⟨w.heap.size + 1, 3, none⟩ (.slice b2 x.p.length d2)).setCell ⟨w.heap.size + 1, 4, none⟩ (.slice b3 x.s.length d3)) := (((((Kept.refl (one (w.heap.size + 1)) W4).set1 0 _).set1 1 _).set1 2 _).set1 3 _).set1 4 _
  have hB : Below w.heap.size w (((((W4.setCell ⟨w.heap.size + 1, 0, none⟩ (.int .i64 k)).setCell ⟨w.heap.size + 1, 1, none⟩ (.string t)).setCell ⟨w.heap.size + 1, 2, none⟩ (.slice b1 x.l.length d1)).setCell ⟨w.heap.size + 1, 3, none⟩ (.slice b2 x.p.length d2)).setCell ⟨w.heap.size + 1, 4, none⟩ (.slice b3 x.s.length d3)) := ((((CB3.setCell (p := ⟨w.heap.size + 1, 0, none⟩) (Nat.le_succ _) _).setCell (p := ⟨w.heap.size + 1, 1, none⟩) (Nat.le_succ _) _).setCell (p := ⟨w.heap.size + 1, 2, none⟩) (Nat.le_succ _) _).setCell (p := ⟨w.heap.size + 1, 3, none⟩) (Nat.le_succ _) _).setCell (p := ⟨w.heap.size + 1, 4, none⟩) (Nat.le_succ _) _
  obtain ⟨W5, hW5⟩ : ∃ W5, ((((W4.setCell ⟨w.heap.size + 1, 0, none⟩ (.int .i64 k)).setCell ⟨w.heap.size + 1, 1, none⟩ (.string t)).setCell ⟨w.heap.size + 1, 2, none⟩ (.slice b1 x.l.length d1)).setCell ⟨w.heap.size + 1, 3, none⟩ (.slice b2 x.p.length d2)).setCell ⟨w.heap.size + 1, 4, none⟩ (.slice b3 x.s.length d3) = W5 := ⟨_, rfl⟩
  rw [hW5] at hH hK hB ⊢
  clear hW5
  have p0 : W5.cell? ⟨w.heap.size + 1, 0, none⟩ = some (.int .i64 k) := by simp [World.cell?, hH]
  have p1 : W5.cell? ⟨w.heap.size + 1, 1, none⟩ = some (.string t) := by simp [World.cell?, hH]
  have p2 : W5.cell? ⟨w.heap.size + 1, 2, none⟩ = some (.slice b1 x.l.length d1) := by simp [World.cell?, hH]
  have p3 : W5.cell? ⟨w.heap.size + 1, 3, none⟩ = some (.slice b2 x.p.length d2) := by simp [World.cell?, hH]
  have p4 : W5.cell? ⟨w.heap.size + 1, 4, none⟩ = some (.slice b3 x.s.length d3) := by simp [World.cell?, hH]
  have y4 : w.heap.size + 1 < W1.heap.size := z2
  refine bodyPost_ret (v := .agg #[.int .i64 k, .string t, .slice b1 x.l.length d1, .slice b2 x.p.length d2, .slice b3 x.s.length d3]) (by simp [results, Tryz.results26, go_sem, p0, p1, p2, p3, p4]) rfl ⟨_, rfl, ⟨b1, d1, b2, d2, b3, d3, by rw [HKT.out.1, HKT.out.2], ?_, ?_, ?_⟩, hB⟩
  · exact row_lowY (hK.owns o1 (fun j hj e => by have := (o1.lt j hj).1; simp only [one] at e; omega)) (by omega)
  · exact row_lowY (hK.owns o2 (fun j hj e => by have := (o2.lt j hj).1; simp only [one] at e; omega)) (by omega)
  · exact row_lowY (hK.owns o3 (fun j hj e => by have := (o3.lt j hj).1; simp only [one] at e; omega)) (by omega)
end Go.Proofs.YtmaancidkpfopaaGreatDoor

/- WALKS of spaces: what is wrong with an entry, a space, a time, a key; what is gone. -/
namespace Go.Proofs.YtmaancidkpfopaaGreatDoor
open Go.RowKit

theorem longY_below (t : ByteArray) (w : World) : Calls Tryz.prog 28 #[.string t] w fun e w' => e = .returned (.bool (longT t)) ∧ w' = w := by
  have h : decide ((60 : Int) < ((t.size : Nat) : Int)) = longT t := by unfold longT; simp; omega
  go_enter Tryz.func28, Tryz.ntmps28
  go_wp2_with fail
  go_ret
  exact ⟨by rw [← h]; rfl, rfl⟩
theorem timeY_any (n : Int) (w : World) : Calls Tryz.prog 11 #[.int .i64 n] w fun e w' => e = .returned (.bool (timeT n)) ∧ w' = w := by
  by_cases h1 : 0 ≤ n
  · have hv : timeT n = decide (n ≤ 1000000) := by simp [timeT, h1]
    rw [hv]
    clear hv
    go_enter Tryz.func11, Tryz.ntmps11
    go_wp2_with fail
    go_ret
    exact ⟨rfl, rfl⟩
  · have hv : timeT n = false := by simp [timeT, h1]
    rw [hv]
    clear hv
    go_enter Tryz.func11, Tryz.ntmps11
    go_wp2_with fail
    go_ret
    exact ⟨rfl, rfl⟩
set_option maxRecDepth 100000 in
theorem isGone_any (v : Value) (x : Ent) (now : Int) (w : World) (h : EntIs w v x) : Calls Tryz.prog 157 #[v, .int .i64 now] w fun e w' => e = .returned (.bool (goneE x now)) ∧ Below w.heap.size w w' := by
  obtain ⟨a1, c1, a2, c2, a3, c3, rfl, -⟩ := h
  by_cases h0 : x.til = 0
  · have hv : goneE x now = false := by simp [goneE, h0]
    rw [hv, h0]
    clear hv h0
    go_enter Tryz.func157, Tryz.ntmps157
    go_wp2_with fail
    go_ret
    exact ⟨rfl, (Below.refl _ w).alloc (Nat.le_refl _) _⟩
  · have hv : goneE x now = decide (x.til ≤ now) := by simp [goneE, h0]
    rw [hv]
    clear hv
    generalize x.til = T at *
    go_enter Tryz.func157, Tryz.ntmps157
    go_wp2_with fail
    go_ret
    refine ⟨?_, (Below.refl _ w).alloc (Nat.le_refl _) _⟩
    simp [h0]
set_option maxRecDepth 100000 in
set_option maxHeartbeats 2000000 in
theorem checkEntry_any (v : Value) (x : Ent) (w : World) (h : EntIs w v x) : Calls Tryz.prog 18 #[v] w fun e w' => e = .returned (.int .i64 (chkE x)) ∧ Below w.heap.size w w' := by
  obtain ⟨a1, c1, a2, c2, a3, c3, rfl, hi⟩ := h
  have HO : Hid (∀ W, Calls Tryz.prog 28 #[.string x.key] W fun e w' => e = .returned (.bool (longT x.key)) ∧ w' = W) := fun W => longY_below _ W
  have HI : Hid (∀ W, Below w.heap.size w W → Calls Tryz.prog 29 #[.agg #[.int .i64 x.item.k, .string x.item.t, .slice a1 x.item.l.length c1, .slice a2 x.item.p.length c2, .slice a3 x.item.s.length c3]] W fun e w' => e = .returned (.int .i64 (chkI x.item)) ∧ Below W.heap.size W w') := fun W hW => check_any _ x.item W (hi.below hW)
  have HT : Hid (∀ W, Calls Tryz.prog 11 #[.int .i64 x.til] W fun e w' => e = .returned (.bool (timeT x.til)) ∧ w' = W) := fun W => timeY_any _ W
  clear hi
  unfold chkE
  generalize chkI x.item = CI at *
  generalize timeT x.til = TT at *
  generalize longT x.key = LT at *
  generalize x.key = K at *
  generalize x.til = T at *
  generalize x.item.k = k at *
  generalize x.item.t = t at *
  generalize x.item.l.length = n1 at *
  generalize x.item.p.length = n2 at *
  generalize x.item.s.length = n3 at *
  cases LT with
  | true =>
    rw [if_pos rfl]
    go_enter Tryz.func18, Tryz.ntmps18
    go_wp2_with fail
    refine (HO.out _).mono ?_
    rintro e w1 ⟨rfl, rfl⟩
    go_wp2_with fail
    go_ret
    exact ⟨rfl, (Below.refl _ w).alloc (Nat.le_refl _) _⟩
  | false =>
    rw [if_neg (by decide)]
    have C0 : Below w.heap.size w (w.alloc (.cells #[.string K, .int .i64 k, .string t, .slice a1 n1 c1, .slice a2 n2 c2, .slice a3 n3 c3, .int .i64 T] 42)) := (Below.refl _ w).alloc (Nat.le_refl _) _
    by_cases hc : CI = 0
    · rw [if_neg (by simp [hc])]
      rw [hc] at HI
      clear hc
      cases TT with
      | true =>
        rw [if_pos rfl]
        go_enter Tryz.func18, Tryz.ntmps18
        go_wp2_with fail
        refine (HO.out _).mono ?_
        rintro e w1 ⟨rfl, rfl⟩
        go_wp2_with fail
        refine (HI.out _ C0).mono ?_
        rintro e w2 ⟨rfl, hb2⟩
        obtain ⟨hc, hf⟩ := bcell hb2
        have C2 := C0.trans (hb2.mono C0.size)
        have q6 : w2.cell? ⟨w.heap.size, 6, none⟩ = some (.int .i64 T) := (hc _ _ (by simp)).trans (by simp [go_sem])
        clear hc hf hb2
        go_wp2_with fail
        refine (HT.out _).mono ?_
        rintro e w3 ⟨rfl, rfl⟩
        go_wp2_with fail
        go_ret
        exact ⟨rfl, C2⟩
      | false =>
        rw [if_neg (by decide)]
        go_enter Tryz.func18, Tryz.ntmps18
        go_wp2_with fail
        refine (HO.out _).mono ?_
        rintro e w1 ⟨rfl, rfl⟩
        go_wp2_with fail
        refine (HI.out _ C0).mono ?_
        rintro e w2 ⟨rfl, hb2⟩
        obtain ⟨hc, hf⟩ := bcell hb2
        have C2 := C0.trans (hb2.mono C0.size)
        have q6 : w2.cell? ⟨w.heap.size, 6, none⟩ = some (.int .i64 T) := (hc _ _ (by simp)).trans (by simp [go_sem])
        clear hc hf hb2
        go_wp2_with fail
        refine (HT.out _).mono ?_
        rintro e w3 ⟨rfl, rfl⟩
        go_wp2_with fail
        go_ret
        exact ⟨rfl, C2⟩
    · rw [if_pos hc]
      have hc' : (CI == 0) = false := by rw [beq_eq_false_iff_ne]; exact hc
      clear hc
      go_enter Tryz.func18, Tryz.ntmps18
      go_wp2_with fail
      refine (HO.out _).mono ?_
      rintro e w1 ⟨rfl, rfl⟩
      go_wp2_with fail
      refine (HI.out _ C0).mono ?_
      rintro e w2 ⟨rfl, hb2⟩
      have C2 := C0.trans (hb2.mono C0.size)
      go_wp2_with fail
      go_ret
      exact ⟨rfl, C2⟩
end Go.Proofs.YtmaancidkpfopaaGreatDoor

/- A space as new memory. -/
namespace Go.Proofs.YtmaancidkpfopaaGreatDoor
open Go.RowKit

abbrev Sls := (Option Addr × Nat) × (Option Addr × Nat) × (Option Addr × Nat)
def itemV (x : Itm) (q : Sls) : Value := .agg #[.int .i64 x.k, .string x.t, .slice q.1.1 x.l.length q.1.2, .slice q.2.1.1 x.p.length q.2.1.2, .slice q.2.2.1 x.s.length q.2.2.2]
def cellsE (y : Ent × Sls) : List Value := [.string y.1.key, .int .i64 y.1.item.k, .string y.1.item.t, .slice y.2.1.1 y.1.item.l.length y.2.1.2, .slice y.2.2.1.1 y.1.item.p.length y.2.2.1.2, .slice y.2.2.2.1 y.1.item.s.length y.2.2.2.2, .int .i64 y.1.til]
def rowE (l : List (Ent × Sls)) : List Value := (l.map cellsE).flatten
theorem rowE_len (l : List (Ent × Sls)) : (rowE l).length = l.length * 7 := by
  induction l with
  | nil => rfl
  | cons p r ih => simp [rowE, cellsE] at ih ⊢; omega
theorem rowE_snoc (l : List (Ent × Sls)) (y : Ent × Sls) : rowE (l ++ [y]) = rowE l ++ cellsE y := by simp [rowE]
theorem infoEnt : (Tryz.prog.info? 42).map (fun i => (i.zero, i.size, i.bytes)) = some (some (.agg #[.string ⟨#[]⟩, .int .i64 0, .string ⟨#[]⟩, .slice none 0 0, .slice none 0 0, .slice none 0 0, .int .i64 0]), 7, 120) := by kernel_rfl
/-- entries that lie in memory of their own, from a block on, their lists too -/
structure OwnSp (B : Nat) (w : World) (V : Value) (l : List (Ent × Sls)) : Prop where
  row : w.ownsRow B 42 7 V l.length (rowE l)
  its : ∀ y ∈ l, OwnItem B w (itemV y.1.item y.2) y.1.item
theorem OwnItem.sls {B : Nat} {w : World} {v : Value} {x : Itm} (h : OwnItem B w v x) : ∃ q, v = itemV x q ∧ OwnItem B w (itemV x q) x := by
  obtain ⟨a1, c1, a2, c2, a3, c3, h0, h1⟩ := id h
  exact ⟨⟨⟨a1, c1⟩, ⟨a2, c2⟩, ⟨a3, c3⟩⟩, h0, ⟨a1, c1, a2, c2, a3, c3, rfl, h1⟩⟩
theorem OwnItem.below {B : Nat} {w w' : World} {v : Value} {x : Itm} (h : OwnItem B w v x) (hb : Below w.heap.size w w') : OwnItem B w' v x := by
  obtain ⟨a1, c1, a2, c2, a3, c3, h0, h1, h2, h3⟩ := h
  exact ⟨a1, c1, a2, c2, a3, c3, h0, row_belowY h1 hb, row_belowY h2 hb, row_belowY h3 hb⟩
theorem OwnItem.low {B B2 : Nat} {w : World} {v : Value} {x : Itm} (h : OwnItem B w v x) (hb : B2 ≤ B) : OwnItem B2 w v x := by
  obtain ⟨a1, c1, a2, c2, a3, c3, h0, h1, h2, h3⟩ := h
  exact ⟨a1, c1, a2, c2, a3, c3, h0, row_lowY h1 hb, row_lowY h2 hb, row_lowY h3 hb⟩
theorem OwnSp.below {B : Nat} {w w' : World} {V : Value} {l : List (Ent × Sls)} (h : OwnSp B w V l) (hb : Below w.heap.size w w') : OwnSp B w' V l :=
  ⟨row_belowY h.row hb, fun y hy => (h.its y hy).below hb⟩
/-- what the lists of an item may hold, for a copy -/
def Fits (x : Itm) : Prop := x.l.length ≤ 1000000 ∧ x.p.length ≤ 1000000 ∧ x.s.length ≤ 1000000
end Go.Proofs.YtmaancidkpfopaaGreatDoor

