/- Appending texts; Grow, Concat of two. -/
import Derived.Test.YtolpmaapdkhigacLst1
import Derived.Lib.AppendZeros
import Derived.Laws.OwnMore
import Derived.Handy
namespace Go.Proofs.Ytolpmaapdkhigac
open Go.RowKit

theorem run_append_none (P : Program) (w : World) (base : Nat) (t ty e : TypeId) (i : TypeInfo) (size : Nat) (ht : P.underlying t = some (.slice e)) (hi : P.info? e = some i)
    (v : Value) (n : Nat) (xs : List Value) (hown : w.ownsRow base e size v n xs) (c : Nat) :
    (Builtin.append_ #[t, t] ty #[v, .slice none 0 c]).run P w = .ok v w := by
  rcases hown.2 with ⟨rfl, rfl⟩ | ⟨g, cap, cur, rfl, _, _, hnc, _⟩
  · simp [Builtin.append_, run_underlying ht, sizeOf, typeInfo, hi, Builtin.lenOf, Builtin.firstCells]
  · simp [Builtin.append_, run_underlying ht, sizeOf, typeInfo, hi, Builtin.lenOf, Builtin.firstCells, hnc, storeCells]
theorem strs_one (l : List ByteArray) : ∀ u ∈ strs l, u.oneCell' = true := by
  intro u hu
  obtain ⟨t, _, rfl⟩ := List.mem_map.1 hu
  rfl
theorem texts_news {w : World} {g o : Nat} {l : List ByteArray} (h : ∀ i (hi : i < l.length), w.cell? ⟨g, o + i, none⟩ = some (.string l[i])) : ∀ j u, (strs l)[j]? = some u → w.cell? ((⟨g, o, none⟩ : Addr).add j) = some u := by
  intro j u hj
  have hjl : j < l.length := by
    have := (List.getElem?_eq_some_iff.1 hj).1
    simpa [strs] using this
  have e : (⟨g, o, none⟩ : Addr).add j = ⟨g, o + j, none⟩ := by
    unfold Addr.add
    split
    · rename_i h; subst h; rfl
    · rfl
  rw [e, h j hjl, ← hj]
  simp [strs, hjl]
/-- append of texts to a row of one's own -/
theorem wpList_append_texts {w : World} {ops : Array Oper} {rest : List Oper} {o : Oper} {a : Act} {Q : Exit → Act → World → Prop}
    (hg : o.guard = none) (s x : Operand) (hop : o.op = .call { callee := .builtin .append, args := #[s, x], argTypes := #[22, 22] })
    (base : Nat) (v : Value) (n : Nat) (xs : List Value) (hs : a.eval s = v) (hown : w.ownsRow base 9 1 v n xs)
    (ad : Option Addr) (c : Nat) (l : List ByteArray) (hx : a.eval x = .slice ad l.length c) (hl : TextsAt w ad l) (h63 : n + l.length ≤ 2000000) (hbase : base ≤ w.heap.size)
    (hK : ∀ v' w', w'.ownsRow base 9 1 v' (n + l.length) (xs ++ strs l) → w.grownBy w' v.ownBlock → wpList Try.prog ops Q rest (a.put o.dst v') w') :
    wpList Try.prog ops Q (o :: rest) a w := by
  obtain ⟨i0, hi, hz0, hz1, hz2⟩ := info_parts infoStr
  refine wpList_plain hg fun K' hK' => ?_
  cases ad with
  | none =>
    obtain rfl : l = [] := by
      rcases hl with h | ⟨g, o, h, _⟩
      · exact h
      · cases h
    have hr := run_append_none Try.prog w base 22 o.type 9 i0 1 Try.underlying22 hi v n xs hown c
    unfold Oper.wp execOp
    simp only [hop, resolve, invoke, builtin, Sem.run_bind, Sem.run_pure, Result.andThen_ok, List.map_toArray, List.map_cons, List.map_nil, hs, hx, List.length_nil, hr]
    exact hK' _ _ (hK v w (by simpa [strs] using hown) (World.grownBy.refl _ _))
  | some ad =>
    refine wp_append_own (P := Try.prog) w s x 22 hop base 9 i0 (.string ⟨#[]⟩) 1 16 Try.underlying22 hi hz0 hz1 hz2 rfl (by decide) v n xs hs hown ad l.length c (strs l) hx (by simp [strs]) ?_ (strs_one l) (by unfold maxLen; omega) (by omega) hbase ?_
    · rcases hl with h | ⟨g, o, h, hc⟩
      · subst h
        intro j u hj
        simp [strs] at hj
      · injection h with h
        subst h
        exact texts_news hc
    · intro v' w' h1 h2 _
      exact hK' _ _ (hK v' w' h1 h2)

/-- append of so many noughts to nothing -/
theorem wpList_append_zeros {w : World} {ops : Array Oper} {rest : List Oper} {o : Oper} {a : Act} {Q : Exit → Act → World → Prop}
    (hg : o.guard = none) (s x : Operand) (hop : o.op = .call { callee := .builtin .append, args := #[s, x], argTypes := #[22, 3] })
    (n : Nat) (hs : a.eval s = .slice none 0 0) (hx : a.eval x = .int .i64 n) (h0 : 0 < n) (hn : n ≤ 2000000)
    (hK : ∀ w' cap, n ≤ cap → w'.ownsRow w.heap.size 9 1 (.slice (some ⟨w.heap.size, 0, none⟩) 0 cap) 0 [] → Below w.heap.size w w' → wpList Try.prog ops Q rest (a.put o.dst (.slice (some ⟨w.heap.size, 0, none⟩) n cap)) w') :
    wpList Try.prog ops Q (o :: rest) a w := by
  obtain ⟨i0, hi, hz0, hz1, hz2⟩ := info_parts infoStr
  refine wpList_plain hg fun K' hK' => ?_
  have hr := Lib.run_append_nil_zeros (P := Try.prog) w 22 3 o.type 9 i0 (.string ⟨#[]⟩) .i64 .i64 Try.underlying22 Try.underlying3 hi hz0 n h0 (by omega) (by omega) (by rw [hz2]; omega)
  unfold Oper.wp execOp
  simp only [hop, resolve, invoke, builtin, Sem.run_bind, Sem.run_pure, Result.andThen_ok, List.map_toArray, List.map_cons, List.map_nil, hs, hx, hr]
  have hge := grownCap_ge w n 0 9
  have hle := grownCap_le_maxLen w n 0 9 (by unfold maxLen; omega)
  generalize grownCap w n 0 9 = cap at *
  refine hK' _ _ (hK _ cap hge ?_ ((Below.refl _ _).drew.alloc (Nat.le_refl _) _))
  have := World.ownsRow_made (base := w.heap.size) (e := 9) (size := 1) w.drew (Builtin.zeroCells (Value.string ⟨#[]⟩).cells n ++ Builtin.zeroCells (Value.string ⟨#[]⟩).cells (cap - n)) cap (Nat.le_refl _) hle (by
    rw [Array.size_append, size_zeroCells, size_zeroCells]
    have : (Value.string ⟨#[]⟩).cells.size = 1 := rfl
    rw [this]
    omega)
  exact this

set_option maxRecDepth 100000 in
set_option maxHeartbeats 1000000 in
theorem grow_any (n : Nat) (w : World) (h0 : 0 < n) (hn : n ≤ 2000000) : Calls Try.prog 49 #[.slice none 0 0, .int .i64 n] w fun e w' => ∃ cap, e = .returned (.slice (some ⟨w.heap.size, 0, none⟩) 0 cap) ∧ w'.ownsRow w.heap.size 9 1 (.slice (some ⟨w.heap.size, 0, none⟩) 0 cap) 0 [] ∧ Below w.heap.size w w' := by
  have h1 : ¬ ((n : Nat) : Int) < 0 := by omega
  have h2 : (0 : Int) < ((n : Nat) : Int) := by omega
  go_enter Try.func49, Try.ntmps49
  go_wp2_with (at_builtin; refine wpList_append_zeros rfl _ _ rfl n rfl rfl h0 hn ?_)
  intro w' cap hcap hown hb
  have hc0 : (0 : Int) ≤ ((cap : Nat) : Int) := by omega
  go_wp2_with fail
  go_ret
  exact ⟨cap, rfl, hown, hb⟩

set_option maxRecDepth 100000 in
set_option maxHeartbeats 2000000 in
theorem concat_any (g : Nat) (a1 a2 : Option Addr) (c1 c2 : Nat) (l1 l2 : List ByteArray) (w : World) (h0 : w.cell? ⟨g, 0, none⟩ = some (.slice a1 l1.length c1)) (h1 : w.cell? ⟨g, 1, none⟩ = some (.slice a2 l2.length c2))
    (hl1 : TextsAt w a1 l1) (hl2 : TextsAt w a2 l2) (hpos : 0 < l1.length + l2.length) (hn : l1.length + l2.length ≤ 2000000) :
    Calls Try.prog 39 #[.slice (some ⟨g, 0, none⟩) 2 2] w fun e w' => ∃ v, e = .returned v ∧ w'.ownsRow w.heap.size 9 1 v (l1 ++ l2).length (strs (l1 ++ l2)) ∧ Below w.heap.size w w' := by
  have hgl : g < w.heap.size := World.block_lt_of_cell? _ _ h0
  have H1 := hide hl1
  have H2 := hide hl2
  clear hl1 hl2
  have HG : Hid (Calls Try.prog 49 #[.slice none 0 0, .int .i64 (((l1.length : Nat) : Int) + ((l2.length : Nat) : Int))] w fun e w' => ∃ cap, e = .returned (.slice (some ⟨w.heap.size, 0, none⟩) 0 cap) ∧ w'.ownsRow w.heap.size 9 1 (.slice (some ⟨w.heap.size, 0, none⟩) 0 cap) 0 [] ∧ Below w.heap.size w w') := by
    have hh := grow_any (l1.length + l2.length) w hpos hn
    rw [Int.natCast_add] at hh
    exact hh
  have n1 : ¬ ((l1.length : Nat) : Int) < 0 := by omega
  have n2 : ¬ ((l1.length : Nat) : Int) + ((l2.length : Nat) : Int) < 0 := by omega
  go_enter Try.func39, Try.ntmps39
  go_wp2_with fail
  refine wp_loop_rounds 3 ?_
  rw [rounds_succ]
  go_wp2_with fail
  rw [rounds_succ]
  go_wp2_with fail
  rw [rounds_succ]
  go_wp2_with fail
  refine HG.out.mono ?_
  rintro e w1 ⟨cap, rfl, hown1, hb1⟩
  have e0 : w1.cell? ⟨g, 0, none⟩ = some (.slice a1 l1.length c1) := (hb1.cell (p := ⟨g, 0, none⟩) hgl).trans h0
  have e1 : w1.cell? ⟨g, 1, none⟩ = some (.slice a2 l2.length c2) := (hb1.cell (p := ⟨g, 1, none⟩) hgl).trans h1
  have hz1 := hb1.size
  go_wp2_with fail
  refine wp_loop_rounds 3 ?_
  rw [rounds_succ]
  go_wp2_with (at_builtin; refine wpList_append_texts rfl _ _ rfl w.heap.size _ 0 [] rfl hown1 a1 c1 l1 rfl (H1.out.below hb1) (by omega) hz1 ?_)
  intro v2 w2 hown2 hg2
  have hb2 : Below w.heap.size w w2 := hb1.grown hg2 hz1 (fun j hj => (hown1.lt j hj).1)
  have hz2 := hb2.size
  have k0 : w2.cell? ⟨g, 0, none⟩ = some (.slice a1 l1.length c1) := (hb2.cell (p := ⟨g, 0, none⟩) hgl).trans h0
  have k1 : w2.cell? ⟨g, 1, none⟩ = some (.slice a2 l2.length c2) := (hb2.cell (p := ⟨g, 1, none⟩) hgl).trans h1
  go_wp2_with fail
  rw [rounds_succ]
  go_wp2_with (at_builtin; refine wpList_append_texts rfl _ _ rfl w.heap.size _ _ _ rfl hown2 a2 c2 l2 rfl (H2.out.below hb2) (by omega) hz2 ?_)
  intro v3 w3 hown3 hg3
  have hb3 : Below w.heap.size w w3 := hb2.grown hg3 hz2 (fun j hj => (hown2.lt j hj).1)
  go_wp2_with fail
  rw [rounds_succ]
  go_wp2_with fail
  go_ret
  refine ⟨v3, rfl, ?_, hb3⟩
  simpa [strs] using hown3
end Go.Proofs.Ytolpmaapdkhigac
