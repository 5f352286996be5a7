/- Plain facts of SetParts, and the append of items onto a literal of one. -/
import Derived.Test.YtkjnalbnhmpopaaSBeg
import Derived.Test.YtkjnalbnhmpopaaSet8
import Derived.Test.YtkjnalbnhmpopaaRLst1
import Derived.Laws.OwnMore
import Derived.Handy
namespace Go.Proofs.Ytkjnalbnhmpopaa
open Go.RowKit

set_option maxRecDepth 100000 in
set_option maxHeartbeats 1000000 in
theorem inList_any (a : Option Addr) (cap : Nat) (ts : List ByteArray) (s : ByteArray) (w : World) (hs : TextsAt w a ts) (hn : ts.length ≤ 281474976710656) :
    Calls Try.prog 34 #[.slice a ts.length cap, .string s] w fun e w' => e = .returned (.bool (hasT ts s)) ∧ w' = w := by
  have HS := hide hs
  clear hs
  go_enter Try.func34, Try.ntmps34
  go_wp2_with fail
  go_loop [5] (fun i => ∃ k : Nat, k ≤ ts.length ∧ i = .int .i64 k ∧ Hid (s ∉ ts.take k)) (fun i => ts.length - (intOf i).toNat)
  case atStart => exact ⟨0, Nat.zero_le _, rfl, by simp [Hid]⟩
  case round =>
    obtain ⟨k, hk, rfl, HA⟩ := hrel
    by_cases hlt : k < ts.length
    · have hlt' : ((k : Nat) : Int) < ((ts.length : Nat) : Int) := by omega
      obtain ⟨g, o, rfl, hcs⟩ : ∃ g o, a = some ⟨g, o, none⟩ ∧ ∀ i (h : i < ts.length), w.cell? ⟨g, o + i, none⟩ = some (.string ts[i]) := by
        rcases HS.out with h | h
        · subst h; simp at hlt
        · exact h
      have d0 : w.cell? ⟨g, o + k, none⟩ = some (.string ts[k]) := hcs k hlt
      have HT : Hid (ts[k] ≠ s → s ∉ ts.take (k + 1)) := fun hne hm => by
        rw [List.take_succ_eq_append_getElem hlt, List.mem_append] at hm
        rcases hm with hm | hm
        · exact HA.out hm
        · simp at hm; exact hne hm.symm
      have HF : Hid (ts[k] = s → hasT ts s = true) := fun he => hasT_iff.2 (he ▸ List.getElem_mem hlt)
      have hbq := beq_text ts[k] s
      clear hcs HS
      generalize ts[k] = X at *
      by_cases hXs : X = s
      · have HF' := hide (HF.out hXs)
        have hb1 : (X.toList == s.toList) = true := by rw [hbq]; exact decide_eq_true hXs
        have HXs := hide hXs
        clear HT HF hbq hXs
        go_wp2_with fail
        go_ret
        rw [HF'.out]
        exact ⟨rfl, rfl⟩
      · have HT' := hide (HT.out hXs)
        have hb1 : (X.toList == s.toList) = false := by rw [hbq]; exact decide_eq_false hXs
        have HXs := hide hXs
        clear HT HF hbq hXs
        go_wp2_with fail
        go_round
        case rel => exact ⟨k + 1, by omega, by go_num, HT'⟩
        case measure => simp [intOf]; omega
    · have hge : ¬ ((k : Nat) : Int) < ((ts.length : Nat) : Int) := by omega
      obtain rfl : k = ts.length := by omega
      have HY : Hid (hasT ts s = false) := by have := HA.out; rw [List.take_length] at this; exact hasT_not this
      go_wp2_with fail
      go_ret
      rw [HY.out]
      exact ⟨rfl, rfl⟩

theorem setsE_zero {xs : List Itm} (h : setsE xs = 0) : ∀ y ∈ xs, asI y 3 = 0 := by
  induction xs with
  | nil => intro y hy; cases hy
  | cons x r ih =>
    intro y hy
    rw [setsE] at h
    split at h
    · rename_i hne; exact absurd h hne
    · rename_i hx
      rcases List.mem_cons.1 hy with rfl | hy
      · exact Decidable.not_not.1 hx
      · exact ih h y hy
theorem setsF_cons {x : Itm} {xs : List Itm} : setsF (x :: xs) = setsE (x :: xs) := if_neg (by simp)
theorem setsF_tail {x : Itm} {xs : List Itm} (h : setsF (x :: xs) = 0) (hne : xs ≠ []) : setsF xs = 0 := by
  rw [setsF, if_neg hne]
  exact setsE_all fun y hy => setsE_zero (setsF_cons ▸ h) y (List.mem_cons_of_mem _ hy)
theorem part1 {xs : List Itm} {s : ByteArray} (hs : s ∈ thoseL (askM xs) (xs.map Itm.l)) {y : Itm} (hy : y ∈ xs) : hasT y.l s = true := by
  have h := (mem_thoseL.1 hs).2
  have h2 : cntL (xs.map Itm.l) s = xs.length := by simpa [askM] using h
  unfold cntL at h2
  have h3 : ((xs.map Itm.l).filter fun l => hasT l s).length = (xs.map Itm.l).length := by rw [h2, List.length_map]
  exact List.length_filter_eq_length_iff.1 h3 y.l (List.mem_map.2 ⟨y, hy, rfl⟩)
theorem part2 {xs : List Itm} {s : ByteArray} {y : Itm} (hy : y ∈ xs) (hs : s ∈ y.l) : hasT (thoseL (askJ xs) (xs.map Itm.l)) s = true :=
  hasT_iff.2 (mem_thoseL.2 ⟨⟨y.l, List.mem_map.2 ⟨y, hy, rfl⟩, hs⟩, rfl⟩)
theorem cnt_one {l : List ByteArray} {s : ByteArray} (h : s ∈ l) : cntL [l] s = 1 := by
  simp [cntL, hasT_iff.2 h]
theorem cnt_cons {l : List ByteArray} {ls : List (List ByteArray)} {s : ByteArray} (h : s ∈ l) : cntL (l :: ls) s = cntL ls s + 1 := by
  simp [cntL, hasT_iff.2 h]
theorem cnt_pos {ls : List (List ByteArray)} {s : ByteArray} : cntL ls s = 0 ↔ ¬ ∃ l ∈ ls, s ∈ l := by
  rw [cntL, List.length_eq_zero_iff, List.filter_eq_nil_iff]
  constructor
  · rintro h ⟨l, hl, hs⟩
    exact h l hl (hasT_iff.2 hs)
  · intro h l hl hs
    exact h ⟨l, hl, hasT_iff.1 hs⟩
theorem part3 {x : Itm} (hr : Rises x.l) (p : ByteArray → Nat → Bool) (hp : ∀ s ∈ x.l, p s 1 = true) : thoseL p ([x].map Itm.l) = x.l := by
  refine rises_unique (thoseL_rises _ _) hr fun s => ?_
  rw [mem_thoseL]
  constructor
  · rintro ⟨⟨l, hl, hs⟩, _⟩
    simp at hl; subst hl; exact hs
  · intro hs
    exact ⟨⟨x.l, by simp, hs⟩, by rw [List.map_cons, List.map_nil, cnt_one hs]; exact hp s hs⟩
theorem part4 {x : Itm} {xs : List Itm} {s : ByteArray} (hs : s ∈ x.l) : hasT (thoseL (askJ xs) (xs.map Itm.l)) s = !hasT (thoseL (askL1 (x :: xs)) ((x :: xs).map Itm.l)) s := by
  by_cases h : ∃ l ∈ xs.map Itm.l, s ∈ l
  · have h1 : hasT (thoseL (askJ xs) (xs.map Itm.l)) s = true := hasT_iff.2 (mem_thoseL.2 ⟨h, rfl⟩)
    have h2 : hasT (thoseL (askL1 (x :: xs)) ((x :: xs).map Itm.l)) s = false := hasT_not fun hm => by
      have h3 := (mem_thoseL.1 hm).2
      rw [List.map_cons, cnt_cons hs] at h3
      have h4 : cntL (xs.map Itm.l) s = 0 := by
        simp [askL1] at h3; exact h3.1
      exact cnt_pos.1 h4 h
    rw [h1, h2]; rfl
  · have h1 : hasT (thoseL (askJ xs) (xs.map Itm.l)) s = false := hasT_not fun hm => h (mem_thoseL.1 hm).1
    have h2 : hasT (thoseL (askL1 (x :: xs)) ((x :: xs).map Itm.l)) s = true := hasT_iff.2 (mem_thoseL.2 ⟨⟨x.l, by simp, hs⟩, by
      rw [List.map_cons, cnt_cons hs, cnt_pos.2 h]
      simp [askL1, hasT_iff.2 hs]⟩)
    rw [h1, h2]; rfl
theorem part5 {x : Itm} {xs : List Itm} {s : ByteArray} (hs : s ∈ thoseL (askL1 (x :: xs)) ((x :: xs).map Itm.l)) : hasT x.l s = true := by
  have h := (mem_thoseL.1 hs).2
  simp [askL1] at h
  exact h.2

theorem run_append_zero {P : Program} (w : World) (base : Nat) (t ty e : TypeId) (i : TypeInfo) (size : Nat) (ht : P.underlying t = some (.slice e)) (hi : P.info? e = some i)
    (v : Value) (n : Nat) (xs : List Value) (hown : w.ownsRow base e size v n xs) (a : Option Addr) (c : Nat) :
    (Builtin.append_ #[t, t] ty #[v, .slice a 0 c]).run P w = .ok v w := by
  rcases hown.2 with ⟨rfl, rfl⟩ | ⟨g, cap, cur, rfl, _, _, hnc, _⟩
  · cases a <;> simp [Builtin.append_, run_underlying ht, sizeOf, typeInfo, hi, Builtin.lenOf, Builtin.firstCells, loadCells, loadCellsFrom]
  · cases a <;> simp [Builtin.append_, run_underlying ht, sizeOf, typeInfo, hi, Builtin.lenOf, Builtin.firstCells, hnc, storeCells, loadCells, loadCellsFrom]

theorem ItemsAt.cells {w : World} {g o : Nat} {xs : List Itm} (h : ∀ i (h : i < xs.length), ∃ a1 c1 a2 c2 a3 c3, (w.cell? ⟨g, o + i * 5, none⟩ = some (.int .i64 xs[i].k) ∧ w.cell? ⟨g, o + i * 5 + 1, none⟩ = some (.string xs[i].t) ∧ w.cell? ⟨g, o + i * 5 + 2, none⟩ = some (.slice a1 xs[i].l.length c1) ∧ w.cell? ⟨g, o + i * 5 + 3, none⟩ = some (.slice a2 xs[i].p.length c2) ∧ w.cell? ⟨g, o + i * 5 + 4, none⟩ = some (.slice a3 xs[i].s.length c3)) ∧ ItemIs w (.agg #[.int .i64 xs[i].k, .string xs[i].t, .slice a1 xs[i].l.length c1, .slice a2 xs[i].p.length c2, .slice a3 xs[i].s.length c3]) xs[i]) :
    ∃ news : List Value, news.length = xs.length * 5 ∧ (∀ j u, news[j]? = some u → w.cell? ⟨g, o + j, none⟩ = some u) ∧ (∀ u ∈ news, u.oneCell' = true) ∧ (∀ j, j < xs.length * 5 → news[j]? = w.cell? ⟨g, o + j, none⟩) := by
  have hc : ∀ j, j < xs.length * 5 → ∃ u, w.cell? ⟨g, o + j, none⟩ = some u ∧ u.oneCell' = true := by
    intro j hj
    have hi : j / 5 < xs.length := by omega
    obtain ⟨a1, c1, a2, c2, a3, c3, ⟨d0, d1, d2, d3, d4⟩, -⟩ := h (j / 5) hi
    have hm := Nat.mod_lt j (show 0 < 5 by decide)
    have hd := Nat.div_add_mod j 5
    generalize j / 5 = q at *
    generalize j % 5 = r at *
    match r, hm with
    | 0, _ => exact ⟨_, by rw [show o + j = o + q * 5 by omega]; exact d0, rfl⟩
    | 1, _ => exact ⟨_, by rw [show o + j = o + q * 5 + 1 by omega]; exact d1, rfl⟩
    | 2, _ => exact ⟨_, by rw [show o + j = o + q * 5 + 2 by omega]; exact d2, rfl⟩
    | 3, _ => exact ⟨_, by rw [show o + j = o + q * 5 + 3 by omega]; exact d3, rfl⟩
    | 4, _ => exact ⟨_, by rw [show o + j = o + q * 5 + 4 by omega]; exact d4, rfl⟩
  refine ⟨(List.range (xs.length * 5)).map fun j => (w.cell? ⟨g, o + j, none⟩).getD (.int .i64 0), by simp, ?_, ?_, ?_⟩
  · intro j u hu
    rw [List.getElem?_map] at hu
    by_cases hj : j < xs.length * 5
    · obtain ⟨v, hv, -⟩ := hc j hj
      rw [List.getElem?_range hj] at hu
      simp [hv] at hu
      rw [hv, hu]
    · rw [List.getElem?_eq_none (by simpa using hj)] at hu
      cases hu
  · intro u hu
    obtain ⟨j, hj, rfl⟩ := List.mem_map.1 hu
    obtain ⟨v, hv, h1⟩ := hc j (List.mem_range.1 hj)
    rw [hv]; exact h1
  · intro j hj
    obtain ⟨v, hv, -⟩ := hc j hj
    rw [List.getElem?_map, List.getElem?_range hj]
    simp [hv]

theorem item_list {w : World} {Y : Itm} {b1 b2 b3 : Option Addr} {f1 f2 f3 : Nat} (h : ItemIs w (.agg #[.int .i64 Y.k, .string Y.t, .slice b1 Y.l.length f1, .slice b2 Y.p.length f2, .slice b3 Y.s.length f3]) Y) : TextsAt w b1 Y.l := by
  obtain ⟨⟨b1, q1, b2, q2, b3, q3, e, t1, -, -⟩, -, -, -, -, hl1, -, -⟩ := h
  injection e with e
  have e' := congrArg (fun z => z[2]?) e
  simp at e'
  obtain ⟨rfl, _⟩ := e'
  exact t1
theorem infoItem5 : (Try.prog.info? 32).map (fun i => (i.zero, i.size, i.bytes)) = some (some (.agg #[.int .i64 0, .string ⟨#[]⟩, .slice none 0 0, .slice none 0 0, .slice none 0 0]), 5, 96) := by kernel_rfl

/-- a row of items whose cells are those of an item and of items that lie elsewhere -/
theorem ItemsAt.row {w0 w' : World} {g cap g0 o0 : Nat} {y : Itm} {xs : List Itm} {a1 a2 a3 : Option Addr} {c1 c2 c3 : Nat} {news : List Value} (hb : Below w0.heap.size w0 w')
    (hyI : ItemIs w0 (.agg #[.int .i64 y.k, .string y.t, .slice a1 y.l.length c1, .slice a2 y.p.length c2, .slice a3 y.s.length c3]) y)
    (hX : ItemsAt w0 (some ⟨g0, o0, none⟩) xs) (hN : ∀ j, j < xs.length * 5 → news[j]? = w0.cell? ⟨g0, o0 + j, none⟩) (hl : news.length = xs.length * 5)
    (hown : w'.ownsRow w0.heap.size 32 5 (.slice (some ⟨g, 0, none⟩) (y :: xs).length cap) (y :: xs).length ([.int .i64 y.k, .string y.t, .slice a1 y.l.length c1, .slice a2 y.p.length c2, .slice a3 y.s.length c3] ++ news)) :
    ItemsAt w' (some ⟨g, 0, none⟩) (y :: xs) := by
  refine .inr ⟨g, 0, rfl, fun i hi => ?_⟩
  match i, hi with
  | 0, _ =>
    refine ⟨a1, c1, a2, c2, a3, c3, ⟨?_, ?_, ?_, ?_, ?_⟩, hyI.below hb⟩
    all_goals
      rw [hown.cellAt _ (by simp only [List.length_cons]; omega)]
      rfl
  | i + 1, hi =>
    have hi' : i < xs.length := by simpa using hi
    rcases hX with rfl | ⟨g1, o1, e1, hc⟩
    · simp at hi'
    · obtain ⟨rfl, rfl⟩ : g0 = g1 ∧ o0 = o1 := by simpa using e1
      obtain ⟨b1, d1, b2, d2, b3, d3, ⟨f0, f1, f2, f3, f4⟩, hI⟩ := hc i hi'
      refine ⟨b1, d1, b2, d2, b3, d3, ⟨?_, ?_, ?_, ?_, ?_⟩, hI.below hb⟩
      · rw [hown.cellAt _ (by simp only [List.length_cons]; omega), show 0 + (i + 1) * 5 = 5 + i * 5 by omega, List.getElem?_append_right (by simp), show 5 + i * 5 - List.length _ = i * 5 by simp, hN _ (by omega)]
        exact f0
      · rw [hown.cellAt _ (by simp only [List.length_cons]; omega), show 0 + (i + 1) * 5 + 1 = 5 + (i * 5 + 1) by omega, List.getElem?_append_right (by simp), show 5 + (i * 5 + 1) - List.length _ = i * 5 + 1 by simp, hN _ (by omega)]
        exact f1
      · rw [hown.cellAt _ (by simp only [List.length_cons]; omega), show 0 + (i + 1) * 5 + 2 = 5 + (i * 5 + 2) by omega, List.getElem?_append_right (by simp), show 5 + (i * 5 + 2) - List.length _ = i * 5 + 2 by simp, hN _ (by omega)]
        exact f2
      · rw [hown.cellAt _ (by simp only [List.length_cons]; omega), show 0 + (i + 1) * 5 + 3 = 5 + (i * 5 + 3) by omega, List.getElem?_append_right (by simp), show 5 + (i * 5 + 3) - List.length _ = i * 5 + 3 by simp, hN _ (by omega)]
        exact f3
      · rw [hown.cellAt _ (by simp only [List.length_cons]; omega), show 0 + (i + 1) * 5 + 4 = 5 + (i * 5 + 4) by omega, List.getElem?_append_right (by simp), show 5 + (i * 5 + 4) - List.length _ = i * 5 + 4 by simp, hN _ (by omega)]
        exact f4

/-- items onto a literal of one -/
theorem wp_append_items {w : World} {o : Oper} {a : Act} {K : Act → World → Prop} {Q : Exit → Act → World → Prop} (s x : Operand)
    (ho : o.op = .call { callee := .builtin .append, args := #[s, x], argTypes := #[49, 49] })
    (w0 : World) (h0 : Below w0.heap.size w0 w) (A : Value) (y : Itm) (a1 a2 a3 : Option Addr) (c1 c2 c3 : Nat) (aa : Option Addr) (ca NL NA : Nat) (xs : List Itm) (hNL : NL = xs.length) (hNA : NA = (y :: xs).length) (hs : a.eval s = A) (hx : a.eval x = .slice aa NL ca)
    (hA : w.ownsRow w0.heap.size 32 5 A 1 [.int .i64 y.k, .string y.t, .slice a1 y.l.length c1, .slice a2 y.p.length c2, .slice a3 y.s.length c3])
    (hyI : ItemIs w0 (.agg #[.int .i64 y.k, .string y.t, .slice a1 y.l.length c1, .slice a2 y.p.length c2, .slice a3 y.s.length c3]) y)
    (hX : ItemsAt w0 aa xs) (hlen : xs.length ≤ 1500000)
    (h : ∀ ao cap w', ItemsAt w' ao (y :: xs) → Below w0.heap.size w0 w' → K (a.put o.dst (.slice ao NA cap)) w') : o.wp Try.prog a w K Q := by
  subst hNL hNA
  obtain ⟨i0, hi, hz0, hz1, hz2⟩ := info_parts infoItem5
  by_cases hne : xs = []
  · subst hne
    have hr := run_append_zero (P := Try.prog) w w0.heap.size 49 o.type 32 i0 5 Try.underlying49 hi A 1 _ hA aa ca
    unfold Oper.wp execOp
    simp only [ho, resolve, invoke, builtin, Sem.run_bind, Sem.run_pure, Result.andThen_ok, List.map_toArray, List.map_cons, List.map_nil, hs, hx, List.length_nil, hr]
    rcases hA.2 with ⟨_, h1⟩ | ⟨g, cap, cur, rfl, hg1, hg2, hrest⟩
    · cases h1
    · refine h (some ⟨g, 0, none⟩) cap w (.inr ⟨g, 0, rfl, fun i hi => ?_⟩) h0
      match i, hi with
      | 0, _ =>
        refine ⟨a1, c1, a2, c2, a3, c3, ⟨?_, ?_, ?_, ?_, ?_⟩, hyI.below h0⟩
        all_goals
          rw [hA.cellAt _ (by omega)]
          rfl
  · rcases hX with h9 | ⟨g0, o0, rfl, hc⟩
    · exact absurd h9 hne
    have hX : ItemsAt w0 (some ⟨g0, o0, none⟩) xs := .inr ⟨g0, o0, rfl, hc⟩
    obtain ⟨news, hl, hn, h1, hN⟩ := ItemsAt.cells hc
    refine wp_append_own (P := Try.prog) w s x 49 ho w0.heap.size 32 i0 _ 5 96 Try.underlying49 hi hz0 hz1 hz2 rfl (by decide) A 1 _ hs hA ⟨g0, o0, none⟩ xs.length ca news hx hl ?_ h1 (by unfold maxLen; omega) (by omega) h0.size ?_
    · intro j u hj
      have h2 := hn j u hj
      rw [show (⟨g0, o0, none⟩ : Addr).add j = ⟨g0, o0 + j, none⟩ by unfold Addr.add; split <;> simp_all]
      exact (h0.cell (p := ⟨g0, o0 + j, none⟩) (World.block_lt_of_cell? _ _ h2)).trans h2
    · intro v' w' h2 h3 _
      rcases h2.2 with ⟨_, h4⟩ | ⟨g, cap, cur, rfl, hg1, hg2, hrest⟩
      · omega
      · have hb : Below w0.heap.size w0 w' := h0.grown h3 h0.size (fun k hk => (hA.lt k hk).1)
        have e : (y :: xs).length = 1 + xs.length := by simp [Nat.add_comm]
        rw [← e] at h2 ⊢
        exact h (some ⟨g, 0, none⟩) cap w' (ItemsAt.row hb hyI hX hN hl h2) hb
theorem wpList_append_items {w : World} {ops : Array Oper} {rest : List Oper} {o : Oper} {a : Act} {Q : Exit → Act → World → Prop} (hgd : o.guard = none) (s x : Operand)
    (ho : o.op = .call { callee := .builtin .append, args := #[s, x], argTypes := #[49, 49] })
    (w0 : World) (h0 : Below w0.heap.size w0 w) (A : Value) (y : Itm) (a1 a2 a3 : Option Addr) (c1 c2 c3 : Nat) (aa : Option Addr) (ca NL NA : Nat) (xs : List Itm) (hNL : NL = xs.length) (hNA : NA = (y :: xs).length) (hs : a.eval s = A) (hx : a.eval x = .slice aa NL ca)
    (hA : w.ownsRow w0.heap.size 32 5 A 1 [.int .i64 y.k, .string y.t, .slice a1 y.l.length c1, .slice a2 y.p.length c2, .slice a3 y.s.length c3])
    (hyI : ItemIs w0 (.agg #[.int .i64 y.k, .string y.t, .slice a1 y.l.length c1, .slice a2 y.p.length c2, .slice a3 y.s.length c3]) y)
    (hX : ItemsAt w0 aa xs) (hlen : xs.length ≤ 1500000)
    (h : ∀ ao cap w', ItemsAt w' ao (y :: xs) → Below w0.heap.size w0 w' → wpList Try.prog ops Q rest (a.put o.dst (.slice ao NA cap)) w') : wpList Try.prog ops Q (o :: rest) a w :=
  wpList_plain hgd fun _ hK => wp_append_items s x ho w0 h0 A y a1 a2 a3 c1 c2 c3 aa ca NL NA xs hNL hNA hs hx hA hyI hX hlen fun ao cap w' h2 h3 => hK _ _ (h ao cap w' h2 h3)
end Go.Proofs.Ytkjnalbnhmpopaa
