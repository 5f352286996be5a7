/- What the bound on the bulk gives: how many texts a list has; the reading of items side by side. -/
import Derived.Test.YtkjnalbnhmpopaaIOpen
import Derived.Test.YtkjnalbnhmpopaaSet6
namespace Go.Proofs.Ytkjnalbnhmpopaa
open Go.RowKit Go.ChangeShapes Go.WideShapes Go.ChangeAt Go.Deep

theorem bulk_one {H : Type} (d : DataW H) : 1 ≤ Rows.uptoBulk d := by
  cases d with
  | lit l => cases l <;> simp [Rows.uptoBulk]
  | nil => simp [Rows.uptoBulk]
  | ptr d => simp [Rows.uptoBulk]
  | slice elems spare => simp [Rows.uptoBulk]
  | agg parts => simp [Rows.uptoBulk]
  | iface t d => simp [Rows.uptoBulk]
  | map entries => simp [Rows.uptoBulk]
  | held h => simp [Rows.uptoBulk]
theorem bulk_len {H : Type} (l : List (DataW H)) : l.length ≤ Rows.uptoBulkAll l := by
  induction l with
  | nil => simp [Rows.uptoBulkAll]
  | cons x r ih => have := bulk_one x; simp only [Rows.uptoBulkAll, List.length_cons]; omega
theorem bulk_part {H : Type} {d : DataW H} {l : List (DataW H)} (h : d ∈ l) (hk : Rows.uptoSmall H l = true) : Rows.uptoBulk d ≤ 1048576 := by
  have hk' : Rows.uptoBulkAll l ≤ 1048576 := of_decide_eq_true hk
  refine Nat.le_trans ?_ hk'
  clear hk hk'
  induction l with
  | nil => cases h
  | cons x r ih =>
    simp only [Rows.uptoBulkAll]
    cases List.mem_cons.1 h with
    | inl e => subst e; omega
    | inr e => have := ih e; omega
section
variable {H : Type} {enc : TypeId × Value → H} {W : World} {held : Bool}
set_option maxRecDepth 100000 in
theorem list_of_trodU {base : Nat} {v : Value} {d : DataW H} {pl : List MemPlace} (hv : Value.okWide Try.prog W .any base 28 v) (h : DataW.Trod enc Try.prog W 0 (fun _ => true) held 28 v d pl) :
    ∃ a c l, v = .slice a (List.length l) c ∧ TextsAt W a l ∧ (∀ t ∈ l, t.size ≤ maxLen) ∧ l.length ≤ Rows.uptoBulk d := by
  obtain ⟨a0, n0, c0, rfl⟩ := okWide_slice Try.underlying28 hv
  obtain ⟨fuel, hf⟩ := h
  obtain ⟨a, c, l, e, i, z, wl⟩ := texts_of_trod (lv := .slice a0 n0 c0) hf
  refine ⟨a, c, l, e, i, z, ?_⟩
  rcases wl with wl | ⟨es, sp, we, hl⟩
  · omega
  · have we' : d = .slice es sp := we
    rw [we']
    have h1 := bulk_len es
    simp only [Rows.uptoBulk]
    omega
end
theorem bulk_mem {H : Type} {d : DataW H} {l : List (DataW H)} (h : d ∈ l) : Rows.uptoBulk d ≤ Rows.uptoBulkAll l := by
  induction l with
  | nil => cases h
  | cons x r ih =>
    simp only [Rows.uptoBulkAll]
    cases List.mem_cons.1 h with
    | inl e => subst e; omega
    | inr e => have := ih e; omega
theorem bulk_append {H : Type} (l r : List (DataW H)) : Rows.uptoBulkAll (l ++ r) = Rows.uptoBulkAll l + Rows.uptoBulkAll r := by
  induction l with
  | nil => simp [Rows.uptoBulkAll]
  | cons x l ih => simp only [List.cons_append, Rows.uptoBulkAll, ih]; omega
section
variable {H : Type} {enc : TypeId × Value → H} {W : World} {held : Bool}
theorem slice_bulk {n : Nat} {x : DataW H} (h : n = 0 ∨ ∃ es sp, x = .slice es sp ∧ es.length = n) : n ≤ Rows.uptoBulk x := by
  rcases h with h | ⟨es, sp, rfl, hl⟩
  · omega
  · have := bulk_len es
    simp only [Rows.uptoBulk]
    omega
set_option maxRecDepth 100000 in
theorem item_cellsU {n : Nat} {cs : List Value} {x : DataW H × List MemPlace} (h : DataW.trod enc Try.prog W 0 (fun _ => true) held n 32 cs = some x) (hb : Rows.uptoBulk x.1 ≤ 1048576) :
    ∃ (y : Itm) (a1 : Option Addr) (p1 : Nat) (a2 : Option Addr) (p2 : Nat) (a3 : Option Addr) (p3 : Nat), cs = [.int .i64 y.k, .string y.t, .slice a1 y.l.length p1, .slice a2 y.p.length p2, .slice a3 y.s.length p3] ∧ ItemIs W (.agg #[.int .i64 y.k, .string y.t, .slice a1 y.l.length p1, .slice a2 y.p.length p2, .slice a3 y.s.length p3]) y ∧ y.l.length ≤ Rows.uptoBulk x.1 := by
  obtain ⟨xs, n', rfl, hx, hl, hxl, hall⟩ := DataW.trod_struct Try.underlying32 h
  rw [cellsItem] at hl
  obtain ⟨c0, c1, c2, c3, c4, rfl⟩ := five_list hl
  have hl5 : xs.length = 5 := hxl
  have hp : ∀ j (hj : j < xs.length), Rows.uptoBulk xs[j].1 ≤ Rows.uptoBulk x.1 := by
    intro j hj
    rw [hx]
    simp only [Rows.uptoBulk]
    have := bulk_mem (d := xs[j].1) (l := xs.map (·.1)) (List.mem_map.2 ⟨_, List.getElem_mem hj, rfl⟩)
    omega
  have h0 : DataW.trod enc Try.prog W 0 (fun _ => true) held n' 3 (([c0, c1, c2, c3, c4].drop 0).take (Try.prog.cellsOf 3)) = xs[0]? := hall 0 _ rfl
  have h1 : DataW.trod enc Try.prog W 0 (fun _ => true) held n' 9 (([c0, c1, c2, c3, c4].drop 1).take (Try.prog.cellsOf 9)) = xs[1]? := hall 1 _ rfl
  have h2 : DataW.trod enc Try.prog W 0 (fun _ => true) held n' 28 (([c0, c1, c2, c3, c4].drop 2).take (Try.prog.cellsOf 28)) = xs[2]? := hall 2 _ rfl
  have h3 : DataW.trod enc Try.prog W 0 (fun _ => true) held n' 29 (([c0, c1, c2, c3, c4].drop 3).take (Try.prog.cellsOf 29)) = xs[3]? := hall 3 _ rfl
  have h4 : DataW.trod enc Try.prog W 0 (fun _ => true) held n' 30 (([c0, c1, c2, c3, c4].drop 4).take (Try.prog.cellsOf 30)) = xs[4]? := hall 4 _ rfl
  clear hall
  rw [cellsI, List.getElem?_eq_getElem (by omega)] at h0
  rw [cellsS, List.getElem?_eq_getElem (by omega)] at h1
  rw [cellsL1, List.getElem?_eq_getElem (by omega)] at h2
  rw [cellsL2, List.getElem?_eq_getElem (by omega)] at h3
  rw [cellsL3, List.getElem?_eq_getElem (by omega)] at h4
  obtain ⟨k, e0, _, _⟩ := DataW.trod_int Try.underlying3 h0
  obtain ⟨t, e1, _, hts⟩ := DataW.trod_string Try.underlying9 h1
  simp at e0 e1
  subst e0 e1
  obtain ⟨a1, p1, l1, e2, i2, s2, w2⟩ := texts_of_trod h2
  obtain ⟨a2, p2, l2, e3, i3, s3, w3⟩ := pairs_of_trod h3
  obtain ⟨a3, p3, l3, e4, i4, s4, w4⟩ := scores_of_trod h4
  subst e2 e3 e4
  have b1 := Nat.le_trans (slice_bulk w2) (hp 2 (by omega))
  have b2 := Nat.le_trans (slice_bulk w3) (hp 3 (by omega))
  have b3 := Nat.le_trans (slice_bulk w4) (hp 4 (by omega))
  exact ⟨⟨k, t, l1, l2, l3⟩, a1, p1, a2, p2, a3, p3, rfl, ⟨⟨a1, p1, a2, p2, a3, p3, rfl, i2, i3, i4⟩, hts, s2, s3, fun y hy => (s4 y hy).1, by simp only; omega, by simp only; omega, by simp only; omega⟩, b1⟩
set_option maxRecDepth 100000 in
theorem items_of_trodB {base : Nat} {v : Value} {d : DataW H} {pl : List MemPlace} (B : Nat) (hB : B ≤ 1048576) (hv : Value.okWide Try.prog W .any base 49 v) (h : DataW.Trod enc Try.prog W 0 (fun _ => true) held 49 v d pl) (hb : Rows.uptoBulk d ≤ B) :
    ∃ a c xs, v = .slice a (List.length xs) c ∧ ItemsAt W a xs ∧ xs.length ≤ B ∧ (xs.map Itm.l).flatten.length ≤ B := by
  obtain ⟨a0, n0, c0, rfl⟩ := okWide_slice Try.underlying49 hv
  obtain ⟨fuel, hf⟩ := h
  rcases open_slice Try.underlying49 hf with ⟨hcs, _⟩ | ⟨a, len, cap, m, n', D, Pl, hcs, _, hl, hm, hmm, hx, hcell⟩
  · have hcs2 : [Value.slice a0 n0 c0] = [.slice none 0 0] := hcs
    have hcs' : (Value.slice a0 n0 c0) = .slice none 0 0 := by injection hcs2
    exact ⟨none, 0, [], hcs', .inl rfl, by simp, by simp⟩
  · have hcs2 : [Value.slice a0 n0 c0] = [.slice (some a) len cap] := hcs
    have hcs' : (Value.slice a0 n0 c0) = .slice (some a) len cap := by injection hcs2
    have hmc : m = cap := by simpa using hmm
    subst hmc
    rw [cellsItem] at hcell
    have hd : d = .slice ((List.range len).map D) ((List.range (m - len)).map fun j => D (len + j)) := congrArg Prod.fst hx
    have hall : Rows.uptoBulkAll ((List.range len).map D) ≤ B := by
      rw [hd] at hb
      simp only [Rows.uptoBulk] at hb
      omega
    obtain ⟨rs, hrl, hrs⟩ := pick_list (len := len) (p := fun i (y : Itm) => (∃ (a1 : Option Addr) (c1 : Nat) (a2 : Option Addr) (c2 : Nat) (a3 : Option Addr) (c3 : Nat), (W.cell? ((a.add (i * 5)).add 0) = some (.int .i64 y.k) ∧ W.cell? ((a.add (i * 5)).add 1) = some (.string y.t) ∧ W.cell? ((a.add (i * 5)).add 2) = some (.slice a1 y.l.length c1) ∧ W.cell? ((a.add (i * 5)).add 3) = some (.slice a2 y.p.length c2) ∧ W.cell? ((a.add (i * 5)).add 4) = some (.slice a3 y.s.length c3)) ∧ ItemIs W (.agg #[.int .i64 y.k, .string y.t, .slice a1 y.l.length c1, .slice a2 y.p.length c2, .slice a3 y.s.length c3]) y) ∧ y.l.length ≤ Rows.uptoBulk (D i)) (fun i hi => by
      obtain ⟨cs', hc, hdd⟩ := hcell i (by omega)
      obtain ⟨hcl, _, hg⟩ := World.cells?_some hc
      have hbi : Rows.uptoBulk (D i) ≤ 1048576 := Nat.le_trans (bulk_mem (List.mem_map.2 ⟨i, List.mem_range.2 hi, rfl⟩)) (Nat.le_trans hall hB)
      obtain ⟨y, a1, p1, a2, p2, a3, p3, e1, hI, hyl⟩ := item_cellsU hdd hbi
      subst e1
      exact ⟨y, ⟨a1, p1, a2, p2, a3, p3, ⟨hg 0 (by omega), hg 1 (by omega), hg 2 (by omega), hg 3 (by omega), hg 4 (by omega)⟩, hI⟩, hyl⟩)
    subst hrl
    refine ⟨some a, m, rs, hcs', ?_, ?_, ?_⟩
    · by_cases h0 : rs = []
      · exact .inl h0
      · have hpos : 0 < rs.length := List.length_pos_iff.2 h0
        obtain ⟨⟨q1, q2, q3, q4, q5, q6, ⟨z0, -, -, -, -⟩, -⟩, -⟩ := hrs 0 hpos
        obtain ⟨b, off, rfl⟩ := plain_addr (by have e := spot_none z0; simpa [Addr.add] using e : a.spot = none)
        refine .inr ⟨b, off, rfl, fun i hi => ?_⟩
        obtain ⟨⟨q1, q2, q3, q4, q5, q6, ⟨g0, g1, g2, g3, g4⟩, hI⟩, -⟩ := hrs i hi
        rw [plus_at, plus_at] at g0 g1 g2 g3 g4
        exact ⟨q1, q2, q3, q4, q5, q6, ⟨g0, g1, g2, g3, g4⟩, hI⟩
    · have := bulk_len ((List.range rs.length).map D)
      simp only [List.length_map, List.length_range] at this
      omega
    · have hk : ∀ k, k ≤ rs.length → ((rs.take k).map Itm.l).flatten.length ≤ Rows.uptoBulkAll ((List.range k).map D) := fun k => by
        induction k with
        | zero => intro _; simp
        | succ k ih =>
          intro hk
          have hlt : k < rs.length := by omega
          have h1 := ih (by omega)
          have h2 := (hrs k hlt).2
          rw [List.take_succ_eq_append_getElem hlt, List.map_append, List.flatten_append, List.length_append, List.range_succ, List.map_append, bulk_append]
          have e1 : ((([rs[k]].map Itm.l).flatten).length) = rs[k].l.length := by simp
          have e2 : Rows.uptoBulkAll ([k].map D) = Rows.uptoBulk (D k) := by simp [Rows.uptoBulkAll]
          rw [e1, e2]
          omega
      have := hk rs.length (Nat.le_refl _)
      rw [List.take_length] at this
      omega
set_option maxRecDepth 100000 in
theorem items_of_trod {base : Nat} {v : Value} {d : DataW H} {pl : List MemPlace} (hv : Value.okWide Try.prog W .any base 49 v) (h : DataW.Trod enc Try.prog W 0 (fun _ => true) held 49 v d pl) (hb : Rows.uptoBulk d ≤ 1048576) :
    ∃ a c xs, v = .slice a (List.length xs) c ∧ ItemsAt W a xs ∧ xs.length ≤ 1048576 ∧ (xs.map Itm.l).flatten.length ≤ 1048576 := items_of_trodB 1048576 (Nat.le_refl _) hv h hb
set_option maxRecDepth 100000 in
theorem item_of_trodU {base : Nat} {v : Value} {d : DataW H} {pl : List MemPlace} (hv : Value.okWide Try.prog W .any base 32 v) (h : DataW.Trod enc Try.prog W 0 (fun _ => true) held 32 v d pl) (hb : Rows.uptoBulk d ≤ 1048576) :
    ∃ y : Itm, ItemIs W v y ∧ y.l.length ≤ Rows.uptoBulk d := by
  obtain ⟨cs, rfl, _⟩ := okWide_struct Try.underlying32 hv
  obtain ⟨fuel, hf⟩ := h
  obtain ⟨y, a1, p1, a2, p2, a3, p3, e, hI, hl⟩ := item_cellsU hf hb
  refine ⟨y, ?_, hl⟩
  have e2 : cs = #[.int .i64 y.k, .string y.t, .slice a1 y.l.length p1, .slice a2 y.p.length p2, .slice a3 y.s.length p3] := by
    have e' : cs.toList = [.int .i64 y.k, .string y.t, .slice a1 y.l.length p1, .slice a2 y.p.length p2, .slice a3 y.s.length p3] := e
    exact Array.toList_inj.1 e'
  rw [e2]
  exact hI
set_option maxRecDepth 100000 in
theorem bulk_two {d e : DataW H} (h : Rows.uptoSmall H ([d, e] ++ []) = true) : Rows.uptoBulk d + Rows.uptoBulk e ≤ 1048576 := by
  have := of_decide_eq_true h
  simp [Rows.uptoBulkAll] at this
  omega
end
end Go.Proofs.Ytkjnalbnhmpopaa
