/- Part 8 of what the proof leans on: QBlk. -/
import Derived.Test.YtcidoodaiimhfaaGreatPart1
import Derived.Test.YtcidoodaiimhfaaGreatPart2
import Derived.Test.YtcidoodaiimhfaaGreatPart3
import Derived.Test.YtcidoodaiimhfaaGreatPart4
import Derived.Test.YtcidoodaiimhfaaGreatPart5
import Derived.Test.YtcidoodaiimhfaaGreatPart6
import Derived.Test.YtcidoodaiimhfaaGreatPart7
/- What the bound on the bulk gives for RestItems: how long the lists are. -/
namespace Go.Proofs.YtcidoodaiimhfaaGreat
open Go.RowKit Go.ChangeShapes Go.WideShapes Go.ChangeAt Go.Deep

theorem bulk_one {H : Type} (d : DataW H) : 1 ≤ Rows.uptoBulk d := by
  cases d with
  | lit l => cases l <;> simp [Rows.uptoBulk]
  | nil => simp [Rows.uptoBulk]
  | ptr d => simp [Rows.uptoBulk]
  | slice elems spare => simp [Rows.uptoBulk]
  | agg parts => simp [Rows.uptoBulk]
  | iface t d => simp [Rows.uptoBulk]
  | map entries => simp [Rows.uptoBulk]
  | held h => simp [Rows.uptoBulk]
theorem bulk_len {H : Type} (l : List (DataW H)) : l.length ≤ Rows.uptoBulkAll l := by
  induction l with
  | nil => simp [Rows.uptoBulkAll]
  | cons x r ih => have := bulk_one x; simp only [Rows.uptoBulkAll, List.length_cons]; omega
theorem bulk_part {H : Type} {d : DataW H} {l : List (DataW H)} (h : d ∈ l) (hk : Rows.uptoSmall H l = true) : Rows.uptoBulk d ≤ 1048576 := by
  have hk' : Rows.uptoBulkAll l ≤ 1048576 := of_decide_eq_true hk
  refine Nat.le_trans ?_ hk'
  clear hk hk'
  induction l with
  | nil => cases h
  | cons x r ih =>
    simp only [Rows.uptoBulkAll]
    cases List.mem_cons.1 h with
    | inl e => subst e; omega
    | inr e => have := ih e; omega
section
variable {H : Type} {enc : TypeId × Value → H} {W : World} {held : Bool}
set_option maxRecDepth 100000 in
theorem list_of_trodU {base : Nat} {v : Value} {d : DataW H} {pl : List MemPlace} (hv : Value.okWide Tryz.prog W .any base 24 v) (h : DataW.Trod enc Tryz.prog W 0 (fun _ => true) held 24 v d pl) :
    ∃ a c l, v = .slice a (List.length l) c ∧ TextsAt W a l ∧ (∀ t ∈ l, t.size ≤ maxLen) ∧ l.length ≤ Rows.uptoBulk d := by
  obtain ⟨a0, n0, c0, rfl⟩ := okWide_slice Tryz.underlying24 hv
  obtain ⟨fuel, hf⟩ := h
  obtain ⟨a, c, l, e, i, z, wl⟩ := texts_of_trod (lv := .slice a0 n0 c0) hf
  refine ⟨a, c, l, e, i, z, ?_⟩
  rcases wl with wl | ⟨es, sp, we, hl⟩
  · omega
  · have we' : d = .slice es sp := we
    rw [we']
    have h1 := bulk_len es
    simp only [Rows.uptoBulk]
    omega
end
theorem bulk_mem {H : Type} {d : DataW H} {l : List (DataW H)} (h : d ∈ l) : Rows.uptoBulk d ≤ Rows.uptoBulkAll l := by
  induction l with
  | nil => cases h
  | cons x r ih =>
    simp only [Rows.uptoBulkAll]
    cases List.mem_cons.1 h with
    | inl e => subst e; omega
    | inr e => have := ih e; omega
section
variable {H : Type} {enc : TypeId × Value → H} {W : World} {held : Bool}
theorem slice_bulk {n : Nat} {x : DataW H} (h : n = 0 ∨ ∃ es sp, x = .slice es sp ∧ es.length = n) : n ≤ Rows.uptoBulk x := by
  rcases h with h | ⟨es, sp, rfl, hl⟩
  · omega
  · have := bulk_len es
    simp only [Rows.uptoBulk]
    omega
set_option maxRecDepth 100000 in
theorem item_cellsU {n : Nat} {cs : List Value} {x : DataW H × List MemPlace} (h : DataW.trod enc Tryz.prog W 0 (fun _ => true) held n 28 cs = some x) (hb : Rows.uptoBulk x.1 ≤ 1048576) :
    ∃ (y : Itm) (a1 : Option Addr) (p1 : Nat) (a2 : Option Addr) (p2 : Nat) (a3 : Option Addr) (p3 : Nat), cs = [.int .i64 y.k, .string y.t, .slice a1 y.l.length p1, .slice a2 y.p.length p2, .slice a3 y.s.length p3] ∧ ItemIs W (.agg #[.int .i64 y.k, .string y.t, .slice a1 y.l.length p1, .slice a2 y.p.length p2, .slice a3 y.s.length p3]) y ∧ y.l.length ≤ Rows.uptoBulk x.1 ∧ y.p.length ≤ Rows.uptoBulk x.1 ∧ y.s.length ≤ Rows.uptoBulk x.1 := by
  obtain ⟨xs, n', rfl, hx, hl, hxl, hall⟩ := DataW.trod_struct Tryz.underlying28 h
  rw [cellsItem] at hl
  obtain ⟨c0, c1, c2, c3, c4, rfl⟩ := five_list hl
  have hl5 : xs.length = 5 := hxl
  have hp : ∀ j (hj : j < xs.length), Rows.uptoBulk xs[j].1 ≤ Rows.uptoBulk x.1 := by
    intro j hj
    rw [hx]
    simp only [Rows.uptoBulk]
    have := bulk_mem (d := xs[j].1) (l := xs.map (·.1)) (List.mem_map.2 ⟨_, List.getElem_mem hj, rfl⟩)
    omega
  have h0 : DataW.trod enc Tryz.prog W 0 (fun _ => true) held n' 3 (([c0, c1, c2, c3, c4].drop 0).take (Tryz.prog.cellsOf 3)) = xs[0]? := hall 0 _ rfl
  have h1 : DataW.trod enc Tryz.prog W 0 (fun _ => true) held n' 9 (([c0, c1, c2, c3, c4].drop 1).take (Tryz.prog.cellsOf 9)) = xs[1]? := hall 1 _ rfl
  have h2 : DataW.trod enc Tryz.prog W 0 (fun _ => true) held n' 24 (([c0, c1, c2, c3, c4].drop 2).take (Tryz.prog.cellsOf 24)) = xs[2]? := hall 2 _ rfl
  have h3 : DataW.trod enc Tryz.prog W 0 (fun _ => true) held n' 25 (([c0, c1, c2, c3, c4].drop 3).take (Tryz.prog.cellsOf 25)) = xs[3]? := hall 3 _ rfl
  have h4 : DataW.trod enc Tryz.prog W 0 (fun _ => true) held n' 26 (([c0, c1, c2, c3, c4].drop 4).take (Tryz.prog.cellsOf 26)) = xs[4]? := hall 4 _ rfl
  clear hall
  rw [cellsI, List.getElem?_eq_getElem (by omega)] at h0
  rw [cellsS, List.getElem?_eq_getElem (by omega)] at h1
  rw [cellsL1, List.getElem?_eq_getElem (by omega)] at h2
  rw [cellsL2, List.getElem?_eq_getElem (by omega)] at h3
  rw [cellsL3, List.getElem?_eq_getElem (by omega)] at h4
  obtain ⟨k, e0, _, _⟩ := DataW.trod_int Tryz.underlying3 h0
  obtain ⟨t, e1, _, hts⟩ := DataW.trod_string Tryz.underlying9 h1
  simp at e0 e1
  subst e0 e1
  obtain ⟨a1, p1, l1, e2, i2, s2, w2⟩ := texts_of_trod h2
  obtain ⟨a2, p2, l2, e3, i3, s3, w3⟩ := pairs_of_trod h3
  obtain ⟨a3, p3, l3, e4, i4, s4, w4⟩ := scores_of_trod h4
  subst e2 e3 e4
  have b1 := Nat.le_trans (slice_bulk w2) (hp 2 (by omega))
  have b2 := Nat.le_trans (slice_bulk w3) (hp 3 (by omega))
  have b3 := Nat.le_trans (slice_bulk w4) (hp 4 (by omega))
  exact ⟨⟨k, t, l1, l2, l3⟩, a1, p1, a2, p2, a3, p3, rfl, ⟨⟨a1, p1, a2, p2, a3, p3, rfl, i2, i3, i4⟩, hts, s2, s3, fun y hy => (s4 y hy).1, by simp only; omega, by simp only; omega, by simp only; omega⟩, b1, b2, b3⟩
set_option maxRecDepth 100000 in
theorem item_of_trodU {base : Nat} {v : Value} {d : DataW H} {pl : List MemPlace} (hv : Value.okWide Tryz.prog W .any base 28 v) (h : DataW.Trod enc Tryz.prog W 0 (fun _ => true) held 28 v d pl) (hb : Rows.uptoBulk d ≤ 1048576) :
    ∃ y : Itm, ItemIs W v y ∧ y.l.length ≤ Rows.uptoBulk d ∧ y.p.length ≤ Rows.uptoBulk d ∧ y.s.length ≤ Rows.uptoBulk d := by
  obtain ⟨cs, rfl, _⟩ := okWide_struct Tryz.underlying28 hv
  obtain ⟨fuel, hf⟩ := h
  obtain ⟨y, a1, p1, a2, p2, a3, p3, e, hI, hl⟩ := item_cellsU hf hb
  refine ⟨y, ?_, hl⟩
  have e2 : cs = #[.int .i64 y.k, .string y.t, .slice a1 y.l.length p1, .slice a2 y.p.length p2, .slice a3 y.s.length p3] := by
    have e' : cs.toList = [.int .i64 y.k, .string y.t, .slice a1 y.l.length p1, .slice a2 y.p.length p2, .slice a3 y.s.length p3] := e
    exact Array.toList_inj.1 e'
  rw [e2]
  exact hI
set_option maxRecDepth 100000 in
theorem pairs_of_trodU {base : Nat} {v : Value} {d : DataW H} {pl : List MemPlace} (hv : Value.okWide Tryz.prog W .any base 25 v) (h : DataW.Trod enc Tryz.prog W 0 (fun _ => true) held 25 v d pl) :
    ∃ a c l, v = .slice a (List.length l) c ∧ PairsAt W a l ∧ (∀ t ∈ l, t.1.size ≤ maxLen ∧ t.2.size ≤ maxLen) ∧ l.length ≤ Rows.uptoBulk d := by
  obtain ⟨a0, n0, c0, rfl⟩ := okWide_slice Tryz.underlying25 hv
  obtain ⟨fuel, hf⟩ := h
  obtain ⟨a, c, l, e, i, z, wl⟩ := pairs_of_trod (lv := .slice a0 n0 c0) hf
  refine ⟨a, c, l, e, i, z, ?_⟩
  rcases wl with wl | ⟨es, sp, we, hl⟩
  · omega
  · have we' : d = .slice es sp := we
    rw [we']
    have h1 := bulk_len es
    simp only [Rows.uptoBulk]
    omega
set_option maxRecDepth 100000 in
theorem scores_of_trodU {base : Nat} {v : Value} {d : DataW H} {pl : List MemPlace} (hv : Value.okWide Tryz.prog W .any base 26 v) (h : DataW.Trod enc Tryz.prog W 0 (fun _ => true) held 26 v d pl) :
    ∃ a c l, v = .slice a (List.length l) c ∧ ScoresAt W a l ∧ (∀ t ∈ l, t.2.size ≤ maxLen ∧ -9223372036854775808 ≤ t.1 ∧ t.1 ≤ 9223372036854775807) ∧ l.length ≤ Rows.uptoBulk d := by
  obtain ⟨a0, n0, c0, rfl⟩ := okWide_slice Tryz.underlying26 hv
  obtain ⟨fuel, hf⟩ := h
  obtain ⟨a, c, l, e, i, z, wl⟩ := scores_of_trod (lv := .slice a0 n0 c0) hf
  refine ⟨a, c, l, e, i, z, ?_⟩
  rcases wl with wl | ⟨es, sp, we, hl⟩
  · omega
  · have we' : d = .slice es sp := we
    rw [we']
    have h1 := bulk_len es
    simp only [Rows.uptoBulk]
    omega
end
end Go.Proofs.YtcidoodaiimhfaaGreat

