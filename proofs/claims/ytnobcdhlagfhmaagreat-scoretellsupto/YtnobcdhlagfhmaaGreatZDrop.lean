/- WALKS of scores: a copy, DeleteFunc, Drop. -/
import Derived.Test.YtnobcdhlagfhmaaGreatZPut
import Derived.Handy
import Derived.Laws.IdiomCopy
import Derived.BigRegion
import Derived.Deep.RegionHeld3
namespace Go.Proofs.YtnobcdhlagfhmaaGreat.Z
open Go.RowKit

set_option maxRecDepth 100000 in
set_option maxHeartbeats 1000000 in
theorem cloneP_any (a : Option Addr) (c : Nat) (L : List Sc) (w : World) (hL : ScoresAt w a L) (hn : L.length ≤ 1000000) :
    Calls Tryz.prog 24 #[.slice a L.length c] w fun e w' => ∃ v, e = .returned v ∧ w'.ownsRow w.heap.size 36 2 v L.length (rowP L) ∧ Below w.heap.size w w' := by
  cases a with
  | none =>
    obtain rfl : L = [] := by
      rcases hL with h | ⟨g, o, h, _⟩
      · exact h
      · cases h
    have he : ∀ w : World, (binOp .eql 24 (.slice none 0 c) (.slice none 0 0)).run Tryz.prog w = .ok (.bool true) w := fun _ => rfl
    go_enter Tryz.func24, Tryz.ntmps24
    go_wp2_with fail
    go_ret
    exact ⟨_, rfl, World.ownsRow_nil _ _ _ _, Below.refl _ _⟩
  | some ad =>
    have HL := hide hL
    clear hL
    have HB : Below w.heap.size w (w.alloc (.cells #[] 36)) := (Below.refl _ w).alloc (Nat.le_refl _) _
    have HO : (w.alloc (.cells #[] 36)).ownsRow w.heap.size 36 2 (.slice (some ⟨w.heap.size, 0, none⟩) 0 0) 0 [] := World.ownsRow_lit w #[] 0 (Nat.le_refl _) (Nat.zero_le _) rfl
    have HLB := HL.out.below HB
    have he : ∀ w : World, (binOp .eql 24 (.slice (some ad) L.length c) (.slice none 0 0)).run Tryz.prog w = .ok (.bool false) w := fun _ => rfl
    go_enter Tryz.func24, Tryz.ntmps24
    go_wp2_with (at_builtin; refine wpList_append_pairs rfl _ _ rfl w.heap.size _ 0 [] rfl HO (some ad) c L rfl HLB (by omega) (by simp) ?_)
    intro v2 w2 hown2 hg2
    have hb2 : Below w.heap.size w w2 := HB.grown hg2 HB.size (fun j hj => (HO.lt j hj).1)
    go_wp2_with fail
    go_ret
    exact ⟨v2, rfl, hown2, hb2⟩
set_option maxRecDepth 100000 in
set_option maxHeartbeats 1000000 in
theorem indexT_any (a : Option Addr) (cap : Nat) (ts : List ByteArray) (s : ByteArray) (w : World) (hs : TextsAt w a ts) (hn : ts.length ≤ 281474976710656) :
    Calls Tryz.prog 53 #[.slice a ts.length cap, .string s] w fun e w' => (∃ n : Int, e = .returned (.int .i64 n) ∧ decide (0 ≤ n) = hasT ts s) ∧ w' = w := by
  have HS := hide hs
  clear hs
  go_enter Tryz.func53, Tryz.ntmps53
  go_wp2_with fail
  go_loop [8] (fun i => ∃ k : Nat, k ≤ ts.length ∧ i = .int .i64 k ∧ Hid (s ∉ ts.take k)) (fun i => ts.length - (intOf i).toNat)
  case atStart => exact ⟨0, Nat.zero_le _, rfl, by simp [Hid]⟩
  case round =>
    obtain ⟨k, hk, rfl, HA⟩ := hrel
    by_cases hlt : k < ts.length
    · have hlt' : ((k : Nat) : Int) < ((ts.length : Nat) : Int) := by omega
      obtain ⟨g, o, rfl, hcs⟩ : ∃ g o, a = some ⟨g, o, none⟩ ∧ ∀ i (h : i < ts.length), w.cell? ⟨g, o + i, none⟩ = some (.string ts[i]) := by
        rcases HS.out with h | h
        · subst h; simp at hlt
        · exact h
      have d0 : w.cell? ⟨g, o + k, none⟩ = some (.string ts[k]) := hcs k hlt
      have HT : Hid (ts[k] ≠ s → s ∉ ts.take (k + 1)) := fun hne hm => by
        rw [List.take_succ_eq_append_getElem hlt, List.mem_append] at hm
        rcases hm with hm | hm
        · exact HA.out hm
        · simp at hm; exact hne hm.symm
      have HF : Hid (ts[k] = s → hasT ts s = true) := fun he => hasT_iff.2 (he ▸ List.getElem_mem hlt)
      have hbq := beq_fd s ts[k]
      clear hcs HS
      generalize ts[k] = X at *
      by_cases hXs : X = s
      · have HF' := hide (HF.out hXs)
        have hb1 : (s.toList == X.toList) = true := by rw [hbq]; exact decide_eq_true hXs.symm
        have HXs := hide hXs
        clear HT HF hbq hXs
        go_wp2_with fail
        go_ret
        exact ⟨⟨_, rfl, by rw [HF'.out]; simp⟩, rfl⟩
      · have HT' := hide (HT.out hXs)
        have hb1 : (s.toList == X.toList) = false := by rw [hbq]; exact decide_eq_false (fun e => hXs e.symm)
        have HXs := hide hXs
        clear HT HF hbq hXs
        go_wp2_with fail
        go_round
        case rel => exact ⟨k + 1, by omega, by go_num, HT'⟩
        case measure => simp [intOf]; omega
    · have hge : ¬ ((k : Nat) : Int) < ((ts.length : Nat) : Int) := by omega
      obtain rfl : k = ts.length := by omega
      have HY : Hid (hasT ts s = false) := by have := HA.out; rw [List.take_length] at this; exact hasT_not this
      go_wp2_with fail
      go_ret
      exact ⟨⟨-1, rfl, by rw [HY.out]; rfl⟩, rfl⟩
theorem containsT_any (a : Option Addr) (cap : Nat) (ts : List ByteArray) (s : ByteArray) (w : World) (hs : TextsAt w a ts) (hn : ts.length ≤ 281474976710656) :
    Calls Tryz.prog 26 #[.slice a ts.length cap, .string s] w fun e w' => e = .returned (.bool (hasT ts s)) ∧ w' = w := by
  have HI := hide (indexT_any a cap ts s w hs hn)
  clear hs
  go_enter Tryz.func26, Tryz.ntmps26
  go_wp2_with fail
  refine HI.out.mono ?_
  rintro e w1 ⟨⟨n, rfl, hd⟩, rfl⟩
  have HD := hide hd
  clear hd
  go_wp2_with fail
  go_ret
  exact ⟨by rw [← HD.out]; rfl, rfl⟩
set_option maxRecDepth 100000 in
theorem goesP_any (b : Nat) (al : Option Addr) (cl : Nat) (l : List ByteArray) (x : Sc) (W : World) (hc : W.cell? ⟨b, 0, none⟩ = some (.slice al l.length cl)) (hl : TextsAt W al l) (hn : l.length ≤ 281474976710656) :
    Calls Tryz.prog 25 #[.agg #[.int .i64 x.1, .string x.2], .pointer (some ⟨b, 0, none⟩)] W fun e w' => e = .returned (.bool (hasT l x.2)) ∧ Below W.heap.size W w' := by
  have hbl := World.block_lt_of_cell? _ _ hc
  have hB : Below W.heap.size W (W.alloc (.cells #[.int .i64 x.1, .string x.2] 36)) := (Below.refl _ W).alloc (Nat.le_refl _) _
  have hc2 : (W.alloc (.cells #[.int .i64 x.1, .string x.2] 36)).cell? ⟨b, 0, none⟩ = some (.slice al l.length cl) := (hB.cell (p := ⟨b, 0, none⟩) hbl).trans hc
  have HN := hide (containsT_any al cl l x.2 _ (hl.below hB) hn)
  clear hl hc
  generalize hasT l x.2 = R at *
  go_enter Tryz.func25, Tryz.ntmps25
  go_wp2_with fail
  refine HN.out.mono ?_
  rintro e w1 ⟨rfl, rfl⟩
  go_wp2_with fail
  go_ret
  exact ⟨rfl, hB⟩
end Go.Proofs.YtnobcdhlagfhmaaGreat.Z
namespace Go.Proofs.YtnobcdhlagfhmaaGreat.Z
open Go.RowKit

/-- a row of pairs that may be written -/
structure RowAt (w : World) (g : Nat) (M : List Sc) : Prop where
  c : ∀ i (h : i < M.length), w.cell? ⟨g, i * 2, none⟩ = some (.int .i64 M[i].1) ∧ w.cell? ⟨g, i * 2 + 1, none⟩ = some (.string M[i].2)
  f : ∀ o, w.frozen? ⟨g, o, none⟩ = false
theorem RowAt.of {w : World} {base g cap : Nat} {M : List Sc} (h : w.ownsRow base 36 2 (.slice (some ⟨g, 0, none⟩) M.length cap) M.length (rowP M)) : RowAt w g M := by
  refine ⟨fun i hi => ?_, fun o => ?_⟩
  · obtain ⟨r1, r2⟩ := rowP_at M i hi
    exact ⟨by rw [h.cellAt _ (by omega)]; exact r1, by rw [h.cellAt _ (by omega)]; exact r2⟩
  · rcases h.2 with ⟨h, _⟩ | ⟨g', cap', cur, h, _, hg, _⟩
    · cases h
    · obtain rfl : g = g' := (by simpa using h : g = g' ∧ cap = cap').1
      simp [World.frozen?, hg]
theorem RowAt.below {w w' : World} {g : Nat} {M : List Sc} (h : RowAt w g M) (hlt : g < w.heap.size) (hb : Below w.heap.size w w') : RowAt w' g M :=
  ⟨fun i hi => ⟨(hb.cell (p := ⟨g, i * 2, none⟩) hlt).trans (h.c i hi).1, (hb.cell (p := ⟨g, i * 2 + 1, none⟩) hlt).trans (h.c i hi).2⟩, fun o => (hb.frozen (p := ⟨g, o, none⟩) hlt).trans (h.f o)⟩
theorem RowAt.set {w : World} {g : Nat} {M : List Sc} (h : RowAt w g M) (i : Nat) (hi : i < M.length) (p : Sc) : RowAt ((w.setCell ⟨g, i * 2, none⟩ (.int .i64 p.1)).setCell ⟨g, i * 2 + 1, none⟩ (.string p.2)) g (M.set i p) := by
  obtain ⟨c0, c1⟩ := h.c i hi
  refine ⟨fun j hj => ?_, fun o => ?_⟩
  · rw [List.length_set] at hj
    obtain ⟨d0, d1⟩ := h.c j hj
    have oth : ∀ (W : World) (a b : Nat) (u : Value), a ≠ b → (W.setCell ⟨g, a, none⟩ u).cell? ⟨g, b, none⟩ = W.cell? ⟨g, b, none⟩ := fun W a b u hab => World.cell?_setCell_other _ _ _ _ (by intro e; injection e with _ e; exact hab e)
    by_cases hij : i = j
    · subst hij
      rw [List.getElem_set_self]
      refine ⟨?_, ?_⟩
      · rw [oth _ _ _ _ (by omega)]
        exact World.cell?_setCell_same' _ _ _ (by rw [c0]; rfl)
      · exact World.cell?_setCell_same' _ _ _ (by rw [oth _ _ _ _ (by omega), c1]; rfl)
    · rw [List.getElem_set_ne hij]
      refine ⟨?_, ?_⟩
      · rw [oth _ _ _ _ (by omega), oth _ _ _ _ (by omega)]; exact d0
      · rw [oth _ _ _ _ (by omega), oth _ _ _ _ (by omega)]; exact d1
  · rw [World.frozen?_setCell, World.frozen?_setCell]; exact h.f o
theorem belowSetCells {n0 g : Nat} {w0 : World} (hg : n0 ≤ g) : ∀ (vs : List Value) (f : Nat) (w : World), Below n0 w0 w → Below n0 w0 (w.setCells g f vs)
  | [], _, _, h => h
  | v :: r, f, _, h => belowSetCells hg r (f + 1) _ (h.setCell (p := ⟨g, f, none⟩) hg v)
/-- clear of what is behind -/
theorem run_clear_pairs (w : World) (g f n c : Nat) (hn : 0 < n) (hc : ∀ j, j < n * 2 → (w.cell? ⟨g, f + j, none⟩).isSome = true) (hf : ∀ j, w.frozen? ⟨g, j, none⟩ = false) :
    ∃ vs : List Value, vs.length = n * 2 ∧ ∀ ty, (Builtin.clear_ #[24] ty #[.slice (some ⟨g, f, none⟩) n c]).run Tryz.prog w = .ok (.tuple #[]) (w.setCells g f vs) := by
  have hl : ((Builtin.zeroCells #[.int .i64 0, .string ⟨#[]⟩] n).toList).length = n * 2 := by rw [Array.length_toList, size_zeroCells]; rfl
  have h1 : ∀ v ∈ (Builtin.zeroCells #[.int .i64 0, .string ⟨#[]⟩] n).toList, v.oneCell' = true := by
    intro v hv
    simp [Builtin.zeroCells] at hv
    obtain ⟨i, _, rfl⟩ := hv
    have : i % 2 = 0 ∨ i % 2 = 1 := by omega
    rcases this with h | h <;> rw [h] <;> rfl
  have hst := run_storeCells_cells (P := Tryz.prog) g f (Builtin.zeroCells #[.int .i64 0, .string ⟨#[]⟩] n).toList 0 w (by rw [hl]; simpa using hc) (fun j _ => hf _) h1
  rw [Nat.add_zero] at hst
  refine ⟨_, hl, fun ty => ?_⟩
  obtain ⟨m, rfl⟩ : ∃ m, n = m + 1 := ⟨n - 1, by omega⟩
  simp [Builtin.clear_, run_underlying Tryz.underlying24, Value.cells, hst]
/-- what stays -/
def stayP (L : List Sc) (l : List ByteArray) : List Sc := L.filter fun p => !hasT l p.2
theorem stayP_len (L : List Sc) (l : List ByteArray) : (stayP L l).length ≤ L.length := List.length_filter_le _ _
theorem stay_all {L : List Sc} {l : List ByteArray} (h : ∀ x ∈ L, hasT l x.2 = false) : stayP L l = L := List.filter_eq_self.2 fun x hx => by rw [h x hx]; rfl
theorem stay_snoc (L : List Sc) (l : List ByteArray) (p : Sc) : stayP (L ++ [p]) l = if hasT l p.2 = true then stayP L l else stayP L l ++ [p] := by
  unfold stayP
  rw [List.filter_append]
  by_cases h : hasT l p.2 = true <;> simp [h]
/-- so many have been looked at, so many stay -/
structure DelAt (w0 : World) (g : Nat) (L : List Sc) (l : List ByteArray) (i j : Nat) (wr : World) : Prop where
  M : ∃ M : List Sc, M.length = L.length ∧ RowAt wr g M ∧ M.take i = stayP (L.take j) l ∧ M.drop j = L.drop j
  ij : i < j
  jn : j ≤ L.length
  b : Below w0.heap.size w0 wr
  lt : g < wr.heap.size
theorem DelAt.skip {w0 wr w' : World} {g i j : Nat} {L : List Sc} {l : List ByteArray} (h : DelAt w0 g L l i j wr) (hj : j < L.length) (hx : hasT l L[j].2 = true) (hb : Below wr.heap.size wr w') : DelAt w0 g L l i (j + 1) w' := by
  obtain ⟨M, h1, h2, h3, h4⟩ := h.M
  refine ⟨⟨M, h1, h2.below h.lt hb, ?_, ?_⟩, by have := h.ij; omega, by omega, h.b.trans (hb.mono h.b.size), Nat.lt_of_lt_of_le h.lt hb.size⟩
  · rw [h3, List.take_succ_eq_append_getElem hj, stay_snoc, if_pos hx]
  · have := congrArg (List.drop 1) h4
    rwa [List.drop_drop, List.drop_drop] at this
theorem DelAt.keep {w0 wr w' : World} {g i j : Nat} {L : List Sc} {l : List ByteArray} (h : DelAt w0 g L l i j wr) (hg : w0.heap.size ≤ g) (hj : j < L.length) (hx : hasT l L[j].2 = false) (hb : Below wr.heap.size wr w') :
    DelAt w0 g L l (i + 1) (j + 1) ((w'.setCell ⟨g, i * 2, none⟩ (.int .i64 L[j].1)).setCell ⟨g, i * 2 + 1, none⟩ (.string L[j].2)) := by
  obtain ⟨M, h1, h2, h3, h4⟩ := h.M
  have hij := h.ij
  refine ⟨⟨M.set i L[j], by rw [List.length_set, h1], (h2.below h.lt hb).set i (by omega) L[j], ?_, ?_⟩, by omega, by omega, ((h.b.trans (hb.mono h.b.size)).setCell (p := ⟨g, i * 2, none⟩) hg _).setCell (p := ⟨g, i * 2 + 1, none⟩) hg _, ?_⟩
  · rw [List.take_succ_eq_append_getElem (by rw [List.length_set]; omega), List.getElem_set_self, List.take_set_of_le (by omega), h3, List.take_succ_eq_append_getElem hj, stay_snoc, if_neg (by rw [hx]; simp)]
  · rw [List.drop_set_of_lt (by omega)]
    have := congrArg (List.drop 1) h4
    rwa [List.drop_drop, List.drop_drop] at this
  · have := Nat.lt_of_lt_of_le h.lt hb.size
    simpa [World.setCell] using this
theorem DelAt.at_ {w0 wr : World} {g i j : Nat} {L : List Sc} {l : List ByteArray} (h : DelAt w0 g L l i j wr) (hj : j < L.length) : wr.cell? ⟨g, j * 2, none⟩ = some (.int .i64 L[j].1) ∧ wr.cell? ⟨g, j * 2 + 1, none⟩ = some (.string L[j].2) ∧ (∃ u, wr.cell? ⟨g, i * 2, none⟩ = some (.int .i64 u)) ∧ (∃ u, wr.cell? ⟨g, i * 2 + 1, none⟩ = some (.string u)) ∧ (∀ o, wr.frozen? ⟨g, o, none⟩ = false) := by
  obtain ⟨M, h1, h2, h3, h4⟩ := h.M
  have hij := h.ij
  have e : M[j]'(by omega) = L[j] := by
    have := congrArg (fun z => z[0]?) h4
    simp only [List.getElem?_drop, Nat.add_zero] at this
    rw [List.getElem?_eq_getElem (by omega), List.getElem?_eq_getElem hj] at this
    exact Option.some.inj this
  obtain ⟨c0, c1⟩ := h2.c j (by omega)
  rw [e] at c0 c1
  exact ⟨c0, c1, ⟨_, (h2.c i (by omega)).1⟩, ⟨_, (h2.c i (by omega)).2⟩, h2.f⟩
set_option maxRecDepth 100000 in
set_option maxHeartbeats 4000000 in
theorem delP_any (b : Nat) (al : Option Addr) (cl : Nat) (l : List ByteArray) (g cap : Nat) (L : List Sc) (w0 w : World) (hrow : w.ownsRow w0.heap.size 36 2 (.slice (some ⟨g, 0, none⟩) L.length cap) L.length (rowP L)) (hb : Below w0.heap.size w0 w)
    (hc : w0.cell? ⟨b, 0, none⟩ = some (.slice al l.length cl)) (hl : TextsAt w0 al l) (hn : l.length ≤ 281474976710656) (hL : L.length ≤ 1000000) :
    Calls Tryz.prog 23 #[.slice (some ⟨g, 0, none⟩) L.length cap, .func (.func 25) #[] #[.pointer (some ⟨b, 0, none⟩)]] w fun e w' => e = .returned (.slice (some ⟨g, 0, none⟩) (stayP L l).length cap) ∧ PairsFrom w0.heap.size w' (some ⟨g, 0, none⟩) (stayP L l) ∧ Below w0.heap.size w0 w' := by
  have hlt := hrow.lt g rfl
  have hcap : L.length ≤ cap := by
    rcases hrow.2 with ⟨h, _⟩ | ⟨g', cap', cur, h, _, _, h1, _⟩
    · cases h
    · obtain ⟨_, rfl⟩ : g = g' ∧ cap = cap' := by simpa using h
      exact h1
  have hR := RowAt.of hrow
  have HP : Hid (ScoresAt w (some ⟨g, 0, none⟩) L) := .inr ⟨g, 0, rfl, fun i hi => by rw [Nat.zero_add]; exact hR.c i hi⟩
  have eg : ∀ args w, (callFunc 25 args).run Tryz.prog w = .ok (.enter 25 args) w := enters_of Tryz.func25 (by kernel_rfl) rfl
  have HG : Hid (∀ W (x : Sc), Below w0.heap.size w0 W → Calls Tryz.prog 25 #[.agg #[.int .i64 x.1, .string x.2], .pointer (some ⟨b, 0, none⟩)] W fun e w' => e = .returned (.bool (hasT l x.2)) ∧ Below W.heap.size W w') := fun W x hW => goesP_any b al cl l x W ((hW.cell (p := ⟨b, 0, none⟩) (World.block_lt_of_cell? _ _ hc)).trans hc) (hl.below hW) hn
  have HX : Hid (Calls Tryz.prog 27 #[.slice (some ⟨g, 0, none⟩) L.length cap, .func (.func 25) #[] #[.pointer (some ⟨b, 0, none⟩)]] w fun e w' => e = .returned (.int .i64 (idxF (fun x => hasT l x.2) L)) ∧ Below w.heap.size w w') := idxP_any 25 #[.pointer (some ⟨b, 0, none⟩)] eg (fun x => hasT l x.2) _ cap L w HP.out (by omega) (fun W x hW => (HG.out W x (hb.trans (hW.mono hb.size))).mono fun e w' ⟨h1, h2⟩ => ⟨h1, hW.trans (h2.mono hW.size)⟩)
  have HR := hide hR
  have hlo := idxF_lo (fun x : Sc => hasT l x.2) L
  have hhi := idxF_hi (fun x : Sc => hasT l x.2) L
  clear hR hrow hc hl eg
  by_cases hneg : idxF (fun x : Sc => hasT l x.2) L < 0
  · have hst : stayP L l = L := stay_all (idxF_none hneg)
    have e1 : idxF (fun x : Sc => hasT l x.2) L = -1 := by omega
    rw [e1] at HX
    rw [hst]
    clear HG hst
    go_enter Tryz.func23, Tryz.ntmps23
    go_wp2_with fail
    refine HX.out.mono ?_
    rintro e w1 ⟨rfl, hb1⟩
    go_wp2_with fail
    go_ret
    exact ⟨rfl, PairsFrom.of (HP.out.below hb1) hlt.1, hb.trans (hb1.mono hb.size)⟩
  · obtain ⟨i, hi⟩ : ∃ i : Nat, idxF (fun x : Sc => hasT l x.2) L = i := ⟨(idxF (fun x : Sc => hasT l x.2) L).toNat, by omega⟩
    obtain ⟨hil, hpi, hpj⟩ := idxF_at hi
    rw [hi] at HX
    have hst0 : stayP (L.take i) l = L.take i := stay_all fun x hx => by
      obtain ⟨j, hj, rfl⟩ := List.getElem_of_mem hx
      rw [List.getElem_take]
      exact hpj j (by simp at hj; omega)
    have HS1 : Hid (stayP (L.take (i + 1)) l = L.take i) := by
      rw [Hid, List.take_succ_eq_append_getElem hil, stay_snoc, if_pos hpi, hst0]
    clear hpi hpj hst0 hneg hlo hhi hi HP
    generalize hK : stayP L l = K
    have HK := hide hK
    clear hK
    go_enter Tryz.func23, Tryz.ntmps23
    go_wp2_with fail
    refine HX.out.mono ?_
    rintro e w1 ⟨rfl, hb1⟩
    have hB1 : Below w0.heap.size w0 w1 := hb.trans (hb1.mono hb.size)
    have HD1 : Hid (DelAt w0 g L l i (i + 1) w1) := ⟨⟨L, rfl, HR.out.below hlt.2 hb1, HS1.out.symm, rfl⟩, by omega, by omega, hB1, Nat.lt_of_lt_of_le hlt.2 hb1.size⟩
    have hi0 : ¬ ((i : Nat) : Int) = -1 := by omega
    clear HX HR HS1 hb1 hB1
    go_wp2_with fail
    go_loopw [5, 6] (fun iv jv wr => ∃ i j : Nat, iv = .int .i64 i ∧ jv = .int .i64 j ∧ DelAt w0 g L l i j wr) (fun _ jv _ => L.length - (intOf jv).toNat)
    case atStart => exact ⟨i, i + 1, rfl, by go_num, HD1.out⟩
    case round =>
      clear HD1 hil hi0
      obtain ⟨i, j, rfl, rfl, hD⟩ := hrel
      have HD := hide hD
      have hij := hD.ij
      have hjn := hD.jn
      have hzr := hD.b.size
      have hgz := hD.lt
      by_cases hj : j < L.length
      · have hj' : ((j : Nat) : Int) < ((L.length : Nat) : Int) := by omega
        have hi' : ((i : Nat) : Int) < ((L.length : Nat) : Int) := by omega
        obtain ⟨d0, d1, ⟨u0, e0⟩, ⟨u1, e1⟩, hf⟩ := hD.at_ hj
        have HSK : Hid (∀ w', hasT l L[j].2 = true → Below wr.heap.size wr w' → DelAt w0 g L l i (j + 1) w') := fun w' hx hb => HD.out.skip hj hx hb
        have HKP : Hid (∀ w', hasT l L[j].2 = false → Below wr.heap.size wr w' → DelAt w0 g L l (i + 1) (j + 1) ((w'.setCell ⟨g, i * 2, none⟩ (.int .i64 L[j].1)).setCell ⟨g, i * 2 + 1, none⟩ (.string L[j].2))) := fun w' hx hb => HD.out.keep hlt.1 hj hx hb
        have hDb := hD.b
        clear hD HD
        generalize L[j] = X at *
        obtain ⟨X1, X2⟩ := X
        go_wp2_with fail
        refine (HG.out _ (X1, X2) (hDb.alloc hDb.size _)).mono ?_
        rintro e w2 ⟨rfl, hb2⟩
        have hB2 : Below wr.heap.size wr w2 := ((Below.refl _ wr).alloc (Nat.le_refl _) _).trans (hb2.mono (by simp))
        have v0 : w2.cell? ⟨wr.heap.size, 0, none⟩ = some (.int .i64 X1) := (hb2.cell (p := ⟨wr.heap.size, 0, none⟩) (by simp)).trans (by simp [go_sem])
        have v1 : w2.cell? ⟨wr.heap.size, 1, none⟩ = some (.string X2) := (hb2.cell (p := ⟨wr.heap.size, 1, none⟩) (by simp)).trans (by simp [go_sem])
        have t0 : w2.cell? ⟨g, i * 2, none⟩ = some (.int .i64 u0) := (hB2.cell (p := ⟨g, i * 2, none⟩) hgz).trans e0
        have t1 : w2.cell? ⟨g, i * 2 + 1, none⟩ = some (.string u1) := (hB2.cell (p := ⟨g, i * 2 + 1, none⟩) hgz).trans e1
        have f0 : w2.frozen? ⟨g, i * 2, none⟩ = false := (hB2.frozen (p := ⟨g, i * 2, none⟩) hgz).trans (hf _)
        have f1 : w2.frozen? ⟨g, i * 2 + 1, none⟩ = false := (hB2.frozen (p := ⟨g, i * 2 + 1, none⟩) hgz).trans (hf _)
        clear hb2 d0 d1 e0 e1 hf hDb HG
        dsimp only
        cases hx : hasT l X2 with
        | true =>
          have HSK2 := hide (HSK.out w2 hx hB2)
          clear HSK HKP hx v0 v1 t0 t1 f0 f1
          go_wp2_with fail
          go_roundw
          case rel =>
            exact ⟨.int .i64 (i : Int), .int .i64 ((j : Int) + 1), _, _, _, _, _, _, _, _, _, _, _, _, _, _, _, _, _, _, _, _, _, ⟨i, j + 1, rfl, by simp, HSK2.out⟩, rfl⟩
          case measure => simp [intOf]; omega
        | false =>
          have HKP2 := hide (HKP.out w2 hx hB2)
          clear HSK HKP hx
          go_wp2_with fail
          go_roundw
          case rel =>
            exact ⟨.int .i64 ((i : Int) + 1), .int .i64 ((j : Int) + 1), _, _, _, _, _, _, _, _, _, _, _, _, _, _, _, _, _, _, _, _, _, ⟨i + 1, j + 1, by simp, by simp, HKP2.out⟩, rfl⟩
          case measure => simp [intOf]; omega
      · have hj' : ¬ ((j : Nat) : Int) < ((L.length : Nat) : Int) := by omega
        obtain rfl : j = L.length := by omega
        obtain ⟨M, m1, m2, m3, -⟩ := hD.M
        rw [List.take_length, HK.out] at m3
        have hki : K.length = i := by rw [← m3, List.length_take]; omega
        have hDb := hD.b
        have hcell : ∀ q, q < (L.length - i) * 2 → (wr.cell? ⟨g, i * 2 + q, none⟩).isSome = true := fun q hq => by
          obtain ⟨c0, c1⟩ := m2.c (i + q / 2) (by omega)
          by_cases hm : q % 2 = 0
          · rw [show i * 2 + q = (i + q / 2) * 2 by omega, c0]; rfl
          · rw [show i * 2 + q = (i + q / 2) * 2 + 1 by omega, c1]; rfl
        have hfro := m2.f
        have HR : Hid (∀ vs : List Value, vs.length = (L.length - i) * 2 → PairsFrom w0.heap.size (wr.setCells g (i * 2) vs) (some ⟨g, 0, none⟩) K ∧ Below w0.heap.size w0 (wr.setCells g (i * 2) vs)) := fun vs hvs => by
          refine ⟨PairsFrom.of (.inr ⟨g, 0, rfl, fun q hq => ?_⟩) hlt.1, ?_⟩
          · obtain ⟨c0, c1⟩ := m2.c q (by omega)
            have e : M[q]'(by omega) = K[q] := by
              have := congrArg (fun z => z[q]?) m3
              simp only [List.getElem?_take] at this
              rw [if_pos (by omega), List.getElem?_eq_getElem (by omega), List.getElem?_eq_getElem hq] at this
              exact Option.some.inj this
            rw [e] at c0 c1
            rw [Nat.zero_add]
            exact ⟨by rw [World.cell?_setCells_out g vs _ _ _ (fun _ _ => .inl (by simp only; omega))]; exact c0, by rw [World.cell?_setCells_out g vs _ _ _ (fun _ _ => .inl (by simp only; omega))]; exact c1⟩
          · exact belowSetCells hlt.1 _ _ _ hDb
        have hi' : ((i : Nat) : Int) ≤ ((L.length : Nat) : Int) := by omega
        have hic : ((i : Nat) : Int) ≤ ((cap : Nat) : Int) := by omega
        clear HG HK m1 m2 m3 hDb hD HD
        obtain ⟨vs, hvs, hrun⟩ := run_clear_pairs wr g (i * 2) (L.length - i) (cap - i) (by omega) hcell hfro
        obtain ⟨h8, h9⟩ := HR.out vs hvs
        have H8 := hide h8
        clear HR h8 hcell hfro hvs
        generalize wr.setCells g (i * 2) vs = W9 at *
        go_wp2_with fail
        go_ret
        exact ⟨rfl, H8.out, h9⟩
end Go.Proofs.YtnobcdhlagfhmaaGreat.Z
namespace Go.Proofs.YtnobcdhlagfhmaaGreat.Z
open Go.RowKit

set_option maxRecDepth 100000 in
theorem delNoneP_any (a : Option Addr) (cap : Nat) (fv : Value) (w : World) :
    Calls Tryz.prog 23 #[.slice a 0 cap, fv] w fun e w' => e = .returned (.slice a 0 cap) ∧ w' = w := by
  have HI := hide (idxP_none a cap fv w)
  go_enter Tryz.func23, Tryz.ntmps23
  go_wp2_with fail
  refine HI.out.mono ?_
  rintro e w1 ⟨rfl, rfl⟩
  go_wp2_with fail
  go_ret
  exact ⟨rfl, rfl⟩
/-- what Drop answers -/
def dropI (x : Itm) (l : List ByteArray) : Itm := if asI x 5 = 0 then kindS (stayP x.s l) else Itm.none
def dropN (x : Itm) (l : List ByteArray) : Int := if asI x 5 = 0 then ((x.s.length : Nat) : Int) - (((stayP x.s l).length : Nat) : Int) else 0
set_option maxRecDepth 100000 in
set_option maxHeartbeats 4000000 in
theorem scoreDrop_any (v : Value) (x : Itm) (al : Option Addr) (cl : Nat) (l : List ByteArray) (w : World) (h : ItemIs w v x) (hl : TextsAt w al l) (hll : l.length ≤ 281474976710656) :
    Calls Tryz.prog 5 #[v, .slice al l.length cl] w fun e w' => ∃ u, e = .returned (.tuple #[u, .int .i64 (dropN x l), .int .i64 (asI x 5)]) ∧ ItemFrom w.heap.size w' u (dropI x l) ∧ Below w.heap.size w w' := by
  have HC : Hid (∀ W, Below w.heap.size w W → Calls Tryz.prog 19 #[v, .int .i64 5] W fun e w' => e = .returned (.int .i64 (asI x 5)) ∧ Below W.heap.size W w') := fun W hW => common_any v x 5 W (h.below hW)
  obtain ⟨⟨a1, c1, a2, c2, a3, c3, rfl, -, -, hx2⟩, tz, -, -, pz, -, -, -⟩ := h
  by_cases h0 : asI x 5 = 0
  · have hx24 := (asI_score h0).n
    rw [dropI, if_pos h0, dropN, if_pos h0, h0]
    rw [h0] at HC
    have HX := hide hx2
    have HL := hide hl
    have HZ : Hid (∀ t ∈ stayP x.s l, t.2.size ≤ maxLen) := fun t ht => pz t (List.mem_filter.1 ht).1
    have HCL : Hid (∀ W, Below w.heap.size w W → Calls Tryz.prog 24 #[.slice a3 x.s.length c3] W fun e w' => ∃ a' cap, e = .returned (.slice a' x.s.length cap) ∧ Below W.heap.size W w' ∧ ∀ b, W.cell? ⟨b, 0, none⟩ = some (.slice al l.length cl) → Calls Tryz.prog 23 #[.slice a' x.s.length cap, .func (.func 25) #[] #[.pointer (some ⟨b, 0, none⟩)]] w' fun e w'' => e = .returned (.slice a' (stayP x.s l).length cap) ∧ PairsFrom W.heap.size w'' a' (stayP x.s l) ∧ Below W.heap.size W w'') := fun W hW => (cloneP_any a3 c3 x.s W (HX.out.below hW) (by omega)).mono fun e w' ⟨u, h1, h2, h3⟩ => by
      rcases h2.2 with ⟨rfl, h0⟩ | ⟨g, cap, cur, rfl, hrest⟩
      · have e0 : x.s = [] := List.eq_nil_of_length_eq_zero h0
        refine ⟨none, 0, by rw [h1, h0], h3, fun b hc => ?_⟩
        rw [e0]
        exact (delNoneP_any none 0 _ w').mono fun e w'' ⟨k1, k2⟩ => ⟨k1, PairsFrom.none _ _ _, k2 ▸ h3⟩
      · exact ⟨some ⟨g, 0, none⟩, cap, h1, h3, fun b hc => delP_any b al cl l g cap x.s W w' h2 h3 hc (HL.out.below hW) hll (by omega)⟩
    have hkl := stayP_len x.s l
    clear h0 hx2 hl pz HX HL
    generalize stayP x.s l = K at *
    generalize x.l.length = n1 at *
    generalize x.t = t at *
    generalize x.k = k at *
    generalize x.s.length = n2 at *
    generalize x.p.length = n3 at *
    go_enter Tryz.func5, Tryz.ntmps5
    go_wp2_with fail
    refine (HC.out _ ((((Below.refl _ w).alloc (Nat.le_refl _) _).alloc (by simp) _).alloc (by simp; omega) _)).mono ?_
    rintro e w1 ⟨rfl, hb1⟩
    obtain ⟨hc, hf⟩ := bcell hb1
    have hz : w.heap.size + 2 < w1.heap.size := by have := hb1.size; simp at this; omega
    have hB1 : Below w.heap.size w w1 := ((((Below.refl _ w).alloc (Nat.le_refl _) _).alloc (by simp) _).alloc (by simp; omega) _).trans (hb1.mono (by simp; omega))
    have y0 : w.heap.size < w1.heap.size := by omega
    have y1 : w.heap.size + 1 < w1.heap.size := by omega
    go_wp2_with fail
    refine (HCL.out _ hB1).mono ?_
    rintro e w2 ⟨a', cap, rfl, hb2, HD⟩
    have HDD := hide (HD (w.heap.size + 1) ((hc _ _ (by simp)).trans (by simp [go_sem])))
    clear HD HCL HC
    have z2 := hb2.size
    go_wp2_with fail
    refine HDD.out.mono ?_
    rintro e w3 ⟨rfl, hT, hb3⟩
    have HT := hide hT
    clear hT HDD hb2
    have z3 := hb3.size
    have B3 : Below w.heap.size w w3 := hB1.trans (hb3.mono hB1.size)
    obtain ⟨fk, fa, fn, fc, ho, hi⟩ := scoreOf_item (p := fun W' => ∀ g o u, w1.heap.size ≤ g → w3.cell? ⟨g, o, none⟩ = some u → W'.cell? ⟨g, o, none⟩ = some u) (cp := cap) HT.out HZ.out (by omega)
    have HO := hide ho
    have HI := hide hi
    clear ho hi HT HZ
    have HBX : Hid (∀ W, Below w1.heap.size w1 W → (W.cell? ⟨w.heap.size + 2, 0, none⟩ = some (.int .i64 0) ∧ W.cell? ⟨w.heap.size + 2, 1, none⟩ = some (.string ⟨#[]⟩) ∧ W.cell? ⟨w.heap.size + 2, 2, none⟩ = some (.slice none 0 0) ∧ W.cell? ⟨w.heap.size + 2, 3, none⟩ = some (.slice none 0 0) ∧ W.cell? ⟨w.heap.size + 2, 4, none⟩ = some (.slice none 0 0)) ∧ (∀ j, W.frozen? ⟨w.heap.size + 2, j, none⟩ = false) ∧ W.cell? ⟨w.heap.size, 4, none⟩ = some (.slice a3 n2 c3)) := fun W hW =>
      ⟨⟨(hW.cell (p := ⟨w.heap.size + 2, 0, none⟩) hz).trans ((hc _ _ (by simp)).trans (by simp [go_sem])), (hW.cell (p := ⟨w.heap.size + 2, 1, none⟩) hz).trans ((hc _ _ (by simp)).trans (by simp [go_sem])), (hW.cell (p := ⟨w.heap.size + 2, 2, none⟩) hz).trans ((hc _ _ (by simp)).trans (by simp [go_sem])), (hW.cell (p := ⟨w.heap.size + 2, 3, none⟩) hz).trans ((hc _ _ (by simp)).trans (by simp [go_sem])), (hW.cell (p := ⟨w.heap.size + 2, 4, none⟩) hz).trans ((hc _ _ (by simp)).trans (by simp [go_sem]))⟩, fun j => (hW.frozen (p := ⟨w.heap.size + 2, j, none⟩) hz).trans ((hf _ _ (by simp)).trans (by simp [go_sem])), (hW.cell (p := ⟨w.heap.size, 4, none⟩) y0).trans ((hc _ _ (by simp; omega)).trans (by simp [go_sem]))⟩
    obtain ⟨-, -, x2⟩ := HBX.out w3 hb3
    have hbd : Below w1.heap.size w1 w3.drew := hb3.drew
    have nn1 : w3.heap.size ≠ w.heap.size + 2 := by omega
    have nn2 : w.heap.size + 2 ≠ w3.heap.size := by omega
    have nn3 : w.heap.size ≠ w.heap.size + 1 + 1 := by omega
    have nn4 : w.heap.size + 1 + 1 ≠ w.heap.size := by omega
    have nn5 : ¬ w.heap.size = w.heap.size + 1 + 1 := by omega
    have hwr := wrap_small (((n2 : Nat) : Int) - ((K.length : Nat) : Int)) (by omega) (by omega)
    have hzl := hb3.size
    have hz1 := hB1.size
    clear hc hf hb1
    go_wp2_with fail
    go_region_held3 (fun w' => w'.cell? ⟨w.heap.size, 4, none⟩ = some (.slice a3 n2 c3)) (go_keep)
      ((go_at_call 22; refine (HO.out _).mono ?_; rintro e w9 ⟨rfl, hb9⟩; have hb9' : Below w1.heap.size w1 w9 := hbd.trans (hb9.mono hzl); obtain ⟨⟨b0, b1, b2, b3, b4⟩, fz, x3⟩ := HBX.out w9 hb9'; have fz0 := fz 0; have fz1 := fz 1; have fz2 := fz 2; have fz3 := fz 3; have fz4 := fz 4))
    all_goals
      go_wp2_with fail
      refine bodyPost_ret (v := .tuple #[.agg #[.int .i64 fk, .string ⟨#[]⟩, .slice none 0 0, .slice none 0 0, .slice fa fn fc], .int .i64 (((n2 : Nat) : Int) - ((K.length : Nat) : Int)), .int .i64 0]) (by simp [results, Tryz.results5, go_sem, b0, b1, b2, b3, b4]) rfl ⟨_, rfl, ?_, ?_⟩
      · exact fun w'' hw => HI.out w'' (fun g' o' u' hg hu => hw g' o' u' (by omega) ((five_apart w9 (w.heap.size + 2) _ _ _ _ _ g' o' (by omega)).trans ((hb9.cell (p := ⟨g', o', none⟩) (World.block_lt_of_cell? w3 _ hu)).trans hu)))
      · have hb9'' := hB1.trans (hb9'.mono hz1)
        go_grown
  · rw [dropI, dropN, if_neg h0, if_neg h0]
    have h0' : (asI x 5 == 0) = false := by rw [beq_eq_false_iff_ne]; exact h0
    clear hx2 hl
    generalize asI x 5 = E at *
    generalize x.l = L at *
    generalize x.t = t at *
    generalize x.k = k at *
    generalize x.s.length = n2 at *
    generalize x.p.length = n3 at *
    go_enter Tryz.func5, Tryz.ntmps5
    go_wp2_with fail
    refine (HC.out _ ((((Below.refl _ w).alloc (Nat.le_refl _) _).alloc (by simp) _).alloc (by simp; omega) _)).mono ?_
    rintro e w1 ⟨rfl, hb1⟩
    obtain ⟨hc, hf⟩ := bcell hb1
    have hz : w.heap.size + 2 < w1.heap.size := by have := hb1.size; simp at this; omega
    have hB1 : Below w.heap.size w w1 := ((((Below.refl _ w).alloc (Nat.le_refl _) _).alloc (by simp) _).alloc (by simp; omega) _).trans (hb1.mono (by simp; omega))
    go_wp2_with fail
    refine bodyPost_ret (v := .tuple #[.agg #[.int .i64 0, .string ⟨#[]⟩, .slice none 0 0, .slice none 0 0, .slice none 0 0], .int .i64 0, .int .i64 E]) (by simp [results, Tryz.results5, go_sem, hc]) rfl ⟨_, rfl, fun w'' _ => zero_is w'', ?_⟩
    go_grown
end Go.Proofs.YtnobcdhlagfhmaaGreat.Z
